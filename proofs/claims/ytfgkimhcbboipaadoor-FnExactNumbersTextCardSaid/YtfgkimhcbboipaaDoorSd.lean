/- Seeds: what the smallest functions on them return, of the code and of its model. -/
import Derived.Test.YtfgkimhcbboipaaDoorChecked
import Derived.Test.YtfgkimhcbboipaaDoorMm
import Derived.Laws.StructEq
import Derived.RegionTactic
import Derived.Outline
import Derived.Deep.QuietTactic
import Derived.BigQuiet
import Derived.Deep.RegionLaw
namespace Go.Proofs.YtfgkimhcbboipaaDoor
open Go Go.RowKit
set_option linter.unusedVariables false

abbrev sdC (k : Int) (a b : Nat) : Array Value := #[.int .i64 k, .int .u64 (a : Int), .int .u64 (b : Int)]
abbrev sd (k : Int) (a b : Nat) : Value := .agg (sdC k a b)

theorem quiet_same {P : Program} {f : FuncId} {args : Array Value} {w : World} {n : Nat} {v : Value}
    (h : Calls P f args (w.drewN n) fun e w' => e = .returned v ∧ w.drewN n = w') : Calls P f args (w.drewN n) fun e w'' => e = .returned v ∧ ∃ m, w'' = w.drewN m :=
  h.mono fun _ _ ⟨he, hm⟩ => ⟨he, n, hm.symm⟩

/-- Is the seed valid? -/
def vSeed (k : Int) (a b : Nat) : Bool := if k = 0 then decide (b % 2 = 1) else if k = 1 then decide (a ≠ 0) else if k = 2 then true else if k = 3 then decide (a ≠ 0 ∨ b ≠ 0) else false

theorem ValidSeed_any (k : Int) (a b : Nat) (w : World) :
    Calls Tryd.prog 77 #[sd k a b] w (fun e w' => e = .returned (.bool (vSeed k a b)) ∧ w.alloc (.cells (sdC k a b) 53) = w') := by
  go_enter Tryd.func77, Tryd.ntmps77
  go_wp2
  all_goals
    go_ret
    refine ⟨?_, by first | rfl | simp_all⟩
    simp_all [vSeed]
    try (rw [Bool.eq_iff_iff]; simp <;> omega)
theorem l02Is_any (g : Nat) (k : Int) (a b : Nat) (w : World) (hw : Whole w g 53 (sdC k a b)) :
    Calls Tryd.prog 75 #[.pointer (some ⟨g, 0, none⟩)] w (fun e w' => e = .returned (.bool (vSeed k a b)) ∧ w = w') := by
  have c0 : w.cell? ⟨g, 0, none⟩ = some (.int .i64 k) := hw.cell 0
  have c1 : w.cell? ⟨g, 1, none⟩ = some (.int .u64 a) := hw.cell 1
  have c2 : w.cell? ⟨g, 2, none⟩ = some (.int .u64 b) := hw.cell 2
  clear hw
  go_enter Tryd.func75, Tryd.ntmps75
  go_wp2
  all_goals
    go_ret
    refine ⟨?_, rfl⟩
    simp_all [vSeed]
    try (rw [Bool.eq_iff_iff]; simp <;> omega)
/-- The next seed, and its word. -/
def nextN (k : Int) (a b : Nat) : Nat × Nat × Nat :=
  if k = 0 then ((6364136223846793005 * a + b) % 18446744073709551616, b, (6364136223846793005 * a + b) % 18446744073709551616 / 4294967296)
  else if k = 1 then (sh1 a, b, sh1 a * 2685821657736338717 % 18446744073709551616 / 4294967296)
  else if k = 2 then ((a + 11400714819323198485) % 18446744073709551616, b, mixN (((a + 11400714819323198485) % 18446744073709551616 + b) % 18446744073709551616) / 4294967296)
  else (rotN a 16777216 1099511627776 ^^^ (a ^^^ b) ^^^ (a ^^^ b) * 65536 % 18446744073709551616, rotN (a ^^^ b) 137438953472 134217728, (a + b) % 18446744073709551616 / 4294967296)
def nxA (k : Int) (a b : Nat) : Nat := (nextN k a b).1
def nxB (k : Int) (a b : Nat) : Nat := (nextN k a b).2.1
def nxW (k : Int) (a b : Nat) : Nat := (nextN k a b).2.2

/-- The next seed and the word; in memory two seeds of the call's own. -/
def StepX (k : Int) (a b : Nat) (w : World) (e : Ending) (w' : World) : Prop :=
  e = .returned (.tuple #[sd k (nxA k a b) (nxB k a b), .int .i64 (nxW k a b)]) ∧ (w.alloc (.cells (sdC k (nxA k a b) (nxB k a b)) 53)).alloc (.cells (sdC k (nxA k a b) (nxB k a b)) 53) = w'
theorem nxA_lt (k : Int) (a b : Nat) (hk : 0 ≤ k ∧ k ≤ 3) (ha : a < 18446744073709551616) (hb : b < 18446744073709551616) : nxA k a b < 18446744073709551616 := by
  obtain rfl | rfl | rfl | rfl : k = 0 ∨ k = 1 ∨ k = 2 ∨ k = 3 := by omega
  · exact mod_lt64 _
  · exact sh1_lt a ha
  · exact mod_lt64 _
  · exact xor_lt (xor_lt (rotN_lt _ _ _ ha) (xor_lt ha hb)) (mod_lt64 _)
theorem nxB_lt (k : Int) (a b : Nat) (hk : 0 ≤ k ∧ k ≤ 3) (ha : a < 18446744073709551616) (hb : b < 18446744073709551616) : nxB k a b < 18446744073709551616 := by
  obtain rfl | rfl | rfl | rfl : k = 0 ∨ k = 1 ∨ k = 2 ∨ k = 3 := by omega
  · exact hb
  · exact hb
  · exact hb
  · exact rotN_lt _ _ _ (xor_lt ha hb)
theorem nxW_lt (k : Int) (a b : Nat) (hk : 0 ≤ k ∧ k ≤ 3) : nxW k a b < 4294967296 := by
  obtain rfl | rfl | rfl | rfl : k = 0 ∨ k = 1 ∨ k = 2 ∨ k = 3 := by omega
  all_goals simp only [nxW, nextN]
  · have := mod_lt64 (6364136223846793005 * a + b); simp; omega
  · have := mod_lt64 (sh1 a * 2685821657736338717); simp; omega
  · have := mixN_lt (((a + 11400714819323198485) % 18446744073709551616 + b) % 18446744073709551616); show mixN _ / 4294967296 < 4294967296; omega
  · have := mod_lt64 (a + b); simp; omega

/-- The word, and the seed behind the pointer turned to the next one. -/
def Stepped (g : Nat) (k : Int) (a b : Nat) (w : World) (e : Ending) (w' : World) : Prop :=
  e = .returned (.int .u32 (nxW k a b)) ∧ Whole w' g 53 (sdC k (nxA k a b) (nxB k a b)) ∧ w.grownBy w' (some g)

end Go.Proofs.YtfgkimhcbboipaaDoor
