/- Seeds: what the smallest functions on them return, of the code and of its model. -/
import Derived.Test.YtfbllggnndodoaaChecked
import Derived.Test.YtfbllggnndodoaaMm
import Derived.Laws.StructEq
import Derived.RegionTactic
import Derived.Outline
import Derived.Deep.QuietTactic
import Derived.BigQuiet
import Derived.Deep.RegionLaw
namespace Go.Proofs.Ytfbllggnndodoaa
open Go Go.RowKit
set_option linter.unusedVariables false

abbrev sdC (k : Int) (a b : Nat) : Array Value := #[.int .i64 k, .int .u64 (a : Int), .int .u64 (b : Int)]
abbrev sd (k : Int) (a b : Nat) : Value := .agg (sdC k a b)

theorem quiet_same {P : Program} {f : FuncId} {args : Array Value} {w : World} {n : Nat} {v : Value}
    (h : Calls P f args (w.drewN n) fun e w' => e = .returned v ∧ w.drewN n = w') : Calls P f args (w.drewN n) fun e w'' => e = .returned v ∧ ∃ m, w'' = w.drewN m :=
  h.mono fun _ _ ⟨he, hm⟩ => ⟨he, n, hm.symm⟩

/-- Is the seed valid? -/
def vSeed (k : Int) (a b : Nat) : Bool := if k = 0 then decide (b % 2 = 1) else if k = 1 then decide (a ≠ 0) else if k = 2 then true else if k = 3 then decide (a ≠ 0 ∨ b ≠ 0) else false

/-- The next seed, and its word. -/
def nextN (k : Int) (a b : Nat) : Nat × Nat × Nat :=
  if k = 0 then ((6364136223846793005 * a + b) % 18446744073709551616, b, (6364136223846793005 * a + b) % 18446744073709551616 / 4294967296)
  else if k = 1 then (sh1 a, b, sh1 a * 2685821657736338717 % 18446744073709551616 / 4294967296)
  else if k = 2 then ((a + 11400714819323198485) % 18446744073709551616, b, mixN (((a + 11400714819323198485) % 18446744073709551616 + b) % 18446744073709551616) / 4294967296)
  else (rotN a 16777216 1099511627776 ^^^ (a ^^^ b) ^^^ (a ^^^ b) * 65536 % 18446744073709551616, rotN (a ^^^ b) 137438953472 134217728, (a + b) % 18446744073709551616 / 4294967296)
def nxA (k : Int) (a b : Nat) : Nat := (nextN k a b).1
def nxB (k : Int) (a b : Nat) : Nat := (nextN k a b).2.1
def nxW (k : Int) (a b : Nat) : Nat := (nextN k a b).2.2

theorem nxA_lt (k : Int) (a b : Nat) (hk : 0 ≤ k ∧ k ≤ 3) (ha : a < 18446744073709551616) (hb : b < 18446744073709551616) : nxA k a b < 18446744073709551616 := by
  obtain rfl | rfl | rfl | rfl : k = 0 ∨ k = 1 ∨ k = 2 ∨ k = 3 := by omega
  · exact mod_lt64 _
  · exact sh1_lt a ha
  · exact mod_lt64 _
  · exact xor_lt (xor_lt (rotN_lt _ _ _ ha) (xor_lt ha hb)) (mod_lt64 _)
theorem nxB_lt (k : Int) (a b : Nat) (hk : 0 ≤ k ∧ k ≤ 3) (ha : a < 18446744073709551616) (hb : b < 18446744073709551616) : nxB k a b < 18446744073709551616 := by
  obtain rfl | rfl | rfl | rfl : k = 0 ∨ k = 1 ∨ k = 2 ∨ k = 3 := by omega
  · exact hb
  · exact hb
  · exact hb
  · exact rotN_lt _ _ _ (xor_lt ha hb)
theorem nxW_lt (k : Int) (a b : Nat) (hk : 0 ≤ k ∧ k ≤ 3) : nxW k a b < 4294967296 := by
  obtain rfl | rfl | rfl | rfl : k = 0 ∨ k = 1 ∨ k = 2 ∨ k = 3 := by omega
  all_goals simp only [nxW, nextN]
  · have := mod_lt64 (6364136223846793005 * a + b); simp; omega
  · have := mod_lt64 (sh1 a * 2685821657736338717); simp; omega
  · have := mixN_lt (((a + 11400714819323198485) % 18446744073709551616 + b) % 18446744073709551616); show mixN _ / 4294967296 < 4294967296; omega
  · have := mod_lt64 (a + b); simp; omega


end Go.Proofs.Ytfbllggnndodoaa
