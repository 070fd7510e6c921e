/- Seeds: what the smallest functions on them return, of the code and of its model. -/
import Derived.Test.YticmnkgcolgpaaaChecked
import Derived.Test.YticmnkgcolgpaaaMm
import Derived.Laws.StructEq
import Derived.RegionTactic
import Derived.Outline
import Derived.Deep.QuietTactic
import Derived.BigQuiet
import Derived.Deep.RegionLaw
namespace Go.Proofs.Yticmnkgcolgpaaa
open Go Go.RowKit
set_option linter.unusedVariables false

abbrev sdC (k : Int) (a b : Nat) : Array Value := #[.int .i64 k, .int .u64 (a : Int), .int .u64 (b : Int)]
abbrev sd (k : Int) (a b : Nat) : Value := .agg (sdC k a b)

theorem quiet_same {P : Program} {f : FuncId} {args : Array Value} {w : World} {n : Nat} {v : Value}
    (h : Calls P f args (w.drewN n) fun e w' => e = .returned v ∧ w.drewN n = w') : Calls P f args (w.drewN n) fun e w'' => e = .returned v ∧ ∃ m, w'' = w.drewN m :=
  h.mono fun _ _ ⟨he, hm⟩ => ⟨he, n, hm.symm⟩

/-- Is the seed valid? -/
def vSeed (k : Int) (a b : Nat) : Bool := if k = 0 then decide (b % 2 = 1) else if k = 1 then decide (a ≠ 0) else if k = 2 then true else if k = 3 then decide (a ≠ 0 ∨ b ≠ 0) else false

theorem MixWord_any (x : Nat) (hx : x < 18446744073709551616) (w : World) :
    Calls Try.prog 130 #[.int .u64 (x : Int)] w (fun e w' => e = .returned (.int .u64 (mixN x : Nat)) ∧ w = w') := by
  have H := Lib.hid (mix_walk x hx)
  go_enter Try.func130, Try.ntmps130
  go_wp2
  go_ret
  exact ⟨by simp [H.out], rfl⟩
theorem l02Mix_any (x : Nat) (hx : x < 18446744073709551616) (w : World) :
    Calls Try.prog 111 #[.int .u64 (x : Int)] w (fun e w' => e = .returned (.int .u64 (mixN x : Nat)) ∧ w = w') := by
  have H := Lib.hid (mix_walk x hx)
  go_enter Try.func111, Try.ntmps111
  go_wp2
  go_ret
  exact ⟨by simp [H.out], rfl⟩
theorem ValidSeed_any (k : Int) (a b : Nat) (w : World) :
    Calls Try.prog 58 #[sd k a b] w (fun e w' => e = .returned (.bool (vSeed k a b)) ∧ w.alloc (.cells (sdC k a b) 31) = w') := by
  go_enter Try.func58, Try.ntmps58
  go_wp2
  all_goals
    go_ret
    refine ⟨?_, by first | rfl | simp_all⟩
    simp_all [vSeed]
    try (rw [Bool.eq_iff_iff]; simp <;> omega)
theorem l02Is_any (g : Nat) (k : Int) (a b : Nat) (w : World) (hw : Whole w g 31 (sdC k a b)) :
    Calls Try.prog 56 #[.pointer (some ⟨g, 0, none⟩)] w (fun e w' => e = .returned (.bool (vSeed k a b)) ∧ w = w') := by
  have c0 : w.cell? ⟨g, 0, none⟩ = some (.int .i64 k) := hw.cell 0
  have c1 : w.cell? ⟨g, 1, none⟩ = some (.int .u64 a) := hw.cell 1
  have c2 : w.cell? ⟨g, 2, none⟩ = some (.int .u64 b) := hw.cell 2
  clear hw
  go_enter Try.func56, Try.ntmps56
  go_wp2
  all_goals
    go_ret
    refine ⟨?_, rfl⟩
    simp_all [vSeed]
    try (rw [Bool.eq_iff_iff]; simp <;> omega)
/-- The next seed, and its word. -/
def nextN (k : Int) (a b : Nat) : Nat × Nat × Nat :=
  if k = 0 then ((6364136223846793005 * a + b) % 18446744073709551616, b, (6364136223846793005 * a + b) % 18446744073709551616 / 4294967296)
  else if k = 1 then (sh1 a, b, sh1 a * 2685821657736338717 % 18446744073709551616 / 4294967296)
  else if k = 2 then ((a + 11400714819323198485) % 18446744073709551616, b, mixN (((a + 11400714819323198485) % 18446744073709551616 + b) % 18446744073709551616) / 4294967296)
  else (rotN a 16777216 1099511627776 ^^^ (a ^^^ b) ^^^ (a ^^^ b) * 65536 % 18446744073709551616, rotN (a ^^^ b) 137438953472 134217728, (a + b) % 18446744073709551616 / 4294967296)
def nxA (k : Int) (a b : Nat) : Nat := (nextN k a b).1
def nxB (k : Int) (a b : Nat) : Nat := (nextN k a b).2.1
def nxW (k : Int) (a b : Nat) : Nat := (nextN k a b).2.2

theorem rot24 (x : Nat) (hx : x < 18446744073709551616) (w : World) :
    Calls Try.prog 131 #[.int .u64 x, .int .i64 24] w (fun e w' => e = .returned (.int .u64 (rotN x 16777216 1099511627776 : Nat)) ∧ w = w') := by
  have h1 : bits .and .u64 24 63 = 24 := by kernel_rfl
  have h2 : bits .or .u64 (IntKind.u64.wrap (↑x * 16777216)) (↑x / 1099511627776) = (rotN x 16777216 1099511627776 : Int) := rot_a x 16777216 1099511627776 hx
  go_enter Try.func131, Try.ntmps131
  go_wp2
  go_ret
  exact ⟨rfl, rfl⟩
theorem rot37 (x : Nat) (hx : x < 18446744073709551616) (w : World) :
    Calls Try.prog 131 #[.int .u64 x, .int .i64 37] w (fun e w' => e = .returned (.int .u64 (rotN x 137438953472 134217728 : Nat)) ∧ w = w') := by
  have h1 : bits .and .u64 37 63 = 37 := by kernel_rfl
  have h2 : bits .or .u64 (IntKind.u64.wrap (↑x * 137438953472)) (↑x / 134217728) = (rotN x 137438953472 134217728 : Int) := rot_a x 137438953472 134217728 hx
  go_enter Try.func131, Try.ntmps131
  go_wp2
  go_ret
  exact ⟨rfl, rfl⟩
/-- The next seed and the word; in memory two seeds of the call's own. -/
def StepX (k : Int) (a b : Nat) (w : World) (e : Ending) (w' : World) : Prop :=
  e = .returned (.tuple #[sd k (nxA k a b) (nxB k a b), .int .i64 (nxW k a b)]) ∧ (w.alloc (.cells (sdC k (nxA k a b) (nxB k a b)) 31)).alloc (.cells (sdC k (nxA k a b) (nxB k a b)) 31) = w'
theorem stepSeed_0 (a b : Nat) (w : World) (ha : a < 18446744073709551616) (hb : b < 18446744073709551616) :
    Calls Try.prog 113 #[sd 0 a b] w (StepX 0 a b w) := by
  have h1 : IntKind.u64.wrap (IntKind.u64.wrap (6364136223846793005 * ↑a) + ↑b) = (nxA 0 a b : Int) := by
    show _ = (((6364136223846793005 * a + b) % 18446744073709551616 : Nat) : Int); rw [IntKind.wrap_u64, IntKind.wrap_u64]; omega
  have h3 : (nxA 0 a b : Int) / 4294967296 = nxW 0 a b := rfl
  have hl : 0 ≤ (nxW 0 a b : Int) ∧ (nxW 0 a b : Int) < 4294967296 := top_word _ (mod_lt64 _)
  have h4 : nxB 0 a b = b := rfl
  have H4 := Lib.hid h4
  clear h4
  go_enter Try.func113, Try.ntmps113
  go_wp2
  refine bodyPost_ret (v := .tuple #[sd 0 (nxA 0 a b) (nxB 0 a b), .int .i64 (nxW 0 a b)]) ?_ rfl ⟨rfl, ?_⟩
  · simp [results, Try.results113, go_sem]; rfl
  · rfl
theorem stepSeed_1 (a b : Nat) (w : World) (ha : a < 18446744073709551616) (hb : b < 18446744073709551616) :
    Calls Try.prog 113 #[sd 1 a b] w (StepX 1 a b w) := by
  have h1 := sh1_a a ha
  obtain ⟨x, ex⟩ : ∃ x, x = a ^^^ a * 8192 % 18446744073709551616 := ⟨_, rfl⟩
  have hx : x < 18446744073709551616 := by rw [ex]; exact xor_lt ha (mod_lt64 _)
  rw [← ex] at h1
  have h2 := sh1_b x hx
  obtain ⟨y, ey⟩ : ∃ y, y = x ^^^ x / 128 := ⟨_, rfl⟩
  have hy : y < 18446744073709551616 := by rw [ey]; exact xor_lt hx (div_lt hx _)
  rw [← ey] at h2
  have h3 := sh1_c y hy
  have e3 : y ^^^ y * 131072 % 18446744073709551616 = nxA 1 a b := by rw [ey, ex]; rfl
  rw [e3] at h3
  have hz : nxA 1 a b < 18446744073709551616 := sh1_lt a ha
  clear e3 ey ex hx hy
  have h5 : IntKind.u64.wrap ((nxA 1 a b : Int) * 2685821657736338717) / 4294967296 = nxW 1 a b := by
    have e : IntKind.u64.wrap ((nxA 1 a b : Int) * 2685821657736338717) = _ := wmul (nxA 1 a b) 2685821657736338717
    rw [e]; rfl
  have hl : 0 ≤ (nxW 1 a b : Int) ∧ (nxW 1 a b : Int) < 4294967296 := top_word _ (mod_lt64 _)
  go_enter Try.func113, Try.ntmps113
  go_wp2
  refine bodyPost_ret (v := .tuple #[sd 1 (nxA 1 a b) (nxB 1 a b), .int .i64 (nxW 1 a b)]) ?_ rfl ⟨rfl, ?_⟩
  · simp [results, Try.results113, go_sem]; rfl
  · rfl
theorem stepSeed_2 (a b : Nat) (w : World) (ha : a < 18446744073709551616) (hb : b < 18446744073709551616) :
    Calls Try.prog 113 #[sd 2 a b] w (StepX 2 a b w) := by
  have h1 : IntKind.u64.wrap (↑a + 11400714819323198485) = (nxA 2 a b : Int) := wadd a 11400714819323198485
  have h2 := wadd (nxA 2 a b) b
  obtain ⟨x, ex⟩ : ∃ x, x = (nxA 2 a b + b) % 18446744073709551616 := ⟨_, rfl⟩
  have hx : x < 18446744073709551616 := by rw [ex]; exact mod_lt64 _
  rw [← ex] at h2
  have h3 : (mixN x : Int) / 4294967296 = nxW 2 a b := by rw [ex]; rfl
  have hl : 0 ≤ (nxW 2 a b : Int) ∧ (nxW 2 a b : Int) < 4294967296 := top_word _ (mixN_lt _)
  clear ex
  go_enter Try.func113, Try.ntmps113
  go_wp2_with (go_at_call 130; refine (MixWord_any x hx _).mono ?_; rintro e w' ⟨rfl, rfl⟩)
  refine bodyPost_ret (v := .tuple #[sd 2 (nxA 2 a b) (nxB 2 a b), .int .i64 (nxW 2 a b)]) ?_ rfl ⟨rfl, ?_⟩
  · simp [results, Try.results113, go_sem]; rfl
  · rfl
theorem stepSeed_3 (a b : Nat) (w : World) (ha : a < 18446744073709551616) (hb : b < 18446744073709551616) :
    Calls Try.prog 113 #[sd 3 a b] w (StepX 3 a b w) := by
  have h1 : bits .xor .u64 (a : Int) (b : Int) = _ := bits_xor_u64_nat a b ha hb
  have h0 := wadd a b
  have h6 : (((a + b) % 18446744073709551616 : Nat) : Int) / 4294967296 = nxW 3 a b := rfl
  have hl : 0 ≤ (nxW 3 a b : Int) ∧ (nxW 3 a b : Int) < 4294967296 := top_word _ (mod_lt64 _)
  generalize (a + b) % 18446744073709551616 = s at h0 h6
  obtain ⟨x, ex⟩ : ∃ x, x = a ^^^ b := ⟨_, rfl⟩
  have hx : x < 18446744073709551616 := by rw [ex]; exact xor_lt ha hb
  rw [← ex] at h1
  have h2 := pair_b x (rotN a 16777216 1099511627776) hx (rotN_lt _ _ _ ha)
  have e2 : rotN a 16777216 1099511627776 ^^^ x ^^^ x * 65536 % 18446744073709551616 = nxA 3 a b := by rw [ex]; rfl
  rw [e2] at h2
  have e3 : rotN x 137438953472 134217728 = nxB 3 a b := by rw [ex]; rfl
  have E3 := Lib.hid e3
  clear ex e2 e3
  go_enter Try.func113, Try.ntmps113
  go_wp2_with fail
  refine (rot24 a ha _).mono ?_
  rintro e w' ⟨rfl, rfl⟩
  go_wp2_with fail
  refine (rot37 x hx _).mono ?_
  rintro e w' ⟨rfl, rfl⟩
  go_wp2_with fail
  refine bodyPost_ret (v := .tuple #[sd 3 (nxA 3 a b) (nxB 3 a b), .int .i64 (nxW 3 a b)]) ?_ rfl ⟨rfl, ?_⟩
  · simp [results, Try.results113, go_sem]; rw [E3.out]
  · rw [E3.out]
theorem stepSeed_any (k : Int) (a b : Nat) (w : World) (hk : 0 ≤ k ∧ k ≤ 3) (ha : a < 18446744073709551616) (hb : b < 18446744073709551616) :
    Calls Try.prog 113 #[sd k a b] w (StepX k a b w) := by
  obtain rfl | rfl | rfl | rfl : k = 0 ∨ k = 1 ∨ k = 2 ∨ k = 3 := by omega
  · exact stepSeed_0 a b w ha hb
  · exact stepSeed_1 a b w ha hb
  · exact stepSeed_2 a b w ha hb
  · exact stepSeed_3 a b w ha hb
theorem nxA_lt (k : Int) (a b : Nat) (hk : 0 ≤ k ∧ k ≤ 3) (ha : a < 18446744073709551616) (hb : b < 18446744073709551616) : nxA k a b < 18446744073709551616 := by
  obtain rfl | rfl | rfl | rfl : k = 0 ∨ k = 1 ∨ k = 2 ∨ k = 3 := by omega
  · exact mod_lt64 _
  · exact sh1_lt a ha
  · exact mod_lt64 _
  · exact xor_lt (xor_lt (rotN_lt _ _ _ ha) (xor_lt ha hb)) (mod_lt64 _)
theorem nxB_lt (k : Int) (a b : Nat) (hk : 0 ≤ k ∧ k ≤ 3) (ha : a < 18446744073709551616) (hb : b < 18446744073709551616) : nxB k a b < 18446744073709551616 := by
  obtain rfl | rfl | rfl | rfl : k = 0 ∨ k = 1 ∨ k = 2 ∨ k = 3 := by omega
  · exact hb
  · exact hb
  · exact hb
  · exact rotN_lt _ _ _ (xor_lt ha hb)
theorem nxW_lt (k : Int) (a b : Nat) (hk : 0 ≤ k ∧ k ≤ 3) : nxW k a b < 4294967296 := by
  obtain rfl | rfl | rfl | rfl : k = 0 ∨ k = 1 ∨ k = 2 ∨ k = 3 := by omega
  all_goals simp only [nxW, nextN]
  · have := mod_lt64 (6364136223846793005 * a + b); simp; omega
  · have := mod_lt64 (sh1 a * 2685821657736338717); simp; omega
  · have := mixN_lt (((a + 11400714819323198485) % 18446744073709551616 + b) % 18446744073709551616); show mixN _ / 4294967296 < 4294967296; omega
  · have := mod_lt64 (a + b); simp; omega

/-- The word, and the seed behind the pointer turned to the next one. -/
def Stepped (g : Nat) (k : Int) (a b : Nat) (w : World) (e : Ending) (w' : World) : Prop :=
  e = .returned (.int .u32 (nxW k a b)) ∧ Whole w' g 31 (sdC k (nxA k a b) (nxB k a b)) ∧ w.grownBy w' (some g)

theorem turn24 (x : Nat) (hx : x < 18446744073709551616) (w : World) :
    Calls Try.prog 112 #[.int .u64 x, .int .u64 24] w (fun e w' => e = .returned (.int .u64 (rotN x 16777216 1099511627776 : Nat)) ∧ w = w') := by
  have h2 : bits .or .u64 (IntKind.u64.wrap (↑x * 16777216)) (↑x / 1099511627776) = (rotN x 16777216 1099511627776 : Int) := rot_a x 16777216 1099511627776 hx
  go_enter Try.func112, Try.ntmps112
  go_wp2
  go_ret
  exact ⟨rfl, rfl⟩
theorem turn37 (x : Nat) (hx : x < 18446744073709551616) (w : World) :
    Calls Try.prog 112 #[.int .u64 x, .int .u64 37] w (fun e w' => e = .returned (.int .u64 (rotN x 137438953472 134217728 : Nat)) ∧ w = w') := by
  have h2 : bits .or .u64 (IntKind.u64.wrap (↑x * 137438953472)) (↑x / 134217728) = (rotN x 137438953472 134217728 : Int) := rot_a x 137438953472 134217728 hx
  go_enter Try.func112, Try.ntmps112
  go_wp2
  go_ret
  exact ⟨rfl, rfl⟩
set_option maxRecDepth 100000 in
theorem l02Next_0 (g a b : Nat) (w : World) (ha : a < 18446744073709551616) (hb : b < 18446744073709551616) (hw : Whole w g 31 (sdC 0 a b)) :
    Calls Try.prog 97 #[.pointer (some ⟨g, 0, none⟩)] w (Stepped g 0 a b w) := by
  have c0 : w.cell? ⟨g, 0, none⟩ = some (.int .i64 0) := hw.cell 0
  have c1 : w.cell? ⟨g, 1, none⟩ = some (.int .u64 a) := hw.cell 1
  have c2 : w.cell? ⟨g, 2, none⟩ = some (.int .u64 b) := hw.cell 2
  have f1 : w.frozen? ⟨g, 1, none⟩ = false := hw.frozen 1
  have f2 : w.frozen? ⟨g, 2, none⟩ = false := hw.frozen 2
  have HW := Lib.hid hw
  clear hw
  have h1 : IntKind.u64.wrap (IntKind.u64.wrap (6364136223846793005 * ↑a) + ↑b) = (nxA 0 a b : Int) := by
    show _ = (((6364136223846793005 * a + b) % 18446744073709551616 : Nat) : Int); rw [IntKind.wrap_u64, IntKind.wrap_u64]; omega
  have h3 : (nxA 0 a b : Int) / 4294967296 = nxW 0 a b := rfl
  have hl : 0 ≤ (nxW 0 a b : Int) ∧ (nxW 0 a b : Int) < 4294967296 := top_word _ (mod_lt64 _)
  have h4 : nxB 0 a b = b := rfl
  have H4 := Lib.hid h4
  clear h4
  go_enter Try.func97, Try.ntmps97
  go_wp2
  go_region
  go_wp2
  go_ret
  exact ⟨rfl, (HW.out.put 1 _).drew, grown_drew (grown_set _ _ _ _)⟩
set_option maxRecDepth 100000 in
theorem l02Next_1 (g a b : Nat) (w : World) (ha : a < 18446744073709551616) (hb : b < 18446744073709551616) (hw : Whole w g 31 (sdC 1 a b)) :
    Calls Try.prog 97 #[.pointer (some ⟨g, 0, none⟩)] w (Stepped g 1 a b w) := by
  have c0 : w.cell? ⟨g, 0, none⟩ = some (.int .i64 1) := hw.cell 0
  have c1 : w.cell? ⟨g, 1, none⟩ = some (.int .u64 a) := hw.cell 1
  have c2 : w.cell? ⟨g, 2, none⟩ = some (.int .u64 b) := hw.cell 2
  have f1 : w.frozen? ⟨g, 1, none⟩ = false := hw.frozen 1
  have f2 : w.frozen? ⟨g, 2, none⟩ = false := hw.frozen 2
  have HW := Lib.hid hw
  clear hw
  have h1 := sh1_a a ha
  obtain ⟨x, ex⟩ : ∃ x, x = a ^^^ a * 8192 % 18446744073709551616 := ⟨_, rfl⟩
  have hx : x < 18446744073709551616 := by rw [ex]; exact xor_lt ha (mod_lt64 _)
  rw [← ex] at h1
  have h2 := sh1_b x hx
  obtain ⟨y, ey⟩ : ∃ y, y = x ^^^ x / 128 := ⟨_, rfl⟩
  have hy : y < 18446744073709551616 := by rw [ey]; exact xor_lt hx (div_lt hx _)
  rw [← ey] at h2
  have h3 := sh1_c y hy
  have e3 : y ^^^ y * 131072 % 18446744073709551616 = nxA 1 a b := by rw [ey, ex]; rfl
  rw [e3] at h3
  have hz : nxA 1 a b < 18446744073709551616 := sh1_lt a ha
  clear e3 ey ex hx hy
  have h5 : IntKind.u64.wrap ((nxA 1 a b : Int) * 2685821657736338717) / 4294967296 = nxW 1 a b := by
    have e : IntKind.u64.wrap ((nxA 1 a b : Int) * 2685821657736338717) = _ := wmul (nxA 1 a b) 2685821657736338717
    rw [e]; rfl
  have hl : 0 ≤ (nxW 1 a b : Int) ∧ (nxW 1 a b : Int) < 4294967296 := top_word _ (mod_lt64 _)
  have H1 := HW.out.put 1 (.int .u64 x)
  have H2 := H1.put 1 (.int .u64 y)
  have H3 := H2.put 1 (.int .u64 (nxA 1 a b))
  have d1 : (w.setCell ⟨g, 1, none⟩ (.int .u64 x)).cell? ⟨g, 1, none⟩ = some (.int .u64 x) := H1.cell 1
  have e1 : (w.setCell ⟨g, 1, none⟩ (.int .u64 x)).frozen? ⟨g, 1, none⟩ = false := H1.frozen 1
  have d2 : ((w.setCell ⟨g, 1, none⟩ (.int .u64 x)).setCell ⟨g, 1, none⟩ (.int .u64 y)).cell? ⟨g, 1, none⟩ = some (.int .u64 y) := H2.cell 1
  have e2 : ((w.setCell ⟨g, 1, none⟩ (.int .u64 x)).setCell ⟨g, 1, none⟩ (.int .u64 y)).frozen? ⟨g, 1, none⟩ = false := H2.frozen 1
  have d3 : (((w.setCell ⟨g, 1, none⟩ (.int .u64 x)).setCell ⟨g, 1, none⟩ (.int .u64 y)).setCell ⟨g, 1, none⟩ (.int .u64 (nxA 1 a b))).cell? ⟨g, 1, none⟩ = some (.int .u64 (nxA 1 a b)) := H3.cell 1
  clear H1 H2 H3
  go_enter Try.func97, Try.ntmps97
  go_wp2
  go_region
  go_wp2
  go_region
  go_wp2
  go_region
  go_wp2
  go_ret
  exact ⟨rfl, (((HW.out.put 1 (.int .u64 x)).put 1 (.int .u64 y)).put 1 (.int .u64 (nxA 1 a b))), grown_drew (grown_drew (grown_drew (grown_put (grown_put (grown_put (grown_refl w _) _ _) _ _) _ _)))⟩
set_option maxRecDepth 100000 in
theorem l02Next_2 (g a b : Nat) (w : World) (ha : a < 18446744073709551616) (hb : b < 18446744073709551616) (hw : Whole w g 31 (sdC 2 a b)) :
    Calls Try.prog 97 #[.pointer (some ⟨g, 0, none⟩)] w (Stepped g 2 a b w) := by
  have c0 : w.cell? ⟨g, 0, none⟩ = some (.int .i64 2) := hw.cell 0
  have c1 : w.cell? ⟨g, 1, none⟩ = some (.int .u64 a) := hw.cell 1
  have c2 : w.cell? ⟨g, 2, none⟩ = some (.int .u64 b) := hw.cell 2
  have f1 : w.frozen? ⟨g, 1, none⟩ = false := hw.frozen 1
  have f2 : w.frozen? ⟨g, 2, none⟩ = false := hw.frozen 2
  have HW := Lib.hid hw
  clear hw
  have h1 : IntKind.u64.wrap (↑a + 11400714819323198485) = (nxA 2 a b : Int) := wadd a 11400714819323198485
  have h2 := wadd (nxA 2 a b) b
  obtain ⟨x, ex⟩ : ∃ x, x = (nxA 2 a b + b) % 18446744073709551616 := ⟨_, rfl⟩
  have hx : x < 18446744073709551616 := by rw [ex]; exact mod_lt64 _
  rw [← ex] at h2
  have h3 : (mixN x : Int) / 4294967296 = nxW 2 a b := by rw [ex]; rfl
  have hl : 0 ≤ (nxW 2 a b : Int) ∧ (nxW 2 a b : Int) < 4294967296 := top_word _ (mixN_lt _)
  clear ex
  have H1 := HW.out.put 1 (.int .u64 (nxA 2 a b))
  have d1 : (w.setCell ⟨g, 1, none⟩ (.int .u64 (nxA 2 a b))).cell? ⟨g, 1, none⟩ = some (.int .u64 (nxA 2 a b)) := H1.cell 1
  clear H1
  go_enter Try.func97, Try.ntmps97
  go_wp2
  go_quiet ((go_at_call 111; exact quiet_same (l02Mix_any x hx _)))
  go_wp2
  go_ret
  exact ⟨rfl, (HW.out.put 1 _).drewN _, grown_trans (grown_set _ _ _ _) (grown_drewN _ _ _)⟩
set_option maxRecDepth 100000 in
theorem l02Next_3 (g a b : Nat) (w : World) (ha : a < 18446744073709551616) (hb : b < 18446744073709551616) (hw : Whole w g 31 (sdC 3 a b)) :
    Calls Try.prog 97 #[.pointer (some ⟨g, 0, none⟩)] w (Stepped g 3 a b w) := by
  have c0 : w.cell? ⟨g, 0, none⟩ = some (.int .i64 3) := hw.cell 0
  have c1 : w.cell? ⟨g, 1, none⟩ = some (.int .u64 a) := hw.cell 1
  have c2 : w.cell? ⟨g, 2, none⟩ = some (.int .u64 b) := hw.cell 2
  have f1 : w.frozen? ⟨g, 1, none⟩ = false := hw.frozen 1
  have f2 : w.frozen? ⟨g, 2, none⟩ = false := hw.frozen 2
  have HW := Lib.hid hw
  clear hw
  have h1 : bits .xor .u64 (b : Int) (a : Int) = _ := bits_xor_u64_nat b a hb ha
  have h0 := wadd a b
  have h6 : (((a + b) % 18446744073709551616 : Nat) : Int) / 4294967296 = nxW 3 a b := rfl
  have hl : 0 ≤ (nxW 3 a b : Int) ∧ (nxW 3 a b : Int) < 4294967296 := top_word _ (mod_lt64 _)
  generalize (a + b) % 18446744073709551616 = s at h0 h6
  obtain ⟨x, ex⟩ : ∃ x, x = a ^^^ b := ⟨_, rfl⟩
  have hx : x < 18446744073709551616 := by rw [ex]; exact xor_lt ha hb
  rw [Nat.xor_comm, ← ex] at h1
  have h2 := pair_b x (rotN a 16777216 1099511627776) hx (rotN_lt _ _ _ ha)
  have e2 : rotN a 16777216 1099511627776 ^^^ x ^^^ x * 65536 % 18446744073709551616 = nxA 3 a b := by rw [ex]; rfl
  rw [e2] at h2
  have e3 : rotN x 137438953472 134217728 = nxB 3 a b := by rw [ex]; rfl
  have E3 := Lib.hid e3
  clear ex e2 e3
  go_enter Try.func97, Try.ntmps97
  go_wp2
  go_quiet (fail)
  go_wp2
  go_quiet (fail)
  go_wp2_with fail
  refine (turn24 a ha _).mono ?_
  rintro e w' ⟨rfl, rfl⟩
  go_wp2_with fail
  refine (turn37 x hx _).mono ?_
  rintro e w' ⟨rfl, rfl⟩
  go_wp2_with fail
  go_ret
  rw [E3.out]
  exact ⟨rfl, ((HW.out.drewN _).put 1 _).put 2 _, grown_put (grown_put (grown_drewN _ _ _) _ _) _ _⟩
theorem l02Next_any (g : Nat) (k : Int) (a b : Nat) (w : World) (hk : 0 ≤ k ∧ k ≤ 3) (ha : a < 18446744073709551616) (hb : b < 18446744073709551616) (hw : Whole w g 31 (sdC k a b)) :
    Calls Try.prog 97 #[.pointer (some ⟨g, 0, none⟩)] w (Stepped g k a b w) := by
  obtain rfl | rfl | rfl | rfl : k = 0 ∨ k = 1 ∨ k = 2 ∨ k = 3 := by omega
  · exact l02Next_0 g a b w ha hb hw
  · exact l02Next_1 g a b w ha hb hw
  · exact l02Next_2 g a b w ha hb hw
  · exact l02Next_3 g a b w ha hb hw
end Go.Proofs.Yticmnkgcolgpaaa
