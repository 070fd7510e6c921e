/- Jumps of seeds. -/
import Derived.Test.YtdmbhnllebipjaaWo
import Derived.Scope
import Derived.Deep.LoopGhost
import Derived.ScopeJumps
namespace Go.Proofs.Ytdmbhnllebipjaa
open Go Go.RowKit
set_option linter.unusedVariables false

/-- A line's number behind c steps of the line f, d. -/
def jumpN (c f d a : Nat) : Nat :=
  if h : c = 0 then a
  else jumpN (c / 2) (f * f % 18446744073709551616) ((d + f * d) % 18446744073709551616) (if c % 2 = 1 then (f * a + d) % 18446744073709551616 else a)
termination_by c
decreasing_by omega
/-- The line that c steps of the line f, d are, behind the line x, y. -/
def skipN (c f d x y : Nat) : Nat × Nat :=
  if h : c = 0 then (x, y)
  else skipN (c / 2) (f * f % 18446744073709551616) ((d * f + d) % 18446744073709551616) (if c % 2 = 1 then x * f % 18446744073709551616 else x) (if c % 2 = 1 then (y * f + d) % 18446744073709551616 else y)
termination_by c
decreasing_by omega
theorem jump_skip (c : Nat) : ∀ f d x y a : Nat, jumpN c f d ((x * a + y) % 18446744073709551616) = ((skipN c f d x y).1 * a + (skipN c f d x y).2) % 18446744073709551616 := by
  induction c using Nat.strongRecOn with
  | ind c ih =>
    intro f d x y a
    unfold jumpN skipN
    by_cases h : c = 0
    · simp [h]
    · rw [dif_neg h, dif_neg h]
      have e1 : (d + f * d) % 18446744073709551616 = (d * f + d) % 18446744073709551616 := by rw [Nat.mul_comm f d, Nat.add_comm]
      rw [e1]
      by_cases ho : c % 2 = 1
      · rw [if_pos ho, if_pos ho, if_pos ho]
        have e2 : (f * ((x * a + y) % 18446744073709551616) + d) % 18446744073709551616 = ((x * f % 18446744073709551616) * a + (y * f + d) % 18446744073709551616) % 18446744073709551616 := by
          have h1 : (f * ((x * a + y) % 18446744073709551616) + d) % 18446744073709551616 = (f * (x * a + y) + d) % 18446744073709551616 := by
            rw [Nat.add_mod, Nat.mul_mod, Nat.mod_mod, ← Nat.mul_mod, ← Nat.add_mod]
          have h2 : ((x * f % 18446744073709551616) * a + (y * f + d) % 18446744073709551616) % 18446744073709551616 = (x * f * a + (y * f + d)) % 18446744073709551616 := by
            rw [Nat.add_mod, Nat.mul_mod, Nat.mod_mod, Nat.mod_mod, ← Nat.mul_mod, ← Nat.add_mod]
          rw [h1, h2]
          congr 1
          rw [Nat.mul_add, Nat.add_assoc]
          have : f * (x * a) = x * f * a := by rw [← Nat.mul_assoc, Nat.mul_comm f x]
          rw [this, Nat.mul_comm f y]
        rw [e2]
        exact ih (c / 2) (by omega) _ _ _ _ _
      · rw [if_neg ho, if_neg ho, if_neg ho]
        exact ih (c / 2) (by omega) _ _ _ _ _
theorem jump_is (c f d a : Nat) (ha : a < 18446744073709551616) : jumpN c f d a = ((skipN c f d 1 0).1 * a + (skipN c f d 1 0).2) % 18446744073709551616 := by
  have := jump_skip c f d 1 0 a
  rwa [Nat.one_mul, Nat.add_zero, Nat.mod_eq_of_lt ha] at this

theorem jumpN_zero (f d a : Nat) : jumpN 0 f d a = a := by unfold jumpN; rfl
theorem jumpN_step (c f d a : Nat) : (c ≠ 0 → c % 2 = 1 → jumpN c f d a = jumpN (c / 2) (f * f % 18446744073709551616) ((d + f * d) % 18446744073709551616) ((f * a + d) % 18446744073709551616)) ∧
    (c ≠ 0 → ¬ c % 2 = 1 → jumpN c f d a = jumpN (c / 2) (f * f % 18446744073709551616) ((d + f * d) % 18446744073709551616) a) := by
  constructor
  · intro h ho; rw [jumpN, dif_neg h, if_pos ho]
  · intro h ho; rw [jumpN, dif_neg h, if_neg ho]
theorem wmuladd (x y z : Nat) : IntKind.u64.wrap (IntKind.u64.wrap ((x : Int) * y) + z) = (((x * y + z) % 18446744073709551616 : Nat) : Int) := by
  rw [wmul, wadd]; congr 1; rw [Nat.mod_add_mod]
theorem waddmul (x y z : Nat) : IntKind.u64.wrap ((x : Int) + IntKind.u64.wrap ((y : Int) * z)) = (((x + y * z) % 18446744073709551616 : Nat) : Int) := by
  rw [wmul, wadd]; congr 1; rw [Nat.add_mod_mod]
set_option maxHeartbeats 2000000 in
theorem jumpLine_gen (F a b c : Nat) (w : World) (hF : F = 6364136223846793005) (ha : a < 18446744073709551616) (hb : b < 18446744073709551616) (hc : c ≤ 4611686018427387904) :
    Calls Try.prog 71 #[.int .u64 a, .int .u64 b, .int .i64 c] w (fun e w' => e = .returned (.int .u64 (jumpN c F b a : Nat)) ∧ w = w') := by
  have hF' : (6364136223846793005 : Int) = F := by rw [hF]; rfl
  have HF := Lib.hid hF'
  go_enter Try.func71, Try.ntmps71
  go_wp2
  refine wp_scope_jumps 0 (fun a' w' => w = w' ∧ ∃ (m f d A : Nat) (u10 u11 u12 u13 u14 u15 u16 u17 u18 u19 u20 u21 u22 u23 u24 u25 u26 u27 u28 u29 u30 : Value), a' = { tmps := #[.int .u64 A, .int .u64 b, .int .i64 m, undef, undef, undef, .int .u64 0, .int .u64 f, .int .u64 d, .int .u64 b, u10, u11, u12, u13, u14, u15, u16, u17, u18, u19, u20, u21, u22, u23, u24, u25, u26, u27, u28, u29, u30], defers := [] } ∧ m ≤ 4611686018427387904 ∧ f < 18446744073709551616 ∧ d < 18446744073709551616 ∧ A < 18446744073709551616 ∧ jumpN m f d A = jumpN c F b a) (fun a' _ => (intOf (a'.tmps.getD 2 undef)).toNat) rfl ?_ ?_
  · clear hF
    go_wp2
    go_step3
    have hjj := jumpN_step c F b a
    have wf : IntKind.u64.wrap ((F : Int) * F) = (F * F % 18446744073709551616 : Nat) := wmul F F
    have wd : IntKind.u64.wrap ((b : Int) + IntKind.u64.wrap ((F : Int) * b)) = ((b + F * b) % 18446744073709551616 : Nat) := waddmul b F b
    have wa : IntKind.u64.wrap (IntKind.u64.wrap ((F : Int) * a) + b) = ((F * a + b) % 18446744073709551616 : Nat) := wmuladd F a b
    have lf : F * F % 18446744073709551616 < 18446744073709551616 := mod_lt64 _
    have ld : (b + F * b) % 18446744073709551616 < 18446744073709551616 := mod_lt64 _
    have la : (F * a + b) % 18446744073709551616 < 18446744073709551616 := mod_lt64 _
    generalize F * F % 18446744073709551616 = f2 at hjj wf lf
    generalize (b + F * b) % 18446744073709551616 = d2 at hjj wd ld
    generalize (F * a + b) % 18446744073709551616 = A2 at hjj wa la
    have HJ := Lib.hid hjj
    clear hjj
    by_cases h0 : c = 0
    · have H0 := Lib.hid (jumpN_zero F b a)
      have HM := Lib.hid h0
      have hm0 : (c : Int) = 0 := by omega
      clear h0 wf wd wa
      go_wp2
      simp only [Exit.jump]
      go_ret
      exact ⟨by rw [HM.out, H0.out]; rfl, rfl⟩
    · have h0' : ((c : Int) == 0) = false := by rw [beq_eq_false_iff_ne]; omega
      by_cases ho : c % 2 = 1
      · have ho' : (c : Int) % 2 = 1 := by omega
        have HE := Lib.hid (HJ.out.1 h0 ho)
        clear ho
        go_wp2
        go_step3
        refine ⟨rfl, rfl, c / 2, _, _, _, _, _, _, _, _, _, _, _, _, _, _, _, _, _, _, _, _, _, _, _, _, rfl, by omega, lf, ld, la, HE.out.symm⟩
      · have ho' : ((c : Int) % 2 == 1) = false := by rw [beq_eq_false_iff_ne]; omega
        have HE := Lib.hid (HJ.out.2 h0 ho)
        clear ho
        go_wp2
        go_step3
        refine ⟨rfl, rfl, c / 2, _, _, _, _, _, _, _, _, _, _, _, _, _, _, _, _, _, _, _, _, _, _, _, _, rfl, by omega, lf, ld, ha, HE.out.symm⟩
  · rintro a' w' ⟨rfl, m, f, d, A, u10, u11, u12, u13, u14, u15, u16, u17, u18, u19, u20, u21, u22, u23, u24, u25, u26, u27, u28, u29, u30, rfl, hm, hf, hd, hA, hs⟩
    have HS := Lib.hid hs
    clear hs hF hF'
    have hjj := jumpN_step m f d A
    have wf : IntKind.u64.wrap ((f : Int) * f) = (f * f % 18446744073709551616 : Nat) := wmul f f
    have wd : IntKind.u64.wrap ((d : Int) + IntKind.u64.wrap ((f : Int) * d)) = ((d + f * d) % 18446744073709551616 : Nat) := waddmul d f d
    have wa : IntKind.u64.wrap (IntKind.u64.wrap ((f : Int) * A) + d) = ((f * A + d) % 18446744073709551616 : Nat) := wmuladd f A d
    have lf : f * f % 18446744073709551616 < 18446744073709551616 := mod_lt64 _
    have ld : (d + f * d) % 18446744073709551616 < 18446744073709551616 := mod_lt64 _
    have la : (f * A + d) % 18446744073709551616 < 18446744073709551616 := mod_lt64 _
    generalize f * f % 18446744073709551616 = f2 at hjj wf lf
    generalize (d + f * d) % 18446744073709551616 = d2 at hjj wd ld
    generalize (f * A + d) % 18446744073709551616 = A2 at hjj wa la
    have HJ := Lib.hid hjj
    clear hjj
    by_cases h0 : m = 0
    · have H0 := Lib.hid (jumpN_zero f d A)
      have HM := Lib.hid h0
      have hm0 : (m : Int) = 0 := by omega
      clear h0 wf wd wa
      go_wp2
      simp only [Exit.jump]
      go_ret
      exact ⟨by rw [← HS.out, HM.out, H0.out]; rfl, rfl⟩
    · have h0' : ((m : Int) == 0) = false := by rw [beq_eq_false_iff_ne]; omega
      by_cases ho : m % 2 = 1
      · have ho' : (m : Int) % 2 = 1 := by omega
        have HE := Lib.hid (HJ.out.1 h0 ho)
        clear ho
        go_wp2
        go_step3
        refine ⟨rfl, ⟨rfl, m / 2, _, _, _, _, _, _, _, _, _, _, _, _, _, _, _, _, _, _, _, _, _, _, _, _, rfl, by omega, lf, ld, la, HE.out.symm.trans HS.out⟩, by simp [intOf]; omega⟩
      · have ho' : ((m : Int) % 2 == 1) = false := by rw [beq_eq_false_iff_ne]; omega
        have HE := Lib.hid (HJ.out.2 h0 ho)
        clear ho
        go_wp2
        go_step3
        refine ⟨rfl, ⟨rfl, m / 2, _, _, _, _, _, _, _, _, _, _, _, _, _, _, _, _, _, _, _, _, _, _, _, _, rfl, by omega, lf, ld, hA, HE.out.symm.trans HS.out⟩, by simp [intOf]; omega⟩
theorem jumpLine_any (a b c : Nat) (w : World) (ha : a < 18446744073709551616) (hb : b < 18446744073709551616) (hc : c ≤ 4611686018427387904) :
    Calls Try.prog 71 #[.int .u64 a, .int .u64 b, .int .i64 c] w (fun e w' => e = .returned (.int .u64 (jumpN c 6364136223846793005 b a : Nat)) ∧ w = w') :=
  jumpLine_gen _ a b c w rfl ha hb hc
theorem skipN_step (c f d x y : Nat) : (c ≠ 0 → c % 2 = 1 → skipN c f d x y = skipN (c / 2) (f * f % 18446744073709551616) ((d * f + d) % 18446744073709551616) (x * f % 18446744073709551616) ((y * f + d) % 18446744073709551616)) ∧
    (c ≠ 0 → ¬ c % 2 = 1 → skipN c f d x y = skipN (c / 2) (f * f % 18446744073709551616) ((d * f + d) % 18446744073709551616) x y) := by
  constructor
  · intro h ho; rw [skipN, dif_neg h, if_pos ho, if_pos ho]
  · intro h ho; rw [skipN, dif_neg h, if_neg ho, if_neg ho]
theorem skipN_zero (f d x y : Nat) : skipN 0 f d x y = (x, y) := by unfold skipN; rfl
set_option maxHeartbeats 2000000 in
theorem l02Skip_any (g : Nat) (k : Int) (F a b c : Nat) (w : World) (hF : F = 6364136223846793005) (ha : a < 18446744073709551616) (hb : b < 18446744073709551616) (hc : c ≤ 4611686018427387904) (hw : Whole w g 24 (sdC k a b)) :
    Calls Try.prog 84 #[.pointer (some ⟨g, 0, none⟩), .int .i64 c] w (fun e w' => e = .returned (.tuple #[]) ∧ Whole w' g 24 (sdC k (jumpN c F b a) b) ∧ w.grownBy w' (some g)) := by
  have hF' : (6364136223846793005 : Int) = F := by rw [hF]; rfl
  have HW := Lib.hid hw
  obtain ⟨hc0, hf0⟩ := hw.facts
  clear hF hw
  go_enter Try.func84, Try.ntmps84
  go_wp2
  go_loop [1, 4, 5, 6, 7] (fun m f d x y => ∃ m' f' d' x' y' : Nat, m = .int .i64 m' ∧ f = .int .u64 f' ∧ d = .int .u64 d' ∧ x = .int .u64 x' ∧ y = .int .u64 y' ∧ m' ≤ 4611686018427387904 ∧ skipN m' f' d' x' y' = skipN c F b 1 0) (fun m _ _ _ _ => (intOf m).toNat)
  case atStart => exact ⟨c, F, b, 1, 0, rfl, by rw [hF'], rfl, rfl, rfl, hc, rfl⟩
  case round =>
    obtain ⟨m, f, d, x, y, rfl, rfl, rfl, rfl, rfl, hm, hs⟩ := hrel
    have HS := Lib.hid hs
    have hjj := skipN_step m f d x y
    have wf : IntKind.u64.wrap ((f : Int) * f) = (f * f % 18446744073709551616 : Nat) := wmul f f
    have wd : IntKind.u64.wrap (IntKind.u64.wrap ((d : Int) * f) + d) = ((d * f + d) % 18446744073709551616 : Nat) := wmuladd d f d
    have wx : IntKind.u64.wrap ((x : Int) * f) = (x * f % 18446744073709551616 : Nat) := wmul x f
    have wy : IntKind.u64.wrap (IntKind.u64.wrap ((y : Int) * f) + d) = ((y * f + d) % 18446744073709551616 : Nat) := wmuladd y f d
    generalize f * f % 18446744073709551616 = f2 at hjj wf
    generalize (d * f + d) % 18446744073709551616 = d2 at hjj wd
    generalize x * f % 18446744073709551616 = x2 at hjj wx
    generalize (y * f + d) % 18446744073709551616 = y2 at hjj wy
    have HJ := Lib.hid hjj
    clear hjj hs hF'
    by_cases h0 : m = 0
    · have H0 := Lib.hid (skipN_zero f d x y)
      have HM := Lib.hid h0
      have hm0 : ¬ (0 : Int) < (m : Int) := by omega
      have hm1 : (m : Int) = 0 := by omega
      have hA : (jumpN c F b a : Nat) = (x * a + y) % 18446744073709551616 := by rw [jump_is _ _ _ _ ha, ← HS.out, h0, H0.out]
      have wz : IntKind.u64.wrap (IntKind.u64.wrap ((x : Int) * a) + y) = (jumpN c F b a : Nat) := by rw [hA]; exact wmuladd x a y
      clear h0 hA wf wd wx wy
      go_wp2
      go_end0
      exact ⟨rfl, HW.out.put 1 _, grown_set _ _ _ _⟩
    · have h0' : (0 : Int) < (m : Int) := by omega
      by_cases ho : m % 2 = 1
      · have ho' : (m : Int) % 2 = 1 := by omega
        have HE := Lib.hid (HJ.out.1 h0 ho)
        clear ho h0
        go_wp2
        go_round
        case rel => exact ⟨m / 2, f2, d2, x2, y2, rfl, rfl, rfl, rfl, rfl, by omega, HE.out.symm.trans HS.out⟩
        case measure => simp [intOf]; omega
      · have ho' : ((m : Int) % 2 == 1) = false := by rw [beq_eq_false_iff_ne]; omega
        have HE := Lib.hid (HJ.out.2 h0 ho)
        clear ho h0
        go_wp2
        go_round
        case rel => exact ⟨m / 2, f2, d2, x, y, rfl, rfl, rfl, rfl, rfl, by omega, HE.out.symm.trans HS.out⟩
        case measure => simp [intOf]; omega
end Go.Proofs.Ytdmbhnllebipjaa
