/- Words of a seed: the functions that ask whether they may. -/
import Derived.Test.YtdnelmmbiccjcaaWf
import Derived.Test.YtdnelmmbiccjcaaSe
import Derived.Test.YtdnelmmbiccjcaaIn0
namespace Go.Proofs.Ytdnelmmbiccjcaa
open Go Go.RowKit
set_option linter.unusedVariables false

theorem isWordCount_any (n : Int) (w : World) : Calls Try.prog 114 #[.int .i64 n] w (fun e w' => e = .returned (.bool (decide (0 ≤ n ∧ n ≤ 256))) ∧ w = w') := by
  by_cases h0 : 0 ≤ n
  · have e : decide (0 ≤ n ∧ n ≤ 256) = decide (n ≤ 256) := by rw [Bool.eq_iff_iff]; simp; omega
    have E := Lib.hid e
    clear e
    go_enter Try.func114, Try.ntmps114
    go_wp2
    go_ret
    exact ⟨by first | rfl | (rw [E.out]; rfl), rfl⟩
  · have h1 : decide (0 ≤ n) = false := by simpa using h0
    have e : decide (0 ≤ n ∧ n ≤ 256) = false := by simp; omega
    have E := Lib.hid e
    clear e
    go_enter Try.func114, Try.ntmps114
    go_wp2
    go_ret
    exact ⟨by first | rfl | (rw [E.out]; rfl), rfl⟩
theorem l02Can_any (g : Nat) (k : Int) (a b : Nat) (n : Int) (w : World) (hw : Whole w g 28 (sdC k a b)) :
    Calls Try.prog 59 #[.pointer (some ⟨g, 0, none⟩), .int .i64 n] w (fun e w' => e = .returned (.bool (vSeed k a b && decide (0 ≤ n ∧ n ≤ 256))) ∧ w = w') := by
  have HW := Lib.hid hw
  clear hw
  cases hv : vSeed k a b with
  | true =>
    go_enter Try.func59, Try.ntmps59
    go_wp2_with fail
    refine (l02Is_any _ _ _ _ _ HW.out).mono ?_
    rintro e w1 ⟨rfl, rfl⟩
    go_wp2_with fail
    refine (l00In_any _ _ _ _).mono ?_
    rintro e w1 ⟨rfl, rfl⟩
    go_wp2_with fail
    go_ret
    exact ⟨by simp, rfl⟩
  | false =>
    go_enter Try.func59, Try.ntmps59
    go_wp2_with fail
    refine (l02Is_any _ _ _ _ _ HW.out).mono ?_
    rintro e w1 ⟨rfl, rfl⟩
    go_wp2_with fail
    go_ret
    exact ⟨by simp, rfl⟩
def WordsC (k : Int) (a b : Nat) (n : Int) : Prop := vSeed k a b = true ∧ 0 ≤ n ∧ n ≤ 256

end Go.Proofs.Ytdnelmmbiccjcaa
