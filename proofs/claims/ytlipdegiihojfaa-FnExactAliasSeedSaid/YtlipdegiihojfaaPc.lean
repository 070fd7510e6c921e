/- Tests of a range that the code has, as what they return. -/
import Derived.Test.YtlipdegiihojfaaIn0
namespace Go.Proofs.Ytlipdegiihojfaa
open Go Go.RowKit
set_option linter.unusedVariables false
theorem isPick_yes (n : Int) (h : 1 ≤ n ∧ n ≤ 64) (w : World) : Calls Try.prog 76 #[.int .i64 n] w (fun e w' => e = .returned (.bool true) ∧ w = w') := by
  have h1 := h.1
  have h2 := h.2
  clear h
  go_enter Try.func76, Try.ntmps76
  go_wp2
  go_ret
  exact ⟨rfl, rfl⟩
theorem isPick_no (n : Int) (h : ¬(1 ≤ n ∧ n ≤ 64)) (w : World) : Calls Try.prog 76 #[.int .i64 n] w (fun e w' => e = .returned (.bool false) ∧ w = w') := by
  by_cases h0 : 1 ≤ n
  · have h1 : decide (n ≤ 64) = false := by simp; omega
    clear h
    go_enter Try.func76, Try.ntmps76
    go_wp2
    go_ret
    exact ⟨rfl, rfl⟩
  · have h1 : decide (1 ≤ n) = false := by simpa using h0
    clear h h0
    go_enter Try.func76, Try.ntmps76
    go_wp2
    go_ret
    exact ⟨rfl, rfl⟩
theorem below_yes (x m : Int) (h : 0 ≤ x ∧ x < m) (w : World) : Calls Try.prog 77 #[.int .i64 x, .int .i64 m] w (fun e w' => e = .returned (.bool true) ∧ w = w') := by
  have h1 := h.1
  have h2 := h.2
  clear h
  go_enter Try.func77, Try.ntmps77
  go_wp2
  go_ret
  exact ⟨by simp, rfl⟩
theorem below_no (x m : Int) (h : ¬(0 ≤ x ∧ x < m)) (w : World) : Calls Try.prog 77 #[.int .i64 x, .int .i64 m] w (fun e w' => e = .returned (.bool false) ∧ w = w') := by
  by_cases h0 : 0 ≤ x
  · have h1 : decide (x < m) = false := by simp; omega
    clear h
    go_enter Try.func77, Try.ntmps77
    go_wp2
    go_ret
    exact ⟨by simp, rfl⟩
  · have h1 : decide (0 ≤ x) = false := by simpa using h0
    clear h h0
    go_enter Try.func77, Try.ntmps77
    go_wp2
    go_ret
    exact ⟨by simp, rfl⟩
end Go.Proofs.Ytlipdegiihojfaa
