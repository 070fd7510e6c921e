/- The model's test of a range. -/
import Derived.Test.YtfgkimhcbboipaaDoorChecked
import Derived.Test.YtfgkimhcbboipaaDoorU
namespace Go.Proofs.YtfgkimhcbboipaaDoor
open Go Go.RowKit

theorem l00In_yes (n lo hi : Int) (h1 : lo ≤ n) (h2 : n ≤ hi) (w : World) :
    Calls Tryd.prog 98 #[.int .i64 n, .int .i64 lo, .int .i64 hi] w (fun e w' => e = .returned (.bool true) ∧ w = w') := by
  go_enter Tryd.func98, Tryd.ntmps98
  go_wp2
  go_ret
  exact ⟨by simp, rfl⟩
theorem l00In_no (n lo hi : Int) (h : n < lo ∨ hi < n) (w : World) :
    Calls Tryd.prog 98 #[.int .i64 n, .int .i64 lo, .int .i64 hi] w (fun e w' => e = .returned (.bool false) ∧ w = w') := by
  by_cases h1 : n < lo
  · have hd : decide (lo ≤ n) = false := by simp; omega
    clear h
    go_enter Tryd.func98, Tryd.ntmps98
    go_wp2
    go_ret
    exact ⟨rfl, rfl⟩
  · have h2 : lo ≤ n := by omega
    have hd : decide (n ≤ hi) = false := by simp; omega
    clear h h1
    go_enter Tryd.func98, Tryd.ntmps98
    go_wp2
    go_ret
    exact ⟨by simp, rfl⟩
theorem l00In_any (n lo hi : Int) (w : World) :
    Calls Tryd.prog 98 #[.int .i64 n, .int .i64 lo, .int .i64 hi] w (fun e w' => e = .returned (.bool (decide (lo ≤ n ∧ n ≤ hi))) ∧ w = w') := by
  by_cases h : lo ≤ n ∧ n ≤ hi
  · rw [decide_eq_true h]; exact l00In_yes n lo hi h.1 h.2 w
  · rw [decide_eq_false h]; exact l00In_no n lo hi (by omega) w
end Go.Proofs.YtfgkimhcbboipaaDoor
