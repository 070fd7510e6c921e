/- The walks of the laws on check numbers and names. -/
import Derived.Test.YtgkkimocmpgfkacChk
import Derived.Test.YtgkkimocmpgfkacSub
import Derived.Test.YtgkkimocmpgfkacName
import Derived.Test.YtgkkimocmpgfkacLawsA
import Derived.Below
namespace Go.Proofs.Ytgkkimocmpgfkac
open Go Go.RowKit Fl

theorem FnExactCheckOf_walk (c : Int) (_ : (Lit.int .i64 c).wf = true) (s : ByteArray) (hs : s.size ≤ maxLen) (w : World) :
    Calls Try.prog 4 #[.int .i64 c, .string s] w fun e w' => e = .returned (.bool true) ∧ Below w.heap.size w w' := by
  by_cases hlong : 1048576 < s.size
  · have hlong' : (1048576 : Int) < (s.size : Int) := by omega
    go_enter Try.func4, Try.ntmps4
    go_wp2
    go_ret
    exact ⟨rfl, Below.refl _ _⟩
  · by_cases h : 0 ≤ c ∧ c < 65003
    · obtain ⟨h0, h1⟩ := h
      have hshort : (s.size : Int) ≤ 1048576 := by omega
      clear hlong
      go_enter Try.func4, Try.ntmps4
      go_wp2_with (first | (go_at_call 9; refine (specCheckOf_in _ _ h0 h1 hs _).mono ?_; rintro e w' ⟨rfl, rfl⟩) | (go_at_call 10; refine (implCheckOf_in _ _ h0 h1 hs _).mono ?_; rintro e w' ⟨rfl, rfl⟩))
      go_ret
      exact ⟨rfl, Below.refl _ _⟩
    · have h' : c < 0 ∨ 65003 ≤ c := by omega
      have hshort : (s.size : Int) ≤ 1048576 := by omega
      clear hlong h
      go_enter Try.func4, Try.ntmps4
      go_wp2_with (first | (go_at_call 9; refine (specCheckOf_out _ _ h' _).mono ?_; rintro e w' ⟨rfl, rfl⟩) | (go_at_call 10; refine (implCheckOf_out _ _ h' _).mono ?_; rintro e w' ⟨rfl, rfl⟩))
      go_ret
      exact ⟨rfl, Below.refl _ _⟩

theorem FnExactIsSubnormal_walk (a : Nat) (wa : (Lit.float .f32 a).wf = true) (w : World) :
    Calls Try.prog 6 #[.float .f32 a] w fun e w' => e = .returned (.bool true) ∧ Below w.heap.size w w' := by
  have Ha := Lib.hid (Fv_self _ a wa)
  clear wa
  go_enter Try.func6, Try.ntmps6
  go_wp2_with (first | (go_at_call 14; refine (specIsSubnormal_any _ _ Ha.out _).mono ?_; rintro e w' ⟨rfl, rfl⟩) | (go_at_call 15; refine (implIsSubnormal_any _ _).mono ?_; rintro e w' ⟨rfl, rfl⟩))
  go_ret
  exact ⟨rfl, Below.refl _ _⟩

theorem FnExactIsName_walk (s : ByteArray) (hs : s.size ≤ maxLen) (w : World) :
    Calls Try.prog 3 #[.string s] w fun e w' => e = .returned (.bool true) ∧ Below w.heap.size w w' := by
  by_cases hlong : 1048576 < s.size
  · have hlong' : (1048576 : Int) < (s.size : Int) := by omega
    go_enter Try.func3, Try.ntmps3
    go_wp2
    go_ret
    exact ⟨rfl, Below.refl _ _⟩
  · have hshort : (s.size : Int) ≤ 1048576 := by omega
    clear hlong
    go_enter Try.func3, Try.ntmps3
    go_wp2_with (first | (go_at_call 7; refine (specIsName_any _ hs _).mono ?_; rintro e w' ⟨rfl, rfl⟩) | (go_at_call 8; refine (implIsName_any _ _).mono ?_; rintro e w' ⟨rfl, hb⟩))
    go_ret
    exact ⟨rfl, hb⟩
end Go.Proofs.Ytgkkimocmpgfkac
