/- The walks of the laws on single numbers. -/
import Derived.Test.YtgkkimocmpgfkaaNum
import Derived.RowKit3
namespace Go.Proofs.Ytgkkimocmpgfkaa
open Go Go.RowKit Fl

theorem Fv_self (k : FloatKind) (a : Nat) (h : (Lit.float k a).wf = true) : Fv k (av k a) a := by
  refine ⟨?_, rfl⟩
  cases k
  · have : a < 4294967296 := by simpa [Lit.wf] using h
    exact this
  · have : a < 18446744073709551616 := by simpa [Lit.wf] using h
    exact this

theorem Grown_drewN {W w' : World} (h : Grown W w') (n : Nat) : Grown W (w'.drewN n) := h

theorem FnExactSameNumber_walk (a : Nat) (wa : (Lit.float .f32 a).wf = true) (b : Nat) (wb : (Lit.float .f32 b).wf = true) (w : World) :
    Calls Try.prog 6 #[.float .f32 a, .float .f32 b] w fun e w' => e = .returned (.bool true) ∧ Grown w w' := by
  have Ha := Lib.hid (Fv_self _ a wa)
  have Hb := Lib.hid (Fv_self _ b wb)
  clear wa wb
  go_enter Try.func6, Try.ntmps6
  go_wp2_with (first | (go_at_call 50; refine (l01Same_any _ _ _ _ Ha.out Hb.out _).mono ?_; rintro e w' ⟨rfl, rfl⟩) | (go_at_call 31; refine (SameNumber_any _ _ _ _ Ha.out Hb.out _).mono ?_; rintro e w' ⟨rfl, rfl⟩) | go_in)
  go_ret
  exact ⟨rfl, Grown.refl _⟩
theorem FnExactBitsOf_walk (a : Nat) (wa : (Lit.float .f32 a).wf = true) (w : World) :
    Calls Try.prog 8 #[.float .f32 a] w fun e w' => e = .returned (.bool true) ∧ Grown w w' := by
  have Ha := Lib.hid (Fv_self _ a wa)
  clear wa
  go_enter Try.func8, Try.ntmps8
  go_wp2_with (first | (go_at_call 60; refine (l01Bits_any _ _ Ha.out _).mono ?_; rintro e w' ⟨rfl, rfl⟩) | (go_at_call 35; refine (BitsOf_any _ _ Ha.out _).mono ?_; rintro e w' ⟨rfl, rfl⟩) | go_in)
  go_ret
  exact ⟨rfl, Grown.refl _⟩
theorem FnExactIsFinite_walk (a : Nat) (_ : (Lit.float .f32 a).wf = true) (w : World) :
    Calls Try.prog 7 #[.float .f32 a] w fun e w' => e = .returned (.bool true) ∧ Grown w w' := by
  go_enter Try.func7, Try.ntmps7
  go_wp2_with (first | (go_at_call 59; refine (l01Finite_any _ _).mono ?_; rintro e w' ⟨n, rfl, rfl⟩) | (go_at_call 33; refine (IsFinite_any _ _).mono ?_; rintro e w' ⟨n, rfl, rfl⟩) | go_in)
  go_ret
  exact ⟨rfl, Grown_drewN (Grown.refl _) _⟩
theorem FnExactFromBits_walk (n : Int) (_ : (Lit.int .i64 n).wf = true) (w : World) :
    Calls Try.prog 9 #[.int .i64 n] w fun e w' => e = .returned (.bool true) ∧ Grown w w' := by
  by_cases h : 0 ≤ n ∧ n ≤ 4294967295
  · obtain ⟨h1, h2⟩ := h
    go_enter Try.func9, Try.ntmps9
    go_wp2_with (first | (go_at_call 36; refine (specFromBits_in _ h1 h2 _).mono ?_; rintro e w' ⟨rfl, rfl⟩) | (go_at_call 37; refine (implFromBits_in _ h1 h2 _).mono ?_; rintro e w' ⟨rfl, rfl⟩) | (refine wpList_widen _ _ _ _ rfl Try.underlying28 Try.underlying27 ?_; intro r n hr) | (go_at_call 38; refine (sameFloat_any _ _ _ (by assumption) (by assumption) _).mono ?_; rintro e w' ⟨n, rfl, rfl⟩))
    go_ret
    exact ⟨rfl, Grown_drewN (Grown.refl _) _⟩
  · have h' : n < 0 ∨ 4294967295 < n := by omega
    clear h
    go_enter Try.func9, Try.ntmps9
    go_wp2_with (first | (go_at_call 36; refine (specFromBits_out _ h' _).mono ?_; rintro e w' ⟨rfl, rfl⟩) | (go_at_call 37; refine (implFromBits_out _ h' _).mono ?_; rintro e w' ⟨rfl, rfl⟩) | (refine wpList_widen _ _ _ _ rfl Try.underlying28 Try.underlying27 ?_; intro r n hr) | (go_at_call 38; refine (sameFloat_any _ _ _ (by assumption) (by assumption) _).mono ?_; rintro e w' ⟨n, rfl, rfl⟩))
    go_ret
    exact ⟨rfl, Grown_drewN (Grown.refl _) _⟩
end Go.Proofs.Ytgkkimocmpgfkaa
