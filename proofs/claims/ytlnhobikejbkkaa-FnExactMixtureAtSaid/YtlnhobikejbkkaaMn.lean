/- Means of shares. -/
import Derived.Test.YtlnhobikejbkkaaShr
import Derived.Test.YtlnhobikejbkkaaDot
namespace Go.Proofs.Ytlnhobikejbkkaa
open Go Go.RowKit Fl Vag
set_option linter.unusedVariables false

theorem Fv_fin {v : Option Nat} {r : Nat} (h : Fv .f32 v r) : finA .f32 (av .f32 r) = finA .f32 v := by rw [h.2]
theorem Fv_av0 : Fv .f32 (av .f32 0) 0 := ⟨by decide, rfl⟩
theorem RetF.zero {w w' : World} {e : Ending} {f : Nat → Value} (h : RetB (f 0) w e w') : RetF f (av .f32 0) w e w' := ⟨0, h.1, Fv_av0, h.2⟩
theorem l02Number_fin (x : Nat) (h : finA .f32 (av .f32 x) = true) (w : World) : Calls Try.prog 87 #[.float .f32 x] w (fun e w' => ∃ n, e = .returned (.tuple #[.float .f32 x, .bool true]) ∧ w' = w.drewN n) := by
  go_enter Try.func87, Try.ntmps87
  go_wp2_with (first | (go_at_call 73; fail))
  refine (l01Fin_is _ _ h _).mono ?_
  rintro e w' ⟨n, rfl, rfl⟩
  go_wp2
  go_ret2
  exact ⟨n, rfl, rfl⟩
theorem l02Number_not (x : Nat) (h : finA .f32 (av .f32 x) = false) (w : World) : Calls Try.prog 87 #[.float .f32 x] w (fun e w' => ∃ n, e = .returned (.tuple #[.float .f32 0, .bool false]) ∧ w' = w.drewN n) := by
  go_enter Try.func87, Try.ntmps87
  go_wp2_with (first | (go_at_call 73; fail))
  refine (l01Fin_is _ _ h _).mono ?_
  rintro e w' ⟨n, rfl, rfl⟩
  go_wp2
  go_ret2
  exact ⟨n, rfl, rfl⟩
end Go.Proofs.Ytlnhobikejbkkaa
