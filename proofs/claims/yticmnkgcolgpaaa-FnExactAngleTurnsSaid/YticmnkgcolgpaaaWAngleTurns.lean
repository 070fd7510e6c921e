/- The walk of the law FnExactAngleTurns. -/
import Derived.Test.YticmnkgcolgpaaaAth
import Derived.Test.YticmnkgcolgpaaaSf
namespace Go.Proofs.Yticmnkgcolgpaaa
open Go Go.RowKit Fl
set_option linter.unusedVariables false
theorem Bel_drewA {B : Nat} {W w' : World} (h : Below B W w') (n : Nat) : Below B W (w'.drewN n) := ⟨h.os, h.tape, h.output, h.size, h.block⟩
set_option maxRecDepth 100000 in
theorem FnExactAngleTurns_walk (y : Nat) (h_y : (Lit.float .f32 y).wf = true) (x : Nat) (h_x : (Lit.float .f32 x).wf = true) (w : World) :
    Calls Try.prog 11 #[.float .f32 y, .float .f32 x] w fun e w' => e = .returned (.bool true) ∧ Below w.heap.size w w' := by
  have hflag : True := trivial
  go_enter Try.func11, Try.ntmps11
  go_wp2_with (first
    | (go_at_call 82; refine (specAngle_any _ _ _).mono ?_; rintro e w' ⟨r1, n1, rfl, hr1, rfl⟩)
    | (go_at_call 42; refine (implAng_any _ _ _).mono ?_; rintro e w' ⟨r2, n2, rfl, hr2, rfl⟩)
    | (clear hflag; refine wpList_widen _ _ _ _ rfl Try.underlying50 Try.underlying22 ?_; intro r3 n3 hr3)
    | (refine wpList_widen _ _ _ _ rfl Try.underlying50 Try.underlying22 ?_; intro r4 n4 hr4)
    | (go_at_call 40; fail)
    | (go_at_call 41; go_in))
  refine (sameFloat_any _ _ (widen (narrow (angW y x))) (by rw [← hr2.2]; exact hr3) (by rw [← hr1.2]; exact hr4) _).mono ?_
  rintro e w' ⟨n5, rfl, rfl⟩
  go_wp2_with fail
  go_ret
  exact ⟨rfl, Bel_drewA (Below.refl _ _) _⟩
end Go.Proofs.Yticmnkgcolgpaaa
