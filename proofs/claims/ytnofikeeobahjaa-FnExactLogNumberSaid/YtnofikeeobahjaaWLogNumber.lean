/- The walk of the law FnExactLogNumber. -/
import Derived.Test.YtnofikeeobahjaaLy
import Derived.Test.YtnofikeeobahjaaSf
namespace Go.Proofs.Ytnofikeeobahjaa
open Go Go.RowKit Fl
set_option linter.unusedVariables false

theorem wf32 {a : Nat} (h : (Lit.float .f32 a).wf = true) : a < 4294967296 := by simpa [Lit.wf] using h
theorem Bel_drewL {B : Nat} {W w' : World} (h : Below B W w') (n : Nat) : Below B W (w'.drewN n) := ⟨h.os, h.tape, h.output, h.size, h.block⟩
set_option maxRecDepth 100000 in
theorem FnExactLogNumber_walk (a : Nat) (h_a : (Lit.float .f32 a).wf = true) (w : World) :
    Calls Try.prog 8 #[.float .f32 a] w fun e w' => e = .returned (.bool true) ∧ Below w.heap.size w w' := by
  have ha := wf32 h_a
  go_enter Try.func8, Try.ntmps8
  go_wp2_with (first | (go_at_call 60; refine (l01Log_any _ ha _).mono ?_; rintro e w' ⟨r1, n1, rfl, hr1, rfl⟩) | (go_at_call 29; refine (implLog_any _ ha _).mono ?_; rintro e w' ⟨r2, n2, rfl, hr2, rfl⟩) | (refine wpList_widen _ _ _ _ rfl Try.underlying26 Try.underlying32 ?_; intro r n hr) | (go_at_call 19; fail) | (go_at_call 28; go_in))
  refine (sameFloat_any _ _ (widen (logV a)) (by rw [← hr2.2]; assumption) (by rw [← hr1.2]; assumption) _).mono ?_
  rintro e w' ⟨n3, rfl, rfl⟩
  go_wp2_with fail
  go_ret
  exact ⟨rfl, Bel_drewL (Below.refl _ _) _⟩
end Go.Proofs.Ytnofikeeobahjaa
