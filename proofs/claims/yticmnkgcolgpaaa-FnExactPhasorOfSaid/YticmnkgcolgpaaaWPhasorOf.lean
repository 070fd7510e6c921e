/- The walk of the law FnExactPhasorOf. -/
import Derived.Test.YticmnkgcolgpaaaPhi
import Derived.Test.YticmnkgcolgpaaaSf
namespace Go.Proofs.Yticmnkgcolgpaaa
open Go Go.RowKit Fl
set_option linter.unusedVariables false
theorem wf64P {a : Nat} (h : (Lit.float .f64 a).wf = true) : a < 18446744073709551616 := by simpa [Lit.wf] using h
theorem Bel_drewP {B : Nat} {W w' : World} (h : Below B W w') (n : Nat) : Below B W (w'.drewN n) := ⟨h.os, h.tape, h.output, h.size, h.block⟩
set_option maxRecDepth 100000 in
theorem FnExactPhasorOf_walk (a : Nat) (h_a : (Lit.float .f64 a).wf = true) (w : World) :
    Calls Try.prog 3 #[.float .f64 a] w fun e w' => e = .returned (.bool true) ∧ Below w.heap.size w w' := by
  obtain ⟨u, v, hI, hS⟩ := phasor_both a (wf64P h_a)
  have HI := Lib.hid hI
  have HS := Lib.hid hS
  have hflag : True := trivial
  clear hI hS
  go_enter Try.func3, Try.ntmps3
  go_wp2_with (first
    | (go_at_call 49; refine (HS.out _).mono ?_; rintro e w' ⟨r1, s1, n1, rfl, hr1, hs1, rfl⟩)
    | (go_at_call 15; refine (HI.out _).mono ?_; rintro e w' ⟨r2, s2, n2, rfl, hr2, hs2, rfl⟩)
    | (clear hflag; refine wpList_widenC _ _ _ _ _ rfl Try.underlying23 Try.underlying26 ?_; intro r3 s3 n3 hr3 hs3)
    | (refine wpList_widenC _ _ _ _ _ rfl Try.underlying23 Try.underlying26 ?_; intro r4 s4 n4 hr4 hs4)
    | (go_at_call 16; fail)
    | (go_at_call 14; go_in))
  refine (sameComplex_any r3 s3 r4 s4 (widen u) (widen v) (by rw [← hr2.2]; exact hr3) (by rw [← hs2.2]; exact hs3) (by rw [← hr1.2]; exact hr4) (by rw [← hs1.2]; exact hs4) _).mono ?_
  rintro e w' ⟨n5, rfl, rfl⟩
  go_wp2_with fail
  go_ret
  exact ⟨rfl, Bel_drewP (Below.refl _ _) _⟩
end Go.Proofs.Yticmnkgcolgpaaa
