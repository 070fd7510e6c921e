/- The walk of the law FnExactBellAt. -/
import Derived.Test.YtlafmocmkkjkgaaBa
import Derived.Deep.RegionHeld3
import Derived.Deep.DeepCutAuto
namespace Go.Proofs.Ytlafmocmkkjkgaa
open Go Go.RowKit Fl
set_option linter.unusedVariables false

set_option maxRecDepth 100000 in
set_option maxHeartbeats 20000000 in
theorem FnExactBellAt_walk (p : Nat) (h_p : (Lit.float .f32 p).wf = true) (w : World)  :
    Calls Try.prog 3 #[.float .f32 p] w fun e w' => e = .returned (.bool true) ∧ Below w.heap.size w w' := by
  by_cases hv0 : inB p = true
  · have HV := Lib.hid hv0
    clear hv0
    go_enter Try.func3, Try.ntmps3
    have HS0 : Hid (Below w.heap.size w w) := Lib.hid (Below.refl _ _)
    go_wp2_with fail
    refine (specBa_yes p HV.out _).mono ?_
    rintro e w1 ⟨rs, rfl, hrs, hb⟩
    have z1 : w.heap.size ≤ w1.heap.size := hb.size
    have HS1 : Hid (Below w.heap.size w w1) := Lib.hid (Bel_next HS0.out hb)
    clear HS0 hb
    have HSn : Hid (Below w.heap.size w w1) := Lib.hid (HS1.out)
    clear HS1
    have HS1 := HSn
    clear HSn
    have HRs := Lib.hid hrs
    clear hrs
    go_wp2_with fail
    refine (implBa_yes p HV.out _).mono ?_
    rintro e w2 ⟨rg, rfl, hrg, hb⟩
    have z2 : w1.heap.size ≤ w2.heap.size := hb.size
    have HS2 : Hid (Below w.heap.size w w2) := Lib.hid (Bel_next HS1.out hb)
    clear HS1 hb
    have HSn : Hid (Below w.heap.size w w2) := Lib.hid (HS2.out)
    clear HS2
    have HS2 := HSn
    clear HSn
    have HRg := Lib.hid hrg
    clear hrg
    go_wp2_with (first | (refine wpList_widen_g _ _ _ _ rfl Try.underlying22 Try.underlying26 rfl ?_; intro r n hr) | (go_at_call 17; fail))
    refine (sameFloat_any _ _ (widen (av .f32 (hN p 40).1)) (by rw [← HRg.out.2]; assumption) (by rw [← HRs.out.2]; assumption) _).mono ?_
    rintro e w' ⟨n3, rfl, rfl⟩
    generalize hW : World.drewN _ n3 = w3
    repeat rw [World.drewN_drewN] at hW
    have z3 : w2.heap.size ≤ w3.heap.size := by rw [← hW]; exact Nat.le_refl _
    have HS3 : Hid (Below w.heap.size w w3) := Lib.hid (by rw [← hW]; exact Bel_drewN HS2.out _)
    clear HS2 hW
    go_wp2_with fail
    go_ret
    exact ⟨rfl, Bel_next HS3.out (by repeat (first | with_reducible exact Below.refl _ _ | with_reducible refine Below.drew ?_ | with_reducible refine Bel_drewN ?_ _ | with_reducible refine Below.alloc ?_ (by first | omega | (simp; done) | (simp; omega)) _ | with_reducible refine Below.setCell ?_ (by first | omega | (simp; done) | (simp; omega)) _))⟩
  have HV := Lib.hid hv0
  clear hv0
  go_enter Try.func3, Try.ntmps3
  have HS0 : Hid (Below w.heap.size w w) := Lib.hid (Below.refl _ _)
  go_wp2_with fail
  refine (specBa_no p (by simpa using HV.out) _).mono ?_
  rintro e w1 ⟨rs, rfl, hrs, hb⟩
  have z1 : w.heap.size ≤ w1.heap.size := hb.size
  have HS1 : Hid (Below w.heap.size w w1) := Lib.hid (Bel_next HS0.out hb)
  clear HS0 hb
  have HSn : Hid (Below w.heap.size w w1) := Lib.hid (HS1.out)
  clear HS1
  have HS1 := HSn
  clear HSn
  have HRs := Lib.hid hrs
  clear hrs
  go_wp2_with fail
  refine (implBa_no p (by simpa using HV.out) _).mono ?_
  rintro e w2 ⟨rg, rfl, hrg, hb⟩
  have z2 : w1.heap.size ≤ w2.heap.size := hb.size
  have HS2 : Hid (Below w.heap.size w w2) := Lib.hid (Bel_next HS1.out hb)
  clear HS1 hb
  have HSn : Hid (Below w.heap.size w w2) := Lib.hid (HS2.out)
  clear HS2
  have HS2 := HSn
  clear HSn
  have HRg := Lib.hid hrg
  clear hrg
  go_wp2_with (first | (refine wpList_widen_g _ _ _ _ rfl Try.underlying22 Try.underlying26 rfl ?_; intro r n hr) | (go_at_call 17; fail))
  refine (sameFloat_any _ _ (widen (av .f32 0)) (by rw [← HRg.out.2]; assumption) (by rw [← HRs.out.2]; assumption) _).mono ?_
  rintro e w' ⟨n3, rfl, rfl⟩
  generalize hW : World.drewN _ n3 = w3
  repeat rw [World.drewN_drewN] at hW
  have z3 : w2.heap.size ≤ w3.heap.size := by rw [← hW]; exact Nat.le_refl _
  have HS3 : Hid (Below w.heap.size w w3) := Lib.hid (by rw [← hW]; exact Bel_drewN HS2.out _)
  clear HS2 hW
  go_wp2_with fail
  go_ret
  exact ⟨rfl, Bel_next HS3.out (by repeat (first | with_reducible exact Below.refl _ _ | with_reducible refine Below.drew ?_ | with_reducible refine Bel_drewN ?_ _ | with_reducible refine Below.alloc ?_ (by first | omega | (simp; done) | (simp; omega)) _ | with_reducible refine Below.setCell ?_ (by first | omega | (simp; done) | (simp; omega)) _))⟩
end Go.Proofs.Ytlafmocmkkjkgaa
