/- The walk of the law FnExactShareOfTail. -/
import Derived.Test.YtlnhobikejbkkaaSot
import Derived.Test.YtlnhobikejbkkaaVag
namespace Go.Proofs.Ytlnhobikejbkkaa
open Go Go.RowKit Fl
set_option linter.unusedVariables false

set_option maxRecDepth 100000 in
set_option maxHeartbeats 800000 in
theorem FnExactShareOfTail_walk (pp : Int) (h_pp : (Lit.int .i64 pp).wf = true) (aa : Int) (h_aa : (Lit.int .i64 aa).wf = true) (w : World)  :
    Calls Try.prog 4 #[.int .i64 pp, .int .i64 aa] w fun e w' => e = .returned (.bool true) ∧ Below w.heap.size w w' := by
  by_cases hv0 : sotC pp aa
  · have HV := Lib.hid hv0
    clear hv0
    go_enter Try.func4, Try.ntmps4
    go_wp2_with fail
    refine (specSot_yes pp aa _ HV.out).mono ?_
    rintro e w1 ⟨rs, rfl, hrs, hb⟩
    have hs : Below w.heap.size w w1 := Bel_next (by repeat (first | exact Below.refl _ _ | refine Below.drew ?_ | refine Bel_drewN ?_ _ | refine Below.alloc ?_ (by first | omega | (simp; done) | (simp; omega)) _ | refine Below.setCell ?_ (by first | omega | simp) _)) hb
    have HB1 : Hid (Below w.heap.size w w1) := Lib.hid hs
    have z1 : w.heap.size ≤ w1.heap.size := hs.size
    clear hb hs
    have HRs := Lib.hid hrs
    clear hrs
    go_wp2_with fail
    refine (implSot_yes pp aa _ HV.out).mono ?_
    rintro e w2 ⟨rg, rfl, hrg, hb⟩
    have hs : Below w1.heap.size w1 w2 := Bel_next (by repeat (first | exact Below.refl _ _ | refine Below.drew ?_ | refine Bel_drewN ?_ _ | refine Below.alloc ?_ (by first | omega | (simp; done) | (simp; omega)) _ | refine Below.setCell ?_ (by first | omega | simp) _)) hb
    have HB2 : Hid (Below w.heap.size w w2) := Lib.hid (Bel_next HB1.out hs)
    have z2 : w1.heap.size ≤ w2.heap.size := hs.size
    clear hb hs HB1
    have HRg := Lib.hid hrg
    clear hrg
    go_wp2_with (first | (refine wpList_widen_g _ _ _ _ rfl Try.underlying23 Try.underlying28 rfl ?_; intro r n hr) | (go_at_call 18; fail))
    refine (sameFloat_any _ _ (widen (sotV pp aa)) (by rw [← HRg.out.2]; assumption) (by rw [← HRs.out.2]; assumption) _).mono ?_
    rintro e w' ⟨n3, rfl, rfl⟩
    go_wp2_with fail
    go_ret
    exact ⟨rfl, Bel_next HB2.out (by repeat (first | exact Below.refl _ _ | refine Below.drew ?_ | refine Bel_drewN ?_ _ | refine Below.alloc ?_ (by first | omega | (simp; done) | (simp; omega)) _ | refine Below.setCell ?_ (by first | omega | simp) _))⟩
  have HV := Lib.hid hv0
  clear hv0
  go_enter Try.func4, Try.ntmps4
  go_wp2_with fail
  refine ((specSot_no pp aa _ HV.out).mono fun e w1 h => RetF.zro (f := fun r => .tuple #[.float .f32 r, .bool false]) h).mono ?_
  rintro e w1 ⟨rs, rfl, hrs, hb⟩
  have hs : Below w.heap.size w w1 := Bel_next (by repeat (first | exact Below.refl _ _ | refine Below.drew ?_ | refine Bel_drewN ?_ _ | refine Below.alloc ?_ (by first | omega | (simp; done) | (simp; omega)) _ | refine Below.setCell ?_ (by first | omega | simp) _)) hb
  have HB1 : Hid (Below w.heap.size w w1) := Lib.hid hs
  have z1 : w.heap.size ≤ w1.heap.size := hs.size
  clear hb hs
  have HRs := Lib.hid hrs
  clear hrs
  go_wp2_with fail
  refine ((implSot_no pp aa _ HV.out).mono fun e w1 h => RetF.zro (f := fun r => .tuple #[.float .f32 r, .bool false]) h).mono ?_
  rintro e w2 ⟨rg, rfl, hrg, hb⟩
  have hs : Below w1.heap.size w1 w2 := Bel_next (by repeat (first | exact Below.refl _ _ | refine Below.drew ?_ | refine Bel_drewN ?_ _ | refine Below.alloc ?_ (by first | omega | (simp; done) | (simp; omega)) _ | refine Below.setCell ?_ (by first | omega | simp) _)) hb
  have HB2 : Hid (Below w.heap.size w w2) := Lib.hid (Bel_next HB1.out hs)
  have z2 : w1.heap.size ≤ w2.heap.size := hs.size
  clear hb hs HB1
  have HRg := Lib.hid hrg
  clear hrg
  go_wp2_with (first | (refine wpList_widen_g _ _ _ _ rfl Try.underlying23 Try.underlying28 rfl ?_; intro r n hr) | (go_at_call 18; fail))
  refine (sameFloat_any _ _ (widen (av .f32 0)) (by rw [← HRg.out.2]; assumption) (by rw [← HRs.out.2]; assumption) _).mono ?_
  rintro e w' ⟨n3, rfl, rfl⟩
  go_wp2_with fail
  go_ret
  exact ⟨rfl, Bel_next HB2.out (by repeat (first | exact Below.refl _ _ | refine Below.drew ?_ | refine Bel_drewN ?_ _ | refine Below.alloc ?_ (by first | omega | (simp; done) | (simp; omega)) _ | refine Below.setCell ?_ (by first | omega | simp) _))⟩
end Go.Proofs.Ytlnhobikejbkkaa
