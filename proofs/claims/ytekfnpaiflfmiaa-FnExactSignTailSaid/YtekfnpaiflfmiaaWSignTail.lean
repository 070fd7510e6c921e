/- The walk of the law FnExactSignTail. -/
import Derived.Test.YtekfnpaiflfmiaaSi
namespace Go.Proofs.Ytekfnpaiflfmiaa
open Go Go.RowKit
set_option linter.unusedVariables false

set_option maxRecDepth 100000 in
set_option maxHeartbeats 800000 in
theorem FnExactSignTail_walk (l : Int) (h_l : (Lit.int .i64 l).wf = true) (m : Int) (h_m : (Lit.int .i64 m).wf = true) (w : World)  :
    Calls Try.prog 8 #[.int .i64 l, .int .i64 m] w fun e w' => e = .returned (.bool true) ∧ Below w.heap.size w w' := by
  by_cases hv0 : sgC l m
  · have HV := Lib.hid hv0
    clear hv0
    obtain ⟨l, rfl⟩ : ∃ q : Nat, l = q := ⟨l.toNat, by have := HV.out; unfold sgC at this; omega⟩
    obtain ⟨m, rfl⟩ : ∃ q : Nat, m = q := ⟨m.toNat, by have := HV.out; unfold sgC at this; omega⟩
    obtain ⟨r, hr⟩ : ∃ r : Nat, min (l : Int) (m : Int) = (r : Int) := ⟨min l m, by omega⟩
    have HR := Lib.hid hr
    have HO : Hid (l + m ≤ 60) := Lib.hid (by have := HV.out; unfold sgC at this; omega)
    clear hr
    go_enter Try.func8, Try.ntmps8
    go_wp2_with fail
    refine (specSign_yes l m r (l + m) _ rfl HR.out HO.out).mono ?_
    rintro e w1 ⟨rfl, hb⟩
    have hs : Below w.heap.size w w1 := Bel_next (by repeat (first | exact Below.refl _ _ | refine Below.drew ?_ | refine Bel_drewN ?_ _ | refine Below.alloc ?_ (by first | omega | (simp; done) | (simp; omega)) _ | refine Below.setCell ?_ (by first | omega | simp) _)) hb
    have HB1 : Hid (Below w.heap.size w w1) := Lib.hid hs
    have z1 : w.heap.size ≤ w1.heap.size := hs.size
    clear hb hs
    go_wp2_with fail
    refine (implSign_yes l m r (l + m) _ rfl HR.out HO.out).mono ?_
    rintro e w2 ⟨rfl, hb⟩
    have hs : Below w1.heap.size w1 w2 := Bel_next (by repeat (first | exact Below.refl _ _ | refine Below.drew ?_ | refine Bel_drewN ?_ _ | refine Below.alloc ?_ (by first | omega | (simp; done) | (simp; omega)) _ | refine Below.setCell ?_ (by first | omega | simp) _)) hb
    have HB2 : Hid (Below w.heap.size w w2) := Lib.hid (Bel_next HB1.out hs)
    have z2 : w1.heap.size ≤ w2.heap.size := hs.size
    clear hb hs HB1
    go_wp2_with fail
    go_ret
    exact ⟨rfl, Bel_next HB2.out (by repeat (first | exact Below.refl _ _ | refine Below.drew ?_ | refine Bel_drewN ?_ _ | refine Below.alloc ?_ (by first | omega | (simp; done) | (simp; omega)) _ | refine Below.setCell ?_ (by first | omega | simp) _))⟩
  have HV := Lib.hid hv0
  clear hv0
  go_enter Try.func8, Try.ntmps8
  go_wp2_with fail
  refine (specSign_no l m _ HV.out (wf_i64b h_l) (wf_i64b h_m)).mono ?_
  rintro e w1 ⟨rfl, hb⟩
  have hs : Below w.heap.size w w1 := Bel_next (by repeat (first | exact Below.refl _ _ | refine Below.drew ?_ | refine Bel_drewN ?_ _ | refine Below.alloc ?_ (by first | omega | (simp; done) | (simp; omega)) _ | refine Below.setCell ?_ (by first | omega | simp) _)) hb
  have HB1 : Hid (Below w.heap.size w w1) := Lib.hid hs
  have z1 : w.heap.size ≤ w1.heap.size := hs.size
  clear hb hs
  go_wp2_with fail
  refine (implSign_no l m _ HV.out (wf_i64b h_l) (wf_i64b h_m)).mono ?_
  rintro e w2 ⟨rfl, hb⟩
  have hs : Below w1.heap.size w1 w2 := Bel_next (by repeat (first | exact Below.refl _ _ | refine Below.drew ?_ | refine Bel_drewN ?_ _ | refine Below.alloc ?_ (by first | omega | (simp; done) | (simp; omega)) _ | refine Below.setCell ?_ (by first | omega | simp) _)) hb
  have HB2 : Hid (Below w.heap.size w w2) := Lib.hid (Bel_next HB1.out hs)
  have z2 : w1.heap.size ≤ w2.heap.size := hs.size
  clear hb hs HB1
  go_wp2_with fail
  go_ret
  exact ⟨rfl, Bel_next HB2.out (by repeat (first | exact Below.refl _ _ | refine Below.drew ?_ | refine Bel_drewN ?_ _ | refine Below.alloc ?_ (by first | omega | (simp; done) | (simp; omega)) _ | refine Below.setCell ?_ (by first | omega | simp) _))⟩
end Go.Proofs.Ytekfnpaiflfmiaa
