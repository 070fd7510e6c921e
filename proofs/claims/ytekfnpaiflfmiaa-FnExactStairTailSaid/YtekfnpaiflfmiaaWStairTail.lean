/- The walk of the law FnExactStairTail. -/
import Derived.Test.YtekfnpaiflfmiaaStt
namespace Go.Proofs.Ytekfnpaiflfmiaa
open Go Go.RowKit
set_option linter.unusedVariables false

set_option maxRecDepth 100000 in
set_option maxHeartbeats 800000 in
theorem FnExactStairTail_walk (m : Int) (h_m : (Lit.int .i64 m).wf = true) (n : Int) (h_n : (Lit.int .i64 n).wf = true) (gap : Int) (h_gap : (Lit.int .i64 gap).wf = true) (w : World)  :
    Calls Try.prog 9 #[.int .i64 m, .int .i64 n, .int .i64 gap] w fun e w' => e = .returned (.bool true) ∧ Below w.heap.size w w' := by
  by_cases hv0 : stC m n
  · have HV := Lib.hid hv0
    clear hv0
    obtain ⟨m, rfl⟩ : ∃ q : Nat, m = q := ⟨m.toNat, by have := HV.out; unfold stC at this; omega⟩
    obtain ⟨n, rfl⟩ : ∃ q : Nat, n = q := ⟨n.toNat, by have := HV.out; unfold stC at this; omega⟩
    have HO : Hid ((1 ≤ m ∧ m ≤ 30) ∧ 1 ≤ n ∧ n ≤ 30) := Lib.hid (by have := HV.out; unfold stC at this; omega)
    go_enter Try.func9, Try.ntmps9
    go_wp2_with fail
    refine (specStair_yes m n gap _ HO.out.1.1 HO.out.1.2 HO.out.2.1 HO.out.2.2).mono ?_
    rintro e w1 ⟨rfl, hb⟩
    have hs : Below w.heap.size w w1 := Bel_next (by repeat (first | exact Below.refl _ _ | refine Below.drew ?_ | refine Bel_drewN ?_ _ | refine Below.alloc ?_ (by first | omega | (simp; done) | (simp; omega)) _ | refine Below.setCell ?_ (by first | omega | simp) _)) hb
    have HB1 : Hid (Below w.heap.size w w1) := Lib.hid hs
    have z1 : w.heap.size ≤ w1.heap.size := hs.size
    clear hb hs
    go_wp2_with fail
    refine (implStair_yes m n gap _ HO.out.1.1 HO.out.1.2 HO.out.2.1 HO.out.2.2).mono ?_
    rintro e w2 ⟨rfl, hb⟩
    have hs : Below w1.heap.size w1 w2 := Bel_next (by repeat (first | exact Below.refl _ _ | refine Below.drew ?_ | refine Bel_drewN ?_ _ | refine Below.alloc ?_ (by first | omega | (simp; done) | (simp; omega)) _ | refine Below.setCell ?_ (by first | omega | simp) _)) hb
    have HB2 : Hid (Below w.heap.size w w2) := Lib.hid (Bel_next HB1.out hs)
    have z2 : w1.heap.size ≤ w2.heap.size := hs.size
    clear hb hs HB1
    go_wp2_with fail
    go_ret
    exact ⟨rfl, Bel_next HB2.out (by repeat (first | exact Below.refl _ _ | refine Below.drew ?_ | refine Bel_drewN ?_ _ | refine Below.alloc ?_ (by first | omega | (simp; done) | (simp; omega)) _ | refine Below.setCell ?_ (by first | omega | simp) _))⟩
  have HV := Lib.hid hv0
  clear hv0
  go_enter Try.func9, Try.ntmps9
  go_wp2_with fail
  refine (specStair_no m n gap _ HV.out).mono ?_
  rintro e w1 ⟨rfl, hb⟩
  have hs : Below w.heap.size w w1 := Bel_next (by repeat (first | exact Below.refl _ _ | refine Below.drew ?_ | refine Bel_drewN ?_ _ | refine Below.alloc ?_ (by first | omega | (simp; done) | (simp; omega)) _ | refine Below.setCell ?_ (by first | omega | simp) _)) hb
  have HB1 : Hid (Below w.heap.size w w1) := Lib.hid hs
  have z1 : w.heap.size ≤ w1.heap.size := hs.size
  clear hb hs
  go_wp2_with fail
  refine (implStair_no m n gap _ HV.out).mono ?_
  rintro e w2 ⟨rfl, hb⟩
  have hs : Below w1.heap.size w1 w2 := Bel_next (by repeat (first | exact Below.refl _ _ | refine Below.drew ?_ | refine Bel_drewN ?_ _ | refine Below.alloc ?_ (by first | omega | (simp; done) | (simp; omega)) _ | refine Below.setCell ?_ (by first | omega | simp) _)) hb
  have HB2 : Hid (Below w.heap.size w w2) := Lib.hid (Bel_next HB1.out hs)
  have z2 : w1.heap.size ≤ w2.heap.size := hs.size
  clear hb hs HB1
  go_wp2_with fail
  go_ret
  exact ⟨rfl, Bel_next HB2.out (by repeat (first | exact Below.refl _ _ | refine Below.drew ?_ | refine Bel_drewN ?_ _ | refine Below.alloc ?_ (by first | omega | (simp; done) | (simp; omega)) _ | refine Below.setCell ?_ (by first | omega | simp) _))⟩
end Go.Proofs.Ytekfnpaiflfmiaa
