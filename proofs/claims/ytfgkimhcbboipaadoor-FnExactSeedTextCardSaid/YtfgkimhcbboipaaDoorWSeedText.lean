/- The walk of the law FnExactSeedText. -/
import Derived.Test.YtfgkimhcbboipaaDoorSdt
import Derived.Test.YtfgkimhcbboipaaDoorSe
namespace Go.Proofs.YtfgkimhcbboipaaDoor
open Go Go.RowKit
set_option linter.unusedVariables false

set_option maxRecDepth 100000 in
set_option maxHeartbeats 800000 in
theorem FnExactSeedText_walk (k : Int) (a b : Nat) (h_k : (Lit.int .i64 k).wf = true) (h_a : a < 18446744073709551616) (h_b : b < 18446744073709551616) (w : World) (hT : Tabs w) :
    Calls Tryd.prog 10 #[sd k a b] w fun e w' => e = .returned (.bool true) ∧ Below w.heap.size w w' := by
  have HT := Lib.hid hT
  clear hT
  by_cases hv0 : vSeed k a b = true
  · have HV := Lib.hid hv0
    clear hv0
    go_enter Tryd.func10, Tryd.ntmps10
    go_wp2_with fail
    refine (toSeed_ret k a b _).mono ?_
    rintro e w1 ⟨rfl, hb⟩
    have hs : Below w.heap.size w w1 := Bel_next (by repeat (first | exact Below.refl _ _ | refine Below.drew ?_ | refine Bel_drewN ?_ _ | refine Below.alloc ?_ (by first | omega | (simp; done) | (simp; omega)) _ | refine Below.setCell ?_ (by first | omega | simp) _)) hb
    have Q0 := Lib.hid ((Whole.made w 51 (sdC k a b)).below hb)
    have yQ0 := Q0.out.lt
    have HB1 : Hid (Below w.heap.size w w1) := Lib.hid hs
    have z1 : w.heap.size ≤ w1.heap.size := hs.size
    clear hb hs
    have hcQ0 := Q0.out.facts.1
    have hzQ0 := Q0.out.lt
    go_wp2_with fail
    clear hcQ0 hzQ0
    refine (specSeedText_yes k a b h_a h_b _ HV.out).mono ?_
    rintro e w2 ⟨rfl, hb⟩
    have hs : Below w1.heap.size w1 w2 := Bel_next (by repeat (first | exact Below.refl _ _ | refine Below.drew ?_ | refine Bel_drewN ?_ _ | refine Below.alloc ?_ (by first | omega | (simp; done) | (simp; omega)) _ | refine Below.setCell ?_ (by first | omega | simp) _)) hb
    replace Q0 := Lib.hid (Whole.below Q0.out hs)
    have HB2 : Hid (Below w.heap.size w w2) := Lib.hid (Bel_next HB1.out hs)
    have z2 : w1.heap.size ≤ w2.heap.size := hs.size
    clear hb hs HB1
    have hcQ0 := Q0.out.facts.1
    have hzQ0 := Q0.out.lt
    go_wp2_with fail
    clear hcQ0 hzQ0
    refine (toSeed_ret k a b _).mono ?_
    rintro e w3 ⟨rfl, hb⟩
    have hs : Below w2.heap.size w2 w3 := Bel_next (by repeat (first | exact Below.refl _ _ | refine Below.drew ?_ | refine Bel_drewN ?_ _ | refine Below.alloc ?_ (by first | omega | (simp; done) | (simp; omega)) _ | refine Below.setCell ?_ (by first | omega | simp) _)) hb
    replace Q0 := Lib.hid (Whole.below Q0.out hs)
    have HB3 : Hid (Below w.heap.size w w3) := Lib.hid (Bel_next HB2.out hs)
    have z3 : w2.heap.size ≤ w3.heap.size := hs.size
    clear hb hs HB2
    have hcQ0 := Q0.out.facts.1
    have hzQ0 := Q0.out.lt
    go_wp2_with fail
    clear hcQ0 hzQ0
    refine (implSeedText_yes k a b h_a h_b _ HV.out (by exact Tabs.below HT.out (Bel_next HB3.out (by repeat (first | exact Below.refl _ _ | refine Below.drew ?_ | refine Bel_drewN ?_ _ | refine Below.alloc ?_ (by first | omega | (simp; done) | (simp; omega)) _ | refine Below.setCell ?_ (by first | omega | simp) _))))).mono ?_
    rintro e w4 ⟨rfl, hb⟩
    have hs : Below w3.heap.size w3 w4 := Bel_next (by repeat (first | exact Below.refl _ _ | refine Below.drew ?_ | refine Bel_drewN ?_ _ | refine Below.alloc ?_ (by first | omega | (simp; done) | (simp; omega)) _ | refine Below.setCell ?_ (by first | omega | simp) _)) hb
    replace Q0 := Lib.hid (Whole.below Q0.out hs)
    have HB4 : Hid (Below w.heap.size w w4) := Lib.hid (Bel_next HB3.out hs)
    have z4 : w3.heap.size ≤ w4.heap.size := hs.size
    clear hb hs HB3
    go_wp2_with fail
    go_ret
    exact ⟨rfl, Bel_next HB4.out (by repeat (first | exact Below.refl _ _ | refine Below.drew ?_ | refine Bel_drewN ?_ _ | refine Below.alloc ?_ (by first | omega | (simp; done) | (simp; omega)) _ | refine Below.setCell ?_ (by first | omega | simp) _))⟩
  have HV := Lib.hid hv0
  clear hv0
  go_enter Tryd.func10, Tryd.ntmps10
  go_wp2_with fail
  refine (toSeed_ret k a b _).mono ?_
  rintro e w1 ⟨rfl, hb⟩
  have hs : Below w.heap.size w w1 := Bel_next (by repeat (first | exact Below.refl _ _ | refine Below.drew ?_ | refine Bel_drewN ?_ _ | refine Below.alloc ?_ (by first | omega | (simp; done) | (simp; omega)) _ | refine Below.setCell ?_ (by first | omega | simp) _)) hb
  have Q0 := Lib.hid ((Whole.made w 51 (sdC k a b)).below hb)
  have yQ0 := Q0.out.lt
  have HB1 : Hid (Below w.heap.size w w1) := Lib.hid hs
  have z1 : w.heap.size ≤ w1.heap.size := hs.size
  clear hb hs
  have hcQ0 := Q0.out.facts.1
  have hzQ0 := Q0.out.lt
  go_wp2_with fail
  clear hcQ0 hzQ0
  refine (specSeedText_no k a b _ (by simpa using HV.out)).mono ?_
  rintro e w2 ⟨rfl, hb⟩
  have hs : Below w1.heap.size w1 w2 := Bel_next (by repeat (first | exact Below.refl _ _ | refine Below.drew ?_ | refine Bel_drewN ?_ _ | refine Below.alloc ?_ (by first | omega | (simp; done) | (simp; omega)) _ | refine Below.setCell ?_ (by first | omega | simp) _)) hb
  replace Q0 := Lib.hid (Whole.below Q0.out hs)
  have HB2 : Hid (Below w.heap.size w w2) := Lib.hid (Bel_next HB1.out hs)
  have z2 : w1.heap.size ≤ w2.heap.size := hs.size
  clear hb hs HB1
  have hcQ0 := Q0.out.facts.1
  have hzQ0 := Q0.out.lt
  go_wp2_with fail
  clear hcQ0 hzQ0
  refine (toSeed_ret k a b _).mono ?_
  rintro e w3 ⟨rfl, hb⟩
  have hs : Below w2.heap.size w2 w3 := Bel_next (by repeat (first | exact Below.refl _ _ | refine Below.drew ?_ | refine Bel_drewN ?_ _ | refine Below.alloc ?_ (by first | omega | (simp; done) | (simp; omega)) _ | refine Below.setCell ?_ (by first | omega | simp) _)) hb
  replace Q0 := Lib.hid (Whole.below Q0.out hs)
  have HB3 : Hid (Below w.heap.size w w3) := Lib.hid (Bel_next HB2.out hs)
  have z3 : w2.heap.size ≤ w3.heap.size := hs.size
  clear hb hs HB2
  have hcQ0 := Q0.out.facts.1
  have hzQ0 := Q0.out.lt
  go_wp2_with fail
  clear hcQ0 hzQ0
  refine (implSeedText_no k a b _ (by simpa using HV.out)).mono ?_
  rintro e w4 ⟨rfl, hb⟩
  have hs : Below w3.heap.size w3 w4 := Bel_next (by repeat (first | exact Below.refl _ _ | refine Below.drew ?_ | refine Bel_drewN ?_ _ | refine Below.alloc ?_ (by first | omega | (simp; done) | (simp; omega)) _ | refine Below.setCell ?_ (by first | omega | simp) _)) hb
  replace Q0 := Lib.hid (Whole.below Q0.out hs)
  have HB4 : Hid (Below w.heap.size w w4) := Lib.hid (Bel_next HB3.out hs)
  have z4 : w3.heap.size ≤ w4.heap.size := hs.size
  clear hb hs HB3
  go_wp2_with fail
  go_ret
  exact ⟨rfl, Bel_next HB4.out (by repeat (first | exact Below.refl _ _ | refine Below.drew ?_ | refine Bel_drewN ?_ _ | refine Below.alloc ?_ (by first | omega | (simp; done) | (simp; omega)) _ | refine Below.setCell ?_ (by first | omega | simp) _))⟩
end Go.Proofs.YtfgkimhcbboipaaDoor
