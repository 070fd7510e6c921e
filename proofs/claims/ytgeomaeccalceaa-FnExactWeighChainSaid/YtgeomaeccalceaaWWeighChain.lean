/- The walk of the law FnExactWeighChain. -/
import Derived.Test.YtgeomaeccalceaaWen
import Derived.Test.YtgeomaeccalceaaSChain
import Derived.Deep.RegionHeld3
import Derived.Deep.DeepCutAuto
namespace Go.Proofs.Ytgeomaeccalceaa
open Go Go.RowKit Fl
set_option linter.unusedVariables false

set_option maxRecDepth 100000 in
set_option maxHeartbeats 20000000 in
theorem FnExactWeighChain_walk (sn : Int) (h_sn : (Lit.int .i64 sn).wf = true) (ss : List Nat) (ao_ss : Option Addr) (c_ss : Nat) (m_ss : ss.length ≤ 9223372036854775807) (xs : List Nat) (ao_xs : Option Addr) (c_xs : Nat) (w : World) (hx_ss : Holds w ao_ss (fl .f32 ss)) (hx_xs : Holds w ao_xs (fl .f32 xs)) :
    Calls Try.prog 9 #[.agg #[.int .i64 sn, .slice ao_ss ss.length c_ss], .slice ao_xs xs.length c_xs] w fun e w' => e = .returned (.bool true) ∧ Below w.heap.size w w' := by
  by_cases hp0 : 1048576 < xs.length
  case pos =>
    have hl : (1048576 : Int) < (xs.length : Int) := by omega
    clear hp0
    go_enter Try.func9, Try.ntmps9
    have HS0 : Hid (Below w.heap.size w w) := Lib.hid (Below.refl _ _)
    go_wp2
    go_ret
    exact ⟨rfl, (by repeat (first | with_reducible exact Below.refl _ _ | with_reducible refine Below.drew ?_ | with_reducible refine Bel_drewN ?_ _ | with_reducible refine Below.alloc ?_ (by first | omega | (simp; done) | (simp; omega)) _ | with_reducible refine Below.setCell ?_ (by first | omega | (simp; done) | (simp; omega)) _))⟩
  have hs0 : (xs.length : Int) ≤ 1048576 := by omega
  have hn_xs : xs.length ≤ 1048576 := by omega
  clear hp0
  by_cases hl0 : ss.length ≤ 1048576
  case neg =>
    have HL0 := Lib.hid hl0
    clear hl0
    go_enter Try.func9, Try.ntmps9
    have HS0 : Hid (Below w.heap.size w w) := Lib.hid (Below.refl _ _)
    go_wp2_with fail
    generalize hW : World.alloc w _ = w1
    have hb : Below w.heap.size w w1 := by rw [← hW]; exact (by repeat (first | with_reducible exact Below.refl _ _ | with_reducible refine Below.drew ?_ | with_reducible refine Bel_drewN ?_ _ | with_reducible refine Below.alloc ?_ (by first | omega | (simp; done) | (simp; omega)) _ | with_reducible refine Below.setCell ?_ (by first | omega | (simp; done) | (simp; omega)) _))
    have z1 : w.heap.size + 1 ≤ w1.heap.size := by rw [← hW]; simp
    have HS1 : Hid (Whole w1 w.heap.size 27 #[.int .i64 sn, .slice ao_ss ss.length c_ss] ∧ Below w.heap.size w w1) := Lib.hid ⟨by rw [← hW]; exact Whole.made _ _ _, Bel_next HS0.out hb⟩
    clear HS0 hW hb
    refine (szChain_no sn ss _ _ (1048576) _ HL0.out (by omega) m_ss).mono ?_
    rintro e w2 ⟨rfl, hb⟩
    have z2 : w1.heap.size ≤ w2.heap.size := hb.size
    have HS2 : Hid (Whole w2 w.heap.size 27 #[.int .i64 sn, .slice ao_ss ss.length c_ss] ∧ Below w.heap.size w w2) := Lib.hid ⟨HS1.out.1.below hb, Bel_next HS1.out.2 hb⟩
    clear HS1 hb
    have hc0 := (HS2.out.1).facts.1
    have hf0 := (HS2.out.1).facts.2
    have hz0 := (HS2.out.1).lt
    go_wp2_with fail
    clear hc0 hf0 hz0
    go_ret
    exact ⟨rfl, Bel_next HS2.out.2 (by repeat (first | with_reducible exact Below.refl _ _ | with_reducible refine Below.drew ?_ | with_reducible refine Bel_drewN ?_ _ | with_reducible refine Below.alloc ?_ (by first | omega | (simp; done) | (simp; omega)) _ | with_reducible refine Below.setCell ?_ (by first | omega | (simp; done) | (simp; omega)) _))⟩
  have HL0 := Lib.hid hl0
  have hn_ss : ss.length ≤ 1048576 := by omega
  clear hl0
  have HX_ss := Lib.hid hx_ss
  clear hx_ss
  have HX_xs := Lib.hid hx_xs
  clear hx_xs
  by_cases hv0 : weighed sn ss xs ∧ isChain sn (canL ss.length (weiG sn.toNat ss xs))
  · have HV := Lib.hid hv0
    clear hv0
    go_enter Try.func9, Try.ntmps9
    have HS0 : Hid (Below w.heap.size w w) := Lib.hid (Below.refl _ _)
    go_wp2_with fail
    generalize hW : World.alloc w _ = w1
    have hb : Below w.heap.size w w1 := by rw [← hW]; exact (by repeat (first | with_reducible exact Below.refl _ _ | with_reducible refine Below.drew ?_ | with_reducible refine Bel_drewN ?_ _ | with_reducible refine Below.alloc ?_ (by first | omega | (simp; done) | (simp; omega)) _ | with_reducible refine Below.setCell ?_ (by first | omega | (simp; done) | (simp; omega)) _))
    have z1 : w.heap.size + 1 ≤ w1.heap.size := by rw [← hW]; simp
    have HS1 : Hid (Whole w1 w.heap.size 27 #[.int .i64 sn, .slice ao_ss ss.length c_ss] ∧ Below w.heap.size w w1) := Lib.hid ⟨by rw [← hW]; exact Whole.made _ _ _, Bel_next HS0.out hb⟩
    clear HS0 hW hb
    refine (szChain_yes sn ss _ _ (1048576) _ HL0.out (by omega)).mono ?_
    rintro e w2 ⟨rfl, hb⟩
    have z2 : w1.heap.size ≤ w2.heap.size := hb.size
    have HS2 : Hid (Whole w2 w.heap.size 27 #[.int .i64 sn, .slice ao_ss ss.length c_ss] ∧ Below w.heap.size w w2) := Lib.hid ⟨HS1.out.1.below hb, Bel_next HS1.out.2 hb⟩
    clear HS1 hb
    have hc0 := (HS2.out.1).facts.1
    have hf0 := (HS2.out.1).facts.2
    have hz0 := (HS2.out.1).lt
    go_wp2_with fail
    clear hc0 hf0 hz0
    refine (toChain_any sn ss _ _ _ (Holds.below HX_ss.out HS2.out.2) hn_ss).mono ?_
    rintro e w3 ⟨aosc_ss, rfl, rowsc_ss, hb⟩
    have z3 : w2.heap.size ≤ w3.heap.size := hb.size
    have HS3 : Hid (Whole w3 w.heap.size 27 #[.int .i64 sn, .slice ao_ss ss.length c_ss] ∧ Row w3 w2.heap.size w3.heap.size aosc_ss (fl .f32 ss) ∧ Below w.heap.size w w3) := Lib.hid ⟨HS2.out.1.below hb, rowsc_ss, Bel_next HS2.out.2 hb⟩
    clear HS2 hb rowsc_ss
    have hc0 := (HS3.out.1).facts.1
    have hf0 := (HS3.out.1).facts.2
    have hz0 := (HS3.out.1).lt
    go_wp2_with fail
    clear hc0 hf0 hz0
    refine (toFloat32S_row xs _ _ _ (Holds.below HX_xs.out HS3.out.2.2) hn_xs).mono ?_
    rintro e w4 ⟨aosc_xs, rfl, rowsc_xs, hb⟩
    have z4 : w3.heap.size ≤ w4.heap.size := hb.size
    have HS4 : Hid (Whole w4 w.heap.size 27 #[.int .i64 sn, .slice ao_ss ss.length c_ss] ∧ Row w4 w2.heap.size w3.heap.size aosc_ss (fl .f32 ss) ∧ Row w4 w3.heap.size w4.heap.size aosc_xs (fl .f32 xs) ∧ Below w.heap.size w w4) := Lib.hid ⟨HS3.out.1.below hb, HS3.out.2.1.below hb, rowsc_xs, Bel_next HS3.out.2.2 hb⟩
    clear HS3 hb rowsc_xs
    have hc0 := (HS4.out.1).facts.1
    have hf0 := (HS4.out.1).facts.2
    have hz0 := (HS4.out.1).lt
    go_wp2_with fail
    clear hc0 hf0 hz0
    refine (specWei_is sn ss xs _ _ rfl rfl _ _ _ _ _ (HS4.out.2.1).holds (HS4.out.2.2.1).holds hn_ss hn_xs HV.out).mono ?_
    rintro e w5 ⟨aos, ccs, rfl, rows, hb⟩
    have z5 : w4.heap.size ≤ w5.heap.size := hb.size
    have HS5 : Hid (Whole w5 w.heap.size 27 #[.int .i64 sn, .slice ao_ss ss.length c_ss] ∧ Row w5 w2.heap.size w3.heap.size aosc_ss (fl .f32 ss) ∧ Row w5 w3.heap.size w4.heap.size aosc_xs (fl .f32 xs) ∧ Row w5 w4.heap.size w5.heap.size aos (fl .f32 (canL ss.length (weiG sn.toNat ss xs))) ∧ Below w.heap.size w w5) := Lib.hid ⟨HS4.out.1.below hb, HS4.out.2.1.below hb, HS4.out.2.2.1.below hb, rows, Bel_next HS4.out.2.2.2 hb⟩
    clear HS4 hb rows
    have HSn : Hid (Whole w5 w.heap.size 27 #[.int .i64 sn, .slice ao_ss ss.length c_ss] ∧ Row w5 w4.heap.size w5.heap.size aos (fl .f32 (canL ss.length (weiG sn.toNat ss xs))) ∧ Below w.heap.size w w5) := Lib.hid ⟨HS5.out.1, HS5.out.2.2.2.1, HS5.out.2.2.2.2⟩
    clear HS5
    have HS5 := HSn
    clear HSn
    have hc0 := (HS5.out.1).facts.1
    have hf0 := (HS5.out.1).facts.2
    have hz0 := (HS5.out.1).lt
    go_wp2_with fail
    clear hc0 hf0 hz0
    generalize hW : World.alloc w5 _ = w6
    have hb : Below w5.heap.size w5 w6 := by rw [← hW]; exact (by repeat (first | with_reducible exact Below.refl _ _ | with_reducible refine Below.drew ?_ | with_reducible refine Bel_drewN ?_ _ | with_reducible refine Below.alloc ?_ (by first | omega | (simp; done) | (simp; omega)) _ | with_reducible refine Below.setCell ?_ (by first | omega | (simp; done) | (simp; omega)) _))
    have z6 : w5.heap.size + 1 ≤ w6.heap.size := by rw [← hW]; simp
    have HS6 : Hid (Whole w6 w.heap.size 27 #[.int .i64 sn, .slice ao_ss ss.length c_ss] ∧ Row w6 w4.heap.size w5.heap.size aos (fl .f32 (canL ss.length (weiG sn.toNat ss xs))) ∧ Whole w6 w5.heap.size 34 #[.int .i64 sn, .slice aos ss.length ccs] ∧ Below w.heap.size w w6) := Lib.hid ⟨HS5.out.1.below hb, HS5.out.2.1.below hb, by rw [← hW]; exact Whole.made _ _ _, Bel_next HS5.out.2.2 hb⟩
    clear HS5 hW hb
    refine (toChain_any sn ss _ _ _ (Holds.below HX_ss.out HS6.out.2.2.2) hn_ss).mono ?_
    rintro e w7 ⟨aoX_ss, rfl, rowX_ss, hb⟩
    have z7 : w6.heap.size ≤ w7.heap.size := hb.size
    have HS7 : Hid (Whole w7 w.heap.size 27 #[.int .i64 sn, .slice ao_ss ss.length c_ss] ∧ Row w7 w4.heap.size w5.heap.size aos (fl .f32 (canL ss.length (weiG sn.toNat ss xs))) ∧ Whole w7 w5.heap.size 34 #[.int .i64 sn, .slice aos ss.length ccs] ∧ Row w7 w6.heap.size w7.heap.size aoX_ss (fl .f32 ss) ∧ Below w.heap.size w w7) := Lib.hid ⟨HS6.out.1.below hb, HS6.out.2.1.below hb, HS6.out.2.2.1.below hb, rowX_ss, Bel_next HS6.out.2.2.2 hb⟩
    clear HS6 hb rowX_ss
    have hc0 := (HS7.out.1).facts.1
    have hf0 := (HS7.out.1).facts.2
    have hz0 := (HS7.out.1).lt
    have hc2 := (HS7.out.2.2.1).facts.1
    have hf2 := (HS7.out.2.2.1).facts.2
    have hz2 := (HS7.out.2.2.1).lt
    go_wp2_with fail
    clear hc0 hf0 hz0
    clear hc2 hf2 hz2
    generalize hW : World.alloc w7 _ = w8
    have hb : Below w7.heap.size w7 w8 := by rw [← hW]; exact (by repeat (first | with_reducible exact Below.refl _ _ | with_reducible refine Below.drew ?_ | with_reducible refine Bel_drewN ?_ _ | with_reducible refine Below.alloc ?_ (by first | omega | (simp; done) | (simp; omega)) _ | with_reducible refine Below.setCell ?_ (by first | omega | (simp; done) | (simp; omega)) _))
    have z8 : w7.heap.size + 1 ≤ w8.heap.size := by rw [← hW]; simp
    have HS8 : Hid (Whole w8 w.heap.size 27 #[.int .i64 sn, .slice ao_ss ss.length c_ss] ∧ Row w8 w4.heap.size w5.heap.size aos (fl .f32 (canL ss.length (weiG sn.toNat ss xs))) ∧ Whole w8 w5.heap.size 34 #[.int .i64 sn, .slice aos ss.length ccs] ∧ Row w8 w6.heap.size w7.heap.size aoX_ss (fl .f32 ss) ∧ Whole w8 w7.heap.size 34 #[.int .i64 sn, .slice aoX_ss ss.length ss.length] ∧ Below w.heap.size w w8) := Lib.hid ⟨HS7.out.1.below hb, HS7.out.2.1.below hb, HS7.out.2.2.1.below hb, HS7.out.2.2.2.1.below hb, by rw [← hW]; exact Whole.made _ _ _, Bel_next HS7.out.2.2.2.2 hb⟩
    clear HS7 hW hb
    refine (toFloat32S_row xs _ _ _ (Holds.below HX_xs.out HS8.out.2.2.2.2.2) hn_xs).mono ?_
    rintro e w9 ⟨aoX_xs, rfl, rowX_xs, hb⟩
    have z9 : w8.heap.size ≤ w9.heap.size := hb.size
    have HS9 : Hid (Whole w9 w.heap.size 27 #[.int .i64 sn, .slice ao_ss ss.length c_ss] ∧ Row w9 w4.heap.size w5.heap.size aos (fl .f32 (canL ss.length (weiG sn.toNat ss xs))) ∧ Whole w9 w5.heap.size 34 #[.int .i64 sn, .slice aos ss.length ccs] ∧ Row w9 w6.heap.size w7.heap.size aoX_ss (fl .f32 ss) ∧ Whole w9 w7.heap.size 34 #[.int .i64 sn, .slice aoX_ss ss.length ss.length] ∧ Row w9 w8.heap.size w9.heap.size aoX_xs (fl .f32 xs) ∧ Below w.heap.size w w9) := Lib.hid ⟨HS8.out.1.below hb, HS8.out.2.1.below hb, HS8.out.2.2.1.below hb, HS8.out.2.2.2.1.below hb, HS8.out.2.2.2.2.1.below hb, rowX_xs, Bel_next HS8.out.2.2.2.2.2 hb⟩
    clear HS8 hb rowX_xs
    have hc0 := (HS9.out.1).facts.1
    have hf0 := (HS9.out.1).facts.2
    have hz0 := (HS9.out.1).lt
    have hc2 := (HS9.out.2.2.1).facts.1
    have hf2 := (HS9.out.2.2.1).facts.2
    have hz2 := (HS9.out.2.2.1).lt
    have hc4 := (HS9.out.2.2.2.2.1).facts.1
    have hf4 := (HS9.out.2.2.2.2.1).facts.2
    have hz4 := (HS9.out.2.2.2.2.1).lt
    go_wp2_with fail
    clear hc0 hf0 hz0
    clear hc2 hf2 hz2
    clear hc4 hf4 hz4
    refine (implWei_is sn ss xs _ _ rfl rfl _ _ _ _ _ (HS9.out.2.2.2.1).holds (HS9.out.2.2.2.2.2.1).holds hn_ss hn_xs (Nat.le_refl _) HV.out).mono ?_
    rintro e w10 ⟨aog, ccg, rfl, rowg, hb⟩
    have z10 : w9.heap.size ≤ w10.heap.size := hb.size
    have HS10 : Hid (Whole w10 w.heap.size 27 #[.int .i64 sn, .slice ao_ss ss.length c_ss] ∧ Row w10 w4.heap.size w5.heap.size aos (fl .f32 (canL ss.length (weiG sn.toNat ss xs))) ∧ Whole w10 w5.heap.size 34 #[.int .i64 sn, .slice aos ss.length ccs] ∧ Row w10 w6.heap.size w7.heap.size aoX_ss (fl .f32 ss) ∧ Whole w10 w7.heap.size 34 #[.int .i64 sn, .slice aoX_ss ss.length ss.length] ∧ Row w10 w8.heap.size w9.heap.size aoX_xs (fl .f32 xs) ∧ Row w10 w9.heap.size w10.heap.size aog (fl .f32 (canL ss.length (weiG sn.toNat ss xs))) ∧ Below w.heap.size w w10) := Lib.hid ⟨HS9.out.1.below hb, HS9.out.2.1.below hb, HS9.out.2.2.1.below hb, HS9.out.2.2.2.1.below hb, HS9.out.2.2.2.2.1.below hb, HS9.out.2.2.2.2.2.1.below hb, rowg, Bel_next HS9.out.2.2.2.2.2.2 hb⟩
    clear HS9 hb rowg
    have HSn : Hid (Whole w10 w.heap.size 27 #[.int .i64 sn, .slice ao_ss ss.length c_ss] ∧ Row w10 w4.heap.size w5.heap.size aos (fl .f32 (canL ss.length (weiG sn.toNat ss xs))) ∧ Whole w10 w5.heap.size 34 #[.int .i64 sn, .slice aos ss.length ccs] ∧ Row w10 w6.heap.size w7.heap.size aoX_ss (fl .f32 ss) ∧ Whole w10 w7.heap.size 34 #[.int .i64 sn, .slice aoX_ss ss.length ss.length] ∧ Row w10 w8.heap.size w9.heap.size aoX_xs (fl .f32 xs) ∧ Row w10 w9.heap.size w10.heap.size aog (fl .f32 (canL ss.length (weiG sn.toNat ss xs))) ∧ Below w.heap.size w w10) := Lib.hid ⟨HS10.out.1, HS10.out.2.1, HS10.out.2.2.1, HS10.out.2.2.2.1, HS10.out.2.2.2.2.1, HS10.out.2.2.2.2.2.1, HS10.out.2.2.2.2.2.2.1, HS10.out.2.2.2.2.2.2.2⟩
    clear HS10
    have HS10 := HSn
    clear HSn
    have hc0 := (HS10.out.1).facts.1
    have hf0 := (HS10.out.1).facts.2
    have hz0 := (HS10.out.1).lt
    have hc2 := (HS10.out.2.2.1).facts.1
    have hf2 := (HS10.out.2.2.1).facts.2
    have hz2 := (HS10.out.2.2.1).lt
    have hc4 := (HS10.out.2.2.2.2.1).facts.1
    have hf4 := (HS10.out.2.2.2.2.1).facts.2
    have hz4 := (HS10.out.2.2.2.2.1).lt
    go_wp2_with fail
    clear hc0 hf0 hz0
    clear hc2 hf2 hz2
    clear hc4 hf4 hz4
    generalize hW : World.alloc w10 _ = w11
    have hb : Below w10.heap.size w10 w11 := by rw [← hW]; exact (by repeat (first | with_reducible exact Below.refl _ _ | with_reducible refine Below.drew ?_ | with_reducible refine Bel_drewN ?_ _ | with_reducible refine Below.alloc ?_ (by first | omega | (simp; done) | (simp; omega)) _ | with_reducible refine Below.setCell ?_ (by first | omega | (simp; done) | (simp; omega)) _))
    have z11 : w10.heap.size + 1 ≤ w11.heap.size := by rw [← hW]; simp
    have HS11 : Hid (Whole w11 w.heap.size 27 #[.int .i64 sn, .slice ao_ss ss.length c_ss] ∧ Row w11 w4.heap.size w5.heap.size aos (fl .f32 (canL ss.length (weiG sn.toNat ss xs))) ∧ Whole w11 w5.heap.size 34 #[.int .i64 sn, .slice aos ss.length ccs] ∧ Row w11 w6.heap.size w7.heap.size aoX_ss (fl .f32 ss) ∧ Whole w11 w7.heap.size 34 #[.int .i64 sn, .slice aoX_ss ss.length ss.length] ∧ Row w11 w8.heap.size w9.heap.size aoX_xs (fl .f32 xs) ∧ Row w11 w9.heap.size w10.heap.size aog (fl .f32 (canL ss.length (weiG sn.toNat ss xs))) ∧ Whole w11 w10.heap.size 34 #[.int .i64 sn, .slice aog ss.length ccg] ∧ Below w.heap.size w w11) := Lib.hid ⟨HS10.out.1.below hb, HS10.out.2.1.below hb, HS10.out.2.2.1.below hb, HS10.out.2.2.2.1.below hb, HS10.out.2.2.2.2.1.below hb, HS10.out.2.2.2.2.2.1.below hb, HS10.out.2.2.2.2.2.2.1.below hb, by rw [← hW]; exact Whole.made _ _ _, Bel_next HS10.out.2.2.2.2.2.2.2 hb⟩
    clear HS10 hW hb
    refine (eqChain_same (sn) (canL ss.length (weiG sn.toNat ss xs)) (ss.length) (canL_len _ _) _ _ _ _ _ HS11.out.2.2.2.2.2.2.1.holds HS11.out.2.1.holds (by omega)).mono ?_
    rintro e w12 ⟨rfl, hb⟩
    have z12 : w11.heap.size ≤ w12.heap.size := hb.size
    have HS12 : Hid (Whole w12 w.heap.size 27 #[.int .i64 sn, .slice ao_ss ss.length c_ss] ∧ Row w12 w4.heap.size w5.heap.size aos (fl .f32 (canL ss.length (weiG sn.toNat ss xs))) ∧ Whole w12 w5.heap.size 34 #[.int .i64 sn, .slice aos ss.length ccs] ∧ Row w12 w6.heap.size w7.heap.size aoX_ss (fl .f32 ss) ∧ Whole w12 w7.heap.size 34 #[.int .i64 sn, .slice aoX_ss ss.length ss.length] ∧ Row w12 w8.heap.size w9.heap.size aoX_xs (fl .f32 xs) ∧ Row w12 w9.heap.size w10.heap.size aog (fl .f32 (canL ss.length (weiG sn.toNat ss xs))) ∧ Whole w12 w10.heap.size 34 #[.int .i64 sn, .slice aog ss.length ccg] ∧ Below w.heap.size w w12) := Lib.hid ⟨HS11.out.1.below hb, HS11.out.2.1.below hb, HS11.out.2.2.1.below hb, HS11.out.2.2.2.1.below hb, HS11.out.2.2.2.2.1.below hb, HS11.out.2.2.2.2.2.1.below hb, HS11.out.2.2.2.2.2.2.1.below hb, HS11.out.2.2.2.2.2.2.2.1.below hb, Bel_next HS11.out.2.2.2.2.2.2.2.2 hb⟩
    clear HS11 hb
    have hc0 := (HS12.out.1).facts.1
    have hf0 := (HS12.out.1).facts.2
    have hz0 := (HS12.out.1).lt
    have hc2 := (HS12.out.2.2.1).facts.1
    have hf2 := (HS12.out.2.2.1).facts.2
    have hz2 := (HS12.out.2.2.1).lt
    have hc4 := (HS12.out.2.2.2.2.1).facts.1
    have hf4 := (HS12.out.2.2.2.2.1).facts.2
    have hz4 := (HS12.out.2.2.2.2.1).lt
    have hc7 := (HS12.out.2.2.2.2.2.2.2.1).facts.1
    have hf7 := (HS12.out.2.2.2.2.2.2.2.1).facts.2
    have hz7 := (HS12.out.2.2.2.2.2.2.2.1).lt
    go_wp2_with fail
    clear hc0 hf0 hz0
    clear hc2 hf2 hz2
    clear hc4 hf4 hz4
    clear hc7 hf7 hz7
    have HK : Hid (∀ v v' : World, (v.cell? ⟨w7.heap.size, 0, none⟩ = some (.int .i64 sn) ∧ v.cell? ⟨w7.heap.size, 1, none⟩ = some (.slice aoX_ss ss.length ss.length) ∧ v.cell? ⟨w.heap.size, 0, none⟩ = some (.int .i64 sn) ∧ v.cell? ⟨w.heap.size, 1, none⟩ = some (.slice ao_ss ss.length c_ss) ∧ w12.heap.size ≤ v.heap.size ∧ Whole v w.heap.size 27 #[.int .i64 sn, .slice ao_ss ss.length c_ss] ∧ Row v w4.heap.size w5.heap.size aos (fl .f32 (canL ss.length (weiG sn.toNat ss xs))) ∧ Whole v w5.heap.size 34 #[.int .i64 sn, .slice aos ss.length ccs] ∧ Row v w6.heap.size w7.heap.size aoX_ss (fl .f32 ss) ∧ Whole v w7.heap.size 34 #[.int .i64 sn, .slice aoX_ss ss.length ss.length] ∧ Row v w8.heap.size w9.heap.size aoX_xs (fl .f32 xs) ∧ Row v w9.heap.size w10.heap.size aog (fl .f32 (canL ss.length (weiG sn.toNat ss xs))) ∧ Whole v w10.heap.size 34 #[.int .i64 sn, .slice aog ss.length ccg] ∧ Below w.heap.size w v) → Below v.heap.size v v' → (v'.cell? ⟨w7.heap.size, 0, none⟩ = some (.int .i64 sn) ∧ v'.cell? ⟨w7.heap.size, 1, none⟩ = some (.slice aoX_ss ss.length ss.length) ∧ v'.cell? ⟨w.heap.size, 0, none⟩ = some (.int .i64 sn) ∧ v'.cell? ⟨w.heap.size, 1, none⟩ = some (.slice ao_ss ss.length c_ss) ∧ w12.heap.size ≤ v'.heap.size ∧ Whole v' w.heap.size 27 #[.int .i64 sn, .slice ao_ss ss.length c_ss] ∧ Row v' w4.heap.size w5.heap.size aos (fl .f32 (canL ss.length (weiG sn.toNat ss xs))) ∧ Whole v' w5.heap.size 34 #[.int .i64 sn, .slice aos ss.length ccs] ∧ Row v' w6.heap.size w7.heap.size aoX_ss (fl .f32 ss) ∧ Whole v' w7.heap.size 34 #[.int .i64 sn, .slice aoX_ss ss.length ss.length] ∧ Row v' w8.heap.size w9.heap.size aoX_xs (fl .f32 xs) ∧ Row v' w9.heap.size w10.heap.size aog (fl .f32 (canL ss.length (weiG sn.toNat ss xs))) ∧ Whole v' w10.heap.size 34 #[.int .i64 sn, .slice aog ss.length ccg] ∧ Below w.heap.size w v')) := Lib.hid (fun v v' h hb => ⟨(by rw [Below.cell hb (World.block_lt_of_cell? _ _ h.1)]; exact h.1), (by rw [Below.cell hb (World.block_lt_of_cell? _ _ h.2.1)]; exact h.2.1), (by rw [Below.cell hb (World.block_lt_of_cell? _ _ h.2.2.1)]; exact h.2.2.1), (by rw [Below.cell hb (World.block_lt_of_cell? _ _ h.2.2.2.1)]; exact h.2.2.2.1), Nat.le_trans h.2.2.2.2.1 hb.size, h.2.2.2.2.2.1.below hb, h.2.2.2.2.2.2.1.below hb, h.2.2.2.2.2.2.2.1.below hb, h.2.2.2.2.2.2.2.2.1.below hb, h.2.2.2.2.2.2.2.2.2.1.below hb, h.2.2.2.2.2.2.2.2.2.2.1.below hb, h.2.2.2.2.2.2.2.2.2.2.2.1.below hb, h.2.2.2.2.2.2.2.2.2.2.2.2.1.below hb, Bel_next h.2.2.2.2.2.2.2.2.2.2.2.2.2 hb⟩)
    have HP : Hid (∀ v : World, (v.cell? ⟨w7.heap.size, 0, none⟩ = some (.int .i64 sn) ∧ v.cell? ⟨w7.heap.size, 1, none⟩ = some (.slice aoX_ss ss.length ss.length) ∧ v.cell? ⟨w.heap.size, 0, none⟩ = some (.int .i64 sn) ∧ v.cell? ⟨w.heap.size, 1, none⟩ = some (.slice ao_ss ss.length c_ss) ∧ w12.heap.size ≤ v.heap.size ∧ Whole v w.heap.size 27 #[.int .i64 sn, .slice ao_ss ss.length c_ss] ∧ Row v w4.heap.size w5.heap.size aos (fl .f32 (canL ss.length (weiG sn.toNat ss xs))) ∧ Whole v w5.heap.size 34 #[.int .i64 sn, .slice aos ss.length ccs] ∧ Row v w6.heap.size w7.heap.size aoX_ss (fl .f32 ss) ∧ Whole v w7.heap.size 34 #[.int .i64 sn, .slice aoX_ss ss.length ss.length] ∧ Row v w8.heap.size w9.heap.size aoX_xs (fl .f32 xs) ∧ Row v w9.heap.size w10.heap.size aog (fl .f32 (canL ss.length (weiG sn.toNat ss xs))) ∧ Whole v w10.heap.size 34 #[.int .i64 sn, .slice aog ss.length ccg] ∧ Below w.heap.size w v) → (Whole v w.heap.size 27 #[.int .i64 sn, .slice ao_ss ss.length c_ss] ∧ Row v w4.heap.size w5.heap.size aos (fl .f32 (canL ss.length (weiG sn.toNat ss xs))) ∧ Whole v w5.heap.size 34 #[.int .i64 sn, .slice aos ss.length ccs] ∧ Row v w6.heap.size w7.heap.size aoX_ss (fl .f32 ss) ∧ Whole v w7.heap.size 34 #[.int .i64 sn, .slice aoX_ss ss.length ss.length] ∧ Row v w8.heap.size w9.heap.size aoX_xs (fl .f32 xs) ∧ Row v w9.heap.size w10.heap.size aog (fl .f32 (canL ss.length (weiG sn.toNat ss xs))) ∧ Whole v w10.heap.size 34 #[.int .i64 sn, .slice aog ss.length ccg] ∧ Below w.heap.size w v)) := Lib.hid (fun v h => h.2.2.2.2.2)
    have hR : w12.cell? ⟨w7.heap.size, 0, none⟩ = some (.int .i64 sn) ∧ w12.cell? ⟨w7.heap.size, 1, none⟩ = some (.slice aoX_ss ss.length ss.length) ∧ w12.cell? ⟨w.heap.size, 0, none⟩ = some (.int .i64 sn) ∧ w12.cell? ⟨w.heap.size, 1, none⟩ = some (.slice ao_ss ss.length c_ss) ∧ w12.heap.size ≤ w12.heap.size ∧ Whole w12 w.heap.size 27 #[.int .i64 sn, .slice ao_ss ss.length c_ss] ∧ Row w12 w4.heap.size w5.heap.size aos (fl .f32 (canL ss.length (weiG sn.toNat ss xs))) ∧ Whole w12 w5.heap.size 34 #[.int .i64 sn, .slice aos ss.length ccs] ∧ Row w12 w6.heap.size w7.heap.size aoX_ss (fl .f32 ss) ∧ Whole w12 w7.heap.size 34 #[.int .i64 sn, .slice aoX_ss ss.length ss.length] ∧ Row w12 w8.heap.size w9.heap.size aoX_xs (fl .f32 xs) ∧ Row w12 w9.heap.size w10.heap.size aog (fl .f32 (canL ss.length (weiG sn.toNat ss xs))) ∧ Whole w12 w10.heap.size 34 #[.int .i64 sn, .slice aog ss.length ccg] ∧ Below w.heap.size w w12 := ⟨(HS12.out.2.2.2.2.1).cell 0, (HS12.out.2.2.2.2.1).cell 1, (HS12.out.1).cell 0, (HS12.out.1).cell 1, Nat.le_refl _, HS12.out.1, HS12.out.2.1, HS12.out.2.2.1, HS12.out.2.2.2.1, HS12.out.2.2.2.2.1, HS12.out.2.2.2.2.2.1, HS12.out.2.2.2.2.2.2.1, HS12.out.2.2.2.2.2.2.2.1, HS12.out.2.2.2.2.2.2.2.2⟩
    go_region_held3 (fun v => v.cell? ⟨w7.heap.size, 0, none⟩ = some (.int .i64 sn) ∧ v.cell? ⟨w7.heap.size, 1, none⟩ = some (.slice aoX_ss ss.length ss.length) ∧ v.cell? ⟨w.heap.size, 0, none⟩ = some (.int .i64 sn) ∧ v.cell? ⟨w.heap.size, 1, none⟩ = some (.slice ao_ss ss.length c_ss) ∧ w12.heap.size ≤ v.heap.size ∧ Whole v w.heap.size 27 #[.int .i64 sn, .slice ao_ss ss.length c_ss] ∧ Row v w4.heap.size w5.heap.size aos (fl .f32 (canL ss.length (weiG sn.toNat ss xs))) ∧ Whole v w5.heap.size 34 #[.int .i64 sn, .slice aos ss.length ccs] ∧ Row v w6.heap.size w7.heap.size aoX_ss (fl .f32 ss) ∧ Whole v w7.heap.size 34 #[.int .i64 sn, .slice aoX_ss ss.length ss.length] ∧ Row v w8.heap.size w9.heap.size aoX_xs (fl .f32 xs) ∧ Row v w9.heap.size w10.heap.size aog (fl .f32 (canL ss.length (weiG sn.toNat ss xs))) ∧ Whole v w10.heap.size 34 #[.int .i64 sn, .slice aog ss.length ccg] ∧ Below w.heap.size w v)
      (first | assumption | exact HK.out _ _ (by assumption) (by assumption) | exact HK.out _ _ (by assumption) ((Below.refl _ _).drew) | (refine HK.out _ _ (by assumption) ?_; (repeat (first | with_reducible exact Below.refl _ _ | with_reducible refine Below.drew ?_ | with_reducible refine Bel_drewN ?_ _ | with_reducible refine Below.alloc ?_ (by first | omega | (simp; done) | (simp; omega)) _ | with_reducible refine Below.setCell ?_ (by first | omega | (simp; done) | (simp; omega)) _)); done))
      (first | (go_at_call 18; refine (toChain_any sn ss _ _ _ (Holds.below HX_ss.out (HP.out _ (by assumption)).2.2.2.2.2.2.2.2) hn_ss).mono ?_; rintro e wt ⟨aoY_ss, rfl, rowY_ss, hbt⟩) | (go_at_call 22; refine (eqChain_same sn ss _ rfl _ _ _ _ _ ((HP.out _ (by assumption)).2.2.2.1.holds) (by exact rowY_ss.holds) hn_ss).mono ?_; rintro e w13 ⟨rfl, hb⟩))
    have hN := (HK.out _ _ (HK.out _ _ hR (by first | exact hbt | exact Bel_next (Below.refl _ _).drew hbt | (refine Bel_next ?_ hbt; (repeat (first | with_reducible exact Below.refl _ _ | with_reducible refine Below.drew ?_ | with_reducible refine Bel_drewN ?_ _ | with_reducible refine Below.alloc ?_ (by first | omega | (simp; done) | (simp; omega)) _ | with_reducible refine Below.setCell ?_ (by first | omega | (simp; done) | (simp; omega)) _)); done))) (by first | exact hb | exact Bel_next (Below.refl _ _).drew hb | (refine Bel_next ?_ hb; (repeat (first | with_reducible exact Below.refl _ _ | with_reducible refine Below.drew ?_ | with_reducible refine Bel_drewN ?_ _ | with_reducible refine Below.alloc ?_ (by first | omega | (simp; done) | (simp; omega)) _ | with_reducible refine Below.setCell ?_ (by first | omega | (simp; done) | (simp; omega)) _)); done)))
    have z13 : w12.heap.size ≤ w13.heap.size := hN.2.2.2.2.1
    have HS13 : Hid (Whole w13 w.heap.size 27 #[.int .i64 sn, .slice ao_ss ss.length c_ss] ∧ Row w13 w4.heap.size w5.heap.size aos (fl .f32 (canL ss.length (weiG sn.toNat ss xs))) ∧ Whole w13 w5.heap.size 34 #[.int .i64 sn, .slice aos ss.length ccs] ∧ Row w13 w6.heap.size w7.heap.size aoX_ss (fl .f32 ss) ∧ Whole w13 w7.heap.size 34 #[.int .i64 sn, .slice aoX_ss ss.length ss.length] ∧ Row w13 w8.heap.size w9.heap.size aoX_xs (fl .f32 xs) ∧ Row w13 w9.heap.size w10.heap.size aog (fl .f32 (canL ss.length (weiG sn.toNat ss xs))) ∧ Whole w13 w10.heap.size 34 #[.int .i64 sn, .slice aog ss.length ccg] ∧ Below w.heap.size w w13) := Lib.hid ⟨hN.2.2.2.2.2.1, hN.2.2.2.2.2.2.1, hN.2.2.2.2.2.2.2.1, hN.2.2.2.2.2.2.2.2.1, hN.2.2.2.2.2.2.2.2.2.1, hN.2.2.2.2.2.2.2.2.2.2.1, hN.2.2.2.2.2.2.2.2.2.2.2.1, hN.2.2.2.2.2.2.2.2.2.2.2.2.1, hN.2.2.2.2.2.2.2.2.2.2.2.2.2⟩
    clear HS12 hN hR HK HP hb hbt
    clear rowY_ss
    have hc0 := (HS13.out.1).facts.1
    have hf0 := (HS13.out.1).facts.2
    have hz0 := (HS13.out.1).lt
    have hc2 := (HS13.out.2.2.1).facts.1
    have hf2 := (HS13.out.2.2.1).facts.2
    have hz2 := (HS13.out.2.2.1).lt
    have hc4 := (HS13.out.2.2.2.2.1).facts.1
    have hf4 := (HS13.out.2.2.2.2.1).facts.2
    have hz4 := (HS13.out.2.2.2.2.1).lt
    have hc7 := (HS13.out.2.2.2.2.2.2.2.1).facts.1
    have hf7 := (HS13.out.2.2.2.2.2.2.2.1).facts.2
    have hz7 := (HS13.out.2.2.2.2.2.2.2.1).lt
    go_wp2_with fail
    clear hc0 hf0 hz0
    clear hc2 hf2 hz2
    clear hc4 hf4 hz4
    clear hc7 hf7 hz7
    refine (toFloat32S_row xs _ _ _ (Holds.below HX_xs.out HS13.out.2.2.2.2.2.2.2.2) hn_xs).mono ?_
    rintro e w14 ⟨aoY_xs, rfl, rowY_xs, hb⟩
    have z14 : w13.heap.size ≤ w14.heap.size := hb.size
    have HS14 : Hid (Whole w14 w.heap.size 27 #[.int .i64 sn, .slice ao_ss ss.length c_ss] ∧ Row w14 w4.heap.size w5.heap.size aos (fl .f32 (canL ss.length (weiG sn.toNat ss xs))) ∧ Whole w14 w5.heap.size 34 #[.int .i64 sn, .slice aos ss.length ccs] ∧ Row w14 w6.heap.size w7.heap.size aoX_ss (fl .f32 ss) ∧ Whole w14 w7.heap.size 34 #[.int .i64 sn, .slice aoX_ss ss.length ss.length] ∧ Row w14 w8.heap.size w9.heap.size aoX_xs (fl .f32 xs) ∧ Row w14 w9.heap.size w10.heap.size aog (fl .f32 (canL ss.length (weiG sn.toNat ss xs))) ∧ Whole w14 w10.heap.size 34 #[.int .i64 sn, .slice aog ss.length ccg] ∧ Row w14 w13.heap.size w14.heap.size aoY_xs (fl .f32 xs) ∧ Below w.heap.size w w14) := Lib.hid ⟨HS13.out.1.below hb, HS13.out.2.1.below hb, HS13.out.2.2.1.below hb, HS13.out.2.2.2.1.below hb, HS13.out.2.2.2.2.1.below hb, HS13.out.2.2.2.2.2.1.below hb, HS13.out.2.2.2.2.2.2.1.below hb, HS13.out.2.2.2.2.2.2.2.1.below hb, rowY_xs, Bel_next HS13.out.2.2.2.2.2.2.2.2 hb⟩
    clear HS13 hb rowY_xs
    have hc0 := (HS14.out.1).facts.1
    have hf0 := (HS14.out.1).facts.2
    have hz0 := (HS14.out.1).lt
    have hc2 := (HS14.out.2.2.1).facts.1
    have hf2 := (HS14.out.2.2.1).facts.2
    have hz2 := (HS14.out.2.2.1).lt
    have hc4 := (HS14.out.2.2.2.2.1).facts.1
    have hf4 := (HS14.out.2.2.2.2.1).facts.2
    have hz4 := (HS14.out.2.2.2.2.1).lt
    have hc7 := (HS14.out.2.2.2.2.2.2.2.1).facts.1
    have hf7 := (HS14.out.2.2.2.2.2.2.2.1).facts.2
    have hz7 := (HS14.out.2.2.2.2.2.2.2.1).lt
    go_wp2_with fail
    clear hc0 hf0 hz0
    clear hc2 hf2 hz2
    clear hc4 hf4 hz4
    clear hc7 hf7 hz7
    refine (eqFloat32S_same xs _ rfl _ _ _ _ _ HS14.out.2.2.2.2.2.1.holds HS14.out.2.2.2.2.2.2.2.2.1.holds (by omega)).mono ?_
    rintro e w15 ⟨rfl, hb⟩
    have z15 : w14.heap.size ≤ w15.heap.size := hb.size
    have HS15 : Hid (Whole w15 w.heap.size 27 #[.int .i64 sn, .slice ao_ss ss.length c_ss] ∧ Row w15 w4.heap.size w5.heap.size aos (fl .f32 (canL ss.length (weiG sn.toNat ss xs))) ∧ Whole w15 w5.heap.size 34 #[.int .i64 sn, .slice aos ss.length ccs] ∧ Row w15 w6.heap.size w7.heap.size aoX_ss (fl .f32 ss) ∧ Whole w15 w7.heap.size 34 #[.int .i64 sn, .slice aoX_ss ss.length ss.length] ∧ Row w15 w8.heap.size w9.heap.size aoX_xs (fl .f32 xs) ∧ Row w15 w9.heap.size w10.heap.size aog (fl .f32 (canL ss.length (weiG sn.toNat ss xs))) ∧ Whole w15 w10.heap.size 34 #[.int .i64 sn, .slice aog ss.length ccg] ∧ Row w15 w13.heap.size w14.heap.size aoY_xs (fl .f32 xs) ∧ Below w.heap.size w w15) := Lib.hid ⟨HS14.out.1.below hb, HS14.out.2.1.below hb, HS14.out.2.2.1.below hb, HS14.out.2.2.2.1.below hb, HS14.out.2.2.2.2.1.below hb, HS14.out.2.2.2.2.2.1.below hb, HS14.out.2.2.2.2.2.2.1.below hb, HS14.out.2.2.2.2.2.2.2.1.below hb, HS14.out.2.2.2.2.2.2.2.2.1.below hb, Bel_next HS14.out.2.2.2.2.2.2.2.2.2 hb⟩
    clear HS14 hb
    have HSn : Hid (Whole w15 w.heap.size 27 #[.int .i64 sn, .slice ao_ss ss.length c_ss] ∧ Row w15 w4.heap.size w5.heap.size aos (fl .f32 (canL ss.length (weiG sn.toNat ss xs))) ∧ Whole w15 w5.heap.size 34 #[.int .i64 sn, .slice aos ss.length ccs] ∧ Row w15 w6.heap.size w7.heap.size aoX_ss (fl .f32 ss) ∧ Whole w15 w7.heap.size 34 #[.int .i64 sn, .slice aoX_ss ss.length ss.length] ∧ Row w15 w8.heap.size w9.heap.size aoX_xs (fl .f32 xs) ∧ Row w15 w9.heap.size w10.heap.size aog (fl .f32 (canL ss.length (weiG sn.toNat ss xs))) ∧ Whole w15 w10.heap.size 34 #[.int .i64 sn, .slice aog ss.length ccg] ∧ Below w.heap.size w w15) := Lib.hid ⟨HS15.out.1, HS15.out.2.1, HS15.out.2.2.1, HS15.out.2.2.2.1, HS15.out.2.2.2.2.1, HS15.out.2.2.2.2.2.1, HS15.out.2.2.2.2.2.2.1, HS15.out.2.2.2.2.2.2.2.1, HS15.out.2.2.2.2.2.2.2.2.2⟩
    clear HS15
    have HS15 := HSn
    clear HSn
    have hc0 := (HS15.out.1).facts.1
    have hf0 := (HS15.out.1).facts.2
    have hz0 := (HS15.out.1).lt
    have hc2 := (HS15.out.2.2.1).facts.1
    have hf2 := (HS15.out.2.2.1).facts.2
    have hz2 := (HS15.out.2.2.1).lt
    have hc4 := (HS15.out.2.2.2.2.1).facts.1
    have hf4 := (HS15.out.2.2.2.2.1).facts.2
    have hz4 := (HS15.out.2.2.2.2.1).lt
    have hc7 := (HS15.out.2.2.2.2.2.2.2.1).facts.1
    have hf7 := (HS15.out.2.2.2.2.2.2.2.1).facts.2
    have hz7 := (HS15.out.2.2.2.2.2.2.2.1).lt
    go_wp2_with fail
    clear hc0 hf0 hz0
    clear hc2 hf2 hz2
    clear hc4 hf4 hz4
    clear hc7 hf7 hz7
    refine (markChain_row sn 1 _ _ _ _ _ _ HS15.out.2.2.2.1 ((fl_len _ _).trans (rfl)) (by omega)).mono ?_
    rintro e w16 ⟨rfl, row, bt⟩
    have z16 : w15.heap.size ≤ w16.heap.size := bt.size
    have HS16 : Hid (Whole w16 w.heap.size 27 #[.int .i64 sn, .slice ao_ss ss.length c_ss] ∧ Row w16 w4.heap.size w5.heap.size aos (fl .f32 (canL ss.length (weiG sn.toNat ss xs))) ∧ Whole w16 w5.heap.size 34 #[.int .i64 sn, .slice aos ss.length ccs] ∧ Row w16 w6.heap.size w7.heap.size aoX_ss (fl .f32 (fmarks 1 ss.length)) ∧ Whole w16 w7.heap.size 34 #[.int .i64 sn, .slice aoX_ss ss.length ss.length] ∧ Row w16 w8.heap.size w9.heap.size aoX_xs (fl .f32 xs) ∧ Row w16 w9.heap.size w10.heap.size aog (fl .f32 (canL ss.length (weiG sn.toNat ss xs))) ∧ Whole w16 w10.heap.size 34 #[.int .i64 sn, .slice aog ss.length ccg] ∧ Below w.heap.size w w16) := Lib.hid ⟨HS15.out.1.buts bt (by omega), HS15.out.2.1.but bt (by omega), HS15.out.2.2.1.buts bt (by omega), row, HS15.out.2.2.2.2.1.buts bt (by omega), HS15.out.2.2.2.2.2.1.but bt (by omega), HS15.out.2.2.2.2.2.2.1.but bt (by omega), HS15.out.2.2.2.2.2.2.2.1.buts bt (by omega), bt.bel HS15.out.2.2.2.2.2.2.2.2 (by omega)⟩
    clear HS15 row bt
    have hc0 := (HS16.out.1).facts.1
    have hf0 := (HS16.out.1).facts.2
    have hz0 := (HS16.out.1).lt
    have hc2 := (HS16.out.2.2.1).facts.1
    have hf2 := (HS16.out.2.2.1).facts.2
    have hz2 := (HS16.out.2.2.1).lt
    have hc4 := (HS16.out.2.2.2.2.1).facts.1
    have hf4 := (HS16.out.2.2.2.2.1).facts.2
    have hz4 := (HS16.out.2.2.2.2.1).lt
    have hc7 := (HS16.out.2.2.2.2.2.2.2.1).facts.1
    have hf7 := (HS16.out.2.2.2.2.2.2.2.1).facts.2
    have hz7 := (HS16.out.2.2.2.2.2.2.2.1).lt
    go_wp2_with fail
    clear hc0 hf0 hz0
    clear hc2 hf2 hz2
    clear hc4 hf4 hz4
    clear hc7 hf7 hz7
    refine (markFloat32S_row (xs.length) _ (1 + ss.length) _ _ _ _ _ HS16.out.2.2.2.2.2.1 ((fl_len _ _).trans (rfl)) (by omega)).mono ?_
    rintro e w17 ⟨rfl, row, bt⟩
    have z17 : w16.heap.size ≤ w17.heap.size := bt.size
    have HS17 : Hid (Whole w17 w.heap.size 27 #[.int .i64 sn, .slice ao_ss ss.length c_ss] ∧ Row w17 w4.heap.size w5.heap.size aos (fl .f32 (canL ss.length (weiG sn.toNat ss xs))) ∧ Whole w17 w5.heap.size 34 #[.int .i64 sn, .slice aos ss.length ccs] ∧ Row w17 w6.heap.size w7.heap.size aoX_ss (fl .f32 (fmarks 1 ss.length)) ∧ Whole w17 w7.heap.size 34 #[.int .i64 sn, .slice aoX_ss ss.length ss.length] ∧ Row w17 w8.heap.size w9.heap.size aoX_xs (fl .f32 (fmarks (1 + ss.length) xs.length)) ∧ Row w17 w9.heap.size w10.heap.size aog (fl .f32 (canL ss.length (weiG sn.toNat ss xs))) ∧ Whole w17 w10.heap.size 34 #[.int .i64 sn, .slice aog ss.length ccg] ∧ Below w.heap.size w w17) := Lib.hid ⟨HS16.out.1.buts bt (by omega), HS16.out.2.1.but bt (by omega), HS16.out.2.2.1.buts bt (by omega), HS16.out.2.2.2.1.but bt (by omega), HS16.out.2.2.2.2.1.buts bt (by omega), row, HS16.out.2.2.2.2.2.2.1.but bt (by omega), HS16.out.2.2.2.2.2.2.2.1.buts bt (by omega), bt.bel HS16.out.2.2.2.2.2.2.2.2 (by omega)⟩
    clear HS16 row bt
    have hc0 := (HS17.out.1).facts.1
    have hf0 := (HS17.out.1).facts.2
    have hz0 := (HS17.out.1).lt
    have hc2 := (HS17.out.2.2.1).facts.1
    have hf2 := (HS17.out.2.2.1).facts.2
    have hz2 := (HS17.out.2.2.1).lt
    have hc4 := (HS17.out.2.2.2.2.1).facts.1
    have hf4 := (HS17.out.2.2.2.2.1).facts.2
    have hz4 := (HS17.out.2.2.2.2.1).lt
    have hc7 := (HS17.out.2.2.2.2.2.2.2.1).facts.1
    have hf7 := (HS17.out.2.2.2.2.2.2.2.1).facts.2
    have hz7 := (HS17.out.2.2.2.2.2.2.2.1).lt
    go_wp2_with fail
    clear hc0 hf0 hz0
    clear hc2 hf2 hz2
    clear hc4 hf4 hz4
    clear hc7 hf7 hz7
    refine (eqChain_same (sn) (canL ss.length (weiG sn.toNat ss xs)) (ss.length) (canL_len _ _) _ _ _ _ _ HS17.out.2.2.2.2.2.2.1.holds HS17.out.2.1.holds (by omega)).mono ?_
    rintro e w18 ⟨rfl, hb⟩
    have z18 : w17.heap.size ≤ w18.heap.size := hb.size
    have HS18 : Hid (Whole w18 w.heap.size 27 #[.int .i64 sn, .slice ao_ss ss.length c_ss] ∧ Row w18 w4.heap.size w5.heap.size aos (fl .f32 (canL ss.length (weiG sn.toNat ss xs))) ∧ Whole w18 w5.heap.size 34 #[.int .i64 sn, .slice aos ss.length ccs] ∧ Row w18 w6.heap.size w7.heap.size aoX_ss (fl .f32 (fmarks 1 ss.length)) ∧ Whole w18 w7.heap.size 34 #[.int .i64 sn, .slice aoX_ss ss.length ss.length] ∧ Row w18 w8.heap.size w9.heap.size aoX_xs (fl .f32 (fmarks (1 + ss.length) xs.length)) ∧ Row w18 w9.heap.size w10.heap.size aog (fl .f32 (canL ss.length (weiG sn.toNat ss xs))) ∧ Whole w18 w10.heap.size 34 #[.int .i64 sn, .slice aog ss.length ccg] ∧ Below w.heap.size w w18) := Lib.hid ⟨HS17.out.1.below hb, HS17.out.2.1.below hb, HS17.out.2.2.1.below hb, HS17.out.2.2.2.1.below hb, HS17.out.2.2.2.2.1.below hb, HS17.out.2.2.2.2.2.1.below hb, HS17.out.2.2.2.2.2.2.1.below hb, HS17.out.2.2.2.2.2.2.2.1.below hb, Bel_next HS17.out.2.2.2.2.2.2.2.2 hb⟩
    clear HS17 hb
    have hc0 := (HS18.out.1).facts.1
    have hf0 := (HS18.out.1).facts.2
    have hz0 := (HS18.out.1).lt
    have hc2 := (HS18.out.2.2.1).facts.1
    have hf2 := (HS18.out.2.2.1).facts.2
    have hz2 := (HS18.out.2.2.1).lt
    have hc4 := (HS18.out.2.2.2.2.1).facts.1
    have hf4 := (HS18.out.2.2.2.2.1).facts.2
    have hz4 := (HS18.out.2.2.2.2.1).lt
    have hc7 := (HS18.out.2.2.2.2.2.2.2.1).facts.1
    have hf7 := (HS18.out.2.2.2.2.2.2.2.1).facts.2
    have hz7 := (HS18.out.2.2.2.2.2.2.2.1).lt
    go_wp2_with fail
    clear hc0 hf0 hz0
    clear hc2 hf2 hz2
    clear hc4 hf4 hz4
    clear hc7 hf7 hz7
    refine (markChain_row (sn) 1 _ _ _ _ _ _ HS18.out.2.2.2.2.2.2.1 ((fl_len _ _).trans (canL_len _ _)) (by omega)).mono ?_
    rintro e w19 ⟨rfl, row, bt⟩
    have z19 : w18.heap.size ≤ w19.heap.size := bt.size
    have HS19 : Hid (Whole w19 w.heap.size 27 #[.int .i64 sn, .slice ao_ss ss.length c_ss] ∧ Row w19 w4.heap.size w5.heap.size aos (fl .f32 (canL ss.length (weiG sn.toNat ss xs))) ∧ Whole w19 w5.heap.size 34 #[.int .i64 sn, .slice aos ss.length ccs] ∧ Row w19 w6.heap.size w7.heap.size aoX_ss (fl .f32 (fmarks 1 ss.length)) ∧ Whole w19 w7.heap.size 34 #[.int .i64 sn, .slice aoX_ss ss.length ss.length] ∧ Row w19 w8.heap.size w9.heap.size aoX_xs (fl .f32 (fmarks (1 + ss.length) xs.length)) ∧ Row w19 w9.heap.size w10.heap.size aog (fl .f32 (fmarks 1 ss.length)) ∧ Whole w19 w10.heap.size 34 #[.int .i64 sn, .slice aog ss.length ccg] ∧ Below w.heap.size w w19) := Lib.hid ⟨HS18.out.1.buts bt (by omega), HS18.out.2.1.but bt (by omega), HS18.out.2.2.1.buts bt (by omega), HS18.out.2.2.2.1.but bt (by omega), HS18.out.2.2.2.2.1.buts bt (by omega), HS18.out.2.2.2.2.2.1.but bt (by omega), row, HS18.out.2.2.2.2.2.2.2.1.buts bt (by omega), bt.bel HS18.out.2.2.2.2.2.2.2.2 (by omega)⟩
    clear HS18 row bt
    have hc0 := (HS19.out.1).facts.1
    have hf0 := (HS19.out.1).facts.2
    have hz0 := (HS19.out.1).lt
    have hc2 := (HS19.out.2.2.1).facts.1
    have hf2 := (HS19.out.2.2.1).facts.2
    have hz2 := (HS19.out.2.2.1).lt
    have hc4 := (HS19.out.2.2.2.2.1).facts.1
    have hf4 := (HS19.out.2.2.2.2.1).facts.2
    have hz4 := (HS19.out.2.2.2.2.1).lt
    have hc7 := (HS19.out.2.2.2.2.2.2.2.1).facts.1
    have hf7 := (HS19.out.2.2.2.2.2.2.2.1).facts.2
    have hz7 := (HS19.out.2.2.2.2.2.2.2.1).lt
    go_wp2_with fail
    clear hc0 hf0 hz0
    clear hc2 hf2 hz2
    clear hc4 hf4 hz4
    clear hc7 hf7 hz7
    refine (heldChain_marks (sn) 1 (ss.length) _ _ _ HS19.out.2.2.2.2.2.2.1.holds (by omega)).mono ?_
    rintro e w20 ⟨rfl, hb⟩
    have z20 : w19.heap.size ≤ w20.heap.size := hb.size
    have HS20 : Hid (Whole w20 w.heap.size 27 #[.int .i64 sn, .slice ao_ss ss.length c_ss] ∧ Row w20 w4.heap.size w5.heap.size aos (fl .f32 (canL ss.length (weiG sn.toNat ss xs))) ∧ Whole w20 w5.heap.size 34 #[.int .i64 sn, .slice aos ss.length ccs] ∧ Row w20 w6.heap.size w7.heap.size aoX_ss (fl .f32 (fmarks 1 ss.length)) ∧ Whole w20 w7.heap.size 34 #[.int .i64 sn, .slice aoX_ss ss.length ss.length] ∧ Row w20 w8.heap.size w9.heap.size aoX_xs (fl .f32 (fmarks (1 + ss.length) xs.length)) ∧ Row w20 w9.heap.size w10.heap.size aog (fl .f32 (fmarks 1 ss.length)) ∧ Whole w20 w10.heap.size 34 #[.int .i64 sn, .slice aog ss.length ccg] ∧ Below w.heap.size w w20) := Lib.hid ⟨HS19.out.1.below hb, HS19.out.2.1.below hb, HS19.out.2.2.1.below hb, HS19.out.2.2.2.1.below hb, HS19.out.2.2.2.2.1.below hb, HS19.out.2.2.2.2.2.1.below hb, HS19.out.2.2.2.2.2.2.1.below hb, HS19.out.2.2.2.2.2.2.2.1.below hb, Bel_next HS19.out.2.2.2.2.2.2.2.2 hb⟩
    clear HS19 hb
    have hc0 := (HS20.out.1).facts.1
    have hf0 := (HS20.out.1).facts.2
    have hz0 := (HS20.out.1).lt
    have hc2 := (HS20.out.2.2.1).facts.1
    have hf2 := (HS20.out.2.2.1).facts.2
    have hz2 := (HS20.out.2.2.1).lt
    have hc4 := (HS20.out.2.2.2.2.1).facts.1
    have hf4 := (HS20.out.2.2.2.2.1).facts.2
    have hz4 := (HS20.out.2.2.2.2.1).lt
    have hc7 := (HS20.out.2.2.2.2.2.2.2.1).facts.1
    have hf7 := (HS20.out.2.2.2.2.2.2.2.1).facts.2
    have hz7 := (HS20.out.2.2.2.2.2.2.2.1).lt
    go_wp2_with fail
    clear hc0 hf0 hz0
    clear hc2 hf2 hz2
    clear hc4 hf4 hz4
    clear hc7 hf7 hz7
    refine (toChain_any sn ss _ _ _ (Holds.below HX_ss.out HS20.out.2.2.2.2.2.2.2.2) hn_ss).mono ?_
    rintro e w21 ⟨aohc_ss, rfl, rowhc_ss, hb⟩
    have z21 : w20.heap.size ≤ w21.heap.size := hb.size
    have HS21 : Hid (Whole w21 w.heap.size 27 #[.int .i64 sn, .slice ao_ss ss.length c_ss] ∧ Row w21 w4.heap.size w5.heap.size aos (fl .f32 (canL ss.length (weiG sn.toNat ss xs))) ∧ Whole w21 w5.heap.size 34 #[.int .i64 sn, .slice aos ss.length ccs] ∧ Row w21 w6.heap.size w7.heap.size aoX_ss (fl .f32 (fmarks 1 ss.length)) ∧ Whole w21 w7.heap.size 34 #[.int .i64 sn, .slice aoX_ss ss.length ss.length] ∧ Row w21 w8.heap.size w9.heap.size aoX_xs (fl .f32 (fmarks (1 + ss.length) xs.length)) ∧ Row w21 w9.heap.size w10.heap.size aog (fl .f32 (fmarks 1 ss.length)) ∧ Whole w21 w10.heap.size 34 #[.int .i64 sn, .slice aog ss.length ccg] ∧ Row w21 w20.heap.size w21.heap.size aohc_ss (fl .f32 ss) ∧ Below w.heap.size w w21) := Lib.hid ⟨HS20.out.1.below hb, HS20.out.2.1.below hb, HS20.out.2.2.1.below hb, HS20.out.2.2.2.1.below hb, HS20.out.2.2.2.2.1.below hb, HS20.out.2.2.2.2.2.1.below hb, HS20.out.2.2.2.2.2.2.1.below hb, HS20.out.2.2.2.2.2.2.2.1.below hb, rowhc_ss, Bel_next HS20.out.2.2.2.2.2.2.2.2 hb⟩
    clear HS20 hb rowhc_ss
    have hc0 := (HS21.out.1).facts.1
    have hf0 := (HS21.out.1).facts.2
    have hz0 := (HS21.out.1).lt
    have hc2 := (HS21.out.2.2.1).facts.1
    have hf2 := (HS21.out.2.2.1).facts.2
    have hz2 := (HS21.out.2.2.1).lt
    have hc4 := (HS21.out.2.2.2.2.1).facts.1
    have hf4 := (HS21.out.2.2.2.2.1).facts.2
    have hz4 := (HS21.out.2.2.2.2.1).lt
    have hc7 := (HS21.out.2.2.2.2.2.2.2.1).facts.1
    have hf7 := (HS21.out.2.2.2.2.2.2.2.1).facts.2
    have hz7 := (HS21.out.2.2.2.2.2.2.2.1).lt
    go_wp2_with fail
    clear hc0 hf0 hz0
    clear hc2 hf2 hz2
    clear hc4 hf4 hz4
    clear hc7 hf7 hz7
    refine (toFloat32S_row xs _ _ _ (Holds.below HX_xs.out HS21.out.2.2.2.2.2.2.2.2.2) hn_xs).mono ?_
    rintro e w22 ⟨aohc_xs, rfl, rowhc_xs, hb⟩
    have z22 : w21.heap.size ≤ w22.heap.size := hb.size
    have HS22 : Hid (Whole w22 w.heap.size 27 #[.int .i64 sn, .slice ao_ss ss.length c_ss] ∧ Row w22 w4.heap.size w5.heap.size aos (fl .f32 (canL ss.length (weiG sn.toNat ss xs))) ∧ Whole w22 w5.heap.size 34 #[.int .i64 sn, .slice aos ss.length ccs] ∧ Row w22 w6.heap.size w7.heap.size aoX_ss (fl .f32 (fmarks 1 ss.length)) ∧ Whole w22 w7.heap.size 34 #[.int .i64 sn, .slice aoX_ss ss.length ss.length] ∧ Row w22 w8.heap.size w9.heap.size aoX_xs (fl .f32 (fmarks (1 + ss.length) xs.length)) ∧ Row w22 w9.heap.size w10.heap.size aog (fl .f32 (fmarks 1 ss.length)) ∧ Whole w22 w10.heap.size 34 #[.int .i64 sn, .slice aog ss.length ccg] ∧ Row w22 w20.heap.size w21.heap.size aohc_ss (fl .f32 ss) ∧ Row w22 w21.heap.size w22.heap.size aohc_xs (fl .f32 xs) ∧ Below w.heap.size w w22) := Lib.hid ⟨HS21.out.1.below hb, HS21.out.2.1.below hb, HS21.out.2.2.1.below hb, HS21.out.2.2.2.1.below hb, HS21.out.2.2.2.2.1.below hb, HS21.out.2.2.2.2.2.1.below hb, HS21.out.2.2.2.2.2.2.1.below hb, HS21.out.2.2.2.2.2.2.2.1.below hb, HS21.out.2.2.2.2.2.2.2.2.1.below hb, rowhc_xs, Bel_next HS21.out.2.2.2.2.2.2.2.2.2 hb⟩
    clear HS21 hb rowhc_xs
    have hc0 := (HS22.out.1).facts.1
    have hf0 := (HS22.out.1).facts.2
    have hz0 := (HS22.out.1).lt
    have hc2 := (HS22.out.2.2.1).facts.1
    have hf2 := (HS22.out.2.2.1).facts.2
    have hz2 := (HS22.out.2.2.1).lt
    have hc4 := (HS22.out.2.2.2.2.1).facts.1
    have hf4 := (HS22.out.2.2.2.2.1).facts.2
    have hz4 := (HS22.out.2.2.2.2.1).lt
    have hc7 := (HS22.out.2.2.2.2.2.2.2.1).facts.1
    have hf7 := (HS22.out.2.2.2.2.2.2.2.1).facts.2
    have hz7 := (HS22.out.2.2.2.2.2.2.2.1).lt
    go_wp2_with fail
    clear hc0 hf0 hz0
    clear hc2 hf2 hz2
    clear hc4 hf4 hz4
    clear hc7 hf7 hz7
    refine (implWei_is sn ss xs _ _ rfl rfl _ _ _ _ _ (HS22.out.2.2.2.2.2.2.2.2.1).holds (HS22.out.2.2.2.2.2.2.2.2.2.1).holds hn_ss hn_xs (Nat.le_refl _) HV.out).mono ?_
    rintro e w23 ⟨aoh, cch, rfl, rowh, hb⟩
    have z23 : w22.heap.size ≤ w23.heap.size := hb.size
    have HS23 : Hid (Whole w23 w.heap.size 27 #[.int .i64 sn, .slice ao_ss ss.length c_ss] ∧ Row w23 w4.heap.size w5.heap.size aos (fl .f32 (canL ss.length (weiG sn.toNat ss xs))) ∧ Whole w23 w5.heap.size 34 #[.int .i64 sn, .slice aos ss.length ccs] ∧ Row w23 w6.heap.size w7.heap.size aoX_ss (fl .f32 (fmarks 1 ss.length)) ∧ Whole w23 w7.heap.size 34 #[.int .i64 sn, .slice aoX_ss ss.length ss.length] ∧ Row w23 w8.heap.size w9.heap.size aoX_xs (fl .f32 (fmarks (1 + ss.length) xs.length)) ∧ Row w23 w9.heap.size w10.heap.size aog (fl .f32 (fmarks 1 ss.length)) ∧ Whole w23 w10.heap.size 34 #[.int .i64 sn, .slice aog ss.length ccg] ∧ Row w23 w20.heap.size w21.heap.size aohc_ss (fl .f32 ss) ∧ Row w23 w21.heap.size w22.heap.size aohc_xs (fl .f32 xs) ∧ Row w23 w22.heap.size w23.heap.size aoh (fl .f32 (canL ss.length (weiG sn.toNat ss xs))) ∧ Below w.heap.size w w23) := Lib.hid ⟨HS22.out.1.below hb, HS22.out.2.1.below hb, HS22.out.2.2.1.below hb, HS22.out.2.2.2.1.below hb, HS22.out.2.2.2.2.1.below hb, HS22.out.2.2.2.2.2.1.below hb, HS22.out.2.2.2.2.2.2.1.below hb, HS22.out.2.2.2.2.2.2.2.1.below hb, HS22.out.2.2.2.2.2.2.2.2.1.below hb, HS22.out.2.2.2.2.2.2.2.2.2.1.below hb, rowh, Bel_next HS22.out.2.2.2.2.2.2.2.2.2.2 hb⟩
    clear HS22 hb rowh
    have HSn : Hid (Whole w23 w.heap.size 27 #[.int .i64 sn, .slice ao_ss ss.length c_ss] ∧ Row w23 w4.heap.size w5.heap.size aos (fl .f32 (canL ss.length (weiG sn.toNat ss xs))) ∧ Whole w23 w5.heap.size 34 #[.int .i64 sn, .slice aos ss.length ccs] ∧ Row w23 w6.heap.size w7.heap.size aoX_ss (fl .f32 (fmarks 1 ss.length)) ∧ Whole w23 w7.heap.size 34 #[.int .i64 sn, .slice aoX_ss ss.length ss.length] ∧ Row w23 w8.heap.size w9.heap.size aoX_xs (fl .f32 (fmarks (1 + ss.length) xs.length)) ∧ Row w23 w9.heap.size w10.heap.size aog (fl .f32 (fmarks 1 ss.length)) ∧ Whole w23 w10.heap.size 34 #[.int .i64 sn, .slice aog ss.length ccg] ∧ Row w23 w22.heap.size w23.heap.size aoh (fl .f32 (canL ss.length (weiG sn.toNat ss xs))) ∧ Below w.heap.size w w23) := Lib.hid ⟨HS23.out.1, HS23.out.2.1, HS23.out.2.2.1, HS23.out.2.2.2.1, HS23.out.2.2.2.2.1, HS23.out.2.2.2.2.2.1, HS23.out.2.2.2.2.2.2.1, HS23.out.2.2.2.2.2.2.2.1, HS23.out.2.2.2.2.2.2.2.2.2.2.1, HS23.out.2.2.2.2.2.2.2.2.2.2.2⟩
    clear HS23
    have HS23 := HSn
    clear HSn
    have hc0 := (HS23.out.1).facts.1
    have hf0 := (HS23.out.1).facts.2
    have hz0 := (HS23.out.1).lt
    have hc2 := (HS23.out.2.2.1).facts.1
    have hf2 := (HS23.out.2.2.1).facts.2
    have hz2 := (HS23.out.2.2.1).lt
    have hc4 := (HS23.out.2.2.2.2.1).facts.1
    have hf4 := (HS23.out.2.2.2.2.1).facts.2
    have hz4 := (HS23.out.2.2.2.2.1).lt
    have hc7 := (HS23.out.2.2.2.2.2.2.2.1).facts.1
    have hf7 := (HS23.out.2.2.2.2.2.2.2.1).facts.2
    have hz7 := (HS23.out.2.2.2.2.2.2.2.1).lt
    go_wp2_with fail
    clear hc0 hf0 hz0
    clear hc2 hf2 hz2
    clear hc4 hf4 hz4
    clear hc7 hf7 hz7
    generalize hW : World.alloc w23 _ = w24
    have hb : Below w23.heap.size w23 w24 := by rw [← hW]; exact (by repeat (first | with_reducible exact Below.refl _ _ | with_reducible refine Below.drew ?_ | with_reducible refine Bel_drewN ?_ _ | with_reducible refine Below.alloc ?_ (by first | omega | (simp; done) | (simp; omega)) _ | with_reducible refine Below.setCell ?_ (by first | omega | (simp; done) | (simp; omega)) _))
    have z24 : w23.heap.size + 1 ≤ w24.heap.size := by rw [← hW]; simp
    have HS24 : Hid (Whole w24 w.heap.size 27 #[.int .i64 sn, .slice ao_ss ss.length c_ss] ∧ Row w24 w4.heap.size w5.heap.size aos (fl .f32 (canL ss.length (weiG sn.toNat ss xs))) ∧ Whole w24 w5.heap.size 34 #[.int .i64 sn, .slice aos ss.length ccs] ∧ Row w24 w6.heap.size w7.heap.size aoX_ss (fl .f32 (fmarks 1 ss.length)) ∧ Whole w24 w7.heap.size 34 #[.int .i64 sn, .slice aoX_ss ss.length ss.length] ∧ Row w24 w8.heap.size w9.heap.size aoX_xs (fl .f32 (fmarks (1 + ss.length) xs.length)) ∧ Row w24 w9.heap.size w10.heap.size aog (fl .f32 (fmarks 1 ss.length)) ∧ Whole w24 w10.heap.size 34 #[.int .i64 sn, .slice aog ss.length ccg] ∧ Row w24 w22.heap.size w23.heap.size aoh (fl .f32 (canL ss.length (weiG sn.toNat ss xs))) ∧ Whole w24 w23.heap.size 34 #[.int .i64 sn, .slice aoh ss.length cch] ∧ Below w.heap.size w w24) := Lib.hid ⟨HS23.out.1.below hb, HS23.out.2.1.below hb, HS23.out.2.2.1.below hb, HS23.out.2.2.2.1.below hb, HS23.out.2.2.2.2.1.below hb, HS23.out.2.2.2.2.2.1.below hb, HS23.out.2.2.2.2.2.2.1.below hb, HS23.out.2.2.2.2.2.2.2.1.below hb, HS23.out.2.2.2.2.2.2.2.2.1.below hb, by rw [← hW]; exact Whole.made _ _ _, Bel_next HS23.out.2.2.2.2.2.2.2.2.2 hb⟩
    clear HS23 hW hb
    refine (eqChain_same (sn) (canL ss.length (weiG sn.toNat ss xs)) (ss.length) (canL_len _ _) _ _ _ _ _ HS24.out.2.2.2.2.2.2.2.2.1.holds HS24.out.2.1.holds (by omega)).mono ?_
    rintro e w25 ⟨rfl, hb⟩
    have z25 : w24.heap.size ≤ w25.heap.size := hb.size
    have HS25 : Hid (Whole w25 w.heap.size 27 #[.int .i64 sn, .slice ao_ss ss.length c_ss] ∧ Row w25 w4.heap.size w5.heap.size aos (fl .f32 (canL ss.length (weiG sn.toNat ss xs))) ∧ Whole w25 w5.heap.size 34 #[.int .i64 sn, .slice aos ss.length ccs] ∧ Row w25 w6.heap.size w7.heap.size aoX_ss (fl .f32 (fmarks 1 ss.length)) ∧ Whole w25 w7.heap.size 34 #[.int .i64 sn, .slice aoX_ss ss.length ss.length] ∧ Row w25 w8.heap.size w9.heap.size aoX_xs (fl .f32 (fmarks (1 + ss.length) xs.length)) ∧ Row w25 w9.heap.size w10.heap.size aog (fl .f32 (fmarks 1 ss.length)) ∧ Whole w25 w10.heap.size 34 #[.int .i64 sn, .slice aog ss.length ccg] ∧ Row w25 w22.heap.size w23.heap.size aoh (fl .f32 (canL ss.length (weiG sn.toNat ss xs))) ∧ Whole w25 w23.heap.size 34 #[.int .i64 sn, .slice aoh ss.length cch] ∧ Below w.heap.size w w25) := Lib.hid ⟨HS24.out.1.below hb, HS24.out.2.1.below hb, HS24.out.2.2.1.below hb, HS24.out.2.2.2.1.below hb, HS24.out.2.2.2.2.1.below hb, HS24.out.2.2.2.2.2.1.below hb, HS24.out.2.2.2.2.2.2.1.below hb, HS24.out.2.2.2.2.2.2.2.1.below hb, HS24.out.2.2.2.2.2.2.2.2.1.below hb, HS24.out.2.2.2.2.2.2.2.2.2.1.below hb, Bel_next HS24.out.2.2.2.2.2.2.2.2.2.2 hb⟩
    clear HS24 hb
    have hc0 := (HS25.out.1).facts.1
    have hf0 := (HS25.out.1).facts.2
    have hz0 := (HS25.out.1).lt
    have hc2 := (HS25.out.2.2.1).facts.1
    have hf2 := (HS25.out.2.2.1).facts.2
    have hz2 := (HS25.out.2.2.1).lt
    have hc4 := (HS25.out.2.2.2.2.1).facts.1
    have hf4 := (HS25.out.2.2.2.2.1).facts.2
    have hz4 := (HS25.out.2.2.2.2.1).lt
    have hc7 := (HS25.out.2.2.2.2.2.2.2.1).facts.1
    have hf7 := (HS25.out.2.2.2.2.2.2.2.1).facts.2
    have hz7 := (HS25.out.2.2.2.2.2.2.2.1).lt
    have hc9 := (HS25.out.2.2.2.2.2.2.2.2.2.1).facts.1
    have hf9 := (HS25.out.2.2.2.2.2.2.2.2.2.1).facts.2
    have hz9 := (HS25.out.2.2.2.2.2.2.2.2.2.1).lt
    go_wp2_with fail
    clear hc0 hf0 hz0
    clear hc2 hf2 hz2
    clear hc4 hf4 hz4
    clear hc7 hf7 hz7
    clear hc9 hf9 hz9
    refine (heldChain_marks (sn) 1 (ss.length) _ _ _ HS25.out.2.2.2.2.2.2.1.holds (by omega)).mono ?_
    rintro e w26 ⟨rfl, hb⟩
    have z26 : w25.heap.size ≤ w26.heap.size := hb.size
    have HS26 : Hid (Whole w26 w.heap.size 27 #[.int .i64 sn, .slice ao_ss ss.length c_ss] ∧ Row w26 w4.heap.size w5.heap.size aos (fl .f32 (canL ss.length (weiG sn.toNat ss xs))) ∧ Whole w26 w5.heap.size 34 #[.int .i64 sn, .slice aos ss.length ccs] ∧ Row w26 w6.heap.size w7.heap.size aoX_ss (fl .f32 (fmarks 1 ss.length)) ∧ Whole w26 w7.heap.size 34 #[.int .i64 sn, .slice aoX_ss ss.length ss.length] ∧ Row w26 w8.heap.size w9.heap.size aoX_xs (fl .f32 (fmarks (1 + ss.length) xs.length)) ∧ Row w26 w9.heap.size w10.heap.size aog (fl .f32 (fmarks 1 ss.length)) ∧ Whole w26 w10.heap.size 34 #[.int .i64 sn, .slice aog ss.length ccg] ∧ Row w26 w22.heap.size w23.heap.size aoh (fl .f32 (canL ss.length (weiG sn.toNat ss xs))) ∧ Whole w26 w23.heap.size 34 #[.int .i64 sn, .slice aoh ss.length cch] ∧ Below w.heap.size w w26) := Lib.hid ⟨HS25.out.1.below hb, HS25.out.2.1.below hb, HS25.out.2.2.1.below hb, HS25.out.2.2.2.1.below hb, HS25.out.2.2.2.2.1.below hb, HS25.out.2.2.2.2.2.1.below hb, HS25.out.2.2.2.2.2.2.1.below hb, HS25.out.2.2.2.2.2.2.2.1.below hb, HS25.out.2.2.2.2.2.2.2.2.1.below hb, HS25.out.2.2.2.2.2.2.2.2.2.1.below hb, Bel_next HS25.out.2.2.2.2.2.2.2.2.2.2 hb⟩
    clear HS25 hb
    have hc0 := (HS26.out.1).facts.1
    have hf0 := (HS26.out.1).facts.2
    have hz0 := (HS26.out.1).lt
    have hc2 := (HS26.out.2.2.1).facts.1
    have hf2 := (HS26.out.2.2.1).facts.2
    have hz2 := (HS26.out.2.2.1).lt
    have hc4 := (HS26.out.2.2.2.2.1).facts.1
    have hf4 := (HS26.out.2.2.2.2.1).facts.2
    have hz4 := (HS26.out.2.2.2.2.1).lt
    have hc7 := (HS26.out.2.2.2.2.2.2.2.1).facts.1
    have hf7 := (HS26.out.2.2.2.2.2.2.2.1).facts.2
    have hz7 := (HS26.out.2.2.2.2.2.2.2.1).lt
    have hc9 := (HS26.out.2.2.2.2.2.2.2.2.2.1).facts.1
    have hf9 := (HS26.out.2.2.2.2.2.2.2.2.2.1).facts.2
    have hz9 := (HS26.out.2.2.2.2.2.2.2.2.2.1).lt
    go_wp2_with fail
    clear hc0 hf0 hz0
    clear hc2 hf2 hz2
    clear hc4 hf4 hz4
    clear hc7 hf7 hz7
    clear hc9 hf9 hz9
    go_ret
    exact ⟨rfl, Bel_next HS26.out.2.2.2.2.2.2.2.2.2.2 (by repeat (first | with_reducible exact Below.refl _ _ | with_reducible refine Below.drew ?_ | with_reducible refine Bel_drewN ?_ _ | with_reducible refine Below.alloc ?_ (by first | omega | (simp; done) | (simp; omega)) _ | with_reducible refine Below.setCell ?_ (by first | omega | (simp; done) | (simp; omega)) _))⟩
  have HV := Lib.hid hv0
  clear hv0
  go_enter Try.func9, Try.ntmps9
  have HS0 : Hid (Below w.heap.size w w) := Lib.hid (Below.refl _ _)
  go_wp2_with fail
  generalize hW : World.alloc w _ = w1
  have hb : Below w.heap.size w w1 := by rw [← hW]; exact (by repeat (first | with_reducible exact Below.refl _ _ | with_reducible refine Below.drew ?_ | with_reducible refine Bel_drewN ?_ _ | with_reducible refine Below.alloc ?_ (by first | omega | (simp; done) | (simp; omega)) _ | with_reducible refine Below.setCell ?_ (by first | omega | (simp; done) | (simp; omega)) _))
  have z1 : w.heap.size + 1 ≤ w1.heap.size := by rw [← hW]; simp
  have HS1 : Hid (Whole w1 w.heap.size 27 #[.int .i64 sn, .slice ao_ss ss.length c_ss] ∧ Below w.heap.size w w1) := Lib.hid ⟨by rw [← hW]; exact Whole.made _ _ _, Bel_next HS0.out hb⟩
  clear HS0 hW hb
  refine (szChain_yes sn ss _ _ (1048576) _ HL0.out (by omega)).mono ?_
  rintro e w2 ⟨rfl, hb⟩
  have z2 : w1.heap.size ≤ w2.heap.size := hb.size
  have HS2 : Hid (Whole w2 w.heap.size 27 #[.int .i64 sn, .slice ao_ss ss.length c_ss] ∧ Below w.heap.size w w2) := Lib.hid ⟨HS1.out.1.below hb, Bel_next HS1.out.2 hb⟩
  clear HS1 hb
  have hc0 := (HS2.out.1).facts.1
  have hf0 := (HS2.out.1).facts.2
  have hz0 := (HS2.out.1).lt
  go_wp2_with fail
  clear hc0 hf0 hz0
  refine (toChain_any sn ss _ _ _ (Holds.below HX_ss.out HS2.out.2) hn_ss).mono ?_
  rintro e w3 ⟨aosc_ss, rfl, rowsc_ss, hb⟩
  have z3 : w2.heap.size ≤ w3.heap.size := hb.size
  have HS3 : Hid (Whole w3 w.heap.size 27 #[.int .i64 sn, .slice ao_ss ss.length c_ss] ∧ Row w3 w2.heap.size w3.heap.size aosc_ss (fl .f32 ss) ∧ Below w.heap.size w w3) := Lib.hid ⟨HS2.out.1.below hb, rowsc_ss, Bel_next HS2.out.2 hb⟩
  clear HS2 hb rowsc_ss
  have hc0 := (HS3.out.1).facts.1
  have hf0 := (HS3.out.1).facts.2
  have hz0 := (HS3.out.1).lt
  go_wp2_with fail
  clear hc0 hf0 hz0
  refine (toFloat32S_row xs _ _ _ (Holds.below HX_xs.out HS3.out.2.2) hn_xs).mono ?_
  rintro e w4 ⟨aosc_xs, rfl, rowsc_xs, hb⟩
  have z4 : w3.heap.size ≤ w4.heap.size := hb.size
  have HS4 : Hid (Whole w4 w.heap.size 27 #[.int .i64 sn, .slice ao_ss ss.length c_ss] ∧ Row w4 w2.heap.size w3.heap.size aosc_ss (fl .f32 ss) ∧ Row w4 w3.heap.size w4.heap.size aosc_xs (fl .f32 xs) ∧ Below w.heap.size w w4) := Lib.hid ⟨HS3.out.1.below hb, HS3.out.2.1.below hb, rowsc_xs, Bel_next HS3.out.2.2 hb⟩
  clear HS3 hb rowsc_xs
  have hc0 := (HS4.out.1).facts.1
  have hf0 := (HS4.out.1).facts.2
  have hz0 := (HS4.out.1).lt
  go_wp2_with fail
  clear hc0 hf0 hz0
  refine (specWei_not sn ss xs _ _ rfl rfl _ _ _ _ _ (HS4.out.2.1).holds (HS4.out.2.2.1).holds hn_ss hn_xs HV.out).mono ?_
  rintro e w5 ⟨rfl, hb⟩
  have z5 : w4.heap.size ≤ w5.heap.size := hb.size
  have HS5 : Hid (Whole w5 w.heap.size 27 #[.int .i64 sn, .slice ao_ss ss.length c_ss] ∧ Row w5 w2.heap.size w3.heap.size aosc_ss (fl .f32 ss) ∧ Row w5 w3.heap.size w4.heap.size aosc_xs (fl .f32 xs) ∧ Below w.heap.size w w5) := Lib.hid ⟨HS4.out.1.below hb, HS4.out.2.1.below hb, HS4.out.2.2.1.below hb, Bel_next HS4.out.2.2.2 hb⟩
  clear HS4 hb
  have HSn : Hid (Whole w5 w.heap.size 27 #[.int .i64 sn, .slice ao_ss ss.length c_ss] ∧ Below w.heap.size w w5) := Lib.hid ⟨HS5.out.1, HS5.out.2.2.2⟩
  clear HS5
  have HS5 := HSn
  clear HSn
  have hc0 := (HS5.out.1).facts.1
  have hf0 := (HS5.out.1).facts.2
  have hz0 := (HS5.out.1).lt
  go_wp2_with fail
  clear hc0 hf0 hz0
  generalize hW : World.alloc w5 _ = w6
  have hb : Below w5.heap.size w5 w6 := by rw [← hW]; exact (by repeat (first | with_reducible exact Below.refl _ _ | with_reducible refine Below.drew ?_ | with_reducible refine Bel_drewN ?_ _ | with_reducible refine Below.alloc ?_ (by first | omega | (simp; done) | (simp; omega)) _ | with_reducible refine Below.setCell ?_ (by first | omega | (simp; done) | (simp; omega)) _))
  have z6 : w5.heap.size + 1 ≤ w6.heap.size := by rw [← hW]; simp
  have HS6 : Hid (Whole w6 w.heap.size 27 #[.int .i64 sn, .slice ao_ss ss.length c_ss] ∧ Whole w6 w5.heap.size 34 #[.int .i64 0, .slice none 0 0] ∧ Below w.heap.size w w6) := Lib.hid ⟨HS5.out.1.below hb, by rw [← hW]; exact Whole.made _ _ _, Bel_next HS5.out.2 hb⟩
  clear HS5 hW hb
  refine (toChain_any sn ss _ _ _ (Holds.below HX_ss.out HS6.out.2.2) hn_ss).mono ?_
  rintro e w7 ⟨aoX_ss, rfl, rowX_ss, hb⟩
  have z7 : w6.heap.size ≤ w7.heap.size := hb.size
  have HS7 : Hid (Whole w7 w.heap.size 27 #[.int .i64 sn, .slice ao_ss ss.length c_ss] ∧ Whole w7 w5.heap.size 34 #[.int .i64 0, .slice none 0 0] ∧ Row w7 w6.heap.size w7.heap.size aoX_ss (fl .f32 ss) ∧ Below w.heap.size w w7) := Lib.hid ⟨HS6.out.1.below hb, HS6.out.2.1.below hb, rowX_ss, Bel_next HS6.out.2.2 hb⟩
  clear HS6 hb rowX_ss
  have hc0 := (HS7.out.1).facts.1
  have hf0 := (HS7.out.1).facts.2
  have hz0 := (HS7.out.1).lt
  have hc1 := (HS7.out.2.1).facts.1
  have hf1 := (HS7.out.2.1).facts.2
  have hz1 := (HS7.out.2.1).lt
  go_wp2_with fail
  clear hc0 hf0 hz0
  clear hc1 hf1 hz1
  generalize hW : World.alloc w7 _ = w8
  have hb : Below w7.heap.size w7 w8 := by rw [← hW]; exact (by repeat (first | with_reducible exact Below.refl _ _ | with_reducible refine Below.drew ?_ | with_reducible refine Bel_drewN ?_ _ | with_reducible refine Below.alloc ?_ (by first | omega | (simp; done) | (simp; omega)) _ | with_reducible refine Below.setCell ?_ (by first | omega | (simp; done) | (simp; omega)) _))
  have z8 : w7.heap.size + 1 ≤ w8.heap.size := by rw [← hW]; simp
  have HS8 : Hid (Whole w8 w.heap.size 27 #[.int .i64 sn, .slice ao_ss ss.length c_ss] ∧ Whole w8 w5.heap.size 34 #[.int .i64 0, .slice none 0 0] ∧ Row w8 w6.heap.size w7.heap.size aoX_ss (fl .f32 ss) ∧ Whole w8 w7.heap.size 34 #[.int .i64 sn, .slice aoX_ss ss.length ss.length] ∧ Below w.heap.size w w8) := Lib.hid ⟨HS7.out.1.below hb, HS7.out.2.1.below hb, HS7.out.2.2.1.below hb, by rw [← hW]; exact Whole.made _ _ _, Bel_next HS7.out.2.2.2 hb⟩
  clear HS7 hW hb
  refine (toFloat32S_row xs _ _ _ (Holds.below HX_xs.out HS8.out.2.2.2.2) hn_xs).mono ?_
  rintro e w9 ⟨aoX_xs, rfl, rowX_xs, hb⟩
  have z9 : w8.heap.size ≤ w9.heap.size := hb.size
  have HS9 : Hid (Whole w9 w.heap.size 27 #[.int .i64 sn, .slice ao_ss ss.length c_ss] ∧ Whole w9 w5.heap.size 34 #[.int .i64 0, .slice none 0 0] ∧ Row w9 w6.heap.size w7.heap.size aoX_ss (fl .f32 ss) ∧ Whole w9 w7.heap.size 34 #[.int .i64 sn, .slice aoX_ss ss.length ss.length] ∧ Row w9 w8.heap.size w9.heap.size aoX_xs (fl .f32 xs) ∧ Below w.heap.size w w9) := Lib.hid ⟨HS8.out.1.below hb, HS8.out.2.1.below hb, HS8.out.2.2.1.below hb, HS8.out.2.2.2.1.below hb, rowX_xs, Bel_next HS8.out.2.2.2.2 hb⟩
  clear HS8 hb rowX_xs
  have hc0 := (HS9.out.1).facts.1
  have hf0 := (HS9.out.1).facts.2
  have hz0 := (HS9.out.1).lt
  have hc1 := (HS9.out.2.1).facts.1
  have hf1 := (HS9.out.2.1).facts.2
  have hz1 := (HS9.out.2.1).lt
  have hc3 := (HS9.out.2.2.2.1).facts.1
  have hf3 := (HS9.out.2.2.2.1).facts.2
  have hz3 := (HS9.out.2.2.2.1).lt
  go_wp2_with fail
  clear hc0 hf0 hz0
  clear hc1 hf1 hz1
  clear hc3 hf3 hz3
  refine (implWei_not sn ss xs _ _ rfl rfl _ _ _ _ _ (HS9.out.2.2.1).holds (HS9.out.2.2.2.2.1).holds hn_ss hn_xs (Nat.le_refl _) HV.out).mono ?_
  rintro e w10 ⟨rfl, hb⟩
  have z10 : w9.heap.size ≤ w10.heap.size := hb.size
  have HS10 : Hid (Whole w10 w.heap.size 27 #[.int .i64 sn, .slice ao_ss ss.length c_ss] ∧ Whole w10 w5.heap.size 34 #[.int .i64 0, .slice none 0 0] ∧ Row w10 w6.heap.size w7.heap.size aoX_ss (fl .f32 ss) ∧ Whole w10 w7.heap.size 34 #[.int .i64 sn, .slice aoX_ss ss.length ss.length] ∧ Row w10 w8.heap.size w9.heap.size aoX_xs (fl .f32 xs) ∧ Below w.heap.size w w10) := Lib.hid ⟨HS9.out.1.below hb, HS9.out.2.1.below hb, HS9.out.2.2.1.below hb, HS9.out.2.2.2.1.below hb, HS9.out.2.2.2.2.1.below hb, Bel_next HS9.out.2.2.2.2.2 hb⟩
  clear HS9 hb
  have HSn : Hid (Whole w10 w.heap.size 27 #[.int .i64 sn, .slice ao_ss ss.length c_ss] ∧ Whole w10 w5.heap.size 34 #[.int .i64 0, .slice none 0 0] ∧ Row w10 w6.heap.size w7.heap.size aoX_ss (fl .f32 ss) ∧ Whole w10 w7.heap.size 34 #[.int .i64 sn, .slice aoX_ss ss.length ss.length] ∧ Row w10 w8.heap.size w9.heap.size aoX_xs (fl .f32 xs) ∧ Below w.heap.size w w10) := Lib.hid ⟨HS10.out.1, HS10.out.2.1, HS10.out.2.2.1, HS10.out.2.2.2.1, HS10.out.2.2.2.2.1, HS10.out.2.2.2.2.2⟩
  clear HS10
  have HS10 := HSn
  clear HSn
  have hc0 := (HS10.out.1).facts.1
  have hf0 := (HS10.out.1).facts.2
  have hz0 := (HS10.out.1).lt
  have hc1 := (HS10.out.2.1).facts.1
  have hf1 := (HS10.out.2.1).facts.2
  have hz1 := (HS10.out.2.1).lt
  have hc3 := (HS10.out.2.2.2.1).facts.1
  have hf3 := (HS10.out.2.2.2.1).facts.2
  have hz3 := (HS10.out.2.2.2.1).lt
  go_wp2_with fail
  clear hc0 hf0 hz0
  clear hc1 hf1 hz1
  clear hc3 hf3 hz3
  generalize hW : World.alloc w10 _ = w11
  have hb : Below w10.heap.size w10 w11 := by rw [← hW]; exact (by repeat (first | with_reducible exact Below.refl _ _ | with_reducible refine Below.drew ?_ | with_reducible refine Bel_drewN ?_ _ | with_reducible refine Below.alloc ?_ (by first | omega | (simp; done) | (simp; omega)) _ | with_reducible refine Below.setCell ?_ (by first | omega | (simp; done) | (simp; omega)) _))
  have z11 : w10.heap.size + 1 ≤ w11.heap.size := by rw [← hW]; simp
  have HS11 : Hid (Whole w11 w.heap.size 27 #[.int .i64 sn, .slice ao_ss ss.length c_ss] ∧ Whole w11 w5.heap.size 34 #[.int .i64 0, .slice none 0 0] ∧ Row w11 w6.heap.size w7.heap.size aoX_ss (fl .f32 ss) ∧ Whole w11 w7.heap.size 34 #[.int .i64 sn, .slice aoX_ss ss.length ss.length] ∧ Row w11 w8.heap.size w9.heap.size aoX_xs (fl .f32 xs) ∧ Whole w11 w10.heap.size 34 #[.int .i64 0, .slice none 0 0] ∧ Below w.heap.size w w11) := Lib.hid ⟨HS10.out.1.below hb, HS10.out.2.1.below hb, HS10.out.2.2.1.below hb, HS10.out.2.2.2.1.below hb, HS10.out.2.2.2.2.1.below hb, by rw [← hW]; exact Whole.made _ _ _, Bel_next HS10.out.2.2.2.2.2 hb⟩
  clear HS10 hW hb
  refine (eqChain_same (0) [] 0 rfl _ _ _ _ _ (Holds.nil _ _) (Holds.nil _ _) (by omega)).mono ?_
  rintro e w12 ⟨rfl, hb⟩
  have z12 : w11.heap.size ≤ w12.heap.size := hb.size
  have HS12 : Hid (Whole w12 w.heap.size 27 #[.int .i64 sn, .slice ao_ss ss.length c_ss] ∧ Whole w12 w5.heap.size 34 #[.int .i64 0, .slice none 0 0] ∧ Row w12 w6.heap.size w7.heap.size aoX_ss (fl .f32 ss) ∧ Whole w12 w7.heap.size 34 #[.int .i64 sn, .slice aoX_ss ss.length ss.length] ∧ Row w12 w8.heap.size w9.heap.size aoX_xs (fl .f32 xs) ∧ Whole w12 w10.heap.size 34 #[.int .i64 0, .slice none 0 0] ∧ Below w.heap.size w w12) := Lib.hid ⟨HS11.out.1.below hb, HS11.out.2.1.below hb, HS11.out.2.2.1.below hb, HS11.out.2.2.2.1.below hb, HS11.out.2.2.2.2.1.below hb, HS11.out.2.2.2.2.2.1.below hb, Bel_next HS11.out.2.2.2.2.2.2 hb⟩
  clear HS11 hb
  have hc0 := (HS12.out.1).facts.1
  have hf0 := (HS12.out.1).facts.2
  have hz0 := (HS12.out.1).lt
  have hc1 := (HS12.out.2.1).facts.1
  have hf1 := (HS12.out.2.1).facts.2
  have hz1 := (HS12.out.2.1).lt
  have hc3 := (HS12.out.2.2.2.1).facts.1
  have hf3 := (HS12.out.2.2.2.1).facts.2
  have hz3 := (HS12.out.2.2.2.1).lt
  have hc5 := (HS12.out.2.2.2.2.2.1).facts.1
  have hf5 := (HS12.out.2.2.2.2.2.1).facts.2
  have hz5 := (HS12.out.2.2.2.2.2.1).lt
  go_wp2_with fail
  clear hc0 hf0 hz0
  clear hc1 hf1 hz1
  clear hc3 hf3 hz3
  clear hc5 hf5 hz5
  have HK : Hid (∀ v v' : World, (v.cell? ⟨w7.heap.size, 0, none⟩ = some (.int .i64 sn) ∧ v.cell? ⟨w7.heap.size, 1, none⟩ = some (.slice aoX_ss ss.length ss.length) ∧ v.cell? ⟨w.heap.size, 0, none⟩ = some (.int .i64 sn) ∧ v.cell? ⟨w.heap.size, 1, none⟩ = some (.slice ao_ss ss.length c_ss) ∧ w12.heap.size ≤ v.heap.size ∧ Whole v w.heap.size 27 #[.int .i64 sn, .slice ao_ss ss.length c_ss] ∧ Whole v w5.heap.size 34 #[.int .i64 0, .slice none 0 0] ∧ Row v w6.heap.size w7.heap.size aoX_ss (fl .f32 ss) ∧ Whole v w7.heap.size 34 #[.int .i64 sn, .slice aoX_ss ss.length ss.length] ∧ Row v w8.heap.size w9.heap.size aoX_xs (fl .f32 xs) ∧ Whole v w10.heap.size 34 #[.int .i64 0, .slice none 0 0] ∧ Below w.heap.size w v) → Below v.heap.size v v' → (v'.cell? ⟨w7.heap.size, 0, none⟩ = some (.int .i64 sn) ∧ v'.cell? ⟨w7.heap.size, 1, none⟩ = some (.slice aoX_ss ss.length ss.length) ∧ v'.cell? ⟨w.heap.size, 0, none⟩ = some (.int .i64 sn) ∧ v'.cell? ⟨w.heap.size, 1, none⟩ = some (.slice ao_ss ss.length c_ss) ∧ w12.heap.size ≤ v'.heap.size ∧ Whole v' w.heap.size 27 #[.int .i64 sn, .slice ao_ss ss.length c_ss] ∧ Whole v' w5.heap.size 34 #[.int .i64 0, .slice none 0 0] ∧ Row v' w6.heap.size w7.heap.size aoX_ss (fl .f32 ss) ∧ Whole v' w7.heap.size 34 #[.int .i64 sn, .slice aoX_ss ss.length ss.length] ∧ Row v' w8.heap.size w9.heap.size aoX_xs (fl .f32 xs) ∧ Whole v' w10.heap.size 34 #[.int .i64 0, .slice none 0 0] ∧ Below w.heap.size w v')) := Lib.hid (fun v v' h hb => ⟨(by rw [Below.cell hb (World.block_lt_of_cell? _ _ h.1)]; exact h.1), (by rw [Below.cell hb (World.block_lt_of_cell? _ _ h.2.1)]; exact h.2.1), (by rw [Below.cell hb (World.block_lt_of_cell? _ _ h.2.2.1)]; exact h.2.2.1), (by rw [Below.cell hb (World.block_lt_of_cell? _ _ h.2.2.2.1)]; exact h.2.2.2.1), Nat.le_trans h.2.2.2.2.1 hb.size, h.2.2.2.2.2.1.below hb, h.2.2.2.2.2.2.1.below hb, h.2.2.2.2.2.2.2.1.below hb, h.2.2.2.2.2.2.2.2.1.below hb, h.2.2.2.2.2.2.2.2.2.1.below hb, h.2.2.2.2.2.2.2.2.2.2.1.below hb, Bel_next h.2.2.2.2.2.2.2.2.2.2.2 hb⟩)
  have HP : Hid (∀ v : World, (v.cell? ⟨w7.heap.size, 0, none⟩ = some (.int .i64 sn) ∧ v.cell? ⟨w7.heap.size, 1, none⟩ = some (.slice aoX_ss ss.length ss.length) ∧ v.cell? ⟨w.heap.size, 0, none⟩ = some (.int .i64 sn) ∧ v.cell? ⟨w.heap.size, 1, none⟩ = some (.slice ao_ss ss.length c_ss) ∧ w12.heap.size ≤ v.heap.size ∧ Whole v w.heap.size 27 #[.int .i64 sn, .slice ao_ss ss.length c_ss] ∧ Whole v w5.heap.size 34 #[.int .i64 0, .slice none 0 0] ∧ Row v w6.heap.size w7.heap.size aoX_ss (fl .f32 ss) ∧ Whole v w7.heap.size 34 #[.int .i64 sn, .slice aoX_ss ss.length ss.length] ∧ Row v w8.heap.size w9.heap.size aoX_xs (fl .f32 xs) ∧ Whole v w10.heap.size 34 #[.int .i64 0, .slice none 0 0] ∧ Below w.heap.size w v) → (Whole v w.heap.size 27 #[.int .i64 sn, .slice ao_ss ss.length c_ss] ∧ Whole v w5.heap.size 34 #[.int .i64 0, .slice none 0 0] ∧ Row v w6.heap.size w7.heap.size aoX_ss (fl .f32 ss) ∧ Whole v w7.heap.size 34 #[.int .i64 sn, .slice aoX_ss ss.length ss.length] ∧ Row v w8.heap.size w9.heap.size aoX_xs (fl .f32 xs) ∧ Whole v w10.heap.size 34 #[.int .i64 0, .slice none 0 0] ∧ Below w.heap.size w v)) := Lib.hid (fun v h => h.2.2.2.2.2)
  have hR : w12.cell? ⟨w7.heap.size, 0, none⟩ = some (.int .i64 sn) ∧ w12.cell? ⟨w7.heap.size, 1, none⟩ = some (.slice aoX_ss ss.length ss.length) ∧ w12.cell? ⟨w.heap.size, 0, none⟩ = some (.int .i64 sn) ∧ w12.cell? ⟨w.heap.size, 1, none⟩ = some (.slice ao_ss ss.length c_ss) ∧ w12.heap.size ≤ w12.heap.size ∧ Whole w12 w.heap.size 27 #[.int .i64 sn, .slice ao_ss ss.length c_ss] ∧ Whole w12 w5.heap.size 34 #[.int .i64 0, .slice none 0 0] ∧ Row w12 w6.heap.size w7.heap.size aoX_ss (fl .f32 ss) ∧ Whole w12 w7.heap.size 34 #[.int .i64 sn, .slice aoX_ss ss.length ss.length] ∧ Row w12 w8.heap.size w9.heap.size aoX_xs (fl .f32 xs) ∧ Whole w12 w10.heap.size 34 #[.int .i64 0, .slice none 0 0] ∧ Below w.heap.size w w12 := ⟨(HS12.out.2.2.2.1).cell 0, (HS12.out.2.2.2.1).cell 1, (HS12.out.1).cell 0, (HS12.out.1).cell 1, Nat.le_refl _, HS12.out.1, HS12.out.2.1, HS12.out.2.2.1, HS12.out.2.2.2.1, HS12.out.2.2.2.2.1, HS12.out.2.2.2.2.2.1, HS12.out.2.2.2.2.2.2⟩
  go_region_held3 (fun v => v.cell? ⟨w7.heap.size, 0, none⟩ = some (.int .i64 sn) ∧ v.cell? ⟨w7.heap.size, 1, none⟩ = some (.slice aoX_ss ss.length ss.length) ∧ v.cell? ⟨w.heap.size, 0, none⟩ = some (.int .i64 sn) ∧ v.cell? ⟨w.heap.size, 1, none⟩ = some (.slice ao_ss ss.length c_ss) ∧ w12.heap.size ≤ v.heap.size ∧ Whole v w.heap.size 27 #[.int .i64 sn, .slice ao_ss ss.length c_ss] ∧ Whole v w5.heap.size 34 #[.int .i64 0, .slice none 0 0] ∧ Row v w6.heap.size w7.heap.size aoX_ss (fl .f32 ss) ∧ Whole v w7.heap.size 34 #[.int .i64 sn, .slice aoX_ss ss.length ss.length] ∧ Row v w8.heap.size w9.heap.size aoX_xs (fl .f32 xs) ∧ Whole v w10.heap.size 34 #[.int .i64 0, .slice none 0 0] ∧ Below w.heap.size w v)
    (first | assumption | exact HK.out _ _ (by assumption) (by assumption) | exact HK.out _ _ (by assumption) ((Below.refl _ _).drew) | (refine HK.out _ _ (by assumption) ?_; (repeat (first | with_reducible exact Below.refl _ _ | with_reducible refine Below.drew ?_ | with_reducible refine Bel_drewN ?_ _ | with_reducible refine Below.alloc ?_ (by first | omega | (simp; done) | (simp; omega)) _ | with_reducible refine Below.setCell ?_ (by first | omega | (simp; done) | (simp; omega)) _)); done))
    (first | (go_at_call 18; refine (toChain_any sn ss _ _ _ (Holds.below HX_ss.out (HP.out _ (by assumption)).2.2.2.2.2.2) hn_ss).mono ?_; rintro e wt ⟨aoY_ss, rfl, rowY_ss, hbt⟩) | (go_at_call 22; refine (eqChain_same sn ss _ rfl _ _ _ _ _ ((HP.out _ (by assumption)).2.2.1.holds) (by exact rowY_ss.holds) hn_ss).mono ?_; rintro e w13 ⟨rfl, hb⟩))
  have hN := (HK.out _ _ (HK.out _ _ hR (by first | exact hbt | exact Bel_next (Below.refl _ _).drew hbt | (refine Bel_next ?_ hbt; (repeat (first | with_reducible exact Below.refl _ _ | with_reducible refine Below.drew ?_ | with_reducible refine Bel_drewN ?_ _ | with_reducible refine Below.alloc ?_ (by first | omega | (simp; done) | (simp; omega)) _ | with_reducible refine Below.setCell ?_ (by first | omega | (simp; done) | (simp; omega)) _)); done))) (by first | exact hb | exact Bel_next (Below.refl _ _).drew hb | (refine Bel_next ?_ hb; (repeat (first | with_reducible exact Below.refl _ _ | with_reducible refine Below.drew ?_ | with_reducible refine Bel_drewN ?_ _ | with_reducible refine Below.alloc ?_ (by first | omega | (simp; done) | (simp; omega)) _ | with_reducible refine Below.setCell ?_ (by first | omega | (simp; done) | (simp; omega)) _)); done)))
  have z13 : w12.heap.size ≤ w13.heap.size := hN.2.2.2.2.1
  have HS13 : Hid (Whole w13 w.heap.size 27 #[.int .i64 sn, .slice ao_ss ss.length c_ss] ∧ Whole w13 w5.heap.size 34 #[.int .i64 0, .slice none 0 0] ∧ Row w13 w6.heap.size w7.heap.size aoX_ss (fl .f32 ss) ∧ Whole w13 w7.heap.size 34 #[.int .i64 sn, .slice aoX_ss ss.length ss.length] ∧ Row w13 w8.heap.size w9.heap.size aoX_xs (fl .f32 xs) ∧ Whole w13 w10.heap.size 34 #[.int .i64 0, .slice none 0 0] ∧ Below w.heap.size w w13) := Lib.hid ⟨hN.2.2.2.2.2.1, hN.2.2.2.2.2.2.1, hN.2.2.2.2.2.2.2.1, hN.2.2.2.2.2.2.2.2.1, hN.2.2.2.2.2.2.2.2.2.1, hN.2.2.2.2.2.2.2.2.2.2.1, hN.2.2.2.2.2.2.2.2.2.2.2⟩
  clear HS12 hN hR HK HP hb hbt
  clear rowY_ss
  have hc0 := (HS13.out.1).facts.1
  have hf0 := (HS13.out.1).facts.2
  have hz0 := (HS13.out.1).lt
  have hc1 := (HS13.out.2.1).facts.1
  have hf1 := (HS13.out.2.1).facts.2
  have hz1 := (HS13.out.2.1).lt
  have hc3 := (HS13.out.2.2.2.1).facts.1
  have hf3 := (HS13.out.2.2.2.1).facts.2
  have hz3 := (HS13.out.2.2.2.1).lt
  have hc5 := (HS13.out.2.2.2.2.2.1).facts.1
  have hf5 := (HS13.out.2.2.2.2.2.1).facts.2
  have hz5 := (HS13.out.2.2.2.2.2.1).lt
  go_wp2_with fail
  clear hc0 hf0 hz0
  clear hc1 hf1 hz1
  clear hc3 hf3 hz3
  clear hc5 hf5 hz5
  refine (toFloat32S_row xs _ _ _ (Holds.below HX_xs.out HS13.out.2.2.2.2.2.2) hn_xs).mono ?_
  rintro e w14 ⟨aoY_xs, rfl, rowY_xs, hb⟩
  have z14 : w13.heap.size ≤ w14.heap.size := hb.size
  have HS14 : Hid (Whole w14 w.heap.size 27 #[.int .i64 sn, .slice ao_ss ss.length c_ss] ∧ Whole w14 w5.heap.size 34 #[.int .i64 0, .slice none 0 0] ∧ Row w14 w6.heap.size w7.heap.size aoX_ss (fl .f32 ss) ∧ Whole w14 w7.heap.size 34 #[.int .i64 sn, .slice aoX_ss ss.length ss.length] ∧ Row w14 w8.heap.size w9.heap.size aoX_xs (fl .f32 xs) ∧ Whole w14 w10.heap.size 34 #[.int .i64 0, .slice none 0 0] ∧ Row w14 w13.heap.size w14.heap.size aoY_xs (fl .f32 xs) ∧ Below w.heap.size w w14) := Lib.hid ⟨HS13.out.1.below hb, HS13.out.2.1.below hb, HS13.out.2.2.1.below hb, HS13.out.2.2.2.1.below hb, HS13.out.2.2.2.2.1.below hb, HS13.out.2.2.2.2.2.1.below hb, rowY_xs, Bel_next HS13.out.2.2.2.2.2.2 hb⟩
  clear HS13 hb rowY_xs
  have hc0 := (HS14.out.1).facts.1
  have hf0 := (HS14.out.1).facts.2
  have hz0 := (HS14.out.1).lt
  have hc1 := (HS14.out.2.1).facts.1
  have hf1 := (HS14.out.2.1).facts.2
  have hz1 := (HS14.out.2.1).lt
  have hc3 := (HS14.out.2.2.2.1).facts.1
  have hf3 := (HS14.out.2.2.2.1).facts.2
  have hz3 := (HS14.out.2.2.2.1).lt
  have hc5 := (HS14.out.2.2.2.2.2.1).facts.1
  have hf5 := (HS14.out.2.2.2.2.2.1).facts.2
  have hz5 := (HS14.out.2.2.2.2.2.1).lt
  go_wp2_with fail
  clear hc0 hf0 hz0
  clear hc1 hf1 hz1
  clear hc3 hf3 hz3
  clear hc5 hf5 hz5
  refine (eqFloat32S_same xs _ rfl _ _ _ _ _ HS14.out.2.2.2.2.1.holds HS14.out.2.2.2.2.2.2.1.holds (by omega)).mono ?_
  rintro e w15 ⟨rfl, hb⟩
  have z15 : w14.heap.size ≤ w15.heap.size := hb.size
  have HS15 : Hid (Whole w15 w.heap.size 27 #[.int .i64 sn, .slice ao_ss ss.length c_ss] ∧ Whole w15 w5.heap.size 34 #[.int .i64 0, .slice none 0 0] ∧ Row w15 w6.heap.size w7.heap.size aoX_ss (fl .f32 ss) ∧ Whole w15 w7.heap.size 34 #[.int .i64 sn, .slice aoX_ss ss.length ss.length] ∧ Row w15 w8.heap.size w9.heap.size aoX_xs (fl .f32 xs) ∧ Whole w15 w10.heap.size 34 #[.int .i64 0, .slice none 0 0] ∧ Row w15 w13.heap.size w14.heap.size aoY_xs (fl .f32 xs) ∧ Below w.heap.size w w15) := Lib.hid ⟨HS14.out.1.below hb, HS14.out.2.1.below hb, HS14.out.2.2.1.below hb, HS14.out.2.2.2.1.below hb, HS14.out.2.2.2.2.1.below hb, HS14.out.2.2.2.2.2.1.below hb, HS14.out.2.2.2.2.2.2.1.below hb, Bel_next HS14.out.2.2.2.2.2.2.2 hb⟩
  clear HS14 hb
  have HSn : Hid (Whole w15 w.heap.size 27 #[.int .i64 sn, .slice ao_ss ss.length c_ss] ∧ Whole w15 w5.heap.size 34 #[.int .i64 0, .slice none 0 0] ∧ Row w15 w6.heap.size w7.heap.size aoX_ss (fl .f32 ss) ∧ Whole w15 w7.heap.size 34 #[.int .i64 sn, .slice aoX_ss ss.length ss.length] ∧ Row w15 w8.heap.size w9.heap.size aoX_xs (fl .f32 xs) ∧ Whole w15 w10.heap.size 34 #[.int .i64 0, .slice none 0 0] ∧ Below w.heap.size w w15) := Lib.hid ⟨HS15.out.1, HS15.out.2.1, HS15.out.2.2.1, HS15.out.2.2.2.1, HS15.out.2.2.2.2.1, HS15.out.2.2.2.2.2.1, HS15.out.2.2.2.2.2.2.2⟩
  clear HS15
  have HS15 := HSn
  clear HSn
  have hc0 := (HS15.out.1).facts.1
  have hf0 := (HS15.out.1).facts.2
  have hz0 := (HS15.out.1).lt
  have hc1 := (HS15.out.2.1).facts.1
  have hf1 := (HS15.out.2.1).facts.2
  have hz1 := (HS15.out.2.1).lt
  have hc3 := (HS15.out.2.2.2.1).facts.1
  have hf3 := (HS15.out.2.2.2.1).facts.2
  have hz3 := (HS15.out.2.2.2.1).lt
  have hc5 := (HS15.out.2.2.2.2.2.1).facts.1
  have hf5 := (HS15.out.2.2.2.2.2.1).facts.2
  have hz5 := (HS15.out.2.2.2.2.2.1).lt
  go_wp2_with fail
  clear hc0 hf0 hz0
  clear hc1 hf1 hz1
  clear hc3 hf3 hz3
  clear hc5 hf5 hz5
  refine (markChain_row sn 1 _ _ _ _ _ _ HS15.out.2.2.1 ((fl_len _ _).trans (rfl)) (by omega)).mono ?_
  rintro e w16 ⟨rfl, row, bt⟩
  have z16 : w15.heap.size ≤ w16.heap.size := bt.size
  have HS16 : Hid (Whole w16 w.heap.size 27 #[.int .i64 sn, .slice ao_ss ss.length c_ss] ∧ Whole w16 w5.heap.size 34 #[.int .i64 0, .slice none 0 0] ∧ Row w16 w6.heap.size w7.heap.size aoX_ss (fl .f32 (fmarks 1 ss.length)) ∧ Whole w16 w7.heap.size 34 #[.int .i64 sn, .slice aoX_ss ss.length ss.length] ∧ Row w16 w8.heap.size w9.heap.size aoX_xs (fl .f32 xs) ∧ Whole w16 w10.heap.size 34 #[.int .i64 0, .slice none 0 0] ∧ Below w.heap.size w w16) := Lib.hid ⟨HS15.out.1.buts bt (by omega), HS15.out.2.1.buts bt (by omega), row, HS15.out.2.2.2.1.buts bt (by omega), HS15.out.2.2.2.2.1.but bt (by omega), HS15.out.2.2.2.2.2.1.buts bt (by omega), bt.bel HS15.out.2.2.2.2.2.2 (by omega)⟩
  clear HS15 row bt
  have hc0 := (HS16.out.1).facts.1
  have hf0 := (HS16.out.1).facts.2
  have hz0 := (HS16.out.1).lt
  have hc1 := (HS16.out.2.1).facts.1
  have hf1 := (HS16.out.2.1).facts.2
  have hz1 := (HS16.out.2.1).lt
  have hc3 := (HS16.out.2.2.2.1).facts.1
  have hf3 := (HS16.out.2.2.2.1).facts.2
  have hz3 := (HS16.out.2.2.2.1).lt
  have hc5 := (HS16.out.2.2.2.2.2.1).facts.1
  have hf5 := (HS16.out.2.2.2.2.2.1).facts.2
  have hz5 := (HS16.out.2.2.2.2.2.1).lt
  go_wp2_with fail
  clear hc0 hf0 hz0
  clear hc1 hf1 hz1
  clear hc3 hf3 hz3
  clear hc5 hf5 hz5
  refine (markFloat32S_row (xs.length) _ (1 + ss.length) _ _ _ _ _ HS16.out.2.2.2.2.1 ((fl_len _ _).trans (rfl)) (by omega)).mono ?_
  rintro e w17 ⟨rfl, row, bt⟩
  have z17 : w16.heap.size ≤ w17.heap.size := bt.size
  have HS17 : Hid (Whole w17 w.heap.size 27 #[.int .i64 sn, .slice ao_ss ss.length c_ss] ∧ Whole w17 w5.heap.size 34 #[.int .i64 0, .slice none 0 0] ∧ Row w17 w6.heap.size w7.heap.size aoX_ss (fl .f32 (fmarks 1 ss.length)) ∧ Whole w17 w7.heap.size 34 #[.int .i64 sn, .slice aoX_ss ss.length ss.length] ∧ Row w17 w8.heap.size w9.heap.size aoX_xs (fl .f32 (fmarks (1 + ss.length) xs.length)) ∧ Whole w17 w10.heap.size 34 #[.int .i64 0, .slice none 0 0] ∧ Below w.heap.size w w17) := Lib.hid ⟨HS16.out.1.buts bt (by omega), HS16.out.2.1.buts bt (by omega), HS16.out.2.2.1.but bt (by omega), HS16.out.2.2.2.1.buts bt (by omega), row, HS16.out.2.2.2.2.2.1.buts bt (by omega), bt.bel HS16.out.2.2.2.2.2.2 (by omega)⟩
  clear HS16 row bt
  have hc0 := (HS17.out.1).facts.1
  have hf0 := (HS17.out.1).facts.2
  have hz0 := (HS17.out.1).lt
  have hc1 := (HS17.out.2.1).facts.1
  have hf1 := (HS17.out.2.1).facts.2
  have hz1 := (HS17.out.2.1).lt
  have hc3 := (HS17.out.2.2.2.1).facts.1
  have hf3 := (HS17.out.2.2.2.1).facts.2
  have hz3 := (HS17.out.2.2.2.1).lt
  have hc5 := (HS17.out.2.2.2.2.2.1).facts.1
  have hf5 := (HS17.out.2.2.2.2.2.1).facts.2
  have hz5 := (HS17.out.2.2.2.2.2.1).lt
  go_wp2_with fail
  clear hc0 hf0 hz0
  clear hc1 hf1 hz1
  clear hc3 hf3 hz3
  clear hc5 hf5 hz5
  refine (eqChain_same (0) [] 0 rfl _ _ _ _ _ (Holds.nil _ _) (Holds.nil _ _) (by omega)).mono ?_
  rintro e w18 ⟨rfl, hb⟩
  have z18 : w17.heap.size ≤ w18.heap.size := hb.size
  have HS18 : Hid (Whole w18 w.heap.size 27 #[.int .i64 sn, .slice ao_ss ss.length c_ss] ∧ Whole w18 w5.heap.size 34 #[.int .i64 0, .slice none 0 0] ∧ Row w18 w6.heap.size w7.heap.size aoX_ss (fl .f32 (fmarks 1 ss.length)) ∧ Whole w18 w7.heap.size 34 #[.int .i64 sn, .slice aoX_ss ss.length ss.length] ∧ Row w18 w8.heap.size w9.heap.size aoX_xs (fl .f32 (fmarks (1 + ss.length) xs.length)) ∧ Whole w18 w10.heap.size 34 #[.int .i64 0, .slice none 0 0] ∧ Below w.heap.size w w18) := Lib.hid ⟨HS17.out.1.below hb, HS17.out.2.1.below hb, HS17.out.2.2.1.below hb, HS17.out.2.2.2.1.below hb, HS17.out.2.2.2.2.1.below hb, HS17.out.2.2.2.2.2.1.below hb, Bel_next HS17.out.2.2.2.2.2.2 hb⟩
  clear HS17 hb
  have hc0 := (HS18.out.1).facts.1
  have hf0 := (HS18.out.1).facts.2
  have hz0 := (HS18.out.1).lt
  have hc1 := (HS18.out.2.1).facts.1
  have hf1 := (HS18.out.2.1).facts.2
  have hz1 := (HS18.out.2.1).lt
  have hc3 := (HS18.out.2.2.2.1).facts.1
  have hf3 := (HS18.out.2.2.2.1).facts.2
  have hz3 := (HS18.out.2.2.2.1).lt
  have hc5 := (HS18.out.2.2.2.2.2.1).facts.1
  have hf5 := (HS18.out.2.2.2.2.2.1).facts.2
  have hz5 := (HS18.out.2.2.2.2.2.1).lt
  go_wp2_with fail
  clear hc0 hf0 hz0
  clear hc1 hf1 hz1
  clear hc3 hf3 hz3
  clear hc5 hf5 hz5
  refine (markChain_zero (0) 1 _ _ _).mono ?_
  rintro e w19 ⟨rfl, hb⟩
  have z19 : w18.heap.size ≤ w19.heap.size := hb.size
  have HS19 : Hid (Whole w19 w.heap.size 27 #[.int .i64 sn, .slice ao_ss ss.length c_ss] ∧ Whole w19 w5.heap.size 34 #[.int .i64 0, .slice none 0 0] ∧ Row w19 w6.heap.size w7.heap.size aoX_ss (fl .f32 (fmarks 1 ss.length)) ∧ Whole w19 w7.heap.size 34 #[.int .i64 sn, .slice aoX_ss ss.length ss.length] ∧ Row w19 w8.heap.size w9.heap.size aoX_xs (fl .f32 (fmarks (1 + ss.length) xs.length)) ∧ Whole w19 w10.heap.size 34 #[.int .i64 0, .slice none 0 0] ∧ Below w.heap.size w w19) := Lib.hid ⟨HS18.out.1.below hb, HS18.out.2.1.below hb, HS18.out.2.2.1.below hb, HS18.out.2.2.2.1.below hb, HS18.out.2.2.2.2.1.below hb, HS18.out.2.2.2.2.2.1.below hb, Bel_next HS18.out.2.2.2.2.2.2 hb⟩
  clear HS18 hb
  have hc0 := (HS19.out.1).facts.1
  have hf0 := (HS19.out.1).facts.2
  have hz0 := (HS19.out.1).lt
  have hc1 := (HS19.out.2.1).facts.1
  have hf1 := (HS19.out.2.1).facts.2
  have hz1 := (HS19.out.2.1).lt
  have hc3 := (HS19.out.2.2.2.1).facts.1
  have hf3 := (HS19.out.2.2.2.1).facts.2
  have hz3 := (HS19.out.2.2.2.1).lt
  have hc5 := (HS19.out.2.2.2.2.2.1).facts.1
  have hf5 := (HS19.out.2.2.2.2.2.1).facts.2
  have hz5 := (HS19.out.2.2.2.2.2.1).lt
  go_wp2_with fail
  clear hc0 hf0 hz0
  clear hc1 hf1 hz1
  clear hc3 hf3 hz3
  clear hc5 hf5 hz5
  refine (heldChain_marks (0) 1 (0) _ _ _ (Holds.nil _ _) (by omega)).mono ?_
  rintro e w20 ⟨rfl, hb⟩
  have z20 : w19.heap.size ≤ w20.heap.size := hb.size
  have HS20 : Hid (Whole w20 w.heap.size 27 #[.int .i64 sn, .slice ao_ss ss.length c_ss] ∧ Whole w20 w5.heap.size 34 #[.int .i64 0, .slice none 0 0] ∧ Row w20 w6.heap.size w7.heap.size aoX_ss (fl .f32 (fmarks 1 ss.length)) ∧ Whole w20 w7.heap.size 34 #[.int .i64 sn, .slice aoX_ss ss.length ss.length] ∧ Row w20 w8.heap.size w9.heap.size aoX_xs (fl .f32 (fmarks (1 + ss.length) xs.length)) ∧ Whole w20 w10.heap.size 34 #[.int .i64 0, .slice none 0 0] ∧ Below w.heap.size w w20) := Lib.hid ⟨HS19.out.1.below hb, HS19.out.2.1.below hb, HS19.out.2.2.1.below hb, HS19.out.2.2.2.1.below hb, HS19.out.2.2.2.2.1.below hb, HS19.out.2.2.2.2.2.1.below hb, Bel_next HS19.out.2.2.2.2.2.2 hb⟩
  clear HS19 hb
  have hc0 := (HS20.out.1).facts.1
  have hf0 := (HS20.out.1).facts.2
  have hz0 := (HS20.out.1).lt
  have hc1 := (HS20.out.2.1).facts.1
  have hf1 := (HS20.out.2.1).facts.2
  have hz1 := (HS20.out.2.1).lt
  have hc3 := (HS20.out.2.2.2.1).facts.1
  have hf3 := (HS20.out.2.2.2.1).facts.2
  have hz3 := (HS20.out.2.2.2.1).lt
  have hc5 := (HS20.out.2.2.2.2.2.1).facts.1
  have hf5 := (HS20.out.2.2.2.2.2.1).facts.2
  have hz5 := (HS20.out.2.2.2.2.2.1).lt
  go_wp2_with fail
  clear hc0 hf0 hz0
  clear hc1 hf1 hz1
  clear hc3 hf3 hz3
  clear hc5 hf5 hz5
  refine (toChain_any sn ss _ _ _ (Holds.below HX_ss.out HS20.out.2.2.2.2.2.2) hn_ss).mono ?_
  rintro e w21 ⟨aohc_ss, rfl, rowhc_ss, hb⟩
  have z21 : w20.heap.size ≤ w21.heap.size := hb.size
  have HS21 : Hid (Whole w21 w.heap.size 27 #[.int .i64 sn, .slice ao_ss ss.length c_ss] ∧ Whole w21 w5.heap.size 34 #[.int .i64 0, .slice none 0 0] ∧ Row w21 w6.heap.size w7.heap.size aoX_ss (fl .f32 (fmarks 1 ss.length)) ∧ Whole w21 w7.heap.size 34 #[.int .i64 sn, .slice aoX_ss ss.length ss.length] ∧ Row w21 w8.heap.size w9.heap.size aoX_xs (fl .f32 (fmarks (1 + ss.length) xs.length)) ∧ Whole w21 w10.heap.size 34 #[.int .i64 0, .slice none 0 0] ∧ Row w21 w20.heap.size w21.heap.size aohc_ss (fl .f32 ss) ∧ Below w.heap.size w w21) := Lib.hid ⟨HS20.out.1.below hb, HS20.out.2.1.below hb, HS20.out.2.2.1.below hb, HS20.out.2.2.2.1.below hb, HS20.out.2.2.2.2.1.below hb, HS20.out.2.2.2.2.2.1.below hb, rowhc_ss, Bel_next HS20.out.2.2.2.2.2.2 hb⟩
  clear HS20 hb rowhc_ss
  have hc0 := (HS21.out.1).facts.1
  have hf0 := (HS21.out.1).facts.2
  have hz0 := (HS21.out.1).lt
  have hc1 := (HS21.out.2.1).facts.1
  have hf1 := (HS21.out.2.1).facts.2
  have hz1 := (HS21.out.2.1).lt
  have hc3 := (HS21.out.2.2.2.1).facts.1
  have hf3 := (HS21.out.2.2.2.1).facts.2
  have hz3 := (HS21.out.2.2.2.1).lt
  have hc5 := (HS21.out.2.2.2.2.2.1).facts.1
  have hf5 := (HS21.out.2.2.2.2.2.1).facts.2
  have hz5 := (HS21.out.2.2.2.2.2.1).lt
  go_wp2_with fail
  clear hc0 hf0 hz0
  clear hc1 hf1 hz1
  clear hc3 hf3 hz3
  clear hc5 hf5 hz5
  refine (toFloat32S_row xs _ _ _ (Holds.below HX_xs.out HS21.out.2.2.2.2.2.2.2) hn_xs).mono ?_
  rintro e w22 ⟨aohc_xs, rfl, rowhc_xs, hb⟩
  have z22 : w21.heap.size ≤ w22.heap.size := hb.size
  have HS22 : Hid (Whole w22 w.heap.size 27 #[.int .i64 sn, .slice ao_ss ss.length c_ss] ∧ Whole w22 w5.heap.size 34 #[.int .i64 0, .slice none 0 0] ∧ Row w22 w6.heap.size w7.heap.size aoX_ss (fl .f32 (fmarks 1 ss.length)) ∧ Whole w22 w7.heap.size 34 #[.int .i64 sn, .slice aoX_ss ss.length ss.length] ∧ Row w22 w8.heap.size w9.heap.size aoX_xs (fl .f32 (fmarks (1 + ss.length) xs.length)) ∧ Whole w22 w10.heap.size 34 #[.int .i64 0, .slice none 0 0] ∧ Row w22 w20.heap.size w21.heap.size aohc_ss (fl .f32 ss) ∧ Row w22 w21.heap.size w22.heap.size aohc_xs (fl .f32 xs) ∧ Below w.heap.size w w22) := Lib.hid ⟨HS21.out.1.below hb, HS21.out.2.1.below hb, HS21.out.2.2.1.below hb, HS21.out.2.2.2.1.below hb, HS21.out.2.2.2.2.1.below hb, HS21.out.2.2.2.2.2.1.below hb, HS21.out.2.2.2.2.2.2.1.below hb, rowhc_xs, Bel_next HS21.out.2.2.2.2.2.2.2 hb⟩
  clear HS21 hb rowhc_xs
  have hc0 := (HS22.out.1).facts.1
  have hf0 := (HS22.out.1).facts.2
  have hz0 := (HS22.out.1).lt
  have hc1 := (HS22.out.2.1).facts.1
  have hf1 := (HS22.out.2.1).facts.2
  have hz1 := (HS22.out.2.1).lt
  have hc3 := (HS22.out.2.2.2.1).facts.1
  have hf3 := (HS22.out.2.2.2.1).facts.2
  have hz3 := (HS22.out.2.2.2.1).lt
  have hc5 := (HS22.out.2.2.2.2.2.1).facts.1
  have hf5 := (HS22.out.2.2.2.2.2.1).facts.2
  have hz5 := (HS22.out.2.2.2.2.2.1).lt
  go_wp2_with fail
  clear hc0 hf0 hz0
  clear hc1 hf1 hz1
  clear hc3 hf3 hz3
  clear hc5 hf5 hz5
  refine (implWei_not sn ss xs _ _ rfl rfl _ _ _ _ _ (HS22.out.2.2.2.2.2.2.1).holds (HS22.out.2.2.2.2.2.2.2.1).holds hn_ss hn_xs (Nat.le_refl _) HV.out).mono ?_
  rintro e w23 ⟨rfl, hb⟩
  have z23 : w22.heap.size ≤ w23.heap.size := hb.size
  have HS23 : Hid (Whole w23 w.heap.size 27 #[.int .i64 sn, .slice ao_ss ss.length c_ss] ∧ Whole w23 w5.heap.size 34 #[.int .i64 0, .slice none 0 0] ∧ Row w23 w6.heap.size w7.heap.size aoX_ss (fl .f32 (fmarks 1 ss.length)) ∧ Whole w23 w7.heap.size 34 #[.int .i64 sn, .slice aoX_ss ss.length ss.length] ∧ Row w23 w8.heap.size w9.heap.size aoX_xs (fl .f32 (fmarks (1 + ss.length) xs.length)) ∧ Whole w23 w10.heap.size 34 #[.int .i64 0, .slice none 0 0] ∧ Row w23 w20.heap.size w21.heap.size aohc_ss (fl .f32 ss) ∧ Row w23 w21.heap.size w22.heap.size aohc_xs (fl .f32 xs) ∧ Below w.heap.size w w23) := Lib.hid ⟨HS22.out.1.below hb, HS22.out.2.1.below hb, HS22.out.2.2.1.below hb, HS22.out.2.2.2.1.below hb, HS22.out.2.2.2.2.1.below hb, HS22.out.2.2.2.2.2.1.below hb, HS22.out.2.2.2.2.2.2.1.below hb, HS22.out.2.2.2.2.2.2.2.1.below hb, Bel_next HS22.out.2.2.2.2.2.2.2.2 hb⟩
  clear HS22 hb
  have HSn : Hid (Whole w23 w.heap.size 27 #[.int .i64 sn, .slice ao_ss ss.length c_ss] ∧ Whole w23 w5.heap.size 34 #[.int .i64 0, .slice none 0 0] ∧ Row w23 w6.heap.size w7.heap.size aoX_ss (fl .f32 (fmarks 1 ss.length)) ∧ Whole w23 w7.heap.size 34 #[.int .i64 sn, .slice aoX_ss ss.length ss.length] ∧ Row w23 w8.heap.size w9.heap.size aoX_xs (fl .f32 (fmarks (1 + ss.length) xs.length)) ∧ Whole w23 w10.heap.size 34 #[.int .i64 0, .slice none 0 0] ∧ Below w.heap.size w w23) := Lib.hid ⟨HS23.out.1, HS23.out.2.1, HS23.out.2.2.1, HS23.out.2.2.2.1, HS23.out.2.2.2.2.1, HS23.out.2.2.2.2.2.1, HS23.out.2.2.2.2.2.2.2.2⟩
  clear HS23
  have HS23 := HSn
  clear HSn
  have hc0 := (HS23.out.1).facts.1
  have hf0 := (HS23.out.1).facts.2
  have hz0 := (HS23.out.1).lt
  have hc1 := (HS23.out.2.1).facts.1
  have hf1 := (HS23.out.2.1).facts.2
  have hz1 := (HS23.out.2.1).lt
  have hc3 := (HS23.out.2.2.2.1).facts.1
  have hf3 := (HS23.out.2.2.2.1).facts.2
  have hz3 := (HS23.out.2.2.2.1).lt
  have hc5 := (HS23.out.2.2.2.2.2.1).facts.1
  have hf5 := (HS23.out.2.2.2.2.2.1).facts.2
  have hz5 := (HS23.out.2.2.2.2.2.1).lt
  go_wp2_with fail
  clear hc0 hf0 hz0
  clear hc1 hf1 hz1
  clear hc3 hf3 hz3
  clear hc5 hf5 hz5
  generalize hW : World.alloc w23 _ = w24
  have hb : Below w23.heap.size w23 w24 := by rw [← hW]; exact (by repeat (first | with_reducible exact Below.refl _ _ | with_reducible refine Below.drew ?_ | with_reducible refine Bel_drewN ?_ _ | with_reducible refine Below.alloc ?_ (by first | omega | (simp; done) | (simp; omega)) _ | with_reducible refine Below.setCell ?_ (by first | omega | (simp; done) | (simp; omega)) _))
  have z24 : w23.heap.size + 1 ≤ w24.heap.size := by rw [← hW]; simp
  have HS24 : Hid (Whole w24 w.heap.size 27 #[.int .i64 sn, .slice ao_ss ss.length c_ss] ∧ Whole w24 w5.heap.size 34 #[.int .i64 0, .slice none 0 0] ∧ Row w24 w6.heap.size w7.heap.size aoX_ss (fl .f32 (fmarks 1 ss.length)) ∧ Whole w24 w7.heap.size 34 #[.int .i64 sn, .slice aoX_ss ss.length ss.length] ∧ Row w24 w8.heap.size w9.heap.size aoX_xs (fl .f32 (fmarks (1 + ss.length) xs.length)) ∧ Whole w24 w10.heap.size 34 #[.int .i64 0, .slice none 0 0] ∧ Whole w24 w23.heap.size 34 #[.int .i64 0, .slice none 0 0] ∧ Below w.heap.size w w24) := Lib.hid ⟨HS23.out.1.below hb, HS23.out.2.1.below hb, HS23.out.2.2.1.below hb, HS23.out.2.2.2.1.below hb, HS23.out.2.2.2.2.1.below hb, HS23.out.2.2.2.2.2.1.below hb, by rw [← hW]; exact Whole.made _ _ _, Bel_next HS23.out.2.2.2.2.2.2 hb⟩
  clear HS23 hW hb
  refine (eqChain_same (0) [] 0 rfl _ _ _ _ _ (Holds.nil _ _) (Holds.nil _ _) (by omega)).mono ?_
  rintro e w25 ⟨rfl, hb⟩
  have z25 : w24.heap.size ≤ w25.heap.size := hb.size
  have HS25 : Hid (Whole w25 w.heap.size 27 #[.int .i64 sn, .slice ao_ss ss.length c_ss] ∧ Whole w25 w5.heap.size 34 #[.int .i64 0, .slice none 0 0] ∧ Row w25 w6.heap.size w7.heap.size aoX_ss (fl .f32 (fmarks 1 ss.length)) ∧ Whole w25 w7.heap.size 34 #[.int .i64 sn, .slice aoX_ss ss.length ss.length] ∧ Row w25 w8.heap.size w9.heap.size aoX_xs (fl .f32 (fmarks (1 + ss.length) xs.length)) ∧ Whole w25 w10.heap.size 34 #[.int .i64 0, .slice none 0 0] ∧ Whole w25 w23.heap.size 34 #[.int .i64 0, .slice none 0 0] ∧ Below w.heap.size w w25) := Lib.hid ⟨HS24.out.1.below hb, HS24.out.2.1.below hb, HS24.out.2.2.1.below hb, HS24.out.2.2.2.1.below hb, HS24.out.2.2.2.2.1.below hb, HS24.out.2.2.2.2.2.1.below hb, HS24.out.2.2.2.2.2.2.1.below hb, Bel_next HS24.out.2.2.2.2.2.2.2 hb⟩
  clear HS24 hb
  have hc0 := (HS25.out.1).facts.1
  have hf0 := (HS25.out.1).facts.2
  have hz0 := (HS25.out.1).lt
  have hc1 := (HS25.out.2.1).facts.1
  have hf1 := (HS25.out.2.1).facts.2
  have hz1 := (HS25.out.2.1).lt
  have hc3 := (HS25.out.2.2.2.1).facts.1
  have hf3 := (HS25.out.2.2.2.1).facts.2
  have hz3 := (HS25.out.2.2.2.1).lt
  have hc5 := (HS25.out.2.2.2.2.2.1).facts.1
  have hf5 := (HS25.out.2.2.2.2.2.1).facts.2
  have hz5 := (HS25.out.2.2.2.2.2.1).lt
  have hc6 := (HS25.out.2.2.2.2.2.2.1).facts.1
  have hf6 := (HS25.out.2.2.2.2.2.2.1).facts.2
  have hz6 := (HS25.out.2.2.2.2.2.2.1).lt
  go_wp2_with fail
  clear hc0 hf0 hz0
  clear hc1 hf1 hz1
  clear hc3 hf3 hz3
  clear hc5 hf5 hz5
  clear hc6 hf6 hz6
  refine (heldChain_marks (0) 1 (0) _ _ _ (Holds.nil _ _) (by omega)).mono ?_
  rintro e w26 ⟨rfl, hb⟩
  have z26 : w25.heap.size ≤ w26.heap.size := hb.size
  have HS26 : Hid (Whole w26 w.heap.size 27 #[.int .i64 sn, .slice ao_ss ss.length c_ss] ∧ Whole w26 w5.heap.size 34 #[.int .i64 0, .slice none 0 0] ∧ Row w26 w6.heap.size w7.heap.size aoX_ss (fl .f32 (fmarks 1 ss.length)) ∧ Whole w26 w7.heap.size 34 #[.int .i64 sn, .slice aoX_ss ss.length ss.length] ∧ Row w26 w8.heap.size w9.heap.size aoX_xs (fl .f32 (fmarks (1 + ss.length) xs.length)) ∧ Whole w26 w10.heap.size 34 #[.int .i64 0, .slice none 0 0] ∧ Whole w26 w23.heap.size 34 #[.int .i64 0, .slice none 0 0] ∧ Below w.heap.size w w26) := Lib.hid ⟨HS25.out.1.below hb, HS25.out.2.1.below hb, HS25.out.2.2.1.below hb, HS25.out.2.2.2.1.below hb, HS25.out.2.2.2.2.1.below hb, HS25.out.2.2.2.2.2.1.below hb, HS25.out.2.2.2.2.2.2.1.below hb, Bel_next HS25.out.2.2.2.2.2.2.2 hb⟩
  clear HS25 hb
  have hc0 := (HS26.out.1).facts.1
  have hf0 := (HS26.out.1).facts.2
  have hz0 := (HS26.out.1).lt
  have hc1 := (HS26.out.2.1).facts.1
  have hf1 := (HS26.out.2.1).facts.2
  have hz1 := (HS26.out.2.1).lt
  have hc3 := (HS26.out.2.2.2.1).facts.1
  have hf3 := (HS26.out.2.2.2.1).facts.2
  have hz3 := (HS26.out.2.2.2.1).lt
  have hc5 := (HS26.out.2.2.2.2.2.1).facts.1
  have hf5 := (HS26.out.2.2.2.2.2.1).facts.2
  have hz5 := (HS26.out.2.2.2.2.2.1).lt
  have hc6 := (HS26.out.2.2.2.2.2.2.1).facts.1
  have hf6 := (HS26.out.2.2.2.2.2.2.1).facts.2
  have hz6 := (HS26.out.2.2.2.2.2.2.1).lt
  go_wp2_with fail
  clear hc0 hf0 hz0
  clear hc1 hf1 hz1
  clear hc3 hf3 hz3
  clear hc5 hf5 hz5
  clear hc6 hf6 hz6
  go_ret
  exact ⟨rfl, Bel_next HS26.out.2.2.2.2.2.2.2 (by repeat (first | with_reducible exact Below.refl _ _ | with_reducible refine Below.drew ?_ | with_reducible refine Bel_drewN ?_ _ | with_reducible refine Below.alloc ?_ (by first | omega | (simp; done) | (simp; omega)) _ | with_reducible refine Below.setCell ?_ (by first | omega | (simp; done) | (simp; omega)) _))⟩
end Go.Proofs.Ytgeomaeccalceaa
