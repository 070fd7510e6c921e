/- The walk of the law FnExactLazyChain. -/
import Derived.Test.YtfbllggnndodoaaLay
import Derived.Test.YtfbllggnndodoaaSChain
import Derived.Deep.RegionHeld3
import Derived.Deep.DeepCutAuto
namespace Go.Proofs.Ytfbllggnndodoaa
open Go Go.RowKit Fl
set_option linter.unusedVariables false

set_option maxRecDepth 100000 in
set_option maxHeartbeats 20000000 in
theorem FnExactLazyChain_walk (sn : Int) (h_sn : (Lit.int .i64 sn).wf = true) (ss : List Nat) (ao_ss : Option Addr) (c_ss : Nat) (m_ss : ss.length ≤ 9223372036854775807) (st : Nat) (h_st : (Lit.float .f32 st).wf = true) (w : World) (hx_ss : Holds w ao_ss (fl .f32 ss)) :
    Calls Try.prog 11 #[.agg #[.int .i64 sn, .slice ao_ss ss.length c_ss], .float .f32 st] w fun e w' => e = .returned (.bool true) ∧ Below w.heap.size w w' := by
  by_cases hl0 : ss.length ≤ 1048576
  case neg =>
    have HL0 := Lib.hid hl0
    clear hl0
    go_enter Try.func11, Try.ntmps11
    have HS0 : Hid (Below w.heap.size w w) := Lib.hid (Below.refl _ _)
    go_wp2_with fail
    generalize hW : World.alloc w _ = w1
    have hb : Below w.heap.size w w1 := by rw [← hW]; exact (by repeat (first | with_reducible exact Below.refl _ _ | with_reducible refine Below.drew ?_ | with_reducible refine Bel_drewN ?_ _ | with_reducible refine Below.alloc ?_ (by first | omega | (simp; done) | (simp; omega)) _ | with_reducible refine Below.setCell ?_ (by first | omega | (simp; done) | (simp; omega)) _))
    have z1 : w.heap.size + 1 ≤ w1.heap.size := by rw [← hW]; simp
    have HS1 : Hid (Whole w1 w.heap.size 24 #[.int .i64 sn, .slice ao_ss ss.length c_ss] ∧ Below w.heap.size w w1) := Lib.hid ⟨by rw [← hW]; exact Whole.made _ _ _, Bel_next HS0.out hb⟩
    clear HS0 hW hb
    refine (szChain_no sn ss _ _ (1048576) _ HL0.out (by omega) m_ss).mono ?_
    rintro e w2 ⟨rfl, hb⟩
    have z2 : w1.heap.size ≤ w2.heap.size := hb.size
    have HS2 : Hid (Whole w2 w.heap.size 24 #[.int .i64 sn, .slice ao_ss ss.length c_ss] ∧ Below w.heap.size w w2) := Lib.hid ⟨HS1.out.1.below hb, Bel_next HS1.out.2 hb⟩
    clear HS1 hb
    have hc0 := (HS2.out.1).facts.1
    have hf0 := (HS2.out.1).facts.2
    have hz0 := (HS2.out.1).lt
    go_wp2_with fail
    clear hc0 hf0 hz0
    go_ret
    exact ⟨rfl, Bel_next HS2.out.2 (by repeat (first | with_reducible exact Below.refl _ _ | with_reducible refine Below.drew ?_ | with_reducible refine Bel_drewN ?_ _ | with_reducible refine Below.alloc ?_ (by first | omega | (simp; done) | (simp; omega)) _ | with_reducible refine Below.setCell ?_ (by first | omega | (simp; done) | (simp; omega)) _))⟩
  have HL0 := Lib.hid hl0
  have hn_ss : ss.length ≤ 1048576 := by omega
  clear hl0
  have HX_ss := Lib.hid hx_ss
  clear hx_ss
  by_cases hv0 : lazC sn ss st ∧ isChain sn (canL ss.length (lazG sn.toNat ss st))
  · have HV := Lib.hid hv0
    clear hv0
    go_enter Try.func11, Try.ntmps11
    have HS0 : Hid (Below w.heap.size w w) := Lib.hid (Below.refl _ _)
    go_wp2_with fail
    generalize hW : World.alloc w _ = w1
    have hb : Below w.heap.size w w1 := by rw [← hW]; exact (by repeat (first | with_reducible exact Below.refl _ _ | with_reducible refine Below.drew ?_ | with_reducible refine Bel_drewN ?_ _ | with_reducible refine Below.alloc ?_ (by first | omega | (simp; done) | (simp; omega)) _ | with_reducible refine Below.setCell ?_ (by first | omega | (simp; done) | (simp; omega)) _))
    have z1 : w.heap.size + 1 ≤ w1.heap.size := by rw [← hW]; simp
    have HS1 : Hid (Whole w1 w.heap.size 24 #[.int .i64 sn, .slice ao_ss ss.length c_ss] ∧ Below w.heap.size w w1) := Lib.hid ⟨by rw [← hW]; exact Whole.made _ _ _, Bel_next HS0.out hb⟩
    clear HS0 hW hb
    refine (szChain_yes sn ss _ _ (1048576) _ HL0.out (by omega)).mono ?_
    rintro e w2 ⟨rfl, hb⟩
    have z2 : w1.heap.size ≤ w2.heap.size := hb.size
    have HS2 : Hid (Whole w2 w.heap.size 24 #[.int .i64 sn, .slice ao_ss ss.length c_ss] ∧ Below w.heap.size w w2) := Lib.hid ⟨HS1.out.1.below hb, Bel_next HS1.out.2 hb⟩
    clear HS1 hb
    have hc0 := (HS2.out.1).facts.1
    have hf0 := (HS2.out.1).facts.2
    have hz0 := (HS2.out.1).lt
    go_wp2_with fail
    clear hc0 hf0 hz0
    refine (toChain_any sn ss _ _ _ (Holds.below HX_ss.out HS2.out.2) hn_ss).mono ?_
    rintro e w3 ⟨aosc_ss, rfl, rowsc_ss, hb⟩
    have z3 : w2.heap.size ≤ w3.heap.size := hb.size
    have HS3 : Hid (Whole w3 w.heap.size 24 #[.int .i64 sn, .slice ao_ss ss.length c_ss] ∧ Row w3 w2.heap.size w3.heap.size aosc_ss (fl .f32 ss) ∧ Below w.heap.size w w3) := Lib.hid ⟨HS2.out.1.below hb, rowsc_ss, Bel_next HS2.out.2 hb⟩
    clear HS2 hb rowsc_ss
    have hc0 := (HS3.out.1).facts.1
    have hf0 := (HS3.out.1).facts.2
    have hz0 := (HS3.out.1).lt
    go_wp2_with fail
    clear hc0 hf0 hz0
    refine (specLazy_is sn ss st _ rfl _ _ _ (HS3.out.2.1).holds hn_ss HV.out).mono ?_
    rintro e w4 ⟨aos, ccs, rfl, rows, hb⟩
    have z4 : w3.heap.size ≤ w4.heap.size := hb.size
    have HS4 : Hid (Whole w4 w.heap.size 24 #[.int .i64 sn, .slice ao_ss ss.length c_ss] ∧ Row w4 w2.heap.size w3.heap.size aosc_ss (fl .f32 ss) ∧ Row w4 w3.heap.size w4.heap.size aos (fl .f32 (canL ss.length (lazG sn.toNat ss st))) ∧ Below w.heap.size w w4) := Lib.hid ⟨HS3.out.1.below hb, HS3.out.2.1.below hb, rows, Bel_next HS3.out.2.2 hb⟩
    clear HS3 hb rows
    have HSn : Hid (Whole w4 w.heap.size 24 #[.int .i64 sn, .slice ao_ss ss.length c_ss] ∧ Row w4 w3.heap.size w4.heap.size aos (fl .f32 (canL ss.length (lazG sn.toNat ss st))) ∧ Below w.heap.size w w4) := Lib.hid ⟨HS4.out.1, HS4.out.2.2.1, HS4.out.2.2.2⟩
    clear HS4
    have HS4 := HSn
    clear HSn
    have hc0 := (HS4.out.1).facts.1
    have hf0 := (HS4.out.1).facts.2
    have hz0 := (HS4.out.1).lt
    go_wp2_with fail
    clear hc0 hf0 hz0
    generalize hW : World.alloc w4 _ = w5
    have hb : Below w4.heap.size w4 w5 := by rw [← hW]; exact (by repeat (first | with_reducible exact Below.refl _ _ | with_reducible refine Below.drew ?_ | with_reducible refine Bel_drewN ?_ _ | with_reducible refine Below.alloc ?_ (by first | omega | (simp; done) | (simp; omega)) _ | with_reducible refine Below.setCell ?_ (by first | omega | (simp; done) | (simp; omega)) _))
    have z5 : w4.heap.size + 1 ≤ w5.heap.size := by rw [← hW]; simp
    have HS5 : Hid (Whole w5 w.heap.size 24 #[.int .i64 sn, .slice ao_ss ss.length c_ss] ∧ Row w5 w3.heap.size w4.heap.size aos (fl .f32 (canL ss.length (lazG sn.toNat ss st))) ∧ Whole w5 w4.heap.size 27 #[.int .i64 sn, .slice aos ss.length ccs] ∧ Below w.heap.size w w5) := Lib.hid ⟨HS4.out.1.below hb, HS4.out.2.1.below hb, by rw [← hW]; exact Whole.made _ _ _, Bel_next HS4.out.2.2 hb⟩
    clear HS4 hW hb
    refine (toChain_any sn ss _ _ _ (Holds.below HX_ss.out HS5.out.2.2.2) hn_ss).mono ?_
    rintro e w6 ⟨aoX_ss, rfl, rowX_ss, hb⟩
    have z6 : w5.heap.size ≤ w6.heap.size := hb.size
    have HS6 : Hid (Whole w6 w.heap.size 24 #[.int .i64 sn, .slice ao_ss ss.length c_ss] ∧ Row w6 w3.heap.size w4.heap.size aos (fl .f32 (canL ss.length (lazG sn.toNat ss st))) ∧ Whole w6 w4.heap.size 27 #[.int .i64 sn, .slice aos ss.length ccs] ∧ Row w6 w5.heap.size w6.heap.size aoX_ss (fl .f32 ss) ∧ Below w.heap.size w w6) := Lib.hid ⟨HS5.out.1.below hb, HS5.out.2.1.below hb, HS5.out.2.2.1.below hb, rowX_ss, Bel_next HS5.out.2.2.2 hb⟩
    clear HS5 hb rowX_ss
    have hc0 := (HS6.out.1).facts.1
    have hf0 := (HS6.out.1).facts.2
    have hz0 := (HS6.out.1).lt
    have hc2 := (HS6.out.2.2.1).facts.1
    have hf2 := (HS6.out.2.2.1).facts.2
    have hz2 := (HS6.out.2.2.1).lt
    go_wp2_with fail
    clear hc0 hf0 hz0
    clear hc2 hf2 hz2
    generalize hW : World.alloc w6 _ = w7
    have hb : Below w6.heap.size w6 w7 := by rw [← hW]; exact (by repeat (first | with_reducible exact Below.refl _ _ | with_reducible refine Below.drew ?_ | with_reducible refine Bel_drewN ?_ _ | with_reducible refine Below.alloc ?_ (by first | omega | (simp; done) | (simp; omega)) _ | with_reducible refine Below.setCell ?_ (by first | omega | (simp; done) | (simp; omega)) _))
    have z7 : w6.heap.size + 1 ≤ w7.heap.size := by rw [← hW]; simp
    have HS7 : Hid (Whole w7 w.heap.size 24 #[.int .i64 sn, .slice ao_ss ss.length c_ss] ∧ Row w7 w3.heap.size w4.heap.size aos (fl .f32 (canL ss.length (lazG sn.toNat ss st))) ∧ Whole w7 w4.heap.size 27 #[.int .i64 sn, .slice aos ss.length ccs] ∧ Row w7 w5.heap.size w6.heap.size aoX_ss (fl .f32 ss) ∧ Whole w7 w6.heap.size 27 #[.int .i64 sn, .slice aoX_ss ss.length ss.length] ∧ Below w.heap.size w w7) := Lib.hid ⟨HS6.out.1.below hb, HS6.out.2.1.below hb, HS6.out.2.2.1.below hb, HS6.out.2.2.2.1.below hb, by rw [← hW]; exact Whole.made _ _ _, Bel_next HS6.out.2.2.2.2 hb⟩
    clear HS6 hW hb
    refine (implLazy_is sn ss st _ rfl _ _ _ (HS7.out.2.2.2.1).holds hn_ss (Nat.le_refl _) HV.out).mono ?_
    rintro e w8 ⟨aog, ccg, rfl, rowg, hb⟩
    have z8 : w7.heap.size ≤ w8.heap.size := hb.size
    have HS8 : Hid (Whole w8 w.heap.size 24 #[.int .i64 sn, .slice ao_ss ss.length c_ss] ∧ Row w8 w3.heap.size w4.heap.size aos (fl .f32 (canL ss.length (lazG sn.toNat ss st))) ∧ Whole w8 w4.heap.size 27 #[.int .i64 sn, .slice aos ss.length ccs] ∧ Row w8 w5.heap.size w6.heap.size aoX_ss (fl .f32 ss) ∧ Whole w8 w6.heap.size 27 #[.int .i64 sn, .slice aoX_ss ss.length ss.length] ∧ Row w8 w7.heap.size w8.heap.size aog (fl .f32 (canL ss.length (lazG sn.toNat ss st))) ∧ Below w.heap.size w w8) := Lib.hid ⟨HS7.out.1.below hb, HS7.out.2.1.below hb, HS7.out.2.2.1.below hb, HS7.out.2.2.2.1.below hb, HS7.out.2.2.2.2.1.below hb, rowg, Bel_next HS7.out.2.2.2.2.2 hb⟩
    clear HS7 hb rowg
    have HSn : Hid (Whole w8 w.heap.size 24 #[.int .i64 sn, .slice ao_ss ss.length c_ss] ∧ Row w8 w3.heap.size w4.heap.size aos (fl .f32 (canL ss.length (lazG sn.toNat ss st))) ∧ Whole w8 w4.heap.size 27 #[.int .i64 sn, .slice aos ss.length ccs] ∧ Row w8 w5.heap.size w6.heap.size aoX_ss (fl .f32 ss) ∧ Whole w8 w6.heap.size 27 #[.int .i64 sn, .slice aoX_ss ss.length ss.length] ∧ Row w8 w7.heap.size w8.heap.size aog (fl .f32 (canL ss.length (lazG sn.toNat ss st))) ∧ Below w.heap.size w w8) := Lib.hid ⟨HS8.out.1, HS8.out.2.1, HS8.out.2.2.1, HS8.out.2.2.2.1, HS8.out.2.2.2.2.1, HS8.out.2.2.2.2.2.1, HS8.out.2.2.2.2.2.2⟩
    clear HS8
    have HS8 := HSn
    clear HSn
    have hc0 := (HS8.out.1).facts.1
    have hf0 := (HS8.out.1).facts.2
    have hz0 := (HS8.out.1).lt
    have hc2 := (HS8.out.2.2.1).facts.1
    have hf2 := (HS8.out.2.2.1).facts.2
    have hz2 := (HS8.out.2.2.1).lt
    have hc4 := (HS8.out.2.2.2.2.1).facts.1
    have hf4 := (HS8.out.2.2.2.2.1).facts.2
    have hz4 := (HS8.out.2.2.2.2.1).lt
    go_wp2_with fail
    clear hc0 hf0 hz0
    clear hc2 hf2 hz2
    clear hc4 hf4 hz4
    generalize hW : World.alloc w8 _ = w9
    have hb : Below w8.heap.size w8 w9 := by rw [← hW]; exact (by repeat (first | with_reducible exact Below.refl _ _ | with_reducible refine Below.drew ?_ | with_reducible refine Bel_drewN ?_ _ | with_reducible refine Below.alloc ?_ (by first | omega | (simp; done) | (simp; omega)) _ | with_reducible refine Below.setCell ?_ (by first | omega | (simp; done) | (simp; omega)) _))
    have z9 : w8.heap.size + 1 ≤ w9.heap.size := by rw [← hW]; simp
    have HS9 : Hid (Whole w9 w.heap.size 24 #[.int .i64 sn, .slice ao_ss ss.length c_ss] ∧ Row w9 w3.heap.size w4.heap.size aos (fl .f32 (canL ss.length (lazG sn.toNat ss st))) ∧ Whole w9 w4.heap.size 27 #[.int .i64 sn, .slice aos ss.length ccs] ∧ Row w9 w5.heap.size w6.heap.size aoX_ss (fl .f32 ss) ∧ Whole w9 w6.heap.size 27 #[.int .i64 sn, .slice aoX_ss ss.length ss.length] ∧ Row w9 w7.heap.size w8.heap.size aog (fl .f32 (canL ss.length (lazG sn.toNat ss st))) ∧ Whole w9 w8.heap.size 27 #[.int .i64 sn, .slice aog ss.length ccg] ∧ Below w.heap.size w w9) := Lib.hid ⟨HS8.out.1.below hb, HS8.out.2.1.below hb, HS8.out.2.2.1.below hb, HS8.out.2.2.2.1.below hb, HS8.out.2.2.2.2.1.below hb, HS8.out.2.2.2.2.2.1.below hb, by rw [← hW]; exact Whole.made _ _ _, Bel_next HS8.out.2.2.2.2.2.2 hb⟩
    clear HS8 hW hb
    refine (eqChain_same (sn) (canL ss.length (lazG sn.toNat ss st)) (ss.length) (canL_len _ _) _ _ _ _ _ HS9.out.2.2.2.2.2.1.holds HS9.out.2.1.holds (by omega)).mono ?_
    rintro e w10 ⟨rfl, hb⟩
    have z10 : w9.heap.size ≤ w10.heap.size := hb.size
    have HS10 : Hid (Whole w10 w.heap.size 24 #[.int .i64 sn, .slice ao_ss ss.length c_ss] ∧ Row w10 w3.heap.size w4.heap.size aos (fl .f32 (canL ss.length (lazG sn.toNat ss st))) ∧ Whole w10 w4.heap.size 27 #[.int .i64 sn, .slice aos ss.length ccs] ∧ Row w10 w5.heap.size w6.heap.size aoX_ss (fl .f32 ss) ∧ Whole w10 w6.heap.size 27 #[.int .i64 sn, .slice aoX_ss ss.length ss.length] ∧ Row w10 w7.heap.size w8.heap.size aog (fl .f32 (canL ss.length (lazG sn.toNat ss st))) ∧ Whole w10 w8.heap.size 27 #[.int .i64 sn, .slice aog ss.length ccg] ∧ Below w.heap.size w w10) := Lib.hid ⟨HS9.out.1.below hb, HS9.out.2.1.below hb, HS9.out.2.2.1.below hb, HS9.out.2.2.2.1.below hb, HS9.out.2.2.2.2.1.below hb, HS9.out.2.2.2.2.2.1.below hb, HS9.out.2.2.2.2.2.2.1.below hb, Bel_next HS9.out.2.2.2.2.2.2.2 hb⟩
    clear HS9 hb
    have hc0 := (HS10.out.1).facts.1
    have hf0 := (HS10.out.1).facts.2
    have hz0 := (HS10.out.1).lt
    have hc2 := (HS10.out.2.2.1).facts.1
    have hf2 := (HS10.out.2.2.1).facts.2
    have hz2 := (HS10.out.2.2.1).lt
    have hc4 := (HS10.out.2.2.2.2.1).facts.1
    have hf4 := (HS10.out.2.2.2.2.1).facts.2
    have hz4 := (HS10.out.2.2.2.2.1).lt
    have hc6 := (HS10.out.2.2.2.2.2.2.1).facts.1
    have hf6 := (HS10.out.2.2.2.2.2.2.1).facts.2
    have hz6 := (HS10.out.2.2.2.2.2.2.1).lt
    go_wp2_with fail
    clear hc0 hf0 hz0
    clear hc2 hf2 hz2
    clear hc4 hf4 hz4
    clear hc6 hf6 hz6
    have HK : Hid (∀ v v' : World, (v.cell? ⟨w6.heap.size, 0, none⟩ = some (.int .i64 sn) ∧ v.cell? ⟨w6.heap.size, 1, none⟩ = some (.slice aoX_ss ss.length ss.length) ∧ v.cell? ⟨w.heap.size, 0, none⟩ = some (.int .i64 sn) ∧ v.cell? ⟨w.heap.size, 1, none⟩ = some (.slice ao_ss ss.length c_ss) ∧ w10.heap.size ≤ v.heap.size ∧ Whole v w.heap.size 24 #[.int .i64 sn, .slice ao_ss ss.length c_ss] ∧ Row v w3.heap.size w4.heap.size aos (fl .f32 (canL ss.length (lazG sn.toNat ss st))) ∧ Whole v w4.heap.size 27 #[.int .i64 sn, .slice aos ss.length ccs] ∧ Row v w5.heap.size w6.heap.size aoX_ss (fl .f32 ss) ∧ Whole v w6.heap.size 27 #[.int .i64 sn, .slice aoX_ss ss.length ss.length] ∧ Row v w7.heap.size w8.heap.size aog (fl .f32 (canL ss.length (lazG sn.toNat ss st))) ∧ Whole v w8.heap.size 27 #[.int .i64 sn, .slice aog ss.length ccg] ∧ Below w.heap.size w v) → Below v.heap.size v v' → (v'.cell? ⟨w6.heap.size, 0, none⟩ = some (.int .i64 sn) ∧ v'.cell? ⟨w6.heap.size, 1, none⟩ = some (.slice aoX_ss ss.length ss.length) ∧ v'.cell? ⟨w.heap.size, 0, none⟩ = some (.int .i64 sn) ∧ v'.cell? ⟨w.heap.size, 1, none⟩ = some (.slice ao_ss ss.length c_ss) ∧ w10.heap.size ≤ v'.heap.size ∧ Whole v' w.heap.size 24 #[.int .i64 sn, .slice ao_ss ss.length c_ss] ∧ Row v' w3.heap.size w4.heap.size aos (fl .f32 (canL ss.length (lazG sn.toNat ss st))) ∧ Whole v' w4.heap.size 27 #[.int .i64 sn, .slice aos ss.length ccs] ∧ Row v' w5.heap.size w6.heap.size aoX_ss (fl .f32 ss) ∧ Whole v' w6.heap.size 27 #[.int .i64 sn, .slice aoX_ss ss.length ss.length] ∧ Row v' w7.heap.size w8.heap.size aog (fl .f32 (canL ss.length (lazG sn.toNat ss st))) ∧ Whole v' w8.heap.size 27 #[.int .i64 sn, .slice aog ss.length ccg] ∧ Below w.heap.size w v')) := Lib.hid (fun v v' h hb => ⟨(by rw [Below.cell hb (World.block_lt_of_cell? _ _ h.1)]; exact h.1), (by rw [Below.cell hb (World.block_lt_of_cell? _ _ h.2.1)]; exact h.2.1), (by rw [Below.cell hb (World.block_lt_of_cell? _ _ h.2.2.1)]; exact h.2.2.1), (by rw [Below.cell hb (World.block_lt_of_cell? _ _ h.2.2.2.1)]; exact h.2.2.2.1), Nat.le_trans h.2.2.2.2.1 hb.size, h.2.2.2.2.2.1.below hb, h.2.2.2.2.2.2.1.below hb, h.2.2.2.2.2.2.2.1.below hb, h.2.2.2.2.2.2.2.2.1.below hb, h.2.2.2.2.2.2.2.2.2.1.below hb, h.2.2.2.2.2.2.2.2.2.2.1.below hb, h.2.2.2.2.2.2.2.2.2.2.2.1.below hb, Bel_next h.2.2.2.2.2.2.2.2.2.2.2.2 hb⟩)
    have HP : Hid (∀ v : World, (v.cell? ⟨w6.heap.size, 0, none⟩ = some (.int .i64 sn) ∧ v.cell? ⟨w6.heap.size, 1, none⟩ = some (.slice aoX_ss ss.length ss.length) ∧ v.cell? ⟨w.heap.size, 0, none⟩ = some (.int .i64 sn) ∧ v.cell? ⟨w.heap.size, 1, none⟩ = some (.slice ao_ss ss.length c_ss) ∧ w10.heap.size ≤ v.heap.size ∧ Whole v w.heap.size 24 #[.int .i64 sn, .slice ao_ss ss.length c_ss] ∧ Row v w3.heap.size w4.heap.size aos (fl .f32 (canL ss.length (lazG sn.toNat ss st))) ∧ Whole v w4.heap.size 27 #[.int .i64 sn, .slice aos ss.length ccs] ∧ Row v w5.heap.size w6.heap.size aoX_ss (fl .f32 ss) ∧ Whole v w6.heap.size 27 #[.int .i64 sn, .slice aoX_ss ss.length ss.length] ∧ Row v w7.heap.size w8.heap.size aog (fl .f32 (canL ss.length (lazG sn.toNat ss st))) ∧ Whole v w8.heap.size 27 #[.int .i64 sn, .slice aog ss.length ccg] ∧ Below w.heap.size w v) → (Whole v w.heap.size 24 #[.int .i64 sn, .slice ao_ss ss.length c_ss] ∧ Row v w3.heap.size w4.heap.size aos (fl .f32 (canL ss.length (lazG sn.toNat ss st))) ∧ Whole v w4.heap.size 27 #[.int .i64 sn, .slice aos ss.length ccs] ∧ Row v w5.heap.size w6.heap.size aoX_ss (fl .f32 ss) ∧ Whole v w6.heap.size 27 #[.int .i64 sn, .slice aoX_ss ss.length ss.length] ∧ Row v w7.heap.size w8.heap.size aog (fl .f32 (canL ss.length (lazG sn.toNat ss st))) ∧ Whole v w8.heap.size 27 #[.int .i64 sn, .slice aog ss.length ccg] ∧ Below w.heap.size w v)) := Lib.hid (fun v h => h.2.2.2.2.2)
    have hR : w10.cell? ⟨w6.heap.size, 0, none⟩ = some (.int .i64 sn) ∧ w10.cell? ⟨w6.heap.size, 1, none⟩ = some (.slice aoX_ss ss.length ss.length) ∧ w10.cell? ⟨w.heap.size, 0, none⟩ = some (.int .i64 sn) ∧ w10.cell? ⟨w.heap.size, 1, none⟩ = some (.slice ao_ss ss.length c_ss) ∧ w10.heap.size ≤ w10.heap.size ∧ Whole w10 w.heap.size 24 #[.int .i64 sn, .slice ao_ss ss.length c_ss] ∧ Row w10 w3.heap.size w4.heap.size aos (fl .f32 (canL ss.length (lazG sn.toNat ss st))) ∧ Whole w10 w4.heap.size 27 #[.int .i64 sn, .slice aos ss.length ccs] ∧ Row w10 w5.heap.size w6.heap.size aoX_ss (fl .f32 ss) ∧ Whole w10 w6.heap.size 27 #[.int .i64 sn, .slice aoX_ss ss.length ss.length] ∧ Row w10 w7.heap.size w8.heap.size aog (fl .f32 (canL ss.length (lazG sn.toNat ss st))) ∧ Whole w10 w8.heap.size 27 #[.int .i64 sn, .slice aog ss.length ccg] ∧ Below w.heap.size w w10 := ⟨(HS10.out.2.2.2.2.1).cell 0, (HS10.out.2.2.2.2.1).cell 1, (HS10.out.1).cell 0, (HS10.out.1).cell 1, Nat.le_refl _, HS10.out.1, HS10.out.2.1, HS10.out.2.2.1, HS10.out.2.2.2.1, HS10.out.2.2.2.2.1, HS10.out.2.2.2.2.2.1, HS10.out.2.2.2.2.2.2.1, HS10.out.2.2.2.2.2.2.2⟩
    go_region_held3 (fun v => v.cell? ⟨w6.heap.size, 0, none⟩ = some (.int .i64 sn) ∧ v.cell? ⟨w6.heap.size, 1, none⟩ = some (.slice aoX_ss ss.length ss.length) ∧ v.cell? ⟨w.heap.size, 0, none⟩ = some (.int .i64 sn) ∧ v.cell? ⟨w.heap.size, 1, none⟩ = some (.slice ao_ss ss.length c_ss) ∧ w10.heap.size ≤ v.heap.size ∧ Whole v w.heap.size 24 #[.int .i64 sn, .slice ao_ss ss.length c_ss] ∧ Row v w3.heap.size w4.heap.size aos (fl .f32 (canL ss.length (lazG sn.toNat ss st))) ∧ Whole v w4.heap.size 27 #[.int .i64 sn, .slice aos ss.length ccs] ∧ Row v w5.heap.size w6.heap.size aoX_ss (fl .f32 ss) ∧ Whole v w6.heap.size 27 #[.int .i64 sn, .slice aoX_ss ss.length ss.length] ∧ Row v w7.heap.size w8.heap.size aog (fl .f32 (canL ss.length (lazG sn.toNat ss st))) ∧ Whole v w8.heap.size 27 #[.int .i64 sn, .slice aog ss.length ccg] ∧ Below w.heap.size w v)
      (first | assumption | exact HK.out _ _ (by assumption) (by assumption) | exact HK.out _ _ (by assumption) ((Below.refl _ _).drew) | (refine HK.out _ _ (by assumption) ?_; (repeat (first | with_reducible exact Below.refl _ _ | with_reducible refine Below.drew ?_ | with_reducible refine Bel_drewN ?_ _ | with_reducible refine Below.alloc ?_ (by first | omega | (simp; done) | (simp; omega)) _ | with_reducible refine Below.setCell ?_ (by first | omega | (simp; done) | (simp; omega)) _)); done))
      (first | (go_at_call 17; refine (toChain_any sn ss _ _ _ (Holds.below HX_ss.out (HP.out _ (by assumption)).2.2.2.2.2.2.2) hn_ss).mono ?_; rintro e wt ⟨aoY_ss, rfl, rowY_ss, hbt⟩) | (go_at_call 19; refine (eqChain_same sn ss _ rfl _ _ _ _ _ ((HP.out _ (by assumption)).2.2.2.1.holds) (by exact rowY_ss.holds) hn_ss).mono ?_; rintro e w11 ⟨rfl, hb⟩))
    have hN := (HK.out _ _ (HK.out _ _ hR (by first | exact hbt | exact Bel_next (Below.refl _ _).drew hbt)) (by first | exact hb | exact Bel_next (Below.refl _ _).drew hb))
    have z11 : w10.heap.size ≤ w11.heap.size := hN.2.2.2.2.1
    have HS11 : Hid (Whole w11 w.heap.size 24 #[.int .i64 sn, .slice ao_ss ss.length c_ss] ∧ Row w11 w3.heap.size w4.heap.size aos (fl .f32 (canL ss.length (lazG sn.toNat ss st))) ∧ Whole w11 w4.heap.size 27 #[.int .i64 sn, .slice aos ss.length ccs] ∧ Row w11 w5.heap.size w6.heap.size aoX_ss (fl .f32 ss) ∧ Whole w11 w6.heap.size 27 #[.int .i64 sn, .slice aoX_ss ss.length ss.length] ∧ Row w11 w7.heap.size w8.heap.size aog (fl .f32 (canL ss.length (lazG sn.toNat ss st))) ∧ Whole w11 w8.heap.size 27 #[.int .i64 sn, .slice aog ss.length ccg] ∧ Below w.heap.size w w11) := Lib.hid ⟨hN.2.2.2.2.2.1, hN.2.2.2.2.2.2.1, hN.2.2.2.2.2.2.2.1, hN.2.2.2.2.2.2.2.2.1, hN.2.2.2.2.2.2.2.2.2.1, hN.2.2.2.2.2.2.2.2.2.2.1, hN.2.2.2.2.2.2.2.2.2.2.2.1, hN.2.2.2.2.2.2.2.2.2.2.2.2⟩
    clear HS10 hN hR HK HP hb hbt
    clear rowY_ss
    have hc0 := (HS11.out.1).facts.1
    have hf0 := (HS11.out.1).facts.2
    have hz0 := (HS11.out.1).lt
    have hc2 := (HS11.out.2.2.1).facts.1
    have hf2 := (HS11.out.2.2.1).facts.2
    have hz2 := (HS11.out.2.2.1).lt
    have hc4 := (HS11.out.2.2.2.2.1).facts.1
    have hf4 := (HS11.out.2.2.2.2.1).facts.2
    have hz4 := (HS11.out.2.2.2.2.1).lt
    have hc6 := (HS11.out.2.2.2.2.2.2.1).facts.1
    have hf6 := (HS11.out.2.2.2.2.2.2.1).facts.2
    have hz6 := (HS11.out.2.2.2.2.2.2.1).lt
    go_wp2_with fail
    clear hc0 hf0 hz0
    clear hc2 hf2 hz2
    clear hc4 hf4 hz4
    clear hc6 hf6 hz6
    refine (markChain_row sn 1 _ _ _ _ _ _ HS11.out.2.2.2.1 ((fl_len _ _).trans (rfl)) (by omega)).mono ?_
    rintro e w12 ⟨rfl, row, bt⟩
    have z12 : w11.heap.size ≤ w12.heap.size := bt.size
    have HS12 : Hid (Whole w12 w.heap.size 24 #[.int .i64 sn, .slice ao_ss ss.length c_ss] ∧ Row w12 w3.heap.size w4.heap.size aos (fl .f32 (canL ss.length (lazG sn.toNat ss st))) ∧ Whole w12 w4.heap.size 27 #[.int .i64 sn, .slice aos ss.length ccs] ∧ Row w12 w5.heap.size w6.heap.size aoX_ss (fl .f32 (fmarks 1 ss.length)) ∧ Whole w12 w6.heap.size 27 #[.int .i64 sn, .slice aoX_ss ss.length ss.length] ∧ Row w12 w7.heap.size w8.heap.size aog (fl .f32 (canL ss.length (lazG sn.toNat ss st))) ∧ Whole w12 w8.heap.size 27 #[.int .i64 sn, .slice aog ss.length ccg] ∧ Below w.heap.size w w12) := Lib.hid ⟨HS11.out.1.buts bt (by omega), HS11.out.2.1.but bt (by omega), HS11.out.2.2.1.buts bt (by omega), row, HS11.out.2.2.2.2.1.buts bt (by omega), HS11.out.2.2.2.2.2.1.but bt (by omega), HS11.out.2.2.2.2.2.2.1.buts bt (by omega), bt.bel HS11.out.2.2.2.2.2.2.2 (by omega)⟩
    clear HS11 row bt
    have hc0 := (HS12.out.1).facts.1
    have hf0 := (HS12.out.1).facts.2
    have hz0 := (HS12.out.1).lt
    have hc2 := (HS12.out.2.2.1).facts.1
    have hf2 := (HS12.out.2.2.1).facts.2
    have hz2 := (HS12.out.2.2.1).lt
    have hc4 := (HS12.out.2.2.2.2.1).facts.1
    have hf4 := (HS12.out.2.2.2.2.1).facts.2
    have hz4 := (HS12.out.2.2.2.2.1).lt
    have hc6 := (HS12.out.2.2.2.2.2.2.1).facts.1
    have hf6 := (HS12.out.2.2.2.2.2.2.1).facts.2
    have hz6 := (HS12.out.2.2.2.2.2.2.1).lt
    go_wp2_with fail
    clear hc0 hf0 hz0
    clear hc2 hf2 hz2
    clear hc4 hf4 hz4
    clear hc6 hf6 hz6
    refine (eqChain_same (sn) (canL ss.length (lazG sn.toNat ss st)) (ss.length) (canL_len _ _) _ _ _ _ _ HS12.out.2.2.2.2.2.1.holds HS12.out.2.1.holds (by omega)).mono ?_
    rintro e w13 ⟨rfl, hb⟩
    have z13 : w12.heap.size ≤ w13.heap.size := hb.size
    have HS13 : Hid (Whole w13 w.heap.size 24 #[.int .i64 sn, .slice ao_ss ss.length c_ss] ∧ Row w13 w3.heap.size w4.heap.size aos (fl .f32 (canL ss.length (lazG sn.toNat ss st))) ∧ Whole w13 w4.heap.size 27 #[.int .i64 sn, .slice aos ss.length ccs] ∧ Row w13 w5.heap.size w6.heap.size aoX_ss (fl .f32 (fmarks 1 ss.length)) ∧ Whole w13 w6.heap.size 27 #[.int .i64 sn, .slice aoX_ss ss.length ss.length] ∧ Row w13 w7.heap.size w8.heap.size aog (fl .f32 (canL ss.length (lazG sn.toNat ss st))) ∧ Whole w13 w8.heap.size 27 #[.int .i64 sn, .slice aog ss.length ccg] ∧ Below w.heap.size w w13) := Lib.hid ⟨HS12.out.1.below hb, HS12.out.2.1.below hb, HS12.out.2.2.1.below hb, HS12.out.2.2.2.1.below hb, HS12.out.2.2.2.2.1.below hb, HS12.out.2.2.2.2.2.1.below hb, HS12.out.2.2.2.2.2.2.1.below hb, Bel_next HS12.out.2.2.2.2.2.2.2 hb⟩
    clear HS12 hb
    have hc0 := (HS13.out.1).facts.1
    have hf0 := (HS13.out.1).facts.2
    have hz0 := (HS13.out.1).lt
    have hc2 := (HS13.out.2.2.1).facts.1
    have hf2 := (HS13.out.2.2.1).facts.2
    have hz2 := (HS13.out.2.2.1).lt
    have hc4 := (HS13.out.2.2.2.2.1).facts.1
    have hf4 := (HS13.out.2.2.2.2.1).facts.2
    have hz4 := (HS13.out.2.2.2.2.1).lt
    have hc6 := (HS13.out.2.2.2.2.2.2.1).facts.1
    have hf6 := (HS13.out.2.2.2.2.2.2.1).facts.2
    have hz6 := (HS13.out.2.2.2.2.2.2.1).lt
    go_wp2_with fail
    clear hc0 hf0 hz0
    clear hc2 hf2 hz2
    clear hc4 hf4 hz4
    clear hc6 hf6 hz6
    refine (markChain_row (sn) 1 _ _ _ _ _ _ HS13.out.2.2.2.2.2.1 ((fl_len _ _).trans (canL_len _ _)) (by omega)).mono ?_
    rintro e w14 ⟨rfl, row, bt⟩
    have z14 : w13.heap.size ≤ w14.heap.size := bt.size
    have HS14 : Hid (Whole w14 w.heap.size 24 #[.int .i64 sn, .slice ao_ss ss.length c_ss] ∧ Row w14 w3.heap.size w4.heap.size aos (fl .f32 (canL ss.length (lazG sn.toNat ss st))) ∧ Whole w14 w4.heap.size 27 #[.int .i64 sn, .slice aos ss.length ccs] ∧ Row w14 w5.heap.size w6.heap.size aoX_ss (fl .f32 (fmarks 1 ss.length)) ∧ Whole w14 w6.heap.size 27 #[.int .i64 sn, .slice aoX_ss ss.length ss.length] ∧ Row w14 w7.heap.size w8.heap.size aog (fl .f32 (fmarks 1 ss.length)) ∧ Whole w14 w8.heap.size 27 #[.int .i64 sn, .slice aog ss.length ccg] ∧ Below w.heap.size w w14) := Lib.hid ⟨HS13.out.1.buts bt (by omega), HS13.out.2.1.but bt (by omega), HS13.out.2.2.1.buts bt (by omega), HS13.out.2.2.2.1.but bt (by omega), HS13.out.2.2.2.2.1.buts bt (by omega), row, HS13.out.2.2.2.2.2.2.1.buts bt (by omega), bt.bel HS13.out.2.2.2.2.2.2.2 (by omega)⟩
    clear HS13 row bt
    have hc0 := (HS14.out.1).facts.1
    have hf0 := (HS14.out.1).facts.2
    have hz0 := (HS14.out.1).lt
    have hc2 := (HS14.out.2.2.1).facts.1
    have hf2 := (HS14.out.2.2.1).facts.2
    have hz2 := (HS14.out.2.2.1).lt
    have hc4 := (HS14.out.2.2.2.2.1).facts.1
    have hf4 := (HS14.out.2.2.2.2.1).facts.2
    have hz4 := (HS14.out.2.2.2.2.1).lt
    have hc6 := (HS14.out.2.2.2.2.2.2.1).facts.1
    have hf6 := (HS14.out.2.2.2.2.2.2.1).facts.2
    have hz6 := (HS14.out.2.2.2.2.2.2.1).lt
    go_wp2_with fail
    clear hc0 hf0 hz0
    clear hc2 hf2 hz2
    clear hc4 hf4 hz4
    clear hc6 hf6 hz6
    refine (heldChain_marks (sn) 1 (ss.length) _ _ _ HS14.out.2.2.2.2.2.1.holds (by omega)).mono ?_
    rintro e w15 ⟨rfl, hb⟩
    have z15 : w14.heap.size ≤ w15.heap.size := hb.size
    have HS15 : Hid (Whole w15 w.heap.size 24 #[.int .i64 sn, .slice ao_ss ss.length c_ss] ∧ Row w15 w3.heap.size w4.heap.size aos (fl .f32 (canL ss.length (lazG sn.toNat ss st))) ∧ Whole w15 w4.heap.size 27 #[.int .i64 sn, .slice aos ss.length ccs] ∧ Row w15 w5.heap.size w6.heap.size aoX_ss (fl .f32 (fmarks 1 ss.length)) ∧ Whole w15 w6.heap.size 27 #[.int .i64 sn, .slice aoX_ss ss.length ss.length] ∧ Row w15 w7.heap.size w8.heap.size aog (fl .f32 (fmarks 1 ss.length)) ∧ Whole w15 w8.heap.size 27 #[.int .i64 sn, .slice aog ss.length ccg] ∧ Below w.heap.size w w15) := Lib.hid ⟨HS14.out.1.below hb, HS14.out.2.1.below hb, HS14.out.2.2.1.below hb, HS14.out.2.2.2.1.below hb, HS14.out.2.2.2.2.1.below hb, HS14.out.2.2.2.2.2.1.below hb, HS14.out.2.2.2.2.2.2.1.below hb, Bel_next HS14.out.2.2.2.2.2.2.2 hb⟩
    clear HS14 hb
    have hc0 := (HS15.out.1).facts.1
    have hf0 := (HS15.out.1).facts.2
    have hz0 := (HS15.out.1).lt
    have hc2 := (HS15.out.2.2.1).facts.1
    have hf2 := (HS15.out.2.2.1).facts.2
    have hz2 := (HS15.out.2.2.1).lt
    have hc4 := (HS15.out.2.2.2.2.1).facts.1
    have hf4 := (HS15.out.2.2.2.2.1).facts.2
    have hz4 := (HS15.out.2.2.2.2.1).lt
    have hc6 := (HS15.out.2.2.2.2.2.2.1).facts.1
    have hf6 := (HS15.out.2.2.2.2.2.2.1).facts.2
    have hz6 := (HS15.out.2.2.2.2.2.2.1).lt
    go_wp2_with fail
    clear hc0 hf0 hz0
    clear hc2 hf2 hz2
    clear hc4 hf4 hz4
    clear hc6 hf6 hz6
    refine (toChain_any sn ss _ _ _ (Holds.below HX_ss.out HS15.out.2.2.2.2.2.2.2) hn_ss).mono ?_
    rintro e w16 ⟨aohc_ss, rfl, rowhc_ss, hb⟩
    have z16 : w15.heap.size ≤ w16.heap.size := hb.size
    have HS16 : Hid (Whole w16 w.heap.size 24 #[.int .i64 sn, .slice ao_ss ss.length c_ss] ∧ Row w16 w3.heap.size w4.heap.size aos (fl .f32 (canL ss.length (lazG sn.toNat ss st))) ∧ Whole w16 w4.heap.size 27 #[.int .i64 sn, .slice aos ss.length ccs] ∧ Row w16 w5.heap.size w6.heap.size aoX_ss (fl .f32 (fmarks 1 ss.length)) ∧ Whole w16 w6.heap.size 27 #[.int .i64 sn, .slice aoX_ss ss.length ss.length] ∧ Row w16 w7.heap.size w8.heap.size aog (fl .f32 (fmarks 1 ss.length)) ∧ Whole w16 w8.heap.size 27 #[.int .i64 sn, .slice aog ss.length ccg] ∧ Row w16 w15.heap.size w16.heap.size aohc_ss (fl .f32 ss) ∧ Below w.heap.size w w16) := Lib.hid ⟨HS15.out.1.below hb, HS15.out.2.1.below hb, HS15.out.2.2.1.below hb, HS15.out.2.2.2.1.below hb, HS15.out.2.2.2.2.1.below hb, HS15.out.2.2.2.2.2.1.below hb, HS15.out.2.2.2.2.2.2.1.below hb, rowhc_ss, Bel_next HS15.out.2.2.2.2.2.2.2 hb⟩
    clear HS15 hb rowhc_ss
    have hc0 := (HS16.out.1).facts.1
    have hf0 := (HS16.out.1).facts.2
    have hz0 := (HS16.out.1).lt
    have hc2 := (HS16.out.2.2.1).facts.1
    have hf2 := (HS16.out.2.2.1).facts.2
    have hz2 := (HS16.out.2.2.1).lt
    have hc4 := (HS16.out.2.2.2.2.1).facts.1
    have hf4 := (HS16.out.2.2.2.2.1).facts.2
    have hz4 := (HS16.out.2.2.2.2.1).lt
    have hc6 := (HS16.out.2.2.2.2.2.2.1).facts.1
    have hf6 := (HS16.out.2.2.2.2.2.2.1).facts.2
    have hz6 := (HS16.out.2.2.2.2.2.2.1).lt
    go_wp2_with fail
    clear hc0 hf0 hz0
    clear hc2 hf2 hz2
    clear hc4 hf4 hz4
    clear hc6 hf6 hz6
    refine (implLazy_is sn ss st _ rfl _ _ _ (HS16.out.2.2.2.2.2.2.2.1).holds hn_ss (Nat.le_refl _) HV.out).mono ?_
    rintro e w17 ⟨aoh, cch, rfl, rowh, hb⟩
    have z17 : w16.heap.size ≤ w17.heap.size := hb.size
    have HS17 : Hid (Whole w17 w.heap.size 24 #[.int .i64 sn, .slice ao_ss ss.length c_ss] ∧ Row w17 w3.heap.size w4.heap.size aos (fl .f32 (canL ss.length (lazG sn.toNat ss st))) ∧ Whole w17 w4.heap.size 27 #[.int .i64 sn, .slice aos ss.length ccs] ∧ Row w17 w5.heap.size w6.heap.size aoX_ss (fl .f32 (fmarks 1 ss.length)) ∧ Whole w17 w6.heap.size 27 #[.int .i64 sn, .slice aoX_ss ss.length ss.length] ∧ Row w17 w7.heap.size w8.heap.size aog (fl .f32 (fmarks 1 ss.length)) ∧ Whole w17 w8.heap.size 27 #[.int .i64 sn, .slice aog ss.length ccg] ∧ Row w17 w15.heap.size w16.heap.size aohc_ss (fl .f32 ss) ∧ Row w17 w16.heap.size w17.heap.size aoh (fl .f32 (canL ss.length (lazG sn.toNat ss st))) ∧ Below w.heap.size w w17) := Lib.hid ⟨HS16.out.1.below hb, HS16.out.2.1.below hb, HS16.out.2.2.1.below hb, HS16.out.2.2.2.1.below hb, HS16.out.2.2.2.2.1.below hb, HS16.out.2.2.2.2.2.1.below hb, HS16.out.2.2.2.2.2.2.1.below hb, HS16.out.2.2.2.2.2.2.2.1.below hb, rowh, Bel_next HS16.out.2.2.2.2.2.2.2.2 hb⟩
    clear HS16 hb rowh
    have HSn : Hid (Whole w17 w.heap.size 24 #[.int .i64 sn, .slice ao_ss ss.length c_ss] ∧ Row w17 w3.heap.size w4.heap.size aos (fl .f32 (canL ss.length (lazG sn.toNat ss st))) ∧ Whole w17 w4.heap.size 27 #[.int .i64 sn, .slice aos ss.length ccs] ∧ Row w17 w5.heap.size w6.heap.size aoX_ss (fl .f32 (fmarks 1 ss.length)) ∧ Whole w17 w6.heap.size 27 #[.int .i64 sn, .slice aoX_ss ss.length ss.length] ∧ Row w17 w7.heap.size w8.heap.size aog (fl .f32 (fmarks 1 ss.length)) ∧ Whole w17 w8.heap.size 27 #[.int .i64 sn, .slice aog ss.length ccg] ∧ Row w17 w16.heap.size w17.heap.size aoh (fl .f32 (canL ss.length (lazG sn.toNat ss st))) ∧ Below w.heap.size w w17) := Lib.hid ⟨HS17.out.1, HS17.out.2.1, HS17.out.2.2.1, HS17.out.2.2.2.1, HS17.out.2.2.2.2.1, HS17.out.2.2.2.2.2.1, HS17.out.2.2.2.2.2.2.1, HS17.out.2.2.2.2.2.2.2.2.1, HS17.out.2.2.2.2.2.2.2.2.2⟩
    clear HS17
    have HS17 := HSn
    clear HSn
    have hc0 := (HS17.out.1).facts.1
    have hf0 := (HS17.out.1).facts.2
    have hz0 := (HS17.out.1).lt
    have hc2 := (HS17.out.2.2.1).facts.1
    have hf2 := (HS17.out.2.2.1).facts.2
    have hz2 := (HS17.out.2.2.1).lt
    have hc4 := (HS17.out.2.2.2.2.1).facts.1
    have hf4 := (HS17.out.2.2.2.2.1).facts.2
    have hz4 := (HS17.out.2.2.2.2.1).lt
    have hc6 := (HS17.out.2.2.2.2.2.2.1).facts.1
    have hf6 := (HS17.out.2.2.2.2.2.2.1).facts.2
    have hz6 := (HS17.out.2.2.2.2.2.2.1).lt
    go_wp2_with fail
    clear hc0 hf0 hz0
    clear hc2 hf2 hz2
    clear hc4 hf4 hz4
    clear hc6 hf6 hz6
    generalize hW : World.alloc w17 _ = w18
    have hb : Below w17.heap.size w17 w18 := by rw [← hW]; exact (by repeat (first | with_reducible exact Below.refl _ _ | with_reducible refine Below.drew ?_ | with_reducible refine Bel_drewN ?_ _ | with_reducible refine Below.alloc ?_ (by first | omega | (simp; done) | (simp; omega)) _ | with_reducible refine Below.setCell ?_ (by first | omega | (simp; done) | (simp; omega)) _))
    have z18 : w17.heap.size + 1 ≤ w18.heap.size := by rw [← hW]; simp
    have HS18 : Hid (Whole w18 w.heap.size 24 #[.int .i64 sn, .slice ao_ss ss.length c_ss] ∧ Row w18 w3.heap.size w4.heap.size aos (fl .f32 (canL ss.length (lazG sn.toNat ss st))) ∧ Whole w18 w4.heap.size 27 #[.int .i64 sn, .slice aos ss.length ccs] ∧ Row w18 w5.heap.size w6.heap.size aoX_ss (fl .f32 (fmarks 1 ss.length)) ∧ Whole w18 w6.heap.size 27 #[.int .i64 sn, .slice aoX_ss ss.length ss.length] ∧ Row w18 w7.heap.size w8.heap.size aog (fl .f32 (fmarks 1 ss.length)) ∧ Whole w18 w8.heap.size 27 #[.int .i64 sn, .slice aog ss.length ccg] ∧ Row w18 w16.heap.size w17.heap.size aoh (fl .f32 (canL ss.length (lazG sn.toNat ss st))) ∧ Whole w18 w17.heap.size 27 #[.int .i64 sn, .slice aoh ss.length cch] ∧ Below w.heap.size w w18) := Lib.hid ⟨HS17.out.1.below hb, HS17.out.2.1.below hb, HS17.out.2.2.1.below hb, HS17.out.2.2.2.1.below hb, HS17.out.2.2.2.2.1.below hb, HS17.out.2.2.2.2.2.1.below hb, HS17.out.2.2.2.2.2.2.1.below hb, HS17.out.2.2.2.2.2.2.2.1.below hb, by rw [← hW]; exact Whole.made _ _ _, Bel_next HS17.out.2.2.2.2.2.2.2.2 hb⟩
    clear HS17 hW hb
    refine (eqChain_same (sn) (canL ss.length (lazG sn.toNat ss st)) (ss.length) (canL_len _ _) _ _ _ _ _ HS18.out.2.2.2.2.2.2.2.1.holds HS18.out.2.1.holds (by omega)).mono ?_
    rintro e w19 ⟨rfl, hb⟩
    have z19 : w18.heap.size ≤ w19.heap.size := hb.size
    have HS19 : Hid (Whole w19 w.heap.size 24 #[.int .i64 sn, .slice ao_ss ss.length c_ss] ∧ Row w19 w3.heap.size w4.heap.size aos (fl .f32 (canL ss.length (lazG sn.toNat ss st))) ∧ Whole w19 w4.heap.size 27 #[.int .i64 sn, .slice aos ss.length ccs] ∧ Row w19 w5.heap.size w6.heap.size aoX_ss (fl .f32 (fmarks 1 ss.length)) ∧ Whole w19 w6.heap.size 27 #[.int .i64 sn, .slice aoX_ss ss.length ss.length] ∧ Row w19 w7.heap.size w8.heap.size aog (fl .f32 (fmarks 1 ss.length)) ∧ Whole w19 w8.heap.size 27 #[.int .i64 sn, .slice aog ss.length ccg] ∧ Row w19 w16.heap.size w17.heap.size aoh (fl .f32 (canL ss.length (lazG sn.toNat ss st))) ∧ Whole w19 w17.heap.size 27 #[.int .i64 sn, .slice aoh ss.length cch] ∧ Below w.heap.size w w19) := Lib.hid ⟨HS18.out.1.below hb, HS18.out.2.1.below hb, HS18.out.2.2.1.below hb, HS18.out.2.2.2.1.below hb, HS18.out.2.2.2.2.1.below hb, HS18.out.2.2.2.2.2.1.below hb, HS18.out.2.2.2.2.2.2.1.below hb, HS18.out.2.2.2.2.2.2.2.1.below hb, HS18.out.2.2.2.2.2.2.2.2.1.below hb, Bel_next HS18.out.2.2.2.2.2.2.2.2.2 hb⟩
    clear HS18 hb
    have hc0 := (HS19.out.1).facts.1
    have hf0 := (HS19.out.1).facts.2
    have hz0 := (HS19.out.1).lt
    have hc2 := (HS19.out.2.2.1).facts.1
    have hf2 := (HS19.out.2.2.1).facts.2
    have hz2 := (HS19.out.2.2.1).lt
    have hc4 := (HS19.out.2.2.2.2.1).facts.1
    have hf4 := (HS19.out.2.2.2.2.1).facts.2
    have hz4 := (HS19.out.2.2.2.2.1).lt
    have hc6 := (HS19.out.2.2.2.2.2.2.1).facts.1
    have hf6 := (HS19.out.2.2.2.2.2.2.1).facts.2
    have hz6 := (HS19.out.2.2.2.2.2.2.1).lt
    have hc8 := (HS19.out.2.2.2.2.2.2.2.2.1).facts.1
    have hf8 := (HS19.out.2.2.2.2.2.2.2.2.1).facts.2
    have hz8 := (HS19.out.2.2.2.2.2.2.2.2.1).lt
    go_wp2_with fail
    clear hc0 hf0 hz0
    clear hc2 hf2 hz2
    clear hc4 hf4 hz4
    clear hc6 hf6 hz6
    clear hc8 hf8 hz8
    refine (heldChain_marks (sn) 1 (ss.length) _ _ _ HS19.out.2.2.2.2.2.1.holds (by omega)).mono ?_
    rintro e w20 ⟨rfl, hb⟩
    have z20 : w19.heap.size ≤ w20.heap.size := hb.size
    have HS20 : Hid (Whole w20 w.heap.size 24 #[.int .i64 sn, .slice ao_ss ss.length c_ss] ∧ Row w20 w3.heap.size w4.heap.size aos (fl .f32 (canL ss.length (lazG sn.toNat ss st))) ∧ Whole w20 w4.heap.size 27 #[.int .i64 sn, .slice aos ss.length ccs] ∧ Row w20 w5.heap.size w6.heap.size aoX_ss (fl .f32 (fmarks 1 ss.length)) ∧ Whole w20 w6.heap.size 27 #[.int .i64 sn, .slice aoX_ss ss.length ss.length] ∧ Row w20 w7.heap.size w8.heap.size aog (fl .f32 (fmarks 1 ss.length)) ∧ Whole w20 w8.heap.size 27 #[.int .i64 sn, .slice aog ss.length ccg] ∧ Row w20 w16.heap.size w17.heap.size aoh (fl .f32 (canL ss.length (lazG sn.toNat ss st))) ∧ Whole w20 w17.heap.size 27 #[.int .i64 sn, .slice aoh ss.length cch] ∧ Below w.heap.size w w20) := Lib.hid ⟨HS19.out.1.below hb, HS19.out.2.1.below hb, HS19.out.2.2.1.below hb, HS19.out.2.2.2.1.below hb, HS19.out.2.2.2.2.1.below hb, HS19.out.2.2.2.2.2.1.below hb, HS19.out.2.2.2.2.2.2.1.below hb, HS19.out.2.2.2.2.2.2.2.1.below hb, HS19.out.2.2.2.2.2.2.2.2.1.below hb, Bel_next HS19.out.2.2.2.2.2.2.2.2.2 hb⟩
    clear HS19 hb
    have hc0 := (HS20.out.1).facts.1
    have hf0 := (HS20.out.1).facts.2
    have hz0 := (HS20.out.1).lt
    have hc2 := (HS20.out.2.2.1).facts.1
    have hf2 := (HS20.out.2.2.1).facts.2
    have hz2 := (HS20.out.2.2.1).lt
    have hc4 := (HS20.out.2.2.2.2.1).facts.1
    have hf4 := (HS20.out.2.2.2.2.1).facts.2
    have hz4 := (HS20.out.2.2.2.2.1).lt
    have hc6 := (HS20.out.2.2.2.2.2.2.1).facts.1
    have hf6 := (HS20.out.2.2.2.2.2.2.1).facts.2
    have hz6 := (HS20.out.2.2.2.2.2.2.1).lt
    have hc8 := (HS20.out.2.2.2.2.2.2.2.2.1).facts.1
    have hf8 := (HS20.out.2.2.2.2.2.2.2.2.1).facts.2
    have hz8 := (HS20.out.2.2.2.2.2.2.2.2.1).lt
    go_wp2_with fail
    clear hc0 hf0 hz0
    clear hc2 hf2 hz2
    clear hc4 hf4 hz4
    clear hc6 hf6 hz6
    clear hc8 hf8 hz8
    go_ret
    exact ⟨rfl, Bel_next HS20.out.2.2.2.2.2.2.2.2.2 (by repeat (first | with_reducible exact Below.refl _ _ | with_reducible refine Below.drew ?_ | with_reducible refine Bel_drewN ?_ _ | with_reducible refine Below.alloc ?_ (by first | omega | (simp; done) | (simp; omega)) _ | with_reducible refine Below.setCell ?_ (by first | omega | (simp; done) | (simp; omega)) _))⟩
  have HV := Lib.hid hv0
  clear hv0
  go_enter Try.func11, Try.ntmps11
  have HS0 : Hid (Below w.heap.size w w) := Lib.hid (Below.refl _ _)
  go_wp2_with fail
  generalize hW : World.alloc w _ = w1
  have hb : Below w.heap.size w w1 := by rw [← hW]; exact (by repeat (first | with_reducible exact Below.refl _ _ | with_reducible refine Below.drew ?_ | with_reducible refine Bel_drewN ?_ _ | with_reducible refine Below.alloc ?_ (by first | omega | (simp; done) | (simp; omega)) _ | with_reducible refine Below.setCell ?_ (by first | omega | (simp; done) | (simp; omega)) _))
  have z1 : w.heap.size + 1 ≤ w1.heap.size := by rw [← hW]; simp
  have HS1 : Hid (Whole w1 w.heap.size 24 #[.int .i64 sn, .slice ao_ss ss.length c_ss] ∧ Below w.heap.size w w1) := Lib.hid ⟨by rw [← hW]; exact Whole.made _ _ _, Bel_next HS0.out hb⟩
  clear HS0 hW hb
  refine (szChain_yes sn ss _ _ (1048576) _ HL0.out (by omega)).mono ?_
  rintro e w2 ⟨rfl, hb⟩
  have z2 : w1.heap.size ≤ w2.heap.size := hb.size
  have HS2 : Hid (Whole w2 w.heap.size 24 #[.int .i64 sn, .slice ao_ss ss.length c_ss] ∧ Below w.heap.size w w2) := Lib.hid ⟨HS1.out.1.below hb, Bel_next HS1.out.2 hb⟩
  clear HS1 hb
  have hc0 := (HS2.out.1).facts.1
  have hf0 := (HS2.out.1).facts.2
  have hz0 := (HS2.out.1).lt
  go_wp2_with fail
  clear hc0 hf0 hz0
  refine (toChain_any sn ss _ _ _ (Holds.below HX_ss.out HS2.out.2) hn_ss).mono ?_
  rintro e w3 ⟨aosc_ss, rfl, rowsc_ss, hb⟩
  have z3 : w2.heap.size ≤ w3.heap.size := hb.size
  have HS3 : Hid (Whole w3 w.heap.size 24 #[.int .i64 sn, .slice ao_ss ss.length c_ss] ∧ Row w3 w2.heap.size w3.heap.size aosc_ss (fl .f32 ss) ∧ Below w.heap.size w w3) := Lib.hid ⟨HS2.out.1.below hb, rowsc_ss, Bel_next HS2.out.2 hb⟩
  clear HS2 hb rowsc_ss
  have hc0 := (HS3.out.1).facts.1
  have hf0 := (HS3.out.1).facts.2
  have hz0 := (HS3.out.1).lt
  go_wp2_with fail
  clear hc0 hf0 hz0
  refine (specLazy_not sn ss st _ rfl _ _ _ (HS3.out.2.1).holds hn_ss HV.out).mono ?_
  rintro e w4 ⟨rfl, hb⟩
  have z4 : w3.heap.size ≤ w4.heap.size := hb.size
  have HS4 : Hid (Whole w4 w.heap.size 24 #[.int .i64 sn, .slice ao_ss ss.length c_ss] ∧ Row w4 w2.heap.size w3.heap.size aosc_ss (fl .f32 ss) ∧ Below w.heap.size w w4) := Lib.hid ⟨HS3.out.1.below hb, HS3.out.2.1.below hb, Bel_next HS3.out.2.2 hb⟩
  clear HS3 hb
  have HSn : Hid (Whole w4 w.heap.size 24 #[.int .i64 sn, .slice ao_ss ss.length c_ss] ∧ Below w.heap.size w w4) := Lib.hid ⟨HS4.out.1, HS4.out.2.2⟩
  clear HS4
  have HS4 := HSn
  clear HSn
  have hc0 := (HS4.out.1).facts.1
  have hf0 := (HS4.out.1).facts.2
  have hz0 := (HS4.out.1).lt
  go_wp2_with fail
  clear hc0 hf0 hz0
  generalize hW : World.alloc w4 _ = w5
  have hb : Below w4.heap.size w4 w5 := by rw [← hW]; exact (by repeat (first | with_reducible exact Below.refl _ _ | with_reducible refine Below.drew ?_ | with_reducible refine Bel_drewN ?_ _ | with_reducible refine Below.alloc ?_ (by first | omega | (simp; done) | (simp; omega)) _ | with_reducible refine Below.setCell ?_ (by first | omega | (simp; done) | (simp; omega)) _))
  have z5 : w4.heap.size + 1 ≤ w5.heap.size := by rw [← hW]; simp
  have HS5 : Hid (Whole w5 w.heap.size 24 #[.int .i64 sn, .slice ao_ss ss.length c_ss] ∧ Whole w5 w4.heap.size 27 #[.int .i64 0, .slice none 0 0] ∧ Below w.heap.size w w5) := Lib.hid ⟨HS4.out.1.below hb, by rw [← hW]; exact Whole.made _ _ _, Bel_next HS4.out.2 hb⟩
  clear HS4 hW hb
  refine (toChain_any sn ss _ _ _ (Holds.below HX_ss.out HS5.out.2.2) hn_ss).mono ?_
  rintro e w6 ⟨aoX_ss, rfl, rowX_ss, hb⟩
  have z6 : w5.heap.size ≤ w6.heap.size := hb.size
  have HS6 : Hid (Whole w6 w.heap.size 24 #[.int .i64 sn, .slice ao_ss ss.length c_ss] ∧ Whole w6 w4.heap.size 27 #[.int .i64 0, .slice none 0 0] ∧ Row w6 w5.heap.size w6.heap.size aoX_ss (fl .f32 ss) ∧ Below w.heap.size w w6) := Lib.hid ⟨HS5.out.1.below hb, HS5.out.2.1.below hb, rowX_ss, Bel_next HS5.out.2.2 hb⟩
  clear HS5 hb rowX_ss
  have hc0 := (HS6.out.1).facts.1
  have hf0 := (HS6.out.1).facts.2
  have hz0 := (HS6.out.1).lt
  have hc1 := (HS6.out.2.1).facts.1
  have hf1 := (HS6.out.2.1).facts.2
  have hz1 := (HS6.out.2.1).lt
  go_wp2_with fail
  clear hc0 hf0 hz0
  clear hc1 hf1 hz1
  generalize hW : World.alloc w6 _ = w7
  have hb : Below w6.heap.size w6 w7 := by rw [← hW]; exact (by repeat (first | with_reducible exact Below.refl _ _ | with_reducible refine Below.drew ?_ | with_reducible refine Bel_drewN ?_ _ | with_reducible refine Below.alloc ?_ (by first | omega | (simp; done) | (simp; omega)) _ | with_reducible refine Below.setCell ?_ (by first | omega | (simp; done) | (simp; omega)) _))
  have z7 : w6.heap.size + 1 ≤ w7.heap.size := by rw [← hW]; simp
  have HS7 : Hid (Whole w7 w.heap.size 24 #[.int .i64 sn, .slice ao_ss ss.length c_ss] ∧ Whole w7 w4.heap.size 27 #[.int .i64 0, .slice none 0 0] ∧ Row w7 w5.heap.size w6.heap.size aoX_ss (fl .f32 ss) ∧ Whole w7 w6.heap.size 27 #[.int .i64 sn, .slice aoX_ss ss.length ss.length] ∧ Below w.heap.size w w7) := Lib.hid ⟨HS6.out.1.below hb, HS6.out.2.1.below hb, HS6.out.2.2.1.below hb, by rw [← hW]; exact Whole.made _ _ _, Bel_next HS6.out.2.2.2 hb⟩
  clear HS6 hW hb
  refine (implLazy_not sn ss st _ rfl _ _ _ (HS7.out.2.2.1).holds hn_ss (Nat.le_refl _) HV.out).mono ?_
  rintro e w8 ⟨rfl, hb⟩
  have z8 : w7.heap.size ≤ w8.heap.size := hb.size
  have HS8 : Hid (Whole w8 w.heap.size 24 #[.int .i64 sn, .slice ao_ss ss.length c_ss] ∧ Whole w8 w4.heap.size 27 #[.int .i64 0, .slice none 0 0] ∧ Row w8 w5.heap.size w6.heap.size aoX_ss (fl .f32 ss) ∧ Whole w8 w6.heap.size 27 #[.int .i64 sn, .slice aoX_ss ss.length ss.length] ∧ Below w.heap.size w w8) := Lib.hid ⟨HS7.out.1.below hb, HS7.out.2.1.below hb, HS7.out.2.2.1.below hb, HS7.out.2.2.2.1.below hb, Bel_next HS7.out.2.2.2.2 hb⟩
  clear HS7 hb
  have HSn : Hid (Whole w8 w.heap.size 24 #[.int .i64 sn, .slice ao_ss ss.length c_ss] ∧ Whole w8 w4.heap.size 27 #[.int .i64 0, .slice none 0 0] ∧ Row w8 w5.heap.size w6.heap.size aoX_ss (fl .f32 ss) ∧ Whole w8 w6.heap.size 27 #[.int .i64 sn, .slice aoX_ss ss.length ss.length] ∧ Below w.heap.size w w8) := Lib.hid ⟨HS8.out.1, HS8.out.2.1, HS8.out.2.2.1, HS8.out.2.2.2.1, HS8.out.2.2.2.2⟩
  clear HS8
  have HS8 := HSn
  clear HSn
  have hc0 := (HS8.out.1).facts.1
  have hf0 := (HS8.out.1).facts.2
  have hz0 := (HS8.out.1).lt
  have hc1 := (HS8.out.2.1).facts.1
  have hf1 := (HS8.out.2.1).facts.2
  have hz1 := (HS8.out.2.1).lt
  have hc3 := (HS8.out.2.2.2.1).facts.1
  have hf3 := (HS8.out.2.2.2.1).facts.2
  have hz3 := (HS8.out.2.2.2.1).lt
  go_wp2_with fail
  clear hc0 hf0 hz0
  clear hc1 hf1 hz1
  clear hc3 hf3 hz3
  generalize hW : World.alloc w8 _ = w9
  have hb : Below w8.heap.size w8 w9 := by rw [← hW]; exact (by repeat (first | with_reducible exact Below.refl _ _ | with_reducible refine Below.drew ?_ | with_reducible refine Bel_drewN ?_ _ | with_reducible refine Below.alloc ?_ (by first | omega | (simp; done) | (simp; omega)) _ | with_reducible refine Below.setCell ?_ (by first | omega | (simp; done) | (simp; omega)) _))
  have z9 : w8.heap.size + 1 ≤ w9.heap.size := by rw [← hW]; simp
  have HS9 : Hid (Whole w9 w.heap.size 24 #[.int .i64 sn, .slice ao_ss ss.length c_ss] ∧ Whole w9 w4.heap.size 27 #[.int .i64 0, .slice none 0 0] ∧ Row w9 w5.heap.size w6.heap.size aoX_ss (fl .f32 ss) ∧ Whole w9 w6.heap.size 27 #[.int .i64 sn, .slice aoX_ss ss.length ss.length] ∧ Whole w9 w8.heap.size 27 #[.int .i64 0, .slice none 0 0] ∧ Below w.heap.size w w9) := Lib.hid ⟨HS8.out.1.below hb, HS8.out.2.1.below hb, HS8.out.2.2.1.below hb, HS8.out.2.2.2.1.below hb, by rw [← hW]; exact Whole.made _ _ _, Bel_next HS8.out.2.2.2.2 hb⟩
  clear HS8 hW hb
  refine (eqChain_same (0) [] 0 rfl _ _ _ _ _ (Holds.nil _ _) (Holds.nil _ _) (by omega)).mono ?_
  rintro e w10 ⟨rfl, hb⟩
  have z10 : w9.heap.size ≤ w10.heap.size := hb.size
  have HS10 : Hid (Whole w10 w.heap.size 24 #[.int .i64 sn, .slice ao_ss ss.length c_ss] ∧ Whole w10 w4.heap.size 27 #[.int .i64 0, .slice none 0 0] ∧ Row w10 w5.heap.size w6.heap.size aoX_ss (fl .f32 ss) ∧ Whole w10 w6.heap.size 27 #[.int .i64 sn, .slice aoX_ss ss.length ss.length] ∧ Whole w10 w8.heap.size 27 #[.int .i64 0, .slice none 0 0] ∧ Below w.heap.size w w10) := Lib.hid ⟨HS9.out.1.below hb, HS9.out.2.1.below hb, HS9.out.2.2.1.below hb, HS9.out.2.2.2.1.below hb, HS9.out.2.2.2.2.1.below hb, Bel_next HS9.out.2.2.2.2.2 hb⟩
  clear HS9 hb
  have hc0 := (HS10.out.1).facts.1
  have hf0 := (HS10.out.1).facts.2
  have hz0 := (HS10.out.1).lt
  have hc1 := (HS10.out.2.1).facts.1
  have hf1 := (HS10.out.2.1).facts.2
  have hz1 := (HS10.out.2.1).lt
  have hc3 := (HS10.out.2.2.2.1).facts.1
  have hf3 := (HS10.out.2.2.2.1).facts.2
  have hz3 := (HS10.out.2.2.2.1).lt
  have hc4 := (HS10.out.2.2.2.2.1).facts.1
  have hf4 := (HS10.out.2.2.2.2.1).facts.2
  have hz4 := (HS10.out.2.2.2.2.1).lt
  go_wp2_with fail
  clear hc0 hf0 hz0
  clear hc1 hf1 hz1
  clear hc3 hf3 hz3
  clear hc4 hf4 hz4
  have HK : Hid (∀ v v' : World, (v.cell? ⟨w6.heap.size, 0, none⟩ = some (.int .i64 sn) ∧ v.cell? ⟨w6.heap.size, 1, none⟩ = some (.slice aoX_ss ss.length ss.length) ∧ v.cell? ⟨w.heap.size, 0, none⟩ = some (.int .i64 sn) ∧ v.cell? ⟨w.heap.size, 1, none⟩ = some (.slice ao_ss ss.length c_ss) ∧ w10.heap.size ≤ v.heap.size ∧ Whole v w.heap.size 24 #[.int .i64 sn, .slice ao_ss ss.length c_ss] ∧ Whole v w4.heap.size 27 #[.int .i64 0, .slice none 0 0] ∧ Row v w5.heap.size w6.heap.size aoX_ss (fl .f32 ss) ∧ Whole v w6.heap.size 27 #[.int .i64 sn, .slice aoX_ss ss.length ss.length] ∧ Whole v w8.heap.size 27 #[.int .i64 0, .slice none 0 0] ∧ Below w.heap.size w v) → Below v.heap.size v v' → (v'.cell? ⟨w6.heap.size, 0, none⟩ = some (.int .i64 sn) ∧ v'.cell? ⟨w6.heap.size, 1, none⟩ = some (.slice aoX_ss ss.length ss.length) ∧ v'.cell? ⟨w.heap.size, 0, none⟩ = some (.int .i64 sn) ∧ v'.cell? ⟨w.heap.size, 1, none⟩ = some (.slice ao_ss ss.length c_ss) ∧ w10.heap.size ≤ v'.heap.size ∧ Whole v' w.heap.size 24 #[.int .i64 sn, .slice ao_ss ss.length c_ss] ∧ Whole v' w4.heap.size 27 #[.int .i64 0, .slice none 0 0] ∧ Row v' w5.heap.size w6.heap.size aoX_ss (fl .f32 ss) ∧ Whole v' w6.heap.size 27 #[.int .i64 sn, .slice aoX_ss ss.length ss.length] ∧ Whole v' w8.heap.size 27 #[.int .i64 0, .slice none 0 0] ∧ Below w.heap.size w v')) := Lib.hid (fun v v' h hb => ⟨(by rw [Below.cell hb (World.block_lt_of_cell? _ _ h.1)]; exact h.1), (by rw [Below.cell hb (World.block_lt_of_cell? _ _ h.2.1)]; exact h.2.1), (by rw [Below.cell hb (World.block_lt_of_cell? _ _ h.2.2.1)]; exact h.2.2.1), (by rw [Below.cell hb (World.block_lt_of_cell? _ _ h.2.2.2.1)]; exact h.2.2.2.1), Nat.le_trans h.2.2.2.2.1 hb.size, h.2.2.2.2.2.1.below hb, h.2.2.2.2.2.2.1.below hb, h.2.2.2.2.2.2.2.1.below hb, h.2.2.2.2.2.2.2.2.1.below hb, h.2.2.2.2.2.2.2.2.2.1.below hb, Bel_next h.2.2.2.2.2.2.2.2.2.2 hb⟩)
  have HP : Hid (∀ v : World, (v.cell? ⟨w6.heap.size, 0, none⟩ = some (.int .i64 sn) ∧ v.cell? ⟨w6.heap.size, 1, none⟩ = some (.slice aoX_ss ss.length ss.length) ∧ v.cell? ⟨w.heap.size, 0, none⟩ = some (.int .i64 sn) ∧ v.cell? ⟨w.heap.size, 1, none⟩ = some (.slice ao_ss ss.length c_ss) ∧ w10.heap.size ≤ v.heap.size ∧ Whole v w.heap.size 24 #[.int .i64 sn, .slice ao_ss ss.length c_ss] ∧ Whole v w4.heap.size 27 #[.int .i64 0, .slice none 0 0] ∧ Row v w5.heap.size w6.heap.size aoX_ss (fl .f32 ss) ∧ Whole v w6.heap.size 27 #[.int .i64 sn, .slice aoX_ss ss.length ss.length] ∧ Whole v w8.heap.size 27 #[.int .i64 0, .slice none 0 0] ∧ Below w.heap.size w v) → (Whole v w.heap.size 24 #[.int .i64 sn, .slice ao_ss ss.length c_ss] ∧ Whole v w4.heap.size 27 #[.int .i64 0, .slice none 0 0] ∧ Row v w5.heap.size w6.heap.size aoX_ss (fl .f32 ss) ∧ Whole v w6.heap.size 27 #[.int .i64 sn, .slice aoX_ss ss.length ss.length] ∧ Whole v w8.heap.size 27 #[.int .i64 0, .slice none 0 0] ∧ Below w.heap.size w v)) := Lib.hid (fun v h => h.2.2.2.2.2)
  have hR : w10.cell? ⟨w6.heap.size, 0, none⟩ = some (.int .i64 sn) ∧ w10.cell? ⟨w6.heap.size, 1, none⟩ = some (.slice aoX_ss ss.length ss.length) ∧ w10.cell? ⟨w.heap.size, 0, none⟩ = some (.int .i64 sn) ∧ w10.cell? ⟨w.heap.size, 1, none⟩ = some (.slice ao_ss ss.length c_ss) ∧ w10.heap.size ≤ w10.heap.size ∧ Whole w10 w.heap.size 24 #[.int .i64 sn, .slice ao_ss ss.length c_ss] ∧ Whole w10 w4.heap.size 27 #[.int .i64 0, .slice none 0 0] ∧ Row w10 w5.heap.size w6.heap.size aoX_ss (fl .f32 ss) ∧ Whole w10 w6.heap.size 27 #[.int .i64 sn, .slice aoX_ss ss.length ss.length] ∧ Whole w10 w8.heap.size 27 #[.int .i64 0, .slice none 0 0] ∧ Below w.heap.size w w10 := ⟨(HS10.out.2.2.2.1).cell 0, (HS10.out.2.2.2.1).cell 1, (HS10.out.1).cell 0, (HS10.out.1).cell 1, Nat.le_refl _, HS10.out.1, HS10.out.2.1, HS10.out.2.2.1, HS10.out.2.2.2.1, HS10.out.2.2.2.2.1, HS10.out.2.2.2.2.2⟩
  go_region_held3 (fun v => v.cell? ⟨w6.heap.size, 0, none⟩ = some (.int .i64 sn) ∧ v.cell? ⟨w6.heap.size, 1, none⟩ = some (.slice aoX_ss ss.length ss.length) ∧ v.cell? ⟨w.heap.size, 0, none⟩ = some (.int .i64 sn) ∧ v.cell? ⟨w.heap.size, 1, none⟩ = some (.slice ao_ss ss.length c_ss) ∧ w10.heap.size ≤ v.heap.size ∧ Whole v w.heap.size 24 #[.int .i64 sn, .slice ao_ss ss.length c_ss] ∧ Whole v w4.heap.size 27 #[.int .i64 0, .slice none 0 0] ∧ Row v w5.heap.size w6.heap.size aoX_ss (fl .f32 ss) ∧ Whole v w6.heap.size 27 #[.int .i64 sn, .slice aoX_ss ss.length ss.length] ∧ Whole v w8.heap.size 27 #[.int .i64 0, .slice none 0 0] ∧ Below w.heap.size w v)
    (first | assumption | exact HK.out _ _ (by assumption) (by assumption) | exact HK.out _ _ (by assumption) ((Below.refl _ _).drew) | (refine HK.out _ _ (by assumption) ?_; (repeat (first | with_reducible exact Below.refl _ _ | with_reducible refine Below.drew ?_ | with_reducible refine Bel_drewN ?_ _ | with_reducible refine Below.alloc ?_ (by first | omega | (simp; done) | (simp; omega)) _ | with_reducible refine Below.setCell ?_ (by first | omega | (simp; done) | (simp; omega)) _)); done))
    (first | (go_at_call 17; refine (toChain_any sn ss _ _ _ (Holds.below HX_ss.out (HP.out _ (by assumption)).2.2.2.2.2) hn_ss).mono ?_; rintro e wt ⟨aoY_ss, rfl, rowY_ss, hbt⟩) | (go_at_call 19; refine (eqChain_same sn ss _ rfl _ _ _ _ _ ((HP.out _ (by assumption)).2.2.1.holds) (by exact rowY_ss.holds) hn_ss).mono ?_; rintro e w11 ⟨rfl, hb⟩))
  have hN := (HK.out _ _ (HK.out _ _ hR (by first | exact hbt | exact Bel_next (Below.refl _ _).drew hbt)) (by first | exact hb | exact Bel_next (Below.refl _ _).drew hb))
  have z11 : w10.heap.size ≤ w11.heap.size := hN.2.2.2.2.1
  have HS11 : Hid (Whole w11 w.heap.size 24 #[.int .i64 sn, .slice ao_ss ss.length c_ss] ∧ Whole w11 w4.heap.size 27 #[.int .i64 0, .slice none 0 0] ∧ Row w11 w5.heap.size w6.heap.size aoX_ss (fl .f32 ss) ∧ Whole w11 w6.heap.size 27 #[.int .i64 sn, .slice aoX_ss ss.length ss.length] ∧ Whole w11 w8.heap.size 27 #[.int .i64 0, .slice none 0 0] ∧ Below w.heap.size w w11) := Lib.hid ⟨hN.2.2.2.2.2.1, hN.2.2.2.2.2.2.1, hN.2.2.2.2.2.2.2.1, hN.2.2.2.2.2.2.2.2.1, hN.2.2.2.2.2.2.2.2.2.1, hN.2.2.2.2.2.2.2.2.2.2⟩
  clear HS10 hN hR HK HP hb hbt
  clear rowY_ss
  have hc0 := (HS11.out.1).facts.1
  have hf0 := (HS11.out.1).facts.2
  have hz0 := (HS11.out.1).lt
  have hc1 := (HS11.out.2.1).facts.1
  have hf1 := (HS11.out.2.1).facts.2
  have hz1 := (HS11.out.2.1).lt
  have hc3 := (HS11.out.2.2.2.1).facts.1
  have hf3 := (HS11.out.2.2.2.1).facts.2
  have hz3 := (HS11.out.2.2.2.1).lt
  have hc4 := (HS11.out.2.2.2.2.1).facts.1
  have hf4 := (HS11.out.2.2.2.2.1).facts.2
  have hz4 := (HS11.out.2.2.2.2.1).lt
  go_wp2_with fail
  clear hc0 hf0 hz0
  clear hc1 hf1 hz1
  clear hc3 hf3 hz3
  clear hc4 hf4 hz4
  refine (markChain_row sn 1 _ _ _ _ _ _ HS11.out.2.2.1 ((fl_len _ _).trans (rfl)) (by omega)).mono ?_
  rintro e w12 ⟨rfl, row, bt⟩
  have z12 : w11.heap.size ≤ w12.heap.size := bt.size
  have HS12 : Hid (Whole w12 w.heap.size 24 #[.int .i64 sn, .slice ao_ss ss.length c_ss] ∧ Whole w12 w4.heap.size 27 #[.int .i64 0, .slice none 0 0] ∧ Row w12 w5.heap.size w6.heap.size aoX_ss (fl .f32 (fmarks 1 ss.length)) ∧ Whole w12 w6.heap.size 27 #[.int .i64 sn, .slice aoX_ss ss.length ss.length] ∧ Whole w12 w8.heap.size 27 #[.int .i64 0, .slice none 0 0] ∧ Below w.heap.size w w12) := Lib.hid ⟨HS11.out.1.buts bt (by omega), HS11.out.2.1.buts bt (by omega), row, HS11.out.2.2.2.1.buts bt (by omega), HS11.out.2.2.2.2.1.buts bt (by omega), bt.bel HS11.out.2.2.2.2.2 (by omega)⟩
  clear HS11 row bt
  have hc0 := (HS12.out.1).facts.1
  have hf0 := (HS12.out.1).facts.2
  have hz0 := (HS12.out.1).lt
  have hc1 := (HS12.out.2.1).facts.1
  have hf1 := (HS12.out.2.1).facts.2
  have hz1 := (HS12.out.2.1).lt
  have hc3 := (HS12.out.2.2.2.1).facts.1
  have hf3 := (HS12.out.2.2.2.1).facts.2
  have hz3 := (HS12.out.2.2.2.1).lt
  have hc4 := (HS12.out.2.2.2.2.1).facts.1
  have hf4 := (HS12.out.2.2.2.2.1).facts.2
  have hz4 := (HS12.out.2.2.2.2.1).lt
  go_wp2_with fail
  clear hc0 hf0 hz0
  clear hc1 hf1 hz1
  clear hc3 hf3 hz3
  clear hc4 hf4 hz4
  refine (eqChain_same (0) [] 0 rfl _ _ _ _ _ (Holds.nil _ _) (Holds.nil _ _) (by omega)).mono ?_
  rintro e w13 ⟨rfl, hb⟩
  have z13 : w12.heap.size ≤ w13.heap.size := hb.size
  have HS13 : Hid (Whole w13 w.heap.size 24 #[.int .i64 sn, .slice ao_ss ss.length c_ss] ∧ Whole w13 w4.heap.size 27 #[.int .i64 0, .slice none 0 0] ∧ Row w13 w5.heap.size w6.heap.size aoX_ss (fl .f32 (fmarks 1 ss.length)) ∧ Whole w13 w6.heap.size 27 #[.int .i64 sn, .slice aoX_ss ss.length ss.length] ∧ Whole w13 w8.heap.size 27 #[.int .i64 0, .slice none 0 0] ∧ Below w.heap.size w w13) := Lib.hid ⟨HS12.out.1.below hb, HS12.out.2.1.below hb, HS12.out.2.2.1.below hb, HS12.out.2.2.2.1.below hb, HS12.out.2.2.2.2.1.below hb, Bel_next HS12.out.2.2.2.2.2 hb⟩
  clear HS12 hb
  have hc0 := (HS13.out.1).facts.1
  have hf0 := (HS13.out.1).facts.2
  have hz0 := (HS13.out.1).lt
  have hc1 := (HS13.out.2.1).facts.1
  have hf1 := (HS13.out.2.1).facts.2
  have hz1 := (HS13.out.2.1).lt
  have hc3 := (HS13.out.2.2.2.1).facts.1
  have hf3 := (HS13.out.2.2.2.1).facts.2
  have hz3 := (HS13.out.2.2.2.1).lt
  have hc4 := (HS13.out.2.2.2.2.1).facts.1
  have hf4 := (HS13.out.2.2.2.2.1).facts.2
  have hz4 := (HS13.out.2.2.2.2.1).lt
  go_wp2_with fail
  clear hc0 hf0 hz0
  clear hc1 hf1 hz1
  clear hc3 hf3 hz3
  clear hc4 hf4 hz4
  refine (markChain_zero (0) 1 _ _ _).mono ?_
  rintro e w14 ⟨rfl, hb⟩
  have z14 : w13.heap.size ≤ w14.heap.size := hb.size
  have HS14 : Hid (Whole w14 w.heap.size 24 #[.int .i64 sn, .slice ao_ss ss.length c_ss] ∧ Whole w14 w4.heap.size 27 #[.int .i64 0, .slice none 0 0] ∧ Row w14 w5.heap.size w6.heap.size aoX_ss (fl .f32 (fmarks 1 ss.length)) ∧ Whole w14 w6.heap.size 27 #[.int .i64 sn, .slice aoX_ss ss.length ss.length] ∧ Whole w14 w8.heap.size 27 #[.int .i64 0, .slice none 0 0] ∧ Below w.heap.size w w14) := Lib.hid ⟨HS13.out.1.below hb, HS13.out.2.1.below hb, HS13.out.2.2.1.below hb, HS13.out.2.2.2.1.below hb, HS13.out.2.2.2.2.1.below hb, Bel_next HS13.out.2.2.2.2.2 hb⟩
  clear HS13 hb
  have hc0 := (HS14.out.1).facts.1
  have hf0 := (HS14.out.1).facts.2
  have hz0 := (HS14.out.1).lt
  have hc1 := (HS14.out.2.1).facts.1
  have hf1 := (HS14.out.2.1).facts.2
  have hz1 := (HS14.out.2.1).lt
  have hc3 := (HS14.out.2.2.2.1).facts.1
  have hf3 := (HS14.out.2.2.2.1).facts.2
  have hz3 := (HS14.out.2.2.2.1).lt
  have hc4 := (HS14.out.2.2.2.2.1).facts.1
  have hf4 := (HS14.out.2.2.2.2.1).facts.2
  have hz4 := (HS14.out.2.2.2.2.1).lt
  go_wp2_with fail
  clear hc0 hf0 hz0
  clear hc1 hf1 hz1
  clear hc3 hf3 hz3
  clear hc4 hf4 hz4
  refine (heldChain_marks (0) 1 (0) _ _ _ (Holds.nil _ _) (by omega)).mono ?_
  rintro e w15 ⟨rfl, hb⟩
  have z15 : w14.heap.size ≤ w15.heap.size := hb.size
  have HS15 : Hid (Whole w15 w.heap.size 24 #[.int .i64 sn, .slice ao_ss ss.length c_ss] ∧ Whole w15 w4.heap.size 27 #[.int .i64 0, .slice none 0 0] ∧ Row w15 w5.heap.size w6.heap.size aoX_ss (fl .f32 (fmarks 1 ss.length)) ∧ Whole w15 w6.heap.size 27 #[.int .i64 sn, .slice aoX_ss ss.length ss.length] ∧ Whole w15 w8.heap.size 27 #[.int .i64 0, .slice none 0 0] ∧ Below w.heap.size w w15) := Lib.hid ⟨HS14.out.1.below hb, HS14.out.2.1.below hb, HS14.out.2.2.1.below hb, HS14.out.2.2.2.1.below hb, HS14.out.2.2.2.2.1.below hb, Bel_next HS14.out.2.2.2.2.2 hb⟩
  clear HS14 hb
  have hc0 := (HS15.out.1).facts.1
  have hf0 := (HS15.out.1).facts.2
  have hz0 := (HS15.out.1).lt
  have hc1 := (HS15.out.2.1).facts.1
  have hf1 := (HS15.out.2.1).facts.2
  have hz1 := (HS15.out.2.1).lt
  have hc3 := (HS15.out.2.2.2.1).facts.1
  have hf3 := (HS15.out.2.2.2.1).facts.2
  have hz3 := (HS15.out.2.2.2.1).lt
  have hc4 := (HS15.out.2.2.2.2.1).facts.1
  have hf4 := (HS15.out.2.2.2.2.1).facts.2
  have hz4 := (HS15.out.2.2.2.2.1).lt
  go_wp2_with fail
  clear hc0 hf0 hz0
  clear hc1 hf1 hz1
  clear hc3 hf3 hz3
  clear hc4 hf4 hz4
  refine (toChain_any sn ss _ _ _ (Holds.below HX_ss.out HS15.out.2.2.2.2.2) hn_ss).mono ?_
  rintro e w16 ⟨aohc_ss, rfl, rowhc_ss, hb⟩
  have z16 : w15.heap.size ≤ w16.heap.size := hb.size
  have HS16 : Hid (Whole w16 w.heap.size 24 #[.int .i64 sn, .slice ao_ss ss.length c_ss] ∧ Whole w16 w4.heap.size 27 #[.int .i64 0, .slice none 0 0] ∧ Row w16 w5.heap.size w6.heap.size aoX_ss (fl .f32 (fmarks 1 ss.length)) ∧ Whole w16 w6.heap.size 27 #[.int .i64 sn, .slice aoX_ss ss.length ss.length] ∧ Whole w16 w8.heap.size 27 #[.int .i64 0, .slice none 0 0] ∧ Row w16 w15.heap.size w16.heap.size aohc_ss (fl .f32 ss) ∧ Below w.heap.size w w16) := Lib.hid ⟨HS15.out.1.below hb, HS15.out.2.1.below hb, HS15.out.2.2.1.below hb, HS15.out.2.2.2.1.below hb, HS15.out.2.2.2.2.1.below hb, rowhc_ss, Bel_next HS15.out.2.2.2.2.2 hb⟩
  clear HS15 hb rowhc_ss
  have hc0 := (HS16.out.1).facts.1
  have hf0 := (HS16.out.1).facts.2
  have hz0 := (HS16.out.1).lt
  have hc1 := (HS16.out.2.1).facts.1
  have hf1 := (HS16.out.2.1).facts.2
  have hz1 := (HS16.out.2.1).lt
  have hc3 := (HS16.out.2.2.2.1).facts.1
  have hf3 := (HS16.out.2.2.2.1).facts.2
  have hz3 := (HS16.out.2.2.2.1).lt
  have hc4 := (HS16.out.2.2.2.2.1).facts.1
  have hf4 := (HS16.out.2.2.2.2.1).facts.2
  have hz4 := (HS16.out.2.2.2.2.1).lt
  go_wp2_with fail
  clear hc0 hf0 hz0
  clear hc1 hf1 hz1
  clear hc3 hf3 hz3
  clear hc4 hf4 hz4
  refine (implLazy_not sn ss st _ rfl _ _ _ (HS16.out.2.2.2.2.2.1).holds hn_ss (Nat.le_refl _) HV.out).mono ?_
  rintro e w17 ⟨rfl, hb⟩
  have z17 : w16.heap.size ≤ w17.heap.size := hb.size
  have HS17 : Hid (Whole w17 w.heap.size 24 #[.int .i64 sn, .slice ao_ss ss.length c_ss] ∧ Whole w17 w4.heap.size 27 #[.int .i64 0, .slice none 0 0] ∧ Row w17 w5.heap.size w6.heap.size aoX_ss (fl .f32 (fmarks 1 ss.length)) ∧ Whole w17 w6.heap.size 27 #[.int .i64 sn, .slice aoX_ss ss.length ss.length] ∧ Whole w17 w8.heap.size 27 #[.int .i64 0, .slice none 0 0] ∧ Row w17 w15.heap.size w16.heap.size aohc_ss (fl .f32 ss) ∧ Below w.heap.size w w17) := Lib.hid ⟨HS16.out.1.below hb, HS16.out.2.1.below hb, HS16.out.2.2.1.below hb, HS16.out.2.2.2.1.below hb, HS16.out.2.2.2.2.1.below hb, HS16.out.2.2.2.2.2.1.below hb, Bel_next HS16.out.2.2.2.2.2.2 hb⟩
  clear HS16 hb
  have HSn : Hid (Whole w17 w.heap.size 24 #[.int .i64 sn, .slice ao_ss ss.length c_ss] ∧ Whole w17 w4.heap.size 27 #[.int .i64 0, .slice none 0 0] ∧ Row w17 w5.heap.size w6.heap.size aoX_ss (fl .f32 (fmarks 1 ss.length)) ∧ Whole w17 w6.heap.size 27 #[.int .i64 sn, .slice aoX_ss ss.length ss.length] ∧ Whole w17 w8.heap.size 27 #[.int .i64 0, .slice none 0 0] ∧ Below w.heap.size w w17) := Lib.hid ⟨HS17.out.1, HS17.out.2.1, HS17.out.2.2.1, HS17.out.2.2.2.1, HS17.out.2.2.2.2.1, HS17.out.2.2.2.2.2.2⟩
  clear HS17
  have HS17 := HSn
  clear HSn
  have hc0 := (HS17.out.1).facts.1
  have hf0 := (HS17.out.1).facts.2
  have hz0 := (HS17.out.1).lt
  have hc1 := (HS17.out.2.1).facts.1
  have hf1 := (HS17.out.2.1).facts.2
  have hz1 := (HS17.out.2.1).lt
  have hc3 := (HS17.out.2.2.2.1).facts.1
  have hf3 := (HS17.out.2.2.2.1).facts.2
  have hz3 := (HS17.out.2.2.2.1).lt
  have hc4 := (HS17.out.2.2.2.2.1).facts.1
  have hf4 := (HS17.out.2.2.2.2.1).facts.2
  have hz4 := (HS17.out.2.2.2.2.1).lt
  go_wp2_with fail
  clear hc0 hf0 hz0
  clear hc1 hf1 hz1
  clear hc3 hf3 hz3
  clear hc4 hf4 hz4
  generalize hW : World.alloc w17 _ = w18
  have hb : Below w17.heap.size w17 w18 := by rw [← hW]; exact (by repeat (first | with_reducible exact Below.refl _ _ | with_reducible refine Below.drew ?_ | with_reducible refine Bel_drewN ?_ _ | with_reducible refine Below.alloc ?_ (by first | omega | (simp; done) | (simp; omega)) _ | with_reducible refine Below.setCell ?_ (by first | omega | (simp; done) | (simp; omega)) _))
  have z18 : w17.heap.size + 1 ≤ w18.heap.size := by rw [← hW]; simp
  have HS18 : Hid (Whole w18 w.heap.size 24 #[.int .i64 sn, .slice ao_ss ss.length c_ss] ∧ Whole w18 w4.heap.size 27 #[.int .i64 0, .slice none 0 0] ∧ Row w18 w5.heap.size w6.heap.size aoX_ss (fl .f32 (fmarks 1 ss.length)) ∧ Whole w18 w6.heap.size 27 #[.int .i64 sn, .slice aoX_ss ss.length ss.length] ∧ Whole w18 w8.heap.size 27 #[.int .i64 0, .slice none 0 0] ∧ Whole w18 w17.heap.size 27 #[.int .i64 0, .slice none 0 0] ∧ Below w.heap.size w w18) := Lib.hid ⟨HS17.out.1.below hb, HS17.out.2.1.below hb, HS17.out.2.2.1.below hb, HS17.out.2.2.2.1.below hb, HS17.out.2.2.2.2.1.below hb, by rw [← hW]; exact Whole.made _ _ _, Bel_next HS17.out.2.2.2.2.2 hb⟩
  clear HS17 hW hb
  refine (eqChain_same (0) [] 0 rfl _ _ _ _ _ (Holds.nil _ _) (Holds.nil _ _) (by omega)).mono ?_
  rintro e w19 ⟨rfl, hb⟩
  have z19 : w18.heap.size ≤ w19.heap.size := hb.size
  have HS19 : Hid (Whole w19 w.heap.size 24 #[.int .i64 sn, .slice ao_ss ss.length c_ss] ∧ Whole w19 w4.heap.size 27 #[.int .i64 0, .slice none 0 0] ∧ Row w19 w5.heap.size w6.heap.size aoX_ss (fl .f32 (fmarks 1 ss.length)) ∧ Whole w19 w6.heap.size 27 #[.int .i64 sn, .slice aoX_ss ss.length ss.length] ∧ Whole w19 w8.heap.size 27 #[.int .i64 0, .slice none 0 0] ∧ Whole w19 w17.heap.size 27 #[.int .i64 0, .slice none 0 0] ∧ Below w.heap.size w w19) := Lib.hid ⟨HS18.out.1.below hb, HS18.out.2.1.below hb, HS18.out.2.2.1.below hb, HS18.out.2.2.2.1.below hb, HS18.out.2.2.2.2.1.below hb, HS18.out.2.2.2.2.2.1.below hb, Bel_next HS18.out.2.2.2.2.2.2 hb⟩
  clear HS18 hb
  have hc0 := (HS19.out.1).facts.1
  have hf0 := (HS19.out.1).facts.2
  have hz0 := (HS19.out.1).lt
  have hc1 := (HS19.out.2.1).facts.1
  have hf1 := (HS19.out.2.1).facts.2
  have hz1 := (HS19.out.2.1).lt
  have hc3 := (HS19.out.2.2.2.1).facts.1
  have hf3 := (HS19.out.2.2.2.1).facts.2
  have hz3 := (HS19.out.2.2.2.1).lt
  have hc4 := (HS19.out.2.2.2.2.1).facts.1
  have hf4 := (HS19.out.2.2.2.2.1).facts.2
  have hz4 := (HS19.out.2.2.2.2.1).lt
  have hc5 := (HS19.out.2.2.2.2.2.1).facts.1
  have hf5 := (HS19.out.2.2.2.2.2.1).facts.2
  have hz5 := (HS19.out.2.2.2.2.2.1).lt
  go_wp2_with fail
  clear hc0 hf0 hz0
  clear hc1 hf1 hz1
  clear hc3 hf3 hz3
  clear hc4 hf4 hz4
  clear hc5 hf5 hz5
  refine (heldChain_marks (0) 1 (0) _ _ _ (Holds.nil _ _) (by omega)).mono ?_
  rintro e w20 ⟨rfl, hb⟩
  have z20 : w19.heap.size ≤ w20.heap.size := hb.size
  have HS20 : Hid (Whole w20 w.heap.size 24 #[.int .i64 sn, .slice ao_ss ss.length c_ss] ∧ Whole w20 w4.heap.size 27 #[.int .i64 0, .slice none 0 0] ∧ Row w20 w5.heap.size w6.heap.size aoX_ss (fl .f32 (fmarks 1 ss.length)) ∧ Whole w20 w6.heap.size 27 #[.int .i64 sn, .slice aoX_ss ss.length ss.length] ∧ Whole w20 w8.heap.size 27 #[.int .i64 0, .slice none 0 0] ∧ Whole w20 w17.heap.size 27 #[.int .i64 0, .slice none 0 0] ∧ Below w.heap.size w w20) := Lib.hid ⟨HS19.out.1.below hb, HS19.out.2.1.below hb, HS19.out.2.2.1.below hb, HS19.out.2.2.2.1.below hb, HS19.out.2.2.2.2.1.below hb, HS19.out.2.2.2.2.2.1.below hb, Bel_next HS19.out.2.2.2.2.2.2 hb⟩
  clear HS19 hb
  have hc0 := (HS20.out.1).facts.1
  have hf0 := (HS20.out.1).facts.2
  have hz0 := (HS20.out.1).lt
  have hc1 := (HS20.out.2.1).facts.1
  have hf1 := (HS20.out.2.1).facts.2
  have hz1 := (HS20.out.2.1).lt
  have hc3 := (HS20.out.2.2.2.1).facts.1
  have hf3 := (HS20.out.2.2.2.1).facts.2
  have hz3 := (HS20.out.2.2.2.1).lt
  have hc4 := (HS20.out.2.2.2.2.1).facts.1
  have hf4 := (HS20.out.2.2.2.2.1).facts.2
  have hz4 := (HS20.out.2.2.2.2.1).lt
  have hc5 := (HS20.out.2.2.2.2.2.1).facts.1
  have hf5 := (HS20.out.2.2.2.2.2.1).facts.2
  have hz5 := (HS20.out.2.2.2.2.2.1).lt
  go_wp2_with fail
  clear hc0 hf0 hz0
  clear hc1 hf1 hz1
  clear hc3 hf3 hz3
  clear hc4 hf4 hz4
  clear hc5 hf5 hz5
  go_ret
  exact ⟨rfl, Bel_next HS20.out.2.2.2.2.2.2 (by repeat (first | with_reducible exact Below.refl _ _ | with_reducible refine Below.drew ?_ | with_reducible refine Bel_drewN ?_ _ | with_reducible refine Below.alloc ?_ (by first | omega | (simp; done) | (simp; omega)) _ | with_reducible refine Below.setCell ?_ (by first | omega | (simp; done) | (simp; omega)) _))⟩
end Go.Proofs.Ytfbllggnndodoaa
