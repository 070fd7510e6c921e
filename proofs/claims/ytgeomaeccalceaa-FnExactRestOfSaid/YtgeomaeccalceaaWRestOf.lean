/- The walk of the law FnExactRestOf. -/
import Derived.Test.YtgeomaeccalceaaRst
import Derived.Test.YtgeomaeccalceaaSChain
import Derived.Test.YtgeomaeccalceaaFq
import Derived.Deep.RegionHeld3
import Derived.Deep.DeepCutAuto
namespace Go.Proofs.Ytgeomaeccalceaa
open Go Go.RowKit Fl
set_option linter.unusedVariables false

set_option maxRecDepth 100000 in
set_option maxHeartbeats 20000000 in
theorem FnExactRestOf_walk (sn : Int) (h_sn : (Lit.int .i64 sn).wf = true) (ss : List Nat) (ao_ss : Option Addr) (c_ss : Nat) (m_ss : ss.length ≤ 9223372036854775807) (xf : Nat) (h_xf : (Lit.float .f32 xf).wf = true) (tt : Int) (h_tt : (Lit.int .i64 tt).wf = true) (w : World) (hx_ss : Holds w ao_ss (fl .f32 ss)) :
    Calls Try.prog 8 #[.agg #[.int .i64 sn, .slice ao_ss ss.length c_ss], .float .f32 xf, .int .i64 tt] w fun e w' => e = .returned (.bool true) ∧ Below w.heap.size w w' := by
  by_cases hl0 : ss.length ≤ 1048576
  case neg =>
    have HL0 := Lib.hid hl0
    clear hl0
    go_enter Try.func8, Try.ntmps8
    have HS0 : Hid (Below w.heap.size w w) := Lib.hid (Below.refl _ _)
    go_wp2_with fail
    generalize hW : World.alloc w _ = w1
    have hb : Below w.heap.size w w1 := by rw [← hW]; exact (by repeat (first | with_reducible exact Below.refl _ _ | with_reducible refine Below.drew ?_ | with_reducible refine Bel_drewN ?_ _ | with_reducible refine Below.alloc ?_ (by first | omega | (simp; done) | (simp; omega)) _ | with_reducible refine Below.setCell ?_ (by first | omega | (simp; done) | (simp; omega)) _))
    have z1 : w.heap.size + 1 ≤ w1.heap.size := by rw [← hW]; simp
    have HS1 : Hid (Whole w1 w.heap.size 27 #[.int .i64 sn, .slice ao_ss ss.length c_ss] ∧ Below w.heap.size w w1) := Lib.hid ⟨by rw [← hW]; exact Whole.made _ _ _, Bel_next HS0.out hb⟩
    clear HS0 hW hb
    refine (szChain_no sn ss _ _ (1048576) _ HL0.out (by omega) m_ss).mono ?_
    rintro e w2 ⟨rfl, hb⟩
    have z2 : w1.heap.size ≤ w2.heap.size := hb.size
    have HS2 : Hid (Whole w2 w.heap.size 27 #[.int .i64 sn, .slice ao_ss ss.length c_ss] ∧ Below w.heap.size w w2) := Lib.hid ⟨HS1.out.1.below hb, Bel_next HS1.out.2 hb⟩
    clear HS1 hb
    have hc0 := (HS2.out.1).facts.1
    have hf0 := (HS2.out.1).facts.2
    have hz0 := (HS2.out.1).lt
    go_wp2_with fail
    clear hc0 hf0 hz0
    go_ret
    exact ⟨rfl, Bel_next HS2.out.2 (by repeat (first | with_reducible exact Below.refl _ _ | with_reducible refine Below.drew ?_ | with_reducible refine Bel_drewN ?_ _ | with_reducible refine Below.alloc ?_ (by first | omega | (simp; done) | (simp; omega)) _ | with_reducible refine Below.setCell ?_ (by first | omega | (simp; done) | (simp; omega)) _))⟩
  have HL0 := Lib.hid hl0
  have hn_ss : ss.length ≤ 1048576 := by omega
  clear hl0
  have HX_ss := Lib.hid hx_ss
  clear hx_ss
  by_cases hv0 : ∃ k, restOk sn ss xf tt ∧ restAt sn.toNat ss xf tt.toNat k
  · have HV := Lib.hid hv0
    clear hv0
    obtain ⟨kk, hv⟩ := HV.out
    have hq1 : sn.toNat ≤ 12 := by have := hv.1.1.side; omega
    have HW := Lib.hid hv
    clear hv
    go_enter Try.func8, Try.ntmps8
    have HS0 : Hid (Below w.heap.size w w) := Lib.hid (Below.refl _ _)
    go_wp2_with fail
    generalize hW : World.alloc w _ = w1
    have hb : Below w.heap.size w w1 := by rw [← hW]; exact (by repeat (first | with_reducible exact Below.refl _ _ | with_reducible refine Below.drew ?_ | with_reducible refine Bel_drewN ?_ _ | with_reducible refine Below.alloc ?_ (by first | omega | (simp; done) | (simp; omega)) _ | with_reducible refine Below.setCell ?_ (by first | omega | (simp; done) | (simp; omega)) _))
    have z1 : w.heap.size + 1 ≤ w1.heap.size := by rw [← hW]; simp
    have HS1 : Hid (Whole w1 w.heap.size 27 #[.int .i64 sn, .slice ao_ss ss.length c_ss] ∧ Below w.heap.size w w1) := Lib.hid ⟨by rw [← hW]; exact Whole.made _ _ _, Bel_next HS0.out hb⟩
    clear HS0 hW hb
    refine (szChain_yes sn ss _ _ (1048576) _ HL0.out (by omega)).mono ?_
    rintro e w2 ⟨rfl, hb⟩
    have z2 : w1.heap.size ≤ w2.heap.size := hb.size
    have HS2 : Hid (Whole w2 w.heap.size 27 #[.int .i64 sn, .slice ao_ss ss.length c_ss] ∧ Below w.heap.size w w2) := Lib.hid ⟨HS1.out.1.below hb, Bel_next HS1.out.2 hb⟩
    clear HS1 hb
    have hc0 := (HS2.out.1).facts.1
    have hf0 := (HS2.out.1).facts.2
    have hz0 := (HS2.out.1).lt
    go_wp2_with fail
    clear hc0 hf0 hz0
    refine (toChain_any sn ss _ _ _ (Holds.below HX_ss.out HS2.out.2) hn_ss).mono ?_
    rintro e w3 ⟨aosc_ss, rfl, rowsc_ss, hb⟩
    have z3 : w2.heap.size ≤ w3.heap.size := hb.size
    have HS3 : Hid (Whole w3 w.heap.size 27 #[.int .i64 sn, .slice ao_ss ss.length c_ss] ∧ Row w3 w2.heap.size w3.heap.size aosc_ss (fl .f32 ss) ∧ Below w.heap.size w w3) := Lib.hid ⟨HS2.out.1.below hb, rowsc_ss, Bel_next HS2.out.2 hb⟩
    clear HS2 hb rowsc_ss
    have hc0 := (HS3.out.1).facts.1
    have hf0 := (HS3.out.1).facts.2
    have hz0 := (HS3.out.1).lt
    go_wp2_with fail
    clear hc0 hf0 hz0
    refine (specRest_is sn ss xf tt kk _ rfl _ _ _ (HS3.out.2.1).holds hn_ss HW.out.1 HW.out.2).mono ?_
    rintro e w4 ⟨aos, ccs, rfl, rows, hb⟩
    have z4 : w3.heap.size ≤ w4.heap.size := hb.size
    have HS4 : Hid (Whole w4 w.heap.size 27 #[.int .i64 sn, .slice ao_ss ss.length c_ss] ∧ Row w4 w2.heap.size w3.heap.size aosc_ss (fl .f32 ss) ∧ Row w4 w3.heap.size w4.heap.size aos (fl .f32 (restL sn.toNat ss (kk + 1))) ∧ Below w.heap.size w w4) := Lib.hid ⟨HS3.out.1.below hb, HS3.out.2.1.below hb, rows, Bel_next HS3.out.2.2 hb⟩
    clear HS3 hb rows
    have HSn : Hid (Whole w4 w.heap.size 27 #[.int .i64 sn, .slice ao_ss ss.length c_ss] ∧ Row w4 w3.heap.size w4.heap.size aos (fl .f32 (restL sn.toNat ss (kk + 1))) ∧ Below w.heap.size w w4) := Lib.hid ⟨HS4.out.1, HS4.out.2.2.1, HS4.out.2.2.2⟩
    clear HS4
    have HS4 := HSn
    clear HSn
    have hc0 := (HS4.out.1).facts.1
    have hf0 := (HS4.out.1).facts.2
    have hz0 := (HS4.out.1).lt
    go_wp2_with fail
    clear hc0 hf0 hz0
    refine (toChain_any sn ss _ _ _ (Holds.below HX_ss.out HS4.out.2.2) hn_ss).mono ?_
    rintro e w5 ⟨aoX_ss, rfl, rowX_ss, hb⟩
    have z5 : w4.heap.size ≤ w5.heap.size := hb.size
    have HS5 : Hid (Whole w5 w.heap.size 27 #[.int .i64 sn, .slice ao_ss ss.length c_ss] ∧ Row w5 w3.heap.size w4.heap.size aos (fl .f32 (restL sn.toNat ss (kk + 1))) ∧ Row w5 w4.heap.size w5.heap.size aoX_ss (fl .f32 ss) ∧ Below w.heap.size w w5) := Lib.hid ⟨HS4.out.1.below hb, HS4.out.2.1.below hb, rowX_ss, Bel_next HS4.out.2.2 hb⟩
    clear HS4 hb rowX_ss
    have hc0 := (HS5.out.1).facts.1
    have hf0 := (HS5.out.1).facts.2
    have hz0 := (HS5.out.1).lt
    go_wp2_with fail
    clear hc0 hf0 hz0
    generalize hW : World.alloc w5 _ = w6
    have hb : Below w5.heap.size w5 w6 := by rw [← hW]; exact (by repeat (first | with_reducible exact Below.refl _ _ | with_reducible refine Below.drew ?_ | with_reducible refine Bel_drewN ?_ _ | with_reducible refine Below.alloc ?_ (by first | omega | (simp; done) | (simp; omega)) _ | with_reducible refine Below.setCell ?_ (by first | omega | (simp; done) | (simp; omega)) _))
    have z6 : w5.heap.size + 1 ≤ w6.heap.size := by rw [← hW]; simp
    have HS6 : Hid (Whole w6 w.heap.size 27 #[.int .i64 sn, .slice ao_ss ss.length c_ss] ∧ Row w6 w3.heap.size w4.heap.size aos (fl .f32 (restL sn.toNat ss (kk + 1))) ∧ Row w6 w4.heap.size w5.heap.size aoX_ss (fl .f32 ss) ∧ Whole w6 w5.heap.size 34 #[.int .i64 sn, .slice aoX_ss ss.length ss.length] ∧ Below w.heap.size w w6) := Lib.hid ⟨HS5.out.1.below hb, HS5.out.2.1.below hb, HS5.out.2.2.1.below hb, by rw [← hW]; exact Whole.made _ _ _, Bel_next HS5.out.2.2.2 hb⟩
    clear HS5 hW hb
    refine (implRest_is sn ss xf tt kk _ rfl _ _ _ (HS6.out.2.2.1).holds hn_ss (Nat.le_refl _) HW.out.1 HW.out.2).mono ?_
    rintro e w7 ⟨aog, ccg, rfl, rowg, hb⟩
    have z7 : w6.heap.size ≤ w7.heap.size := hb.size
    have HS7 : Hid (Whole w7 w.heap.size 27 #[.int .i64 sn, .slice ao_ss ss.length c_ss] ∧ Row w7 w3.heap.size w4.heap.size aos (fl .f32 (restL sn.toNat ss (kk + 1))) ∧ Row w7 w4.heap.size w5.heap.size aoX_ss (fl .f32 ss) ∧ Whole w7 w5.heap.size 34 #[.int .i64 sn, .slice aoX_ss ss.length ss.length] ∧ Row w7 w6.heap.size w7.heap.size aog (fl .f32 (restL sn.toNat ss (kk + 1))) ∧ Below w.heap.size w w7) := Lib.hid ⟨HS6.out.1.below hb, HS6.out.2.1.below hb, HS6.out.2.2.1.below hb, HS6.out.2.2.2.1.below hb, rowg, Bel_next HS6.out.2.2.2.2 hb⟩
    clear HS6 hb rowg
    have HSn : Hid (Whole w7 w.heap.size 27 #[.int .i64 sn, .slice ao_ss ss.length c_ss] ∧ Row w7 w3.heap.size w4.heap.size aos (fl .f32 (restL sn.toNat ss (kk + 1))) ∧ Row w7 w4.heap.size w5.heap.size aoX_ss (fl .f32 ss) ∧ Whole w7 w5.heap.size 34 #[.int .i64 sn, .slice aoX_ss ss.length ss.length] ∧ Row w7 w6.heap.size w7.heap.size aog (fl .f32 (restL sn.toNat ss (kk + 1))) ∧ Below w.heap.size w w7) := Lib.hid ⟨HS7.out.1, HS7.out.2.1, HS7.out.2.2.1, HS7.out.2.2.2.1, HS7.out.2.2.2.2.1, HS7.out.2.2.2.2.2⟩
    clear HS7
    have HS7 := HSn
    clear HSn
    have hc0 := (HS7.out.1).facts.1
    have hf0 := (HS7.out.1).facts.2
    have hz0 := (HS7.out.1).lt
    have hc3 := (HS7.out.2.2.2.1).facts.1
    have hf3 := (HS7.out.2.2.2.1).facts.2
    have hz3 := (HS7.out.2.2.2.1).lt
    go_wp2_with fail
    clear hc0 hf0 hz0
    clear hc3 hf3 hz3
    refine (eqFloat32S_same (restL sn.toNat ss (kk + 1)) (sn.toNat) (restL_len _ _ _) _ _ _ _ _ HS7.out.2.2.2.2.1.holds HS7.out.2.1.holds (by omega)).mono ?_
    rintro e w8 ⟨rfl, hb⟩
    have z8 : w7.heap.size ≤ w8.heap.size := hb.size
    have HS8 : Hid (Whole w8 w.heap.size 27 #[.int .i64 sn, .slice ao_ss ss.length c_ss] ∧ Row w8 w3.heap.size w4.heap.size aos (fl .f32 (restL sn.toNat ss (kk + 1))) ∧ Row w8 w4.heap.size w5.heap.size aoX_ss (fl .f32 ss) ∧ Whole w8 w5.heap.size 34 #[.int .i64 sn, .slice aoX_ss ss.length ss.length] ∧ Row w8 w6.heap.size w7.heap.size aog (fl .f32 (restL sn.toNat ss (kk + 1))) ∧ Below w.heap.size w w8) := Lib.hid ⟨HS7.out.1.below hb, HS7.out.2.1.below hb, HS7.out.2.2.1.below hb, HS7.out.2.2.2.1.below hb, HS7.out.2.2.2.2.1.below hb, Bel_next HS7.out.2.2.2.2.2 hb⟩
    clear HS7 hb
    have hc0 := (HS8.out.1).facts.1
    have hf0 := (HS8.out.1).facts.2
    have hz0 := (HS8.out.1).lt
    have hc3 := (HS8.out.2.2.2.1).facts.1
    have hf3 := (HS8.out.2.2.2.1).facts.2
    have hz3 := (HS8.out.2.2.2.1).lt
    go_wp2_with fail
    clear hc0 hf0 hz0
    clear hc3 hf3 hz3
    have HK : Hid (∀ v v' : World, (v.cell? ⟨w5.heap.size, 0, none⟩ = some (.int .i64 sn) ∧ v.cell? ⟨w5.heap.size, 1, none⟩ = some (.slice aoX_ss ss.length ss.length) ∧ v.cell? ⟨w.heap.size, 0, none⟩ = some (.int .i64 sn) ∧ v.cell? ⟨w.heap.size, 1, none⟩ = some (.slice ao_ss ss.length c_ss) ∧ w8.heap.size ≤ v.heap.size ∧ Whole v w.heap.size 27 #[.int .i64 sn, .slice ao_ss ss.length c_ss] ∧ Row v w3.heap.size w4.heap.size aos (fl .f32 (restL sn.toNat ss (kk + 1))) ∧ Row v w4.heap.size w5.heap.size aoX_ss (fl .f32 ss) ∧ Whole v w5.heap.size 34 #[.int .i64 sn, .slice aoX_ss ss.length ss.length] ∧ Row v w6.heap.size w7.heap.size aog (fl .f32 (restL sn.toNat ss (kk + 1))) ∧ Below w.heap.size w v) → Below v.heap.size v v' → (v'.cell? ⟨w5.heap.size, 0, none⟩ = some (.int .i64 sn) ∧ v'.cell? ⟨w5.heap.size, 1, none⟩ = some (.slice aoX_ss ss.length ss.length) ∧ v'.cell? ⟨w.heap.size, 0, none⟩ = some (.int .i64 sn) ∧ v'.cell? ⟨w.heap.size, 1, none⟩ = some (.slice ao_ss ss.length c_ss) ∧ w8.heap.size ≤ v'.heap.size ∧ Whole v' w.heap.size 27 #[.int .i64 sn, .slice ao_ss ss.length c_ss] ∧ Row v' w3.heap.size w4.heap.size aos (fl .f32 (restL sn.toNat ss (kk + 1))) ∧ Row v' w4.heap.size w5.heap.size aoX_ss (fl .f32 ss) ∧ Whole v' w5.heap.size 34 #[.int .i64 sn, .slice aoX_ss ss.length ss.length] ∧ Row v' w6.heap.size w7.heap.size aog (fl .f32 (restL sn.toNat ss (kk + 1))) ∧ Below w.heap.size w v')) := Lib.hid (fun v v' h hb => ⟨(by rw [Below.cell hb (World.block_lt_of_cell? _ _ h.1)]; exact h.1), (by rw [Below.cell hb (World.block_lt_of_cell? _ _ h.2.1)]; exact h.2.1), (by rw [Below.cell hb (World.block_lt_of_cell? _ _ h.2.2.1)]; exact h.2.2.1), (by rw [Below.cell hb (World.block_lt_of_cell? _ _ h.2.2.2.1)]; exact h.2.2.2.1), Nat.le_trans h.2.2.2.2.1 hb.size, h.2.2.2.2.2.1.below hb, h.2.2.2.2.2.2.1.below hb, h.2.2.2.2.2.2.2.1.below hb, h.2.2.2.2.2.2.2.2.1.below hb, h.2.2.2.2.2.2.2.2.2.1.below hb, Bel_next h.2.2.2.2.2.2.2.2.2.2 hb⟩)
    have HP : Hid (∀ v : World, (v.cell? ⟨w5.heap.size, 0, none⟩ = some (.int .i64 sn) ∧ v.cell? ⟨w5.heap.size, 1, none⟩ = some (.slice aoX_ss ss.length ss.length) ∧ v.cell? ⟨w.heap.size, 0, none⟩ = some (.int .i64 sn) ∧ v.cell? ⟨w.heap.size, 1, none⟩ = some (.slice ao_ss ss.length c_ss) ∧ w8.heap.size ≤ v.heap.size ∧ Whole v w.heap.size 27 #[.int .i64 sn, .slice ao_ss ss.length c_ss] ∧ Row v w3.heap.size w4.heap.size aos (fl .f32 (restL sn.toNat ss (kk + 1))) ∧ Row v w4.heap.size w5.heap.size aoX_ss (fl .f32 ss) ∧ Whole v w5.heap.size 34 #[.int .i64 sn, .slice aoX_ss ss.length ss.length] ∧ Row v w6.heap.size w7.heap.size aog (fl .f32 (restL sn.toNat ss (kk + 1))) ∧ Below w.heap.size w v) → (Whole v w.heap.size 27 #[.int .i64 sn, .slice ao_ss ss.length c_ss] ∧ Row v w3.heap.size w4.heap.size aos (fl .f32 (restL sn.toNat ss (kk + 1))) ∧ Row v w4.heap.size w5.heap.size aoX_ss (fl .f32 ss) ∧ Whole v w5.heap.size 34 #[.int .i64 sn, .slice aoX_ss ss.length ss.length] ∧ Row v w6.heap.size w7.heap.size aog (fl .f32 (restL sn.toNat ss (kk + 1))) ∧ Below w.heap.size w v)) := Lib.hid (fun v h => h.2.2.2.2.2)
    have hR : w8.cell? ⟨w5.heap.size, 0, none⟩ = some (.int .i64 sn) ∧ w8.cell? ⟨w5.heap.size, 1, none⟩ = some (.slice aoX_ss ss.length ss.length) ∧ w8.cell? ⟨w.heap.size, 0, none⟩ = some (.int .i64 sn) ∧ w8.cell? ⟨w.heap.size, 1, none⟩ = some (.slice ao_ss ss.length c_ss) ∧ w8.heap.size ≤ w8.heap.size ∧ Whole w8 w.heap.size 27 #[.int .i64 sn, .slice ao_ss ss.length c_ss] ∧ Row w8 w3.heap.size w4.heap.size aos (fl .f32 (restL sn.toNat ss (kk + 1))) ∧ Row w8 w4.heap.size w5.heap.size aoX_ss (fl .f32 ss) ∧ Whole w8 w5.heap.size 34 #[.int .i64 sn, .slice aoX_ss ss.length ss.length] ∧ Row w8 w6.heap.size w7.heap.size aog (fl .f32 (restL sn.toNat ss (kk + 1))) ∧ Below w.heap.size w w8 := ⟨(HS8.out.2.2.2.1).cell 0, (HS8.out.2.2.2.1).cell 1, (HS8.out.1).cell 0, (HS8.out.1).cell 1, Nat.le_refl _, HS8.out.1, HS8.out.2.1, HS8.out.2.2.1, HS8.out.2.2.2.1, HS8.out.2.2.2.2.1, HS8.out.2.2.2.2.2⟩
    go_region_held3 (fun v => v.cell? ⟨w5.heap.size, 0, none⟩ = some (.int .i64 sn) ∧ v.cell? ⟨w5.heap.size, 1, none⟩ = some (.slice aoX_ss ss.length ss.length) ∧ v.cell? ⟨w.heap.size, 0, none⟩ = some (.int .i64 sn) ∧ v.cell? ⟨w.heap.size, 1, none⟩ = some (.slice ao_ss ss.length c_ss) ∧ w8.heap.size ≤ v.heap.size ∧ Whole v w.heap.size 27 #[.int .i64 sn, .slice ao_ss ss.length c_ss] ∧ Row v w3.heap.size w4.heap.size aos (fl .f32 (restL sn.toNat ss (kk + 1))) ∧ Row v w4.heap.size w5.heap.size aoX_ss (fl .f32 ss) ∧ Whole v w5.heap.size 34 #[.int .i64 sn, .slice aoX_ss ss.length ss.length] ∧ Row v w6.heap.size w7.heap.size aog (fl .f32 (restL sn.toNat ss (kk + 1))) ∧ Below w.heap.size w v)
      (first | assumption | exact HK.out _ _ (by assumption) (by assumption) | exact HK.out _ _ (by assumption) ((Below.refl _ _).drew) | (refine HK.out _ _ (by assumption) ?_; (repeat (first | with_reducible exact Below.refl _ _ | with_reducible refine Below.drew ?_ | with_reducible refine Bel_drewN ?_ _ | with_reducible refine Below.alloc ?_ (by first | omega | (simp; done) | (simp; omega)) _ | with_reducible refine Below.setCell ?_ (by first | omega | (simp; done) | (simp; omega)) _)); done))
      (first | (go_at_call 18; refine (toChain_any sn ss _ _ _ (Holds.below HX_ss.out (HP.out _ (by assumption)).2.2.2.2.2) hn_ss).mono ?_; rintro e wt ⟨aoY_ss, rfl, rowY_ss, hbt⟩) | (go_at_call 22; refine (eqChain_same sn ss _ rfl _ _ _ _ _ ((HP.out _ (by assumption)).2.2.1.holds) (by exact rowY_ss.holds) hn_ss).mono ?_; rintro e w9 ⟨rfl, hb⟩))
    have hN := (HK.out _ _ (HK.out _ _ hR (by first | exact hbt | exact Bel_next (Below.refl _ _).drew hbt | (refine Bel_next ?_ hbt; (repeat (first | with_reducible exact Below.refl _ _ | with_reducible refine Below.drew ?_ | with_reducible refine Bel_drewN ?_ _ | with_reducible refine Below.alloc ?_ (by first | omega | (simp; done) | (simp; omega)) _ | with_reducible refine Below.setCell ?_ (by first | omega | (simp; done) | (simp; omega)) _)); done))) (by first | exact hb | exact Bel_next (Below.refl _ _).drew hb | (refine Bel_next ?_ hb; (repeat (first | with_reducible exact Below.refl _ _ | with_reducible refine Below.drew ?_ | with_reducible refine Bel_drewN ?_ _ | with_reducible refine Below.alloc ?_ (by first | omega | (simp; done) | (simp; omega)) _ | with_reducible refine Below.setCell ?_ (by first | omega | (simp; done) | (simp; omega)) _)); done)))
    have z9 : w8.heap.size ≤ w9.heap.size := hN.2.2.2.2.1
    have HS9 : Hid (Whole w9 w.heap.size 27 #[.int .i64 sn, .slice ao_ss ss.length c_ss] ∧ Row w9 w3.heap.size w4.heap.size aos (fl .f32 (restL sn.toNat ss (kk + 1))) ∧ Row w9 w4.heap.size w5.heap.size aoX_ss (fl .f32 ss) ∧ Whole w9 w5.heap.size 34 #[.int .i64 sn, .slice aoX_ss ss.length ss.length] ∧ Row w9 w6.heap.size w7.heap.size aog (fl .f32 (restL sn.toNat ss (kk + 1))) ∧ Below w.heap.size w w9) := Lib.hid ⟨hN.2.2.2.2.2.1, hN.2.2.2.2.2.2.1, hN.2.2.2.2.2.2.2.1, hN.2.2.2.2.2.2.2.2.1, hN.2.2.2.2.2.2.2.2.2.1, hN.2.2.2.2.2.2.2.2.2.2⟩
    clear HS8 hN hR HK HP hb hbt
    clear rowY_ss
    have hc0 := (HS9.out.1).facts.1
    have hf0 := (HS9.out.1).facts.2
    have hz0 := (HS9.out.1).lt
    have hc3 := (HS9.out.2.2.2.1).facts.1
    have hf3 := (HS9.out.2.2.2.1).facts.2
    have hz3 := (HS9.out.2.2.2.1).lt
    go_wp2_with fail
    clear hc0 hf0 hz0
    clear hc3 hf3 hz3
    refine (markChain_row sn 1 _ _ _ _ _ _ HS9.out.2.2.1 ((fl_len _ _).trans (rfl)) (by omega)).mono ?_
    rintro e w10 ⟨rfl, row, bt⟩
    have z10 : w9.heap.size ≤ w10.heap.size := bt.size
    have HS10 : Hid (Whole w10 w.heap.size 27 #[.int .i64 sn, .slice ao_ss ss.length c_ss] ∧ Row w10 w3.heap.size w4.heap.size aos (fl .f32 (restL sn.toNat ss (kk + 1))) ∧ Row w10 w4.heap.size w5.heap.size aoX_ss (fl .f32 (fmarks 1 ss.length)) ∧ Whole w10 w5.heap.size 34 #[.int .i64 sn, .slice aoX_ss ss.length ss.length] ∧ Row w10 w6.heap.size w7.heap.size aog (fl .f32 (restL sn.toNat ss (kk + 1))) ∧ Below w.heap.size w w10) := Lib.hid ⟨HS9.out.1.buts bt (by omega), HS9.out.2.1.but bt (by omega), row, HS9.out.2.2.2.1.buts bt (by omega), HS9.out.2.2.2.2.1.but bt (by omega), bt.bel HS9.out.2.2.2.2.2 (by omega)⟩
    clear HS9 row bt
    have hc0 := (HS10.out.1).facts.1
    have hf0 := (HS10.out.1).facts.2
    have hz0 := (HS10.out.1).lt
    have hc3 := (HS10.out.2.2.2.1).facts.1
    have hf3 := (HS10.out.2.2.2.1).facts.2
    have hz3 := (HS10.out.2.2.2.1).lt
    go_wp2_with fail
    clear hc0 hf0 hz0
    clear hc3 hf3 hz3
    refine (eqFloat32S_same (restL sn.toNat ss (kk + 1)) (sn.toNat) (restL_len _ _ _) _ _ _ _ _ HS10.out.2.2.2.2.1.holds HS10.out.2.1.holds (by omega)).mono ?_
    rintro e w11 ⟨rfl, hb⟩
    have z11 : w10.heap.size ≤ w11.heap.size := hb.size
    have HS11 : Hid (Whole w11 w.heap.size 27 #[.int .i64 sn, .slice ao_ss ss.length c_ss] ∧ Row w11 w3.heap.size w4.heap.size aos (fl .f32 (restL sn.toNat ss (kk + 1))) ∧ Row w11 w4.heap.size w5.heap.size aoX_ss (fl .f32 (fmarks 1 ss.length)) ∧ Whole w11 w5.heap.size 34 #[.int .i64 sn, .slice aoX_ss ss.length ss.length] ∧ Row w11 w6.heap.size w7.heap.size aog (fl .f32 (restL sn.toNat ss (kk + 1))) ∧ Below w.heap.size w w11) := Lib.hid ⟨HS10.out.1.below hb, HS10.out.2.1.below hb, HS10.out.2.2.1.below hb, HS10.out.2.2.2.1.below hb, HS10.out.2.2.2.2.1.below hb, Bel_next HS10.out.2.2.2.2.2 hb⟩
    clear HS10 hb
    have hc0 := (HS11.out.1).facts.1
    have hf0 := (HS11.out.1).facts.2
    have hz0 := (HS11.out.1).lt
    have hc3 := (HS11.out.2.2.2.1).facts.1
    have hf3 := (HS11.out.2.2.2.1).facts.2
    have hz3 := (HS11.out.2.2.2.1).lt
    go_wp2_with fail
    clear hc0 hf0 hz0
    clear hc3 hf3 hz3
    refine (markFloat32S_row (sn.toNat) _ 1 _ _ _ _ _ HS11.out.2.2.2.2.1 ((fl_len _ _).trans (restL_len _ _ _)) (by omega)).mono ?_
    rintro e w12 ⟨rfl, row, bt⟩
    have z12 : w11.heap.size ≤ w12.heap.size := bt.size
    have HS12 : Hid (Whole w12 w.heap.size 27 #[.int .i64 sn, .slice ao_ss ss.length c_ss] ∧ Row w12 w3.heap.size w4.heap.size aos (fl .f32 (restL sn.toNat ss (kk + 1))) ∧ Row w12 w4.heap.size w5.heap.size aoX_ss (fl .f32 (fmarks 1 ss.length)) ∧ Whole w12 w5.heap.size 34 #[.int .i64 sn, .slice aoX_ss ss.length ss.length] ∧ Row w12 w6.heap.size w7.heap.size aog (fl .f32 (fmarks 1 sn.toNat)) ∧ Below w.heap.size w w12) := Lib.hid ⟨HS11.out.1.buts bt (by omega), HS11.out.2.1.but bt (by omega), HS11.out.2.2.1.but bt (by omega), HS11.out.2.2.2.1.buts bt (by omega), row, bt.bel HS11.out.2.2.2.2.2 (by omega)⟩
    clear HS11 row bt
    have hc0 := (HS12.out.1).facts.1
    have hf0 := (HS12.out.1).facts.2
    have hz0 := (HS12.out.1).lt
    have hc3 := (HS12.out.2.2.2.1).facts.1
    have hf3 := (HS12.out.2.2.2.1).facts.2
    have hz3 := (HS12.out.2.2.2.1).lt
    go_wp2_with fail
    clear hc0 hf0 hz0
    clear hc3 hf3 hz3
    refine (heldFloat32S_fmarks 1 (sn.toNat) _ _ _ HS12.out.2.2.2.2.1.holds (by omega)).mono ?_
    rintro e w13 ⟨rfl, hb⟩
    have z13 : w12.heap.size ≤ w13.heap.size := hb.size
    have HS13 : Hid (Whole w13 w.heap.size 27 #[.int .i64 sn, .slice ao_ss ss.length c_ss] ∧ Row w13 w3.heap.size w4.heap.size aos (fl .f32 (restL sn.toNat ss (kk + 1))) ∧ Row w13 w4.heap.size w5.heap.size aoX_ss (fl .f32 (fmarks 1 ss.length)) ∧ Whole w13 w5.heap.size 34 #[.int .i64 sn, .slice aoX_ss ss.length ss.length] ∧ Row w13 w6.heap.size w7.heap.size aog (fl .f32 (fmarks 1 sn.toNat)) ∧ Below w.heap.size w w13) := Lib.hid ⟨HS12.out.1.below hb, HS12.out.2.1.below hb, HS12.out.2.2.1.below hb, HS12.out.2.2.2.1.below hb, HS12.out.2.2.2.2.1.below hb, Bel_next HS12.out.2.2.2.2.2 hb⟩
    clear HS12 hb
    have hc0 := (HS13.out.1).facts.1
    have hf0 := (HS13.out.1).facts.2
    have hz0 := (HS13.out.1).lt
    have hc3 := (HS13.out.2.2.2.1).facts.1
    have hf3 := (HS13.out.2.2.2.1).facts.2
    have hz3 := (HS13.out.2.2.2.1).lt
    go_wp2_with fail
    clear hc0 hf0 hz0
    clear hc3 hf3 hz3
    refine (toChain_any sn ss _ _ _ (Holds.below HX_ss.out HS13.out.2.2.2.2.2) hn_ss).mono ?_
    rintro e w14 ⟨aohc_ss, rfl, rowhc_ss, hb⟩
    have z14 : w13.heap.size ≤ w14.heap.size := hb.size
    have HS14 : Hid (Whole w14 w.heap.size 27 #[.int .i64 sn, .slice ao_ss ss.length c_ss] ∧ Row w14 w3.heap.size w4.heap.size aos (fl .f32 (restL sn.toNat ss (kk + 1))) ∧ Row w14 w4.heap.size w5.heap.size aoX_ss (fl .f32 (fmarks 1 ss.length)) ∧ Whole w14 w5.heap.size 34 #[.int .i64 sn, .slice aoX_ss ss.length ss.length] ∧ Row w14 w6.heap.size w7.heap.size aog (fl .f32 (fmarks 1 sn.toNat)) ∧ Row w14 w13.heap.size w14.heap.size aohc_ss (fl .f32 ss) ∧ Below w.heap.size w w14) := Lib.hid ⟨HS13.out.1.below hb, HS13.out.2.1.below hb, HS13.out.2.2.1.below hb, HS13.out.2.2.2.1.below hb, HS13.out.2.2.2.2.1.below hb, rowhc_ss, Bel_next HS13.out.2.2.2.2.2 hb⟩
    clear HS13 hb rowhc_ss
    have hc0 := (HS14.out.1).facts.1
    have hf0 := (HS14.out.1).facts.2
    have hz0 := (HS14.out.1).lt
    have hc3 := (HS14.out.2.2.2.1).facts.1
    have hf3 := (HS14.out.2.2.2.1).facts.2
    have hz3 := (HS14.out.2.2.2.1).lt
    go_wp2_with fail
    clear hc0 hf0 hz0
    clear hc3 hf3 hz3
    refine (implRest_is sn ss xf tt kk _ rfl _ _ _ (HS14.out.2.2.2.2.2.1).holds hn_ss (Nat.le_refl _) HW.out.1 HW.out.2).mono ?_
    rintro e w15 ⟨aoh, cch, rfl, rowh, hb⟩
    have z15 : w14.heap.size ≤ w15.heap.size := hb.size
    have HS15 : Hid (Whole w15 w.heap.size 27 #[.int .i64 sn, .slice ao_ss ss.length c_ss] ∧ Row w15 w3.heap.size w4.heap.size aos (fl .f32 (restL sn.toNat ss (kk + 1))) ∧ Row w15 w4.heap.size w5.heap.size aoX_ss (fl .f32 (fmarks 1 ss.length)) ∧ Whole w15 w5.heap.size 34 #[.int .i64 sn, .slice aoX_ss ss.length ss.length] ∧ Row w15 w6.heap.size w7.heap.size aog (fl .f32 (fmarks 1 sn.toNat)) ∧ Row w15 w13.heap.size w14.heap.size aohc_ss (fl .f32 ss) ∧ Row w15 w14.heap.size w15.heap.size aoh (fl .f32 (restL sn.toNat ss (kk + 1))) ∧ Below w.heap.size w w15) := Lib.hid ⟨HS14.out.1.below hb, HS14.out.2.1.below hb, HS14.out.2.2.1.below hb, HS14.out.2.2.2.1.below hb, HS14.out.2.2.2.2.1.below hb, HS14.out.2.2.2.2.2.1.below hb, rowh, Bel_next HS14.out.2.2.2.2.2.2 hb⟩
    clear HS14 hb rowh
    have HSn : Hid (Whole w15 w.heap.size 27 #[.int .i64 sn, .slice ao_ss ss.length c_ss] ∧ Row w15 w3.heap.size w4.heap.size aos (fl .f32 (restL sn.toNat ss (kk + 1))) ∧ Row w15 w4.heap.size w5.heap.size aoX_ss (fl .f32 (fmarks 1 ss.length)) ∧ Whole w15 w5.heap.size 34 #[.int .i64 sn, .slice aoX_ss ss.length ss.length] ∧ Row w15 w6.heap.size w7.heap.size aog (fl .f32 (fmarks 1 sn.toNat)) ∧ Row w15 w14.heap.size w15.heap.size aoh (fl .f32 (restL sn.toNat ss (kk + 1))) ∧ Below w.heap.size w w15) := Lib.hid ⟨HS15.out.1, HS15.out.2.1, HS15.out.2.2.1, HS15.out.2.2.2.1, HS15.out.2.2.2.2.1, HS15.out.2.2.2.2.2.2.1, HS15.out.2.2.2.2.2.2.2⟩
    clear HS15
    have HS15 := HSn
    clear HSn
    have hc0 := (HS15.out.1).facts.1
    have hf0 := (HS15.out.1).facts.2
    have hz0 := (HS15.out.1).lt
    have hc3 := (HS15.out.2.2.2.1).facts.1
    have hf3 := (HS15.out.2.2.2.1).facts.2
    have hz3 := (HS15.out.2.2.2.1).lt
    go_wp2_with fail
    clear hc0 hf0 hz0
    clear hc3 hf3 hz3
    refine (eqFloat32S_same (restL sn.toNat ss (kk + 1)) (sn.toNat) (restL_len _ _ _) _ _ _ _ _ HS15.out.2.2.2.2.2.1.holds HS15.out.2.1.holds (by omega)).mono ?_
    rintro e w16 ⟨rfl, hb⟩
    have z16 : w15.heap.size ≤ w16.heap.size := hb.size
    have HS16 : Hid (Whole w16 w.heap.size 27 #[.int .i64 sn, .slice ao_ss ss.length c_ss] ∧ Row w16 w3.heap.size w4.heap.size aos (fl .f32 (restL sn.toNat ss (kk + 1))) ∧ Row w16 w4.heap.size w5.heap.size aoX_ss (fl .f32 (fmarks 1 ss.length)) ∧ Whole w16 w5.heap.size 34 #[.int .i64 sn, .slice aoX_ss ss.length ss.length] ∧ Row w16 w6.heap.size w7.heap.size aog (fl .f32 (fmarks 1 sn.toNat)) ∧ Row w16 w14.heap.size w15.heap.size aoh (fl .f32 (restL sn.toNat ss (kk + 1))) ∧ Below w.heap.size w w16) := Lib.hid ⟨HS15.out.1.below hb, HS15.out.2.1.below hb, HS15.out.2.2.1.below hb, HS15.out.2.2.2.1.below hb, HS15.out.2.2.2.2.1.below hb, HS15.out.2.2.2.2.2.1.below hb, Bel_next HS15.out.2.2.2.2.2.2 hb⟩
    clear HS15 hb
    have hc0 := (HS16.out.1).facts.1
    have hf0 := (HS16.out.1).facts.2
    have hz0 := (HS16.out.1).lt
    have hc3 := (HS16.out.2.2.2.1).facts.1
    have hf3 := (HS16.out.2.2.2.1).facts.2
    have hz3 := (HS16.out.2.2.2.1).lt
    go_wp2_with fail
    clear hc0 hf0 hz0
    clear hc3 hf3 hz3
    refine (heldFloat32S_fmarks 1 (sn.toNat) _ _ _ HS16.out.2.2.2.2.1.holds (by omega)).mono ?_
    rintro e w17 ⟨rfl, hb⟩
    have z17 : w16.heap.size ≤ w17.heap.size := hb.size
    have HS17 : Hid (Whole w17 w.heap.size 27 #[.int .i64 sn, .slice ao_ss ss.length c_ss] ∧ Row w17 w3.heap.size w4.heap.size aos (fl .f32 (restL sn.toNat ss (kk + 1))) ∧ Row w17 w4.heap.size w5.heap.size aoX_ss (fl .f32 (fmarks 1 ss.length)) ∧ Whole w17 w5.heap.size 34 #[.int .i64 sn, .slice aoX_ss ss.length ss.length] ∧ Row w17 w6.heap.size w7.heap.size aog (fl .f32 (fmarks 1 sn.toNat)) ∧ Row w17 w14.heap.size w15.heap.size aoh (fl .f32 (restL sn.toNat ss (kk + 1))) ∧ Below w.heap.size w w17) := Lib.hid ⟨HS16.out.1.below hb, HS16.out.2.1.below hb, HS16.out.2.2.1.below hb, HS16.out.2.2.2.1.below hb, HS16.out.2.2.2.2.1.below hb, HS16.out.2.2.2.2.2.1.below hb, Bel_next HS16.out.2.2.2.2.2.2 hb⟩
    clear HS16 hb
    have hc0 := (HS17.out.1).facts.1
    have hf0 := (HS17.out.1).facts.2
    have hz0 := (HS17.out.1).lt
    have hc3 := (HS17.out.2.2.2.1).facts.1
    have hf3 := (HS17.out.2.2.2.1).facts.2
    have hz3 := (HS17.out.2.2.2.1).lt
    go_wp2_with fail
    clear hc0 hf0 hz0
    clear hc3 hf3 hz3
    go_ret
    exact ⟨rfl, Bel_next HS17.out.2.2.2.2.2.2 (by repeat (first | with_reducible exact Below.refl _ _ | with_reducible refine Below.drew ?_ | with_reducible refine Bel_drewN ?_ _ | with_reducible refine Below.alloc ?_ (by first | omega | (simp; done) | (simp; omega)) _ | with_reducible refine Below.setCell ?_ (by first | omega | (simp; done) | (simp; omega)) _))⟩
  have HV := Lib.hid hv0
  clear hv0
  go_enter Try.func8, Try.ntmps8
  have HS0 : Hid (Below w.heap.size w w) := Lib.hid (Below.refl _ _)
  go_wp2_with fail
  generalize hW : World.alloc w _ = w1
  have hb : Below w.heap.size w w1 := by rw [← hW]; exact (by repeat (first | with_reducible exact Below.refl _ _ | with_reducible refine Below.drew ?_ | with_reducible refine Bel_drewN ?_ _ | with_reducible refine Below.alloc ?_ (by first | omega | (simp; done) | (simp; omega)) _ | with_reducible refine Below.setCell ?_ (by first | omega | (simp; done) | (simp; omega)) _))
  have z1 : w.heap.size + 1 ≤ w1.heap.size := by rw [← hW]; simp
  have HS1 : Hid (Whole w1 w.heap.size 27 #[.int .i64 sn, .slice ao_ss ss.length c_ss] ∧ Below w.heap.size w w1) := Lib.hid ⟨by rw [← hW]; exact Whole.made _ _ _, Bel_next HS0.out hb⟩
  clear HS0 hW hb
  refine (szChain_yes sn ss _ _ (1048576) _ HL0.out (by omega)).mono ?_
  rintro e w2 ⟨rfl, hb⟩
  have z2 : w1.heap.size ≤ w2.heap.size := hb.size
  have HS2 : Hid (Whole w2 w.heap.size 27 #[.int .i64 sn, .slice ao_ss ss.length c_ss] ∧ Below w.heap.size w w2) := Lib.hid ⟨HS1.out.1.below hb, Bel_next HS1.out.2 hb⟩
  clear HS1 hb
  have hc0 := (HS2.out.1).facts.1
  have hf0 := (HS2.out.1).facts.2
  have hz0 := (HS2.out.1).lt
  go_wp2_with fail
  clear hc0 hf0 hz0
  refine (toChain_any sn ss _ _ _ (Holds.below HX_ss.out HS2.out.2) hn_ss).mono ?_
  rintro e w3 ⟨aosc_ss, rfl, rowsc_ss, hb⟩
  have z3 : w2.heap.size ≤ w3.heap.size := hb.size
  have HS3 : Hid (Whole w3 w.heap.size 27 #[.int .i64 sn, .slice ao_ss ss.length c_ss] ∧ Row w3 w2.heap.size w3.heap.size aosc_ss (fl .f32 ss) ∧ Below w.heap.size w w3) := Lib.hid ⟨HS2.out.1.below hb, rowsc_ss, Bel_next HS2.out.2 hb⟩
  clear HS2 hb rowsc_ss
  have hc0 := (HS3.out.1).facts.1
  have hf0 := (HS3.out.1).facts.2
  have hz0 := (HS3.out.1).lt
  go_wp2_with fail
  clear hc0 hf0 hz0
  refine (specRest_not sn ss xf tt _ rfl _ _ _ (HS3.out.2.1).holds hn_ss HV.out).mono ?_
  rintro e w4 ⟨rfl, hb⟩
  have z4 : w3.heap.size ≤ w4.heap.size := hb.size
  have HS4 : Hid (Whole w4 w.heap.size 27 #[.int .i64 sn, .slice ao_ss ss.length c_ss] ∧ Row w4 w2.heap.size w3.heap.size aosc_ss (fl .f32 ss) ∧ Below w.heap.size w w4) := Lib.hid ⟨HS3.out.1.below hb, HS3.out.2.1.below hb, Bel_next HS3.out.2.2 hb⟩
  clear HS3 hb
  have HSn : Hid (Whole w4 w.heap.size 27 #[.int .i64 sn, .slice ao_ss ss.length c_ss] ∧ Below w.heap.size w w4) := Lib.hid ⟨HS4.out.1, HS4.out.2.2⟩
  clear HS4
  have HS4 := HSn
  clear HSn
  have hc0 := (HS4.out.1).facts.1
  have hf0 := (HS4.out.1).facts.2
  have hz0 := (HS4.out.1).lt
  go_wp2_with fail
  clear hc0 hf0 hz0
  refine (toChain_any sn ss _ _ _ (Holds.below HX_ss.out HS4.out.2) hn_ss).mono ?_
  rintro e w5 ⟨aoX_ss, rfl, rowX_ss, hb⟩
  have z5 : w4.heap.size ≤ w5.heap.size := hb.size
  have HS5 : Hid (Whole w5 w.heap.size 27 #[.int .i64 sn, .slice ao_ss ss.length c_ss] ∧ Row w5 w4.heap.size w5.heap.size aoX_ss (fl .f32 ss) ∧ Below w.heap.size w w5) := Lib.hid ⟨HS4.out.1.below hb, rowX_ss, Bel_next HS4.out.2 hb⟩
  clear HS4 hb rowX_ss
  have hc0 := (HS5.out.1).facts.1
  have hf0 := (HS5.out.1).facts.2
  have hz0 := (HS5.out.1).lt
  go_wp2_with fail
  clear hc0 hf0 hz0
  generalize hW : World.alloc w5 _ = w6
  have hb : Below w5.heap.size w5 w6 := by rw [← hW]; exact (by repeat (first | with_reducible exact Below.refl _ _ | with_reducible refine Below.drew ?_ | with_reducible refine Bel_drewN ?_ _ | with_reducible refine Below.alloc ?_ (by first | omega | (simp; done) | (simp; omega)) _ | with_reducible refine Below.setCell ?_ (by first | omega | (simp; done) | (simp; omega)) _))
  have z6 : w5.heap.size + 1 ≤ w6.heap.size := by rw [← hW]; simp
  have HS6 : Hid (Whole w6 w.heap.size 27 #[.int .i64 sn, .slice ao_ss ss.length c_ss] ∧ Row w6 w4.heap.size w5.heap.size aoX_ss (fl .f32 ss) ∧ Whole w6 w5.heap.size 34 #[.int .i64 sn, .slice aoX_ss ss.length ss.length] ∧ Below w.heap.size w w6) := Lib.hid ⟨HS5.out.1.below hb, HS5.out.2.1.below hb, by rw [← hW]; exact Whole.made _ _ _, Bel_next HS5.out.2.2 hb⟩
  clear HS5 hW hb
  refine (implRest_not sn ss xf tt _ rfl _ _ _ (HS6.out.2.1).holds hn_ss (Nat.le_refl _) HV.out).mono ?_
  rintro e w7 ⟨rfl, hb⟩
  have z7 : w6.heap.size ≤ w7.heap.size := hb.size
  have HS7 : Hid (Whole w7 w.heap.size 27 #[.int .i64 sn, .slice ao_ss ss.length c_ss] ∧ Row w7 w4.heap.size w5.heap.size aoX_ss (fl .f32 ss) ∧ Whole w7 w5.heap.size 34 #[.int .i64 sn, .slice aoX_ss ss.length ss.length] ∧ Below w.heap.size w w7) := Lib.hid ⟨HS6.out.1.below hb, HS6.out.2.1.below hb, HS6.out.2.2.1.below hb, Bel_next HS6.out.2.2.2 hb⟩
  clear HS6 hb
  have HSn : Hid (Whole w7 w.heap.size 27 #[.int .i64 sn, .slice ao_ss ss.length c_ss] ∧ Row w7 w4.heap.size w5.heap.size aoX_ss (fl .f32 ss) ∧ Whole w7 w5.heap.size 34 #[.int .i64 sn, .slice aoX_ss ss.length ss.length] ∧ Below w.heap.size w w7) := Lib.hid ⟨HS7.out.1, HS7.out.2.1, HS7.out.2.2.1, HS7.out.2.2.2⟩
  clear HS7
  have HS7 := HSn
  clear HSn
  have hc0 := (HS7.out.1).facts.1
  have hf0 := (HS7.out.1).facts.2
  have hz0 := (HS7.out.1).lt
  have hc2 := (HS7.out.2.2.1).facts.1
  have hf2 := (HS7.out.2.2.1).facts.2
  have hz2 := (HS7.out.2.2.1).lt
  go_wp2_with fail
  clear hc0 hf0 hz0
  clear hc2 hf2 hz2
  refine (eqFloat32S_same [] 0 rfl _ _ _ _ _ (Holds.nil _ _) (Holds.nil _ _) (by omega)).mono ?_
  rintro e w8 ⟨rfl, hb⟩
  have z8 : w7.heap.size ≤ w8.heap.size := hb.size
  have HS8 : Hid (Whole w8 w.heap.size 27 #[.int .i64 sn, .slice ao_ss ss.length c_ss] ∧ Row w8 w4.heap.size w5.heap.size aoX_ss (fl .f32 ss) ∧ Whole w8 w5.heap.size 34 #[.int .i64 sn, .slice aoX_ss ss.length ss.length] ∧ Below w.heap.size w w8) := Lib.hid ⟨HS7.out.1.below hb, HS7.out.2.1.below hb, HS7.out.2.2.1.below hb, Bel_next HS7.out.2.2.2 hb⟩
  clear HS7 hb
  have hc0 := (HS8.out.1).facts.1
  have hf0 := (HS8.out.1).facts.2
  have hz0 := (HS8.out.1).lt
  have hc2 := (HS8.out.2.2.1).facts.1
  have hf2 := (HS8.out.2.2.1).facts.2
  have hz2 := (HS8.out.2.2.1).lt
  go_wp2_with fail
  clear hc0 hf0 hz0
  clear hc2 hf2 hz2
  have HK : Hid (∀ v v' : World, (v.cell? ⟨w5.heap.size, 0, none⟩ = some (.int .i64 sn) ∧ v.cell? ⟨w5.heap.size, 1, none⟩ = some (.slice aoX_ss ss.length ss.length) ∧ v.cell? ⟨w.heap.size, 0, none⟩ = some (.int .i64 sn) ∧ v.cell? ⟨w.heap.size, 1, none⟩ = some (.slice ao_ss ss.length c_ss) ∧ w8.heap.size ≤ v.heap.size ∧ Whole v w.heap.size 27 #[.int .i64 sn, .slice ao_ss ss.length c_ss] ∧ Row v w4.heap.size w5.heap.size aoX_ss (fl .f32 ss) ∧ Whole v w5.heap.size 34 #[.int .i64 sn, .slice aoX_ss ss.length ss.length] ∧ Below w.heap.size w v) → Below v.heap.size v v' → (v'.cell? ⟨w5.heap.size, 0, none⟩ = some (.int .i64 sn) ∧ v'.cell? ⟨w5.heap.size, 1, none⟩ = some (.slice aoX_ss ss.length ss.length) ∧ v'.cell? ⟨w.heap.size, 0, none⟩ = some (.int .i64 sn) ∧ v'.cell? ⟨w.heap.size, 1, none⟩ = some (.slice ao_ss ss.length c_ss) ∧ w8.heap.size ≤ v'.heap.size ∧ Whole v' w.heap.size 27 #[.int .i64 sn, .slice ao_ss ss.length c_ss] ∧ Row v' w4.heap.size w5.heap.size aoX_ss (fl .f32 ss) ∧ Whole v' w5.heap.size 34 #[.int .i64 sn, .slice aoX_ss ss.length ss.length] ∧ Below w.heap.size w v')) := Lib.hid (fun v v' h hb => ⟨(by rw [Below.cell hb (World.block_lt_of_cell? _ _ h.1)]; exact h.1), (by rw [Below.cell hb (World.block_lt_of_cell? _ _ h.2.1)]; exact h.2.1), (by rw [Below.cell hb (World.block_lt_of_cell? _ _ h.2.2.1)]; exact h.2.2.1), (by rw [Below.cell hb (World.block_lt_of_cell? _ _ h.2.2.2.1)]; exact h.2.2.2.1), Nat.le_trans h.2.2.2.2.1 hb.size, h.2.2.2.2.2.1.below hb, h.2.2.2.2.2.2.1.below hb, h.2.2.2.2.2.2.2.1.below hb, Bel_next h.2.2.2.2.2.2.2.2 hb⟩)
  have HP : Hid (∀ v : World, (v.cell? ⟨w5.heap.size, 0, none⟩ = some (.int .i64 sn) ∧ v.cell? ⟨w5.heap.size, 1, none⟩ = some (.slice aoX_ss ss.length ss.length) ∧ v.cell? ⟨w.heap.size, 0, none⟩ = some (.int .i64 sn) ∧ v.cell? ⟨w.heap.size, 1, none⟩ = some (.slice ao_ss ss.length c_ss) ∧ w8.heap.size ≤ v.heap.size ∧ Whole v w.heap.size 27 #[.int .i64 sn, .slice ao_ss ss.length c_ss] ∧ Row v w4.heap.size w5.heap.size aoX_ss (fl .f32 ss) ∧ Whole v w5.heap.size 34 #[.int .i64 sn, .slice aoX_ss ss.length ss.length] ∧ Below w.heap.size w v) → (Whole v w.heap.size 27 #[.int .i64 sn, .slice ao_ss ss.length c_ss] ∧ Row v w4.heap.size w5.heap.size aoX_ss (fl .f32 ss) ∧ Whole v w5.heap.size 34 #[.int .i64 sn, .slice aoX_ss ss.length ss.length] ∧ Below w.heap.size w v)) := Lib.hid (fun v h => h.2.2.2.2.2)
  have hR : w8.cell? ⟨w5.heap.size, 0, none⟩ = some (.int .i64 sn) ∧ w8.cell? ⟨w5.heap.size, 1, none⟩ = some (.slice aoX_ss ss.length ss.length) ∧ w8.cell? ⟨w.heap.size, 0, none⟩ = some (.int .i64 sn) ∧ w8.cell? ⟨w.heap.size, 1, none⟩ = some (.slice ao_ss ss.length c_ss) ∧ w8.heap.size ≤ w8.heap.size ∧ Whole w8 w.heap.size 27 #[.int .i64 sn, .slice ao_ss ss.length c_ss] ∧ Row w8 w4.heap.size w5.heap.size aoX_ss (fl .f32 ss) ∧ Whole w8 w5.heap.size 34 #[.int .i64 sn, .slice aoX_ss ss.length ss.length] ∧ Below w.heap.size w w8 := ⟨(HS8.out.2.2.1).cell 0, (HS8.out.2.2.1).cell 1, (HS8.out.1).cell 0, (HS8.out.1).cell 1, Nat.le_refl _, HS8.out.1, HS8.out.2.1, HS8.out.2.2.1, HS8.out.2.2.2⟩
  go_region_held3 (fun v => v.cell? ⟨w5.heap.size, 0, none⟩ = some (.int .i64 sn) ∧ v.cell? ⟨w5.heap.size, 1, none⟩ = some (.slice aoX_ss ss.length ss.length) ∧ v.cell? ⟨w.heap.size, 0, none⟩ = some (.int .i64 sn) ∧ v.cell? ⟨w.heap.size, 1, none⟩ = some (.slice ao_ss ss.length c_ss) ∧ w8.heap.size ≤ v.heap.size ∧ Whole v w.heap.size 27 #[.int .i64 sn, .slice ao_ss ss.length c_ss] ∧ Row v w4.heap.size w5.heap.size aoX_ss (fl .f32 ss) ∧ Whole v w5.heap.size 34 #[.int .i64 sn, .slice aoX_ss ss.length ss.length] ∧ Below w.heap.size w v)
    (first | assumption | exact HK.out _ _ (by assumption) (by assumption) | exact HK.out _ _ (by assumption) ((Below.refl _ _).drew) | (refine HK.out _ _ (by assumption) ?_; (repeat (first | with_reducible exact Below.refl _ _ | with_reducible refine Below.drew ?_ | with_reducible refine Bel_drewN ?_ _ | with_reducible refine Below.alloc ?_ (by first | omega | (simp; done) | (simp; omega)) _ | with_reducible refine Below.setCell ?_ (by first | omega | (simp; done) | (simp; omega)) _)); done))
    (first | (go_at_call 18; refine (toChain_any sn ss _ _ _ (Holds.below HX_ss.out (HP.out _ (by assumption)).2.2.2) hn_ss).mono ?_; rintro e wt ⟨aoY_ss, rfl, rowY_ss, hbt⟩) | (go_at_call 22; refine (eqChain_same sn ss _ rfl _ _ _ _ _ ((HP.out _ (by assumption)).2.1.holds) (by exact rowY_ss.holds) hn_ss).mono ?_; rintro e w9 ⟨rfl, hb⟩))
  have hN := (HK.out _ _ (HK.out _ _ hR (by first | exact hbt | exact Bel_next (Below.refl _ _).drew hbt | (refine Bel_next ?_ hbt; (repeat (first | with_reducible exact Below.refl _ _ | with_reducible refine Below.drew ?_ | with_reducible refine Bel_drewN ?_ _ | with_reducible refine Below.alloc ?_ (by first | omega | (simp; done) | (simp; omega)) _ | with_reducible refine Below.setCell ?_ (by first | omega | (simp; done) | (simp; omega)) _)); done))) (by first | exact hb | exact Bel_next (Below.refl _ _).drew hb | (refine Bel_next ?_ hb; (repeat (first | with_reducible exact Below.refl _ _ | with_reducible refine Below.drew ?_ | with_reducible refine Bel_drewN ?_ _ | with_reducible refine Below.alloc ?_ (by first | omega | (simp; done) | (simp; omega)) _ | with_reducible refine Below.setCell ?_ (by first | omega | (simp; done) | (simp; omega)) _)); done)))
  have z9 : w8.heap.size ≤ w9.heap.size := hN.2.2.2.2.1
  have HS9 : Hid (Whole w9 w.heap.size 27 #[.int .i64 sn, .slice ao_ss ss.length c_ss] ∧ Row w9 w4.heap.size w5.heap.size aoX_ss (fl .f32 ss) ∧ Whole w9 w5.heap.size 34 #[.int .i64 sn, .slice aoX_ss ss.length ss.length] ∧ Below w.heap.size w w9) := Lib.hid ⟨hN.2.2.2.2.2.1, hN.2.2.2.2.2.2.1, hN.2.2.2.2.2.2.2.1, hN.2.2.2.2.2.2.2.2⟩
  clear HS8 hN hR HK HP hb hbt
  clear rowY_ss
  have hc0 := (HS9.out.1).facts.1
  have hf0 := (HS9.out.1).facts.2
  have hz0 := (HS9.out.1).lt
  have hc2 := (HS9.out.2.2.1).facts.1
  have hf2 := (HS9.out.2.2.1).facts.2
  have hz2 := (HS9.out.2.2.1).lt
  go_wp2_with fail
  clear hc0 hf0 hz0
  clear hc2 hf2 hz2
  refine (markChain_row sn 1 _ _ _ _ _ _ HS9.out.2.1 ((fl_len _ _).trans (rfl)) (by omega)).mono ?_
  rintro e w10 ⟨rfl, row, bt⟩
  have z10 : w9.heap.size ≤ w10.heap.size := bt.size
  have HS10 : Hid (Whole w10 w.heap.size 27 #[.int .i64 sn, .slice ao_ss ss.length c_ss] ∧ Row w10 w4.heap.size w5.heap.size aoX_ss (fl .f32 (fmarks 1 ss.length)) ∧ Whole w10 w5.heap.size 34 #[.int .i64 sn, .slice aoX_ss ss.length ss.length] ∧ Below w.heap.size w w10) := Lib.hid ⟨HS9.out.1.buts bt (by omega), row, HS9.out.2.2.1.buts bt (by omega), bt.bel HS9.out.2.2.2 (by omega)⟩
  clear HS9 row bt
  have hc0 := (HS10.out.1).facts.1
  have hf0 := (HS10.out.1).facts.2
  have hz0 := (HS10.out.1).lt
  have hc2 := (HS10.out.2.2.1).facts.1
  have hf2 := (HS10.out.2.2.1).facts.2
  have hz2 := (HS10.out.2.2.1).lt
  go_wp2_with fail
  clear hc0 hf0 hz0
  clear hc2 hf2 hz2
  refine (eqFloat32S_same [] 0 rfl _ _ _ _ _ (Holds.nil _ _) (Holds.nil _ _) (by omega)).mono ?_
  rintro e w11 ⟨rfl, hb⟩
  have z11 : w10.heap.size ≤ w11.heap.size := hb.size
  have HS11 : Hid (Whole w11 w.heap.size 27 #[.int .i64 sn, .slice ao_ss ss.length c_ss] ∧ Row w11 w4.heap.size w5.heap.size aoX_ss (fl .f32 (fmarks 1 ss.length)) ∧ Whole w11 w5.heap.size 34 #[.int .i64 sn, .slice aoX_ss ss.length ss.length] ∧ Below w.heap.size w w11) := Lib.hid ⟨HS10.out.1.below hb, HS10.out.2.1.below hb, HS10.out.2.2.1.below hb, Bel_next HS10.out.2.2.2 hb⟩
  clear HS10 hb
  have hc0 := (HS11.out.1).facts.1
  have hf0 := (HS11.out.1).facts.2
  have hz0 := (HS11.out.1).lt
  have hc2 := (HS11.out.2.2.1).facts.1
  have hf2 := (HS11.out.2.2.1).facts.2
  have hz2 := (HS11.out.2.2.1).lt
  go_wp2_with fail
  clear hc0 hf0 hz0
  clear hc2 hf2 hz2
  refine (markFloat32S_zero 1 _ _ _).mono ?_
  rintro e w12 ⟨rfl, hb⟩
  have z12 : w11.heap.size ≤ w12.heap.size := hb.size
  have HS12 : Hid (Whole w12 w.heap.size 27 #[.int .i64 sn, .slice ao_ss ss.length c_ss] ∧ Row w12 w4.heap.size w5.heap.size aoX_ss (fl .f32 (fmarks 1 ss.length)) ∧ Whole w12 w5.heap.size 34 #[.int .i64 sn, .slice aoX_ss ss.length ss.length] ∧ Below w.heap.size w w12) := Lib.hid ⟨HS11.out.1.below hb, HS11.out.2.1.below hb, HS11.out.2.2.1.below hb, Bel_next HS11.out.2.2.2 hb⟩
  clear HS11 hb
  have hc0 := (HS12.out.1).facts.1
  have hf0 := (HS12.out.1).facts.2
  have hz0 := (HS12.out.1).lt
  have hc2 := (HS12.out.2.2.1).facts.1
  have hf2 := (HS12.out.2.2.1).facts.2
  have hz2 := (HS12.out.2.2.1).lt
  go_wp2_with fail
  clear hc0 hf0 hz0
  clear hc2 hf2 hz2
  refine (heldFloat32S_fmarks 1 0 _ _ _ (Holds.nil _ _) (by omega)).mono ?_
  rintro e w13 ⟨rfl, hb⟩
  have z13 : w12.heap.size ≤ w13.heap.size := hb.size
  have HS13 : Hid (Whole w13 w.heap.size 27 #[.int .i64 sn, .slice ao_ss ss.length c_ss] ∧ Row w13 w4.heap.size w5.heap.size aoX_ss (fl .f32 (fmarks 1 ss.length)) ∧ Whole w13 w5.heap.size 34 #[.int .i64 sn, .slice aoX_ss ss.length ss.length] ∧ Below w.heap.size w w13) := Lib.hid ⟨HS12.out.1.below hb, HS12.out.2.1.below hb, HS12.out.2.2.1.below hb, Bel_next HS12.out.2.2.2 hb⟩
  clear HS12 hb
  have hc0 := (HS13.out.1).facts.1
  have hf0 := (HS13.out.1).facts.2
  have hz0 := (HS13.out.1).lt
  have hc2 := (HS13.out.2.2.1).facts.1
  have hf2 := (HS13.out.2.2.1).facts.2
  have hz2 := (HS13.out.2.2.1).lt
  go_wp2_with fail
  clear hc0 hf0 hz0
  clear hc2 hf2 hz2
  refine (toChain_any sn ss _ _ _ (Holds.below HX_ss.out HS13.out.2.2.2) hn_ss).mono ?_
  rintro e w14 ⟨aohc_ss, rfl, rowhc_ss, hb⟩
  have z14 : w13.heap.size ≤ w14.heap.size := hb.size
  have HS14 : Hid (Whole w14 w.heap.size 27 #[.int .i64 sn, .slice ao_ss ss.length c_ss] ∧ Row w14 w4.heap.size w5.heap.size aoX_ss (fl .f32 (fmarks 1 ss.length)) ∧ Whole w14 w5.heap.size 34 #[.int .i64 sn, .slice aoX_ss ss.length ss.length] ∧ Row w14 w13.heap.size w14.heap.size aohc_ss (fl .f32 ss) ∧ Below w.heap.size w w14) := Lib.hid ⟨HS13.out.1.below hb, HS13.out.2.1.below hb, HS13.out.2.2.1.below hb, rowhc_ss, Bel_next HS13.out.2.2.2 hb⟩
  clear HS13 hb rowhc_ss
  have hc0 := (HS14.out.1).facts.1
  have hf0 := (HS14.out.1).facts.2
  have hz0 := (HS14.out.1).lt
  have hc2 := (HS14.out.2.2.1).facts.1
  have hf2 := (HS14.out.2.2.1).facts.2
  have hz2 := (HS14.out.2.2.1).lt
  go_wp2_with fail
  clear hc0 hf0 hz0
  clear hc2 hf2 hz2
  refine (implRest_not sn ss xf tt _ rfl _ _ _ (HS14.out.2.2.2.1).holds hn_ss (Nat.le_refl _) HV.out).mono ?_
  rintro e w15 ⟨rfl, hb⟩
  have z15 : w14.heap.size ≤ w15.heap.size := hb.size
  have HS15 : Hid (Whole w15 w.heap.size 27 #[.int .i64 sn, .slice ao_ss ss.length c_ss] ∧ Row w15 w4.heap.size w5.heap.size aoX_ss (fl .f32 (fmarks 1 ss.length)) ∧ Whole w15 w5.heap.size 34 #[.int .i64 sn, .slice aoX_ss ss.length ss.length] ∧ Row w15 w13.heap.size w14.heap.size aohc_ss (fl .f32 ss) ∧ Below w.heap.size w w15) := Lib.hid ⟨HS14.out.1.below hb, HS14.out.2.1.below hb, HS14.out.2.2.1.below hb, HS14.out.2.2.2.1.below hb, Bel_next HS14.out.2.2.2.2 hb⟩
  clear HS14 hb
  have HSn : Hid (Whole w15 w.heap.size 27 #[.int .i64 sn, .slice ao_ss ss.length c_ss] ∧ Row w15 w4.heap.size w5.heap.size aoX_ss (fl .f32 (fmarks 1 ss.length)) ∧ Whole w15 w5.heap.size 34 #[.int .i64 sn, .slice aoX_ss ss.length ss.length] ∧ Below w.heap.size w w15) := Lib.hid ⟨HS15.out.1, HS15.out.2.1, HS15.out.2.2.1, HS15.out.2.2.2.2⟩
  clear HS15
  have HS15 := HSn
  clear HSn
  have hc0 := (HS15.out.1).facts.1
  have hf0 := (HS15.out.1).facts.2
  have hz0 := (HS15.out.1).lt
  have hc2 := (HS15.out.2.2.1).facts.1
  have hf2 := (HS15.out.2.2.1).facts.2
  have hz2 := (HS15.out.2.2.1).lt
  go_wp2_with fail
  clear hc0 hf0 hz0
  clear hc2 hf2 hz2
  refine (eqFloat32S_same [] 0 rfl _ _ _ _ _ (Holds.nil _ _) (Holds.nil _ _) (by omega)).mono ?_
  rintro e w16 ⟨rfl, hb⟩
  have z16 : w15.heap.size ≤ w16.heap.size := hb.size
  have HS16 : Hid (Whole w16 w.heap.size 27 #[.int .i64 sn, .slice ao_ss ss.length c_ss] ∧ Row w16 w4.heap.size w5.heap.size aoX_ss (fl .f32 (fmarks 1 ss.length)) ∧ Whole w16 w5.heap.size 34 #[.int .i64 sn, .slice aoX_ss ss.length ss.length] ∧ Below w.heap.size w w16) := Lib.hid ⟨HS15.out.1.below hb, HS15.out.2.1.below hb, HS15.out.2.2.1.below hb, Bel_next HS15.out.2.2.2 hb⟩
  clear HS15 hb
  have hc0 := (HS16.out.1).facts.1
  have hf0 := (HS16.out.1).facts.2
  have hz0 := (HS16.out.1).lt
  have hc2 := (HS16.out.2.2.1).facts.1
  have hf2 := (HS16.out.2.2.1).facts.2
  have hz2 := (HS16.out.2.2.1).lt
  go_wp2_with fail
  clear hc0 hf0 hz0
  clear hc2 hf2 hz2
  refine (heldFloat32S_fmarks 1 0 _ _ _ (Holds.nil _ _) (by omega)).mono ?_
  rintro e w17 ⟨rfl, hb⟩
  have z17 : w16.heap.size ≤ w17.heap.size := hb.size
  have HS17 : Hid (Whole w17 w.heap.size 27 #[.int .i64 sn, .slice ao_ss ss.length c_ss] ∧ Row w17 w4.heap.size w5.heap.size aoX_ss (fl .f32 (fmarks 1 ss.length)) ∧ Whole w17 w5.heap.size 34 #[.int .i64 sn, .slice aoX_ss ss.length ss.length] ∧ Below w.heap.size w w17) := Lib.hid ⟨HS16.out.1.below hb, HS16.out.2.1.below hb, HS16.out.2.2.1.below hb, Bel_next HS16.out.2.2.2 hb⟩
  clear HS16 hb
  have hc0 := (HS17.out.1).facts.1
  have hf0 := (HS17.out.1).facts.2
  have hz0 := (HS17.out.1).lt
  have hc2 := (HS17.out.2.2.1).facts.1
  have hf2 := (HS17.out.2.2.1).facts.2
  have hz2 := (HS17.out.2.2.1).lt
  go_wp2_with fail
  clear hc0 hf0 hz0
  clear hc2 hf2 hz2
  go_ret
  exact ⟨rfl, Bel_next HS17.out.2.2.2 (by repeat (first | with_reducible exact Below.refl _ _ | with_reducible refine Below.drew ?_ | with_reducible refine Bel_drewN ?_ _ | with_reducible refine Below.alloc ?_ (by first | omega | (simp; done) | (simp; omega)) _ | with_reducible refine Below.setCell ?_ (by first | omega | (simp; done) | (simp; omega)) _))⟩
end Go.Proofs.Ytgeomaeccalceaa
