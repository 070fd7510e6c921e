/- The walk of the law FnExactRingChain. -/
import Derived.Test.YtfbllggnndodoaaRiz
import Derived.Test.YtfbllggnndodoaaSChain
import Derived.Deep.RegionHeld3
import Derived.Deep.DeepCutAuto
namespace Go.Proofs.Ytfbllggnndodoaa
open Go Go.RowKit Fl
set_option linter.unusedVariables false

set_option maxRecDepth 100000 in
set_option maxHeartbeats 20000000 in
theorem FnExactRingChain_walk (sn : Int) (h_sn : (Lit.int .i64 sn).wf = true) (st : Nat) (h_st : (Lit.float .f32 st).wf = true) (ri : Nat) (h_ri : (Lit.float .f32 ri).wf = true) (w : World)  :
    Calls Try.prog 5 #[.int .i64 sn, .float .f32 st, .float .f32 ri] w fun e w' => e = .returned (.bool true) ∧ Below w.heap.size w w' := by
  by_cases hv0 : rinC sn st ri
  · have HV := Lib.hid hv0
    clear hv0
    obtain ⟨mm, hmm⟩ : ∃ m, m = sn.toNat * sn.toNat := ⟨_, rfl⟩
    have hq0 := sq_le (n := sn.toNat) (by have := HV.out.1; omega)
    have hq1 : mm ≤ 1048576 := by rw [hmm]; omega
    have HMM := Lib.hid hmm
    clear hq0 hmm
    go_enter Try.func5, Try.ntmps5
    have HS0 : Hid (Below w.heap.size w w) := Lib.hid (Below.refl _ _)
    go_wp2_with fail
    refine (specRin_is sn mm st ri _ HMM.out HV.out).mono ?_
    rintro e w1 ⟨aos, ccs, rfl, rows, hb⟩
    have z1 : w.heap.size ≤ w1.heap.size := hb.size
    have HS1 : Hid (Row w1 w.heap.size w1.heap.size aos (fl .f32 (canL mm (rinG sn.toNat st ri))) ∧ Below w.heap.size w w1) := Lib.hid ⟨rows, Bel_next HS0.out hb⟩
    clear HS0 hb rows
    have HSn : Hid (Row w1 w.heap.size w1.heap.size aos (fl .f32 (canL mm (rinG sn.toNat st ri))) ∧ Below w.heap.size w w1) := Lib.hid ⟨HS1.out.1, HS1.out.2⟩
    clear HS1
    have HS1 := HSn
    clear HSn
    go_wp2_with fail
    generalize hW : World.alloc w1 _ = w2
    have hb : Below w1.heap.size w1 w2 := by rw [← hW]; exact (by repeat (first | with_reducible exact Below.refl _ _ | with_reducible refine Below.drew ?_ | with_reducible refine Bel_drewN ?_ _ | with_reducible refine Below.alloc ?_ (by first | omega | (simp; done) | (simp; omega)) _ | with_reducible refine Below.setCell ?_ (by first | omega | (simp; done) | (simp; omega)) _))
    have z2 : w1.heap.size + 1 ≤ w2.heap.size := by rw [← hW]; simp
    have HS2 : Hid (Row w2 w.heap.size w1.heap.size aos (fl .f32 (canL mm (rinG sn.toNat st ri))) ∧ Whole w2 w1.heap.size 27 #[.int .i64 sn, .slice aos mm ccs] ∧ Below w.heap.size w w2) := Lib.hid ⟨HS1.out.1.below hb, by rw [← hW]; exact Whole.made _ _ _, Bel_next HS1.out.2 hb⟩
    clear HS1 hW hb
    refine (implRin_is sn mm st ri _ HMM.out HV.out).mono ?_
    rintro e w3 ⟨aog, ccg, rfl, rowg, hb⟩
    have z3 : w2.heap.size ≤ w3.heap.size := hb.size
    have HS3 : Hid (Row w3 w.heap.size w1.heap.size aos (fl .f32 (canL mm (rinG sn.toNat st ri))) ∧ Whole w3 w1.heap.size 27 #[.int .i64 sn, .slice aos mm ccs] ∧ Row w3 w2.heap.size w3.heap.size aog (fl .f32 (canL mm (rinG sn.toNat st ri))) ∧ Below w.heap.size w w3) := Lib.hid ⟨HS2.out.1.below hb, HS2.out.2.1.below hb, rowg, Bel_next HS2.out.2.2 hb⟩
    clear HS2 hb rowg
    have HSn : Hid (Row w3 w.heap.size w1.heap.size aos (fl .f32 (canL mm (rinG sn.toNat st ri))) ∧ Whole w3 w1.heap.size 27 #[.int .i64 sn, .slice aos mm ccs] ∧ Row w3 w2.heap.size w3.heap.size aog (fl .f32 (canL mm (rinG sn.toNat st ri))) ∧ Below w.heap.size w w3) := Lib.hid ⟨HS3.out.1, HS3.out.2.1, HS3.out.2.2.1, HS3.out.2.2.2⟩
    clear HS3
    have HS3 := HSn
    clear HSn
    have hc1 := (HS3.out.2.1).facts.1
    have hf1 := (HS3.out.2.1).facts.2
    have hz1 := (HS3.out.2.1).lt
    go_wp2_with fail
    clear hc1 hf1 hz1
    generalize hW : World.alloc w3 _ = w4
    have hb : Below w3.heap.size w3 w4 := by rw [← hW]; exact (by repeat (first | with_reducible exact Below.refl _ _ | with_reducible refine Below.drew ?_ | with_reducible refine Bel_drewN ?_ _ | with_reducible refine Below.alloc ?_ (by first | omega | (simp; done) | (simp; omega)) _ | with_reducible refine Below.setCell ?_ (by first | omega | (simp; done) | (simp; omega)) _))
    have z4 : w3.heap.size + 1 ≤ w4.heap.size := by rw [← hW]; simp
    have HS4 : Hid (Row w4 w.heap.size w1.heap.size aos (fl .f32 (canL mm (rinG sn.toNat st ri))) ∧ Whole w4 w1.heap.size 27 #[.int .i64 sn, .slice aos mm ccs] ∧ Row w4 w2.heap.size w3.heap.size aog (fl .f32 (canL mm (rinG sn.toNat st ri))) ∧ Whole w4 w3.heap.size 27 #[.int .i64 sn, .slice aog mm ccg] ∧ Below w.heap.size w w4) := Lib.hid ⟨HS3.out.1.below hb, HS3.out.2.1.below hb, HS3.out.2.2.1.below hb, by rw [← hW]; exact Whole.made _ _ _, Bel_next HS3.out.2.2.2 hb⟩
    clear HS3 hW hb
    refine (eqChain_same (sn) (canL mm (rinG sn.toNat st ri)) (mm) (canL_len _ _) _ _ _ _ _ HS4.out.2.2.1.holds HS4.out.1.holds (by omega)).mono ?_
    rintro e w5 ⟨rfl, hb⟩
    have z5 : w4.heap.size ≤ w5.heap.size := hb.size
    have HS5 : Hid (Row w5 w.heap.size w1.heap.size aos (fl .f32 (canL mm (rinG sn.toNat st ri))) ∧ Whole w5 w1.heap.size 27 #[.int .i64 sn, .slice aos mm ccs] ∧ Row w5 w2.heap.size w3.heap.size aog (fl .f32 (canL mm (rinG sn.toNat st ri))) ∧ Whole w5 w3.heap.size 27 #[.int .i64 sn, .slice aog mm ccg] ∧ Below w.heap.size w w5) := Lib.hid ⟨HS4.out.1.below hb, HS4.out.2.1.below hb, HS4.out.2.2.1.below hb, HS4.out.2.2.2.1.below hb, Bel_next HS4.out.2.2.2.2 hb⟩
    clear HS4 hb
    have hc1 := (HS5.out.2.1).facts.1
    have hf1 := (HS5.out.2.1).facts.2
    have hz1 := (HS5.out.2.1).lt
    have hc3 := (HS5.out.2.2.2.1).facts.1
    have hf3 := (HS5.out.2.2.2.1).facts.2
    have hz3 := (HS5.out.2.2.2.1).lt
    go_wp2_with fail
    clear hc1 hf1 hz1
    clear hc3 hf3 hz3
    refine (markChain_row (sn) 1 _ _ _ _ _ _ HS5.out.2.2.1 ((fl_len _ _).trans (canL_len _ _)) (by omega)).mono ?_
    rintro e w6 ⟨rfl, row, bt⟩
    have z6 : w5.heap.size ≤ w6.heap.size := bt.size
    have HS6 : Hid (Row w6 w.heap.size w1.heap.size aos (fl .f32 (canL mm (rinG sn.toNat st ri))) ∧ Whole w6 w1.heap.size 27 #[.int .i64 sn, .slice aos mm ccs] ∧ Row w6 w2.heap.size w3.heap.size aog (fl .f32 (fmarks 1 mm)) ∧ Whole w6 w3.heap.size 27 #[.int .i64 sn, .slice aog mm ccg] ∧ Below w.heap.size w w6) := Lib.hid ⟨HS5.out.1.but bt (by omega), HS5.out.2.1.buts bt (by omega), row, HS5.out.2.2.2.1.buts bt (by omega), bt.bel HS5.out.2.2.2.2 (by omega)⟩
    clear HS5 row bt
    have hc1 := (HS6.out.2.1).facts.1
    have hf1 := (HS6.out.2.1).facts.2
    have hz1 := (HS6.out.2.1).lt
    have hc3 := (HS6.out.2.2.2.1).facts.1
    have hf3 := (HS6.out.2.2.2.1).facts.2
    have hz3 := (HS6.out.2.2.2.1).lt
    go_wp2_with fail
    clear hc1 hf1 hz1
    clear hc3 hf3 hz3
    refine (heldChain_marks (sn) 1 (mm) _ _ _ HS6.out.2.2.1.holds (by omega)).mono ?_
    rintro e w7 ⟨rfl, hb⟩
    have z7 : w6.heap.size ≤ w7.heap.size := hb.size
    have HS7 : Hid (Row w7 w.heap.size w1.heap.size aos (fl .f32 (canL mm (rinG sn.toNat st ri))) ∧ Whole w7 w1.heap.size 27 #[.int .i64 sn, .slice aos mm ccs] ∧ Row w7 w2.heap.size w3.heap.size aog (fl .f32 (fmarks 1 mm)) ∧ Whole w7 w3.heap.size 27 #[.int .i64 sn, .slice aog mm ccg] ∧ Below w.heap.size w w7) := Lib.hid ⟨HS6.out.1.below hb, HS6.out.2.1.below hb, HS6.out.2.2.1.below hb, HS6.out.2.2.2.1.below hb, Bel_next HS6.out.2.2.2.2 hb⟩
    clear HS6 hb
    have hc1 := (HS7.out.2.1).facts.1
    have hf1 := (HS7.out.2.1).facts.2
    have hz1 := (HS7.out.2.1).lt
    have hc3 := (HS7.out.2.2.2.1).facts.1
    have hf3 := (HS7.out.2.2.2.1).facts.2
    have hz3 := (HS7.out.2.2.2.1).lt
    go_wp2_with fail
    clear hc1 hf1 hz1
    clear hc3 hf3 hz3
    refine (implRin_is sn mm st ri _ HMM.out HV.out).mono ?_
    rintro e w8 ⟨aoh, cch, rfl, rowh, hb⟩
    have z8 : w7.heap.size ≤ w8.heap.size := hb.size
    have HS8 : Hid (Row w8 w.heap.size w1.heap.size aos (fl .f32 (canL mm (rinG sn.toNat st ri))) ∧ Whole w8 w1.heap.size 27 #[.int .i64 sn, .slice aos mm ccs] ∧ Row w8 w2.heap.size w3.heap.size aog (fl .f32 (fmarks 1 mm)) ∧ Whole w8 w3.heap.size 27 #[.int .i64 sn, .slice aog mm ccg] ∧ Row w8 w7.heap.size w8.heap.size aoh (fl .f32 (canL mm (rinG sn.toNat st ri))) ∧ Below w.heap.size w w8) := Lib.hid ⟨HS7.out.1.below hb, HS7.out.2.1.below hb, HS7.out.2.2.1.below hb, HS7.out.2.2.2.1.below hb, rowh, Bel_next HS7.out.2.2.2.2 hb⟩
    clear HS7 hb rowh
    have HSn : Hid (Row w8 w.heap.size w1.heap.size aos (fl .f32 (canL mm (rinG sn.toNat st ri))) ∧ Whole w8 w1.heap.size 27 #[.int .i64 sn, .slice aos mm ccs] ∧ Row w8 w2.heap.size w3.heap.size aog (fl .f32 (fmarks 1 mm)) ∧ Whole w8 w3.heap.size 27 #[.int .i64 sn, .slice aog mm ccg] ∧ Row w8 w7.heap.size w8.heap.size aoh (fl .f32 (canL mm (rinG sn.toNat st ri))) ∧ Below w.heap.size w w8) := Lib.hid ⟨HS8.out.1, HS8.out.2.1, HS8.out.2.2.1, HS8.out.2.2.2.1, HS8.out.2.2.2.2.1, HS8.out.2.2.2.2.2⟩
    clear HS8
    have HS8 := HSn
    clear HSn
    have hc1 := (HS8.out.2.1).facts.1
    have hf1 := (HS8.out.2.1).facts.2
    have hz1 := (HS8.out.2.1).lt
    have hc3 := (HS8.out.2.2.2.1).facts.1
    have hf3 := (HS8.out.2.2.2.1).facts.2
    have hz3 := (HS8.out.2.2.2.1).lt
    go_wp2_with fail
    clear hc1 hf1 hz1
    clear hc3 hf3 hz3
    generalize hW : World.alloc w8 _ = w9
    have hb : Below w8.heap.size w8 w9 := by rw [← hW]; exact (by repeat (first | with_reducible exact Below.refl _ _ | with_reducible refine Below.drew ?_ | with_reducible refine Bel_drewN ?_ _ | with_reducible refine Below.alloc ?_ (by first | omega | (simp; done) | (simp; omega)) _ | with_reducible refine Below.setCell ?_ (by first | omega | (simp; done) | (simp; omega)) _))
    have z9 : w8.heap.size + 1 ≤ w9.heap.size := by rw [← hW]; simp
    have HS9 : Hid (Row w9 w.heap.size w1.heap.size aos (fl .f32 (canL mm (rinG sn.toNat st ri))) ∧ Whole w9 w1.heap.size 27 #[.int .i64 sn, .slice aos mm ccs] ∧ Row w9 w2.heap.size w3.heap.size aog (fl .f32 (fmarks 1 mm)) ∧ Whole w9 w3.heap.size 27 #[.int .i64 sn, .slice aog mm ccg] ∧ Row w9 w7.heap.size w8.heap.size aoh (fl .f32 (canL mm (rinG sn.toNat st ri))) ∧ Whole w9 w8.heap.size 27 #[.int .i64 sn, .slice aoh mm cch] ∧ Below w.heap.size w w9) := Lib.hid ⟨HS8.out.1.below hb, HS8.out.2.1.below hb, HS8.out.2.2.1.below hb, HS8.out.2.2.2.1.below hb, HS8.out.2.2.2.2.1.below hb, by rw [← hW]; exact Whole.made _ _ _, Bel_next HS8.out.2.2.2.2.2 hb⟩
    clear HS8 hW hb
    refine (eqChain_same (sn) (canL mm (rinG sn.toNat st ri)) (mm) (canL_len _ _) _ _ _ _ _ HS9.out.2.2.2.2.1.holds HS9.out.1.holds (by omega)).mono ?_
    rintro e w10 ⟨rfl, hb⟩
    have z10 : w9.heap.size ≤ w10.heap.size := hb.size
    have HS10 : Hid (Row w10 w.heap.size w1.heap.size aos (fl .f32 (canL mm (rinG sn.toNat st ri))) ∧ Whole w10 w1.heap.size 27 #[.int .i64 sn, .slice aos mm ccs] ∧ Row w10 w2.heap.size w3.heap.size aog (fl .f32 (fmarks 1 mm)) ∧ Whole w10 w3.heap.size 27 #[.int .i64 sn, .slice aog mm ccg] ∧ Row w10 w7.heap.size w8.heap.size aoh (fl .f32 (canL mm (rinG sn.toNat st ri))) ∧ Whole w10 w8.heap.size 27 #[.int .i64 sn, .slice aoh mm cch] ∧ Below w.heap.size w w10) := Lib.hid ⟨HS9.out.1.below hb, HS9.out.2.1.below hb, HS9.out.2.2.1.below hb, HS9.out.2.2.2.1.below hb, HS9.out.2.2.2.2.1.below hb, HS9.out.2.2.2.2.2.1.below hb, Bel_next HS9.out.2.2.2.2.2.2 hb⟩
    clear HS9 hb
    have hc1 := (HS10.out.2.1).facts.1
    have hf1 := (HS10.out.2.1).facts.2
    have hz1 := (HS10.out.2.1).lt
    have hc3 := (HS10.out.2.2.2.1).facts.1
    have hf3 := (HS10.out.2.2.2.1).facts.2
    have hz3 := (HS10.out.2.2.2.1).lt
    have hc5 := (HS10.out.2.2.2.2.2.1).facts.1
    have hf5 := (HS10.out.2.2.2.2.2.1).facts.2
    have hz5 := (HS10.out.2.2.2.2.2.1).lt
    go_wp2_with fail
    clear hc1 hf1 hz1
    clear hc3 hf3 hz3
    clear hc5 hf5 hz5
    refine (heldChain_marks (sn) 1 (mm) _ _ _ HS10.out.2.2.1.holds (by omega)).mono ?_
    rintro e w11 ⟨rfl, hb⟩
    have z11 : w10.heap.size ≤ w11.heap.size := hb.size
    have HS11 : Hid (Row w11 w.heap.size w1.heap.size aos (fl .f32 (canL mm (rinG sn.toNat st ri))) ∧ Whole w11 w1.heap.size 27 #[.int .i64 sn, .slice aos mm ccs] ∧ Row w11 w2.heap.size w3.heap.size aog (fl .f32 (fmarks 1 mm)) ∧ Whole w11 w3.heap.size 27 #[.int .i64 sn, .slice aog mm ccg] ∧ Row w11 w7.heap.size w8.heap.size aoh (fl .f32 (canL mm (rinG sn.toNat st ri))) ∧ Whole w11 w8.heap.size 27 #[.int .i64 sn, .slice aoh mm cch] ∧ Below w.heap.size w w11) := Lib.hid ⟨HS10.out.1.below hb, HS10.out.2.1.below hb, HS10.out.2.2.1.below hb, HS10.out.2.2.2.1.below hb, HS10.out.2.2.2.2.1.below hb, HS10.out.2.2.2.2.2.1.below hb, Bel_next HS10.out.2.2.2.2.2.2 hb⟩
    clear HS10 hb
    have hc1 := (HS11.out.2.1).facts.1
    have hf1 := (HS11.out.2.1).facts.2
    have hz1 := (HS11.out.2.1).lt
    have hc3 := (HS11.out.2.2.2.1).facts.1
    have hf3 := (HS11.out.2.2.2.1).facts.2
    have hz3 := (HS11.out.2.2.2.1).lt
    have hc5 := (HS11.out.2.2.2.2.2.1).facts.1
    have hf5 := (HS11.out.2.2.2.2.2.1).facts.2
    have hz5 := (HS11.out.2.2.2.2.2.1).lt
    go_wp2_with fail
    clear hc1 hf1 hz1
    clear hc3 hf3 hz3
    clear hc5 hf5 hz5
    go_ret
    exact ⟨rfl, Bel_next HS11.out.2.2.2.2.2.2 (by repeat (first | with_reducible exact Below.refl _ _ | with_reducible refine Below.drew ?_ | with_reducible refine Bel_drewN ?_ _ | with_reducible refine Below.alloc ?_ (by first | omega | (simp; done) | (simp; omega)) _ | with_reducible refine Below.setCell ?_ (by first | omega | (simp; done) | (simp; omega)) _))⟩
  have HV := Lib.hid hv0
  clear hv0
  go_enter Try.func5, Try.ntmps5
  have HS0 : Hid (Below w.heap.size w w) := Lib.hid (Below.refl _ _)
  go_wp2_with fail
  refine (specRin_isnot sn st ri _ HV.out).mono ?_
  rintro e w1 ⟨rfl, hb⟩
  have z1 : w.heap.size ≤ w1.heap.size := hb.size
  have HS1 : Hid (Below w.heap.size w w1) := Lib.hid (Bel_next HS0.out hb)
  clear HS0 hb
  have HSn : Hid (Below w.heap.size w w1) := Lib.hid (HS1.out)
  clear HS1
  have HS1 := HSn
  clear HSn
  go_wp2_with fail
  generalize hW : World.alloc w1 _ = w2
  have hb : Below w1.heap.size w1 w2 := by rw [← hW]; exact (by repeat (first | with_reducible exact Below.refl _ _ | with_reducible refine Below.drew ?_ | with_reducible refine Bel_drewN ?_ _ | with_reducible refine Below.alloc ?_ (by first | omega | (simp; done) | (simp; omega)) _ | with_reducible refine Below.setCell ?_ (by first | omega | (simp; done) | (simp; omega)) _))
  have z2 : w1.heap.size + 1 ≤ w2.heap.size := by rw [← hW]; simp
  have HS2 : Hid (Whole w2 w1.heap.size 27 #[.int .i64 0, .slice none 0 0] ∧ Below w.heap.size w w2) := Lib.hid ⟨by rw [← hW]; exact Whole.made _ _ _, Bel_next HS1.out hb⟩
  clear HS1 hW hb
  refine (implRin_isnot sn st ri _ HV.out).mono ?_
  rintro e w3 ⟨rfl, hb⟩
  have z3 : w2.heap.size ≤ w3.heap.size := hb.size
  have HS3 : Hid (Whole w3 w1.heap.size 27 #[.int .i64 0, .slice none 0 0] ∧ Below w.heap.size w w3) := Lib.hid ⟨HS2.out.1.below hb, Bel_next HS2.out.2 hb⟩
  clear HS2 hb
  have HSn : Hid (Whole w3 w1.heap.size 27 #[.int .i64 0, .slice none 0 0] ∧ Below w.heap.size w w3) := Lib.hid ⟨HS3.out.1, HS3.out.2⟩
  clear HS3
  have HS3 := HSn
  clear HSn
  have hc0 := (HS3.out.1).facts.1
  have hf0 := (HS3.out.1).facts.2
  have hz0 := (HS3.out.1).lt
  go_wp2_with fail
  clear hc0 hf0 hz0
  generalize hW : World.alloc w3 _ = w4
  have hb : Below w3.heap.size w3 w4 := by rw [← hW]; exact (by repeat (first | with_reducible exact Below.refl _ _ | with_reducible refine Below.drew ?_ | with_reducible refine Bel_drewN ?_ _ | with_reducible refine Below.alloc ?_ (by first | omega | (simp; done) | (simp; omega)) _ | with_reducible refine Below.setCell ?_ (by first | omega | (simp; done) | (simp; omega)) _))
  have z4 : w3.heap.size + 1 ≤ w4.heap.size := by rw [← hW]; simp
  have HS4 : Hid (Whole w4 w1.heap.size 27 #[.int .i64 0, .slice none 0 0] ∧ Whole w4 w3.heap.size 27 #[.int .i64 0, .slice none 0 0] ∧ Below w.heap.size w w4) := Lib.hid ⟨HS3.out.1.below hb, by rw [← hW]; exact Whole.made _ _ _, Bel_next HS3.out.2 hb⟩
  clear HS3 hW hb
  refine (eqChain_same (0) [] 0 rfl _ _ _ _ _ (Holds.nil _ _) (Holds.nil _ _) (by omega)).mono ?_
  rintro e w5 ⟨rfl, hb⟩
  have z5 : w4.heap.size ≤ w5.heap.size := hb.size
  have HS5 : Hid (Whole w5 w1.heap.size 27 #[.int .i64 0, .slice none 0 0] ∧ Whole w5 w3.heap.size 27 #[.int .i64 0, .slice none 0 0] ∧ Below w.heap.size w w5) := Lib.hid ⟨HS4.out.1.below hb, HS4.out.2.1.below hb, Bel_next HS4.out.2.2 hb⟩
  clear HS4 hb
  have hc0 := (HS5.out.1).facts.1
  have hf0 := (HS5.out.1).facts.2
  have hz0 := (HS5.out.1).lt
  have hc1 := (HS5.out.2.1).facts.1
  have hf1 := (HS5.out.2.1).facts.2
  have hz1 := (HS5.out.2.1).lt
  go_wp2_with fail
  clear hc0 hf0 hz0
  clear hc1 hf1 hz1
  refine (markChain_zero (0) 1 _ _ _).mono ?_
  rintro e w6 ⟨rfl, hb⟩
  have z6 : w5.heap.size ≤ w6.heap.size := hb.size
  have HS6 : Hid (Whole w6 w1.heap.size 27 #[.int .i64 0, .slice none 0 0] ∧ Whole w6 w3.heap.size 27 #[.int .i64 0, .slice none 0 0] ∧ Below w.heap.size w w6) := Lib.hid ⟨HS5.out.1.below hb, HS5.out.2.1.below hb, Bel_next HS5.out.2.2 hb⟩
  clear HS5 hb
  have hc0 := (HS6.out.1).facts.1
  have hf0 := (HS6.out.1).facts.2
  have hz0 := (HS6.out.1).lt
  have hc1 := (HS6.out.2.1).facts.1
  have hf1 := (HS6.out.2.1).facts.2
  have hz1 := (HS6.out.2.1).lt
  go_wp2_with fail
  clear hc0 hf0 hz0
  clear hc1 hf1 hz1
  refine (heldChain_marks (0) 1 (0) _ _ _ (Holds.nil _ _) (by omega)).mono ?_
  rintro e w7 ⟨rfl, hb⟩
  have z7 : w6.heap.size ≤ w7.heap.size := hb.size
  have HS7 : Hid (Whole w7 w1.heap.size 27 #[.int .i64 0, .slice none 0 0] ∧ Whole w7 w3.heap.size 27 #[.int .i64 0, .slice none 0 0] ∧ Below w.heap.size w w7) := Lib.hid ⟨HS6.out.1.below hb, HS6.out.2.1.below hb, Bel_next HS6.out.2.2 hb⟩
  clear HS6 hb
  have hc0 := (HS7.out.1).facts.1
  have hf0 := (HS7.out.1).facts.2
  have hz0 := (HS7.out.1).lt
  have hc1 := (HS7.out.2.1).facts.1
  have hf1 := (HS7.out.2.1).facts.2
  have hz1 := (HS7.out.2.1).lt
  go_wp2_with fail
  clear hc0 hf0 hz0
  clear hc1 hf1 hz1
  refine (implRin_isnot sn st ri _ HV.out).mono ?_
  rintro e w8 ⟨rfl, hb⟩
  have z8 : w7.heap.size ≤ w8.heap.size := hb.size
  have HS8 : Hid (Whole w8 w1.heap.size 27 #[.int .i64 0, .slice none 0 0] ∧ Whole w8 w3.heap.size 27 #[.int .i64 0, .slice none 0 0] ∧ Below w.heap.size w w8) := Lib.hid ⟨HS7.out.1.below hb, HS7.out.2.1.below hb, Bel_next HS7.out.2.2 hb⟩
  clear HS7 hb
  have HSn : Hid (Whole w8 w1.heap.size 27 #[.int .i64 0, .slice none 0 0] ∧ Whole w8 w3.heap.size 27 #[.int .i64 0, .slice none 0 0] ∧ Below w.heap.size w w8) := Lib.hid ⟨HS8.out.1, HS8.out.2.1, HS8.out.2.2⟩
  clear HS8
  have HS8 := HSn
  clear HSn
  have hc0 := (HS8.out.1).facts.1
  have hf0 := (HS8.out.1).facts.2
  have hz0 := (HS8.out.1).lt
  have hc1 := (HS8.out.2.1).facts.1
  have hf1 := (HS8.out.2.1).facts.2
  have hz1 := (HS8.out.2.1).lt
  go_wp2_with fail
  clear hc0 hf0 hz0
  clear hc1 hf1 hz1
  generalize hW : World.alloc w8 _ = w9
  have hb : Below w8.heap.size w8 w9 := by rw [← hW]; exact (by repeat (first | with_reducible exact Below.refl _ _ | with_reducible refine Below.drew ?_ | with_reducible refine Bel_drewN ?_ _ | with_reducible refine Below.alloc ?_ (by first | omega | (simp; done) | (simp; omega)) _ | with_reducible refine Below.setCell ?_ (by first | omega | (simp; done) | (simp; omega)) _))
  have z9 : w8.heap.size + 1 ≤ w9.heap.size := by rw [← hW]; simp
  have HS9 : Hid (Whole w9 w1.heap.size 27 #[.int .i64 0, .slice none 0 0] ∧ Whole w9 w3.heap.size 27 #[.int .i64 0, .slice none 0 0] ∧ Whole w9 w8.heap.size 27 #[.int .i64 0, .slice none 0 0] ∧ Below w.heap.size w w9) := Lib.hid ⟨HS8.out.1.below hb, HS8.out.2.1.below hb, by rw [← hW]; exact Whole.made _ _ _, Bel_next HS8.out.2.2 hb⟩
  clear HS8 hW hb
  refine (eqChain_same (0) [] 0 rfl _ _ _ _ _ (Holds.nil _ _) (Holds.nil _ _) (by omega)).mono ?_
  rintro e w10 ⟨rfl, hb⟩
  have z10 : w9.heap.size ≤ w10.heap.size := hb.size
  have HS10 : Hid (Whole w10 w1.heap.size 27 #[.int .i64 0, .slice none 0 0] ∧ Whole w10 w3.heap.size 27 #[.int .i64 0, .slice none 0 0] ∧ Whole w10 w8.heap.size 27 #[.int .i64 0, .slice none 0 0] ∧ Below w.heap.size w w10) := Lib.hid ⟨HS9.out.1.below hb, HS9.out.2.1.below hb, HS9.out.2.2.1.below hb, Bel_next HS9.out.2.2.2 hb⟩
  clear HS9 hb
  have hc0 := (HS10.out.1).facts.1
  have hf0 := (HS10.out.1).facts.2
  have hz0 := (HS10.out.1).lt
  have hc1 := (HS10.out.2.1).facts.1
  have hf1 := (HS10.out.2.1).facts.2
  have hz1 := (HS10.out.2.1).lt
  have hc2 := (HS10.out.2.2.1).facts.1
  have hf2 := (HS10.out.2.2.1).facts.2
  have hz2 := (HS10.out.2.2.1).lt
  go_wp2_with fail
  clear hc0 hf0 hz0
  clear hc1 hf1 hz1
  clear hc2 hf2 hz2
  refine (heldChain_marks (0) 1 (0) _ _ _ (Holds.nil _ _) (by omega)).mono ?_
  rintro e w11 ⟨rfl, hb⟩
  have z11 : w10.heap.size ≤ w11.heap.size := hb.size
  have HS11 : Hid (Whole w11 w1.heap.size 27 #[.int .i64 0, .slice none 0 0] ∧ Whole w11 w3.heap.size 27 #[.int .i64 0, .slice none 0 0] ∧ Whole w11 w8.heap.size 27 #[.int .i64 0, .slice none 0 0] ∧ Below w.heap.size w w11) := Lib.hid ⟨HS10.out.1.below hb, HS10.out.2.1.below hb, HS10.out.2.2.1.below hb, Bel_next HS10.out.2.2.2 hb⟩
  clear HS10 hb
  have hc0 := (HS11.out.1).facts.1
  have hf0 := (HS11.out.1).facts.2
  have hz0 := (HS11.out.1).lt
  have hc1 := (HS11.out.2.1).facts.1
  have hf1 := (HS11.out.2.1).facts.2
  have hz1 := (HS11.out.2.1).lt
  have hc2 := (HS11.out.2.2.1).facts.1
  have hf2 := (HS11.out.2.2.1).facts.2
  have hz2 := (HS11.out.2.2.1).lt
  go_wp2_with fail
  clear hc0 hf0 hz0
  clear hc1 hf1 hz1
  clear hc2 hf2 hz2
  go_ret
  exact ⟨rfl, Bel_next HS11.out.2.2.2 (by repeat (first | with_reducible exact Below.refl _ _ | with_reducible refine Below.drew ?_ | with_reducible refine Bel_drewN ?_ _ | with_reducible refine Below.alloc ?_ (by first | omega | (simp; done) | (simp; omega)) _ | with_reducible refine Below.setCell ?_ (by first | omega | (simp; done) | (simp; omega)) _))⟩
end Go.Proofs.Ytfbllggnndodoaa
