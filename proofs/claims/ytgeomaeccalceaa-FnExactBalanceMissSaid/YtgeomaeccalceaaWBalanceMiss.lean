/- The walk of the law FnExactBalanceMiss. -/
import Derived.Test.YtgeomaeccalceaaBmw
import Derived.Test.YtgeomaeccalceaaSChain
import Derived.Test.YtgeomaeccalceaaFq
import Derived.Deep.RegionHeld3
import Derived.Deep.DeepCutAuto
namespace Go.Proofs.Ytgeomaeccalceaa
open Go Go.RowKit Fl
set_option linter.unusedVariables false

set_option maxRecDepth 100000 in
set_option maxHeartbeats 20000000 in
theorem FnExactBalanceMiss_walk (sn : Int) (h_sn : (Lit.int .i64 sn).wf = true) (ss : List Nat) (ao_ss : Option Addr) (c_ss : Nat) (m_ss : ss.length ≤ 9223372036854775807) (xs : List Nat) (ao_xs : Option Addr) (c_xs : Nat) (w : World) (hx_ss : Holds w ao_ss (fl .f32 ss)) (hx_xs : Holds w ao_xs (fl .f32 xs)) :
    Calls Try.prog 7 #[.agg #[.int .i64 sn, .slice ao_ss ss.length c_ss], .slice ao_xs xs.length c_xs] w fun e w' => e = .returned (.bool true) ∧ Below w.heap.size w w' := by
  by_cases hp0 : 1048576 < xs.length
  case pos =>
    have hl : (1048576 : Int) < (xs.length : Int) := by omega
    clear hp0
    go_enter Try.func7, Try.ntmps7
    have HS0 : Hid (Below w.heap.size w w) := Lib.hid (Below.refl _ _)
    go_wp2
    go_ret
    exact ⟨rfl, (by repeat (first | with_reducible exact Below.refl _ _ | with_reducible refine Below.drew ?_ | with_reducible refine Bel_drewN ?_ _ | with_reducible refine Below.alloc ?_ (by first | omega | (simp; done) | (simp; omega)) _ | with_reducible refine Below.setCell ?_ (by first | omega | (simp; done) | (simp; omega)) _))⟩
  have hs0 : (xs.length : Int) ≤ 1048576 := by omega
  have hn_xs : xs.length ≤ 1048576 := by omega
  clear hp0
  by_cases hl0 : ss.length ≤ 1048576
  case neg =>
    have HL0 := Lib.hid hl0
    clear hl0
    go_enter Try.func7, Try.ntmps7
    have HS0 : Hid (Below w.heap.size w w) := Lib.hid (Below.refl _ _)
    go_wp2_with fail
    generalize hW : World.alloc w _ = w1
    have hb : Below w.heap.size w w1 := by rw [← hW]; exact (by repeat (first | with_reducible exact Below.refl _ _ | with_reducible refine Below.drew ?_ | with_reducible refine Bel_drewN ?_ _ | with_reducible refine Below.alloc ?_ (by first | omega | (simp; done) | (simp; omega)) _ | with_reducible refine Below.setCell ?_ (by first | omega | (simp; done) | (simp; omega)) _))
    have z1 : w.heap.size + 1 ≤ w1.heap.size := by rw [← hW]; simp
    have HS1 : Hid (Whole w1 w.heap.size 27 #[.int .i64 sn, .slice ao_ss ss.length c_ss] ∧ Below w.heap.size w w1) := Lib.hid ⟨by rw [← hW]; exact Whole.made _ _ _, Bel_next HS0.out hb⟩
    clear HS0 hW hb
    refine (szChain_no sn ss _ _ (1048576) _ HL0.out (by omega) m_ss).mono ?_
    rintro e w2 ⟨rfl, hb⟩
    have z2 : w1.heap.size ≤ w2.heap.size := hb.size
    have HS2 : Hid (Whole w2 w.heap.size 27 #[.int .i64 sn, .slice ao_ss ss.length c_ss] ∧ Below w.heap.size w w2) := Lib.hid ⟨HS1.out.1.below hb, Bel_next HS1.out.2 hb⟩
    clear HS1 hb
    have hc0 := (HS2.out.1).facts.1
    have hf0 := (HS2.out.1).facts.2
    have hz0 := (HS2.out.1).lt
    go_wp2_with fail
    clear hc0 hf0 hz0
    go_ret
    exact ⟨rfl, Bel_next HS2.out.2 (by repeat (first | with_reducible exact Below.refl _ _ | with_reducible refine Below.drew ?_ | with_reducible refine Bel_drewN ?_ _ | with_reducible refine Below.alloc ?_ (by first | omega | (simp; done) | (simp; omega)) _ | with_reducible refine Below.setCell ?_ (by first | omega | (simp; done) | (simp; omega)) _))⟩
  have HL0 := Lib.hid hl0
  have hn_ss : ss.length ≤ 1048576 := by omega
  clear hl0
  have HX_ss := Lib.hid hx_ss
  clear hx_ss
  have HX_xs := Lib.hid hx_xs
  clear hx_xs
  by_cases hv0 : fits sn ss xs
  · have HV := Lib.hid hv0
    clear hv0
    go_enter Try.func7, Try.ntmps7
    have HS0 : Hid (Below w.heap.size w w) := Lib.hid (Below.refl _ _)
    go_wp2_with fail
    generalize hW : World.alloc w _ = w1
    have hb : Below w.heap.size w w1 := by rw [← hW]; exact (by repeat (first | with_reducible exact Below.refl _ _ | with_reducible refine Below.drew ?_ | with_reducible refine Bel_drewN ?_ _ | with_reducible refine Below.alloc ?_ (by first | omega | (simp; done) | (simp; omega)) _ | with_reducible refine Below.setCell ?_ (by first | omega | (simp; done) | (simp; omega)) _))
    have z1 : w.heap.size + 1 ≤ w1.heap.size := by rw [← hW]; simp
    have HS1 : Hid (Whole w1 w.heap.size 27 #[.int .i64 sn, .slice ao_ss ss.length c_ss] ∧ Below w.heap.size w w1) := Lib.hid ⟨by rw [← hW]; exact Whole.made _ _ _, Bel_next HS0.out hb⟩
    clear HS0 hW hb
    refine (szChain_yes sn ss _ _ (1048576) _ HL0.out (by omega)).mono ?_
    rintro e w2 ⟨rfl, hb⟩
    have z2 : w1.heap.size ≤ w2.heap.size := hb.size
    have HS2 : Hid (Whole w2 w.heap.size 27 #[.int .i64 sn, .slice ao_ss ss.length c_ss] ∧ Below w.heap.size w w2) := Lib.hid ⟨HS1.out.1.below hb, Bel_next HS1.out.2 hb⟩
    clear HS1 hb
    have hc0 := (HS2.out.1).facts.1
    have hf0 := (HS2.out.1).facts.2
    have hz0 := (HS2.out.1).lt
    go_wp2_with fail
    clear hc0 hf0 hz0
    refine (toChain_any sn ss _ _ _ (Holds.below HX_ss.out HS2.out.2) hn_ss).mono ?_
    rintro e w3 ⟨aosc_ss, rfl, rowsc_ss, hb⟩
    have z3 : w2.heap.size ≤ w3.heap.size := hb.size
    have HS3 : Hid (Whole w3 w.heap.size 27 #[.int .i64 sn, .slice ao_ss ss.length c_ss] ∧ Row w3 w2.heap.size w3.heap.size aosc_ss (fl .f32 ss) ∧ Below w.heap.size w w3) := Lib.hid ⟨HS2.out.1.below hb, rowsc_ss, Bel_next HS2.out.2 hb⟩
    clear HS2 hb rowsc_ss
    have hc0 := (HS3.out.1).facts.1
    have hf0 := (HS3.out.1).facts.2
    have hz0 := (HS3.out.1).lt
    go_wp2_with fail
    clear hc0 hf0 hz0
    refine (toFloat32S_row xs _ _ _ (Holds.below HX_xs.out HS3.out.2.2) hn_xs).mono ?_
    rintro e w4 ⟨aosc_xs, rfl, rowsc_xs, hb⟩
    have z4 : w3.heap.size ≤ w4.heap.size := hb.size
    have HS4 : Hid (Whole w4 w.heap.size 27 #[.int .i64 sn, .slice ao_ss ss.length c_ss] ∧ Row w4 w2.heap.size w3.heap.size aosc_ss (fl .f32 ss) ∧ Row w4 w3.heap.size w4.heap.size aosc_xs (fl .f32 xs) ∧ Below w.heap.size w w4) := Lib.hid ⟨HS3.out.1.below hb, HS3.out.2.1.below hb, rowsc_xs, Bel_next HS3.out.2.2 hb⟩
    clear HS3 hb rowsc_xs
    have hc0 := (HS4.out.1).facts.1
    have hf0 := (HS4.out.1).facts.2
    have hz0 := (HS4.out.1).lt
    go_wp2_with fail
    clear hc0 hf0 hz0
    refine (specBal_is sn ss xs _ _ _ _ _ _ rfl hn_ss (HS4.out.2.1).holds (HS4.out.2.2.1).holds HV.out).mono ?_
    rintro e w5 ⟨rs, rfl, hrs, hb⟩
    have z5 : w4.heap.size ≤ w5.heap.size := hb.size
    have HS5 : Hid (Whole w5 w.heap.size 27 #[.int .i64 sn, .slice ao_ss ss.length c_ss] ∧ Row w5 w2.heap.size w3.heap.size aosc_ss (fl .f32 ss) ∧ Row w5 w3.heap.size w4.heap.size aosc_xs (fl .f32 xs) ∧ Below w.heap.size w w5) := Lib.hid ⟨HS4.out.1.below hb, HS4.out.2.1.below hb, HS4.out.2.2.1.below hb, Bel_next HS4.out.2.2.2 hb⟩
    clear HS4 hb
    have HSn : Hid (Whole w5 w.heap.size 27 #[.int .i64 sn, .slice ao_ss ss.length c_ss] ∧ Below w.heap.size w w5) := Lib.hid ⟨HS5.out.1, HS5.out.2.2.2⟩
    clear HS5
    have HS5 := HSn
    clear HSn
    have HRs := Lib.hid hrs
    clear hrs
    have hc0 := (HS5.out.1).facts.1
    have hf0 := (HS5.out.1).facts.2
    have hz0 := (HS5.out.1).lt
    go_wp2_with fail
    clear hc0 hf0 hz0
    refine (toChain_any sn ss _ _ _ (Holds.below HX_ss.out HS5.out.2) hn_ss).mono ?_
    rintro e w6 ⟨aoX_ss, rfl, rowX_ss, hb⟩
    have z6 : w5.heap.size ≤ w6.heap.size := hb.size
    have HS6 : Hid (Whole w6 w.heap.size 27 #[.int .i64 sn, .slice ao_ss ss.length c_ss] ∧ Row w6 w5.heap.size w6.heap.size aoX_ss (fl .f32 ss) ∧ Below w.heap.size w w6) := Lib.hid ⟨HS5.out.1.below hb, rowX_ss, Bel_next HS5.out.2 hb⟩
    clear HS5 hb rowX_ss
    have hc0 := (HS6.out.1).facts.1
    have hf0 := (HS6.out.1).facts.2
    have hz0 := (HS6.out.1).lt
    go_wp2_with fail
    clear hc0 hf0 hz0
    generalize hW : World.alloc w6 _ = w7
    have hb : Below w6.heap.size w6 w7 := by rw [← hW]; exact (by repeat (first | with_reducible exact Below.refl _ _ | with_reducible refine Below.drew ?_ | with_reducible refine Bel_drewN ?_ _ | with_reducible refine Below.alloc ?_ (by first | omega | (simp; done) | (simp; omega)) _ | with_reducible refine Below.setCell ?_ (by first | omega | (simp; done) | (simp; omega)) _))
    have z7 : w6.heap.size + 1 ≤ w7.heap.size := by rw [← hW]; simp
    have HS7 : Hid (Whole w7 w.heap.size 27 #[.int .i64 sn, .slice ao_ss ss.length c_ss] ∧ Row w7 w5.heap.size w6.heap.size aoX_ss (fl .f32 ss) ∧ Whole w7 w6.heap.size 34 #[.int .i64 sn, .slice aoX_ss ss.length ss.length] ∧ Below w.heap.size w w7) := Lib.hid ⟨HS6.out.1.below hb, HS6.out.2.1.below hb, by rw [← hW]; exact Whole.made _ _ _, Bel_next HS6.out.2.2 hb⟩
    clear HS6 hW hb
    refine (toFloat32S_row xs _ _ _ (Holds.below HX_xs.out HS7.out.2.2.2) hn_xs).mono ?_
    rintro e w8 ⟨aoX_xs, rfl, rowX_xs, hb⟩
    have z8 : w7.heap.size ≤ w8.heap.size := hb.size
    have HS8 : Hid (Whole w8 w.heap.size 27 #[.int .i64 sn, .slice ao_ss ss.length c_ss] ∧ Row w8 w5.heap.size w6.heap.size aoX_ss (fl .f32 ss) ∧ Whole w8 w6.heap.size 34 #[.int .i64 sn, .slice aoX_ss ss.length ss.length] ∧ Row w8 w7.heap.size w8.heap.size aoX_xs (fl .f32 xs) ∧ Below w.heap.size w w8) := Lib.hid ⟨HS7.out.1.below hb, HS7.out.2.1.below hb, HS7.out.2.2.1.below hb, rowX_xs, Bel_next HS7.out.2.2.2 hb⟩
    clear HS7 hb rowX_xs
    have hc0 := (HS8.out.1).facts.1
    have hf0 := (HS8.out.1).facts.2
    have hz0 := (HS8.out.1).lt
    have hc2 := (HS8.out.2.2.1).facts.1
    have hf2 := (HS8.out.2.2.1).facts.2
    have hz2 := (HS8.out.2.2.1).lt
    go_wp2_with fail
    clear hc0 hf0 hz0
    clear hc2 hf2 hz2
    refine (implBal_is sn ss xs _ _ _ _ _ _ rfl (Nat.le_refl _) hn_ss (HS8.out.2.1).holds (HS8.out.2.2.2.1).holds HV.out).mono ?_
    rintro e w9 ⟨rg, rfl, hrg, hb⟩
    have z9 : w8.heap.size ≤ w9.heap.size := hb.size
    have HS9 : Hid (Whole w9 w.heap.size 27 #[.int .i64 sn, .slice ao_ss ss.length c_ss] ∧ Row w9 w5.heap.size w6.heap.size aoX_ss (fl .f32 ss) ∧ Whole w9 w6.heap.size 34 #[.int .i64 sn, .slice aoX_ss ss.length ss.length] ∧ Row w9 w7.heap.size w8.heap.size aoX_xs (fl .f32 xs) ∧ Below w.heap.size w w9) := Lib.hid ⟨HS8.out.1.below hb, HS8.out.2.1.below hb, HS8.out.2.2.1.below hb, HS8.out.2.2.2.1.below hb, Bel_next HS8.out.2.2.2.2 hb⟩
    clear HS8 hb
    have HSn : Hid (Whole w9 w.heap.size 27 #[.int .i64 sn, .slice ao_ss ss.length c_ss] ∧ Row w9 w5.heap.size w6.heap.size aoX_ss (fl .f32 ss) ∧ Whole w9 w6.heap.size 34 #[.int .i64 sn, .slice aoX_ss ss.length ss.length] ∧ Row w9 w7.heap.size w8.heap.size aoX_xs (fl .f32 xs) ∧ Below w.heap.size w w9) := Lib.hid ⟨HS9.out.1, HS9.out.2.1, HS9.out.2.2.1, HS9.out.2.2.2.1, HS9.out.2.2.2.2⟩
    clear HS9
    have HS9 := HSn
    clear HSn
    have HRg := Lib.hid hrg
    clear hrg
    have hc0 := (HS9.out.1).facts.1
    have hf0 := (HS9.out.1).facts.2
    have hz0 := (HS9.out.1).lt
    have hc2 := (HS9.out.2.2.1).facts.1
    have hf2 := (HS9.out.2.2.1).facts.2
    have hz2 := (HS9.out.2.2.1).lt
    go_wp2_with (first | (refine wpList_widen_g _ _ _ _ rfl Try.underlying47 Try.underlying52 rfl ?_; intro r n hr) | (go_at_call 33; fail))
    clear hc0 hf0 hz0
    clear hc2 hf2 hz2
    refine (sameFloat_any _ _ (widen (av .f32 (balW xs.length ss xs))) (by rw [← HRg.out.2]; assumption) (by rw [← HRs.out.2]; assumption) _).mono ?_
    rintro e w' ⟨n3, rfl, rfl⟩
    generalize hW : World.drewN _ n3 = w10
    repeat rw [World.drewN_drewN] at hW
    have z10 : w9.heap.size ≤ w10.heap.size := by rw [← hW]; exact Nat.le_refl _
    have HS10 : Hid (Whole w10 w.heap.size 27 #[.int .i64 sn, .slice ao_ss ss.length c_ss] ∧ Row w10 w5.heap.size w6.heap.size aoX_ss (fl .f32 ss) ∧ Whole w10 w6.heap.size 34 #[.int .i64 sn, .slice aoX_ss ss.length ss.length] ∧ Row w10 w7.heap.size w8.heap.size aoX_xs (fl .f32 xs) ∧ Below w.heap.size w w10) := Lib.hid ⟨by rw [← hW]; exact (HS9.out.1).drewN _, by rw [← hW]; exact (HS9.out.2.1).drewN _, by rw [← hW]; exact (HS9.out.2.2.1).drewN _, by rw [← hW]; exact (HS9.out.2.2.2.1).drewN _, by rw [← hW]; exact Bel_drewN HS9.out.2.2.2.2 _⟩
    clear HS9 hW
    have hc0 := (HS10.out.1).facts.1
    have hf0 := (HS10.out.1).facts.2
    have hz0 := (HS10.out.1).lt
    have hc2 := (HS10.out.2.2.1).facts.1
    have hf2 := (HS10.out.2.2.1).facts.2
    have hz2 := (HS10.out.2.2.1).lt
    go_wp2_with fail
    clear hc0 hf0 hz0
    clear hc2 hf2 hz2
    have HK : Hid (∀ v v' : World, (v.cell? ⟨w6.heap.size, 0, none⟩ = some (.int .i64 sn) ∧ v.cell? ⟨w6.heap.size, 1, none⟩ = some (.slice aoX_ss ss.length ss.length) ∧ v.cell? ⟨w.heap.size, 0, none⟩ = some (.int .i64 sn) ∧ v.cell? ⟨w.heap.size, 1, none⟩ = some (.slice ao_ss ss.length c_ss) ∧ w10.heap.size ≤ v.heap.size ∧ Whole v w.heap.size 27 #[.int .i64 sn, .slice ao_ss ss.length c_ss] ∧ Row v w5.heap.size w6.heap.size aoX_ss (fl .f32 ss) ∧ Whole v w6.heap.size 34 #[.int .i64 sn, .slice aoX_ss ss.length ss.length] ∧ Row v w7.heap.size w8.heap.size aoX_xs (fl .f32 xs) ∧ Below w.heap.size w v) → Below v.heap.size v v' → (v'.cell? ⟨w6.heap.size, 0, none⟩ = some (.int .i64 sn) ∧ v'.cell? ⟨w6.heap.size, 1, none⟩ = some (.slice aoX_ss ss.length ss.length) ∧ v'.cell? ⟨w.heap.size, 0, none⟩ = some (.int .i64 sn) ∧ v'.cell? ⟨w.heap.size, 1, none⟩ = some (.slice ao_ss ss.length c_ss) ∧ w10.heap.size ≤ v'.heap.size ∧ Whole v' w.heap.size 27 #[.int .i64 sn, .slice ao_ss ss.length c_ss] ∧ Row v' w5.heap.size w6.heap.size aoX_ss (fl .f32 ss) ∧ Whole v' w6.heap.size 34 #[.int .i64 sn, .slice aoX_ss ss.length ss.length] ∧ Row v' w7.heap.size w8.heap.size aoX_xs (fl .f32 xs) ∧ Below w.heap.size w v')) := Lib.hid (fun v v' h hb => ⟨(by rw [Below.cell hb (World.block_lt_of_cell? _ _ h.1)]; exact h.1), (by rw [Below.cell hb (World.block_lt_of_cell? _ _ h.2.1)]; exact h.2.1), (by rw [Below.cell hb (World.block_lt_of_cell? _ _ h.2.2.1)]; exact h.2.2.1), (by rw [Below.cell hb (World.block_lt_of_cell? _ _ h.2.2.2.1)]; exact h.2.2.2.1), Nat.le_trans h.2.2.2.2.1 hb.size, h.2.2.2.2.2.1.below hb, h.2.2.2.2.2.2.1.below hb, h.2.2.2.2.2.2.2.1.below hb, h.2.2.2.2.2.2.2.2.1.below hb, Bel_next h.2.2.2.2.2.2.2.2.2 hb⟩)
    have HP : Hid (∀ v : World, (v.cell? ⟨w6.heap.size, 0, none⟩ = some (.int .i64 sn) ∧ v.cell? ⟨w6.heap.size, 1, none⟩ = some (.slice aoX_ss ss.length ss.length) ∧ v.cell? ⟨w.heap.size, 0, none⟩ = some (.int .i64 sn) ∧ v.cell? ⟨w.heap.size, 1, none⟩ = some (.slice ao_ss ss.length c_ss) ∧ w10.heap.size ≤ v.heap.size ∧ Whole v w.heap.size 27 #[.int .i64 sn, .slice ao_ss ss.length c_ss] ∧ Row v w5.heap.size w6.heap.size aoX_ss (fl .f32 ss) ∧ Whole v w6.heap.size 34 #[.int .i64 sn, .slice aoX_ss ss.length ss.length] ∧ Row v w7.heap.size w8.heap.size aoX_xs (fl .f32 xs) ∧ Below w.heap.size w v) → (Whole v w.heap.size 27 #[.int .i64 sn, .slice ao_ss ss.length c_ss] ∧ Row v w5.heap.size w6.heap.size aoX_ss (fl .f32 ss) ∧ Whole v w6.heap.size 34 #[.int .i64 sn, .slice aoX_ss ss.length ss.length] ∧ Row v w7.heap.size w8.heap.size aoX_xs (fl .f32 xs) ∧ Below w.heap.size w v)) := Lib.hid (fun v h => h.2.2.2.2.2)
    have hR : w10.cell? ⟨w6.heap.size, 0, none⟩ = some (.int .i64 sn) ∧ w10.cell? ⟨w6.heap.size, 1, none⟩ = some (.slice aoX_ss ss.length ss.length) ∧ w10.cell? ⟨w.heap.size, 0, none⟩ = some (.int .i64 sn) ∧ w10.cell? ⟨w.heap.size, 1, none⟩ = some (.slice ao_ss ss.length c_ss) ∧ w10.heap.size ≤ w10.heap.size ∧ Whole w10 w.heap.size 27 #[.int .i64 sn, .slice ao_ss ss.length c_ss] ∧ Row w10 w5.heap.size w6.heap.size aoX_ss (fl .f32 ss) ∧ Whole w10 w6.heap.size 34 #[.int .i64 sn, .slice aoX_ss ss.length ss.length] ∧ Row w10 w7.heap.size w8.heap.size aoX_xs (fl .f32 xs) ∧ Below w.heap.size w w10 := ⟨(HS10.out.2.2.1).cell 0, (HS10.out.2.2.1).cell 1, (HS10.out.1).cell 0, (HS10.out.1).cell 1, Nat.le_refl _, HS10.out.1, HS10.out.2.1, HS10.out.2.2.1, HS10.out.2.2.2.1, HS10.out.2.2.2.2⟩
    go_region_held3 (fun v => v.cell? ⟨w6.heap.size, 0, none⟩ = some (.int .i64 sn) ∧ v.cell? ⟨w6.heap.size, 1, none⟩ = some (.slice aoX_ss ss.length ss.length) ∧ v.cell? ⟨w.heap.size, 0, none⟩ = some (.int .i64 sn) ∧ v.cell? ⟨w.heap.size, 1, none⟩ = some (.slice ao_ss ss.length c_ss) ∧ w10.heap.size ≤ v.heap.size ∧ Whole v w.heap.size 27 #[.int .i64 sn, .slice ao_ss ss.length c_ss] ∧ Row v w5.heap.size w6.heap.size aoX_ss (fl .f32 ss) ∧ Whole v w6.heap.size 34 #[.int .i64 sn, .slice aoX_ss ss.length ss.length] ∧ Row v w7.heap.size w8.heap.size aoX_xs (fl .f32 xs) ∧ Below w.heap.size w v)
      (first | assumption | exact HK.out _ _ (by assumption) (by assumption) | exact HK.out _ _ (by assumption) ((Below.refl _ _).drew) | (refine HK.out _ _ (by assumption) ?_; (repeat (first | with_reducible exact Below.refl _ _ | with_reducible refine Below.drew ?_ | with_reducible refine Bel_drewN ?_ _ | with_reducible refine Below.alloc ?_ (by first | omega | (simp; done) | (simp; omega)) _ | with_reducible refine Below.setCell ?_ (by first | omega | (simp; done) | (simp; omega)) _)); done))
      (first | (go_at_call 18; refine (toChain_any sn ss _ _ _ (Holds.below HX_ss.out (HP.out _ (by assumption)).2.2.2.2) hn_ss).mono ?_; rintro e wt ⟨aoY_ss, rfl, rowY_ss, hbt⟩) | (go_at_call 22; refine (eqChain_same sn ss _ rfl _ _ _ _ _ ((HP.out _ (by assumption)).2.1.holds) (by exact rowY_ss.holds) hn_ss).mono ?_; rintro e w11 ⟨rfl, hb⟩))
    have hN := (HK.out _ _ (HK.out _ _ hR (by first | exact hbt | exact Bel_next (Below.refl _ _).drew hbt | (refine Bel_next ?_ hbt; (repeat (first | with_reducible exact Below.refl _ _ | with_reducible refine Below.drew ?_ | with_reducible refine Bel_drewN ?_ _ | with_reducible refine Below.alloc ?_ (by first | omega | (simp; done) | (simp; omega)) _ | with_reducible refine Below.setCell ?_ (by first | omega | (simp; done) | (simp; omega)) _)); done))) (by first | exact hb | exact Bel_next (Below.refl _ _).drew hb | (refine Bel_next ?_ hb; (repeat (first | with_reducible exact Below.refl _ _ | with_reducible refine Below.drew ?_ | with_reducible refine Bel_drewN ?_ _ | with_reducible refine Below.alloc ?_ (by first | omega | (simp; done) | (simp; omega)) _ | with_reducible refine Below.setCell ?_ (by first | omega | (simp; done) | (simp; omega)) _)); done)))
    have z11 : w10.heap.size ≤ w11.heap.size := hN.2.2.2.2.1
    have HS11 : Hid (Whole w11 w.heap.size 27 #[.int .i64 sn, .slice ao_ss ss.length c_ss] ∧ Row w11 w5.heap.size w6.heap.size aoX_ss (fl .f32 ss) ∧ Whole w11 w6.heap.size 34 #[.int .i64 sn, .slice aoX_ss ss.length ss.length] ∧ Row w11 w7.heap.size w8.heap.size aoX_xs (fl .f32 xs) ∧ Below w.heap.size w w11) := Lib.hid ⟨hN.2.2.2.2.2.1, hN.2.2.2.2.2.2.1, hN.2.2.2.2.2.2.2.1, hN.2.2.2.2.2.2.2.2.1, hN.2.2.2.2.2.2.2.2.2⟩
    clear HS10 hN hR HK HP hb hbt
    clear rowY_ss
    have hc0 := (HS11.out.1).facts.1
    have hf0 := (HS11.out.1).facts.2
    have hz0 := (HS11.out.1).lt
    have hc2 := (HS11.out.2.2.1).facts.1
    have hf2 := (HS11.out.2.2.1).facts.2
    have hz2 := (HS11.out.2.2.1).lt
    go_wp2_with fail
    clear hc0 hf0 hz0
    clear hc2 hf2 hz2
    refine (toFloat32S_row xs _ _ _ (Holds.below HX_xs.out HS11.out.2.2.2.2) hn_xs).mono ?_
    rintro e w12 ⟨aoY_xs, rfl, rowY_xs, hb⟩
    have z12 : w11.heap.size ≤ w12.heap.size := hb.size
    have HS12 : Hid (Whole w12 w.heap.size 27 #[.int .i64 sn, .slice ao_ss ss.length c_ss] ∧ Row w12 w5.heap.size w6.heap.size aoX_ss (fl .f32 ss) ∧ Whole w12 w6.heap.size 34 #[.int .i64 sn, .slice aoX_ss ss.length ss.length] ∧ Row w12 w7.heap.size w8.heap.size aoX_xs (fl .f32 xs) ∧ Row w12 w11.heap.size w12.heap.size aoY_xs (fl .f32 xs) ∧ Below w.heap.size w w12) := Lib.hid ⟨HS11.out.1.below hb, HS11.out.2.1.below hb, HS11.out.2.2.1.below hb, HS11.out.2.2.2.1.below hb, rowY_xs, Bel_next HS11.out.2.2.2.2 hb⟩
    clear HS11 hb rowY_xs
    have hc0 := (HS12.out.1).facts.1
    have hf0 := (HS12.out.1).facts.2
    have hz0 := (HS12.out.1).lt
    have hc2 := (HS12.out.2.2.1).facts.1
    have hf2 := (HS12.out.2.2.1).facts.2
    have hz2 := (HS12.out.2.2.1).lt
    go_wp2_with fail
    clear hc0 hf0 hz0
    clear hc2 hf2 hz2
    refine (eqFloat32S_same xs _ rfl _ _ _ _ _ HS12.out.2.2.2.1.holds HS12.out.2.2.2.2.1.holds (by omega)).mono ?_
    rintro e w13 ⟨rfl, hb⟩
    have z13 : w12.heap.size ≤ w13.heap.size := hb.size
    have HS13 : Hid (Whole w13 w.heap.size 27 #[.int .i64 sn, .slice ao_ss ss.length c_ss] ∧ Row w13 w5.heap.size w6.heap.size aoX_ss (fl .f32 ss) ∧ Whole w13 w6.heap.size 34 #[.int .i64 sn, .slice aoX_ss ss.length ss.length] ∧ Row w13 w7.heap.size w8.heap.size aoX_xs (fl .f32 xs) ∧ Row w13 w11.heap.size w12.heap.size aoY_xs (fl .f32 xs) ∧ Below w.heap.size w w13) := Lib.hid ⟨HS12.out.1.below hb, HS12.out.2.1.below hb, HS12.out.2.2.1.below hb, HS12.out.2.2.2.1.below hb, HS12.out.2.2.2.2.1.below hb, Bel_next HS12.out.2.2.2.2.2 hb⟩
    clear HS12 hb
    have HSn : Hid (Whole w13 w.heap.size 27 #[.int .i64 sn, .slice ao_ss ss.length c_ss] ∧ Row w13 w5.heap.size w6.heap.size aoX_ss (fl .f32 ss) ∧ Whole w13 w6.heap.size 34 #[.int .i64 sn, .slice aoX_ss ss.length ss.length] ∧ Row w13 w7.heap.size w8.heap.size aoX_xs (fl .f32 xs) ∧ Below w.heap.size w w13) := Lib.hid ⟨HS13.out.1, HS13.out.2.1, HS13.out.2.2.1, HS13.out.2.2.2.1, HS13.out.2.2.2.2.2⟩
    clear HS13
    have HS13 := HSn
    clear HSn
    have hc0 := (HS13.out.1).facts.1
    have hf0 := (HS13.out.1).facts.2
    have hz0 := (HS13.out.1).lt
    have hc2 := (HS13.out.2.2.1).facts.1
    have hf2 := (HS13.out.2.2.1).facts.2
    have hz2 := (HS13.out.2.2.1).lt
    go_wp2_with fail
    clear hc0 hf0 hz0
    clear hc2 hf2 hz2
    go_ret
    exact ⟨rfl, Bel_next HS13.out.2.2.2.2 (by repeat (first | with_reducible exact Below.refl _ _ | with_reducible refine Below.drew ?_ | with_reducible refine Bel_drewN ?_ _ | with_reducible refine Below.alloc ?_ (by first | omega | (simp; done) | (simp; omega)) _ | with_reducible refine Below.setCell ?_ (by first | omega | (simp; done) | (simp; omega)) _))⟩
  have HV := Lib.hid hv0
  clear hv0
  go_enter Try.func7, Try.ntmps7
  have HS0 : Hid (Below w.heap.size w w) := Lib.hid (Below.refl _ _)
  go_wp2_with fail
  generalize hW : World.alloc w _ = w1
  have hb : Below w.heap.size w w1 := by rw [← hW]; exact (by repeat (first | with_reducible exact Below.refl _ _ | with_reducible refine Below.drew ?_ | with_reducible refine Bel_drewN ?_ _ | with_reducible refine Below.alloc ?_ (by first | omega | (simp; done) | (simp; omega)) _ | with_reducible refine Below.setCell ?_ (by first | omega | (simp; done) | (simp; omega)) _))
  have z1 : w.heap.size + 1 ≤ w1.heap.size := by rw [← hW]; simp
  have HS1 : Hid (Whole w1 w.heap.size 27 #[.int .i64 sn, .slice ao_ss ss.length c_ss] ∧ Below w.heap.size w w1) := Lib.hid ⟨by rw [← hW]; exact Whole.made _ _ _, Bel_next HS0.out hb⟩
  clear HS0 hW hb
  refine (szChain_yes sn ss _ _ (1048576) _ HL0.out (by omega)).mono ?_
  rintro e w2 ⟨rfl, hb⟩
  have z2 : w1.heap.size ≤ w2.heap.size := hb.size
  have HS2 : Hid (Whole w2 w.heap.size 27 #[.int .i64 sn, .slice ao_ss ss.length c_ss] ∧ Below w.heap.size w w2) := Lib.hid ⟨HS1.out.1.below hb, Bel_next HS1.out.2 hb⟩
  clear HS1 hb
  have hc0 := (HS2.out.1).facts.1
  have hf0 := (HS2.out.1).facts.2
  have hz0 := (HS2.out.1).lt
  go_wp2_with fail
  clear hc0 hf0 hz0
  refine (toChain_any sn ss _ _ _ (Holds.below HX_ss.out HS2.out.2) hn_ss).mono ?_
  rintro e w3 ⟨aosc_ss, rfl, rowsc_ss, hb⟩
  have z3 : w2.heap.size ≤ w3.heap.size := hb.size
  have HS3 : Hid (Whole w3 w.heap.size 27 #[.int .i64 sn, .slice ao_ss ss.length c_ss] ∧ Row w3 w2.heap.size w3.heap.size aosc_ss (fl .f32 ss) ∧ Below w.heap.size w w3) := Lib.hid ⟨HS2.out.1.below hb, rowsc_ss, Bel_next HS2.out.2 hb⟩
  clear HS2 hb rowsc_ss
  have hc0 := (HS3.out.1).facts.1
  have hf0 := (HS3.out.1).facts.2
  have hz0 := (HS3.out.1).lt
  go_wp2_with fail
  clear hc0 hf0 hz0
  refine (toFloat32S_row xs _ _ _ (Holds.below HX_xs.out HS3.out.2.2) hn_xs).mono ?_
  rintro e w4 ⟨aosc_xs, rfl, rowsc_xs, hb⟩
  have z4 : w3.heap.size ≤ w4.heap.size := hb.size
  have HS4 : Hid (Whole w4 w.heap.size 27 #[.int .i64 sn, .slice ao_ss ss.length c_ss] ∧ Row w4 w2.heap.size w3.heap.size aosc_ss (fl .f32 ss) ∧ Row w4 w3.heap.size w4.heap.size aosc_xs (fl .f32 xs) ∧ Below w.heap.size w w4) := Lib.hid ⟨HS3.out.1.below hb, HS3.out.2.1.below hb, rowsc_xs, Bel_next HS3.out.2.2 hb⟩
  clear HS3 hb rowsc_xs
  have hc0 := (HS4.out.1).facts.1
  have hf0 := (HS4.out.1).facts.2
  have hz0 := (HS4.out.1).lt
  go_wp2_with fail
  clear hc0 hf0 hz0
  refine (specBal_not sn ss xs _ _ _ _ _ _ rfl hn_ss (HS4.out.2.1).holds (HS4.out.2.2.1).holds hn_xs HV.out).mono ?_
  rintro e w5 ⟨rs, rfl, hrs, hb⟩
  have z5 : w4.heap.size ≤ w5.heap.size := hb.size
  have HS5 : Hid (Whole w5 w.heap.size 27 #[.int .i64 sn, .slice ao_ss ss.length c_ss] ∧ Row w5 w2.heap.size w3.heap.size aosc_ss (fl .f32 ss) ∧ Row w5 w3.heap.size w4.heap.size aosc_xs (fl .f32 xs) ∧ Below w.heap.size w w5) := Lib.hid ⟨HS4.out.1.below hb, HS4.out.2.1.below hb, HS4.out.2.2.1.below hb, Bel_next HS4.out.2.2.2 hb⟩
  clear HS4 hb
  have HSn : Hid (Whole w5 w.heap.size 27 #[.int .i64 sn, .slice ao_ss ss.length c_ss] ∧ Below w.heap.size w w5) := Lib.hid ⟨HS5.out.1, HS5.out.2.2.2⟩
  clear HS5
  have HS5 := HSn
  clear HSn
  have HRs := Lib.hid hrs
  clear hrs
  have hc0 := (HS5.out.1).facts.1
  have hf0 := (HS5.out.1).facts.2
  have hz0 := (HS5.out.1).lt
  go_wp2_with fail
  clear hc0 hf0 hz0
  refine (toChain_any sn ss _ _ _ (Holds.below HX_ss.out HS5.out.2) hn_ss).mono ?_
  rintro e w6 ⟨aoX_ss, rfl, rowX_ss, hb⟩
  have z6 : w5.heap.size ≤ w6.heap.size := hb.size
  have HS6 : Hid (Whole w6 w.heap.size 27 #[.int .i64 sn, .slice ao_ss ss.length c_ss] ∧ Row w6 w5.heap.size w6.heap.size aoX_ss (fl .f32 ss) ∧ Below w.heap.size w w6) := Lib.hid ⟨HS5.out.1.below hb, rowX_ss, Bel_next HS5.out.2 hb⟩
  clear HS5 hb rowX_ss
  have hc0 := (HS6.out.1).facts.1
  have hf0 := (HS6.out.1).facts.2
  have hz0 := (HS6.out.1).lt
  go_wp2_with fail
  clear hc0 hf0 hz0
  generalize hW : World.alloc w6 _ = w7
  have hb : Below w6.heap.size w6 w7 := by rw [← hW]; exact (by repeat (first | with_reducible exact Below.refl _ _ | with_reducible refine Below.drew ?_ | with_reducible refine Bel_drewN ?_ _ | with_reducible refine Below.alloc ?_ (by first | omega | (simp; done) | (simp; omega)) _ | with_reducible refine Below.setCell ?_ (by first | omega | (simp; done) | (simp; omega)) _))
  have z7 : w6.heap.size + 1 ≤ w7.heap.size := by rw [← hW]; simp
  have HS7 : Hid (Whole w7 w.heap.size 27 #[.int .i64 sn, .slice ao_ss ss.length c_ss] ∧ Row w7 w5.heap.size w6.heap.size aoX_ss (fl .f32 ss) ∧ Whole w7 w6.heap.size 34 #[.int .i64 sn, .slice aoX_ss ss.length ss.length] ∧ Below w.heap.size w w7) := Lib.hid ⟨HS6.out.1.below hb, HS6.out.2.1.below hb, by rw [← hW]; exact Whole.made _ _ _, Bel_next HS6.out.2.2 hb⟩
  clear HS6 hW hb
  refine (toFloat32S_row xs _ _ _ (Holds.below HX_xs.out HS7.out.2.2.2) hn_xs).mono ?_
  rintro e w8 ⟨aoX_xs, rfl, rowX_xs, hb⟩
  have z8 : w7.heap.size ≤ w8.heap.size := hb.size
  have HS8 : Hid (Whole w8 w.heap.size 27 #[.int .i64 sn, .slice ao_ss ss.length c_ss] ∧ Row w8 w5.heap.size w6.heap.size aoX_ss (fl .f32 ss) ∧ Whole w8 w6.heap.size 34 #[.int .i64 sn, .slice aoX_ss ss.length ss.length] ∧ Row w8 w7.heap.size w8.heap.size aoX_xs (fl .f32 xs) ∧ Below w.heap.size w w8) := Lib.hid ⟨HS7.out.1.below hb, HS7.out.2.1.below hb, HS7.out.2.2.1.below hb, rowX_xs, Bel_next HS7.out.2.2.2 hb⟩
  clear HS7 hb rowX_xs
  have hc0 := (HS8.out.1).facts.1
  have hf0 := (HS8.out.1).facts.2
  have hz0 := (HS8.out.1).lt
  have hc2 := (HS8.out.2.2.1).facts.1
  have hf2 := (HS8.out.2.2.1).facts.2
  have hz2 := (HS8.out.2.2.1).lt
  go_wp2_with fail
  clear hc0 hf0 hz0
  clear hc2 hf2 hz2
  refine (implBal_not sn ss xs _ _ _ _ _ _ rfl (Nat.le_refl _) hn_ss (HS8.out.2.1).holds (HS8.out.2.2.2.1).holds hn_xs HV.out).mono ?_
  rintro e w9 ⟨rg, rfl, hrg, hb⟩
  have z9 : w8.heap.size ≤ w9.heap.size := hb.size
  have HS9 : Hid (Whole w9 w.heap.size 27 #[.int .i64 sn, .slice ao_ss ss.length c_ss] ∧ Row w9 w5.heap.size w6.heap.size aoX_ss (fl .f32 ss) ∧ Whole w9 w6.heap.size 34 #[.int .i64 sn, .slice aoX_ss ss.length ss.length] ∧ Row w9 w7.heap.size w8.heap.size aoX_xs (fl .f32 xs) ∧ Below w.heap.size w w9) := Lib.hid ⟨HS8.out.1.below hb, HS8.out.2.1.below hb, HS8.out.2.2.1.below hb, HS8.out.2.2.2.1.below hb, Bel_next HS8.out.2.2.2.2 hb⟩
  clear HS8 hb
  have HSn : Hid (Whole w9 w.heap.size 27 #[.int .i64 sn, .slice ao_ss ss.length c_ss] ∧ Row w9 w5.heap.size w6.heap.size aoX_ss (fl .f32 ss) ∧ Whole w9 w6.heap.size 34 #[.int .i64 sn, .slice aoX_ss ss.length ss.length] ∧ Row w9 w7.heap.size w8.heap.size aoX_xs (fl .f32 xs) ∧ Below w.heap.size w w9) := Lib.hid ⟨HS9.out.1, HS9.out.2.1, HS9.out.2.2.1, HS9.out.2.2.2.1, HS9.out.2.2.2.2⟩
  clear HS9
  have HS9 := HSn
  clear HSn
  have HRg := Lib.hid hrg
  clear hrg
  have hc0 := (HS9.out.1).facts.1
  have hf0 := (HS9.out.1).facts.2
  have hz0 := (HS9.out.1).lt
  have hc2 := (HS9.out.2.2.1).facts.1
  have hf2 := (HS9.out.2.2.1).facts.2
  have hz2 := (HS9.out.2.2.1).lt
  go_wp2_with (first | (refine wpList_widen_g _ _ _ _ rfl Try.underlying47 Try.underlying52 rfl ?_; intro r n hr) | (go_at_call 33; fail))
  clear hc0 hf0 hz0
  clear hc2 hf2 hz2
  refine (sameFloat_any _ _ (widen (av .f32 0)) (by rw [← HRg.out.2]; assumption) (by rw [← HRs.out.2]; assumption) _).mono ?_
  rintro e w' ⟨n3, rfl, rfl⟩
  generalize hW : World.drewN _ n3 = w10
  repeat rw [World.drewN_drewN] at hW
  have z10 : w9.heap.size ≤ w10.heap.size := by rw [← hW]; exact Nat.le_refl _
  have HS10 : Hid (Whole w10 w.heap.size 27 #[.int .i64 sn, .slice ao_ss ss.length c_ss] ∧ Row w10 w5.heap.size w6.heap.size aoX_ss (fl .f32 ss) ∧ Whole w10 w6.heap.size 34 #[.int .i64 sn, .slice aoX_ss ss.length ss.length] ∧ Row w10 w7.heap.size w8.heap.size aoX_xs (fl .f32 xs) ∧ Below w.heap.size w w10) := Lib.hid ⟨by rw [← hW]; exact (HS9.out.1).drewN _, by rw [← hW]; exact (HS9.out.2.1).drewN _, by rw [← hW]; exact (HS9.out.2.2.1).drewN _, by rw [← hW]; exact (HS9.out.2.2.2.1).drewN _, by rw [← hW]; exact Bel_drewN HS9.out.2.2.2.2 _⟩
  clear HS9 hW
  have hc0 := (HS10.out.1).facts.1
  have hf0 := (HS10.out.1).facts.2
  have hz0 := (HS10.out.1).lt
  have hc2 := (HS10.out.2.2.1).facts.1
  have hf2 := (HS10.out.2.2.1).facts.2
  have hz2 := (HS10.out.2.2.1).lt
  go_wp2_with fail
  clear hc0 hf0 hz0
  clear hc2 hf2 hz2
  have HK : Hid (∀ v v' : World, (v.cell? ⟨w6.heap.size, 0, none⟩ = some (.int .i64 sn) ∧ v.cell? ⟨w6.heap.size, 1, none⟩ = some (.slice aoX_ss ss.length ss.length) ∧ v.cell? ⟨w.heap.size, 0, none⟩ = some (.int .i64 sn) ∧ v.cell? ⟨w.heap.size, 1, none⟩ = some (.slice ao_ss ss.length c_ss) ∧ w10.heap.size ≤ v.heap.size ∧ Whole v w.heap.size 27 #[.int .i64 sn, .slice ao_ss ss.length c_ss] ∧ Row v w5.heap.size w6.heap.size aoX_ss (fl .f32 ss) ∧ Whole v w6.heap.size 34 #[.int .i64 sn, .slice aoX_ss ss.length ss.length] ∧ Row v w7.heap.size w8.heap.size aoX_xs (fl .f32 xs) ∧ Below w.heap.size w v) → Below v.heap.size v v' → (v'.cell? ⟨w6.heap.size, 0, none⟩ = some (.int .i64 sn) ∧ v'.cell? ⟨w6.heap.size, 1, none⟩ = some (.slice aoX_ss ss.length ss.length) ∧ v'.cell? ⟨w.heap.size, 0, none⟩ = some (.int .i64 sn) ∧ v'.cell? ⟨w.heap.size, 1, none⟩ = some (.slice ao_ss ss.length c_ss) ∧ w10.heap.size ≤ v'.heap.size ∧ Whole v' w.heap.size 27 #[.int .i64 sn, .slice ao_ss ss.length c_ss] ∧ Row v' w5.heap.size w6.heap.size aoX_ss (fl .f32 ss) ∧ Whole v' w6.heap.size 34 #[.int .i64 sn, .slice aoX_ss ss.length ss.length] ∧ Row v' w7.heap.size w8.heap.size aoX_xs (fl .f32 xs) ∧ Below w.heap.size w v')) := Lib.hid (fun v v' h hb => ⟨(by rw [Below.cell hb (World.block_lt_of_cell? _ _ h.1)]; exact h.1), (by rw [Below.cell hb (World.block_lt_of_cell? _ _ h.2.1)]; exact h.2.1), (by rw [Below.cell hb (World.block_lt_of_cell? _ _ h.2.2.1)]; exact h.2.2.1), (by rw [Below.cell hb (World.block_lt_of_cell? _ _ h.2.2.2.1)]; exact h.2.2.2.1), Nat.le_trans h.2.2.2.2.1 hb.size, h.2.2.2.2.2.1.below hb, h.2.2.2.2.2.2.1.below hb, h.2.2.2.2.2.2.2.1.below hb, h.2.2.2.2.2.2.2.2.1.below hb, Bel_next h.2.2.2.2.2.2.2.2.2 hb⟩)
  have HP : Hid (∀ v : World, (v.cell? ⟨w6.heap.size, 0, none⟩ = some (.int .i64 sn) ∧ v.cell? ⟨w6.heap.size, 1, none⟩ = some (.slice aoX_ss ss.length ss.length) ∧ v.cell? ⟨w.heap.size, 0, none⟩ = some (.int .i64 sn) ∧ v.cell? ⟨w.heap.size, 1, none⟩ = some (.slice ao_ss ss.length c_ss) ∧ w10.heap.size ≤ v.heap.size ∧ Whole v w.heap.size 27 #[.int .i64 sn, .slice ao_ss ss.length c_ss] ∧ Row v w5.heap.size w6.heap.size aoX_ss (fl .f32 ss) ∧ Whole v w6.heap.size 34 #[.int .i64 sn, .slice aoX_ss ss.length ss.length] ∧ Row v w7.heap.size w8.heap.size aoX_xs (fl .f32 xs) ∧ Below w.heap.size w v) → (Whole v w.heap.size 27 #[.int .i64 sn, .slice ao_ss ss.length c_ss] ∧ Row v w5.heap.size w6.heap.size aoX_ss (fl .f32 ss) ∧ Whole v w6.heap.size 34 #[.int .i64 sn, .slice aoX_ss ss.length ss.length] ∧ Row v w7.heap.size w8.heap.size aoX_xs (fl .f32 xs) ∧ Below w.heap.size w v)) := Lib.hid (fun v h => h.2.2.2.2.2)
  have hR : w10.cell? ⟨w6.heap.size, 0, none⟩ = some (.int .i64 sn) ∧ w10.cell? ⟨w6.heap.size, 1, none⟩ = some (.slice aoX_ss ss.length ss.length) ∧ w10.cell? ⟨w.heap.size, 0, none⟩ = some (.int .i64 sn) ∧ w10.cell? ⟨w.heap.size, 1, none⟩ = some (.slice ao_ss ss.length c_ss) ∧ w10.heap.size ≤ w10.heap.size ∧ Whole w10 w.heap.size 27 #[.int .i64 sn, .slice ao_ss ss.length c_ss] ∧ Row w10 w5.heap.size w6.heap.size aoX_ss (fl .f32 ss) ∧ Whole w10 w6.heap.size 34 #[.int .i64 sn, .slice aoX_ss ss.length ss.length] ∧ Row w10 w7.heap.size w8.heap.size aoX_xs (fl .f32 xs) ∧ Below w.heap.size w w10 := ⟨(HS10.out.2.2.1).cell 0, (HS10.out.2.2.1).cell 1, (HS10.out.1).cell 0, (HS10.out.1).cell 1, Nat.le_refl _, HS10.out.1, HS10.out.2.1, HS10.out.2.2.1, HS10.out.2.2.2.1, HS10.out.2.2.2.2⟩
  go_region_held3 (fun v => v.cell? ⟨w6.heap.size, 0, none⟩ = some (.int .i64 sn) ∧ v.cell? ⟨w6.heap.size, 1, none⟩ = some (.slice aoX_ss ss.length ss.length) ∧ v.cell? ⟨w.heap.size, 0, none⟩ = some (.int .i64 sn) ∧ v.cell? ⟨w.heap.size, 1, none⟩ = some (.slice ao_ss ss.length c_ss) ∧ w10.heap.size ≤ v.heap.size ∧ Whole v w.heap.size 27 #[.int .i64 sn, .slice ao_ss ss.length c_ss] ∧ Row v w5.heap.size w6.heap.size aoX_ss (fl .f32 ss) ∧ Whole v w6.heap.size 34 #[.int .i64 sn, .slice aoX_ss ss.length ss.length] ∧ Row v w7.heap.size w8.heap.size aoX_xs (fl .f32 xs) ∧ Below w.heap.size w v)
    (first | assumption | exact HK.out _ _ (by assumption) (by assumption) | exact HK.out _ _ (by assumption) ((Below.refl _ _).drew) | (refine HK.out _ _ (by assumption) ?_; (repeat (first | with_reducible exact Below.refl _ _ | with_reducible refine Below.drew ?_ | with_reducible refine Bel_drewN ?_ _ | with_reducible refine Below.alloc ?_ (by first | omega | (simp; done) | (simp; omega)) _ | with_reducible refine Below.setCell ?_ (by first | omega | (simp; done) | (simp; omega)) _)); done))
    (first | (go_at_call 18; refine (toChain_any sn ss _ _ _ (Holds.below HX_ss.out (HP.out _ (by assumption)).2.2.2.2) hn_ss).mono ?_; rintro e wt ⟨aoY_ss, rfl, rowY_ss, hbt⟩) | (go_at_call 22; refine (eqChain_same sn ss _ rfl _ _ _ _ _ ((HP.out _ (by assumption)).2.1.holds) (by exact rowY_ss.holds) hn_ss).mono ?_; rintro e w11 ⟨rfl, hb⟩))
  have hN := (HK.out _ _ (HK.out _ _ hR (by first | exact hbt | exact Bel_next (Below.refl _ _).drew hbt | (refine Bel_next ?_ hbt; (repeat (first | with_reducible exact Below.refl _ _ | with_reducible refine Below.drew ?_ | with_reducible refine Bel_drewN ?_ _ | with_reducible refine Below.alloc ?_ (by first | omega | (simp; done) | (simp; omega)) _ | with_reducible refine Below.setCell ?_ (by first | omega | (simp; done) | (simp; omega)) _)); done))) (by first | exact hb | exact Bel_next (Below.refl _ _).drew hb | (refine Bel_next ?_ hb; (repeat (first | with_reducible exact Below.refl _ _ | with_reducible refine Below.drew ?_ | with_reducible refine Bel_drewN ?_ _ | with_reducible refine Below.alloc ?_ (by first | omega | (simp; done) | (simp; omega)) _ | with_reducible refine Below.setCell ?_ (by first | omega | (simp; done) | (simp; omega)) _)); done)))
  have z11 : w10.heap.size ≤ w11.heap.size := hN.2.2.2.2.1
  have HS11 : Hid (Whole w11 w.heap.size 27 #[.int .i64 sn, .slice ao_ss ss.length c_ss] ∧ Row w11 w5.heap.size w6.heap.size aoX_ss (fl .f32 ss) ∧ Whole w11 w6.heap.size 34 #[.int .i64 sn, .slice aoX_ss ss.length ss.length] ∧ Row w11 w7.heap.size w8.heap.size aoX_xs (fl .f32 xs) ∧ Below w.heap.size w w11) := Lib.hid ⟨hN.2.2.2.2.2.1, hN.2.2.2.2.2.2.1, hN.2.2.2.2.2.2.2.1, hN.2.2.2.2.2.2.2.2.1, hN.2.2.2.2.2.2.2.2.2⟩
  clear HS10 hN hR HK HP hb hbt
  clear rowY_ss
  have hc0 := (HS11.out.1).facts.1
  have hf0 := (HS11.out.1).facts.2
  have hz0 := (HS11.out.1).lt
  have hc2 := (HS11.out.2.2.1).facts.1
  have hf2 := (HS11.out.2.2.1).facts.2
  have hz2 := (HS11.out.2.2.1).lt
  go_wp2_with fail
  clear hc0 hf0 hz0
  clear hc2 hf2 hz2
  refine (toFloat32S_row xs _ _ _ (Holds.below HX_xs.out HS11.out.2.2.2.2) hn_xs).mono ?_
  rintro e w12 ⟨aoY_xs, rfl, rowY_xs, hb⟩
  have z12 : w11.heap.size ≤ w12.heap.size := hb.size
  have HS12 : Hid (Whole w12 w.heap.size 27 #[.int .i64 sn, .slice ao_ss ss.length c_ss] ∧ Row w12 w5.heap.size w6.heap.size aoX_ss (fl .f32 ss) ∧ Whole w12 w6.heap.size 34 #[.int .i64 sn, .slice aoX_ss ss.length ss.length] ∧ Row w12 w7.heap.size w8.heap.size aoX_xs (fl .f32 xs) ∧ Row w12 w11.heap.size w12.heap.size aoY_xs (fl .f32 xs) ∧ Below w.heap.size w w12) := Lib.hid ⟨HS11.out.1.below hb, HS11.out.2.1.below hb, HS11.out.2.2.1.below hb, HS11.out.2.2.2.1.below hb, rowY_xs, Bel_next HS11.out.2.2.2.2 hb⟩
  clear HS11 hb rowY_xs
  have hc0 := (HS12.out.1).facts.1
  have hf0 := (HS12.out.1).facts.2
  have hz0 := (HS12.out.1).lt
  have hc2 := (HS12.out.2.2.1).facts.1
  have hf2 := (HS12.out.2.2.1).facts.2
  have hz2 := (HS12.out.2.2.1).lt
  go_wp2_with fail
  clear hc0 hf0 hz0
  clear hc2 hf2 hz2
  refine (eqFloat32S_same xs _ rfl _ _ _ _ _ HS12.out.2.2.2.1.holds HS12.out.2.2.2.2.1.holds (by omega)).mono ?_
  rintro e w13 ⟨rfl, hb⟩
  have z13 : w12.heap.size ≤ w13.heap.size := hb.size
  have HS13 : Hid (Whole w13 w.heap.size 27 #[.int .i64 sn, .slice ao_ss ss.length c_ss] ∧ Row w13 w5.heap.size w6.heap.size aoX_ss (fl .f32 ss) ∧ Whole w13 w6.heap.size 34 #[.int .i64 sn, .slice aoX_ss ss.length ss.length] ∧ Row w13 w7.heap.size w8.heap.size aoX_xs (fl .f32 xs) ∧ Row w13 w11.heap.size w12.heap.size aoY_xs (fl .f32 xs) ∧ Below w.heap.size w w13) := Lib.hid ⟨HS12.out.1.below hb, HS12.out.2.1.below hb, HS12.out.2.2.1.below hb, HS12.out.2.2.2.1.below hb, HS12.out.2.2.2.2.1.below hb, Bel_next HS12.out.2.2.2.2.2 hb⟩
  clear HS12 hb
  have HSn : Hid (Whole w13 w.heap.size 27 #[.int .i64 sn, .slice ao_ss ss.length c_ss] ∧ Row w13 w5.heap.size w6.heap.size aoX_ss (fl .f32 ss) ∧ Whole w13 w6.heap.size 34 #[.int .i64 sn, .slice aoX_ss ss.length ss.length] ∧ Row w13 w7.heap.size w8.heap.size aoX_xs (fl .f32 xs) ∧ Below w.heap.size w w13) := Lib.hid ⟨HS13.out.1, HS13.out.2.1, HS13.out.2.2.1, HS13.out.2.2.2.1, HS13.out.2.2.2.2.2⟩
  clear HS13
  have HS13 := HSn
  clear HSn
  have hc0 := (HS13.out.1).facts.1
  have hf0 := (HS13.out.1).facts.2
  have hz0 := (HS13.out.1).lt
  have hc2 := (HS13.out.2.2.1).facts.1
  have hf2 := (HS13.out.2.2.1).facts.2
  have hz2 := (HS13.out.2.2.1).lt
  go_wp2_with fail
  clear hc0 hf0 hz0
  clear hc2 hf2 hz2
  go_ret
  exact ⟨rfl, Bel_next HS13.out.2.2.2.2 (by repeat (first | with_reducible exact Below.refl _ _ | with_reducible refine Below.drew ?_ | with_reducible refine Bel_drewN ?_ _ | with_reducible refine Below.alloc ?_ (by first | omega | (simp; done) | (simp; omega)) _ | with_reducible refine Below.setCell ?_ (by first | omega | (simp; done) | (simp; omega)) _))⟩
end Go.Proofs.Ytgeomaeccalceaa
