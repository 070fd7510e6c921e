/- The walk of the law FnExactSameChain. -/
import Derived.Test.YtfbllggnndodoaaSch
import Derived.Test.YtfbllggnndodoaaSChain
import Derived.Deep.RegionHeld3
import Derived.Deep.DeepCutAuto
namespace Go.Proofs.Ytfbllggnndodoaa
open Go Go.RowKit Fl
set_option linter.unusedVariables false

set_option maxRecDepth 100000 in
set_option maxHeartbeats 20000000 in
theorem FnExactSameChain_walk (sn : Int) (h_sn : (Lit.int .i64 sn).wf = true) (xs : List Nat) (ao_xs : Option Addr) (c_xs : Nat) (h_xs : ∀ x ∈ xs, (Lit.float .f32 x).wf = true) (m_xs : xs.length ≤ 9223372036854775807) (tn : Int) (h_tn : (Lit.int .i64 tn).wf = true) (us : List Nat) (ao_us : Option Addr) (c_us : Nat) (h_us : ∀ x ∈ us, (Lit.float .f32 x).wf = true) (m_us : us.length ≤ 9223372036854775807) (w : World) (hx_xs : Holds w ao_xs (fl .f32 xs)) (hx_us : Holds w ao_us (fl .f32 us)) :
    Calls Try.prog 4 #[.agg #[.int .i64 sn, .slice ao_xs xs.length c_xs], .agg #[.int .i64 tn, .slice ao_us us.length c_us]] w fun e w' => e = .returned (.bool true) ∧ Below w.heap.size w w' := by
  by_cases hl0 : xs.length ≤ 1048576
  case neg =>
    have HL0 := Lib.hid hl0
    clear hl0
    go_enter Try.func4, Try.ntmps4
    have HS0 : Hid (Below w.heap.size w w) := Lib.hid (Below.refl _ _)
    go_wp2_with fail
    generalize hW : World.alloc (World.alloc w _) _ = w1
    have hb : Below w.heap.size w w1 := by rw [← hW]; exact (by repeat (first | with_reducible exact Below.refl _ _ | with_reducible refine Below.drew ?_ | with_reducible refine Bel_drewN ?_ _ | with_reducible refine Below.alloc ?_ (by first | omega | (simp; done) | (simp; omega)) _ | with_reducible refine Below.setCell ?_ (by first | omega | (simp; done) | (simp; omega)) _))
    have z1 : w.heap.size + 2 ≤ w1.heap.size := by rw [← hW]; simp
    have HS1 : Hid (Whole w1 w.heap.size 24 #[.int .i64 sn, .slice ao_xs xs.length c_xs] ∧ Whole w1 (w.heap.size + 1) 24 #[.int .i64 tn, .slice ao_us us.length c_us] ∧ Below w.heap.size w w1) := Lib.hid ⟨by rw [← hW]; exact (Whole.made _ _ _).alloc _, by rw [← hW]; exact Whole.made2 _ _ _ _, Bel_next HS0.out hb⟩
    clear HS0 hW hb
    refine (szChain_no sn xs _ _ (1048576) _ HL0.out (by omega) m_xs).mono ?_
    rintro e w2 ⟨rfl, hb⟩
    have z2 : w1.heap.size ≤ w2.heap.size := hb.size
    have HS2 : Hid (Whole w2 w.heap.size 24 #[.int .i64 sn, .slice ao_xs xs.length c_xs] ∧ Whole w2 (w.heap.size + 1) 24 #[.int .i64 tn, .slice ao_us us.length c_us] ∧ Below w.heap.size w w2) := Lib.hid ⟨HS1.out.1.below hb, HS1.out.2.1.below hb, Bel_next HS1.out.2.2 hb⟩
    clear HS1 hb
    have hc0 := (HS2.out.1).facts.1
    have hf0 := (HS2.out.1).facts.2
    have hz0 := (HS2.out.1).lt
    have hc1 := (HS2.out.2.1).facts.1
    have hf1 := (HS2.out.2.1).facts.2
    have hz1 := (HS2.out.2.1).lt
    go_wp2_with fail
    clear hc0 hf0 hz0
    clear hc1 hf1 hz1
    go_ret
    exact ⟨rfl, Bel_next HS2.out.2.2 (by repeat (first | with_reducible exact Below.refl _ _ | with_reducible refine Below.drew ?_ | with_reducible refine Bel_drewN ?_ _ | with_reducible refine Below.alloc ?_ (by first | omega | (simp; done) | (simp; omega)) _ | with_reducible refine Below.setCell ?_ (by first | omega | (simp; done) | (simp; omega)) _))⟩
  have HL0 := Lib.hid hl0
  by_cases hl1 : us.length ≤ 1048576 - (xs.length)
  case neg =>
    have HL1 := Lib.hid hl1
    clear hl1
    go_enter Try.func4, Try.ntmps4
    have HS0 : Hid (Below w.heap.size w w) := Lib.hid (Below.refl _ _)
    go_wp2_with fail
    generalize hW : World.alloc (World.alloc w _) _ = w1
    have hb : Below w.heap.size w w1 := by rw [← hW]; exact (by repeat (first | with_reducible exact Below.refl _ _ | with_reducible refine Below.drew ?_ | with_reducible refine Bel_drewN ?_ _ | with_reducible refine Below.alloc ?_ (by first | omega | (simp; done) | (simp; omega)) _ | with_reducible refine Below.setCell ?_ (by first | omega | (simp; done) | (simp; omega)) _))
    have z1 : w.heap.size + 2 ≤ w1.heap.size := by rw [← hW]; simp
    have HS1 : Hid (Whole w1 w.heap.size 24 #[.int .i64 sn, .slice ao_xs xs.length c_xs] ∧ Whole w1 (w.heap.size + 1) 24 #[.int .i64 tn, .slice ao_us us.length c_us] ∧ Below w.heap.size w w1) := Lib.hid ⟨by rw [← hW]; exact (Whole.made _ _ _).alloc _, by rw [← hW]; exact Whole.made2 _ _ _ _, Bel_next HS0.out hb⟩
    clear HS0 hW hb
    refine (szChain_yes sn xs _ _ (1048576) _ HL0.out (by omega)).mono ?_
    rintro e w2 ⟨rfl, hb⟩
    have z2 : w1.heap.size ≤ w2.heap.size := hb.size
    have HS2 : Hid (Whole w2 w.heap.size 24 #[.int .i64 sn, .slice ao_xs xs.length c_xs] ∧ Whole w2 (w.heap.size + 1) 24 #[.int .i64 tn, .slice ao_us us.length c_us] ∧ Below w.heap.size w w2) := Lib.hid ⟨HS1.out.1.below hb, HS1.out.2.1.below hb, Bel_next HS1.out.2.2 hb⟩
    clear HS1 hb
    have hc0 := (HS2.out.1).facts.1
    have hf0 := (HS2.out.1).facts.2
    have hz0 := (HS2.out.1).lt
    have hc1 := (HS2.out.2.1).facts.1
    have hf1 := (HS2.out.2.1).facts.2
    have hz1 := (HS2.out.2.1).lt
    go_wp2_with fail
    clear hc0 hf0 hz0
    clear hc1 hf1 hz1
    refine (szChain_no tn us _ _ (1048576 - (xs.length)) _ HL1.out (by omega) m_us).mono ?_
    rintro e w3 ⟨rfl, hb⟩
    have z3 : w2.heap.size ≤ w3.heap.size := hb.size
    have HS3 : Hid (Whole w3 w.heap.size 24 #[.int .i64 sn, .slice ao_xs xs.length c_xs] ∧ Whole w3 (w.heap.size + 1) 24 #[.int .i64 tn, .slice ao_us us.length c_us] ∧ Below w.heap.size w w3) := Lib.hid ⟨HS2.out.1.below hb, HS2.out.2.1.below hb, Bel_next HS2.out.2.2 hb⟩
    clear HS2 hb
    have hc0 := (HS3.out.1).facts.1
    have hf0 := (HS3.out.1).facts.2
    have hz0 := (HS3.out.1).lt
    have hc1 := (HS3.out.2.1).facts.1
    have hf1 := (HS3.out.2.1).facts.2
    have hz1 := (HS3.out.2.1).lt
    go_wp2_with fail
    clear hc0 hf0 hz0
    clear hc1 hf1 hz1
    go_ret
    exact ⟨rfl, Bel_next HS3.out.2.2 (by repeat (first | with_reducible exact Below.refl _ _ | with_reducible refine Below.drew ?_ | with_reducible refine Bel_drewN ?_ _ | with_reducible refine Below.alloc ?_ (by first | omega | (simp; done) | (simp; omega)) _ | with_reducible refine Below.setCell ?_ (by first | omega | (simp; done) | (simp; omega)) _))⟩
  have HL1 := Lib.hid hl1
  have hn_xs : xs.length ≤ 1048576 := by omega
  have hn_us : us.length ≤ 1048576 := by omega
  clear hl0 hl1
  have HX_xs := Lib.hid hx_xs
  clear hx_xs
  have HX_us := Lib.hid hx_us
  clear hx_us
  by_cases hv0 : sameC sn tn xs us
  · have HV := Lib.hid hv0
    clear hv0
    go_enter Try.func4, Try.ntmps4
    have HS0 : Hid (Below w.heap.size w w) := Lib.hid (Below.refl _ _)
    go_wp2_with fail
    generalize hW : World.alloc (World.alloc w _) _ = w1
    have hb : Below w.heap.size w w1 := by rw [← hW]; exact (by repeat (first | with_reducible exact Below.refl _ _ | with_reducible refine Below.drew ?_ | with_reducible refine Bel_drewN ?_ _ | with_reducible refine Below.alloc ?_ (by first | omega | (simp; done) | (simp; omega)) _ | with_reducible refine Below.setCell ?_ (by first | omega | (simp; done) | (simp; omega)) _))
    have z1 : w.heap.size + 2 ≤ w1.heap.size := by rw [← hW]; simp
    have HS1 : Hid (Whole w1 w.heap.size 24 #[.int .i64 sn, .slice ao_xs xs.length c_xs] ∧ Whole w1 (w.heap.size + 1) 24 #[.int .i64 tn, .slice ao_us us.length c_us] ∧ Below w.heap.size w w1) := Lib.hid ⟨by rw [← hW]; exact (Whole.made _ _ _).alloc _, by rw [← hW]; exact Whole.made2 _ _ _ _, Bel_next HS0.out hb⟩
    clear HS0 hW hb
    refine (szChain_yes sn xs _ _ (1048576) _ HL0.out (by omega)).mono ?_
    rintro e w2 ⟨rfl, hb⟩
    have z2 : w1.heap.size ≤ w2.heap.size := hb.size
    have HS2 : Hid (Whole w2 w.heap.size 24 #[.int .i64 sn, .slice ao_xs xs.length c_xs] ∧ Whole w2 (w.heap.size + 1) 24 #[.int .i64 tn, .slice ao_us us.length c_us] ∧ Below w.heap.size w w2) := Lib.hid ⟨HS1.out.1.below hb, HS1.out.2.1.below hb, Bel_next HS1.out.2.2 hb⟩
    clear HS1 hb
    have hc0 := (HS2.out.1).facts.1
    have hf0 := (HS2.out.1).facts.2
    have hz0 := (HS2.out.1).lt
    have hc1 := (HS2.out.2.1).facts.1
    have hf1 := (HS2.out.2.1).facts.2
    have hz1 := (HS2.out.2.1).lt
    go_wp2_with fail
    clear hc0 hf0 hz0
    clear hc1 hf1 hz1
    refine (szChain_yes tn us _ _ (1048576 - (xs.length)) _ HL1.out (by omega)).mono ?_
    rintro e w3 ⟨rfl, hb⟩
    have z3 : w2.heap.size ≤ w3.heap.size := hb.size
    have HS3 : Hid (Whole w3 w.heap.size 24 #[.int .i64 sn, .slice ao_xs xs.length c_xs] ∧ Whole w3 (w.heap.size + 1) 24 #[.int .i64 tn, .slice ao_us us.length c_us] ∧ Below w.heap.size w w3) := Lib.hid ⟨HS2.out.1.below hb, HS2.out.2.1.below hb, Bel_next HS2.out.2.2 hb⟩
    clear HS2 hb
    have hc0 := (HS3.out.1).facts.1
    have hf0 := (HS3.out.1).facts.2
    have hz0 := (HS3.out.1).lt
    have hc1 := (HS3.out.2.1).facts.1
    have hf1 := (HS3.out.2.1).facts.2
    have hz1 := (HS3.out.2.1).lt
    go_wp2_with fail
    clear hc0 hf0 hz0
    clear hc1 hf1 hz1
    have HK : Hid (∀ v v' : World, (v.cell? ⟨w.heap.size, 0, none⟩ = some (.int .i64 sn) ∧ v.cell? ⟨w.heap.size, 1, none⟩ = some (.slice ao_xs xs.length c_xs) ∧ v.cell? ⟨(w.heap.size + 1), 0, none⟩ = some (.int .i64 tn) ∧ v.cell? ⟨(w.heap.size + 1), 1, none⟩ = some (.slice ao_us us.length c_us) ∧ w3.heap.size ≤ v.heap.size ∧ Whole v w.heap.size 24 #[.int .i64 sn, .slice ao_xs xs.length c_xs] ∧ Whole v (w.heap.size + 1) 24 #[.int .i64 tn, .slice ao_us us.length c_us] ∧ Below w.heap.size w v) → Below v.heap.size v v' → (v'.cell? ⟨w.heap.size, 0, none⟩ = some (.int .i64 sn) ∧ v'.cell? ⟨w.heap.size, 1, none⟩ = some (.slice ao_xs xs.length c_xs) ∧ v'.cell? ⟨(w.heap.size + 1), 0, none⟩ = some (.int .i64 tn) ∧ v'.cell? ⟨(w.heap.size + 1), 1, none⟩ = some (.slice ao_us us.length c_us) ∧ w3.heap.size ≤ v'.heap.size ∧ Whole v' w.heap.size 24 #[.int .i64 sn, .slice ao_xs xs.length c_xs] ∧ Whole v' (w.heap.size + 1) 24 #[.int .i64 tn, .slice ao_us us.length c_us] ∧ Below w.heap.size w v')) := Lib.hid (fun v v' h hb => ⟨(by rw [Below.cell hb (World.block_lt_of_cell? _ _ h.1)]; exact h.1), (by rw [Below.cell hb (World.block_lt_of_cell? _ _ h.2.1)]; exact h.2.1), (by rw [Below.cell hb (World.block_lt_of_cell? _ _ h.2.2.1)]; exact h.2.2.1), (by rw [Below.cell hb (World.block_lt_of_cell? _ _ h.2.2.2.1)]; exact h.2.2.2.1), Nat.le_trans h.2.2.2.2.1 hb.size, h.2.2.2.2.2.1.below hb, h.2.2.2.2.2.2.1.below hb, Bel_next h.2.2.2.2.2.2.2 hb⟩)
    have HP : Hid (∀ v : World, (v.cell? ⟨w.heap.size, 0, none⟩ = some (.int .i64 sn) ∧ v.cell? ⟨w.heap.size, 1, none⟩ = some (.slice ao_xs xs.length c_xs) ∧ v.cell? ⟨(w.heap.size + 1), 0, none⟩ = some (.int .i64 tn) ∧ v.cell? ⟨(w.heap.size + 1), 1, none⟩ = some (.slice ao_us us.length c_us) ∧ w3.heap.size ≤ v.heap.size ∧ Whole v w.heap.size 24 #[.int .i64 sn, .slice ao_xs xs.length c_xs] ∧ Whole v (w.heap.size + 1) 24 #[.int .i64 tn, .slice ao_us us.length c_us] ∧ Below w.heap.size w v) → (Whole v w.heap.size 24 #[.int .i64 sn, .slice ao_xs xs.length c_xs] ∧ Whole v (w.heap.size + 1) 24 #[.int .i64 tn, .slice ao_us us.length c_us] ∧ Below w.heap.size w v)) := Lib.hid (fun v h => h.2.2.2.2.2)
    have hR : w3.cell? ⟨w.heap.size, 0, none⟩ = some (.int .i64 sn) ∧ w3.cell? ⟨w.heap.size, 1, none⟩ = some (.slice ao_xs xs.length c_xs) ∧ w3.cell? ⟨(w.heap.size + 1), 0, none⟩ = some (.int .i64 tn) ∧ w3.cell? ⟨(w.heap.size + 1), 1, none⟩ = some (.slice ao_us us.length c_us) ∧ w3.heap.size ≤ w3.heap.size ∧ Whole w3 w.heap.size 24 #[.int .i64 sn, .slice ao_xs xs.length c_xs] ∧ Whole w3 (w.heap.size + 1) 24 #[.int .i64 tn, .slice ao_us us.length c_us] ∧ Below w.heap.size w w3 := ⟨(HS3.out.1).cell 0, (HS3.out.1).cell 1, (HS3.out.2.1).cell 0, (HS3.out.2.1).cell 1, Nat.le_refl _, HS3.out.1, HS3.out.2.1, HS3.out.2.2⟩
    go_region_held3 (fun v => v.cell? ⟨w.heap.size, 0, none⟩ = some (.int .i64 sn) ∧ v.cell? ⟨w.heap.size, 1, none⟩ = some (.slice ao_xs xs.length c_xs) ∧ v.cell? ⟨(w.heap.size + 1), 0, none⟩ = some (.int .i64 tn) ∧ v.cell? ⟨(w.heap.size + 1), 1, none⟩ = some (.slice ao_us us.length c_us) ∧ w3.heap.size ≤ v.heap.size ∧ Whole v w.heap.size 24 #[.int .i64 sn, .slice ao_xs xs.length c_xs] ∧ Whole v (w.heap.size + 1) 24 #[.int .i64 tn, .slice ao_us us.length c_us] ∧ Below w.heap.size w v)
      (first | assumption | exact HK.out _ _ (by assumption) (by assumption) | exact HK.out _ _ (by assumption) ((Below.refl _ _).drew) | (refine HK.out _ _ (by assumption) ?_; (repeat (first | with_reducible exact Below.refl _ _ | with_reducible refine Below.drew ?_ | with_reducible refine Bel_drewN ?_ _ | with_reducible refine Below.alloc ?_ (by first | omega | (simp; done) | (simp; omega)) _ | with_reducible refine Below.setCell ?_ (by first | omega | (simp; done) | (simp; omega)) _)); done))
      (first | (go_at_call 17; (with_reducible (refine (toChain_any sn xs _ _ _ (Holds.below HX_xs.out (HP.out _ (by assumption)).2.2) hn_xs).mono ?_)); rintro e wt0 ⟨aosd_xs, rfl, rowsd_xs, hbt0⟩) | (go_at_call 17; (with_reducible (refine (toChain_any tn us _ _ _ (Holds.below HX_us.out (HP.out _ (by assumption)).2.2) hn_us).mono ?_)); rintro e wt1 ⟨aosd_us, rfl, rowsd_us, hbt1⟩) | (go_at_call 20; refine ((specSameC_any sn tn xs us _ _ _ _ _ (by first | exact ((Row.below rowsd_xs (by first | exact hbt1 | exact Bel_next (Below.refl _ _).drew hbt1))).holds | (refine (Row.below (Row.below rowsd_xs (by first | exact hbt1 | exact Bel_next (Below.refl _ _).drew hbt1)) ?_).holds; (repeat (first | with_reducible exact Below.refl _ _ | with_reducible refine Below.drew ?_ | with_reducible refine Bel_drewN ?_ _ | with_reducible refine Below.alloc ?_ (by first | omega | (simp; done) | (simp; omega)) _ | with_reducible refine Below.setCell ?_ (by first | omega | (simp; done) | (simp; omega)) _)); done)) (by first | exact (rowsd_us).holds | (refine (Row.below rowsd_us ?_).holds; (repeat (first | with_reducible exact Below.refl _ _ | with_reducible refine Below.drew ?_ | with_reducible refine Bel_drewN ?_ _ | with_reducible refine Below.alloc ?_ (by first | omega | (simp; done) | (simp; omega)) _ | with_reducible refine Below.setCell ?_ (by first | omega | (simp; done) | (simp; omega)) _)); done)) hn_xs hn_us h_xs h_us).mono fun e w1 h => Bo.yes HV.out h).mono ?_; rintro e w4 ⟨rfl, hb⟩))
    have hN := (HK.out _ _ (HK.out _ _ (HK.out _ _ hR (by first | exact hbt0 | exact Bel_next (Below.refl _ _).drew hbt0)) (by first | exact hbt1 | exact Bel_next (Below.refl _ _).drew hbt1)) (by first | exact hb | exact Bel_next (Below.refl _ _).drew hb))
    have z4 : w3.heap.size ≤ w4.heap.size := hN.2.2.2.2.1
    have HS4 : Hid (Whole w4 w.heap.size 24 #[.int .i64 sn, .slice ao_xs xs.length c_xs] ∧ Whole w4 (w.heap.size + 1) 24 #[.int .i64 tn, .slice ao_us us.length c_us] ∧ Below w.heap.size w w4) := Lib.hid ⟨hN.2.2.2.2.2.1, hN.2.2.2.2.2.2.1, hN.2.2.2.2.2.2.2⟩
    clear HS3 hN hR HK HP hb hbt0 hbt1
    clear rowsd_xs rowsd_us
    have hc0 := (HS4.out.1).facts.1
    have hf0 := (HS4.out.1).facts.2
    have hz0 := (HS4.out.1).lt
    have hc1 := (HS4.out.2.1).facts.1
    have hf1 := (HS4.out.2.1).facts.2
    have hz1 := (HS4.out.2.1).lt
    go_wp2_with fail
    clear hc0 hf0 hz0
    clear hc1 hf1 hz1
    refine (toChain_any sn xs _ _ _ (Holds.below HX_xs.out HS4.out.2.2) hn_xs).mono ?_
    rintro e w5 ⟨aoX_xs, rfl, rowX_xs, hb⟩
    have z5 : w4.heap.size ≤ w5.heap.size := hb.size
    have HS5 : Hid (Whole w5 w.heap.size 24 #[.int .i64 sn, .slice ao_xs xs.length c_xs] ∧ Whole w5 (w.heap.size + 1) 24 #[.int .i64 tn, .slice ao_us us.length c_us] ∧ Row w5 w4.heap.size w5.heap.size aoX_xs (fl .f32 xs) ∧ Below w.heap.size w w5) := Lib.hid ⟨HS4.out.1.below hb, HS4.out.2.1.below hb, rowX_xs, Bel_next HS4.out.2.2 hb⟩
    clear HS4 hb rowX_xs
    have hc0 := (HS5.out.1).facts.1
    have hf0 := (HS5.out.1).facts.2
    have hz0 := (HS5.out.1).lt
    have hc1 := (HS5.out.2.1).facts.1
    have hf1 := (HS5.out.2.1).facts.2
    have hz1 := (HS5.out.2.1).lt
    go_wp2_with fail
    clear hc0 hf0 hz0
    clear hc1 hf1 hz1
    generalize hW : World.alloc w5 _ = w6
    have hb : Below w5.heap.size w5 w6 := by rw [← hW]; exact (by repeat (first | with_reducible exact Below.refl _ _ | with_reducible refine Below.drew ?_ | with_reducible refine Bel_drewN ?_ _ | with_reducible refine Below.alloc ?_ (by first | omega | (simp; done) | (simp; omega)) _ | with_reducible refine Below.setCell ?_ (by first | omega | (simp; done) | (simp; omega)) _))
    have z6 : w5.heap.size + 1 ≤ w6.heap.size := by rw [← hW]; simp
    have HS6 : Hid (Whole w6 w.heap.size 24 #[.int .i64 sn, .slice ao_xs xs.length c_xs] ∧ Whole w6 (w.heap.size + 1) 24 #[.int .i64 tn, .slice ao_us us.length c_us] ∧ Row w6 w4.heap.size w5.heap.size aoX_xs (fl .f32 xs) ∧ Whole w6 w5.heap.size 27 #[.int .i64 sn, .slice aoX_xs xs.length xs.length] ∧ Below w.heap.size w w6) := Lib.hid ⟨HS5.out.1.below hb, HS5.out.2.1.below hb, HS5.out.2.2.1.below hb, by rw [← hW]; exact Whole.made _ _ _, Bel_next HS5.out.2.2.2 hb⟩
    clear HS5 hW hb
    refine (toChain_any tn us _ _ _ (Holds.below HX_us.out HS6.out.2.2.2.2) hn_us).mono ?_
    rintro e w7 ⟨aoX_us, rfl, rowX_us, hb⟩
    have z7 : w6.heap.size ≤ w7.heap.size := hb.size
    have HS7 : Hid (Whole w7 w.heap.size 24 #[.int .i64 sn, .slice ao_xs xs.length c_xs] ∧ Whole w7 (w.heap.size + 1) 24 #[.int .i64 tn, .slice ao_us us.length c_us] ∧ Row w7 w4.heap.size w5.heap.size aoX_xs (fl .f32 xs) ∧ Whole w7 w5.heap.size 27 #[.int .i64 sn, .slice aoX_xs xs.length xs.length] ∧ Row w7 w6.heap.size w7.heap.size aoX_us (fl .f32 us) ∧ Below w.heap.size w w7) := Lib.hid ⟨HS6.out.1.below hb, HS6.out.2.1.below hb, HS6.out.2.2.1.below hb, HS6.out.2.2.2.1.below hb, rowX_us, Bel_next HS6.out.2.2.2.2 hb⟩
    clear HS6 hb rowX_us
    have hc0 := (HS7.out.1).facts.1
    have hf0 := (HS7.out.1).facts.2
    have hz0 := (HS7.out.1).lt
    have hc1 := (HS7.out.2.1).facts.1
    have hf1 := (HS7.out.2.1).facts.2
    have hz1 := (HS7.out.2.1).lt
    have hc3 := (HS7.out.2.2.2.1).facts.1
    have hf3 := (HS7.out.2.2.2.1).facts.2
    have hz3 := (HS7.out.2.2.2.1).lt
    go_wp2_with fail
    clear hc0 hf0 hz0
    clear hc1 hf1 hz1
    clear hc3 hf3 hz3
    generalize hW : World.alloc w7 _ = w8
    have hb : Below w7.heap.size w7 w8 := by rw [← hW]; exact (by repeat (first | with_reducible exact Below.refl _ _ | with_reducible refine Below.drew ?_ | with_reducible refine Bel_drewN ?_ _ | with_reducible refine Below.alloc ?_ (by first | omega | (simp; done) | (simp; omega)) _ | with_reducible refine Below.setCell ?_ (by first | omega | (simp; done) | (simp; omega)) _))
    have z8 : w7.heap.size + 1 ≤ w8.heap.size := by rw [← hW]; simp
    have HS8 : Hid (Whole w8 w.heap.size 24 #[.int .i64 sn, .slice ao_xs xs.length c_xs] ∧ Whole w8 (w.heap.size + 1) 24 #[.int .i64 tn, .slice ao_us us.length c_us] ∧ Row w8 w4.heap.size w5.heap.size aoX_xs (fl .f32 xs) ∧ Whole w8 w5.heap.size 27 #[.int .i64 sn, .slice aoX_xs xs.length xs.length] ∧ Row w8 w6.heap.size w7.heap.size aoX_us (fl .f32 us) ∧ Whole w8 w7.heap.size 27 #[.int .i64 tn, .slice aoX_us us.length us.length] ∧ Below w.heap.size w w8) := Lib.hid ⟨HS7.out.1.below hb, HS7.out.2.1.below hb, HS7.out.2.2.1.below hb, HS7.out.2.2.2.1.below hb, HS7.out.2.2.2.2.1.below hb, by rw [← hW]; exact Whole.made _ _ _, Bel_next HS7.out.2.2.2.2.2 hb⟩
    clear HS7 hW hb
    refine ((implSameC_any sn tn xs us _ _ _ _ _ (HS8.out.2.2.1).holds (HS8.out.2.2.2.2.1).holds hn_xs hn_us h_xs h_us).mono fun e w1 h => Bo.yes HV.out h).mono ?_
    rintro e w9 ⟨rfl, hb⟩
    have z9 : w8.heap.size ≤ w9.heap.size := hb.size
    have HS9 : Hid (Whole w9 w.heap.size 24 #[.int .i64 sn, .slice ao_xs xs.length c_xs] ∧ Whole w9 (w.heap.size + 1) 24 #[.int .i64 tn, .slice ao_us us.length c_us] ∧ Row w9 w4.heap.size w5.heap.size aoX_xs (fl .f32 xs) ∧ Whole w9 w5.heap.size 27 #[.int .i64 sn, .slice aoX_xs xs.length xs.length] ∧ Row w9 w6.heap.size w7.heap.size aoX_us (fl .f32 us) ∧ Whole w9 w7.heap.size 27 #[.int .i64 tn, .slice aoX_us us.length us.length] ∧ Below w.heap.size w w9) := Lib.hid ⟨HS8.out.1.below hb, HS8.out.2.1.below hb, HS8.out.2.2.1.below hb, HS8.out.2.2.2.1.below hb, HS8.out.2.2.2.2.1.below hb, HS8.out.2.2.2.2.2.1.below hb, Bel_next HS8.out.2.2.2.2.2.2 hb⟩
    clear HS8 hb
    have HSn : Hid (Whole w9 w.heap.size 24 #[.int .i64 sn, .slice ao_xs xs.length c_xs] ∧ Whole w9 (w.heap.size + 1) 24 #[.int .i64 tn, .slice ao_us us.length c_us] ∧ Row w9 w4.heap.size w5.heap.size aoX_xs (fl .f32 xs) ∧ Whole w9 w5.heap.size 27 #[.int .i64 sn, .slice aoX_xs xs.length xs.length] ∧ Row w9 w6.heap.size w7.heap.size aoX_us (fl .f32 us) ∧ Whole w9 w7.heap.size 27 #[.int .i64 tn, .slice aoX_us us.length us.length] ∧ Below w.heap.size w w9) := Lib.hid ⟨HS9.out.1, HS9.out.2.1, HS9.out.2.2.1, HS9.out.2.2.2.1, HS9.out.2.2.2.2.1, HS9.out.2.2.2.2.2.1, HS9.out.2.2.2.2.2.2⟩
    clear HS9
    have HS9 := HSn
    clear HSn
    have hc0 := (HS9.out.1).facts.1
    have hf0 := (HS9.out.1).facts.2
    have hz0 := (HS9.out.1).lt
    have hc1 := (HS9.out.2.1).facts.1
    have hf1 := (HS9.out.2.1).facts.2
    have hz1 := (HS9.out.2.1).lt
    have hc3 := (HS9.out.2.2.2.1).facts.1
    have hf3 := (HS9.out.2.2.2.1).facts.2
    have hz3 := (HS9.out.2.2.2.1).lt
    have hc5 := (HS9.out.2.2.2.2.2.1).facts.1
    have hf5 := (HS9.out.2.2.2.2.2.1).facts.2
    have hz5 := (HS9.out.2.2.2.2.2.1).lt
    go_wp2_with fail
    clear hc0 hf0 hz0
    clear hc1 hf1 hz1
    clear hc3 hf3 hz3
    clear hc5 hf5 hz5
    have HK : Hid (∀ v v' : World, (v.cell? ⟨w5.heap.size, 0, none⟩ = some (.int .i64 sn) ∧ v.cell? ⟨w5.heap.size, 1, none⟩ = some (.slice aoX_xs xs.length xs.length) ∧ v.cell? ⟨w.heap.size, 0, none⟩ = some (.int .i64 sn) ∧ v.cell? ⟨w.heap.size, 1, none⟩ = some (.slice ao_xs xs.length c_xs) ∧ w9.heap.size ≤ v.heap.size ∧ Whole v w.heap.size 24 #[.int .i64 sn, .slice ao_xs xs.length c_xs] ∧ Whole v (w.heap.size + 1) 24 #[.int .i64 tn, .slice ao_us us.length c_us] ∧ Row v w4.heap.size w5.heap.size aoX_xs (fl .f32 xs) ∧ Whole v w5.heap.size 27 #[.int .i64 sn, .slice aoX_xs xs.length xs.length] ∧ Row v w6.heap.size w7.heap.size aoX_us (fl .f32 us) ∧ Whole v w7.heap.size 27 #[.int .i64 tn, .slice aoX_us us.length us.length] ∧ Below w.heap.size w v) → Below v.heap.size v v' → (v'.cell? ⟨w5.heap.size, 0, none⟩ = some (.int .i64 sn) ∧ v'.cell? ⟨w5.heap.size, 1, none⟩ = some (.slice aoX_xs xs.length xs.length) ∧ v'.cell? ⟨w.heap.size, 0, none⟩ = some (.int .i64 sn) ∧ v'.cell? ⟨w.heap.size, 1, none⟩ = some (.slice ao_xs xs.length c_xs) ∧ w9.heap.size ≤ v'.heap.size ∧ Whole v' w.heap.size 24 #[.int .i64 sn, .slice ao_xs xs.length c_xs] ∧ Whole v' (w.heap.size + 1) 24 #[.int .i64 tn, .slice ao_us us.length c_us] ∧ Row v' w4.heap.size w5.heap.size aoX_xs (fl .f32 xs) ∧ Whole v' w5.heap.size 27 #[.int .i64 sn, .slice aoX_xs xs.length xs.length] ∧ Row v' w6.heap.size w7.heap.size aoX_us (fl .f32 us) ∧ Whole v' w7.heap.size 27 #[.int .i64 tn, .slice aoX_us us.length us.length] ∧ Below w.heap.size w v')) := Lib.hid (fun v v' h hb => ⟨(by rw [Below.cell hb (World.block_lt_of_cell? _ _ h.1)]; exact h.1), (by rw [Below.cell hb (World.block_lt_of_cell? _ _ h.2.1)]; exact h.2.1), (by rw [Below.cell hb (World.block_lt_of_cell? _ _ h.2.2.1)]; exact h.2.2.1), (by rw [Below.cell hb (World.block_lt_of_cell? _ _ h.2.2.2.1)]; exact h.2.2.2.1), Nat.le_trans h.2.2.2.2.1 hb.size, h.2.2.2.2.2.1.below hb, h.2.2.2.2.2.2.1.below hb, h.2.2.2.2.2.2.2.1.below hb, h.2.2.2.2.2.2.2.2.1.below hb, h.2.2.2.2.2.2.2.2.2.1.below hb, h.2.2.2.2.2.2.2.2.2.2.1.below hb, Bel_next h.2.2.2.2.2.2.2.2.2.2.2 hb⟩)
    have HP : Hid (∀ v : World, (v.cell? ⟨w5.heap.size, 0, none⟩ = some (.int .i64 sn) ∧ v.cell? ⟨w5.heap.size, 1, none⟩ = some (.slice aoX_xs xs.length xs.length) ∧ v.cell? ⟨w.heap.size, 0, none⟩ = some (.int .i64 sn) ∧ v.cell? ⟨w.heap.size, 1, none⟩ = some (.slice ao_xs xs.length c_xs) ∧ w9.heap.size ≤ v.heap.size ∧ Whole v w.heap.size 24 #[.int .i64 sn, .slice ao_xs xs.length c_xs] ∧ Whole v (w.heap.size + 1) 24 #[.int .i64 tn, .slice ao_us us.length c_us] ∧ Row v w4.heap.size w5.heap.size aoX_xs (fl .f32 xs) ∧ Whole v w5.heap.size 27 #[.int .i64 sn, .slice aoX_xs xs.length xs.length] ∧ Row v w6.heap.size w7.heap.size aoX_us (fl .f32 us) ∧ Whole v w7.heap.size 27 #[.int .i64 tn, .slice aoX_us us.length us.length] ∧ Below w.heap.size w v) → (Whole v w.heap.size 24 #[.int .i64 sn, .slice ao_xs xs.length c_xs] ∧ Whole v (w.heap.size + 1) 24 #[.int .i64 tn, .slice ao_us us.length c_us] ∧ Row v w4.heap.size w5.heap.size aoX_xs (fl .f32 xs) ∧ Whole v w5.heap.size 27 #[.int .i64 sn, .slice aoX_xs xs.length xs.length] ∧ Row v w6.heap.size w7.heap.size aoX_us (fl .f32 us) ∧ Whole v w7.heap.size 27 #[.int .i64 tn, .slice aoX_us us.length us.length] ∧ Below w.heap.size w v)) := Lib.hid (fun v h => h.2.2.2.2.2)
    have hR : w9.cell? ⟨w5.heap.size, 0, none⟩ = some (.int .i64 sn) ∧ w9.cell? ⟨w5.heap.size, 1, none⟩ = some (.slice aoX_xs xs.length xs.length) ∧ w9.cell? ⟨w.heap.size, 0, none⟩ = some (.int .i64 sn) ∧ w9.cell? ⟨w.heap.size, 1, none⟩ = some (.slice ao_xs xs.length c_xs) ∧ w9.heap.size ≤ w9.heap.size ∧ Whole w9 w.heap.size 24 #[.int .i64 sn, .slice ao_xs xs.length c_xs] ∧ Whole w9 (w.heap.size + 1) 24 #[.int .i64 tn, .slice ao_us us.length c_us] ∧ Row w9 w4.heap.size w5.heap.size aoX_xs (fl .f32 xs) ∧ Whole w9 w5.heap.size 27 #[.int .i64 sn, .slice aoX_xs xs.length xs.length] ∧ Row w9 w6.heap.size w7.heap.size aoX_us (fl .f32 us) ∧ Whole w9 w7.heap.size 27 #[.int .i64 tn, .slice aoX_us us.length us.length] ∧ Below w.heap.size w w9 := ⟨(HS9.out.2.2.2.1).cell 0, (HS9.out.2.2.2.1).cell 1, (HS9.out.1).cell 0, (HS9.out.1).cell 1, Nat.le_refl _, HS9.out.1, HS9.out.2.1, HS9.out.2.2.1, HS9.out.2.2.2.1, HS9.out.2.2.2.2.1, HS9.out.2.2.2.2.2.1, HS9.out.2.2.2.2.2.2⟩
    go_region_held3 (fun v => v.cell? ⟨w5.heap.size, 0, none⟩ = some (.int .i64 sn) ∧ v.cell? ⟨w5.heap.size, 1, none⟩ = some (.slice aoX_xs xs.length xs.length) ∧ v.cell? ⟨w.heap.size, 0, none⟩ = some (.int .i64 sn) ∧ v.cell? ⟨w.heap.size, 1, none⟩ = some (.slice ao_xs xs.length c_xs) ∧ w9.heap.size ≤ v.heap.size ∧ Whole v w.heap.size 24 #[.int .i64 sn, .slice ao_xs xs.length c_xs] ∧ Whole v (w.heap.size + 1) 24 #[.int .i64 tn, .slice ao_us us.length c_us] ∧ Row v w4.heap.size w5.heap.size aoX_xs (fl .f32 xs) ∧ Whole v w5.heap.size 27 #[.int .i64 sn, .slice aoX_xs xs.length xs.length] ∧ Row v w6.heap.size w7.heap.size aoX_us (fl .f32 us) ∧ Whole v w7.heap.size 27 #[.int .i64 tn, .slice aoX_us us.length us.length] ∧ Below w.heap.size w v)
      (first | assumption | exact HK.out _ _ (by assumption) (by assumption) | exact HK.out _ _ (by assumption) ((Below.refl _ _).drew) | (refine HK.out _ _ (by assumption) ?_; (repeat (first | with_reducible exact Below.refl _ _ | with_reducible refine Below.drew ?_ | with_reducible refine Bel_drewN ?_ _ | with_reducible refine Below.alloc ?_ (by first | omega | (simp; done) | (simp; omega)) _ | with_reducible refine Below.setCell ?_ (by first | omega | (simp; done) | (simp; omega)) _)); done))
      (first | (go_at_call 17; refine (toChain_any sn xs _ _ _ (Holds.below HX_xs.out (HP.out _ (by assumption)).2.2.2.2.2.2) hn_xs).mono ?_; rintro e wt ⟨aoY_xs, rfl, rowY_xs, hbt⟩) | (go_at_call 19; refine (eqChain_same sn xs _ rfl _ _ _ _ _ ((HP.out _ (by assumption)).2.2.1.holds) (by exact rowY_xs.holds) hn_xs).mono ?_; rintro e w10 ⟨rfl, hb⟩))
    have hN := (HK.out _ _ (HK.out _ _ hR (by first | exact hbt | exact Bel_next (Below.refl _ _).drew hbt)) (by first | exact hb | exact Bel_next (Below.refl _ _).drew hb))
    have z10 : w9.heap.size ≤ w10.heap.size := hN.2.2.2.2.1
    have HS10 : Hid (Whole w10 w.heap.size 24 #[.int .i64 sn, .slice ao_xs xs.length c_xs] ∧ Whole w10 (w.heap.size + 1) 24 #[.int .i64 tn, .slice ao_us us.length c_us] ∧ Row w10 w4.heap.size w5.heap.size aoX_xs (fl .f32 xs) ∧ Whole w10 w5.heap.size 27 #[.int .i64 sn, .slice aoX_xs xs.length xs.length] ∧ Row w10 w6.heap.size w7.heap.size aoX_us (fl .f32 us) ∧ Whole w10 w7.heap.size 27 #[.int .i64 tn, .slice aoX_us us.length us.length] ∧ Below w.heap.size w w10) := Lib.hid ⟨hN.2.2.2.2.2.1, hN.2.2.2.2.2.2.1, hN.2.2.2.2.2.2.2.1, hN.2.2.2.2.2.2.2.2.1, hN.2.2.2.2.2.2.2.2.2.1, hN.2.2.2.2.2.2.2.2.2.2.1, hN.2.2.2.2.2.2.2.2.2.2.2⟩
    clear HS9 hN hR HK HP hb hbt
    clear rowY_xs
    have hc0 := (HS10.out.1).facts.1
    have hf0 := (HS10.out.1).facts.2
    have hz0 := (HS10.out.1).lt
    have hc1 := (HS10.out.2.1).facts.1
    have hf1 := (HS10.out.2.1).facts.2
    have hz1 := (HS10.out.2.1).lt
    have hc3 := (HS10.out.2.2.2.1).facts.1
    have hf3 := (HS10.out.2.2.2.1).facts.2
    have hz3 := (HS10.out.2.2.2.1).lt
    have hc5 := (HS10.out.2.2.2.2.2.1).facts.1
    have hf5 := (HS10.out.2.2.2.2.2.1).facts.2
    have hz5 := (HS10.out.2.2.2.2.2.1).lt
    go_wp2_with fail
    clear hc0 hf0 hz0
    clear hc1 hf1 hz1
    clear hc3 hf3 hz3
    clear hc5 hf5 hz5
    have HK : Hid (∀ v v' : World, (v.cell? ⟨w7.heap.size, 0, none⟩ = some (.int .i64 tn) ∧ v.cell? ⟨w7.heap.size, 1, none⟩ = some (.slice aoX_us us.length us.length) ∧ v.cell? ⟨(w.heap.size + 1), 0, none⟩ = some (.int .i64 tn) ∧ v.cell? ⟨(w.heap.size + 1), 1, none⟩ = some (.slice ao_us us.length c_us) ∧ w10.heap.size ≤ v.heap.size ∧ Whole v w.heap.size 24 #[.int .i64 sn, .slice ao_xs xs.length c_xs] ∧ Whole v (w.heap.size + 1) 24 #[.int .i64 tn, .slice ao_us us.length c_us] ∧ Row v w4.heap.size w5.heap.size aoX_xs (fl .f32 xs) ∧ Whole v w5.heap.size 27 #[.int .i64 sn, .slice aoX_xs xs.length xs.length] ∧ Row v w6.heap.size w7.heap.size aoX_us (fl .f32 us) ∧ Whole v w7.heap.size 27 #[.int .i64 tn, .slice aoX_us us.length us.length] ∧ Below w.heap.size w v) → Below v.heap.size v v' → (v'.cell? ⟨w7.heap.size, 0, none⟩ = some (.int .i64 tn) ∧ v'.cell? ⟨w7.heap.size, 1, none⟩ = some (.slice aoX_us us.length us.length) ∧ v'.cell? ⟨(w.heap.size + 1), 0, none⟩ = some (.int .i64 tn) ∧ v'.cell? ⟨(w.heap.size + 1), 1, none⟩ = some (.slice ao_us us.length c_us) ∧ w10.heap.size ≤ v'.heap.size ∧ Whole v' w.heap.size 24 #[.int .i64 sn, .slice ao_xs xs.length c_xs] ∧ Whole v' (w.heap.size + 1) 24 #[.int .i64 tn, .slice ao_us us.length c_us] ∧ Row v' w4.heap.size w5.heap.size aoX_xs (fl .f32 xs) ∧ Whole v' w5.heap.size 27 #[.int .i64 sn, .slice aoX_xs xs.length xs.length] ∧ Row v' w6.heap.size w7.heap.size aoX_us (fl .f32 us) ∧ Whole v' w7.heap.size 27 #[.int .i64 tn, .slice aoX_us us.length us.length] ∧ Below w.heap.size w v')) := Lib.hid (fun v v' h hb => ⟨(by rw [Below.cell hb (World.block_lt_of_cell? _ _ h.1)]; exact h.1), (by rw [Below.cell hb (World.block_lt_of_cell? _ _ h.2.1)]; exact h.2.1), (by rw [Below.cell hb (World.block_lt_of_cell? _ _ h.2.2.1)]; exact h.2.2.1), (by rw [Below.cell hb (World.block_lt_of_cell? _ _ h.2.2.2.1)]; exact h.2.2.2.1), Nat.le_trans h.2.2.2.2.1 hb.size, h.2.2.2.2.2.1.below hb, h.2.2.2.2.2.2.1.below hb, h.2.2.2.2.2.2.2.1.below hb, h.2.2.2.2.2.2.2.2.1.below hb, h.2.2.2.2.2.2.2.2.2.1.below hb, h.2.2.2.2.2.2.2.2.2.2.1.below hb, Bel_next h.2.2.2.2.2.2.2.2.2.2.2 hb⟩)
    have HP : Hid (∀ v : World, (v.cell? ⟨w7.heap.size, 0, none⟩ = some (.int .i64 tn) ∧ v.cell? ⟨w7.heap.size, 1, none⟩ = some (.slice aoX_us us.length us.length) ∧ v.cell? ⟨(w.heap.size + 1), 0, none⟩ = some (.int .i64 tn) ∧ v.cell? ⟨(w.heap.size + 1), 1, none⟩ = some (.slice ao_us us.length c_us) ∧ w10.heap.size ≤ v.heap.size ∧ Whole v w.heap.size 24 #[.int .i64 sn, .slice ao_xs xs.length c_xs] ∧ Whole v (w.heap.size + 1) 24 #[.int .i64 tn, .slice ao_us us.length c_us] ∧ Row v w4.heap.size w5.heap.size aoX_xs (fl .f32 xs) ∧ Whole v w5.heap.size 27 #[.int .i64 sn, .slice aoX_xs xs.length xs.length] ∧ Row v w6.heap.size w7.heap.size aoX_us (fl .f32 us) ∧ Whole v w7.heap.size 27 #[.int .i64 tn, .slice aoX_us us.length us.length] ∧ Below w.heap.size w v) → (Whole v w.heap.size 24 #[.int .i64 sn, .slice ao_xs xs.length c_xs] ∧ Whole v (w.heap.size + 1) 24 #[.int .i64 tn, .slice ao_us us.length c_us] ∧ Row v w4.heap.size w5.heap.size aoX_xs (fl .f32 xs) ∧ Whole v w5.heap.size 27 #[.int .i64 sn, .slice aoX_xs xs.length xs.length] ∧ Row v w6.heap.size w7.heap.size aoX_us (fl .f32 us) ∧ Whole v w7.heap.size 27 #[.int .i64 tn, .slice aoX_us us.length us.length] ∧ Below w.heap.size w v)) := Lib.hid (fun v h => h.2.2.2.2.2)
    have hR : w10.cell? ⟨w7.heap.size, 0, none⟩ = some (.int .i64 tn) ∧ w10.cell? ⟨w7.heap.size, 1, none⟩ = some (.slice aoX_us us.length us.length) ∧ w10.cell? ⟨(w.heap.size + 1), 0, none⟩ = some (.int .i64 tn) ∧ w10.cell? ⟨(w.heap.size + 1), 1, none⟩ = some (.slice ao_us us.length c_us) ∧ w10.heap.size ≤ w10.heap.size ∧ Whole w10 w.heap.size 24 #[.int .i64 sn, .slice ao_xs xs.length c_xs] ∧ Whole w10 (w.heap.size + 1) 24 #[.int .i64 tn, .slice ao_us us.length c_us] ∧ Row w10 w4.heap.size w5.heap.size aoX_xs (fl .f32 xs) ∧ Whole w10 w5.heap.size 27 #[.int .i64 sn, .slice aoX_xs xs.length xs.length] ∧ Row w10 w6.heap.size w7.heap.size aoX_us (fl .f32 us) ∧ Whole w10 w7.heap.size 27 #[.int .i64 tn, .slice aoX_us us.length us.length] ∧ Below w.heap.size w w10 := ⟨(HS10.out.2.2.2.2.2.1).cell 0, (HS10.out.2.2.2.2.2.1).cell 1, (HS10.out.2.1).cell 0, (HS10.out.2.1).cell 1, Nat.le_refl _, HS10.out.1, HS10.out.2.1, HS10.out.2.2.1, HS10.out.2.2.2.1, HS10.out.2.2.2.2.1, HS10.out.2.2.2.2.2.1, HS10.out.2.2.2.2.2.2⟩
    go_region_held3 (fun v => v.cell? ⟨w7.heap.size, 0, none⟩ = some (.int .i64 tn) ∧ v.cell? ⟨w7.heap.size, 1, none⟩ = some (.slice aoX_us us.length us.length) ∧ v.cell? ⟨(w.heap.size + 1), 0, none⟩ = some (.int .i64 tn) ∧ v.cell? ⟨(w.heap.size + 1), 1, none⟩ = some (.slice ao_us us.length c_us) ∧ w10.heap.size ≤ v.heap.size ∧ Whole v w.heap.size 24 #[.int .i64 sn, .slice ao_xs xs.length c_xs] ∧ Whole v (w.heap.size + 1) 24 #[.int .i64 tn, .slice ao_us us.length c_us] ∧ Row v w4.heap.size w5.heap.size aoX_xs (fl .f32 xs) ∧ Whole v w5.heap.size 27 #[.int .i64 sn, .slice aoX_xs xs.length xs.length] ∧ Row v w6.heap.size w7.heap.size aoX_us (fl .f32 us) ∧ Whole v w7.heap.size 27 #[.int .i64 tn, .slice aoX_us us.length us.length] ∧ Below w.heap.size w v)
      (first | assumption | exact HK.out _ _ (by assumption) (by assumption) | exact HK.out _ _ (by assumption) ((Below.refl _ _).drew) | (refine HK.out _ _ (by assumption) ?_; (repeat (first | with_reducible exact Below.refl _ _ | with_reducible refine Below.drew ?_ | with_reducible refine Bel_drewN ?_ _ | with_reducible refine Below.alloc ?_ (by first | omega | (simp; done) | (simp; omega)) _ | with_reducible refine Below.setCell ?_ (by first | omega | (simp; done) | (simp; omega)) _)); done))
      (first | (go_at_call 17; refine (toChain_any tn us _ _ _ (Holds.below HX_us.out (HP.out _ (by assumption)).2.2.2.2.2.2) hn_us).mono ?_; rintro e wt ⟨aoY_us, rfl, rowY_us, hbt⟩) | (go_at_call 19; refine (eqChain_same tn us _ rfl _ _ _ _ _ ((HP.out _ (by assumption)).2.2.2.2.1.holds) (by exact rowY_us.holds) hn_us).mono ?_; rintro e w11 ⟨rfl, hb⟩))
    have hN := (HK.out _ _ (HK.out _ _ hR (by first | exact hbt | exact Bel_next (Below.refl _ _).drew hbt)) (by first | exact hb | exact Bel_next (Below.refl _ _).drew hb))
    have z11 : w10.heap.size ≤ w11.heap.size := hN.2.2.2.2.1
    have HS11 : Hid (Whole w11 w.heap.size 24 #[.int .i64 sn, .slice ao_xs xs.length c_xs] ∧ Whole w11 (w.heap.size + 1) 24 #[.int .i64 tn, .slice ao_us us.length c_us] ∧ Row w11 w4.heap.size w5.heap.size aoX_xs (fl .f32 xs) ∧ Whole w11 w5.heap.size 27 #[.int .i64 sn, .slice aoX_xs xs.length xs.length] ∧ Row w11 w6.heap.size w7.heap.size aoX_us (fl .f32 us) ∧ Whole w11 w7.heap.size 27 #[.int .i64 tn, .slice aoX_us us.length us.length] ∧ Below w.heap.size w w11) := Lib.hid ⟨hN.2.2.2.2.2.1, hN.2.2.2.2.2.2.1, hN.2.2.2.2.2.2.2.1, hN.2.2.2.2.2.2.2.2.1, hN.2.2.2.2.2.2.2.2.2.1, hN.2.2.2.2.2.2.2.2.2.2.1, hN.2.2.2.2.2.2.2.2.2.2.2⟩
    clear HS10 hN hR HK HP hb hbt
    clear rowY_us
    have hc0 := (HS11.out.1).facts.1
    have hf0 := (HS11.out.1).facts.2
    have hz0 := (HS11.out.1).lt
    have hc1 := (HS11.out.2.1).facts.1
    have hf1 := (HS11.out.2.1).facts.2
    have hz1 := (HS11.out.2.1).lt
    have hc3 := (HS11.out.2.2.2.1).facts.1
    have hf3 := (HS11.out.2.2.2.1).facts.2
    have hz3 := (HS11.out.2.2.2.1).lt
    have hc5 := (HS11.out.2.2.2.2.2.1).facts.1
    have hf5 := (HS11.out.2.2.2.2.2.1).facts.2
    have hz5 := (HS11.out.2.2.2.2.2.1).lt
    go_wp2_with fail
    clear hc0 hf0 hz0
    clear hc1 hf1 hz1
    clear hc3 hf3 hz3
    clear hc5 hf5 hz5
    go_ret
    exact ⟨rfl, Bel_next HS11.out.2.2.2.2.2.2 (by repeat (first | with_reducible exact Below.refl _ _ | with_reducible refine Below.drew ?_ | with_reducible refine Bel_drewN ?_ _ | with_reducible refine Below.alloc ?_ (by first | omega | (simp; done) | (simp; omega)) _ | with_reducible refine Below.setCell ?_ (by first | omega | (simp; done) | (simp; omega)) _))⟩
  have HV := Lib.hid hv0
  clear hv0
  go_enter Try.func4, Try.ntmps4
  have HS0 : Hid (Below w.heap.size w w) := Lib.hid (Below.refl _ _)
  go_wp2_with fail
  generalize hW : World.alloc (World.alloc w _) _ = w1
  have hb : Below w.heap.size w w1 := by rw [← hW]; exact (by repeat (first | with_reducible exact Below.refl _ _ | with_reducible refine Below.drew ?_ | with_reducible refine Bel_drewN ?_ _ | with_reducible refine Below.alloc ?_ (by first | omega | (simp; done) | (simp; omega)) _ | with_reducible refine Below.setCell ?_ (by first | omega | (simp; done) | (simp; omega)) _))
  have z1 : w.heap.size + 2 ≤ w1.heap.size := by rw [← hW]; simp
  have HS1 : Hid (Whole w1 w.heap.size 24 #[.int .i64 sn, .slice ao_xs xs.length c_xs] ∧ Whole w1 (w.heap.size + 1) 24 #[.int .i64 tn, .slice ao_us us.length c_us] ∧ Below w.heap.size w w1) := Lib.hid ⟨by rw [← hW]; exact (Whole.made _ _ _).alloc _, by rw [← hW]; exact Whole.made2 _ _ _ _, Bel_next HS0.out hb⟩
  clear HS0 hW hb
  refine (szChain_yes sn xs _ _ (1048576) _ HL0.out (by omega)).mono ?_
  rintro e w2 ⟨rfl, hb⟩
  have z2 : w1.heap.size ≤ w2.heap.size := hb.size
  have HS2 : Hid (Whole w2 w.heap.size 24 #[.int .i64 sn, .slice ao_xs xs.length c_xs] ∧ Whole w2 (w.heap.size + 1) 24 #[.int .i64 tn, .slice ao_us us.length c_us] ∧ Below w.heap.size w w2) := Lib.hid ⟨HS1.out.1.below hb, HS1.out.2.1.below hb, Bel_next HS1.out.2.2 hb⟩
  clear HS1 hb
  have hc0 := (HS2.out.1).facts.1
  have hf0 := (HS2.out.1).facts.2
  have hz0 := (HS2.out.1).lt
  have hc1 := (HS2.out.2.1).facts.1
  have hf1 := (HS2.out.2.1).facts.2
  have hz1 := (HS2.out.2.1).lt
  go_wp2_with fail
  clear hc0 hf0 hz0
  clear hc1 hf1 hz1
  refine (szChain_yes tn us _ _ (1048576 - (xs.length)) _ HL1.out (by omega)).mono ?_
  rintro e w3 ⟨rfl, hb⟩
  have z3 : w2.heap.size ≤ w3.heap.size := hb.size
  have HS3 : Hid (Whole w3 w.heap.size 24 #[.int .i64 sn, .slice ao_xs xs.length c_xs] ∧ Whole w3 (w.heap.size + 1) 24 #[.int .i64 tn, .slice ao_us us.length c_us] ∧ Below w.heap.size w w3) := Lib.hid ⟨HS2.out.1.below hb, HS2.out.2.1.below hb, Bel_next HS2.out.2.2 hb⟩
  clear HS2 hb
  have hc0 := (HS3.out.1).facts.1
  have hf0 := (HS3.out.1).facts.2
  have hz0 := (HS3.out.1).lt
  have hc1 := (HS3.out.2.1).facts.1
  have hf1 := (HS3.out.2.1).facts.2
  have hz1 := (HS3.out.2.1).lt
  go_wp2_with fail
  clear hc0 hf0 hz0
  clear hc1 hf1 hz1
  have HK : Hid (∀ v v' : World, (v.cell? ⟨w.heap.size, 0, none⟩ = some (.int .i64 sn) ∧ v.cell? ⟨w.heap.size, 1, none⟩ = some (.slice ao_xs xs.length c_xs) ∧ v.cell? ⟨(w.heap.size + 1), 0, none⟩ = some (.int .i64 tn) ∧ v.cell? ⟨(w.heap.size + 1), 1, none⟩ = some (.slice ao_us us.length c_us) ∧ w3.heap.size ≤ v.heap.size ∧ Whole v w.heap.size 24 #[.int .i64 sn, .slice ao_xs xs.length c_xs] ∧ Whole v (w.heap.size + 1) 24 #[.int .i64 tn, .slice ao_us us.length c_us] ∧ Below w.heap.size w v) → Below v.heap.size v v' → (v'.cell? ⟨w.heap.size, 0, none⟩ = some (.int .i64 sn) ∧ v'.cell? ⟨w.heap.size, 1, none⟩ = some (.slice ao_xs xs.length c_xs) ∧ v'.cell? ⟨(w.heap.size + 1), 0, none⟩ = some (.int .i64 tn) ∧ v'.cell? ⟨(w.heap.size + 1), 1, none⟩ = some (.slice ao_us us.length c_us) ∧ w3.heap.size ≤ v'.heap.size ∧ Whole v' w.heap.size 24 #[.int .i64 sn, .slice ao_xs xs.length c_xs] ∧ Whole v' (w.heap.size + 1) 24 #[.int .i64 tn, .slice ao_us us.length c_us] ∧ Below w.heap.size w v')) := Lib.hid (fun v v' h hb => ⟨(by rw [Below.cell hb (World.block_lt_of_cell? _ _ h.1)]; exact h.1), (by rw [Below.cell hb (World.block_lt_of_cell? _ _ h.2.1)]; exact h.2.1), (by rw [Below.cell hb (World.block_lt_of_cell? _ _ h.2.2.1)]; exact h.2.2.1), (by rw [Below.cell hb (World.block_lt_of_cell? _ _ h.2.2.2.1)]; exact h.2.2.2.1), Nat.le_trans h.2.2.2.2.1 hb.size, h.2.2.2.2.2.1.below hb, h.2.2.2.2.2.2.1.below hb, Bel_next h.2.2.2.2.2.2.2 hb⟩)
  have HP : Hid (∀ v : World, (v.cell? ⟨w.heap.size, 0, none⟩ = some (.int .i64 sn) ∧ v.cell? ⟨w.heap.size, 1, none⟩ = some (.slice ao_xs xs.length c_xs) ∧ v.cell? ⟨(w.heap.size + 1), 0, none⟩ = some (.int .i64 tn) ∧ v.cell? ⟨(w.heap.size + 1), 1, none⟩ = some (.slice ao_us us.length c_us) ∧ w3.heap.size ≤ v.heap.size ∧ Whole v w.heap.size 24 #[.int .i64 sn, .slice ao_xs xs.length c_xs] ∧ Whole v (w.heap.size + 1) 24 #[.int .i64 tn, .slice ao_us us.length c_us] ∧ Below w.heap.size w v) → (Whole v w.heap.size 24 #[.int .i64 sn, .slice ao_xs xs.length c_xs] ∧ Whole v (w.heap.size + 1) 24 #[.int .i64 tn, .slice ao_us us.length c_us] ∧ Below w.heap.size w v)) := Lib.hid (fun v h => h.2.2.2.2.2)
  have hR : w3.cell? ⟨w.heap.size, 0, none⟩ = some (.int .i64 sn) ∧ w3.cell? ⟨w.heap.size, 1, none⟩ = some (.slice ao_xs xs.length c_xs) ∧ w3.cell? ⟨(w.heap.size + 1), 0, none⟩ = some (.int .i64 tn) ∧ w3.cell? ⟨(w.heap.size + 1), 1, none⟩ = some (.slice ao_us us.length c_us) ∧ w3.heap.size ≤ w3.heap.size ∧ Whole w3 w.heap.size 24 #[.int .i64 sn, .slice ao_xs xs.length c_xs] ∧ Whole w3 (w.heap.size + 1) 24 #[.int .i64 tn, .slice ao_us us.length c_us] ∧ Below w.heap.size w w3 := ⟨(HS3.out.1).cell 0, (HS3.out.1).cell 1, (HS3.out.2.1).cell 0, (HS3.out.2.1).cell 1, Nat.le_refl _, HS3.out.1, HS3.out.2.1, HS3.out.2.2⟩
  go_region_held3 (fun v => v.cell? ⟨w.heap.size, 0, none⟩ = some (.int .i64 sn) ∧ v.cell? ⟨w.heap.size, 1, none⟩ = some (.slice ao_xs xs.length c_xs) ∧ v.cell? ⟨(w.heap.size + 1), 0, none⟩ = some (.int .i64 tn) ∧ v.cell? ⟨(w.heap.size + 1), 1, none⟩ = some (.slice ao_us us.length c_us) ∧ w3.heap.size ≤ v.heap.size ∧ Whole v w.heap.size 24 #[.int .i64 sn, .slice ao_xs xs.length c_xs] ∧ Whole v (w.heap.size + 1) 24 #[.int .i64 tn, .slice ao_us us.length c_us] ∧ Below w.heap.size w v)
    (first | assumption | exact HK.out _ _ (by assumption) (by assumption) | exact HK.out _ _ (by assumption) ((Below.refl _ _).drew) | (refine HK.out _ _ (by assumption) ?_; (repeat (first | with_reducible exact Below.refl _ _ | with_reducible refine Below.drew ?_ | with_reducible refine Bel_drewN ?_ _ | with_reducible refine Below.alloc ?_ (by first | omega | (simp; done) | (simp; omega)) _ | with_reducible refine Below.setCell ?_ (by first | omega | (simp; done) | (simp; omega)) _)); done))
    (first | (go_at_call 17; (with_reducible (refine (toChain_any sn xs _ _ _ (Holds.below HX_xs.out (HP.out _ (by assumption)).2.2) hn_xs).mono ?_)); rintro e wt0 ⟨aosd_xs, rfl, rowsd_xs, hbt0⟩) | (go_at_call 17; (with_reducible (refine (toChain_any tn us _ _ _ (Holds.below HX_us.out (HP.out _ (by assumption)).2.2) hn_us).mono ?_)); rintro e wt1 ⟨aosd_us, rfl, rowsd_us, hbt1⟩) | (go_at_call 20; refine ((specSameC_any sn tn xs us _ _ _ _ _ (by first | exact ((Row.below rowsd_xs (by first | exact hbt1 | exact Bel_next (Below.refl _ _).drew hbt1))).holds | (refine (Row.below (Row.below rowsd_xs (by first | exact hbt1 | exact Bel_next (Below.refl _ _).drew hbt1)) ?_).holds; (repeat (first | with_reducible exact Below.refl _ _ | with_reducible refine Below.drew ?_ | with_reducible refine Bel_drewN ?_ _ | with_reducible refine Below.alloc ?_ (by first | omega | (simp; done) | (simp; omega)) _ | with_reducible refine Below.setCell ?_ (by first | omega | (simp; done) | (simp; omega)) _)); done)) (by first | exact (rowsd_us).holds | (refine (Row.below rowsd_us ?_).holds; (repeat (first | with_reducible exact Below.refl _ _ | with_reducible refine Below.drew ?_ | with_reducible refine Bel_drewN ?_ _ | with_reducible refine Below.alloc ?_ (by first | omega | (simp; done) | (simp; omega)) _ | with_reducible refine Below.setCell ?_ (by first | omega | (simp; done) | (simp; omega)) _)); done)) hn_xs hn_us h_xs h_us).mono fun e w1 h => Bo.no HV.out h).mono ?_; rintro e w4 ⟨rfl, hb⟩))
  have hN := (HK.out _ _ (HK.out _ _ (HK.out _ _ hR (by first | exact hbt0 | exact Bel_next (Below.refl _ _).drew hbt0)) (by first | exact hbt1 | exact Bel_next (Below.refl _ _).drew hbt1)) (by first | exact hb | exact Bel_next (Below.refl _ _).drew hb))
  have z4 : w3.heap.size ≤ w4.heap.size := hN.2.2.2.2.1
  have HS4 : Hid (Whole w4 w.heap.size 24 #[.int .i64 sn, .slice ao_xs xs.length c_xs] ∧ Whole w4 (w.heap.size + 1) 24 #[.int .i64 tn, .slice ao_us us.length c_us] ∧ Below w.heap.size w w4) := Lib.hid ⟨hN.2.2.2.2.2.1, hN.2.2.2.2.2.2.1, hN.2.2.2.2.2.2.2⟩
  clear HS3 hN hR HK HP hb hbt0 hbt1
  clear rowsd_xs rowsd_us
  have hc0 := (HS4.out.1).facts.1
  have hf0 := (HS4.out.1).facts.2
  have hz0 := (HS4.out.1).lt
  have hc1 := (HS4.out.2.1).facts.1
  have hf1 := (HS4.out.2.1).facts.2
  have hz1 := (HS4.out.2.1).lt
  go_wp2_with fail
  clear hc0 hf0 hz0
  clear hc1 hf1 hz1
  refine (toChain_any sn xs _ _ _ (Holds.below HX_xs.out HS4.out.2.2) hn_xs).mono ?_
  rintro e w5 ⟨aoX_xs, rfl, rowX_xs, hb⟩
  have z5 : w4.heap.size ≤ w5.heap.size := hb.size
  have HS5 : Hid (Whole w5 w.heap.size 24 #[.int .i64 sn, .slice ao_xs xs.length c_xs] ∧ Whole w5 (w.heap.size + 1) 24 #[.int .i64 tn, .slice ao_us us.length c_us] ∧ Row w5 w4.heap.size w5.heap.size aoX_xs (fl .f32 xs) ∧ Below w.heap.size w w5) := Lib.hid ⟨HS4.out.1.below hb, HS4.out.2.1.below hb, rowX_xs, Bel_next HS4.out.2.2 hb⟩
  clear HS4 hb rowX_xs
  have hc0 := (HS5.out.1).facts.1
  have hf0 := (HS5.out.1).facts.2
  have hz0 := (HS5.out.1).lt
  have hc1 := (HS5.out.2.1).facts.1
  have hf1 := (HS5.out.2.1).facts.2
  have hz1 := (HS5.out.2.1).lt
  go_wp2_with fail
  clear hc0 hf0 hz0
  clear hc1 hf1 hz1
  generalize hW : World.alloc w5 _ = w6
  have hb : Below w5.heap.size w5 w6 := by rw [← hW]; exact (by repeat (first | with_reducible exact Below.refl _ _ | with_reducible refine Below.drew ?_ | with_reducible refine Bel_drewN ?_ _ | with_reducible refine Below.alloc ?_ (by first | omega | (simp; done) | (simp; omega)) _ | with_reducible refine Below.setCell ?_ (by first | omega | (simp; done) | (simp; omega)) _))
  have z6 : w5.heap.size + 1 ≤ w6.heap.size := by rw [← hW]; simp
  have HS6 : Hid (Whole w6 w.heap.size 24 #[.int .i64 sn, .slice ao_xs xs.length c_xs] ∧ Whole w6 (w.heap.size + 1) 24 #[.int .i64 tn, .slice ao_us us.length c_us] ∧ Row w6 w4.heap.size w5.heap.size aoX_xs (fl .f32 xs) ∧ Whole w6 w5.heap.size 27 #[.int .i64 sn, .slice aoX_xs xs.length xs.length] ∧ Below w.heap.size w w6) := Lib.hid ⟨HS5.out.1.below hb, HS5.out.2.1.below hb, HS5.out.2.2.1.below hb, by rw [← hW]; exact Whole.made _ _ _, Bel_next HS5.out.2.2.2 hb⟩
  clear HS5 hW hb
  refine (toChain_any tn us _ _ _ (Holds.below HX_us.out HS6.out.2.2.2.2) hn_us).mono ?_
  rintro e w7 ⟨aoX_us, rfl, rowX_us, hb⟩
  have z7 : w6.heap.size ≤ w7.heap.size := hb.size
  have HS7 : Hid (Whole w7 w.heap.size 24 #[.int .i64 sn, .slice ao_xs xs.length c_xs] ∧ Whole w7 (w.heap.size + 1) 24 #[.int .i64 tn, .slice ao_us us.length c_us] ∧ Row w7 w4.heap.size w5.heap.size aoX_xs (fl .f32 xs) ∧ Whole w7 w5.heap.size 27 #[.int .i64 sn, .slice aoX_xs xs.length xs.length] ∧ Row w7 w6.heap.size w7.heap.size aoX_us (fl .f32 us) ∧ Below w.heap.size w w7) := Lib.hid ⟨HS6.out.1.below hb, HS6.out.2.1.below hb, HS6.out.2.2.1.below hb, HS6.out.2.2.2.1.below hb, rowX_us, Bel_next HS6.out.2.2.2.2 hb⟩
  clear HS6 hb rowX_us
  have hc0 := (HS7.out.1).facts.1
  have hf0 := (HS7.out.1).facts.2
  have hz0 := (HS7.out.1).lt
  have hc1 := (HS7.out.2.1).facts.1
  have hf1 := (HS7.out.2.1).facts.2
  have hz1 := (HS7.out.2.1).lt
  have hc3 := (HS7.out.2.2.2.1).facts.1
  have hf3 := (HS7.out.2.2.2.1).facts.2
  have hz3 := (HS7.out.2.2.2.1).lt
  go_wp2_with fail
  clear hc0 hf0 hz0
  clear hc1 hf1 hz1
  clear hc3 hf3 hz3
  generalize hW : World.alloc w7 _ = w8
  have hb : Below w7.heap.size w7 w8 := by rw [← hW]; exact (by repeat (first | with_reducible exact Below.refl _ _ | with_reducible refine Below.drew ?_ | with_reducible refine Bel_drewN ?_ _ | with_reducible refine Below.alloc ?_ (by first | omega | (simp; done) | (simp; omega)) _ | with_reducible refine Below.setCell ?_ (by first | omega | (simp; done) | (simp; omega)) _))
  have z8 : w7.heap.size + 1 ≤ w8.heap.size := by rw [← hW]; simp
  have HS8 : Hid (Whole w8 w.heap.size 24 #[.int .i64 sn, .slice ao_xs xs.length c_xs] ∧ Whole w8 (w.heap.size + 1) 24 #[.int .i64 tn, .slice ao_us us.length c_us] ∧ Row w8 w4.heap.size w5.heap.size aoX_xs (fl .f32 xs) ∧ Whole w8 w5.heap.size 27 #[.int .i64 sn, .slice aoX_xs xs.length xs.length] ∧ Row w8 w6.heap.size w7.heap.size aoX_us (fl .f32 us) ∧ Whole w8 w7.heap.size 27 #[.int .i64 tn, .slice aoX_us us.length us.length] ∧ Below w.heap.size w w8) := Lib.hid ⟨HS7.out.1.below hb, HS7.out.2.1.below hb, HS7.out.2.2.1.below hb, HS7.out.2.2.2.1.below hb, HS7.out.2.2.2.2.1.below hb, by rw [← hW]; exact Whole.made _ _ _, Bel_next HS7.out.2.2.2.2.2 hb⟩
  clear HS7 hW hb
  refine ((implSameC_any sn tn xs us _ _ _ _ _ (HS8.out.2.2.1).holds (HS8.out.2.2.2.2.1).holds hn_xs hn_us h_xs h_us).mono fun e w1 h => Bo.no HV.out h).mono ?_
  rintro e w9 ⟨rfl, hb⟩
  have z9 : w8.heap.size ≤ w9.heap.size := hb.size
  have HS9 : Hid (Whole w9 w.heap.size 24 #[.int .i64 sn, .slice ao_xs xs.length c_xs] ∧ Whole w9 (w.heap.size + 1) 24 #[.int .i64 tn, .slice ao_us us.length c_us] ∧ Row w9 w4.heap.size w5.heap.size aoX_xs (fl .f32 xs) ∧ Whole w9 w5.heap.size 27 #[.int .i64 sn, .slice aoX_xs xs.length xs.length] ∧ Row w9 w6.heap.size w7.heap.size aoX_us (fl .f32 us) ∧ Whole w9 w7.heap.size 27 #[.int .i64 tn, .slice aoX_us us.length us.length] ∧ Below w.heap.size w w9) := Lib.hid ⟨HS8.out.1.below hb, HS8.out.2.1.below hb, HS8.out.2.2.1.below hb, HS8.out.2.2.2.1.below hb, HS8.out.2.2.2.2.1.below hb, HS8.out.2.2.2.2.2.1.below hb, Bel_next HS8.out.2.2.2.2.2.2 hb⟩
  clear HS8 hb
  have HSn : Hid (Whole w9 w.heap.size 24 #[.int .i64 sn, .slice ao_xs xs.length c_xs] ∧ Whole w9 (w.heap.size + 1) 24 #[.int .i64 tn, .slice ao_us us.length c_us] ∧ Row w9 w4.heap.size w5.heap.size aoX_xs (fl .f32 xs) ∧ Whole w9 w5.heap.size 27 #[.int .i64 sn, .slice aoX_xs xs.length xs.length] ∧ Row w9 w6.heap.size w7.heap.size aoX_us (fl .f32 us) ∧ Whole w9 w7.heap.size 27 #[.int .i64 tn, .slice aoX_us us.length us.length] ∧ Below w.heap.size w w9) := Lib.hid ⟨HS9.out.1, HS9.out.2.1, HS9.out.2.2.1, HS9.out.2.2.2.1, HS9.out.2.2.2.2.1, HS9.out.2.2.2.2.2.1, HS9.out.2.2.2.2.2.2⟩
  clear HS9
  have HS9 := HSn
  clear HSn
  have hc0 := (HS9.out.1).facts.1
  have hf0 := (HS9.out.1).facts.2
  have hz0 := (HS9.out.1).lt
  have hc1 := (HS9.out.2.1).facts.1
  have hf1 := (HS9.out.2.1).facts.2
  have hz1 := (HS9.out.2.1).lt
  have hc3 := (HS9.out.2.2.2.1).facts.1
  have hf3 := (HS9.out.2.2.2.1).facts.2
  have hz3 := (HS9.out.2.2.2.1).lt
  have hc5 := (HS9.out.2.2.2.2.2.1).facts.1
  have hf5 := (HS9.out.2.2.2.2.2.1).facts.2
  have hz5 := (HS9.out.2.2.2.2.2.1).lt
  go_wp2_with fail
  clear hc0 hf0 hz0
  clear hc1 hf1 hz1
  clear hc3 hf3 hz3
  clear hc5 hf5 hz5
  have HK : Hid (∀ v v' : World, (v.cell? ⟨w5.heap.size, 0, none⟩ = some (.int .i64 sn) ∧ v.cell? ⟨w5.heap.size, 1, none⟩ = some (.slice aoX_xs xs.length xs.length) ∧ v.cell? ⟨w.heap.size, 0, none⟩ = some (.int .i64 sn) ∧ v.cell? ⟨w.heap.size, 1, none⟩ = some (.slice ao_xs xs.length c_xs) ∧ w9.heap.size ≤ v.heap.size ∧ Whole v w.heap.size 24 #[.int .i64 sn, .slice ao_xs xs.length c_xs] ∧ Whole v (w.heap.size + 1) 24 #[.int .i64 tn, .slice ao_us us.length c_us] ∧ Row v w4.heap.size w5.heap.size aoX_xs (fl .f32 xs) ∧ Whole v w5.heap.size 27 #[.int .i64 sn, .slice aoX_xs xs.length xs.length] ∧ Row v w6.heap.size w7.heap.size aoX_us (fl .f32 us) ∧ Whole v w7.heap.size 27 #[.int .i64 tn, .slice aoX_us us.length us.length] ∧ Below w.heap.size w v) → Below v.heap.size v v' → (v'.cell? ⟨w5.heap.size, 0, none⟩ = some (.int .i64 sn) ∧ v'.cell? ⟨w5.heap.size, 1, none⟩ = some (.slice aoX_xs xs.length xs.length) ∧ v'.cell? ⟨w.heap.size, 0, none⟩ = some (.int .i64 sn) ∧ v'.cell? ⟨w.heap.size, 1, none⟩ = some (.slice ao_xs xs.length c_xs) ∧ w9.heap.size ≤ v'.heap.size ∧ Whole v' w.heap.size 24 #[.int .i64 sn, .slice ao_xs xs.length c_xs] ∧ Whole v' (w.heap.size + 1) 24 #[.int .i64 tn, .slice ao_us us.length c_us] ∧ Row v' w4.heap.size w5.heap.size aoX_xs (fl .f32 xs) ∧ Whole v' w5.heap.size 27 #[.int .i64 sn, .slice aoX_xs xs.length xs.length] ∧ Row v' w6.heap.size w7.heap.size aoX_us (fl .f32 us) ∧ Whole v' w7.heap.size 27 #[.int .i64 tn, .slice aoX_us us.length us.length] ∧ Below w.heap.size w v')) := Lib.hid (fun v v' h hb => ⟨(by rw [Below.cell hb (World.block_lt_of_cell? _ _ h.1)]; exact h.1), (by rw [Below.cell hb (World.block_lt_of_cell? _ _ h.2.1)]; exact h.2.1), (by rw [Below.cell hb (World.block_lt_of_cell? _ _ h.2.2.1)]; exact h.2.2.1), (by rw [Below.cell hb (World.block_lt_of_cell? _ _ h.2.2.2.1)]; exact h.2.2.2.1), Nat.le_trans h.2.2.2.2.1 hb.size, h.2.2.2.2.2.1.below hb, h.2.2.2.2.2.2.1.below hb, h.2.2.2.2.2.2.2.1.below hb, h.2.2.2.2.2.2.2.2.1.below hb, h.2.2.2.2.2.2.2.2.2.1.below hb, h.2.2.2.2.2.2.2.2.2.2.1.below hb, Bel_next h.2.2.2.2.2.2.2.2.2.2.2 hb⟩)
  have HP : Hid (∀ v : World, (v.cell? ⟨w5.heap.size, 0, none⟩ = some (.int .i64 sn) ∧ v.cell? ⟨w5.heap.size, 1, none⟩ = some (.slice aoX_xs xs.length xs.length) ∧ v.cell? ⟨w.heap.size, 0, none⟩ = some (.int .i64 sn) ∧ v.cell? ⟨w.heap.size, 1, none⟩ = some (.slice ao_xs xs.length c_xs) ∧ w9.heap.size ≤ v.heap.size ∧ Whole v w.heap.size 24 #[.int .i64 sn, .slice ao_xs xs.length c_xs] ∧ Whole v (w.heap.size + 1) 24 #[.int .i64 tn, .slice ao_us us.length c_us] ∧ Row v w4.heap.size w5.heap.size aoX_xs (fl .f32 xs) ∧ Whole v w5.heap.size 27 #[.int .i64 sn, .slice aoX_xs xs.length xs.length] ∧ Row v w6.heap.size w7.heap.size aoX_us (fl .f32 us) ∧ Whole v w7.heap.size 27 #[.int .i64 tn, .slice aoX_us us.length us.length] ∧ Below w.heap.size w v) → (Whole v w.heap.size 24 #[.int .i64 sn, .slice ao_xs xs.length c_xs] ∧ Whole v (w.heap.size + 1) 24 #[.int .i64 tn, .slice ao_us us.length c_us] ∧ Row v w4.heap.size w5.heap.size aoX_xs (fl .f32 xs) ∧ Whole v w5.heap.size 27 #[.int .i64 sn, .slice aoX_xs xs.length xs.length] ∧ Row v w6.heap.size w7.heap.size aoX_us (fl .f32 us) ∧ Whole v w7.heap.size 27 #[.int .i64 tn, .slice aoX_us us.length us.length] ∧ Below w.heap.size w v)) := Lib.hid (fun v h => h.2.2.2.2.2)
  have hR : w9.cell? ⟨w5.heap.size, 0, none⟩ = some (.int .i64 sn) ∧ w9.cell? ⟨w5.heap.size, 1, none⟩ = some (.slice aoX_xs xs.length xs.length) ∧ w9.cell? ⟨w.heap.size, 0, none⟩ = some (.int .i64 sn) ∧ w9.cell? ⟨w.heap.size, 1, none⟩ = some (.slice ao_xs xs.length c_xs) ∧ w9.heap.size ≤ w9.heap.size ∧ Whole w9 w.heap.size 24 #[.int .i64 sn, .slice ao_xs xs.length c_xs] ∧ Whole w9 (w.heap.size + 1) 24 #[.int .i64 tn, .slice ao_us us.length c_us] ∧ Row w9 w4.heap.size w5.heap.size aoX_xs (fl .f32 xs) ∧ Whole w9 w5.heap.size 27 #[.int .i64 sn, .slice aoX_xs xs.length xs.length] ∧ Row w9 w6.heap.size w7.heap.size aoX_us (fl .f32 us) ∧ Whole w9 w7.heap.size 27 #[.int .i64 tn, .slice aoX_us us.length us.length] ∧ Below w.heap.size w w9 := ⟨(HS9.out.2.2.2.1).cell 0, (HS9.out.2.2.2.1).cell 1, (HS9.out.1).cell 0, (HS9.out.1).cell 1, Nat.le_refl _, HS9.out.1, HS9.out.2.1, HS9.out.2.2.1, HS9.out.2.2.2.1, HS9.out.2.2.2.2.1, HS9.out.2.2.2.2.2.1, HS9.out.2.2.2.2.2.2⟩
  go_region_held3 (fun v => v.cell? ⟨w5.heap.size, 0, none⟩ = some (.int .i64 sn) ∧ v.cell? ⟨w5.heap.size, 1, none⟩ = some (.slice aoX_xs xs.length xs.length) ∧ v.cell? ⟨w.heap.size, 0, none⟩ = some (.int .i64 sn) ∧ v.cell? ⟨w.heap.size, 1, none⟩ = some (.slice ao_xs xs.length c_xs) ∧ w9.heap.size ≤ v.heap.size ∧ Whole v w.heap.size 24 #[.int .i64 sn, .slice ao_xs xs.length c_xs] ∧ Whole v (w.heap.size + 1) 24 #[.int .i64 tn, .slice ao_us us.length c_us] ∧ Row v w4.heap.size w5.heap.size aoX_xs (fl .f32 xs) ∧ Whole v w5.heap.size 27 #[.int .i64 sn, .slice aoX_xs xs.length xs.length] ∧ Row v w6.heap.size w7.heap.size aoX_us (fl .f32 us) ∧ Whole v w7.heap.size 27 #[.int .i64 tn, .slice aoX_us us.length us.length] ∧ Below w.heap.size w v)
    (first | assumption | exact HK.out _ _ (by assumption) (by assumption) | exact HK.out _ _ (by assumption) ((Below.refl _ _).drew) | (refine HK.out _ _ (by assumption) ?_; (repeat (first | with_reducible exact Below.refl _ _ | with_reducible refine Below.drew ?_ | with_reducible refine Bel_drewN ?_ _ | with_reducible refine Below.alloc ?_ (by first | omega | (simp; done) | (simp; omega)) _ | with_reducible refine Below.setCell ?_ (by first | omega | (simp; done) | (simp; omega)) _)); done))
    (first | (go_at_call 17; refine (toChain_any sn xs _ _ _ (Holds.below HX_xs.out (HP.out _ (by assumption)).2.2.2.2.2.2) hn_xs).mono ?_; rintro e wt ⟨aoY_xs, rfl, rowY_xs, hbt⟩) | (go_at_call 19; refine (eqChain_same sn xs _ rfl _ _ _ _ _ ((HP.out _ (by assumption)).2.2.1.holds) (by exact rowY_xs.holds) hn_xs).mono ?_; rintro e w10 ⟨rfl, hb⟩))
  have hN := (HK.out _ _ (HK.out _ _ hR (by first | exact hbt | exact Bel_next (Below.refl _ _).drew hbt)) (by first | exact hb | exact Bel_next (Below.refl _ _).drew hb))
  have z10 : w9.heap.size ≤ w10.heap.size := hN.2.2.2.2.1
  have HS10 : Hid (Whole w10 w.heap.size 24 #[.int .i64 sn, .slice ao_xs xs.length c_xs] ∧ Whole w10 (w.heap.size + 1) 24 #[.int .i64 tn, .slice ao_us us.length c_us] ∧ Row w10 w4.heap.size w5.heap.size aoX_xs (fl .f32 xs) ∧ Whole w10 w5.heap.size 27 #[.int .i64 sn, .slice aoX_xs xs.length xs.length] ∧ Row w10 w6.heap.size w7.heap.size aoX_us (fl .f32 us) ∧ Whole w10 w7.heap.size 27 #[.int .i64 tn, .slice aoX_us us.length us.length] ∧ Below w.heap.size w w10) := Lib.hid ⟨hN.2.2.2.2.2.1, hN.2.2.2.2.2.2.1, hN.2.2.2.2.2.2.2.1, hN.2.2.2.2.2.2.2.2.1, hN.2.2.2.2.2.2.2.2.2.1, hN.2.2.2.2.2.2.2.2.2.2.1, hN.2.2.2.2.2.2.2.2.2.2.2⟩
  clear HS9 hN hR HK HP hb hbt
  clear rowY_xs
  have hc0 := (HS10.out.1).facts.1
  have hf0 := (HS10.out.1).facts.2
  have hz0 := (HS10.out.1).lt
  have hc1 := (HS10.out.2.1).facts.1
  have hf1 := (HS10.out.2.1).facts.2
  have hz1 := (HS10.out.2.1).lt
  have hc3 := (HS10.out.2.2.2.1).facts.1
  have hf3 := (HS10.out.2.2.2.1).facts.2
  have hz3 := (HS10.out.2.2.2.1).lt
  have hc5 := (HS10.out.2.2.2.2.2.1).facts.1
  have hf5 := (HS10.out.2.2.2.2.2.1).facts.2
  have hz5 := (HS10.out.2.2.2.2.2.1).lt
  go_wp2_with fail
  clear hc0 hf0 hz0
  clear hc1 hf1 hz1
  clear hc3 hf3 hz3
  clear hc5 hf5 hz5
  have HK : Hid (∀ v v' : World, (v.cell? ⟨w7.heap.size, 0, none⟩ = some (.int .i64 tn) ∧ v.cell? ⟨w7.heap.size, 1, none⟩ = some (.slice aoX_us us.length us.length) ∧ v.cell? ⟨(w.heap.size + 1), 0, none⟩ = some (.int .i64 tn) ∧ v.cell? ⟨(w.heap.size + 1), 1, none⟩ = some (.slice ao_us us.length c_us) ∧ w10.heap.size ≤ v.heap.size ∧ Whole v w.heap.size 24 #[.int .i64 sn, .slice ao_xs xs.length c_xs] ∧ Whole v (w.heap.size + 1) 24 #[.int .i64 tn, .slice ao_us us.length c_us] ∧ Row v w4.heap.size w5.heap.size aoX_xs (fl .f32 xs) ∧ Whole v w5.heap.size 27 #[.int .i64 sn, .slice aoX_xs xs.length xs.length] ∧ Row v w6.heap.size w7.heap.size aoX_us (fl .f32 us) ∧ Whole v w7.heap.size 27 #[.int .i64 tn, .slice aoX_us us.length us.length] ∧ Below w.heap.size w v) → Below v.heap.size v v' → (v'.cell? ⟨w7.heap.size, 0, none⟩ = some (.int .i64 tn) ∧ v'.cell? ⟨w7.heap.size, 1, none⟩ = some (.slice aoX_us us.length us.length) ∧ v'.cell? ⟨(w.heap.size + 1), 0, none⟩ = some (.int .i64 tn) ∧ v'.cell? ⟨(w.heap.size + 1), 1, none⟩ = some (.slice ao_us us.length c_us) ∧ w10.heap.size ≤ v'.heap.size ∧ Whole v' w.heap.size 24 #[.int .i64 sn, .slice ao_xs xs.length c_xs] ∧ Whole v' (w.heap.size + 1) 24 #[.int .i64 tn, .slice ao_us us.length c_us] ∧ Row v' w4.heap.size w5.heap.size aoX_xs (fl .f32 xs) ∧ Whole v' w5.heap.size 27 #[.int .i64 sn, .slice aoX_xs xs.length xs.length] ∧ Row v' w6.heap.size w7.heap.size aoX_us (fl .f32 us) ∧ Whole v' w7.heap.size 27 #[.int .i64 tn, .slice aoX_us us.length us.length] ∧ Below w.heap.size w v')) := Lib.hid (fun v v' h hb => ⟨(by rw [Below.cell hb (World.block_lt_of_cell? _ _ h.1)]; exact h.1), (by rw [Below.cell hb (World.block_lt_of_cell? _ _ h.2.1)]; exact h.2.1), (by rw [Below.cell hb (World.block_lt_of_cell? _ _ h.2.2.1)]; exact h.2.2.1), (by rw [Below.cell hb (World.block_lt_of_cell? _ _ h.2.2.2.1)]; exact h.2.2.2.1), Nat.le_trans h.2.2.2.2.1 hb.size, h.2.2.2.2.2.1.below hb, h.2.2.2.2.2.2.1.below hb, h.2.2.2.2.2.2.2.1.below hb, h.2.2.2.2.2.2.2.2.1.below hb, h.2.2.2.2.2.2.2.2.2.1.below hb, h.2.2.2.2.2.2.2.2.2.2.1.below hb, Bel_next h.2.2.2.2.2.2.2.2.2.2.2 hb⟩)
  have HP : Hid (∀ v : World, (v.cell? ⟨w7.heap.size, 0, none⟩ = some (.int .i64 tn) ∧ v.cell? ⟨w7.heap.size, 1, none⟩ = some (.slice aoX_us us.length us.length) ∧ v.cell? ⟨(w.heap.size + 1), 0, none⟩ = some (.int .i64 tn) ∧ v.cell? ⟨(w.heap.size + 1), 1, none⟩ = some (.slice ao_us us.length c_us) ∧ w10.heap.size ≤ v.heap.size ∧ Whole v w.heap.size 24 #[.int .i64 sn, .slice ao_xs xs.length c_xs] ∧ Whole v (w.heap.size + 1) 24 #[.int .i64 tn, .slice ao_us us.length c_us] ∧ Row v w4.heap.size w5.heap.size aoX_xs (fl .f32 xs) ∧ Whole v w5.heap.size 27 #[.int .i64 sn, .slice aoX_xs xs.length xs.length] ∧ Row v w6.heap.size w7.heap.size aoX_us (fl .f32 us) ∧ Whole v w7.heap.size 27 #[.int .i64 tn, .slice aoX_us us.length us.length] ∧ Below w.heap.size w v) → (Whole v w.heap.size 24 #[.int .i64 sn, .slice ao_xs xs.length c_xs] ∧ Whole v (w.heap.size + 1) 24 #[.int .i64 tn, .slice ao_us us.length c_us] ∧ Row v w4.heap.size w5.heap.size aoX_xs (fl .f32 xs) ∧ Whole v w5.heap.size 27 #[.int .i64 sn, .slice aoX_xs xs.length xs.length] ∧ Row v w6.heap.size w7.heap.size aoX_us (fl .f32 us) ∧ Whole v w7.heap.size 27 #[.int .i64 tn, .slice aoX_us us.length us.length] ∧ Below w.heap.size w v)) := Lib.hid (fun v h => h.2.2.2.2.2)
  have hR : w10.cell? ⟨w7.heap.size, 0, none⟩ = some (.int .i64 tn) ∧ w10.cell? ⟨w7.heap.size, 1, none⟩ = some (.slice aoX_us us.length us.length) ∧ w10.cell? ⟨(w.heap.size + 1), 0, none⟩ = some (.int .i64 tn) ∧ w10.cell? ⟨(w.heap.size + 1), 1, none⟩ = some (.slice ao_us us.length c_us) ∧ w10.heap.size ≤ w10.heap.size ∧ Whole w10 w.heap.size 24 #[.int .i64 sn, .slice ao_xs xs.length c_xs] ∧ Whole w10 (w.heap.size + 1) 24 #[.int .i64 tn, .slice ao_us us.length c_us] ∧ Row w10 w4.heap.size w5.heap.size aoX_xs (fl .f32 xs) ∧ Whole w10 w5.heap.size 27 #[.int .i64 sn, .slice aoX_xs xs.length xs.length] ∧ Row w10 w6.heap.size w7.heap.size aoX_us (fl .f32 us) ∧ Whole w10 w7.heap.size 27 #[.int .i64 tn, .slice aoX_us us.length us.length] ∧ Below w.heap.size w w10 := ⟨(HS10.out.2.2.2.2.2.1).cell 0, (HS10.out.2.2.2.2.2.1).cell 1, (HS10.out.2.1).cell 0, (HS10.out.2.1).cell 1, Nat.le_refl _, HS10.out.1, HS10.out.2.1, HS10.out.2.2.1, HS10.out.2.2.2.1, HS10.out.2.2.2.2.1, HS10.out.2.2.2.2.2.1, HS10.out.2.2.2.2.2.2⟩
  go_region_held3 (fun v => v.cell? ⟨w7.heap.size, 0, none⟩ = some (.int .i64 tn) ∧ v.cell? ⟨w7.heap.size, 1, none⟩ = some (.slice aoX_us us.length us.length) ∧ v.cell? ⟨(w.heap.size + 1), 0, none⟩ = some (.int .i64 tn) ∧ v.cell? ⟨(w.heap.size + 1), 1, none⟩ = some (.slice ao_us us.length c_us) ∧ w10.heap.size ≤ v.heap.size ∧ Whole v w.heap.size 24 #[.int .i64 sn, .slice ao_xs xs.length c_xs] ∧ Whole v (w.heap.size + 1) 24 #[.int .i64 tn, .slice ao_us us.length c_us] ∧ Row v w4.heap.size w5.heap.size aoX_xs (fl .f32 xs) ∧ Whole v w5.heap.size 27 #[.int .i64 sn, .slice aoX_xs xs.length xs.length] ∧ Row v w6.heap.size w7.heap.size aoX_us (fl .f32 us) ∧ Whole v w7.heap.size 27 #[.int .i64 tn, .slice aoX_us us.length us.length] ∧ Below w.heap.size w v)
    (first | assumption | exact HK.out _ _ (by assumption) (by assumption) | exact HK.out _ _ (by assumption) ((Below.refl _ _).drew) | (refine HK.out _ _ (by assumption) ?_; (repeat (first | with_reducible exact Below.refl _ _ | with_reducible refine Below.drew ?_ | with_reducible refine Bel_drewN ?_ _ | with_reducible refine Below.alloc ?_ (by first | omega | (simp; done) | (simp; omega)) _ | with_reducible refine Below.setCell ?_ (by first | omega | (simp; done) | (simp; omega)) _)); done))
    (first | (go_at_call 17; refine (toChain_any tn us _ _ _ (Holds.below HX_us.out (HP.out _ (by assumption)).2.2.2.2.2.2) hn_us).mono ?_; rintro e wt ⟨aoY_us, rfl, rowY_us, hbt⟩) | (go_at_call 19; refine (eqChain_same tn us _ rfl _ _ _ _ _ ((HP.out _ (by assumption)).2.2.2.2.1.holds) (by exact rowY_us.holds) hn_us).mono ?_; rintro e w11 ⟨rfl, hb⟩))
  have hN := (HK.out _ _ (HK.out _ _ hR (by first | exact hbt | exact Bel_next (Below.refl _ _).drew hbt)) (by first | exact hb | exact Bel_next (Below.refl _ _).drew hb))
  have z11 : w10.heap.size ≤ w11.heap.size := hN.2.2.2.2.1
  have HS11 : Hid (Whole w11 w.heap.size 24 #[.int .i64 sn, .slice ao_xs xs.length c_xs] ∧ Whole w11 (w.heap.size + 1) 24 #[.int .i64 tn, .slice ao_us us.length c_us] ∧ Row w11 w4.heap.size w5.heap.size aoX_xs (fl .f32 xs) ∧ Whole w11 w5.heap.size 27 #[.int .i64 sn, .slice aoX_xs xs.length xs.length] ∧ Row w11 w6.heap.size w7.heap.size aoX_us (fl .f32 us) ∧ Whole w11 w7.heap.size 27 #[.int .i64 tn, .slice aoX_us us.length us.length] ∧ Below w.heap.size w w11) := Lib.hid ⟨hN.2.2.2.2.2.1, hN.2.2.2.2.2.2.1, hN.2.2.2.2.2.2.2.1, hN.2.2.2.2.2.2.2.2.1, hN.2.2.2.2.2.2.2.2.2.1, hN.2.2.2.2.2.2.2.2.2.2.1, hN.2.2.2.2.2.2.2.2.2.2.2⟩
  clear HS10 hN hR HK HP hb hbt
  clear rowY_us
  have hc0 := (HS11.out.1).facts.1
  have hf0 := (HS11.out.1).facts.2
  have hz0 := (HS11.out.1).lt
  have hc1 := (HS11.out.2.1).facts.1
  have hf1 := (HS11.out.2.1).facts.2
  have hz1 := (HS11.out.2.1).lt
  have hc3 := (HS11.out.2.2.2.1).facts.1
  have hf3 := (HS11.out.2.2.2.1).facts.2
  have hz3 := (HS11.out.2.2.2.1).lt
  have hc5 := (HS11.out.2.2.2.2.2.1).facts.1
  have hf5 := (HS11.out.2.2.2.2.2.1).facts.2
  have hz5 := (HS11.out.2.2.2.2.2.1).lt
  go_wp2_with fail
  clear hc0 hf0 hz0
  clear hc1 hf1 hz1
  clear hc3 hf3 hz3
  clear hc5 hf5 hz5
  go_ret
  exact ⟨rfl, Bel_next HS11.out.2.2.2.2.2.2 (by repeat (first | with_reducible exact Below.refl _ _ | with_reducible refine Below.drew ?_ | with_reducible refine Bel_drewN ?_ _ | with_reducible refine Below.alloc ?_ (by first | omega | (simp; done) | (simp; omega)) _ | with_reducible refine Below.setCell ?_ (by first | omega | (simp; done) | (simp; omega)) _))⟩
end Go.Proofs.Ytfbllggnndodoaa
