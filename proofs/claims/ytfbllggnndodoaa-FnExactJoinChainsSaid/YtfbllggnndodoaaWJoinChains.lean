/- The walk of the law FnExactJoinChains. -/
import Derived.Test.YtfbllggnndodoaaJoy
import Derived.Test.YtfbllggnndodoaaSChain
import Derived.Deep.RegionHeld3
import Derived.Deep.DeepCutAuto
namespace Go.Proofs.Ytfbllggnndodoaa
open Go Go.RowKit Fl
set_option linter.unusedVariables false

set_option maxRecDepth 100000 in
set_option maxHeartbeats 20000000 in
theorem FnExactJoinChains_walk (sn : Int) (h_sn : (Lit.int .i64 sn).wf = true) (ss : List Nat) (ao_ss : Option Addr) (c_ss : Nat) (m_ss : ss.length ≤ 9223372036854775807) (tn : Int) (h_tn : (Lit.int .i64 tn).wf = true) (us : List Nat) (ao_us : Option Addr) (c_us : Nat) (m_us : us.length ≤ 9223372036854775807) (w : World) (hx_ss : Holds w ao_ss (fl .f32 ss)) (hx_us : Holds w ao_us (fl .f32 us)) :
    Calls Try.prog 10 #[.agg #[.int .i64 sn, .slice ao_ss ss.length c_ss], .agg #[.int .i64 tn, .slice ao_us us.length c_us]] w fun e w' => e = .returned (.bool true) ∧ Below w.heap.size w w' := by
  by_cases hl0 : ss.length ≤ 1048576
  case neg =>
    have HL0 := Lib.hid hl0
    clear hl0
    go_enter Try.func10, Try.ntmps10
    have HS0 : Hid (Below w.heap.size w w) := Lib.hid (Below.refl _ _)
    go_wp2_with fail
    generalize hW : World.alloc (World.alloc w _) _ = w1
    have hb : Below w.heap.size w w1 := by rw [← hW]; exact (by repeat (first | with_reducible exact Below.refl _ _ | with_reducible refine Below.drew ?_ | with_reducible refine Bel_drewN ?_ _ | with_reducible refine Below.alloc ?_ (by first | omega | (simp; done) | (simp; omega)) _ | with_reducible refine Below.setCell ?_ (by first | omega | (simp; done) | (simp; omega)) _))
    have z1 : w.heap.size + 2 ≤ w1.heap.size := by rw [← hW]; simp
    have HS1 : Hid (Whole w1 w.heap.size 24 #[.int .i64 sn, .slice ao_ss ss.length c_ss] ∧ Whole w1 (w.heap.size + 1) 24 #[.int .i64 tn, .slice ao_us us.length c_us] ∧ Below w.heap.size w w1) := Lib.hid ⟨by rw [← hW]; exact (Whole.made _ _ _).alloc _, by rw [← hW]; exact Whole.made2 _ _ _ _, Bel_next HS0.out hb⟩
    clear HS0 hW hb
    refine (szChain_no sn ss _ _ (1048576) _ HL0.out (by omega) m_ss).mono ?_
    rintro e w2 ⟨rfl, hb⟩
    have z2 : w1.heap.size ≤ w2.heap.size := hb.size
    have HS2 : Hid (Whole w2 w.heap.size 24 #[.int .i64 sn, .slice ao_ss ss.length c_ss] ∧ Whole w2 (w.heap.size + 1) 24 #[.int .i64 tn, .slice ao_us us.length c_us] ∧ Below w.heap.size w w2) := Lib.hid ⟨HS1.out.1.below hb, HS1.out.2.1.below hb, Bel_next HS1.out.2.2 hb⟩
    clear HS1 hb
    have hc0 := (HS2.out.1).facts.1
    have hf0 := (HS2.out.1).facts.2
    have hz0 := (HS2.out.1).lt
    have hc1 := (HS2.out.2.1).facts.1
    have hf1 := (HS2.out.2.1).facts.2
    have hz1 := (HS2.out.2.1).lt
    go_wp2_with fail
    clear hc0 hf0 hz0
    clear hc1 hf1 hz1
    go_ret
    exact ⟨rfl, Bel_next HS2.out.2.2 (by repeat (first | with_reducible exact Below.refl _ _ | with_reducible refine Below.drew ?_ | with_reducible refine Bel_drewN ?_ _ | with_reducible refine Below.alloc ?_ (by first | omega | (simp; done) | (simp; omega)) _ | with_reducible refine Below.setCell ?_ (by first | omega | (simp; done) | (simp; omega)) _))⟩
  have HL0 := Lib.hid hl0
  by_cases hl1 : us.length ≤ 1048576 - (ss.length)
  case neg =>
    have HL1 := Lib.hid hl1
    clear hl1
    go_enter Try.func10, Try.ntmps10
    have HS0 : Hid (Below w.heap.size w w) := Lib.hid (Below.refl _ _)
    go_wp2_with fail
    generalize hW : World.alloc (World.alloc w _) _ = w1
    have hb : Below w.heap.size w w1 := by rw [← hW]; exact (by repeat (first | with_reducible exact Below.refl _ _ | with_reducible refine Below.drew ?_ | with_reducible refine Bel_drewN ?_ _ | with_reducible refine Below.alloc ?_ (by first | omega | (simp; done) | (simp; omega)) _ | with_reducible refine Below.setCell ?_ (by first | omega | (simp; done) | (simp; omega)) _))
    have z1 : w.heap.size + 2 ≤ w1.heap.size := by rw [← hW]; simp
    have HS1 : Hid (Whole w1 w.heap.size 24 #[.int .i64 sn, .slice ao_ss ss.length c_ss] ∧ Whole w1 (w.heap.size + 1) 24 #[.int .i64 tn, .slice ao_us us.length c_us] ∧ Below w.heap.size w w1) := Lib.hid ⟨by rw [← hW]; exact (Whole.made _ _ _).alloc _, by rw [← hW]; exact Whole.made2 _ _ _ _, Bel_next HS0.out hb⟩
    clear HS0 hW hb
    refine (szChain_yes sn ss _ _ (1048576) _ HL0.out (by omega)).mono ?_
    rintro e w2 ⟨rfl, hb⟩
    have z2 : w1.heap.size ≤ w2.heap.size := hb.size
    have HS2 : Hid (Whole w2 w.heap.size 24 #[.int .i64 sn, .slice ao_ss ss.length c_ss] ∧ Whole w2 (w.heap.size + 1) 24 #[.int .i64 tn, .slice ao_us us.length c_us] ∧ Below w.heap.size w w2) := Lib.hid ⟨HS1.out.1.below hb, HS1.out.2.1.below hb, Bel_next HS1.out.2.2 hb⟩
    clear HS1 hb
    have hc0 := (HS2.out.1).facts.1
    have hf0 := (HS2.out.1).facts.2
    have hz0 := (HS2.out.1).lt
    have hc1 := (HS2.out.2.1).facts.1
    have hf1 := (HS2.out.2.1).facts.2
    have hz1 := (HS2.out.2.1).lt
    go_wp2_with fail
    clear hc0 hf0 hz0
    clear hc1 hf1 hz1
    refine (szChain_no tn us _ _ (1048576 - (ss.length)) _ HL1.out (by omega) m_us).mono ?_
    rintro e w3 ⟨rfl, hb⟩
    have z3 : w2.heap.size ≤ w3.heap.size := hb.size
    have HS3 : Hid (Whole w3 w.heap.size 24 #[.int .i64 sn, .slice ao_ss ss.length c_ss] ∧ Whole w3 (w.heap.size + 1) 24 #[.int .i64 tn, .slice ao_us us.length c_us] ∧ Below w.heap.size w w3) := Lib.hid ⟨HS2.out.1.below hb, HS2.out.2.1.below hb, Bel_next HS2.out.2.2 hb⟩
    clear HS2 hb
    have hc0 := (HS3.out.1).facts.1
    have hf0 := (HS3.out.1).facts.2
    have hz0 := (HS3.out.1).lt
    have hc1 := (HS3.out.2.1).facts.1
    have hf1 := (HS3.out.2.1).facts.2
    have hz1 := (HS3.out.2.1).lt
    go_wp2_with fail
    clear hc0 hf0 hz0
    clear hc1 hf1 hz1
    go_ret
    exact ⟨rfl, Bel_next HS3.out.2.2 (by repeat (first | with_reducible exact Below.refl _ _ | with_reducible refine Below.drew ?_ | with_reducible refine Bel_drewN ?_ _ | with_reducible refine Below.alloc ?_ (by first | omega | (simp; done) | (simp; omega)) _ | with_reducible refine Below.setCell ?_ (by first | omega | (simp; done) | (simp; omega)) _))⟩
  have HL1 := Lib.hid hl1
  have hn_ss : ss.length ≤ 1048576 := by omega
  have hn_us : us.length ≤ 1048576 := by omega
  clear hl0 hl1
  have HX_ss := Lib.hid hx_ss
  clear hx_ss
  have HX_us := Lib.hid hx_us
  clear hx_us
  by_cases hv0 : joiC sn tn ss us ∧ isChain sn (canL ss.length (joiG sn.toNat ss us))
  · have HV := Lib.hid hv0
    clear hv0
    go_enter Try.func10, Try.ntmps10
    have HS0 : Hid (Below w.heap.size w w) := Lib.hid (Below.refl _ _)
    go_wp2_with fail
    generalize hW : World.alloc (World.alloc w _) _ = w1
    have hb : Below w.heap.size w w1 := by rw [← hW]; exact (by repeat (first | with_reducible exact Below.refl _ _ | with_reducible refine Below.drew ?_ | with_reducible refine Bel_drewN ?_ _ | with_reducible refine Below.alloc ?_ (by first | omega | (simp; done) | (simp; omega)) _ | with_reducible refine Below.setCell ?_ (by first | omega | (simp; done) | (simp; omega)) _))
    have z1 : w.heap.size + 2 ≤ w1.heap.size := by rw [← hW]; simp
    have HS1 : Hid (Whole w1 w.heap.size 24 #[.int .i64 sn, .slice ao_ss ss.length c_ss] ∧ Whole w1 (w.heap.size + 1) 24 #[.int .i64 tn, .slice ao_us us.length c_us] ∧ Below w.heap.size w w1) := Lib.hid ⟨by rw [← hW]; exact (Whole.made _ _ _).alloc _, by rw [← hW]; exact Whole.made2 _ _ _ _, Bel_next HS0.out hb⟩
    clear HS0 hW hb
    refine (szChain_yes sn ss _ _ (1048576) _ HL0.out (by omega)).mono ?_
    rintro e w2 ⟨rfl, hb⟩
    have z2 : w1.heap.size ≤ w2.heap.size := hb.size
    have HS2 : Hid (Whole w2 w.heap.size 24 #[.int .i64 sn, .slice ao_ss ss.length c_ss] ∧ Whole w2 (w.heap.size + 1) 24 #[.int .i64 tn, .slice ao_us us.length c_us] ∧ Below w.heap.size w w2) := Lib.hid ⟨HS1.out.1.below hb, HS1.out.2.1.below hb, Bel_next HS1.out.2.2 hb⟩
    clear HS1 hb
    have hc0 := (HS2.out.1).facts.1
    have hf0 := (HS2.out.1).facts.2
    have hz0 := (HS2.out.1).lt
    have hc1 := (HS2.out.2.1).facts.1
    have hf1 := (HS2.out.2.1).facts.2
    have hz1 := (HS2.out.2.1).lt
    go_wp2_with fail
    clear hc0 hf0 hz0
    clear hc1 hf1 hz1
    refine (szChain_yes tn us _ _ (1048576 - (ss.length)) _ HL1.out (by omega)).mono ?_
    rintro e w3 ⟨rfl, hb⟩
    have z3 : w2.heap.size ≤ w3.heap.size := hb.size
    have HS3 : Hid (Whole w3 w.heap.size 24 #[.int .i64 sn, .slice ao_ss ss.length c_ss] ∧ Whole w3 (w.heap.size + 1) 24 #[.int .i64 tn, .slice ao_us us.length c_us] ∧ Below w.heap.size w w3) := Lib.hid ⟨HS2.out.1.below hb, HS2.out.2.1.below hb, Bel_next HS2.out.2.2 hb⟩
    clear HS2 hb
    have hc0 := (HS3.out.1).facts.1
    have hf0 := (HS3.out.1).facts.2
    have hz0 := (HS3.out.1).lt
    have hc1 := (HS3.out.2.1).facts.1
    have hf1 := (HS3.out.2.1).facts.2
    have hz1 := (HS3.out.2.1).lt
    go_wp2_with fail
    clear hc0 hf0 hz0
    clear hc1 hf1 hz1
    have HK : Hid (∀ v v' : World, (v.cell? ⟨w.heap.size, 0, none⟩ = some (.int .i64 sn) ∧ v.cell? ⟨w.heap.size, 1, none⟩ = some (.slice ao_ss ss.length c_ss) ∧ v.cell? ⟨(w.heap.size + 1), 0, none⟩ = some (.int .i64 tn) ∧ v.cell? ⟨(w.heap.size + 1), 1, none⟩ = some (.slice ao_us us.length c_us) ∧ w3.heap.size ≤ v.heap.size ∧ Whole v w.heap.size 24 #[.int .i64 sn, .slice ao_ss ss.length c_ss] ∧ Whole v (w.heap.size + 1) 24 #[.int .i64 tn, .slice ao_us us.length c_us] ∧ Below w.heap.size w v) → Below v.heap.size v v' → (v'.cell? ⟨w.heap.size, 0, none⟩ = some (.int .i64 sn) ∧ v'.cell? ⟨w.heap.size, 1, none⟩ = some (.slice ao_ss ss.length c_ss) ∧ v'.cell? ⟨(w.heap.size + 1), 0, none⟩ = some (.int .i64 tn) ∧ v'.cell? ⟨(w.heap.size + 1), 1, none⟩ = some (.slice ao_us us.length c_us) ∧ w3.heap.size ≤ v'.heap.size ∧ Whole v' w.heap.size 24 #[.int .i64 sn, .slice ao_ss ss.length c_ss] ∧ Whole v' (w.heap.size + 1) 24 #[.int .i64 tn, .slice ao_us us.length c_us] ∧ Below w.heap.size w v')) := Lib.hid (fun v v' h hb => ⟨(by rw [Below.cell hb (World.block_lt_of_cell? _ _ h.1)]; exact h.1), (by rw [Below.cell hb (World.block_lt_of_cell? _ _ h.2.1)]; exact h.2.1), (by rw [Below.cell hb (World.block_lt_of_cell? _ _ h.2.2.1)]; exact h.2.2.1), (by rw [Below.cell hb (World.block_lt_of_cell? _ _ h.2.2.2.1)]; exact h.2.2.2.1), Nat.le_trans h.2.2.2.2.1 hb.size, h.2.2.2.2.2.1.below hb, h.2.2.2.2.2.2.1.below hb, Bel_next h.2.2.2.2.2.2.2 hb⟩)
    have HP : Hid (∀ v : World, (v.cell? ⟨w.heap.size, 0, none⟩ = some (.int .i64 sn) ∧ v.cell? ⟨w.heap.size, 1, none⟩ = some (.slice ao_ss ss.length c_ss) ∧ v.cell? ⟨(w.heap.size + 1), 0, none⟩ = some (.int .i64 tn) ∧ v.cell? ⟨(w.heap.size + 1), 1, none⟩ = some (.slice ao_us us.length c_us) ∧ w3.heap.size ≤ v.heap.size ∧ Whole v w.heap.size 24 #[.int .i64 sn, .slice ao_ss ss.length c_ss] ∧ Whole v (w.heap.size + 1) 24 #[.int .i64 tn, .slice ao_us us.length c_us] ∧ Below w.heap.size w v) → (Whole v w.heap.size 24 #[.int .i64 sn, .slice ao_ss ss.length c_ss] ∧ Whole v (w.heap.size + 1) 24 #[.int .i64 tn, .slice ao_us us.length c_us] ∧ Below w.heap.size w v)) := Lib.hid (fun v h => h.2.2.2.2.2)
    have hR : w3.cell? ⟨w.heap.size, 0, none⟩ = some (.int .i64 sn) ∧ w3.cell? ⟨w.heap.size, 1, none⟩ = some (.slice ao_ss ss.length c_ss) ∧ w3.cell? ⟨(w.heap.size + 1), 0, none⟩ = some (.int .i64 tn) ∧ w3.cell? ⟨(w.heap.size + 1), 1, none⟩ = some (.slice ao_us us.length c_us) ∧ w3.heap.size ≤ w3.heap.size ∧ Whole w3 w.heap.size 24 #[.int .i64 sn, .slice ao_ss ss.length c_ss] ∧ Whole w3 (w.heap.size + 1) 24 #[.int .i64 tn, .slice ao_us us.length c_us] ∧ Below w.heap.size w w3 := ⟨(HS3.out.1).cell 0, (HS3.out.1).cell 1, (HS3.out.2.1).cell 0, (HS3.out.2.1).cell 1, Nat.le_refl _, HS3.out.1, HS3.out.2.1, HS3.out.2.2⟩
    have HK2 : Hid (∀ (v : World) (q : Addr) (u : Value), (v.cell? ⟨w.heap.size, 0, none⟩ = some (.int .i64 sn) ∧ v.cell? ⟨w.heap.size, 1, none⟩ = some (.slice ao_ss ss.length c_ss) ∧ v.cell? ⟨(w.heap.size + 1), 0, none⟩ = some (.int .i64 tn) ∧ v.cell? ⟨(w.heap.size + 1), 1, none⟩ = some (.slice ao_us us.length c_us) ∧ w3.heap.size ≤ v.heap.size ∧ Whole v w.heap.size 24 #[.int .i64 sn, .slice ao_ss ss.length c_ss] ∧ Whole v (w.heap.size + 1) 24 #[.int .i64 tn, .slice ao_us us.length c_us] ∧ Below w.heap.size w v) → w3.heap.size ≤ q.block → ((v.setCell q u).cell? ⟨w.heap.size, 0, none⟩ = some (.int .i64 sn) ∧ (v.setCell q u).cell? ⟨w.heap.size, 1, none⟩ = some (.slice ao_ss ss.length c_ss) ∧ (v.setCell q u).cell? ⟨(w.heap.size + 1), 0, none⟩ = some (.int .i64 tn) ∧ (v.setCell q u).cell? ⟨(w.heap.size + 1), 1, none⟩ = some (.slice ao_us us.length c_us) ∧ w3.heap.size ≤ (v.setCell q u).heap.size ∧ Whole (v.setCell q u) w.heap.size 24 #[.int .i64 sn, .slice ao_ss ss.length c_ss] ∧ Whole (v.setCell q u) (w.heap.size + 1) 24 #[.int .i64 tn, .slice ao_us us.length c_us] ∧ Below w.heap.size w (v.setCell q u))) := Lib.hid (fun v q u h hq => ⟨((World.cell?_of_block (a := ⟨w.heap.size, 0, none⟩) (Below.heap_setCell v q u _ (by show ¬ _ = _; simp only []; omega))).trans h.1), ((World.cell?_of_block (a := ⟨w.heap.size, 1, none⟩) (Below.heap_setCell v q u _ (by show ¬ _ = _; simp only []; omega))).trans h.2.1), ((World.cell?_of_block (a := ⟨(w.heap.size + 1), 0, none⟩) (Below.heap_setCell v q u _ (by show ¬ _ = _; simp only []; omega))).trans h.2.2.1), ((World.cell?_of_block (a := ⟨(w.heap.size + 1), 1, none⟩) (Below.heap_setCell v q u _ (by show ¬ _ = _; simp only []; omega))).trans h.2.2.2.1), (by simpa using h.2.2.2.2.1), h.2.2.2.2.2.1.far (by omega) _, h.2.2.2.2.2.2.1.far (by omega) _, Below.setCell h.2.2.2.2.2.2.2 (by omega) _⟩)
    go_cut [6, 7] from 17 (fun s0 s1 wx => ∃ (gN : Nat) (aos : Option Addr) (ccs : Nat), s0 = .pointer (some ⟨gN, 0, none⟩) ∧ s1 = .bool true ∧ w3.heap.size ≤ gN ∧ Whole wx gN 27 #[.int .i64 sn, .slice aos ss.length ccs] ∧ Row wx w3.heap.size wx.heap.size aos (fl .f32 (canL ss.length (joiG sn.toNat ss us))) ∧ Whole wx w.heap.size 24 #[.int .i64 sn, .slice ao_ss ss.length c_ss] ∧ Whole wx (w.heap.size + 1) 24 #[.int .i64 tn, .slice ao_us us.length c_us] ∧ Below w.heap.size w wx)
    case first =>
      go_region_held3 (fun v => v.cell? ⟨w.heap.size, 0, none⟩ = some (.int .i64 sn) ∧ v.cell? ⟨w.heap.size, 1, none⟩ = some (.slice ao_ss ss.length c_ss) ∧ v.cell? ⟨(w.heap.size + 1), 0, none⟩ = some (.int .i64 tn) ∧ v.cell? ⟨(w.heap.size + 1), 1, none⟩ = some (.slice ao_us us.length c_us) ∧ w3.heap.size ≤ v.heap.size ∧ Whole v w.heap.size 24 #[.int .i64 sn, .slice ao_ss ss.length c_ss] ∧ Whole v (w.heap.size + 1) 24 #[.int .i64 tn, .slice ao_us us.length c_us] ∧ Below w.heap.size w v)
        (first | with_reducible assumption | with_reducible exact HSv2.out | with_reducible exact HSv1.out | with_reducible exact HSv0.out | ((with_reducible refine HK.out _ _ HSv2.out ?_); (repeat (first | with_reducible exact Below.refl _ _ | with_reducible refine Below.drew ?_ | with_reducible refine Bel_drewN ?_ _ | with_reducible refine Below.alloc ?_ (by first | omega | (simp; done) | (simp; omega)) _ | with_reducible refine Below.setCell ?_ (by first | omega | (simp; done) | (simp; omega)) _)); done) | ((with_reducible refine HK.out _ _ HSv1.out ?_); (repeat (first | with_reducible exact Below.refl _ _ | with_reducible refine Below.drew ?_ | with_reducible refine Bel_drewN ?_ _ | with_reducible refine Below.alloc ?_ (by first | omega | (simp; done) | (simp; omega)) _ | with_reducible refine Below.setCell ?_ (by first | omega | (simp; done) | (simp; omega)) _)); done) | ((with_reducible refine HK.out _ _ HSv0.out ?_); (repeat (first | with_reducible exact Below.refl _ _ | with_reducible refine Below.drew ?_ | with_reducible refine Bel_drewN ?_ _ | with_reducible refine Below.alloc ?_ (by first | omega | (simp; done) | (simp; omega)) _ | with_reducible refine Below.setCell ?_ (by first | omega | (simp; done) | (simp; omega)) _)); done) | ((with_reducible refine HK.out w3 _ hR ?_); (repeat (first | with_reducible exact Below.refl _ _ | with_reducible refine Below.drew ?_ | with_reducible refine Bel_drewN ?_ _ | with_reducible refine Below.alloc ?_ (by first | omega | (simp; done) | (simp; omega)) _ | with_reducible refine Below.setCell ?_ (by first | omega | (simp; done) | (simp; omega)) _)); done) | ((with_reducible refine HK2.out _ _ _ HSv2.out ?_) <;> (first | omega | (simp; done) | (simp; omega))) | ((with_reducible refine HK2.out _ _ _ (HK2.out _ _ _ HSv2.out ?_) ?_) <;> (first | omega | (simp; done) | (simp; omega))) | exact HK.out _ _ (by with_reducible assumption) (by with_reducible assumption))
        (first | (go_at_call 17; (with_reducible (refine (toChain_any sn ss _ _ _ (Holds.below HX_ss.out (HP.out _ (by assumption)).2.2) hn_ss).mono ?_)); rintro e wt0 ⟨aosd_ss, rfl, rowsd_ss, hbt0⟩; have zz0 := hbt0.size; (try simp at zz0); have HSv0 := Lib.hid (HK.out _ _ (by with_reducible assumption) hbt0); obtain ⟨kc0, kf0⟩ := cells_kept hbt0; (try have zt0_0 : w3.heap.size < wt0.heap.size := by omega)) | (go_at_call 17; (with_reducible (refine (toChain_any tn us _ _ _ (Holds.below HX_us.out (HP.out _ (by assumption)).2.2) hn_us).mono ?_)); rintro e wt1 ⟨aosd_us, rfl, rowsd_us, hbt1⟩; have zz1 := hbt1.size; (try simp at zz1); have HSv1 := Lib.hid (HK.out _ _ (by with_reducible assumption) hbt1); obtain ⟨kc1, kf1⟩ := cells_kept hbt1; (try have zt1_0 : w3.heap.size < wt1.heap.size := by omega); (try have zt1_1 : wt0.heap.size < wt1.heap.size := by omega)) | (go_at_call 38; refine (specJoi_is sn tn ss us _ _ rfl rfl _ _ _ _ _ (by first | exact ((Row.below rowsd_ss (by first | exact hbt1 | exact Bel_next (Below.refl _ _).drew hbt1 | (refine Bel_next ?_ hbt1; (repeat (first | with_reducible exact Below.refl _ _ | with_reducible refine Below.drew ?_ | with_reducible refine Bel_drewN ?_ _ | with_reducible refine Below.alloc ?_ (by first | omega | (simp; done) | (simp; omega)) _ | with_reducible refine Below.setCell ?_ (by first | omega | (simp; done) | (simp; omega)) _)); done)))).holds | (refine (Row.below (Row.below rowsd_ss (by first | exact hbt1 | exact Bel_next (Below.refl _ _).drew hbt1 | (refine Bel_next ?_ hbt1; (repeat (first | with_reducible exact Below.refl _ _ | with_reducible refine Below.drew ?_ | with_reducible refine Bel_drewN ?_ _ | with_reducible refine Below.alloc ?_ (by first | omega | (simp; done) | (simp; omega)) _ | with_reducible refine Below.setCell ?_ (by first | omega | (simp; done) | (simp; omega)) _)); done))) ?_).holds; (repeat (first | with_reducible exact Below.refl _ _ | with_reducible refine Below.drew ?_ | with_reducible refine Bel_drewN ?_ _ | with_reducible refine Below.alloc ?_ (by first | omega | (simp; done) | (simp; omega)) _ | with_reducible refine Below.setCell ?_ (by first | omega | (simp; done) | (simp; omega)) _)); done)) (by first | exact (rowsd_us).holds | (refine (Row.below rowsd_us ?_).holds; (repeat (first | with_reducible exact Below.refl _ _ | with_reducible refine Below.drew ?_ | with_reducible refine Bel_drewN ?_ _ | with_reducible refine Below.alloc ?_ (by first | omega | (simp; done) | (simp; omega)) _ | with_reducible refine Below.setCell ?_ (by first | omega | (simp; done) | (simp; omega)) _)); done)) hn_ss hn_us HV.out).mono ?_; rintro e w4 ⟨aos, ccs, rfl, rows, hb⟩; have zz2 := hb.size; (try simp at zz2); have HSv2 := Lib.hid (HK.out _ _ (by with_reducible assumption) hb); obtain ⟨kc2, kf2⟩ := cells_kept hb; (try have zt2_0 : w3.heap.size < w4.heap.size := by omega); (try have zt2_1 : wt0.heap.size < w4.heap.size := by omega); (try have zt2_2 : wt1.heap.size < w4.heap.size := by omega)))
      all_goals
        go_wp2_with fail
        go_meet
        refine ⟨_, aos, ccs, rfl, rfl, ?_, ?_, ?_, ?_⟩
        · first | omega | (simp; done) | (simp; omega)
        · first | exact Whole.made _ _ _ | (have hq := (((Whole.made _ _ _).below hbt0).below hbt1).below hb; exact ((hq).put 0 _).put 1 _) | (have hq := ((((Whole.made _ _ _).drew).below hbt0).below hbt1).below hb; exact ((hq).put 0 _).put 1 _) | (have hq := ((Whole.made _ _ _).below hbt1).below hb; exact ((hq).put 0 _).put 1 _) | (have hq := (Whole.made _ _ _).below hb; exact ((hq).put 0 _).put 1 _)
        · first | exact Row.wide (Row.far (Row.far rows (by first | (left; (first | omega | (simp; done) | (simp; omega))) | (right; (first | omega | (simp; done) | (simp; omega)))) _) (by first | (left; (first | omega | (simp; done) | (simp; omega))) | (right; (first | omega | (simp; done) | (simp; omega)))) _) (by first | omega | (simp; done) | (simp; omega)) (by first | omega | (simp; done) | (simp; omega)) | exact Row.wide (Row.alloc rows _) (by first | omega | (simp; done) | (simp; omega)) (by first | omega | (simp; done) | (simp; omega)) | exact Row.wide (Row.far (Row.far (Row.alloc rows _) (by first | (left; (first | omega | (simp; done) | (simp; omega))) | (right; (first | omega | (simp; done) | (simp; omega)))) _) (by first | (left; (first | omega | (simp; done) | (simp; omega))) | (right; (first | omega | (simp; done) | (simp; omega)))) _) (by first | omega | (simp; done) | (simp; omega)) (by first | omega | (simp; done) | (simp; omega))
        · first | (refine HP.out _ (HK.out _ _ HSv2.out ?_); (repeat (first | with_reducible exact Below.refl _ _ | with_reducible refine Below.drew ?_ | with_reducible refine Bel_drewN ?_ _ | with_reducible refine Below.alloc ?_ (by first | omega | (simp; done) | (simp; omega)) _ | with_reducible refine Below.setCell ?_ (by first | omega | (simp; done) | (simp; omega)) _)); done) | exact HP.out _ (HK2.out _ _ _ (HK2.out _ _ _ HSv2.out (by first | omega | (simp; done) | (simp; omega))) (by first | omega | (simp; done) | (simp; omega)))
    case rest =>
      obtain ⟨gN, aos, ccs, rfl, rfl, hle, hW, hrow0, hS⟩ := hcut
      rename World => w4
      have z4 : w3.heap.size ≤ w4.heap.size := by have := hW.lt; omega
      obtain ⟨gN4, hgN⟩ : ∃ g, g = gN := ⟨_, rfl⟩
      subst hgN
      have ygN4 : gN4 < w4.heap.size := hW.lt
      have xgN4 : w3.heap.size ≤ gN4 := hle
      have HS4 : Hid (Whole w4 w.heap.size 24 #[.int .i64 sn, .slice ao_ss ss.length c_ss] ∧ Whole w4 (w.heap.size + 1) 24 #[.int .i64 tn, .slice ao_us us.length c_us] ∧ Row w4 w3.heap.size w4.heap.size aos (fl .f32 (canL ss.length (joiG sn.toNat ss us))) ∧ Whole w4 gN4 27 #[.int .i64 sn, .slice aos ss.length ccs] ∧ Below w.heap.size w w4) := Lib.hid ⟨hS.1, hS.2.1, hrow0, hW, hS.2.2⟩
      clear HS3 HK HP HK2 hR hle hW hS hrow0
      have hc0 := (HS4.out.1).facts.1
      have hf0 := (HS4.out.1).facts.2
      have hz0 := (HS4.out.1).lt
      have hc1 := (HS4.out.2.1).facts.1
      have hf1 := (HS4.out.2.1).facts.2
      have hz1 := (HS4.out.2.1).lt
      have hc3 := (HS4.out.2.2.2.1).facts.1
      have hf3 := (HS4.out.2.2.2.1).facts.2
      have hz3 := (HS4.out.2.2.2.1).lt
      go_wp2_with fail
      clear hc0 hf0 hz0
      clear hc1 hf1 hz1
      clear hc3 hf3 hz3
      refine (toChain_any sn ss _ _ _ (Holds.below HX_ss.out HS4.out.2.2.2.2) hn_ss).mono ?_
      rintro e w5 ⟨aoX_ss, rfl, rowX_ss, hb⟩
      have z5 : w4.heap.size ≤ w5.heap.size := hb.size
      have HS5 : Hid (Whole w5 w.heap.size 24 #[.int .i64 sn, .slice ao_ss ss.length c_ss] ∧ Whole w5 (w.heap.size + 1) 24 #[.int .i64 tn, .slice ao_us us.length c_us] ∧ Row w5 w3.heap.size w4.heap.size aos (fl .f32 (canL ss.length (joiG sn.toNat ss us))) ∧ Whole w5 gN4 27 #[.int .i64 sn, .slice aos ss.length ccs] ∧ Row w5 w4.heap.size w5.heap.size aoX_ss (fl .f32 ss) ∧ Below w.heap.size w w5) := Lib.hid ⟨HS4.out.1.below hb, HS4.out.2.1.below hb, HS4.out.2.2.1.below hb, HS4.out.2.2.2.1.below hb, rowX_ss, Bel_next HS4.out.2.2.2.2 hb⟩
      clear HS4 hb rowX_ss
      have hc0 := (HS5.out.1).facts.1
      have hf0 := (HS5.out.1).facts.2
      have hz0 := (HS5.out.1).lt
      have hc1 := (HS5.out.2.1).facts.1
      have hf1 := (HS5.out.2.1).facts.2
      have hz1 := (HS5.out.2.1).lt
      have hc3 := (HS5.out.2.2.2.1).facts.1
      have hf3 := (HS5.out.2.2.2.1).facts.2
      have hz3 := (HS5.out.2.2.2.1).lt
      go_wp2_with fail
      clear hc0 hf0 hz0
      clear hc1 hf1 hz1
      clear hc3 hf3 hz3
      generalize hW : World.alloc w5 _ = w6
      have hb : Below w5.heap.size w5 w6 := by rw [← hW]; exact (by repeat (first | with_reducible exact Below.refl _ _ | with_reducible refine Below.drew ?_ | with_reducible refine Bel_drewN ?_ _ | with_reducible refine Below.alloc ?_ (by first | omega | (simp; done) | (simp; omega)) _ | with_reducible refine Below.setCell ?_ (by first | omega | (simp; done) | (simp; omega)) _))
      have z6 : w5.heap.size + 1 ≤ w6.heap.size := by rw [← hW]; simp
      have HS6 : Hid (Whole w6 w.heap.size 24 #[.int .i64 sn, .slice ao_ss ss.length c_ss] ∧ Whole w6 (w.heap.size + 1) 24 #[.int .i64 tn, .slice ao_us us.length c_us] ∧ Row w6 w3.heap.size w4.heap.size aos (fl .f32 (canL ss.length (joiG sn.toNat ss us))) ∧ Whole w6 gN4 27 #[.int .i64 sn, .slice aos ss.length ccs] ∧ Row w6 w4.heap.size w5.heap.size aoX_ss (fl .f32 ss) ∧ Whole w6 w5.heap.size 27 #[.int .i64 sn, .slice aoX_ss ss.length ss.length] ∧ Below w.heap.size w w6) := Lib.hid ⟨HS5.out.1.below hb, HS5.out.2.1.below hb, HS5.out.2.2.1.below hb, HS5.out.2.2.2.1.below hb, HS5.out.2.2.2.2.1.below hb, by rw [← hW]; exact Whole.made _ _ _, Bel_next HS5.out.2.2.2.2.2 hb⟩
      clear HS5 hW hb
      refine (toChain_any tn us _ _ _ (Holds.below HX_us.out HS6.out.2.2.2.2.2.2) hn_us).mono ?_
      rintro e w7 ⟨aoX_us, rfl, rowX_us, hb⟩
      have z7 : w6.heap.size ≤ w7.heap.size := hb.size
      have HS7 : Hid (Whole w7 w.heap.size 24 #[.int .i64 sn, .slice ao_ss ss.length c_ss] ∧ Whole w7 (w.heap.size + 1) 24 #[.int .i64 tn, .slice ao_us us.length c_us] ∧ Row w7 w3.heap.size w4.heap.size aos (fl .f32 (canL ss.length (joiG sn.toNat ss us))) ∧ Whole w7 gN4 27 #[.int .i64 sn, .slice aos ss.length ccs] ∧ Row w7 w4.heap.size w5.heap.size aoX_ss (fl .f32 ss) ∧ Whole w7 w5.heap.size 27 #[.int .i64 sn, .slice aoX_ss ss.length ss.length] ∧ Row w7 w6.heap.size w7.heap.size aoX_us (fl .f32 us) ∧ Below w.heap.size w w7) := Lib.hid ⟨HS6.out.1.below hb, HS6.out.2.1.below hb, HS6.out.2.2.1.below hb, HS6.out.2.2.2.1.below hb, HS6.out.2.2.2.2.1.below hb, HS6.out.2.2.2.2.2.1.below hb, rowX_us, Bel_next HS6.out.2.2.2.2.2.2 hb⟩
      clear HS6 hb rowX_us
      have hc0 := (HS7.out.1).facts.1
      have hf0 := (HS7.out.1).facts.2
      have hz0 := (HS7.out.1).lt
      have hc1 := (HS7.out.2.1).facts.1
      have hf1 := (HS7.out.2.1).facts.2
      have hz1 := (HS7.out.2.1).lt
      have hc3 := (HS7.out.2.2.2.1).facts.1
      have hf3 := (HS7.out.2.2.2.1).facts.2
      have hz3 := (HS7.out.2.2.2.1).lt
      have hc5 := (HS7.out.2.2.2.2.2.1).facts.1
      have hf5 := (HS7.out.2.2.2.2.2.1).facts.2
      have hz5 := (HS7.out.2.2.2.2.2.1).lt
      go_wp2_with fail
      clear hc0 hf0 hz0
      clear hc1 hf1 hz1
      clear hc3 hf3 hz3
      clear hc5 hf5 hz5
      generalize hW : World.alloc w7 _ = w8
      have hb : Below w7.heap.size w7 w8 := by rw [← hW]; exact (by repeat (first | with_reducible exact Below.refl _ _ | with_reducible refine Below.drew ?_ | with_reducible refine Bel_drewN ?_ _ | with_reducible refine Below.alloc ?_ (by first | omega | (simp; done) | (simp; omega)) _ | with_reducible refine Below.setCell ?_ (by first | omega | (simp; done) | (simp; omega)) _))
      have z8 : w7.heap.size + 1 ≤ w8.heap.size := by rw [← hW]; simp
      have HS8 : Hid (Whole w8 w.heap.size 24 #[.int .i64 sn, .slice ao_ss ss.length c_ss] ∧ Whole w8 (w.heap.size + 1) 24 #[.int .i64 tn, .slice ao_us us.length c_us] ∧ Row w8 w3.heap.size w4.heap.size aos (fl .f32 (canL ss.length (joiG sn.toNat ss us))) ∧ Whole w8 gN4 27 #[.int .i64 sn, .slice aos ss.length ccs] ∧ Row w8 w4.heap.size w5.heap.size aoX_ss (fl .f32 ss) ∧ Whole w8 w5.heap.size 27 #[.int .i64 sn, .slice aoX_ss ss.length ss.length] ∧ Row w8 w6.heap.size w7.heap.size aoX_us (fl .f32 us) ∧ Whole w8 w7.heap.size 27 #[.int .i64 tn, .slice aoX_us us.length us.length] ∧ Below w.heap.size w w8) := Lib.hid ⟨HS7.out.1.below hb, HS7.out.2.1.below hb, HS7.out.2.2.1.below hb, HS7.out.2.2.2.1.below hb, HS7.out.2.2.2.2.1.below hb, HS7.out.2.2.2.2.2.1.below hb, HS7.out.2.2.2.2.2.2.1.below hb, by rw [← hW]; exact Whole.made _ _ _, Bel_next HS7.out.2.2.2.2.2.2.2 hb⟩
      clear HS7 hW hb
      refine (implJoi_is sn tn ss us _ _ rfl rfl _ _ _ _ _ (HS8.out.2.2.2.2.1).holds (HS8.out.2.2.2.2.2.2.1).holds hn_ss hn_us (Nat.le_refl _) (Nat.le_refl _) HV.out).mono ?_
      rintro e w9 ⟨aog, ccg, rfl, rowg, hb⟩
      have z9 : w8.heap.size ≤ w9.heap.size := hb.size
      have HS9 : Hid (Whole w9 w.heap.size 24 #[.int .i64 sn, .slice ao_ss ss.length c_ss] ∧ Whole w9 (w.heap.size + 1) 24 #[.int .i64 tn, .slice ao_us us.length c_us] ∧ Row w9 w3.heap.size w4.heap.size aos (fl .f32 (canL ss.length (joiG sn.toNat ss us))) ∧ Whole w9 gN4 27 #[.int .i64 sn, .slice aos ss.length ccs] ∧ Row w9 w4.heap.size w5.heap.size aoX_ss (fl .f32 ss) ∧ Whole w9 w5.heap.size 27 #[.int .i64 sn, .slice aoX_ss ss.length ss.length] ∧ Row w9 w6.heap.size w7.heap.size aoX_us (fl .f32 us) ∧ Whole w9 w7.heap.size 27 #[.int .i64 tn, .slice aoX_us us.length us.length] ∧ Row w9 w8.heap.size w9.heap.size aog (fl .f32 (canL ss.length (joiG sn.toNat ss us))) ∧ Below w.heap.size w w9) := Lib.hid ⟨HS8.out.1.below hb, HS8.out.2.1.below hb, HS8.out.2.2.1.below hb, HS8.out.2.2.2.1.below hb, HS8.out.2.2.2.2.1.below hb, HS8.out.2.2.2.2.2.1.below hb, HS8.out.2.2.2.2.2.2.1.below hb, HS8.out.2.2.2.2.2.2.2.1.below hb, rowg, Bel_next HS8.out.2.2.2.2.2.2.2.2 hb⟩
      clear HS8 hb rowg
      have HSn : Hid (Whole w9 w.heap.size 24 #[.int .i64 sn, .slice ao_ss ss.length c_ss] ∧ Whole w9 (w.heap.size + 1) 24 #[.int .i64 tn, .slice ao_us us.length c_us] ∧ Row w9 w3.heap.size w4.heap.size aos (fl .f32 (canL ss.length (joiG sn.toNat ss us))) ∧ Whole w9 gN4 27 #[.int .i64 sn, .slice aos ss.length ccs] ∧ Row w9 w4.heap.size w5.heap.size aoX_ss (fl .f32 ss) ∧ Whole w9 w5.heap.size 27 #[.int .i64 sn, .slice aoX_ss ss.length ss.length] ∧ Row w9 w6.heap.size w7.heap.size aoX_us (fl .f32 us) ∧ Whole w9 w7.heap.size 27 #[.int .i64 tn, .slice aoX_us us.length us.length] ∧ Row w9 w8.heap.size w9.heap.size aog (fl .f32 (canL ss.length (joiG sn.toNat ss us))) ∧ Below w.heap.size w w9) := Lib.hid ⟨HS9.out.1, HS9.out.2.1, HS9.out.2.2.1, HS9.out.2.2.2.1, HS9.out.2.2.2.2.1, HS9.out.2.2.2.2.2.1, HS9.out.2.2.2.2.2.2.1, HS9.out.2.2.2.2.2.2.2.1, HS9.out.2.2.2.2.2.2.2.2.1, HS9.out.2.2.2.2.2.2.2.2.2⟩
      clear HS9
      have HS9 := HSn
      clear HSn
      have hc0 := (HS9.out.1).facts.1
      have hf0 := (HS9.out.1).facts.2
      have hz0 := (HS9.out.1).lt
      have hc1 := (HS9.out.2.1).facts.1
      have hf1 := (HS9.out.2.1).facts.2
      have hz1 := (HS9.out.2.1).lt
      have hc3 := (HS9.out.2.2.2.1).facts.1
      have hf3 := (HS9.out.2.2.2.1).facts.2
      have hz3 := (HS9.out.2.2.2.1).lt
      have hc5 := (HS9.out.2.2.2.2.2.1).facts.1
      have hf5 := (HS9.out.2.2.2.2.2.1).facts.2
      have hz5 := (HS9.out.2.2.2.2.2.1).lt
      have hc7 := (HS9.out.2.2.2.2.2.2.2.1).facts.1
      have hf7 := (HS9.out.2.2.2.2.2.2.2.1).facts.2
      have hz7 := (HS9.out.2.2.2.2.2.2.2.1).lt
      go_wp2_with fail
      clear hc0 hf0 hz0
      clear hc1 hf1 hz1
      clear hc3 hf3 hz3
      clear hc5 hf5 hz5
      clear hc7 hf7 hz7
      generalize hW : World.alloc w9 _ = w10
      have hb : Below w9.heap.size w9 w10 := by rw [← hW]; exact (by repeat (first | with_reducible exact Below.refl _ _ | with_reducible refine Below.drew ?_ | with_reducible refine Bel_drewN ?_ _ | with_reducible refine Below.alloc ?_ (by first | omega | (simp; done) | (simp; omega)) _ | with_reducible refine Below.setCell ?_ (by first | omega | (simp; done) | (simp; omega)) _))
      have z10 : w9.heap.size + 1 ≤ w10.heap.size := by rw [← hW]; simp
      have HS10 : Hid (Whole w10 w.heap.size 24 #[.int .i64 sn, .slice ao_ss ss.length c_ss] ∧ Whole w10 (w.heap.size + 1) 24 #[.int .i64 tn, .slice ao_us us.length c_us] ∧ Row w10 w3.heap.size w4.heap.size aos (fl .f32 (canL ss.length (joiG sn.toNat ss us))) ∧ Whole w10 gN4 27 #[.int .i64 sn, .slice aos ss.length ccs] ∧ Row w10 w4.heap.size w5.heap.size aoX_ss (fl .f32 ss) ∧ Whole w10 w5.heap.size 27 #[.int .i64 sn, .slice aoX_ss ss.length ss.length] ∧ Row w10 w6.heap.size w7.heap.size aoX_us (fl .f32 us) ∧ Whole w10 w7.heap.size 27 #[.int .i64 tn, .slice aoX_us us.length us.length] ∧ Row w10 w8.heap.size w9.heap.size aog (fl .f32 (canL ss.length (joiG sn.toNat ss us))) ∧ Whole w10 w9.heap.size 27 #[.int .i64 sn, .slice aog ss.length ccg] ∧ Below w.heap.size w w10) := Lib.hid ⟨HS9.out.1.below hb, HS9.out.2.1.below hb, HS9.out.2.2.1.below hb, HS9.out.2.2.2.1.below hb, HS9.out.2.2.2.2.1.below hb, HS9.out.2.2.2.2.2.1.below hb, HS9.out.2.2.2.2.2.2.1.below hb, HS9.out.2.2.2.2.2.2.2.1.below hb, HS9.out.2.2.2.2.2.2.2.2.1.below hb, by rw [← hW]; exact Whole.made _ _ _, Bel_next HS9.out.2.2.2.2.2.2.2.2.2 hb⟩
      clear HS9 hW hb
      refine (eqChain_same (sn) (canL ss.length (joiG sn.toNat ss us)) (ss.length) (canL_len _ _) _ _ _ _ _ HS10.out.2.2.2.2.2.2.2.2.1.holds HS10.out.2.2.1.holds (by omega)).mono ?_
      rintro e w11 ⟨rfl, hb⟩
      have z11 : w10.heap.size ≤ w11.heap.size := hb.size
      have HS11 : Hid (Whole w11 w.heap.size 24 #[.int .i64 sn, .slice ao_ss ss.length c_ss] ∧ Whole w11 (w.heap.size + 1) 24 #[.int .i64 tn, .slice ao_us us.length c_us] ∧ Row w11 w3.heap.size w4.heap.size aos (fl .f32 (canL ss.length (joiG sn.toNat ss us))) ∧ Whole w11 gN4 27 #[.int .i64 sn, .slice aos ss.length ccs] ∧ Row w11 w4.heap.size w5.heap.size aoX_ss (fl .f32 ss) ∧ Whole w11 w5.heap.size 27 #[.int .i64 sn, .slice aoX_ss ss.length ss.length] ∧ Row w11 w6.heap.size w7.heap.size aoX_us (fl .f32 us) ∧ Whole w11 w7.heap.size 27 #[.int .i64 tn, .slice aoX_us us.length us.length] ∧ Row w11 w8.heap.size w9.heap.size aog (fl .f32 (canL ss.length (joiG sn.toNat ss us))) ∧ Whole w11 w9.heap.size 27 #[.int .i64 sn, .slice aog ss.length ccg] ∧ Below w.heap.size w w11) := Lib.hid ⟨HS10.out.1.below hb, HS10.out.2.1.below hb, HS10.out.2.2.1.below hb, HS10.out.2.2.2.1.below hb, HS10.out.2.2.2.2.1.below hb, HS10.out.2.2.2.2.2.1.below hb, HS10.out.2.2.2.2.2.2.1.below hb, HS10.out.2.2.2.2.2.2.2.1.below hb, HS10.out.2.2.2.2.2.2.2.2.1.below hb, HS10.out.2.2.2.2.2.2.2.2.2.1.below hb, Bel_next HS10.out.2.2.2.2.2.2.2.2.2.2 hb⟩
      clear HS10 hb
      have hc0 := (HS11.out.1).facts.1
      have hf0 := (HS11.out.1).facts.2
      have hz0 := (HS11.out.1).lt
      have hc1 := (HS11.out.2.1).facts.1
      have hf1 := (HS11.out.2.1).facts.2
      have hz1 := (HS11.out.2.1).lt
      have hc3 := (HS11.out.2.2.2.1).facts.1
      have hf3 := (HS11.out.2.2.2.1).facts.2
      have hz3 := (HS11.out.2.2.2.1).lt
      have hc5 := (HS11.out.2.2.2.2.2.1).facts.1
      have hf5 := (HS11.out.2.2.2.2.2.1).facts.2
      have hz5 := (HS11.out.2.2.2.2.2.1).lt
      have hc7 := (HS11.out.2.2.2.2.2.2.2.1).facts.1
      have hf7 := (HS11.out.2.2.2.2.2.2.2.1).facts.2
      have hz7 := (HS11.out.2.2.2.2.2.2.2.1).lt
      have hc9 := (HS11.out.2.2.2.2.2.2.2.2.2.1).facts.1
      have hf9 := (HS11.out.2.2.2.2.2.2.2.2.2.1).facts.2
      have hz9 := (HS11.out.2.2.2.2.2.2.2.2.2.1).lt
      go_wp2_with fail
      clear hc0 hf0 hz0
      clear hc1 hf1 hz1
      clear hc3 hf3 hz3
      clear hc5 hf5 hz5
      clear hc7 hf7 hz7
      clear hc9 hf9 hz9
      have HK : Hid (∀ v v' : World, (v.cell? ⟨w5.heap.size, 0, none⟩ = some (.int .i64 sn) ∧ v.cell? ⟨w5.heap.size, 1, none⟩ = some (.slice aoX_ss ss.length ss.length) ∧ v.cell? ⟨w.heap.size, 0, none⟩ = some (.int .i64 sn) ∧ v.cell? ⟨w.heap.size, 1, none⟩ = some (.slice ao_ss ss.length c_ss) ∧ w11.heap.size ≤ v.heap.size ∧ Whole v w.heap.size 24 #[.int .i64 sn, .slice ao_ss ss.length c_ss] ∧ Whole v (w.heap.size + 1) 24 #[.int .i64 tn, .slice ao_us us.length c_us] ∧ Row v w3.heap.size w4.heap.size aos (fl .f32 (canL ss.length (joiG sn.toNat ss us))) ∧ Whole v gN4 27 #[.int .i64 sn, .slice aos ss.length ccs] ∧ Row v w4.heap.size w5.heap.size aoX_ss (fl .f32 ss) ∧ Whole v w5.heap.size 27 #[.int .i64 sn, .slice aoX_ss ss.length ss.length] ∧ Row v w6.heap.size w7.heap.size aoX_us (fl .f32 us) ∧ Whole v w7.heap.size 27 #[.int .i64 tn, .slice aoX_us us.length us.length] ∧ Row v w8.heap.size w9.heap.size aog (fl .f32 (canL ss.length (joiG sn.toNat ss us))) ∧ Whole v w9.heap.size 27 #[.int .i64 sn, .slice aog ss.length ccg] ∧ Below w.heap.size w v) → Below v.heap.size v v' → (v'.cell? ⟨w5.heap.size, 0, none⟩ = some (.int .i64 sn) ∧ v'.cell? ⟨w5.heap.size, 1, none⟩ = some (.slice aoX_ss ss.length ss.length) ∧ v'.cell? ⟨w.heap.size, 0, none⟩ = some (.int .i64 sn) ∧ v'.cell? ⟨w.heap.size, 1, none⟩ = some (.slice ao_ss ss.length c_ss) ∧ w11.heap.size ≤ v'.heap.size ∧ Whole v' w.heap.size 24 #[.int .i64 sn, .slice ao_ss ss.length c_ss] ∧ Whole v' (w.heap.size + 1) 24 #[.int .i64 tn, .slice ao_us us.length c_us] ∧ Row v' w3.heap.size w4.heap.size aos (fl .f32 (canL ss.length (joiG sn.toNat ss us))) ∧ Whole v' gN4 27 #[.int .i64 sn, .slice aos ss.length ccs] ∧ Row v' w4.heap.size w5.heap.size aoX_ss (fl .f32 ss) ∧ Whole v' w5.heap.size 27 #[.int .i64 sn, .slice aoX_ss ss.length ss.length] ∧ Row v' w6.heap.size w7.heap.size aoX_us (fl .f32 us) ∧ Whole v' w7.heap.size 27 #[.int .i64 tn, .slice aoX_us us.length us.length] ∧ Row v' w8.heap.size w9.heap.size aog (fl .f32 (canL ss.length (joiG sn.toNat ss us))) ∧ Whole v' w9.heap.size 27 #[.int .i64 sn, .slice aog ss.length ccg] ∧ Below w.heap.size w v')) := Lib.hid (fun v v' h hb => ⟨(by rw [Below.cell hb (World.block_lt_of_cell? _ _ h.1)]; exact h.1), (by rw [Below.cell hb (World.block_lt_of_cell? _ _ h.2.1)]; exact h.2.1), (by rw [Below.cell hb (World.block_lt_of_cell? _ _ h.2.2.1)]; exact h.2.2.1), (by rw [Below.cell hb (World.block_lt_of_cell? _ _ h.2.2.2.1)]; exact h.2.2.2.1), Nat.le_trans h.2.2.2.2.1 hb.size, h.2.2.2.2.2.1.below hb, h.2.2.2.2.2.2.1.below hb, h.2.2.2.2.2.2.2.1.below hb, h.2.2.2.2.2.2.2.2.1.below hb, h.2.2.2.2.2.2.2.2.2.1.below hb, h.2.2.2.2.2.2.2.2.2.2.1.below hb, h.2.2.2.2.2.2.2.2.2.2.2.1.below hb, h.2.2.2.2.2.2.2.2.2.2.2.2.1.below hb, h.2.2.2.2.2.2.2.2.2.2.2.2.2.1.below hb, h.2.2.2.2.2.2.2.2.2.2.2.2.2.2.1.below hb, Bel_next h.2.2.2.2.2.2.2.2.2.2.2.2.2.2.2 hb⟩)
      have HP : Hid (∀ v : World, (v.cell? ⟨w5.heap.size, 0, none⟩ = some (.int .i64 sn) ∧ v.cell? ⟨w5.heap.size, 1, none⟩ = some (.slice aoX_ss ss.length ss.length) ∧ v.cell? ⟨w.heap.size, 0, none⟩ = some (.int .i64 sn) ∧ v.cell? ⟨w.heap.size, 1, none⟩ = some (.slice ao_ss ss.length c_ss) ∧ w11.heap.size ≤ v.heap.size ∧ Whole v w.heap.size 24 #[.int .i64 sn, .slice ao_ss ss.length c_ss] ∧ Whole v (w.heap.size + 1) 24 #[.int .i64 tn, .slice ao_us us.length c_us] ∧ Row v w3.heap.size w4.heap.size aos (fl .f32 (canL ss.length (joiG sn.toNat ss us))) ∧ Whole v gN4 27 #[.int .i64 sn, .slice aos ss.length ccs] ∧ Row v w4.heap.size w5.heap.size aoX_ss (fl .f32 ss) ∧ Whole v w5.heap.size 27 #[.int .i64 sn, .slice aoX_ss ss.length ss.length] ∧ Row v w6.heap.size w7.heap.size aoX_us (fl .f32 us) ∧ Whole v w7.heap.size 27 #[.int .i64 tn, .slice aoX_us us.length us.length] ∧ Row v w8.heap.size w9.heap.size aog (fl .f32 (canL ss.length (joiG sn.toNat ss us))) ∧ Whole v w9.heap.size 27 #[.int .i64 sn, .slice aog ss.length ccg] ∧ Below w.heap.size w v) → (Whole v w.heap.size 24 #[.int .i64 sn, .slice ao_ss ss.length c_ss] ∧ Whole v (w.heap.size + 1) 24 #[.int .i64 tn, .slice ao_us us.length c_us] ∧ Row v w3.heap.size w4.heap.size aos (fl .f32 (canL ss.length (joiG sn.toNat ss us))) ∧ Whole v gN4 27 #[.int .i64 sn, .slice aos ss.length ccs] ∧ Row v w4.heap.size w5.heap.size aoX_ss (fl .f32 ss) ∧ Whole v w5.heap.size 27 #[.int .i64 sn, .slice aoX_ss ss.length ss.length] ∧ Row v w6.heap.size w7.heap.size aoX_us (fl .f32 us) ∧ Whole v w7.heap.size 27 #[.int .i64 tn, .slice aoX_us us.length us.length] ∧ Row v w8.heap.size w9.heap.size aog (fl .f32 (canL ss.length (joiG sn.toNat ss us))) ∧ Whole v w9.heap.size 27 #[.int .i64 sn, .slice aog ss.length ccg] ∧ Below w.heap.size w v)) := Lib.hid (fun v h => h.2.2.2.2.2)
      have hR : w11.cell? ⟨w5.heap.size, 0, none⟩ = some (.int .i64 sn) ∧ w11.cell? ⟨w5.heap.size, 1, none⟩ = some (.slice aoX_ss ss.length ss.length) ∧ w11.cell? ⟨w.heap.size, 0, none⟩ = some (.int .i64 sn) ∧ w11.cell? ⟨w.heap.size, 1, none⟩ = some (.slice ao_ss ss.length c_ss) ∧ w11.heap.size ≤ w11.heap.size ∧ Whole w11 w.heap.size 24 #[.int .i64 sn, .slice ao_ss ss.length c_ss] ∧ Whole w11 (w.heap.size + 1) 24 #[.int .i64 tn, .slice ao_us us.length c_us] ∧ Row w11 w3.heap.size w4.heap.size aos (fl .f32 (canL ss.length (joiG sn.toNat ss us))) ∧ Whole w11 gN4 27 #[.int .i64 sn, .slice aos ss.length ccs] ∧ Row w11 w4.heap.size w5.heap.size aoX_ss (fl .f32 ss) ∧ Whole w11 w5.heap.size 27 #[.int .i64 sn, .slice aoX_ss ss.length ss.length] ∧ Row w11 w6.heap.size w7.heap.size aoX_us (fl .f32 us) ∧ Whole w11 w7.heap.size 27 #[.int .i64 tn, .slice aoX_us us.length us.length] ∧ Row w11 w8.heap.size w9.heap.size aog (fl .f32 (canL ss.length (joiG sn.toNat ss us))) ∧ Whole w11 w9.heap.size 27 #[.int .i64 sn, .slice aog ss.length ccg] ∧ Below w.heap.size w w11 := ⟨(HS11.out.2.2.2.2.2.1).cell 0, (HS11.out.2.2.2.2.2.1).cell 1, (HS11.out.1).cell 0, (HS11.out.1).cell 1, Nat.le_refl _, HS11.out.1, HS11.out.2.1, HS11.out.2.2.1, HS11.out.2.2.2.1, HS11.out.2.2.2.2.1, HS11.out.2.2.2.2.2.1, HS11.out.2.2.2.2.2.2.1, HS11.out.2.2.2.2.2.2.2.1, HS11.out.2.2.2.2.2.2.2.2.1, HS11.out.2.2.2.2.2.2.2.2.2.1, HS11.out.2.2.2.2.2.2.2.2.2.2⟩
      go_region_held3 (fun v => v.cell? ⟨w5.heap.size, 0, none⟩ = some (.int .i64 sn) ∧ v.cell? ⟨w5.heap.size, 1, none⟩ = some (.slice aoX_ss ss.length ss.length) ∧ v.cell? ⟨w.heap.size, 0, none⟩ = some (.int .i64 sn) ∧ v.cell? ⟨w.heap.size, 1, none⟩ = some (.slice ao_ss ss.length c_ss) ∧ w11.heap.size ≤ v.heap.size ∧ Whole v w.heap.size 24 #[.int .i64 sn, .slice ao_ss ss.length c_ss] ∧ Whole v (w.heap.size + 1) 24 #[.int .i64 tn, .slice ao_us us.length c_us] ∧ Row v w3.heap.size w4.heap.size aos (fl .f32 (canL ss.length (joiG sn.toNat ss us))) ∧ Whole v gN4 27 #[.int .i64 sn, .slice aos ss.length ccs] ∧ Row v w4.heap.size w5.heap.size aoX_ss (fl .f32 ss) ∧ Whole v w5.heap.size 27 #[.int .i64 sn, .slice aoX_ss ss.length ss.length] ∧ Row v w6.heap.size w7.heap.size aoX_us (fl .f32 us) ∧ Whole v w7.heap.size 27 #[.int .i64 tn, .slice aoX_us us.length us.length] ∧ Row v w8.heap.size w9.heap.size aog (fl .f32 (canL ss.length (joiG sn.toNat ss us))) ∧ Whole v w9.heap.size 27 #[.int .i64 sn, .slice aog ss.length ccg] ∧ Below w.heap.size w v)
        (first | assumption | exact HK.out _ _ (by assumption) (by assumption) | exact HK.out _ _ (by assumption) ((Below.refl _ _).drew) | (refine HK.out _ _ (by assumption) ?_; (repeat (first | with_reducible exact Below.refl _ _ | with_reducible refine Below.drew ?_ | with_reducible refine Bel_drewN ?_ _ | with_reducible refine Below.alloc ?_ (by first | omega | (simp; done) | (simp; omega)) _ | with_reducible refine Below.setCell ?_ (by first | omega | (simp; done) | (simp; omega)) _)); done))
        (first | (go_at_call 17; refine (toChain_any sn ss _ _ _ (Holds.below HX_ss.out (HP.out _ (by assumption)).2.2.2.2.2.2.2.2.2.2) hn_ss).mono ?_; rintro e wt ⟨aoY_ss, rfl, rowY_ss, hbt⟩) | (go_at_call 19; refine (eqChain_same sn ss _ rfl _ _ _ _ _ ((HP.out _ (by assumption)).2.2.2.2.1.holds) (by exact rowY_ss.holds) hn_ss).mono ?_; rintro e w12 ⟨rfl, hb⟩))
      have hN := (HK.out _ _ (HK.out _ _ hR (by first | exact hbt | exact Bel_next (Below.refl _ _).drew hbt | (refine Bel_next ?_ hbt; (repeat (first | with_reducible exact Below.refl _ _ | with_reducible refine Below.drew ?_ | with_reducible refine Bel_drewN ?_ _ | with_reducible refine Below.alloc ?_ (by first | omega | (simp; done) | (simp; omega)) _ | with_reducible refine Below.setCell ?_ (by first | omega | (simp; done) | (simp; omega)) _)); done))) (by first | exact hb | exact Bel_next (Below.refl _ _).drew hb | (refine Bel_next ?_ hb; (repeat (first | with_reducible exact Below.refl _ _ | with_reducible refine Below.drew ?_ | with_reducible refine Bel_drewN ?_ _ | with_reducible refine Below.alloc ?_ (by first | omega | (simp; done) | (simp; omega)) _ | with_reducible refine Below.setCell ?_ (by first | omega | (simp; done) | (simp; omega)) _)); done)))
      have z12 : w11.heap.size ≤ w12.heap.size := hN.2.2.2.2.1
      have HS12 : Hid (Whole w12 w.heap.size 24 #[.int .i64 sn, .slice ao_ss ss.length c_ss] ∧ Whole w12 (w.heap.size + 1) 24 #[.int .i64 tn, .slice ao_us us.length c_us] ∧ Row w12 w3.heap.size w4.heap.size aos (fl .f32 (canL ss.length (joiG sn.toNat ss us))) ∧ Whole w12 gN4 27 #[.int .i64 sn, .slice aos ss.length ccs] ∧ Row w12 w4.heap.size w5.heap.size aoX_ss (fl .f32 ss) ∧ Whole w12 w5.heap.size 27 #[.int .i64 sn, .slice aoX_ss ss.length ss.length] ∧ Row w12 w6.heap.size w7.heap.size aoX_us (fl .f32 us) ∧ Whole w12 w7.heap.size 27 #[.int .i64 tn, .slice aoX_us us.length us.length] ∧ Row w12 w8.heap.size w9.heap.size aog (fl .f32 (canL ss.length (joiG sn.toNat ss us))) ∧ Whole w12 w9.heap.size 27 #[.int .i64 sn, .slice aog ss.length ccg] ∧ Below w.heap.size w w12) := Lib.hid ⟨hN.2.2.2.2.2.1, hN.2.2.2.2.2.2.1, hN.2.2.2.2.2.2.2.1, hN.2.2.2.2.2.2.2.2.1, hN.2.2.2.2.2.2.2.2.2.1, hN.2.2.2.2.2.2.2.2.2.2.1, hN.2.2.2.2.2.2.2.2.2.2.2.1, hN.2.2.2.2.2.2.2.2.2.2.2.2.1, hN.2.2.2.2.2.2.2.2.2.2.2.2.2.1, hN.2.2.2.2.2.2.2.2.2.2.2.2.2.2.1, hN.2.2.2.2.2.2.2.2.2.2.2.2.2.2.2⟩
      clear HS11 hN hR HK HP hb hbt
      clear rowY_ss
      have hc0 := (HS12.out.1).facts.1
      have hf0 := (HS12.out.1).facts.2
      have hz0 := (HS12.out.1).lt
      have hc1 := (HS12.out.2.1).facts.1
      have hf1 := (HS12.out.2.1).facts.2
      have hz1 := (HS12.out.2.1).lt
      have hc3 := (HS12.out.2.2.2.1).facts.1
      have hf3 := (HS12.out.2.2.2.1).facts.2
      have hz3 := (HS12.out.2.2.2.1).lt
      have hc5 := (HS12.out.2.2.2.2.2.1).facts.1
      have hf5 := (HS12.out.2.2.2.2.2.1).facts.2
      have hz5 := (HS12.out.2.2.2.2.2.1).lt
      have hc7 := (HS12.out.2.2.2.2.2.2.2.1).facts.1
      have hf7 := (HS12.out.2.2.2.2.2.2.2.1).facts.2
      have hz7 := (HS12.out.2.2.2.2.2.2.2.1).lt
      have hc9 := (HS12.out.2.2.2.2.2.2.2.2.2.1).facts.1
      have hf9 := (HS12.out.2.2.2.2.2.2.2.2.2.1).facts.2
      have hz9 := (HS12.out.2.2.2.2.2.2.2.2.2.1).lt
      go_wp2_with fail
      clear hc0 hf0 hz0
      clear hc1 hf1 hz1
      clear hc3 hf3 hz3
      clear hc5 hf5 hz5
      clear hc7 hf7 hz7
      clear hc9 hf9 hz9
      have HK : Hid (∀ v v' : World, (v.cell? ⟨w7.heap.size, 0, none⟩ = some (.int .i64 tn) ∧ v.cell? ⟨w7.heap.size, 1, none⟩ = some (.slice aoX_us us.length us.length) ∧ v.cell? ⟨(w.heap.size + 1), 0, none⟩ = some (.int .i64 tn) ∧ v.cell? ⟨(w.heap.size + 1), 1, none⟩ = some (.slice ao_us us.length c_us) ∧ w12.heap.size ≤ v.heap.size ∧ Whole v w.heap.size 24 #[.int .i64 sn, .slice ao_ss ss.length c_ss] ∧ Whole v (w.heap.size + 1) 24 #[.int .i64 tn, .slice ao_us us.length c_us] ∧ Row v w3.heap.size w4.heap.size aos (fl .f32 (canL ss.length (joiG sn.toNat ss us))) ∧ Whole v gN4 27 #[.int .i64 sn, .slice aos ss.length ccs] ∧ Row v w4.heap.size w5.heap.size aoX_ss (fl .f32 ss) ∧ Whole v w5.heap.size 27 #[.int .i64 sn, .slice aoX_ss ss.length ss.length] ∧ Row v w6.heap.size w7.heap.size aoX_us (fl .f32 us) ∧ Whole v w7.heap.size 27 #[.int .i64 tn, .slice aoX_us us.length us.length] ∧ Row v w8.heap.size w9.heap.size aog (fl .f32 (canL ss.length (joiG sn.toNat ss us))) ∧ Whole v w9.heap.size 27 #[.int .i64 sn, .slice aog ss.length ccg] ∧ Below w.heap.size w v) → Below v.heap.size v v' → (v'.cell? ⟨w7.heap.size, 0, none⟩ = some (.int .i64 tn) ∧ v'.cell? ⟨w7.heap.size, 1, none⟩ = some (.slice aoX_us us.length us.length) ∧ v'.cell? ⟨(w.heap.size + 1), 0, none⟩ = some (.int .i64 tn) ∧ v'.cell? ⟨(w.heap.size + 1), 1, none⟩ = some (.slice ao_us us.length c_us) ∧ w12.heap.size ≤ v'.heap.size ∧ Whole v' w.heap.size 24 #[.int .i64 sn, .slice ao_ss ss.length c_ss] ∧ Whole v' (w.heap.size + 1) 24 #[.int .i64 tn, .slice ao_us us.length c_us] ∧ Row v' w3.heap.size w4.heap.size aos (fl .f32 (canL ss.length (joiG sn.toNat ss us))) ∧ Whole v' gN4 27 #[.int .i64 sn, .slice aos ss.length ccs] ∧ Row v' w4.heap.size w5.heap.size aoX_ss (fl .f32 ss) ∧ Whole v' w5.heap.size 27 #[.int .i64 sn, .slice aoX_ss ss.length ss.length] ∧ Row v' w6.heap.size w7.heap.size aoX_us (fl .f32 us) ∧ Whole v' w7.heap.size 27 #[.int .i64 tn, .slice aoX_us us.length us.length] ∧ Row v' w8.heap.size w9.heap.size aog (fl .f32 (canL ss.length (joiG sn.toNat ss us))) ∧ Whole v' w9.heap.size 27 #[.int .i64 sn, .slice aog ss.length ccg] ∧ Below w.heap.size w v')) := Lib.hid (fun v v' h hb => ⟨(by rw [Below.cell hb (World.block_lt_of_cell? _ _ h.1)]; exact h.1), (by rw [Below.cell hb (World.block_lt_of_cell? _ _ h.2.1)]; exact h.2.1), (by rw [Below.cell hb (World.block_lt_of_cell? _ _ h.2.2.1)]; exact h.2.2.1), (by rw [Below.cell hb (World.block_lt_of_cell? _ _ h.2.2.2.1)]; exact h.2.2.2.1), Nat.le_trans h.2.2.2.2.1 hb.size, h.2.2.2.2.2.1.below hb, h.2.2.2.2.2.2.1.below hb, h.2.2.2.2.2.2.2.1.below hb, h.2.2.2.2.2.2.2.2.1.below hb, h.2.2.2.2.2.2.2.2.2.1.below hb, h.2.2.2.2.2.2.2.2.2.2.1.below hb, h.2.2.2.2.2.2.2.2.2.2.2.1.below hb, h.2.2.2.2.2.2.2.2.2.2.2.2.1.below hb, h.2.2.2.2.2.2.2.2.2.2.2.2.2.1.below hb, h.2.2.2.2.2.2.2.2.2.2.2.2.2.2.1.below hb, Bel_next h.2.2.2.2.2.2.2.2.2.2.2.2.2.2.2 hb⟩)
      have HP : Hid (∀ v : World, (v.cell? ⟨w7.heap.size, 0, none⟩ = some (.int .i64 tn) ∧ v.cell? ⟨w7.heap.size, 1, none⟩ = some (.slice aoX_us us.length us.length) ∧ v.cell? ⟨(w.heap.size + 1), 0, none⟩ = some (.int .i64 tn) ∧ v.cell? ⟨(w.heap.size + 1), 1, none⟩ = some (.slice ao_us us.length c_us) ∧ w12.heap.size ≤ v.heap.size ∧ Whole v w.heap.size 24 #[.int .i64 sn, .slice ao_ss ss.length c_ss] ∧ Whole v (w.heap.size + 1) 24 #[.int .i64 tn, .slice ao_us us.length c_us] ∧ Row v w3.heap.size w4.heap.size aos (fl .f32 (canL ss.length (joiG sn.toNat ss us))) ∧ Whole v gN4 27 #[.int .i64 sn, .slice aos ss.length ccs] ∧ Row v w4.heap.size w5.heap.size aoX_ss (fl .f32 ss) ∧ Whole v w5.heap.size 27 #[.int .i64 sn, .slice aoX_ss ss.length ss.length] ∧ Row v w6.heap.size w7.heap.size aoX_us (fl .f32 us) ∧ Whole v w7.heap.size 27 #[.int .i64 tn, .slice aoX_us us.length us.length] ∧ Row v w8.heap.size w9.heap.size aog (fl .f32 (canL ss.length (joiG sn.toNat ss us))) ∧ Whole v w9.heap.size 27 #[.int .i64 sn, .slice aog ss.length ccg] ∧ Below w.heap.size w v) → (Whole v w.heap.size 24 #[.int .i64 sn, .slice ao_ss ss.length c_ss] ∧ Whole v (w.heap.size + 1) 24 #[.int .i64 tn, .slice ao_us us.length c_us] ∧ Row v w3.heap.size w4.heap.size aos (fl .f32 (canL ss.length (joiG sn.toNat ss us))) ∧ Whole v gN4 27 #[.int .i64 sn, .slice aos ss.length ccs] ∧ Row v w4.heap.size w5.heap.size aoX_ss (fl .f32 ss) ∧ Whole v w5.heap.size 27 #[.int .i64 sn, .slice aoX_ss ss.length ss.length] ∧ Row v w6.heap.size w7.heap.size aoX_us (fl .f32 us) ∧ Whole v w7.heap.size 27 #[.int .i64 tn, .slice aoX_us us.length us.length] ∧ Row v w8.heap.size w9.heap.size aog (fl .f32 (canL ss.length (joiG sn.toNat ss us))) ∧ Whole v w9.heap.size 27 #[.int .i64 sn, .slice aog ss.length ccg] ∧ Below w.heap.size w v)) := Lib.hid (fun v h => h.2.2.2.2.2)
      have hR : w12.cell? ⟨w7.heap.size, 0, none⟩ = some (.int .i64 tn) ∧ w12.cell? ⟨w7.heap.size, 1, none⟩ = some (.slice aoX_us us.length us.length) ∧ w12.cell? ⟨(w.heap.size + 1), 0, none⟩ = some (.int .i64 tn) ∧ w12.cell? ⟨(w.heap.size + 1), 1, none⟩ = some (.slice ao_us us.length c_us) ∧ w12.heap.size ≤ w12.heap.size ∧ Whole w12 w.heap.size 24 #[.int .i64 sn, .slice ao_ss ss.length c_ss] ∧ Whole w12 (w.heap.size + 1) 24 #[.int .i64 tn, .slice ao_us us.length c_us] ∧ Row w12 w3.heap.size w4.heap.size aos (fl .f32 (canL ss.length (joiG sn.toNat ss us))) ∧ Whole w12 gN4 27 #[.int .i64 sn, .slice aos ss.length ccs] ∧ Row w12 w4.heap.size w5.heap.size aoX_ss (fl .f32 ss) ∧ Whole w12 w5.heap.size 27 #[.int .i64 sn, .slice aoX_ss ss.length ss.length] ∧ Row w12 w6.heap.size w7.heap.size aoX_us (fl .f32 us) ∧ Whole w12 w7.heap.size 27 #[.int .i64 tn, .slice aoX_us us.length us.length] ∧ Row w12 w8.heap.size w9.heap.size aog (fl .f32 (canL ss.length (joiG sn.toNat ss us))) ∧ Whole w12 w9.heap.size 27 #[.int .i64 sn, .slice aog ss.length ccg] ∧ Below w.heap.size w w12 := ⟨(HS12.out.2.2.2.2.2.2.2.1).cell 0, (HS12.out.2.2.2.2.2.2.2.1).cell 1, (HS12.out.2.1).cell 0, (HS12.out.2.1).cell 1, Nat.le_refl _, HS12.out.1, HS12.out.2.1, HS12.out.2.2.1, HS12.out.2.2.2.1, HS12.out.2.2.2.2.1, HS12.out.2.2.2.2.2.1, HS12.out.2.2.2.2.2.2.1, HS12.out.2.2.2.2.2.2.2.1, HS12.out.2.2.2.2.2.2.2.2.1, HS12.out.2.2.2.2.2.2.2.2.2.1, HS12.out.2.2.2.2.2.2.2.2.2.2⟩
      go_region_held3 (fun v => v.cell? ⟨w7.heap.size, 0, none⟩ = some (.int .i64 tn) ∧ v.cell? ⟨w7.heap.size, 1, none⟩ = some (.slice aoX_us us.length us.length) ∧ v.cell? ⟨(w.heap.size + 1), 0, none⟩ = some (.int .i64 tn) ∧ v.cell? ⟨(w.heap.size + 1), 1, none⟩ = some (.slice ao_us us.length c_us) ∧ w12.heap.size ≤ v.heap.size ∧ Whole v w.heap.size 24 #[.int .i64 sn, .slice ao_ss ss.length c_ss] ∧ Whole v (w.heap.size + 1) 24 #[.int .i64 tn, .slice ao_us us.length c_us] ∧ Row v w3.heap.size w4.heap.size aos (fl .f32 (canL ss.length (joiG sn.toNat ss us))) ∧ Whole v gN4 27 #[.int .i64 sn, .slice aos ss.length ccs] ∧ Row v w4.heap.size w5.heap.size aoX_ss (fl .f32 ss) ∧ Whole v w5.heap.size 27 #[.int .i64 sn, .slice aoX_ss ss.length ss.length] ∧ Row v w6.heap.size w7.heap.size aoX_us (fl .f32 us) ∧ Whole v w7.heap.size 27 #[.int .i64 tn, .slice aoX_us us.length us.length] ∧ Row v w8.heap.size w9.heap.size aog (fl .f32 (canL ss.length (joiG sn.toNat ss us))) ∧ Whole v w9.heap.size 27 #[.int .i64 sn, .slice aog ss.length ccg] ∧ Below w.heap.size w v)
        (first | assumption | exact HK.out _ _ (by assumption) (by assumption) | exact HK.out _ _ (by assumption) ((Below.refl _ _).drew) | (refine HK.out _ _ (by assumption) ?_; (repeat (first | with_reducible exact Below.refl _ _ | with_reducible refine Below.drew ?_ | with_reducible refine Bel_drewN ?_ _ | with_reducible refine Below.alloc ?_ (by first | omega | (simp; done) | (simp; omega)) _ | with_reducible refine Below.setCell ?_ (by first | omega | (simp; done) | (simp; omega)) _)); done))
        (first | (go_at_call 17; refine (toChain_any tn us _ _ _ (Holds.below HX_us.out (HP.out _ (by assumption)).2.2.2.2.2.2.2.2.2.2) hn_us).mono ?_; rintro e wt ⟨aoY_us, rfl, rowY_us, hbt⟩) | (go_at_call 19; refine (eqChain_same tn us _ rfl _ _ _ _ _ ((HP.out _ (by assumption)).2.2.2.2.2.2.1.holds) (by exact rowY_us.holds) hn_us).mono ?_; rintro e w13 ⟨rfl, hb⟩))
      have hN := (HK.out _ _ (HK.out _ _ hR (by first | exact hbt | exact Bel_next (Below.refl _ _).drew hbt | (refine Bel_next ?_ hbt; (repeat (first | with_reducible exact Below.refl _ _ | with_reducible refine Below.drew ?_ | with_reducible refine Bel_drewN ?_ _ | with_reducible refine Below.alloc ?_ (by first | omega | (simp; done) | (simp; omega)) _ | with_reducible refine Below.setCell ?_ (by first | omega | (simp; done) | (simp; omega)) _)); done))) (by first | exact hb | exact Bel_next (Below.refl _ _).drew hb | (refine Bel_next ?_ hb; (repeat (first | with_reducible exact Below.refl _ _ | with_reducible refine Below.drew ?_ | with_reducible refine Bel_drewN ?_ _ | with_reducible refine Below.alloc ?_ (by first | omega | (simp; done) | (simp; omega)) _ | with_reducible refine Below.setCell ?_ (by first | omega | (simp; done) | (simp; omega)) _)); done)))
      have z13 : w12.heap.size ≤ w13.heap.size := hN.2.2.2.2.1
      have HS13 : Hid (Whole w13 w.heap.size 24 #[.int .i64 sn, .slice ao_ss ss.length c_ss] ∧ Whole w13 (w.heap.size + 1) 24 #[.int .i64 tn, .slice ao_us us.length c_us] ∧ Row w13 w3.heap.size w4.heap.size aos (fl .f32 (canL ss.length (joiG sn.toNat ss us))) ∧ Whole w13 gN4 27 #[.int .i64 sn, .slice aos ss.length ccs] ∧ Row w13 w4.heap.size w5.heap.size aoX_ss (fl .f32 ss) ∧ Whole w13 w5.heap.size 27 #[.int .i64 sn, .slice aoX_ss ss.length ss.length] ∧ Row w13 w6.heap.size w7.heap.size aoX_us (fl .f32 us) ∧ Whole w13 w7.heap.size 27 #[.int .i64 tn, .slice aoX_us us.length us.length] ∧ Row w13 w8.heap.size w9.heap.size aog (fl .f32 (canL ss.length (joiG sn.toNat ss us))) ∧ Whole w13 w9.heap.size 27 #[.int .i64 sn, .slice aog ss.length ccg] ∧ Below w.heap.size w w13) := Lib.hid ⟨hN.2.2.2.2.2.1, hN.2.2.2.2.2.2.1, hN.2.2.2.2.2.2.2.1, hN.2.2.2.2.2.2.2.2.1, hN.2.2.2.2.2.2.2.2.2.1, hN.2.2.2.2.2.2.2.2.2.2.1, hN.2.2.2.2.2.2.2.2.2.2.2.1, hN.2.2.2.2.2.2.2.2.2.2.2.2.1, hN.2.2.2.2.2.2.2.2.2.2.2.2.2.1, hN.2.2.2.2.2.2.2.2.2.2.2.2.2.2.1, hN.2.2.2.2.2.2.2.2.2.2.2.2.2.2.2⟩
      clear HS12 hN hR HK HP hb hbt
      clear rowY_us
      have hc0 := (HS13.out.1).facts.1
      have hf0 := (HS13.out.1).facts.2
      have hz0 := (HS13.out.1).lt
      have hc1 := (HS13.out.2.1).facts.1
      have hf1 := (HS13.out.2.1).facts.2
      have hz1 := (HS13.out.2.1).lt
      have hc3 := (HS13.out.2.2.2.1).facts.1
      have hf3 := (HS13.out.2.2.2.1).facts.2
      have hz3 := (HS13.out.2.2.2.1).lt
      have hc5 := (HS13.out.2.2.2.2.2.1).facts.1
      have hf5 := (HS13.out.2.2.2.2.2.1).facts.2
      have hz5 := (HS13.out.2.2.2.2.2.1).lt
      have hc7 := (HS13.out.2.2.2.2.2.2.2.1).facts.1
      have hf7 := (HS13.out.2.2.2.2.2.2.2.1).facts.2
      have hz7 := (HS13.out.2.2.2.2.2.2.2.1).lt
      have hc9 := (HS13.out.2.2.2.2.2.2.2.2.2.1).facts.1
      have hf9 := (HS13.out.2.2.2.2.2.2.2.2.2.1).facts.2
      have hz9 := (HS13.out.2.2.2.2.2.2.2.2.2.1).lt
      go_wp2_with fail
      clear hc0 hf0 hz0
      clear hc1 hf1 hz1
      clear hc3 hf3 hz3
      clear hc5 hf5 hz5
      clear hc7 hf7 hz7
      clear hc9 hf9 hz9
      refine (markChain_row sn 1 _ _ _ _ _ _ HS13.out.2.2.2.2.1 ((fl_len _ _).trans (rfl)) (by omega)).mono ?_
      rintro e w14 ⟨rfl, row, bt⟩
      have z14 : w13.heap.size ≤ w14.heap.size := bt.size
      have HS14 : Hid (Whole w14 w.heap.size 24 #[.int .i64 sn, .slice ao_ss ss.length c_ss] ∧ Whole w14 (w.heap.size + 1) 24 #[.int .i64 tn, .slice ao_us us.length c_us] ∧ Row w14 w3.heap.size w4.heap.size aos (fl .f32 (canL ss.length (joiG sn.toNat ss us))) ∧ Whole w14 gN4 27 #[.int .i64 sn, .slice aos ss.length ccs] ∧ Row w14 w4.heap.size w5.heap.size aoX_ss (fl .f32 (fmarks 1 ss.length)) ∧ Whole w14 w5.heap.size 27 #[.int .i64 sn, .slice aoX_ss ss.length ss.length] ∧ Row w14 w6.heap.size w7.heap.size aoX_us (fl .f32 us) ∧ Whole w14 w7.heap.size 27 #[.int .i64 tn, .slice aoX_us us.length us.length] ∧ Row w14 w8.heap.size w9.heap.size aog (fl .f32 (canL ss.length (joiG sn.toNat ss us))) ∧ Whole w14 w9.heap.size 27 #[.int .i64 sn, .slice aog ss.length ccg] ∧ Below w.heap.size w w14) := Lib.hid ⟨HS13.out.1.buts bt (by omega), HS13.out.2.1.buts bt (by omega), HS13.out.2.2.1.but bt (by omega), HS13.out.2.2.2.1.buts bt (by omega), row, HS13.out.2.2.2.2.2.1.buts bt (by omega), HS13.out.2.2.2.2.2.2.1.but bt (by omega), HS13.out.2.2.2.2.2.2.2.1.buts bt (by omega), HS13.out.2.2.2.2.2.2.2.2.1.but bt (by omega), HS13.out.2.2.2.2.2.2.2.2.2.1.buts bt (by omega), bt.bel HS13.out.2.2.2.2.2.2.2.2.2.2 (by omega)⟩
      clear HS13 row bt
      have hc0 := (HS14.out.1).facts.1
      have hf0 := (HS14.out.1).facts.2
      have hz0 := (HS14.out.1).lt
      have hc1 := (HS14.out.2.1).facts.1
      have hf1 := (HS14.out.2.1).facts.2
      have hz1 := (HS14.out.2.1).lt
      have hc3 := (HS14.out.2.2.2.1).facts.1
      have hf3 := (HS14.out.2.2.2.1).facts.2
      have hz3 := (HS14.out.2.2.2.1).lt
      have hc5 := (HS14.out.2.2.2.2.2.1).facts.1
      have hf5 := (HS14.out.2.2.2.2.2.1).facts.2
      have hz5 := (HS14.out.2.2.2.2.2.1).lt
      have hc7 := (HS14.out.2.2.2.2.2.2.2.1).facts.1
      have hf7 := (HS14.out.2.2.2.2.2.2.2.1).facts.2
      have hz7 := (HS14.out.2.2.2.2.2.2.2.1).lt
      have hc9 := (HS14.out.2.2.2.2.2.2.2.2.2.1).facts.1
      have hf9 := (HS14.out.2.2.2.2.2.2.2.2.2.1).facts.2
      have hz9 := (HS14.out.2.2.2.2.2.2.2.2.2.1).lt
      go_wp2_with fail
      clear hc0 hf0 hz0
      clear hc1 hf1 hz1
      clear hc3 hf3 hz3
      clear hc5 hf5 hz5
      clear hc7 hf7 hz7
      clear hc9 hf9 hz9
      refine (markChain_row tn (1 + ss.length) _ _ _ _ _ _ HS14.out.2.2.2.2.2.2.1 ((fl_len _ _).trans (rfl)) (by omega)).mono ?_
      rintro e w15 ⟨rfl, row, bt⟩
      have z15 : w14.heap.size ≤ w15.heap.size := bt.size
      have HS15 : Hid (Whole w15 w.heap.size 24 #[.int .i64 sn, .slice ao_ss ss.length c_ss] ∧ Whole w15 (w.heap.size + 1) 24 #[.int .i64 tn, .slice ao_us us.length c_us] ∧ Row w15 w3.heap.size w4.heap.size aos (fl .f32 (canL ss.length (joiG sn.toNat ss us))) ∧ Whole w15 gN4 27 #[.int .i64 sn, .slice aos ss.length ccs] ∧ Row w15 w4.heap.size w5.heap.size aoX_ss (fl .f32 (fmarks 1 ss.length)) ∧ Whole w15 w5.heap.size 27 #[.int .i64 sn, .slice aoX_ss ss.length ss.length] ∧ Row w15 w6.heap.size w7.heap.size aoX_us (fl .f32 (fmarks (1 + ss.length) us.length)) ∧ Whole w15 w7.heap.size 27 #[.int .i64 tn, .slice aoX_us us.length us.length] ∧ Row w15 w8.heap.size w9.heap.size aog (fl .f32 (canL ss.length (joiG sn.toNat ss us))) ∧ Whole w15 w9.heap.size 27 #[.int .i64 sn, .slice aog ss.length ccg] ∧ Below w.heap.size w w15) := Lib.hid ⟨HS14.out.1.buts bt (by omega), HS14.out.2.1.buts bt (by omega), HS14.out.2.2.1.but bt (by omega), HS14.out.2.2.2.1.buts bt (by omega), HS14.out.2.2.2.2.1.but bt (by omega), HS14.out.2.2.2.2.2.1.buts bt (by omega), row, HS14.out.2.2.2.2.2.2.2.1.buts bt (by omega), HS14.out.2.2.2.2.2.2.2.2.1.but bt (by omega), HS14.out.2.2.2.2.2.2.2.2.2.1.buts bt (by omega), bt.bel HS14.out.2.2.2.2.2.2.2.2.2.2 (by omega)⟩
      clear HS14 row bt
      have hc0 := (HS15.out.1).facts.1
      have hf0 := (HS15.out.1).facts.2
      have hz0 := (HS15.out.1).lt
      have hc1 := (HS15.out.2.1).facts.1
      have hf1 := (HS15.out.2.1).facts.2
      have hz1 := (HS15.out.2.1).lt
      have hc3 := (HS15.out.2.2.2.1).facts.1
      have hf3 := (HS15.out.2.2.2.1).facts.2
      have hz3 := (HS15.out.2.2.2.1).lt
      have hc5 := (HS15.out.2.2.2.2.2.1).facts.1
      have hf5 := (HS15.out.2.2.2.2.2.1).facts.2
      have hz5 := (HS15.out.2.2.2.2.2.1).lt
      have hc7 := (HS15.out.2.2.2.2.2.2.2.1).facts.1
      have hf7 := (HS15.out.2.2.2.2.2.2.2.1).facts.2
      have hz7 := (HS15.out.2.2.2.2.2.2.2.1).lt
      have hc9 := (HS15.out.2.2.2.2.2.2.2.2.2.1).facts.1
      have hf9 := (HS15.out.2.2.2.2.2.2.2.2.2.1).facts.2
      have hz9 := (HS15.out.2.2.2.2.2.2.2.2.2.1).lt
      go_wp2_with fail
      clear hc0 hf0 hz0
      clear hc1 hf1 hz1
      clear hc3 hf3 hz3
      clear hc5 hf5 hz5
      clear hc7 hf7 hz7
      clear hc9 hf9 hz9
      refine (eqChain_same (sn) (canL ss.length (joiG sn.toNat ss us)) (ss.length) (canL_len _ _) _ _ _ _ _ HS15.out.2.2.2.2.2.2.2.2.1.holds HS15.out.2.2.1.holds (by omega)).mono ?_
      rintro e w16 ⟨rfl, hb⟩
      have z16 : w15.heap.size ≤ w16.heap.size := hb.size
      have HS16 : Hid (Whole w16 w.heap.size 24 #[.int .i64 sn, .slice ao_ss ss.length c_ss] ∧ Whole w16 (w.heap.size + 1) 24 #[.int .i64 tn, .slice ao_us us.length c_us] ∧ Row w16 w3.heap.size w4.heap.size aos (fl .f32 (canL ss.length (joiG sn.toNat ss us))) ∧ Whole w16 gN4 27 #[.int .i64 sn, .slice aos ss.length ccs] ∧ Row w16 w4.heap.size w5.heap.size aoX_ss (fl .f32 (fmarks 1 ss.length)) ∧ Whole w16 w5.heap.size 27 #[.int .i64 sn, .slice aoX_ss ss.length ss.length] ∧ Row w16 w6.heap.size w7.heap.size aoX_us (fl .f32 (fmarks (1 + ss.length) us.length)) ∧ Whole w16 w7.heap.size 27 #[.int .i64 tn, .slice aoX_us us.length us.length] ∧ Row w16 w8.heap.size w9.heap.size aog (fl .f32 (canL ss.length (joiG sn.toNat ss us))) ∧ Whole w16 w9.heap.size 27 #[.int .i64 sn, .slice aog ss.length ccg] ∧ Below w.heap.size w w16) := Lib.hid ⟨HS15.out.1.below hb, HS15.out.2.1.below hb, HS15.out.2.2.1.below hb, HS15.out.2.2.2.1.below hb, HS15.out.2.2.2.2.1.below hb, HS15.out.2.2.2.2.2.1.below hb, HS15.out.2.2.2.2.2.2.1.below hb, HS15.out.2.2.2.2.2.2.2.1.below hb, HS15.out.2.2.2.2.2.2.2.2.1.below hb, HS15.out.2.2.2.2.2.2.2.2.2.1.below hb, Bel_next HS15.out.2.2.2.2.2.2.2.2.2.2 hb⟩
      clear HS15 hb
      have hc0 := (HS16.out.1).facts.1
      have hf0 := (HS16.out.1).facts.2
      have hz0 := (HS16.out.1).lt
      have hc1 := (HS16.out.2.1).facts.1
      have hf1 := (HS16.out.2.1).facts.2
      have hz1 := (HS16.out.2.1).lt
      have hc3 := (HS16.out.2.2.2.1).facts.1
      have hf3 := (HS16.out.2.2.2.1).facts.2
      have hz3 := (HS16.out.2.2.2.1).lt
      have hc5 := (HS16.out.2.2.2.2.2.1).facts.1
      have hf5 := (HS16.out.2.2.2.2.2.1).facts.2
      have hz5 := (HS16.out.2.2.2.2.2.1).lt
      have hc7 := (HS16.out.2.2.2.2.2.2.2.1).facts.1
      have hf7 := (HS16.out.2.2.2.2.2.2.2.1).facts.2
      have hz7 := (HS16.out.2.2.2.2.2.2.2.1).lt
      have hc9 := (HS16.out.2.2.2.2.2.2.2.2.2.1).facts.1
      have hf9 := (HS16.out.2.2.2.2.2.2.2.2.2.1).facts.2
      have hz9 := (HS16.out.2.2.2.2.2.2.2.2.2.1).lt
      go_wp2_with fail
      clear hc0 hf0 hz0
      clear hc1 hf1 hz1
      clear hc3 hf3 hz3
      clear hc5 hf5 hz5
      clear hc7 hf7 hz7
      clear hc9 hf9 hz9
      refine (markChain_row (sn) 1 _ _ _ _ _ _ HS16.out.2.2.2.2.2.2.2.2.1 ((fl_len _ _).trans (canL_len _ _)) (by omega)).mono ?_
      rintro e w17 ⟨rfl, row, bt⟩
      have z17 : w16.heap.size ≤ w17.heap.size := bt.size
      have HS17 : Hid (Whole w17 w.heap.size 24 #[.int .i64 sn, .slice ao_ss ss.length c_ss] ∧ Whole w17 (w.heap.size + 1) 24 #[.int .i64 tn, .slice ao_us us.length c_us] ∧ Row w17 w3.heap.size w4.heap.size aos (fl .f32 (canL ss.length (joiG sn.toNat ss us))) ∧ Whole w17 gN4 27 #[.int .i64 sn, .slice aos ss.length ccs] ∧ Row w17 w4.heap.size w5.heap.size aoX_ss (fl .f32 (fmarks 1 ss.length)) ∧ Whole w17 w5.heap.size 27 #[.int .i64 sn, .slice aoX_ss ss.length ss.length] ∧ Row w17 w6.heap.size w7.heap.size aoX_us (fl .f32 (fmarks (1 + ss.length) us.length)) ∧ Whole w17 w7.heap.size 27 #[.int .i64 tn, .slice aoX_us us.length us.length] ∧ Row w17 w8.heap.size w9.heap.size aog (fl .f32 (fmarks 1 ss.length)) ∧ Whole w17 w9.heap.size 27 #[.int .i64 sn, .slice aog ss.length ccg] ∧ Below w.heap.size w w17) := Lib.hid ⟨HS16.out.1.buts bt (by omega), HS16.out.2.1.buts bt (by omega), HS16.out.2.2.1.but bt (by omega), HS16.out.2.2.2.1.buts bt (by omega), HS16.out.2.2.2.2.1.but bt (by omega), HS16.out.2.2.2.2.2.1.buts bt (by omega), HS16.out.2.2.2.2.2.2.1.but bt (by omega), HS16.out.2.2.2.2.2.2.2.1.buts bt (by omega), row, HS16.out.2.2.2.2.2.2.2.2.2.1.buts bt (by omega), bt.bel HS16.out.2.2.2.2.2.2.2.2.2.2 (by omega)⟩
      clear HS16 row bt
      have hc0 := (HS17.out.1).facts.1
      have hf0 := (HS17.out.1).facts.2
      have hz0 := (HS17.out.1).lt
      have hc1 := (HS17.out.2.1).facts.1
      have hf1 := (HS17.out.2.1).facts.2
      have hz1 := (HS17.out.2.1).lt
      have hc3 := (HS17.out.2.2.2.1).facts.1
      have hf3 := (HS17.out.2.2.2.1).facts.2
      have hz3 := (HS17.out.2.2.2.1).lt
      have hc5 := (HS17.out.2.2.2.2.2.1).facts.1
      have hf5 := (HS17.out.2.2.2.2.2.1).facts.2
      have hz5 := (HS17.out.2.2.2.2.2.1).lt
      have hc7 := (HS17.out.2.2.2.2.2.2.2.1).facts.1
      have hf7 := (HS17.out.2.2.2.2.2.2.2.1).facts.2
      have hz7 := (HS17.out.2.2.2.2.2.2.2.1).lt
      have hc9 := (HS17.out.2.2.2.2.2.2.2.2.2.1).facts.1
      have hf9 := (HS17.out.2.2.2.2.2.2.2.2.2.1).facts.2
      have hz9 := (HS17.out.2.2.2.2.2.2.2.2.2.1).lt
      go_wp2_with fail
      clear hc0 hf0 hz0
      clear hc1 hf1 hz1
      clear hc3 hf3 hz3
      clear hc5 hf5 hz5
      clear hc7 hf7 hz7
      clear hc9 hf9 hz9
      refine (heldChain_marks (sn) 1 (ss.length) _ _ _ HS17.out.2.2.2.2.2.2.2.2.1.holds (by omega)).mono ?_
      rintro e w18 ⟨rfl, hb⟩
      have z18 : w17.heap.size ≤ w18.heap.size := hb.size
      have HS18 : Hid (Whole w18 w.heap.size 24 #[.int .i64 sn, .slice ao_ss ss.length c_ss] ∧ Whole w18 (w.heap.size + 1) 24 #[.int .i64 tn, .slice ao_us us.length c_us] ∧ Row w18 w3.heap.size w4.heap.size aos (fl .f32 (canL ss.length (joiG sn.toNat ss us))) ∧ Whole w18 gN4 27 #[.int .i64 sn, .slice aos ss.length ccs] ∧ Row w18 w4.heap.size w5.heap.size aoX_ss (fl .f32 (fmarks 1 ss.length)) ∧ Whole w18 w5.heap.size 27 #[.int .i64 sn, .slice aoX_ss ss.length ss.length] ∧ Row w18 w6.heap.size w7.heap.size aoX_us (fl .f32 (fmarks (1 + ss.length) us.length)) ∧ Whole w18 w7.heap.size 27 #[.int .i64 tn, .slice aoX_us us.length us.length] ∧ Row w18 w8.heap.size w9.heap.size aog (fl .f32 (fmarks 1 ss.length)) ∧ Whole w18 w9.heap.size 27 #[.int .i64 sn, .slice aog ss.length ccg] ∧ Below w.heap.size w w18) := Lib.hid ⟨HS17.out.1.below hb, HS17.out.2.1.below hb, HS17.out.2.2.1.below hb, HS17.out.2.2.2.1.below hb, HS17.out.2.2.2.2.1.below hb, HS17.out.2.2.2.2.2.1.below hb, HS17.out.2.2.2.2.2.2.1.below hb, HS17.out.2.2.2.2.2.2.2.1.below hb, HS17.out.2.2.2.2.2.2.2.2.1.below hb, HS17.out.2.2.2.2.2.2.2.2.2.1.below hb, Bel_next HS17.out.2.2.2.2.2.2.2.2.2.2 hb⟩
      clear HS17 hb
      have hc0 := (HS18.out.1).facts.1
      have hf0 := (HS18.out.1).facts.2
      have hz0 := (HS18.out.1).lt
      have hc1 := (HS18.out.2.1).facts.1
      have hf1 := (HS18.out.2.1).facts.2
      have hz1 := (HS18.out.2.1).lt
      have hc3 := (HS18.out.2.2.2.1).facts.1
      have hf3 := (HS18.out.2.2.2.1).facts.2
      have hz3 := (HS18.out.2.2.2.1).lt
      have hc5 := (HS18.out.2.2.2.2.2.1).facts.1
      have hf5 := (HS18.out.2.2.2.2.2.1).facts.2
      have hz5 := (HS18.out.2.2.2.2.2.1).lt
      have hc7 := (HS18.out.2.2.2.2.2.2.2.1).facts.1
      have hf7 := (HS18.out.2.2.2.2.2.2.2.1).facts.2
      have hz7 := (HS18.out.2.2.2.2.2.2.2.1).lt
      have hc9 := (HS18.out.2.2.2.2.2.2.2.2.2.1).facts.1
      have hf9 := (HS18.out.2.2.2.2.2.2.2.2.2.1).facts.2
      have hz9 := (HS18.out.2.2.2.2.2.2.2.2.2.1).lt
      go_wp2_with fail
      clear hc0 hf0 hz0
      clear hc1 hf1 hz1
      clear hc3 hf3 hz3
      clear hc5 hf5 hz5
      clear hc7 hf7 hz7
      clear hc9 hf9 hz9
      have HK : Hid (∀ v v' : World, (v.cell? ⟨w.heap.size, 0, none⟩ = some (.int .i64 sn) ∧ v.cell? ⟨w.heap.size, 1, none⟩ = some (.slice ao_ss ss.length c_ss) ∧ v.cell? ⟨(w.heap.size + 1), 0, none⟩ = some (.int .i64 tn) ∧ v.cell? ⟨(w.heap.size + 1), 1, none⟩ = some (.slice ao_us us.length c_us) ∧ w18.heap.size ≤ v.heap.size ∧ Whole v w.heap.size 24 #[.int .i64 sn, .slice ao_ss ss.length c_ss] ∧ Whole v (w.heap.size + 1) 24 #[.int .i64 tn, .slice ao_us us.length c_us] ∧ Row v w3.heap.size w4.heap.size aos (fl .f32 (canL ss.length (joiG sn.toNat ss us))) ∧ Whole v gN4 27 #[.int .i64 sn, .slice aos ss.length ccs] ∧ Row v w4.heap.size w5.heap.size aoX_ss (fl .f32 (fmarks 1 ss.length)) ∧ Whole v w5.heap.size 27 #[.int .i64 sn, .slice aoX_ss ss.length ss.length] ∧ Row v w6.heap.size w7.heap.size aoX_us (fl .f32 (fmarks (1 + ss.length) us.length)) ∧ Whole v w7.heap.size 27 #[.int .i64 tn, .slice aoX_us us.length us.length] ∧ Row v w8.heap.size w9.heap.size aog (fl .f32 (fmarks 1 ss.length)) ∧ Whole v w9.heap.size 27 #[.int .i64 sn, .slice aog ss.length ccg] ∧ Below w.heap.size w v) → Below v.heap.size v v' → (v'.cell? ⟨w.heap.size, 0, none⟩ = some (.int .i64 sn) ∧ v'.cell? ⟨w.heap.size, 1, none⟩ = some (.slice ao_ss ss.length c_ss) ∧ v'.cell? ⟨(w.heap.size + 1), 0, none⟩ = some (.int .i64 tn) ∧ v'.cell? ⟨(w.heap.size + 1), 1, none⟩ = some (.slice ao_us us.length c_us) ∧ w18.heap.size ≤ v'.heap.size ∧ Whole v' w.heap.size 24 #[.int .i64 sn, .slice ao_ss ss.length c_ss] ∧ Whole v' (w.heap.size + 1) 24 #[.int .i64 tn, .slice ao_us us.length c_us] ∧ Row v' w3.heap.size w4.heap.size aos (fl .f32 (canL ss.length (joiG sn.toNat ss us))) ∧ Whole v' gN4 27 #[.int .i64 sn, .slice aos ss.length ccs] ∧ Row v' w4.heap.size w5.heap.size aoX_ss (fl .f32 (fmarks 1 ss.length)) ∧ Whole v' w5.heap.size 27 #[.int .i64 sn, .slice aoX_ss ss.length ss.length] ∧ Row v' w6.heap.size w7.heap.size aoX_us (fl .f32 (fmarks (1 + ss.length) us.length)) ∧ Whole v' w7.heap.size 27 #[.int .i64 tn, .slice aoX_us us.length us.length] ∧ Row v' w8.heap.size w9.heap.size aog (fl .f32 (fmarks 1 ss.length)) ∧ Whole v' w9.heap.size 27 #[.int .i64 sn, .slice aog ss.length ccg] ∧ Below w.heap.size w v')) := Lib.hid (fun v v' h hb => ⟨(by rw [Below.cell hb (World.block_lt_of_cell? _ _ h.1)]; exact h.1), (by rw [Below.cell hb (World.block_lt_of_cell? _ _ h.2.1)]; exact h.2.1), (by rw [Below.cell hb (World.block_lt_of_cell? _ _ h.2.2.1)]; exact h.2.2.1), (by rw [Below.cell hb (World.block_lt_of_cell? _ _ h.2.2.2.1)]; exact h.2.2.2.1), Nat.le_trans h.2.2.2.2.1 hb.size, h.2.2.2.2.2.1.below hb, h.2.2.2.2.2.2.1.below hb, h.2.2.2.2.2.2.2.1.below hb, h.2.2.2.2.2.2.2.2.1.below hb, h.2.2.2.2.2.2.2.2.2.1.below hb, h.2.2.2.2.2.2.2.2.2.2.1.below hb, h.2.2.2.2.2.2.2.2.2.2.2.1.below hb, h.2.2.2.2.2.2.2.2.2.2.2.2.1.below hb, h.2.2.2.2.2.2.2.2.2.2.2.2.2.1.below hb, h.2.2.2.2.2.2.2.2.2.2.2.2.2.2.1.below hb, Bel_next h.2.2.2.2.2.2.2.2.2.2.2.2.2.2.2 hb⟩)
      have HP : Hid (∀ v : World, (v.cell? ⟨w.heap.size, 0, none⟩ = some (.int .i64 sn) ∧ v.cell? ⟨w.heap.size, 1, none⟩ = some (.slice ao_ss ss.length c_ss) ∧ v.cell? ⟨(w.heap.size + 1), 0, none⟩ = some (.int .i64 tn) ∧ v.cell? ⟨(w.heap.size + 1), 1, none⟩ = some (.slice ao_us us.length c_us) ∧ w18.heap.size ≤ v.heap.size ∧ Whole v w.heap.size 24 #[.int .i64 sn, .slice ao_ss ss.length c_ss] ∧ Whole v (w.heap.size + 1) 24 #[.int .i64 tn, .slice ao_us us.length c_us] ∧ Row v w3.heap.size w4.heap.size aos (fl .f32 (canL ss.length (joiG sn.toNat ss us))) ∧ Whole v gN4 27 #[.int .i64 sn, .slice aos ss.length ccs] ∧ Row v w4.heap.size w5.heap.size aoX_ss (fl .f32 (fmarks 1 ss.length)) ∧ Whole v w5.heap.size 27 #[.int .i64 sn, .slice aoX_ss ss.length ss.length] ∧ Row v w6.heap.size w7.heap.size aoX_us (fl .f32 (fmarks (1 + ss.length) us.length)) ∧ Whole v w7.heap.size 27 #[.int .i64 tn, .slice aoX_us us.length us.length] ∧ Row v w8.heap.size w9.heap.size aog (fl .f32 (fmarks 1 ss.length)) ∧ Whole v w9.heap.size 27 #[.int .i64 sn, .slice aog ss.length ccg] ∧ Below w.heap.size w v) → (Whole v w.heap.size 24 #[.int .i64 sn, .slice ao_ss ss.length c_ss] ∧ Whole v (w.heap.size + 1) 24 #[.int .i64 tn, .slice ao_us us.length c_us] ∧ Row v w3.heap.size w4.heap.size aos (fl .f32 (canL ss.length (joiG sn.toNat ss us))) ∧ Whole v gN4 27 #[.int .i64 sn, .slice aos ss.length ccs] ∧ Row v w4.heap.size w5.heap.size aoX_ss (fl .f32 (fmarks 1 ss.length)) ∧ Whole v w5.heap.size 27 #[.int .i64 sn, .slice aoX_ss ss.length ss.length] ∧ Row v w6.heap.size w7.heap.size aoX_us (fl .f32 (fmarks (1 + ss.length) us.length)) ∧ Whole v w7.heap.size 27 #[.int .i64 tn, .slice aoX_us us.length us.length] ∧ Row v w8.heap.size w9.heap.size aog (fl .f32 (fmarks 1 ss.length)) ∧ Whole v w9.heap.size 27 #[.int .i64 sn, .slice aog ss.length ccg] ∧ Below w.heap.size w v)) := Lib.hid (fun v h => h.2.2.2.2.2)
      have hR : w18.cell? ⟨w.heap.size, 0, none⟩ = some (.int .i64 sn) ∧ w18.cell? ⟨w.heap.size, 1, none⟩ = some (.slice ao_ss ss.length c_ss) ∧ w18.cell? ⟨(w.heap.size + 1), 0, none⟩ = some (.int .i64 tn) ∧ w18.cell? ⟨(w.heap.size + 1), 1, none⟩ = some (.slice ao_us us.length c_us) ∧ w18.heap.size ≤ w18.heap.size ∧ Whole w18 w.heap.size 24 #[.int .i64 sn, .slice ao_ss ss.length c_ss] ∧ Whole w18 (w.heap.size + 1) 24 #[.int .i64 tn, .slice ao_us us.length c_us] ∧ Row w18 w3.heap.size w4.heap.size aos (fl .f32 (canL ss.length (joiG sn.toNat ss us))) ∧ Whole w18 gN4 27 #[.int .i64 sn, .slice aos ss.length ccs] ∧ Row w18 w4.heap.size w5.heap.size aoX_ss (fl .f32 (fmarks 1 ss.length)) ∧ Whole w18 w5.heap.size 27 #[.int .i64 sn, .slice aoX_ss ss.length ss.length] ∧ Row w18 w6.heap.size w7.heap.size aoX_us (fl .f32 (fmarks (1 + ss.length) us.length)) ∧ Whole w18 w7.heap.size 27 #[.int .i64 tn, .slice aoX_us us.length us.length] ∧ Row w18 w8.heap.size w9.heap.size aog (fl .f32 (fmarks 1 ss.length)) ∧ Whole w18 w9.heap.size 27 #[.int .i64 sn, .slice aog ss.length ccg] ∧ Below w.heap.size w w18 := ⟨(HS18.out.1).cell 0, (HS18.out.1).cell 1, (HS18.out.2.1).cell 0, (HS18.out.2.1).cell 1, Nat.le_refl _, HS18.out.1, HS18.out.2.1, HS18.out.2.2.1, HS18.out.2.2.2.1, HS18.out.2.2.2.2.1, HS18.out.2.2.2.2.2.1, HS18.out.2.2.2.2.2.2.1, HS18.out.2.2.2.2.2.2.2.1, HS18.out.2.2.2.2.2.2.2.2.1, HS18.out.2.2.2.2.2.2.2.2.2.1, HS18.out.2.2.2.2.2.2.2.2.2.2⟩
      have HK2 : Hid (∀ (v : World) (q : Addr) (u : Value), (v.cell? ⟨w.heap.size, 0, none⟩ = some (.int .i64 sn) ∧ v.cell? ⟨w.heap.size, 1, none⟩ = some (.slice ao_ss ss.length c_ss) ∧ v.cell? ⟨(w.heap.size + 1), 0, none⟩ = some (.int .i64 tn) ∧ v.cell? ⟨(w.heap.size + 1), 1, none⟩ = some (.slice ao_us us.length c_us) ∧ w18.heap.size ≤ v.heap.size ∧ Whole v w.heap.size 24 #[.int .i64 sn, .slice ao_ss ss.length c_ss] ∧ Whole v (w.heap.size + 1) 24 #[.int .i64 tn, .slice ao_us us.length c_us] ∧ Row v w3.heap.size w4.heap.size aos (fl .f32 (canL ss.length (joiG sn.toNat ss us))) ∧ Whole v gN4 27 #[.int .i64 sn, .slice aos ss.length ccs] ∧ Row v w4.heap.size w5.heap.size aoX_ss (fl .f32 (fmarks 1 ss.length)) ∧ Whole v w5.heap.size 27 #[.int .i64 sn, .slice aoX_ss ss.length ss.length] ∧ Row v w6.heap.size w7.heap.size aoX_us (fl .f32 (fmarks (1 + ss.length) us.length)) ∧ Whole v w7.heap.size 27 #[.int .i64 tn, .slice aoX_us us.length us.length] ∧ Row v w8.heap.size w9.heap.size aog (fl .f32 (fmarks 1 ss.length)) ∧ Whole v w9.heap.size 27 #[.int .i64 sn, .slice aog ss.length ccg] ∧ Below w.heap.size w v) → w18.heap.size ≤ q.block → ((v.setCell q u).cell? ⟨w.heap.size, 0, none⟩ = some (.int .i64 sn) ∧ (v.setCell q u).cell? ⟨w.heap.size, 1, none⟩ = some (.slice ao_ss ss.length c_ss) ∧ (v.setCell q u).cell? ⟨(w.heap.size + 1), 0, none⟩ = some (.int .i64 tn) ∧ (v.setCell q u).cell? ⟨(w.heap.size + 1), 1, none⟩ = some (.slice ao_us us.length c_us) ∧ w18.heap.size ≤ (v.setCell q u).heap.size ∧ Whole (v.setCell q u) w.heap.size 24 #[.int .i64 sn, .slice ao_ss ss.length c_ss] ∧ Whole (v.setCell q u) (w.heap.size + 1) 24 #[.int .i64 tn, .slice ao_us us.length c_us] ∧ Row (v.setCell q u) w3.heap.size w4.heap.size aos (fl .f32 (canL ss.length (joiG sn.toNat ss us))) ∧ Whole (v.setCell q u) gN4 27 #[.int .i64 sn, .slice aos ss.length ccs] ∧ Row (v.setCell q u) w4.heap.size w5.heap.size aoX_ss (fl .f32 (fmarks 1 ss.length)) ∧ Whole (v.setCell q u) w5.heap.size 27 #[.int .i64 sn, .slice aoX_ss ss.length ss.length] ∧ Row (v.setCell q u) w6.heap.size w7.heap.size aoX_us (fl .f32 (fmarks (1 + ss.length) us.length)) ∧ Whole (v.setCell q u) w7.heap.size 27 #[.int .i64 tn, .slice aoX_us us.length us.length] ∧ Row (v.setCell q u) w8.heap.size w9.heap.size aog (fl .f32 (fmarks 1 ss.length)) ∧ Whole (v.setCell q u) w9.heap.size 27 #[.int .i64 sn, .slice aog ss.length ccg] ∧ Below w.heap.size w (v.setCell q u))) := Lib.hid (fun v q u h hq => ⟨((World.cell?_of_block (a := ⟨w.heap.size, 0, none⟩) (Below.heap_setCell v q u _ (by show ¬ _ = _; simp only []; omega))).trans h.1), ((World.cell?_of_block (a := ⟨w.heap.size, 1, none⟩) (Below.heap_setCell v q u _ (by show ¬ _ = _; simp only []; omega))).trans h.2.1), ((World.cell?_of_block (a := ⟨(w.heap.size + 1), 0, none⟩) (Below.heap_setCell v q u _ (by show ¬ _ = _; simp only []; omega))).trans h.2.2.1), ((World.cell?_of_block (a := ⟨(w.heap.size + 1), 1, none⟩) (Below.heap_setCell v q u _ (by show ¬ _ = _; simp only []; omega))).trans h.2.2.2.1), (by simpa using h.2.2.2.2.1), h.2.2.2.2.2.1.far (by omega) _, h.2.2.2.2.2.2.1.far (by omega) _, h.2.2.2.2.2.2.2.1.far (.inr (by omega)) _, h.2.2.2.2.2.2.2.2.1.far (by omega) _, h.2.2.2.2.2.2.2.2.2.1.far (.inr (by omega)) _, h.2.2.2.2.2.2.2.2.2.2.1.far (by omega) _, h.2.2.2.2.2.2.2.2.2.2.2.1.far (.inr (by omega)) _, h.2.2.2.2.2.2.2.2.2.2.2.2.1.far (by omega) _, h.2.2.2.2.2.2.2.2.2.2.2.2.2.1.far (.inr (by omega)) _, h.2.2.2.2.2.2.2.2.2.2.2.2.2.2.1.far (by omega) _, Below.setCell h.2.2.2.2.2.2.2.2.2.2.2.2.2.2.2 (by omega) _⟩)
      go_cut [15, 16] from 17 (fun s0 s1 wx => ∃ (gN : Nat) (aoh : Option Addr) (cch : Nat), s0 = .pointer (some ⟨gN, 0, none⟩) ∧ s1 = .bool true ∧ w18.heap.size ≤ gN ∧ Whole wx gN 27 #[.int .i64 sn, .slice aoh ss.length cch] ∧ Row wx w18.heap.size wx.heap.size aoh (fl .f32 (canL ss.length (joiG sn.toNat ss us))) ∧ Whole wx w.heap.size 24 #[.int .i64 sn, .slice ao_ss ss.length c_ss] ∧ Whole wx (w.heap.size + 1) 24 #[.int .i64 tn, .slice ao_us us.length c_us] ∧ Row wx w3.heap.size w4.heap.size aos (fl .f32 (canL ss.length (joiG sn.toNat ss us))) ∧ Whole wx gN4 27 #[.int .i64 sn, .slice aos ss.length ccs] ∧ Row wx w4.heap.size w5.heap.size aoX_ss (fl .f32 (fmarks 1 ss.length)) ∧ Whole wx w5.heap.size 27 #[.int .i64 sn, .slice aoX_ss ss.length ss.length] ∧ Row wx w6.heap.size w7.heap.size aoX_us (fl .f32 (fmarks (1 + ss.length) us.length)) ∧ Whole wx w7.heap.size 27 #[.int .i64 tn, .slice aoX_us us.length us.length] ∧ Row wx w8.heap.size w9.heap.size aog (fl .f32 (fmarks 1 ss.length)) ∧ Whole wx w9.heap.size 27 #[.int .i64 sn, .slice aog ss.length ccg] ∧ Below w.heap.size w wx)
      case first =>
        go_region_held3 (fun v => v.cell? ⟨w.heap.size, 0, none⟩ = some (.int .i64 sn) ∧ v.cell? ⟨w.heap.size, 1, none⟩ = some (.slice ao_ss ss.length c_ss) ∧ v.cell? ⟨(w.heap.size + 1), 0, none⟩ = some (.int .i64 tn) ∧ v.cell? ⟨(w.heap.size + 1), 1, none⟩ = some (.slice ao_us us.length c_us) ∧ w18.heap.size ≤ v.heap.size ∧ Whole v w.heap.size 24 #[.int .i64 sn, .slice ao_ss ss.length c_ss] ∧ Whole v (w.heap.size + 1) 24 #[.int .i64 tn, .slice ao_us us.length c_us] ∧ Row v w3.heap.size w4.heap.size aos (fl .f32 (canL ss.length (joiG sn.toNat ss us))) ∧ Whole v gN4 27 #[.int .i64 sn, .slice aos ss.length ccs] ∧ Row v w4.heap.size w5.heap.size aoX_ss (fl .f32 (fmarks 1 ss.length)) ∧ Whole v w5.heap.size 27 #[.int .i64 sn, .slice aoX_ss ss.length ss.length] ∧ Row v w6.heap.size w7.heap.size aoX_us (fl .f32 (fmarks (1 + ss.length) us.length)) ∧ Whole v w7.heap.size 27 #[.int .i64 tn, .slice aoX_us us.length us.length] ∧ Row v w8.heap.size w9.heap.size aog (fl .f32 (fmarks 1 ss.length)) ∧ Whole v w9.heap.size 27 #[.int .i64 sn, .slice aog ss.length ccg] ∧ Below w.heap.size w v)
          (first | with_reducible assumption | with_reducible exact HSv2.out | with_reducible exact HSv1.out | with_reducible exact HSv0.out | ((with_reducible refine HK.out _ _ HSv2.out ?_); (repeat (first | with_reducible exact Below.refl _ _ | with_reducible refine Below.drew ?_ | with_reducible refine Bel_drewN ?_ _ | with_reducible refine Below.alloc ?_ (by first | omega | (simp; done) | (simp; omega)) _ | with_reducible refine Below.setCell ?_ (by first | omega | (simp; done) | (simp; omega)) _)); done) | ((with_reducible refine HK.out _ _ HSv1.out ?_); (repeat (first | with_reducible exact Below.refl _ _ | with_reducible refine Below.drew ?_ | with_reducible refine Bel_drewN ?_ _ | with_reducible refine Below.alloc ?_ (by first | omega | (simp; done) | (simp; omega)) _ | with_reducible refine Below.setCell ?_ (by first | omega | (simp; done) | (simp; omega)) _)); done) | ((with_reducible refine HK.out _ _ HSv0.out ?_); (repeat (first | with_reducible exact Below.refl _ _ | with_reducible refine Below.drew ?_ | with_reducible refine Bel_drewN ?_ _ | with_reducible refine Below.alloc ?_ (by first | omega | (simp; done) | (simp; omega)) _ | with_reducible refine Below.setCell ?_ (by first | omega | (simp; done) | (simp; omega)) _)); done) | ((with_reducible refine HK.out w18 _ hR ?_); (repeat (first | with_reducible exact Below.refl _ _ | with_reducible refine Below.drew ?_ | with_reducible refine Bel_drewN ?_ _ | with_reducible refine Below.alloc ?_ (by first | omega | (simp; done) | (simp; omega)) _ | with_reducible refine Below.setCell ?_ (by first | omega | (simp; done) | (simp; omega)) _)); done) | ((with_reducible refine HK2.out _ _ _ HSv2.out ?_) <;> (first | omega | (simp; done) | (simp; omega))) | ((with_reducible refine HK2.out _ _ _ (HK2.out _ _ _ HSv2.out ?_) ?_) <;> (first | omega | (simp; done) | (simp; omega))) | exact HK.out _ _ (by with_reducible assumption) (by with_reducible assumption))
          (first | (go_at_call 17; (with_reducible (refine (toChain_any sn ss _ _ _ (Holds.below HX_ss.out (HP.out _ (by assumption)).2.2.2.2.2.2.2.2.2.2) hn_ss).mono ?_)); rintro e wt0 ⟨aohd_ss, rfl, rowhd_ss, hbt0⟩; have zz0 := hbt0.size; (try simp at zz0); have HSv0 := Lib.hid (HK.out _ _ (by with_reducible assumption) hbt0); obtain ⟨kc0, kf0⟩ := cells_kept hbt0; (try have zt0_0 : w18.heap.size < wt0.heap.size := by omega)) | (go_at_call 17; (with_reducible (refine (toChain_any tn us _ _ _ (Holds.below HX_us.out (HP.out _ (by assumption)).2.2.2.2.2.2.2.2.2.2) hn_us).mono ?_)); rintro e wt1 ⟨aohd_us, rfl, rowhd_us, hbt1⟩; have zz1 := hbt1.size; (try simp at zz1); have HSv1 := Lib.hid (HK.out _ _ (by with_reducible assumption) hbt1); obtain ⟨kc1, kf1⟩ := cells_kept hbt1; (try have zt1_0 : w18.heap.size < wt1.heap.size := by omega); (try have zt1_1 : wt0.heap.size < wt1.heap.size := by omega)) | (go_at_call 39; refine (implJoi_is sn tn ss us _ _ rfl rfl _ _ _ _ _ (by first | exact ((Row.below rowhd_ss (by first | exact hbt1 | exact Bel_next (Below.refl _ _).drew hbt1 | (refine Bel_next ?_ hbt1; (repeat (first | with_reducible exact Below.refl _ _ | with_reducible refine Below.drew ?_ | with_reducible refine Bel_drewN ?_ _ | with_reducible refine Below.alloc ?_ (by first | omega | (simp; done) | (simp; omega)) _ | with_reducible refine Below.setCell ?_ (by first | omega | (simp; done) | (simp; omega)) _)); done)))).holds | (refine (Row.below (Row.below rowhd_ss (by first | exact hbt1 | exact Bel_next (Below.refl _ _).drew hbt1 | (refine Bel_next ?_ hbt1; (repeat (first | with_reducible exact Below.refl _ _ | with_reducible refine Below.drew ?_ | with_reducible refine Bel_drewN ?_ _ | with_reducible refine Below.alloc ?_ (by first | omega | (simp; done) | (simp; omega)) _ | with_reducible refine Below.setCell ?_ (by first | omega | (simp; done) | (simp; omega)) _)); done))) ?_).holds; (repeat (first | with_reducible exact Below.refl _ _ | with_reducible refine Below.drew ?_ | with_reducible refine Bel_drewN ?_ _ | with_reducible refine Below.alloc ?_ (by first | omega | (simp; done) | (simp; omega)) _ | with_reducible refine Below.setCell ?_ (by first | omega | (simp; done) | (simp; omega)) _)); done)) (by first | exact (rowhd_us).holds | (refine (Row.below rowhd_us ?_).holds; (repeat (first | with_reducible exact Below.refl _ _ | with_reducible refine Below.drew ?_ | with_reducible refine Bel_drewN ?_ _ | with_reducible refine Below.alloc ?_ (by first | omega | (simp; done) | (simp; omega)) _ | with_reducible refine Below.setCell ?_ (by first | omega | (simp; done) | (simp; omega)) _)); done)) hn_ss hn_us (Nat.le_refl _) (Nat.le_refl _) HV.out).mono ?_; rintro e w19 ⟨aoh, cch, rfl, rowh, hb⟩; have zz2 := hb.size; (try simp at zz2); have HSv2 := Lib.hid (HK.out _ _ (by with_reducible assumption) hb); obtain ⟨kc2, kf2⟩ := cells_kept hb; (try have zt2_0 : w18.heap.size < w19.heap.size := by omega); (try have zt2_1 : wt0.heap.size < w19.heap.size := by omega); (try have zt2_2 : wt1.heap.size < w19.heap.size := by omega)))
        all_goals
          go_wp2_with fail
          go_meet
          refine ⟨_, aoh, cch, rfl, rfl, ?_, ?_, ?_, ?_⟩
          · first | omega | (simp; done) | (simp; omega)
          · first | exact Whole.made _ _ _ | (have hq := (((Whole.made _ _ _).below hbt0).below hbt1).below hb; exact ((hq).put 0 _).put 1 _) | (have hq := ((((Whole.made _ _ _).drew).below hbt0).below hbt1).below hb; exact ((hq).put 0 _).put 1 _) | (have hq := ((Whole.made _ _ _).below hbt1).below hb; exact ((hq).put 0 _).put 1 _) | (have hq := (Whole.made _ _ _).below hb; exact ((hq).put 0 _).put 1 _)
          · first | exact Row.wide (Row.far (Row.far rowh (by first | (left; (first | omega | (simp; done) | (simp; omega))) | (right; (first | omega | (simp; done) | (simp; omega)))) _) (by first | (left; (first | omega | (simp; done) | (simp; omega))) | (right; (first | omega | (simp; done) | (simp; omega)))) _) (by first | omega | (simp; done) | (simp; omega)) (by first | omega | (simp; done) | (simp; omega)) | exact Row.wide (Row.alloc rowh _) (by first | omega | (simp; done) | (simp; omega)) (by first | omega | (simp; done) | (simp; omega)) | exact Row.wide (Row.far (Row.far (Row.alloc rowh _) (by first | (left; (first | omega | (simp; done) | (simp; omega))) | (right; (first | omega | (simp; done) | (simp; omega)))) _) (by first | (left; (first | omega | (simp; done) | (simp; omega))) | (right; (first | omega | (simp; done) | (simp; omega)))) _) (by first | omega | (simp; done) | (simp; omega)) (by first | omega | (simp; done) | (simp; omega))
          · first | (refine HP.out _ (HK.out _ _ HSv2.out ?_); (repeat (first | with_reducible exact Below.refl _ _ | with_reducible refine Below.drew ?_ | with_reducible refine Bel_drewN ?_ _ | with_reducible refine Below.alloc ?_ (by first | omega | (simp; done) | (simp; omega)) _ | with_reducible refine Below.setCell ?_ (by first | omega | (simp; done) | (simp; omega)) _)); done) | exact HP.out _ (HK2.out _ _ _ (HK2.out _ _ _ HSv2.out (by first | omega | (simp; done) | (simp; omega))) (by first | omega | (simp; done) | (simp; omega)))
      case rest =>
        obtain ⟨gN, aoh, cch, rfl, rfl, hle, hW, hrow0, hS⟩ := hcut
        rename World => w19
        have z19 : w18.heap.size ≤ w19.heap.size := by have := hW.lt; omega
        obtain ⟨gN19, hgN⟩ : ∃ g, g = gN := ⟨_, rfl⟩
        subst hgN
        have ygN19 : gN19 < w19.heap.size := hW.lt
        have xgN19 : w18.heap.size ≤ gN19 := hle
        have HS19 : Hid (Whole w19 w.heap.size 24 #[.int .i64 sn, .slice ao_ss ss.length c_ss] ∧ Whole w19 (w.heap.size + 1) 24 #[.int .i64 tn, .slice ao_us us.length c_us] ∧ Row w19 w3.heap.size w4.heap.size aos (fl .f32 (canL ss.length (joiG sn.toNat ss us))) ∧ Whole w19 gN4 27 #[.int .i64 sn, .slice aos ss.length ccs] ∧ Row w19 w4.heap.size w5.heap.size aoX_ss (fl .f32 (fmarks 1 ss.length)) ∧ Whole w19 w5.heap.size 27 #[.int .i64 sn, .slice aoX_ss ss.length ss.length] ∧ Row w19 w6.heap.size w7.heap.size aoX_us (fl .f32 (fmarks (1 + ss.length) us.length)) ∧ Whole w19 w7.heap.size 27 #[.int .i64 tn, .slice aoX_us us.length us.length] ∧ Row w19 w8.heap.size w9.heap.size aog (fl .f32 (fmarks 1 ss.length)) ∧ Whole w19 w9.heap.size 27 #[.int .i64 sn, .slice aog ss.length ccg] ∧ Row w19 w18.heap.size w19.heap.size aoh (fl .f32 (canL ss.length (joiG sn.toNat ss us))) ∧ Whole w19 gN19 27 #[.int .i64 sn, .slice aoh ss.length cch] ∧ Below w.heap.size w w19) := Lib.hid ⟨hS.1, hS.2.1, hS.2.2.1, hS.2.2.2.1, hS.2.2.2.2.1, hS.2.2.2.2.2.1, hS.2.2.2.2.2.2.1, hS.2.2.2.2.2.2.2.1, hS.2.2.2.2.2.2.2.2.1, hS.2.2.2.2.2.2.2.2.2.1, hrow0, hW, hS.2.2.2.2.2.2.2.2.2.2⟩
        clear HS18 HK HP HK2 hR hle hW hS hrow0
        have hc0 := (HS19.out.1).facts.1
        have hf0 := (HS19.out.1).facts.2
        have hz0 := (HS19.out.1).lt
        have hc1 := (HS19.out.2.1).facts.1
        have hf1 := (HS19.out.2.1).facts.2
        have hz1 := (HS19.out.2.1).lt
        have hc3 := (HS19.out.2.2.2.1).facts.1
        have hf3 := (HS19.out.2.2.2.1).facts.2
        have hz3 := (HS19.out.2.2.2.1).lt
        have hc5 := (HS19.out.2.2.2.2.2.1).facts.1
        have hf5 := (HS19.out.2.2.2.2.2.1).facts.2
        have hz5 := (HS19.out.2.2.2.2.2.1).lt
        have hc7 := (HS19.out.2.2.2.2.2.2.2.1).facts.1
        have hf7 := (HS19.out.2.2.2.2.2.2.2.1).facts.2
        have hz7 := (HS19.out.2.2.2.2.2.2.2.1).lt
        have hc9 := (HS19.out.2.2.2.2.2.2.2.2.2.1).facts.1
        have hf9 := (HS19.out.2.2.2.2.2.2.2.2.2.1).facts.2
        have hz9 := (HS19.out.2.2.2.2.2.2.2.2.2.1).lt
        have hc11 := (HS19.out.2.2.2.2.2.2.2.2.2.2.2.1).facts.1
        have hf11 := (HS19.out.2.2.2.2.2.2.2.2.2.2.2.1).facts.2
        have hz11 := (HS19.out.2.2.2.2.2.2.2.2.2.2.2.1).lt
        go_wp2_with fail
        clear hc0 hf0 hz0
        clear hc1 hf1 hz1
        clear hc3 hf3 hz3
        clear hc5 hf5 hz5
        clear hc7 hf7 hz7
        clear hc9 hf9 hz9
        clear hc11 hf11 hz11
        refine (eqChain_same (sn) (canL ss.length (joiG sn.toNat ss us)) (ss.length) (canL_len _ _) _ _ _ _ _ HS19.out.2.2.2.2.2.2.2.2.2.2.1.holds HS19.out.2.2.1.holds (by omega)).mono ?_
        rintro e w20 ⟨rfl, hb⟩
        have z20 : w19.heap.size ≤ w20.heap.size := hb.size
        have HS20 : Hid (Whole w20 w.heap.size 24 #[.int .i64 sn, .slice ao_ss ss.length c_ss] ∧ Whole w20 (w.heap.size + 1) 24 #[.int .i64 tn, .slice ao_us us.length c_us] ∧ Row w20 w3.heap.size w4.heap.size aos (fl .f32 (canL ss.length (joiG sn.toNat ss us))) ∧ Whole w20 gN4 27 #[.int .i64 sn, .slice aos ss.length ccs] ∧ Row w20 w4.heap.size w5.heap.size aoX_ss (fl .f32 (fmarks 1 ss.length)) ∧ Whole w20 w5.heap.size 27 #[.int .i64 sn, .slice aoX_ss ss.length ss.length] ∧ Row w20 w6.heap.size w7.heap.size aoX_us (fl .f32 (fmarks (1 + ss.length) us.length)) ∧ Whole w20 w7.heap.size 27 #[.int .i64 tn, .slice aoX_us us.length us.length] ∧ Row w20 w8.heap.size w9.heap.size aog (fl .f32 (fmarks 1 ss.length)) ∧ Whole w20 w9.heap.size 27 #[.int .i64 sn, .slice aog ss.length ccg] ∧ Row w20 w18.heap.size w19.heap.size aoh (fl .f32 (canL ss.length (joiG sn.toNat ss us))) ∧ Whole w20 gN19 27 #[.int .i64 sn, .slice aoh ss.length cch] ∧ Below w.heap.size w w20) := Lib.hid ⟨HS19.out.1.below hb, HS19.out.2.1.below hb, HS19.out.2.2.1.below hb, HS19.out.2.2.2.1.below hb, HS19.out.2.2.2.2.1.below hb, HS19.out.2.2.2.2.2.1.below hb, HS19.out.2.2.2.2.2.2.1.below hb, HS19.out.2.2.2.2.2.2.2.1.below hb, HS19.out.2.2.2.2.2.2.2.2.1.below hb, HS19.out.2.2.2.2.2.2.2.2.2.1.below hb, HS19.out.2.2.2.2.2.2.2.2.2.2.1.below hb, HS19.out.2.2.2.2.2.2.2.2.2.2.2.1.below hb, Bel_next HS19.out.2.2.2.2.2.2.2.2.2.2.2.2 hb⟩
        clear HS19 hb
        have hc0 := (HS20.out.1).facts.1
        have hf0 := (HS20.out.1).facts.2
        have hz0 := (HS20.out.1).lt
        have hc1 := (HS20.out.2.1).facts.1
        have hf1 := (HS20.out.2.1).facts.2
        have hz1 := (HS20.out.2.1).lt
        have hc3 := (HS20.out.2.2.2.1).facts.1
        have hf3 := (HS20.out.2.2.2.1).facts.2
        have hz3 := (HS20.out.2.2.2.1).lt
        have hc5 := (HS20.out.2.2.2.2.2.1).facts.1
        have hf5 := (HS20.out.2.2.2.2.2.1).facts.2
        have hz5 := (HS20.out.2.2.2.2.2.1).lt
        have hc7 := (HS20.out.2.2.2.2.2.2.2.1).facts.1
        have hf7 := (HS20.out.2.2.2.2.2.2.2.1).facts.2
        have hz7 := (HS20.out.2.2.2.2.2.2.2.1).lt
        have hc9 := (HS20.out.2.2.2.2.2.2.2.2.2.1).facts.1
        have hf9 := (HS20.out.2.2.2.2.2.2.2.2.2.1).facts.2
        have hz9 := (HS20.out.2.2.2.2.2.2.2.2.2.1).lt
        have hc11 := (HS20.out.2.2.2.2.2.2.2.2.2.2.2.1).facts.1
        have hf11 := (HS20.out.2.2.2.2.2.2.2.2.2.2.2.1).facts.2
        have hz11 := (HS20.out.2.2.2.2.2.2.2.2.2.2.2.1).lt
        go_wp2_with fail
        clear hc0 hf0 hz0
        clear hc1 hf1 hz1
        clear hc3 hf3 hz3
        clear hc5 hf5 hz5
        clear hc7 hf7 hz7
        clear hc9 hf9 hz9
        clear hc11 hf11 hz11
        refine (heldChain_marks (sn) 1 (ss.length) _ _ _ HS20.out.2.2.2.2.2.2.2.2.1.holds (by omega)).mono ?_
        rintro e w21 ⟨rfl, hb⟩
        have z21 : w20.heap.size ≤ w21.heap.size := hb.size
        have HS21 : Hid (Whole w21 w.heap.size 24 #[.int .i64 sn, .slice ao_ss ss.length c_ss] ∧ Whole w21 (w.heap.size + 1) 24 #[.int .i64 tn, .slice ao_us us.length c_us] ∧ Row w21 w3.heap.size w4.heap.size aos (fl .f32 (canL ss.length (joiG sn.toNat ss us))) ∧ Whole w21 gN4 27 #[.int .i64 sn, .slice aos ss.length ccs] ∧ Row w21 w4.heap.size w5.heap.size aoX_ss (fl .f32 (fmarks 1 ss.length)) ∧ Whole w21 w5.heap.size 27 #[.int .i64 sn, .slice aoX_ss ss.length ss.length] ∧ Row w21 w6.heap.size w7.heap.size aoX_us (fl .f32 (fmarks (1 + ss.length) us.length)) ∧ Whole w21 w7.heap.size 27 #[.int .i64 tn, .slice aoX_us us.length us.length] ∧ Row w21 w8.heap.size w9.heap.size aog (fl .f32 (fmarks 1 ss.length)) ∧ Whole w21 w9.heap.size 27 #[.int .i64 sn, .slice aog ss.length ccg] ∧ Row w21 w18.heap.size w19.heap.size aoh (fl .f32 (canL ss.length (joiG sn.toNat ss us))) ∧ Whole w21 gN19 27 #[.int .i64 sn, .slice aoh ss.length cch] ∧ Below w.heap.size w w21) := Lib.hid ⟨HS20.out.1.below hb, HS20.out.2.1.below hb, HS20.out.2.2.1.below hb, HS20.out.2.2.2.1.below hb, HS20.out.2.2.2.2.1.below hb, HS20.out.2.2.2.2.2.1.below hb, HS20.out.2.2.2.2.2.2.1.below hb, HS20.out.2.2.2.2.2.2.2.1.below hb, HS20.out.2.2.2.2.2.2.2.2.1.below hb, HS20.out.2.2.2.2.2.2.2.2.2.1.below hb, HS20.out.2.2.2.2.2.2.2.2.2.2.1.below hb, HS20.out.2.2.2.2.2.2.2.2.2.2.2.1.below hb, Bel_next HS20.out.2.2.2.2.2.2.2.2.2.2.2.2 hb⟩
        clear HS20 hb
        have hc0 := (HS21.out.1).facts.1
        have hf0 := (HS21.out.1).facts.2
        have hz0 := (HS21.out.1).lt
        have hc1 := (HS21.out.2.1).facts.1
        have hf1 := (HS21.out.2.1).facts.2
        have hz1 := (HS21.out.2.1).lt
        have hc3 := (HS21.out.2.2.2.1).facts.1
        have hf3 := (HS21.out.2.2.2.1).facts.2
        have hz3 := (HS21.out.2.2.2.1).lt
        have hc5 := (HS21.out.2.2.2.2.2.1).facts.1
        have hf5 := (HS21.out.2.2.2.2.2.1).facts.2
        have hz5 := (HS21.out.2.2.2.2.2.1).lt
        have hc7 := (HS21.out.2.2.2.2.2.2.2.1).facts.1
        have hf7 := (HS21.out.2.2.2.2.2.2.2.1).facts.2
        have hz7 := (HS21.out.2.2.2.2.2.2.2.1).lt
        have hc9 := (HS21.out.2.2.2.2.2.2.2.2.2.1).facts.1
        have hf9 := (HS21.out.2.2.2.2.2.2.2.2.2.1).facts.2
        have hz9 := (HS21.out.2.2.2.2.2.2.2.2.2.1).lt
        have hc11 := (HS21.out.2.2.2.2.2.2.2.2.2.2.2.1).facts.1
        have hf11 := (HS21.out.2.2.2.2.2.2.2.2.2.2.2.1).facts.2
        have hz11 := (HS21.out.2.2.2.2.2.2.2.2.2.2.2.1).lt
        go_wp2_with fail
        clear hc0 hf0 hz0
        clear hc1 hf1 hz1
        clear hc3 hf3 hz3
        clear hc5 hf5 hz5
        clear hc7 hf7 hz7
        clear hc9 hf9 hz9
        clear hc11 hf11 hz11
        go_ret
        exact ⟨rfl, Bel_next HS21.out.2.2.2.2.2.2.2.2.2.2.2.2 (by repeat (first | with_reducible exact Below.refl _ _ | with_reducible refine Below.drew ?_ | with_reducible refine Bel_drewN ?_ _ | with_reducible refine Below.alloc ?_ (by first | omega | (simp; done) | (simp; omega)) _ | with_reducible refine Below.setCell ?_ (by first | omega | (simp; done) | (simp; omega)) _))⟩
  have HV := Lib.hid hv0
  clear hv0
  go_enter Try.func10, Try.ntmps10
  have HS0 : Hid (Below w.heap.size w w) := Lib.hid (Below.refl _ _)
  go_wp2_with fail
  generalize hW : World.alloc (World.alloc w _) _ = w1
  have hb : Below w.heap.size w w1 := by rw [← hW]; exact (by repeat (first | with_reducible exact Below.refl _ _ | with_reducible refine Below.drew ?_ | with_reducible refine Bel_drewN ?_ _ | with_reducible refine Below.alloc ?_ (by first | omega | (simp; done) | (simp; omega)) _ | with_reducible refine Below.setCell ?_ (by first | omega | (simp; done) | (simp; omega)) _))
  have z1 : w.heap.size + 2 ≤ w1.heap.size := by rw [← hW]; simp
  have HS1 : Hid (Whole w1 w.heap.size 24 #[.int .i64 sn, .slice ao_ss ss.length c_ss] ∧ Whole w1 (w.heap.size + 1) 24 #[.int .i64 tn, .slice ao_us us.length c_us] ∧ Below w.heap.size w w1) := Lib.hid ⟨by rw [← hW]; exact (Whole.made _ _ _).alloc _, by rw [← hW]; exact Whole.made2 _ _ _ _, Bel_next HS0.out hb⟩
  clear HS0 hW hb
  refine (szChain_yes sn ss _ _ (1048576) _ HL0.out (by omega)).mono ?_
  rintro e w2 ⟨rfl, hb⟩
  have z2 : w1.heap.size ≤ w2.heap.size := hb.size
  have HS2 : Hid (Whole w2 w.heap.size 24 #[.int .i64 sn, .slice ao_ss ss.length c_ss] ∧ Whole w2 (w.heap.size + 1) 24 #[.int .i64 tn, .slice ao_us us.length c_us] ∧ Below w.heap.size w w2) := Lib.hid ⟨HS1.out.1.below hb, HS1.out.2.1.below hb, Bel_next HS1.out.2.2 hb⟩
  clear HS1 hb
  have hc0 := (HS2.out.1).facts.1
  have hf0 := (HS2.out.1).facts.2
  have hz0 := (HS2.out.1).lt
  have hc1 := (HS2.out.2.1).facts.1
  have hf1 := (HS2.out.2.1).facts.2
  have hz1 := (HS2.out.2.1).lt
  go_wp2_with fail
  clear hc0 hf0 hz0
  clear hc1 hf1 hz1
  refine (szChain_yes tn us _ _ (1048576 - (ss.length)) _ HL1.out (by omega)).mono ?_
  rintro e w3 ⟨rfl, hb⟩
  have z3 : w2.heap.size ≤ w3.heap.size := hb.size
  have HS3 : Hid (Whole w3 w.heap.size 24 #[.int .i64 sn, .slice ao_ss ss.length c_ss] ∧ Whole w3 (w.heap.size + 1) 24 #[.int .i64 tn, .slice ao_us us.length c_us] ∧ Below w.heap.size w w3) := Lib.hid ⟨HS2.out.1.below hb, HS2.out.2.1.below hb, Bel_next HS2.out.2.2 hb⟩
  clear HS2 hb
  have hc0 := (HS3.out.1).facts.1
  have hf0 := (HS3.out.1).facts.2
  have hz0 := (HS3.out.1).lt
  have hc1 := (HS3.out.2.1).facts.1
  have hf1 := (HS3.out.2.1).facts.2
  have hz1 := (HS3.out.2.1).lt
  go_wp2_with fail
  clear hc0 hf0 hz0
  clear hc1 hf1 hz1
  have HK : Hid (∀ v v' : World, (v.cell? ⟨w.heap.size, 0, none⟩ = some (.int .i64 sn) ∧ v.cell? ⟨w.heap.size, 1, none⟩ = some (.slice ao_ss ss.length c_ss) ∧ v.cell? ⟨(w.heap.size + 1), 0, none⟩ = some (.int .i64 tn) ∧ v.cell? ⟨(w.heap.size + 1), 1, none⟩ = some (.slice ao_us us.length c_us) ∧ w3.heap.size ≤ v.heap.size ∧ Whole v w.heap.size 24 #[.int .i64 sn, .slice ao_ss ss.length c_ss] ∧ Whole v (w.heap.size + 1) 24 #[.int .i64 tn, .slice ao_us us.length c_us] ∧ Below w.heap.size w v) → Below v.heap.size v v' → (v'.cell? ⟨w.heap.size, 0, none⟩ = some (.int .i64 sn) ∧ v'.cell? ⟨w.heap.size, 1, none⟩ = some (.slice ao_ss ss.length c_ss) ∧ v'.cell? ⟨(w.heap.size + 1), 0, none⟩ = some (.int .i64 tn) ∧ v'.cell? ⟨(w.heap.size + 1), 1, none⟩ = some (.slice ao_us us.length c_us) ∧ w3.heap.size ≤ v'.heap.size ∧ Whole v' w.heap.size 24 #[.int .i64 sn, .slice ao_ss ss.length c_ss] ∧ Whole v' (w.heap.size + 1) 24 #[.int .i64 tn, .slice ao_us us.length c_us] ∧ Below w.heap.size w v')) := Lib.hid (fun v v' h hb => ⟨(by rw [Below.cell hb (World.block_lt_of_cell? _ _ h.1)]; exact h.1), (by rw [Below.cell hb (World.block_lt_of_cell? _ _ h.2.1)]; exact h.2.1), (by rw [Below.cell hb (World.block_lt_of_cell? _ _ h.2.2.1)]; exact h.2.2.1), (by rw [Below.cell hb (World.block_lt_of_cell? _ _ h.2.2.2.1)]; exact h.2.2.2.1), Nat.le_trans h.2.2.2.2.1 hb.size, h.2.2.2.2.2.1.below hb, h.2.2.2.2.2.2.1.below hb, Bel_next h.2.2.2.2.2.2.2 hb⟩)
  have HP : Hid (∀ v : World, (v.cell? ⟨w.heap.size, 0, none⟩ = some (.int .i64 sn) ∧ v.cell? ⟨w.heap.size, 1, none⟩ = some (.slice ao_ss ss.length c_ss) ∧ v.cell? ⟨(w.heap.size + 1), 0, none⟩ = some (.int .i64 tn) ∧ v.cell? ⟨(w.heap.size + 1), 1, none⟩ = some (.slice ao_us us.length c_us) ∧ w3.heap.size ≤ v.heap.size ∧ Whole v w.heap.size 24 #[.int .i64 sn, .slice ao_ss ss.length c_ss] ∧ Whole v (w.heap.size + 1) 24 #[.int .i64 tn, .slice ao_us us.length c_us] ∧ Below w.heap.size w v) → (Whole v w.heap.size 24 #[.int .i64 sn, .slice ao_ss ss.length c_ss] ∧ Whole v (w.heap.size + 1) 24 #[.int .i64 tn, .slice ao_us us.length c_us] ∧ Below w.heap.size w v)) := Lib.hid (fun v h => h.2.2.2.2.2)
  have hR : w3.cell? ⟨w.heap.size, 0, none⟩ = some (.int .i64 sn) ∧ w3.cell? ⟨w.heap.size, 1, none⟩ = some (.slice ao_ss ss.length c_ss) ∧ w3.cell? ⟨(w.heap.size + 1), 0, none⟩ = some (.int .i64 tn) ∧ w3.cell? ⟨(w.heap.size + 1), 1, none⟩ = some (.slice ao_us us.length c_us) ∧ w3.heap.size ≤ w3.heap.size ∧ Whole w3 w.heap.size 24 #[.int .i64 sn, .slice ao_ss ss.length c_ss] ∧ Whole w3 (w.heap.size + 1) 24 #[.int .i64 tn, .slice ao_us us.length c_us] ∧ Below w.heap.size w w3 := ⟨(HS3.out.1).cell 0, (HS3.out.1).cell 1, (HS3.out.2.1).cell 0, (HS3.out.2.1).cell 1, Nat.le_refl _, HS3.out.1, HS3.out.2.1, HS3.out.2.2⟩
  have HK2 : Hid (∀ (v : World) (q : Addr) (u : Value), (v.cell? ⟨w.heap.size, 0, none⟩ = some (.int .i64 sn) ∧ v.cell? ⟨w.heap.size, 1, none⟩ = some (.slice ao_ss ss.length c_ss) ∧ v.cell? ⟨(w.heap.size + 1), 0, none⟩ = some (.int .i64 tn) ∧ v.cell? ⟨(w.heap.size + 1), 1, none⟩ = some (.slice ao_us us.length c_us) ∧ w3.heap.size ≤ v.heap.size ∧ Whole v w.heap.size 24 #[.int .i64 sn, .slice ao_ss ss.length c_ss] ∧ Whole v (w.heap.size + 1) 24 #[.int .i64 tn, .slice ao_us us.length c_us] ∧ Below w.heap.size w v) → w3.heap.size ≤ q.block → ((v.setCell q u).cell? ⟨w.heap.size, 0, none⟩ = some (.int .i64 sn) ∧ (v.setCell q u).cell? ⟨w.heap.size, 1, none⟩ = some (.slice ao_ss ss.length c_ss) ∧ (v.setCell q u).cell? ⟨(w.heap.size + 1), 0, none⟩ = some (.int .i64 tn) ∧ (v.setCell q u).cell? ⟨(w.heap.size + 1), 1, none⟩ = some (.slice ao_us us.length c_us) ∧ w3.heap.size ≤ (v.setCell q u).heap.size ∧ Whole (v.setCell q u) w.heap.size 24 #[.int .i64 sn, .slice ao_ss ss.length c_ss] ∧ Whole (v.setCell q u) (w.heap.size + 1) 24 #[.int .i64 tn, .slice ao_us us.length c_us] ∧ Below w.heap.size w (v.setCell q u))) := Lib.hid (fun v q u h hq => ⟨((World.cell?_of_block (a := ⟨w.heap.size, 0, none⟩) (Below.heap_setCell v q u _ (by show ¬ _ = _; simp only []; omega))).trans h.1), ((World.cell?_of_block (a := ⟨w.heap.size, 1, none⟩) (Below.heap_setCell v q u _ (by show ¬ _ = _; simp only []; omega))).trans h.2.1), ((World.cell?_of_block (a := ⟨(w.heap.size + 1), 0, none⟩) (Below.heap_setCell v q u _ (by show ¬ _ = _; simp only []; omega))).trans h.2.2.1), ((World.cell?_of_block (a := ⟨(w.heap.size + 1), 1, none⟩) (Below.heap_setCell v q u _ (by show ¬ _ = _; simp only []; omega))).trans h.2.2.2.1), (by simpa using h.2.2.2.2.1), h.2.2.2.2.2.1.far (by omega) _, h.2.2.2.2.2.2.1.far (by omega) _, Below.setCell h.2.2.2.2.2.2.2 (by omega) _⟩)
  go_cut [6, 7] from 17 (fun s0 s1 wx => ∃ (gN : Nat), s0 = .pointer (some ⟨gN, 0, none⟩) ∧ s1 = .bool false ∧ w3.heap.size ≤ gN ∧ Whole wx gN 27 #[.int .i64 0, .slice none 0 0] ∧ Whole wx w.heap.size 24 #[.int .i64 sn, .slice ao_ss ss.length c_ss] ∧ Whole wx (w.heap.size + 1) 24 #[.int .i64 tn, .slice ao_us us.length c_us] ∧ Below w.heap.size w wx)
  case first =>
    go_region_held3 (fun v => v.cell? ⟨w.heap.size, 0, none⟩ = some (.int .i64 sn) ∧ v.cell? ⟨w.heap.size, 1, none⟩ = some (.slice ao_ss ss.length c_ss) ∧ v.cell? ⟨(w.heap.size + 1), 0, none⟩ = some (.int .i64 tn) ∧ v.cell? ⟨(w.heap.size + 1), 1, none⟩ = some (.slice ao_us us.length c_us) ∧ w3.heap.size ≤ v.heap.size ∧ Whole v w.heap.size 24 #[.int .i64 sn, .slice ao_ss ss.length c_ss] ∧ Whole v (w.heap.size + 1) 24 #[.int .i64 tn, .slice ao_us us.length c_us] ∧ Below w.heap.size w v)
      (first | with_reducible assumption | with_reducible exact HSv2.out | with_reducible exact HSv1.out | with_reducible exact HSv0.out | ((with_reducible refine HK.out _ _ HSv2.out ?_); (repeat (first | with_reducible exact Below.refl _ _ | with_reducible refine Below.drew ?_ | with_reducible refine Bel_drewN ?_ _ | with_reducible refine Below.alloc ?_ (by first | omega | (simp; done) | (simp; omega)) _ | with_reducible refine Below.setCell ?_ (by first | omega | (simp; done) | (simp; omega)) _)); done) | ((with_reducible refine HK.out _ _ HSv1.out ?_); (repeat (first | with_reducible exact Below.refl _ _ | with_reducible refine Below.drew ?_ | with_reducible refine Bel_drewN ?_ _ | with_reducible refine Below.alloc ?_ (by first | omega | (simp; done) | (simp; omega)) _ | with_reducible refine Below.setCell ?_ (by first | omega | (simp; done) | (simp; omega)) _)); done) | ((with_reducible refine HK.out _ _ HSv0.out ?_); (repeat (first | with_reducible exact Below.refl _ _ | with_reducible refine Below.drew ?_ | with_reducible refine Bel_drewN ?_ _ | with_reducible refine Below.alloc ?_ (by first | omega | (simp; done) | (simp; omega)) _ | with_reducible refine Below.setCell ?_ (by first | omega | (simp; done) | (simp; omega)) _)); done) | ((with_reducible refine HK.out w3 _ hR ?_); (repeat (first | with_reducible exact Below.refl _ _ | with_reducible refine Below.drew ?_ | with_reducible refine Bel_drewN ?_ _ | with_reducible refine Below.alloc ?_ (by first | omega | (simp; done) | (simp; omega)) _ | with_reducible refine Below.setCell ?_ (by first | omega | (simp; done) | (simp; omega)) _)); done) | ((with_reducible refine HK2.out _ _ _ HSv2.out ?_) <;> (first | omega | (simp; done) | (simp; omega))) | ((with_reducible refine HK2.out _ _ _ (HK2.out _ _ _ HSv2.out ?_) ?_) <;> (first | omega | (simp; done) | (simp; omega))) | exact HK.out _ _ (by with_reducible assumption) (by with_reducible assumption))
      (first | (go_at_call 17; (with_reducible (refine (toChain_any sn ss _ _ _ (Holds.below HX_ss.out (HP.out _ (by assumption)).2.2) hn_ss).mono ?_)); rintro e wt0 ⟨aosd_ss, rfl, rowsd_ss, hbt0⟩; have zz0 := hbt0.size; (try simp at zz0); have HSv0 := Lib.hid (HK.out _ _ (by with_reducible assumption) hbt0); obtain ⟨kc0, kf0⟩ := cells_kept hbt0; (try have zt0_0 : w3.heap.size < wt0.heap.size := by omega)) | (go_at_call 17; (with_reducible (refine (toChain_any tn us _ _ _ (Holds.below HX_us.out (HP.out _ (by assumption)).2.2) hn_us).mono ?_)); rintro e wt1 ⟨aosd_us, rfl, rowsd_us, hbt1⟩; have zz1 := hbt1.size; (try simp at zz1); have HSv1 := Lib.hid (HK.out _ _ (by with_reducible assumption) hbt1); obtain ⟨kc1, kf1⟩ := cells_kept hbt1; (try have zt1_0 : w3.heap.size < wt1.heap.size := by omega); (try have zt1_1 : wt0.heap.size < wt1.heap.size := by omega)) | (go_at_call 38; refine (specJoi_not sn tn ss us _ _ rfl rfl _ _ _ _ _ (by first | exact ((Row.below rowsd_ss (by first | exact hbt1 | exact Bel_next (Below.refl _ _).drew hbt1 | (refine Bel_next ?_ hbt1; (repeat (first | with_reducible exact Below.refl _ _ | with_reducible refine Below.drew ?_ | with_reducible refine Bel_drewN ?_ _ | with_reducible refine Below.alloc ?_ (by first | omega | (simp; done) | (simp; omega)) _ | with_reducible refine Below.setCell ?_ (by first | omega | (simp; done) | (simp; omega)) _)); done)))).holds | (refine (Row.below (Row.below rowsd_ss (by first | exact hbt1 | exact Bel_next (Below.refl _ _).drew hbt1 | (refine Bel_next ?_ hbt1; (repeat (first | with_reducible exact Below.refl _ _ | with_reducible refine Below.drew ?_ | with_reducible refine Bel_drewN ?_ _ | with_reducible refine Below.alloc ?_ (by first | omega | (simp; done) | (simp; omega)) _ | with_reducible refine Below.setCell ?_ (by first | omega | (simp; done) | (simp; omega)) _)); done))) ?_).holds; (repeat (first | with_reducible exact Below.refl _ _ | with_reducible refine Below.drew ?_ | with_reducible refine Bel_drewN ?_ _ | with_reducible refine Below.alloc ?_ (by first | omega | (simp; done) | (simp; omega)) _ | with_reducible refine Below.setCell ?_ (by first | omega | (simp; done) | (simp; omega)) _)); done)) (by first | exact (rowsd_us).holds | (refine (Row.below rowsd_us ?_).holds; (repeat (first | with_reducible exact Below.refl _ _ | with_reducible refine Below.drew ?_ | with_reducible refine Bel_drewN ?_ _ | with_reducible refine Below.alloc ?_ (by first | omega | (simp; done) | (simp; omega)) _ | with_reducible refine Below.setCell ?_ (by first | omega | (simp; done) | (simp; omega)) _)); done)) hn_ss hn_us HV.out).mono ?_; rintro e w4 ⟨rfl, hb⟩; have zz2 := hb.size; (try simp at zz2); have HSv2 := Lib.hid (HK.out _ _ (by with_reducible assumption) hb); obtain ⟨kc2, kf2⟩ := cells_kept hb; (try have zt2_0 : w3.heap.size < w4.heap.size := by omega); (try have zt2_1 : wt0.heap.size < w4.heap.size := by omega); (try have zt2_2 : wt1.heap.size < w4.heap.size := by omega)))
    all_goals
      go_wp2_with fail
      go_meet
      refine ⟨_, rfl, rfl, ?_, ?_, ?_⟩
      · first | omega | (simp; done) | (simp; omega)
      · first | exact Whole.made _ _ _ | (have hq := (((Whole.made _ _ _).below hbt0).below hbt1).below hb; exact ((hq).put 0 _).put 1 _) | (have hq := ((((Whole.made _ _ _).drew).below hbt0).below hbt1).below hb; exact ((hq).put 0 _).put 1 _) | (have hq := ((Whole.made _ _ _).below hbt1).below hb; exact ((hq).put 0 _).put 1 _) | (have hq := (Whole.made _ _ _).below hb; exact ((hq).put 0 _).put 1 _)
      · first | (refine HP.out _ (HK.out _ _ HSv2.out ?_); (repeat (first | with_reducible exact Below.refl _ _ | with_reducible refine Below.drew ?_ | with_reducible refine Bel_drewN ?_ _ | with_reducible refine Below.alloc ?_ (by first | omega | (simp; done) | (simp; omega)) _ | with_reducible refine Below.setCell ?_ (by first | omega | (simp; done) | (simp; omega)) _)); done) | exact HP.out _ (HK2.out _ _ _ (HK2.out _ _ _ HSv2.out (by first | omega | (simp; done) | (simp; omega))) (by first | omega | (simp; done) | (simp; omega)))
  case rest =>
    obtain ⟨gN, rfl, rfl, hle, hW, hS⟩ := hcut
    rename World => w4
    have z4 : w3.heap.size ≤ w4.heap.size := by have := hW.lt; omega
    obtain ⟨gN4, hgN⟩ : ∃ g, g = gN := ⟨_, rfl⟩
    subst hgN
    have ygN4 : gN4 < w4.heap.size := hW.lt
    have xgN4 : w3.heap.size ≤ gN4 := hle
    have HS4 : Hid (Whole w4 w.heap.size 24 #[.int .i64 sn, .slice ao_ss ss.length c_ss] ∧ Whole w4 (w.heap.size + 1) 24 #[.int .i64 tn, .slice ao_us us.length c_us] ∧ Whole w4 gN4 27 #[.int .i64 0, .slice none 0 0] ∧ Below w.heap.size w w4) := Lib.hid ⟨hS.1, hS.2.1, hW, hS.2.2⟩
    clear HS3 HK HP HK2 hR hle hW hS
    have hc0 := (HS4.out.1).facts.1
    have hf0 := (HS4.out.1).facts.2
    have hz0 := (HS4.out.1).lt
    have hc1 := (HS4.out.2.1).facts.1
    have hf1 := (HS4.out.2.1).facts.2
    have hz1 := (HS4.out.2.1).lt
    have hc2 := (HS4.out.2.2.1).facts.1
    have hf2 := (HS4.out.2.2.1).facts.2
    have hz2 := (HS4.out.2.2.1).lt
    go_wp2_with fail
    clear hc0 hf0 hz0
    clear hc1 hf1 hz1
    clear hc2 hf2 hz2
    refine (toChain_any sn ss _ _ _ (Holds.below HX_ss.out HS4.out.2.2.2) hn_ss).mono ?_
    rintro e w5 ⟨aoX_ss, rfl, rowX_ss, hb⟩
    have z5 : w4.heap.size ≤ w5.heap.size := hb.size
    have HS5 : Hid (Whole w5 w.heap.size 24 #[.int .i64 sn, .slice ao_ss ss.length c_ss] ∧ Whole w5 (w.heap.size + 1) 24 #[.int .i64 tn, .slice ao_us us.length c_us] ∧ Whole w5 gN4 27 #[.int .i64 0, .slice none 0 0] ∧ Row w5 w4.heap.size w5.heap.size aoX_ss (fl .f32 ss) ∧ Below w.heap.size w w5) := Lib.hid ⟨HS4.out.1.below hb, HS4.out.2.1.below hb, HS4.out.2.2.1.below hb, rowX_ss, Bel_next HS4.out.2.2.2 hb⟩
    clear HS4 hb rowX_ss
    have hc0 := (HS5.out.1).facts.1
    have hf0 := (HS5.out.1).facts.2
    have hz0 := (HS5.out.1).lt
    have hc1 := (HS5.out.2.1).facts.1
    have hf1 := (HS5.out.2.1).facts.2
    have hz1 := (HS5.out.2.1).lt
    have hc2 := (HS5.out.2.2.1).facts.1
    have hf2 := (HS5.out.2.2.1).facts.2
    have hz2 := (HS5.out.2.2.1).lt
    go_wp2_with fail
    clear hc0 hf0 hz0
    clear hc1 hf1 hz1
    clear hc2 hf2 hz2
    generalize hW : World.alloc w5 _ = w6
    have hb : Below w5.heap.size w5 w6 := by rw [← hW]; exact (by repeat (first | with_reducible exact Below.refl _ _ | with_reducible refine Below.drew ?_ | with_reducible refine Bel_drewN ?_ _ | with_reducible refine Below.alloc ?_ (by first | omega | (simp; done) | (simp; omega)) _ | with_reducible refine Below.setCell ?_ (by first | omega | (simp; done) | (simp; omega)) _))
    have z6 : w5.heap.size + 1 ≤ w6.heap.size := by rw [← hW]; simp
    have HS6 : Hid (Whole w6 w.heap.size 24 #[.int .i64 sn, .slice ao_ss ss.length c_ss] ∧ Whole w6 (w.heap.size + 1) 24 #[.int .i64 tn, .slice ao_us us.length c_us] ∧ Whole w6 gN4 27 #[.int .i64 0, .slice none 0 0] ∧ Row w6 w4.heap.size w5.heap.size aoX_ss (fl .f32 ss) ∧ Whole w6 w5.heap.size 27 #[.int .i64 sn, .slice aoX_ss ss.length ss.length] ∧ Below w.heap.size w w6) := Lib.hid ⟨HS5.out.1.below hb, HS5.out.2.1.below hb, HS5.out.2.2.1.below hb, HS5.out.2.2.2.1.below hb, by rw [← hW]; exact Whole.made _ _ _, Bel_next HS5.out.2.2.2.2 hb⟩
    clear HS5 hW hb
    refine (toChain_any tn us _ _ _ (Holds.below HX_us.out HS6.out.2.2.2.2.2) hn_us).mono ?_
    rintro e w7 ⟨aoX_us, rfl, rowX_us, hb⟩
    have z7 : w6.heap.size ≤ w7.heap.size := hb.size
    have HS7 : Hid (Whole w7 w.heap.size 24 #[.int .i64 sn, .slice ao_ss ss.length c_ss] ∧ Whole w7 (w.heap.size + 1) 24 #[.int .i64 tn, .slice ao_us us.length c_us] ∧ Whole w7 gN4 27 #[.int .i64 0, .slice none 0 0] ∧ Row w7 w4.heap.size w5.heap.size aoX_ss (fl .f32 ss) ∧ Whole w7 w5.heap.size 27 #[.int .i64 sn, .slice aoX_ss ss.length ss.length] ∧ Row w7 w6.heap.size w7.heap.size aoX_us (fl .f32 us) ∧ Below w.heap.size w w7) := Lib.hid ⟨HS6.out.1.below hb, HS6.out.2.1.below hb, HS6.out.2.2.1.below hb, HS6.out.2.2.2.1.below hb, HS6.out.2.2.2.2.1.below hb, rowX_us, Bel_next HS6.out.2.2.2.2.2 hb⟩
    clear HS6 hb rowX_us
    have hc0 := (HS7.out.1).facts.1
    have hf0 := (HS7.out.1).facts.2
    have hz0 := (HS7.out.1).lt
    have hc1 := (HS7.out.2.1).facts.1
    have hf1 := (HS7.out.2.1).facts.2
    have hz1 := (HS7.out.2.1).lt
    have hc2 := (HS7.out.2.2.1).facts.1
    have hf2 := (HS7.out.2.2.1).facts.2
    have hz2 := (HS7.out.2.2.1).lt
    have hc4 := (HS7.out.2.2.2.2.1).facts.1
    have hf4 := (HS7.out.2.2.2.2.1).facts.2
    have hz4 := (HS7.out.2.2.2.2.1).lt
    go_wp2_with fail
    clear hc0 hf0 hz0
    clear hc1 hf1 hz1
    clear hc2 hf2 hz2
    clear hc4 hf4 hz4
    generalize hW : World.alloc w7 _ = w8
    have hb : Below w7.heap.size w7 w8 := by rw [← hW]; exact (by repeat (first | with_reducible exact Below.refl _ _ | with_reducible refine Below.drew ?_ | with_reducible refine Bel_drewN ?_ _ | with_reducible refine Below.alloc ?_ (by first | omega | (simp; done) | (simp; omega)) _ | with_reducible refine Below.setCell ?_ (by first | omega | (simp; done) | (simp; omega)) _))
    have z8 : w7.heap.size + 1 ≤ w8.heap.size := by rw [← hW]; simp
    have HS8 : Hid (Whole w8 w.heap.size 24 #[.int .i64 sn, .slice ao_ss ss.length c_ss] ∧ Whole w8 (w.heap.size + 1) 24 #[.int .i64 tn, .slice ao_us us.length c_us] ∧ Whole w8 gN4 27 #[.int .i64 0, .slice none 0 0] ∧ Row w8 w4.heap.size w5.heap.size aoX_ss (fl .f32 ss) ∧ Whole w8 w5.heap.size 27 #[.int .i64 sn, .slice aoX_ss ss.length ss.length] ∧ Row w8 w6.heap.size w7.heap.size aoX_us (fl .f32 us) ∧ Whole w8 w7.heap.size 27 #[.int .i64 tn, .slice aoX_us us.length us.length] ∧ Below w.heap.size w w8) := Lib.hid ⟨HS7.out.1.below hb, HS7.out.2.1.below hb, HS7.out.2.2.1.below hb, HS7.out.2.2.2.1.below hb, HS7.out.2.2.2.2.1.below hb, HS7.out.2.2.2.2.2.1.below hb, by rw [← hW]; exact Whole.made _ _ _, Bel_next HS7.out.2.2.2.2.2.2 hb⟩
    clear HS7 hW hb
    refine (implJoi_not sn tn ss us _ _ rfl rfl _ _ _ _ _ (HS8.out.2.2.2.1).holds (HS8.out.2.2.2.2.2.1).holds hn_ss hn_us (Nat.le_refl _) (Nat.le_refl _) HV.out).mono ?_
    rintro e w9 ⟨rfl, hb⟩
    have z9 : w8.heap.size ≤ w9.heap.size := hb.size
    have HS9 : Hid (Whole w9 w.heap.size 24 #[.int .i64 sn, .slice ao_ss ss.length c_ss] ∧ Whole w9 (w.heap.size + 1) 24 #[.int .i64 tn, .slice ao_us us.length c_us] ∧ Whole w9 gN4 27 #[.int .i64 0, .slice none 0 0] ∧ Row w9 w4.heap.size w5.heap.size aoX_ss (fl .f32 ss) ∧ Whole w9 w5.heap.size 27 #[.int .i64 sn, .slice aoX_ss ss.length ss.length] ∧ Row w9 w6.heap.size w7.heap.size aoX_us (fl .f32 us) ∧ Whole w9 w7.heap.size 27 #[.int .i64 tn, .slice aoX_us us.length us.length] ∧ Below w.heap.size w w9) := Lib.hid ⟨HS8.out.1.below hb, HS8.out.2.1.below hb, HS8.out.2.2.1.below hb, HS8.out.2.2.2.1.below hb, HS8.out.2.2.2.2.1.below hb, HS8.out.2.2.2.2.2.1.below hb, HS8.out.2.2.2.2.2.2.1.below hb, Bel_next HS8.out.2.2.2.2.2.2.2 hb⟩
    clear HS8 hb
    have HSn : Hid (Whole w9 w.heap.size 24 #[.int .i64 sn, .slice ao_ss ss.length c_ss] ∧ Whole w9 (w.heap.size + 1) 24 #[.int .i64 tn, .slice ao_us us.length c_us] ∧ Whole w9 gN4 27 #[.int .i64 0, .slice none 0 0] ∧ Row w9 w4.heap.size w5.heap.size aoX_ss (fl .f32 ss) ∧ Whole w9 w5.heap.size 27 #[.int .i64 sn, .slice aoX_ss ss.length ss.length] ∧ Row w9 w6.heap.size w7.heap.size aoX_us (fl .f32 us) ∧ Whole w9 w7.heap.size 27 #[.int .i64 tn, .slice aoX_us us.length us.length] ∧ Below w.heap.size w w9) := Lib.hid ⟨HS9.out.1, HS9.out.2.1, HS9.out.2.2.1, HS9.out.2.2.2.1, HS9.out.2.2.2.2.1, HS9.out.2.2.2.2.2.1, HS9.out.2.2.2.2.2.2.1, HS9.out.2.2.2.2.2.2.2⟩
    clear HS9
    have HS9 := HSn
    clear HSn
    have hc0 := (HS9.out.1).facts.1
    have hf0 := (HS9.out.1).facts.2
    have hz0 := (HS9.out.1).lt
    have hc1 := (HS9.out.2.1).facts.1
    have hf1 := (HS9.out.2.1).facts.2
    have hz1 := (HS9.out.2.1).lt
    have hc2 := (HS9.out.2.2.1).facts.1
    have hf2 := (HS9.out.2.2.1).facts.2
    have hz2 := (HS9.out.2.2.1).lt
    have hc4 := (HS9.out.2.2.2.2.1).facts.1
    have hf4 := (HS9.out.2.2.2.2.1).facts.2
    have hz4 := (HS9.out.2.2.2.2.1).lt
    have hc6 := (HS9.out.2.2.2.2.2.2.1).facts.1
    have hf6 := (HS9.out.2.2.2.2.2.2.1).facts.2
    have hz6 := (HS9.out.2.2.2.2.2.2.1).lt
    go_wp2_with fail
    clear hc0 hf0 hz0
    clear hc1 hf1 hz1
    clear hc2 hf2 hz2
    clear hc4 hf4 hz4
    clear hc6 hf6 hz6
    generalize hW : World.alloc w9 _ = w10
    have hb : Below w9.heap.size w9 w10 := by rw [← hW]; exact (by repeat (first | with_reducible exact Below.refl _ _ | with_reducible refine Below.drew ?_ | with_reducible refine Bel_drewN ?_ _ | with_reducible refine Below.alloc ?_ (by first | omega | (simp; done) | (simp; omega)) _ | with_reducible refine Below.setCell ?_ (by first | omega | (simp; done) | (simp; omega)) _))
    have z10 : w9.heap.size + 1 ≤ w10.heap.size := by rw [← hW]; simp
    have HS10 : Hid (Whole w10 w.heap.size 24 #[.int .i64 sn, .slice ao_ss ss.length c_ss] ∧ Whole w10 (w.heap.size + 1) 24 #[.int .i64 tn, .slice ao_us us.length c_us] ∧ Whole w10 gN4 27 #[.int .i64 0, .slice none 0 0] ∧ Row w10 w4.heap.size w5.heap.size aoX_ss (fl .f32 ss) ∧ Whole w10 w5.heap.size 27 #[.int .i64 sn, .slice aoX_ss ss.length ss.length] ∧ Row w10 w6.heap.size w7.heap.size aoX_us (fl .f32 us) ∧ Whole w10 w7.heap.size 27 #[.int .i64 tn, .slice aoX_us us.length us.length] ∧ Whole w10 w9.heap.size 27 #[.int .i64 0, .slice none 0 0] ∧ Below w.heap.size w w10) := Lib.hid ⟨HS9.out.1.below hb, HS9.out.2.1.below hb, HS9.out.2.2.1.below hb, HS9.out.2.2.2.1.below hb, HS9.out.2.2.2.2.1.below hb, HS9.out.2.2.2.2.2.1.below hb, HS9.out.2.2.2.2.2.2.1.below hb, by rw [← hW]; exact Whole.made _ _ _, Bel_next HS9.out.2.2.2.2.2.2.2 hb⟩
    clear HS9 hW hb
    refine (eqChain_same (0) [] 0 rfl _ _ _ _ _ (Holds.nil _ _) (Holds.nil _ _) (by omega)).mono ?_
    rintro e w11 ⟨rfl, hb⟩
    have z11 : w10.heap.size ≤ w11.heap.size := hb.size
    have HS11 : Hid (Whole w11 w.heap.size 24 #[.int .i64 sn, .slice ao_ss ss.length c_ss] ∧ Whole w11 (w.heap.size + 1) 24 #[.int .i64 tn, .slice ao_us us.length c_us] ∧ Whole w11 gN4 27 #[.int .i64 0, .slice none 0 0] ∧ Row w11 w4.heap.size w5.heap.size aoX_ss (fl .f32 ss) ∧ Whole w11 w5.heap.size 27 #[.int .i64 sn, .slice aoX_ss ss.length ss.length] ∧ Row w11 w6.heap.size w7.heap.size aoX_us (fl .f32 us) ∧ Whole w11 w7.heap.size 27 #[.int .i64 tn, .slice aoX_us us.length us.length] ∧ Whole w11 w9.heap.size 27 #[.int .i64 0, .slice none 0 0] ∧ Below w.heap.size w w11) := Lib.hid ⟨HS10.out.1.below hb, HS10.out.2.1.below hb, HS10.out.2.2.1.below hb, HS10.out.2.2.2.1.below hb, HS10.out.2.2.2.2.1.below hb, HS10.out.2.2.2.2.2.1.below hb, HS10.out.2.2.2.2.2.2.1.below hb, HS10.out.2.2.2.2.2.2.2.1.below hb, Bel_next HS10.out.2.2.2.2.2.2.2.2 hb⟩
    clear HS10 hb
    have hc0 := (HS11.out.1).facts.1
    have hf0 := (HS11.out.1).facts.2
    have hz0 := (HS11.out.1).lt
    have hc1 := (HS11.out.2.1).facts.1
    have hf1 := (HS11.out.2.1).facts.2
    have hz1 := (HS11.out.2.1).lt
    have hc2 := (HS11.out.2.2.1).facts.1
    have hf2 := (HS11.out.2.2.1).facts.2
    have hz2 := (HS11.out.2.2.1).lt
    have hc4 := (HS11.out.2.2.2.2.1).facts.1
    have hf4 := (HS11.out.2.2.2.2.1).facts.2
    have hz4 := (HS11.out.2.2.2.2.1).lt
    have hc6 := (HS11.out.2.2.2.2.2.2.1).facts.1
    have hf6 := (HS11.out.2.2.2.2.2.2.1).facts.2
    have hz6 := (HS11.out.2.2.2.2.2.2.1).lt
    have hc7 := (HS11.out.2.2.2.2.2.2.2.1).facts.1
    have hf7 := (HS11.out.2.2.2.2.2.2.2.1).facts.2
    have hz7 := (HS11.out.2.2.2.2.2.2.2.1).lt
    go_wp2_with fail
    clear hc0 hf0 hz0
    clear hc1 hf1 hz1
    clear hc2 hf2 hz2
    clear hc4 hf4 hz4
    clear hc6 hf6 hz6
    clear hc7 hf7 hz7
    have HK : Hid (∀ v v' : World, (v.cell? ⟨w5.heap.size, 0, none⟩ = some (.int .i64 sn) ∧ v.cell? ⟨w5.heap.size, 1, none⟩ = some (.slice aoX_ss ss.length ss.length) ∧ v.cell? ⟨w.heap.size, 0, none⟩ = some (.int .i64 sn) ∧ v.cell? ⟨w.heap.size, 1, none⟩ = some (.slice ao_ss ss.length c_ss) ∧ w11.heap.size ≤ v.heap.size ∧ Whole v w.heap.size 24 #[.int .i64 sn, .slice ao_ss ss.length c_ss] ∧ Whole v (w.heap.size + 1) 24 #[.int .i64 tn, .slice ao_us us.length c_us] ∧ Whole v gN4 27 #[.int .i64 0, .slice none 0 0] ∧ Row v w4.heap.size w5.heap.size aoX_ss (fl .f32 ss) ∧ Whole v w5.heap.size 27 #[.int .i64 sn, .slice aoX_ss ss.length ss.length] ∧ Row v w6.heap.size w7.heap.size aoX_us (fl .f32 us) ∧ Whole v w7.heap.size 27 #[.int .i64 tn, .slice aoX_us us.length us.length] ∧ Whole v w9.heap.size 27 #[.int .i64 0, .slice none 0 0] ∧ Below w.heap.size w v) → Below v.heap.size v v' → (v'.cell? ⟨w5.heap.size, 0, none⟩ = some (.int .i64 sn) ∧ v'.cell? ⟨w5.heap.size, 1, none⟩ = some (.slice aoX_ss ss.length ss.length) ∧ v'.cell? ⟨w.heap.size, 0, none⟩ = some (.int .i64 sn) ∧ v'.cell? ⟨w.heap.size, 1, none⟩ = some (.slice ao_ss ss.length c_ss) ∧ w11.heap.size ≤ v'.heap.size ∧ Whole v' w.heap.size 24 #[.int .i64 sn, .slice ao_ss ss.length c_ss] ∧ Whole v' (w.heap.size + 1) 24 #[.int .i64 tn, .slice ao_us us.length c_us] ∧ Whole v' gN4 27 #[.int .i64 0, .slice none 0 0] ∧ Row v' w4.heap.size w5.heap.size aoX_ss (fl .f32 ss) ∧ Whole v' w5.heap.size 27 #[.int .i64 sn, .slice aoX_ss ss.length ss.length] ∧ Row v' w6.heap.size w7.heap.size aoX_us (fl .f32 us) ∧ Whole v' w7.heap.size 27 #[.int .i64 tn, .slice aoX_us us.length us.length] ∧ Whole v' w9.heap.size 27 #[.int .i64 0, .slice none 0 0] ∧ Below w.heap.size w v')) := Lib.hid (fun v v' h hb => ⟨(by rw [Below.cell hb (World.block_lt_of_cell? _ _ h.1)]; exact h.1), (by rw [Below.cell hb (World.block_lt_of_cell? _ _ h.2.1)]; exact h.2.1), (by rw [Below.cell hb (World.block_lt_of_cell? _ _ h.2.2.1)]; exact h.2.2.1), (by rw [Below.cell hb (World.block_lt_of_cell? _ _ h.2.2.2.1)]; exact h.2.2.2.1), Nat.le_trans h.2.2.2.2.1 hb.size, h.2.2.2.2.2.1.below hb, h.2.2.2.2.2.2.1.below hb, h.2.2.2.2.2.2.2.1.below hb, h.2.2.2.2.2.2.2.2.1.below hb, h.2.2.2.2.2.2.2.2.2.1.below hb, h.2.2.2.2.2.2.2.2.2.2.1.below hb, h.2.2.2.2.2.2.2.2.2.2.2.1.below hb, h.2.2.2.2.2.2.2.2.2.2.2.2.1.below hb, Bel_next h.2.2.2.2.2.2.2.2.2.2.2.2.2 hb⟩)
    have HP : Hid (∀ v : World, (v.cell? ⟨w5.heap.size, 0, none⟩ = some (.int .i64 sn) ∧ v.cell? ⟨w5.heap.size, 1, none⟩ = some (.slice aoX_ss ss.length ss.length) ∧ v.cell? ⟨w.heap.size, 0, none⟩ = some (.int .i64 sn) ∧ v.cell? ⟨w.heap.size, 1, none⟩ = some (.slice ao_ss ss.length c_ss) ∧ w11.heap.size ≤ v.heap.size ∧ Whole v w.heap.size 24 #[.int .i64 sn, .slice ao_ss ss.length c_ss] ∧ Whole v (w.heap.size + 1) 24 #[.int .i64 tn, .slice ao_us us.length c_us] ∧ Whole v gN4 27 #[.int .i64 0, .slice none 0 0] ∧ Row v w4.heap.size w5.heap.size aoX_ss (fl .f32 ss) ∧ Whole v w5.heap.size 27 #[.int .i64 sn, .slice aoX_ss ss.length ss.length] ∧ Row v w6.heap.size w7.heap.size aoX_us (fl .f32 us) ∧ Whole v w7.heap.size 27 #[.int .i64 tn, .slice aoX_us us.length us.length] ∧ Whole v w9.heap.size 27 #[.int .i64 0, .slice none 0 0] ∧ Below w.heap.size w v) → (Whole v w.heap.size 24 #[.int .i64 sn, .slice ao_ss ss.length c_ss] ∧ Whole v (w.heap.size + 1) 24 #[.int .i64 tn, .slice ao_us us.length c_us] ∧ Whole v gN4 27 #[.int .i64 0, .slice none 0 0] ∧ Row v w4.heap.size w5.heap.size aoX_ss (fl .f32 ss) ∧ Whole v w5.heap.size 27 #[.int .i64 sn, .slice aoX_ss ss.length ss.length] ∧ Row v w6.heap.size w7.heap.size aoX_us (fl .f32 us) ∧ Whole v w7.heap.size 27 #[.int .i64 tn, .slice aoX_us us.length us.length] ∧ Whole v w9.heap.size 27 #[.int .i64 0, .slice none 0 0] ∧ Below w.heap.size w v)) := Lib.hid (fun v h => h.2.2.2.2.2)
    have hR : w11.cell? ⟨w5.heap.size, 0, none⟩ = some (.int .i64 sn) ∧ w11.cell? ⟨w5.heap.size, 1, none⟩ = some (.slice aoX_ss ss.length ss.length) ∧ w11.cell? ⟨w.heap.size, 0, none⟩ = some (.int .i64 sn) ∧ w11.cell? ⟨w.heap.size, 1, none⟩ = some (.slice ao_ss ss.length c_ss) ∧ w11.heap.size ≤ w11.heap.size ∧ Whole w11 w.heap.size 24 #[.int .i64 sn, .slice ao_ss ss.length c_ss] ∧ Whole w11 (w.heap.size + 1) 24 #[.int .i64 tn, .slice ao_us us.length c_us] ∧ Whole w11 gN4 27 #[.int .i64 0, .slice none 0 0] ∧ Row w11 w4.heap.size w5.heap.size aoX_ss (fl .f32 ss) ∧ Whole w11 w5.heap.size 27 #[.int .i64 sn, .slice aoX_ss ss.length ss.length] ∧ Row w11 w6.heap.size w7.heap.size aoX_us (fl .f32 us) ∧ Whole w11 w7.heap.size 27 #[.int .i64 tn, .slice aoX_us us.length us.length] ∧ Whole w11 w9.heap.size 27 #[.int .i64 0, .slice none 0 0] ∧ Below w.heap.size w w11 := ⟨(HS11.out.2.2.2.2.1).cell 0, (HS11.out.2.2.2.2.1).cell 1, (HS11.out.1).cell 0, (HS11.out.1).cell 1, Nat.le_refl _, HS11.out.1, HS11.out.2.1, HS11.out.2.2.1, HS11.out.2.2.2.1, HS11.out.2.2.2.2.1, HS11.out.2.2.2.2.2.1, HS11.out.2.2.2.2.2.2.1, HS11.out.2.2.2.2.2.2.2.1, HS11.out.2.2.2.2.2.2.2.2⟩
    go_region_held3 (fun v => v.cell? ⟨w5.heap.size, 0, none⟩ = some (.int .i64 sn) ∧ v.cell? ⟨w5.heap.size, 1, none⟩ = some (.slice aoX_ss ss.length ss.length) ∧ v.cell? ⟨w.heap.size, 0, none⟩ = some (.int .i64 sn) ∧ v.cell? ⟨w.heap.size, 1, none⟩ = some (.slice ao_ss ss.length c_ss) ∧ w11.heap.size ≤ v.heap.size ∧ Whole v w.heap.size 24 #[.int .i64 sn, .slice ao_ss ss.length c_ss] ∧ Whole v (w.heap.size + 1) 24 #[.int .i64 tn, .slice ao_us us.length c_us] ∧ Whole v gN4 27 #[.int .i64 0, .slice none 0 0] ∧ Row v w4.heap.size w5.heap.size aoX_ss (fl .f32 ss) ∧ Whole v w5.heap.size 27 #[.int .i64 sn, .slice aoX_ss ss.length ss.length] ∧ Row v w6.heap.size w7.heap.size aoX_us (fl .f32 us) ∧ Whole v w7.heap.size 27 #[.int .i64 tn, .slice aoX_us us.length us.length] ∧ Whole v w9.heap.size 27 #[.int .i64 0, .slice none 0 0] ∧ Below w.heap.size w v)
      (first | assumption | exact HK.out _ _ (by assumption) (by assumption) | exact HK.out _ _ (by assumption) ((Below.refl _ _).drew) | (refine HK.out _ _ (by assumption) ?_; (repeat (first | with_reducible exact Below.refl _ _ | with_reducible refine Below.drew ?_ | with_reducible refine Bel_drewN ?_ _ | with_reducible refine Below.alloc ?_ (by first | omega | (simp; done) | (simp; omega)) _ | with_reducible refine Below.setCell ?_ (by first | omega | (simp; done) | (simp; omega)) _)); done))
      (first | (go_at_call 17; refine (toChain_any sn ss _ _ _ (Holds.below HX_ss.out (HP.out _ (by assumption)).2.2.2.2.2.2.2.2) hn_ss).mono ?_; rintro e wt ⟨aoY_ss, rfl, rowY_ss, hbt⟩) | (go_at_call 19; refine (eqChain_same sn ss _ rfl _ _ _ _ _ ((HP.out _ (by assumption)).2.2.2.1.holds) (by exact rowY_ss.holds) hn_ss).mono ?_; rintro e w12 ⟨rfl, hb⟩))
    have hN := (HK.out _ _ (HK.out _ _ hR (by first | exact hbt | exact Bel_next (Below.refl _ _).drew hbt | (refine Bel_next ?_ hbt; (repeat (first | with_reducible exact Below.refl _ _ | with_reducible refine Below.drew ?_ | with_reducible refine Bel_drewN ?_ _ | with_reducible refine Below.alloc ?_ (by first | omega | (simp; done) | (simp; omega)) _ | with_reducible refine Below.setCell ?_ (by first | omega | (simp; done) | (simp; omega)) _)); done))) (by first | exact hb | exact Bel_next (Below.refl _ _).drew hb | (refine Bel_next ?_ hb; (repeat (first | with_reducible exact Below.refl _ _ | with_reducible refine Below.drew ?_ | with_reducible refine Bel_drewN ?_ _ | with_reducible refine Below.alloc ?_ (by first | omega | (simp; done) | (simp; omega)) _ | with_reducible refine Below.setCell ?_ (by first | omega | (simp; done) | (simp; omega)) _)); done)))
    have z12 : w11.heap.size ≤ w12.heap.size := hN.2.2.2.2.1
    have HS12 : Hid (Whole w12 w.heap.size 24 #[.int .i64 sn, .slice ao_ss ss.length c_ss] ∧ Whole w12 (w.heap.size + 1) 24 #[.int .i64 tn, .slice ao_us us.length c_us] ∧ Whole w12 gN4 27 #[.int .i64 0, .slice none 0 0] ∧ Row w12 w4.heap.size w5.heap.size aoX_ss (fl .f32 ss) ∧ Whole w12 w5.heap.size 27 #[.int .i64 sn, .slice aoX_ss ss.length ss.length] ∧ Row w12 w6.heap.size w7.heap.size aoX_us (fl .f32 us) ∧ Whole w12 w7.heap.size 27 #[.int .i64 tn, .slice aoX_us us.length us.length] ∧ Whole w12 w9.heap.size 27 #[.int .i64 0, .slice none 0 0] ∧ Below w.heap.size w w12) := Lib.hid ⟨hN.2.2.2.2.2.1, hN.2.2.2.2.2.2.1, hN.2.2.2.2.2.2.2.1, hN.2.2.2.2.2.2.2.2.1, hN.2.2.2.2.2.2.2.2.2.1, hN.2.2.2.2.2.2.2.2.2.2.1, hN.2.2.2.2.2.2.2.2.2.2.2.1, hN.2.2.2.2.2.2.2.2.2.2.2.2.1, hN.2.2.2.2.2.2.2.2.2.2.2.2.2⟩
    clear HS11 hN hR HK HP hb hbt
    clear rowY_ss
    have hc0 := (HS12.out.1).facts.1
    have hf0 := (HS12.out.1).facts.2
    have hz0 := (HS12.out.1).lt
    have hc1 := (HS12.out.2.1).facts.1
    have hf1 := (HS12.out.2.1).facts.2
    have hz1 := (HS12.out.2.1).lt
    have hc2 := (HS12.out.2.2.1).facts.1
    have hf2 := (HS12.out.2.2.1).facts.2
    have hz2 := (HS12.out.2.2.1).lt
    have hc4 := (HS12.out.2.2.2.2.1).facts.1
    have hf4 := (HS12.out.2.2.2.2.1).facts.2
    have hz4 := (HS12.out.2.2.2.2.1).lt
    have hc6 := (HS12.out.2.2.2.2.2.2.1).facts.1
    have hf6 := (HS12.out.2.2.2.2.2.2.1).facts.2
    have hz6 := (HS12.out.2.2.2.2.2.2.1).lt
    have hc7 := (HS12.out.2.2.2.2.2.2.2.1).facts.1
    have hf7 := (HS12.out.2.2.2.2.2.2.2.1).facts.2
    have hz7 := (HS12.out.2.2.2.2.2.2.2.1).lt
    go_wp2_with fail
    clear hc0 hf0 hz0
    clear hc1 hf1 hz1
    clear hc2 hf2 hz2
    clear hc4 hf4 hz4
    clear hc6 hf6 hz6
    clear hc7 hf7 hz7
    have HK : Hid (∀ v v' : World, (v.cell? ⟨w7.heap.size, 0, none⟩ = some (.int .i64 tn) ∧ v.cell? ⟨w7.heap.size, 1, none⟩ = some (.slice aoX_us us.length us.length) ∧ v.cell? ⟨(w.heap.size + 1), 0, none⟩ = some (.int .i64 tn) ∧ v.cell? ⟨(w.heap.size + 1), 1, none⟩ = some (.slice ao_us us.length c_us) ∧ w12.heap.size ≤ v.heap.size ∧ Whole v w.heap.size 24 #[.int .i64 sn, .slice ao_ss ss.length c_ss] ∧ Whole v (w.heap.size + 1) 24 #[.int .i64 tn, .slice ao_us us.length c_us] ∧ Whole v gN4 27 #[.int .i64 0, .slice none 0 0] ∧ Row v w4.heap.size w5.heap.size aoX_ss (fl .f32 ss) ∧ Whole v w5.heap.size 27 #[.int .i64 sn, .slice aoX_ss ss.length ss.length] ∧ Row v w6.heap.size w7.heap.size aoX_us (fl .f32 us) ∧ Whole v w7.heap.size 27 #[.int .i64 tn, .slice aoX_us us.length us.length] ∧ Whole v w9.heap.size 27 #[.int .i64 0, .slice none 0 0] ∧ Below w.heap.size w v) → Below v.heap.size v v' → (v'.cell? ⟨w7.heap.size, 0, none⟩ = some (.int .i64 tn) ∧ v'.cell? ⟨w7.heap.size, 1, none⟩ = some (.slice aoX_us us.length us.length) ∧ v'.cell? ⟨(w.heap.size + 1), 0, none⟩ = some (.int .i64 tn) ∧ v'.cell? ⟨(w.heap.size + 1), 1, none⟩ = some (.slice ao_us us.length c_us) ∧ w12.heap.size ≤ v'.heap.size ∧ Whole v' w.heap.size 24 #[.int .i64 sn, .slice ao_ss ss.length c_ss] ∧ Whole v' (w.heap.size + 1) 24 #[.int .i64 tn, .slice ao_us us.length c_us] ∧ Whole v' gN4 27 #[.int .i64 0, .slice none 0 0] ∧ Row v' w4.heap.size w5.heap.size aoX_ss (fl .f32 ss) ∧ Whole v' w5.heap.size 27 #[.int .i64 sn, .slice aoX_ss ss.length ss.length] ∧ Row v' w6.heap.size w7.heap.size aoX_us (fl .f32 us) ∧ Whole v' w7.heap.size 27 #[.int .i64 tn, .slice aoX_us us.length us.length] ∧ Whole v' w9.heap.size 27 #[.int .i64 0, .slice none 0 0] ∧ Below w.heap.size w v')) := Lib.hid (fun v v' h hb => ⟨(by rw [Below.cell hb (World.block_lt_of_cell? _ _ h.1)]; exact h.1), (by rw [Below.cell hb (World.block_lt_of_cell? _ _ h.2.1)]; exact h.2.1), (by rw [Below.cell hb (World.block_lt_of_cell? _ _ h.2.2.1)]; exact h.2.2.1), (by rw [Below.cell hb (World.block_lt_of_cell? _ _ h.2.2.2.1)]; exact h.2.2.2.1), Nat.le_trans h.2.2.2.2.1 hb.size, h.2.2.2.2.2.1.below hb, h.2.2.2.2.2.2.1.below hb, h.2.2.2.2.2.2.2.1.below hb, h.2.2.2.2.2.2.2.2.1.below hb, h.2.2.2.2.2.2.2.2.2.1.below hb, h.2.2.2.2.2.2.2.2.2.2.1.below hb, h.2.2.2.2.2.2.2.2.2.2.2.1.below hb, h.2.2.2.2.2.2.2.2.2.2.2.2.1.below hb, Bel_next h.2.2.2.2.2.2.2.2.2.2.2.2.2 hb⟩)
    have HP : Hid (∀ v : World, (v.cell? ⟨w7.heap.size, 0, none⟩ = some (.int .i64 tn) ∧ v.cell? ⟨w7.heap.size, 1, none⟩ = some (.slice aoX_us us.length us.length) ∧ v.cell? ⟨(w.heap.size + 1), 0, none⟩ = some (.int .i64 tn) ∧ v.cell? ⟨(w.heap.size + 1), 1, none⟩ = some (.slice ao_us us.length c_us) ∧ w12.heap.size ≤ v.heap.size ∧ Whole v w.heap.size 24 #[.int .i64 sn, .slice ao_ss ss.length c_ss] ∧ Whole v (w.heap.size + 1) 24 #[.int .i64 tn, .slice ao_us us.length c_us] ∧ Whole v gN4 27 #[.int .i64 0, .slice none 0 0] ∧ Row v w4.heap.size w5.heap.size aoX_ss (fl .f32 ss) ∧ Whole v w5.heap.size 27 #[.int .i64 sn, .slice aoX_ss ss.length ss.length] ∧ Row v w6.heap.size w7.heap.size aoX_us (fl .f32 us) ∧ Whole v w7.heap.size 27 #[.int .i64 tn, .slice aoX_us us.length us.length] ∧ Whole v w9.heap.size 27 #[.int .i64 0, .slice none 0 0] ∧ Below w.heap.size w v) → (Whole v w.heap.size 24 #[.int .i64 sn, .slice ao_ss ss.length c_ss] ∧ Whole v (w.heap.size + 1) 24 #[.int .i64 tn, .slice ao_us us.length c_us] ∧ Whole v gN4 27 #[.int .i64 0, .slice none 0 0] ∧ Row v w4.heap.size w5.heap.size aoX_ss (fl .f32 ss) ∧ Whole v w5.heap.size 27 #[.int .i64 sn, .slice aoX_ss ss.length ss.length] ∧ Row v w6.heap.size w7.heap.size aoX_us (fl .f32 us) ∧ Whole v w7.heap.size 27 #[.int .i64 tn, .slice aoX_us us.length us.length] ∧ Whole v w9.heap.size 27 #[.int .i64 0, .slice none 0 0] ∧ Below w.heap.size w v)) := Lib.hid (fun v h => h.2.2.2.2.2)
    have hR : w12.cell? ⟨w7.heap.size, 0, none⟩ = some (.int .i64 tn) ∧ w12.cell? ⟨w7.heap.size, 1, none⟩ = some (.slice aoX_us us.length us.length) ∧ w12.cell? ⟨(w.heap.size + 1), 0, none⟩ = some (.int .i64 tn) ∧ w12.cell? ⟨(w.heap.size + 1), 1, none⟩ = some (.slice ao_us us.length c_us) ∧ w12.heap.size ≤ w12.heap.size ∧ Whole w12 w.heap.size 24 #[.int .i64 sn, .slice ao_ss ss.length c_ss] ∧ Whole w12 (w.heap.size + 1) 24 #[.int .i64 tn, .slice ao_us us.length c_us] ∧ Whole w12 gN4 27 #[.int .i64 0, .slice none 0 0] ∧ Row w12 w4.heap.size w5.heap.size aoX_ss (fl .f32 ss) ∧ Whole w12 w5.heap.size 27 #[.int .i64 sn, .slice aoX_ss ss.length ss.length] ∧ Row w12 w6.heap.size w7.heap.size aoX_us (fl .f32 us) ∧ Whole w12 w7.heap.size 27 #[.int .i64 tn, .slice aoX_us us.length us.length] ∧ Whole w12 w9.heap.size 27 #[.int .i64 0, .slice none 0 0] ∧ Below w.heap.size w w12 := ⟨(HS12.out.2.2.2.2.2.2.1).cell 0, (HS12.out.2.2.2.2.2.2.1).cell 1, (HS12.out.2.1).cell 0, (HS12.out.2.1).cell 1, Nat.le_refl _, HS12.out.1, HS12.out.2.1, HS12.out.2.2.1, HS12.out.2.2.2.1, HS12.out.2.2.2.2.1, HS12.out.2.2.2.2.2.1, HS12.out.2.2.2.2.2.2.1, HS12.out.2.2.2.2.2.2.2.1, HS12.out.2.2.2.2.2.2.2.2⟩
    go_region_held3 (fun v => v.cell? ⟨w7.heap.size, 0, none⟩ = some (.int .i64 tn) ∧ v.cell? ⟨w7.heap.size, 1, none⟩ = some (.slice aoX_us us.length us.length) ∧ v.cell? ⟨(w.heap.size + 1), 0, none⟩ = some (.int .i64 tn) ∧ v.cell? ⟨(w.heap.size + 1), 1, none⟩ = some (.slice ao_us us.length c_us) ∧ w12.heap.size ≤ v.heap.size ∧ Whole v w.heap.size 24 #[.int .i64 sn, .slice ao_ss ss.length c_ss] ∧ Whole v (w.heap.size + 1) 24 #[.int .i64 tn, .slice ao_us us.length c_us] ∧ Whole v gN4 27 #[.int .i64 0, .slice none 0 0] ∧ Row v w4.heap.size w5.heap.size aoX_ss (fl .f32 ss) ∧ Whole v w5.heap.size 27 #[.int .i64 sn, .slice aoX_ss ss.length ss.length] ∧ Row v w6.heap.size w7.heap.size aoX_us (fl .f32 us) ∧ Whole v w7.heap.size 27 #[.int .i64 tn, .slice aoX_us us.length us.length] ∧ Whole v w9.heap.size 27 #[.int .i64 0, .slice none 0 0] ∧ Below w.heap.size w v)
      (first | assumption | exact HK.out _ _ (by assumption) (by assumption) | exact HK.out _ _ (by assumption) ((Below.refl _ _).drew) | (refine HK.out _ _ (by assumption) ?_; (repeat (first | with_reducible exact Below.refl _ _ | with_reducible refine Below.drew ?_ | with_reducible refine Bel_drewN ?_ _ | with_reducible refine Below.alloc ?_ (by first | omega | (simp; done) | (simp; omega)) _ | with_reducible refine Below.setCell ?_ (by first | omega | (simp; done) | (simp; omega)) _)); done))
      (first | (go_at_call 17; refine (toChain_any tn us _ _ _ (Holds.below HX_us.out (HP.out _ (by assumption)).2.2.2.2.2.2.2.2) hn_us).mono ?_; rintro e wt ⟨aoY_us, rfl, rowY_us, hbt⟩) | (go_at_call 19; refine (eqChain_same tn us _ rfl _ _ _ _ _ ((HP.out _ (by assumption)).2.2.2.2.2.1.holds) (by exact rowY_us.holds) hn_us).mono ?_; rintro e w13 ⟨rfl, hb⟩))
    have hN := (HK.out _ _ (HK.out _ _ hR (by first | exact hbt | exact Bel_next (Below.refl _ _).drew hbt | (refine Bel_next ?_ hbt; (repeat (first | with_reducible exact Below.refl _ _ | with_reducible refine Below.drew ?_ | with_reducible refine Bel_drewN ?_ _ | with_reducible refine Below.alloc ?_ (by first | omega | (simp; done) | (simp; omega)) _ | with_reducible refine Below.setCell ?_ (by first | omega | (simp; done) | (simp; omega)) _)); done))) (by first | exact hb | exact Bel_next (Below.refl _ _).drew hb | (refine Bel_next ?_ hb; (repeat (first | with_reducible exact Below.refl _ _ | with_reducible refine Below.drew ?_ | with_reducible refine Bel_drewN ?_ _ | with_reducible refine Below.alloc ?_ (by first | omega | (simp; done) | (simp; omega)) _ | with_reducible refine Below.setCell ?_ (by first | omega | (simp; done) | (simp; omega)) _)); done)))
    have z13 : w12.heap.size ≤ w13.heap.size := hN.2.2.2.2.1
    have HS13 : Hid (Whole w13 w.heap.size 24 #[.int .i64 sn, .slice ao_ss ss.length c_ss] ∧ Whole w13 (w.heap.size + 1) 24 #[.int .i64 tn, .slice ao_us us.length c_us] ∧ Whole w13 gN4 27 #[.int .i64 0, .slice none 0 0] ∧ Row w13 w4.heap.size w5.heap.size aoX_ss (fl .f32 ss) ∧ Whole w13 w5.heap.size 27 #[.int .i64 sn, .slice aoX_ss ss.length ss.length] ∧ Row w13 w6.heap.size w7.heap.size aoX_us (fl .f32 us) ∧ Whole w13 w7.heap.size 27 #[.int .i64 tn, .slice aoX_us us.length us.length] ∧ Whole w13 w9.heap.size 27 #[.int .i64 0, .slice none 0 0] ∧ Below w.heap.size w w13) := Lib.hid ⟨hN.2.2.2.2.2.1, hN.2.2.2.2.2.2.1, hN.2.2.2.2.2.2.2.1, hN.2.2.2.2.2.2.2.2.1, hN.2.2.2.2.2.2.2.2.2.1, hN.2.2.2.2.2.2.2.2.2.2.1, hN.2.2.2.2.2.2.2.2.2.2.2.1, hN.2.2.2.2.2.2.2.2.2.2.2.2.1, hN.2.2.2.2.2.2.2.2.2.2.2.2.2⟩
    clear HS12 hN hR HK HP hb hbt
    clear rowY_us
    have hc0 := (HS13.out.1).facts.1
    have hf0 := (HS13.out.1).facts.2
    have hz0 := (HS13.out.1).lt
    have hc1 := (HS13.out.2.1).facts.1
    have hf1 := (HS13.out.2.1).facts.2
    have hz1 := (HS13.out.2.1).lt
    have hc2 := (HS13.out.2.2.1).facts.1
    have hf2 := (HS13.out.2.2.1).facts.2
    have hz2 := (HS13.out.2.2.1).lt
    have hc4 := (HS13.out.2.2.2.2.1).facts.1
    have hf4 := (HS13.out.2.2.2.2.1).facts.2
    have hz4 := (HS13.out.2.2.2.2.1).lt
    have hc6 := (HS13.out.2.2.2.2.2.2.1).facts.1
    have hf6 := (HS13.out.2.2.2.2.2.2.1).facts.2
    have hz6 := (HS13.out.2.2.2.2.2.2.1).lt
    have hc7 := (HS13.out.2.2.2.2.2.2.2.1).facts.1
    have hf7 := (HS13.out.2.2.2.2.2.2.2.1).facts.2
    have hz7 := (HS13.out.2.2.2.2.2.2.2.1).lt
    go_wp2_with fail
    clear hc0 hf0 hz0
    clear hc1 hf1 hz1
    clear hc2 hf2 hz2
    clear hc4 hf4 hz4
    clear hc6 hf6 hz6
    clear hc7 hf7 hz7
    refine (markChain_row sn 1 _ _ _ _ _ _ HS13.out.2.2.2.1 ((fl_len _ _).trans (rfl)) (by omega)).mono ?_
    rintro e w14 ⟨rfl, row, bt⟩
    have z14 : w13.heap.size ≤ w14.heap.size := bt.size
    have HS14 : Hid (Whole w14 w.heap.size 24 #[.int .i64 sn, .slice ao_ss ss.length c_ss] ∧ Whole w14 (w.heap.size + 1) 24 #[.int .i64 tn, .slice ao_us us.length c_us] ∧ Whole w14 gN4 27 #[.int .i64 0, .slice none 0 0] ∧ Row w14 w4.heap.size w5.heap.size aoX_ss (fl .f32 (fmarks 1 ss.length)) ∧ Whole w14 w5.heap.size 27 #[.int .i64 sn, .slice aoX_ss ss.length ss.length] ∧ Row w14 w6.heap.size w7.heap.size aoX_us (fl .f32 us) ∧ Whole w14 w7.heap.size 27 #[.int .i64 tn, .slice aoX_us us.length us.length] ∧ Whole w14 w9.heap.size 27 #[.int .i64 0, .slice none 0 0] ∧ Below w.heap.size w w14) := Lib.hid ⟨HS13.out.1.buts bt (by omega), HS13.out.2.1.buts bt (by omega), HS13.out.2.2.1.buts bt (by omega), row, HS13.out.2.2.2.2.1.buts bt (by omega), HS13.out.2.2.2.2.2.1.but bt (by omega), HS13.out.2.2.2.2.2.2.1.buts bt (by omega), HS13.out.2.2.2.2.2.2.2.1.buts bt (by omega), bt.bel HS13.out.2.2.2.2.2.2.2.2 (by omega)⟩
    clear HS13 row bt
    have hc0 := (HS14.out.1).facts.1
    have hf0 := (HS14.out.1).facts.2
    have hz0 := (HS14.out.1).lt
    have hc1 := (HS14.out.2.1).facts.1
    have hf1 := (HS14.out.2.1).facts.2
    have hz1 := (HS14.out.2.1).lt
    have hc2 := (HS14.out.2.2.1).facts.1
    have hf2 := (HS14.out.2.2.1).facts.2
    have hz2 := (HS14.out.2.2.1).lt
    have hc4 := (HS14.out.2.2.2.2.1).facts.1
    have hf4 := (HS14.out.2.2.2.2.1).facts.2
    have hz4 := (HS14.out.2.2.2.2.1).lt
    have hc6 := (HS14.out.2.2.2.2.2.2.1).facts.1
    have hf6 := (HS14.out.2.2.2.2.2.2.1).facts.2
    have hz6 := (HS14.out.2.2.2.2.2.2.1).lt
    have hc7 := (HS14.out.2.2.2.2.2.2.2.1).facts.1
    have hf7 := (HS14.out.2.2.2.2.2.2.2.1).facts.2
    have hz7 := (HS14.out.2.2.2.2.2.2.2.1).lt
    go_wp2_with fail
    clear hc0 hf0 hz0
    clear hc1 hf1 hz1
    clear hc2 hf2 hz2
    clear hc4 hf4 hz4
    clear hc6 hf6 hz6
    clear hc7 hf7 hz7
    refine (markChain_row tn (1 + ss.length) _ _ _ _ _ _ HS14.out.2.2.2.2.2.1 ((fl_len _ _).trans (rfl)) (by omega)).mono ?_
    rintro e w15 ⟨rfl, row, bt⟩
    have z15 : w14.heap.size ≤ w15.heap.size := bt.size
    have HS15 : Hid (Whole w15 w.heap.size 24 #[.int .i64 sn, .slice ao_ss ss.length c_ss] ∧ Whole w15 (w.heap.size + 1) 24 #[.int .i64 tn, .slice ao_us us.length c_us] ∧ Whole w15 gN4 27 #[.int .i64 0, .slice none 0 0] ∧ Row w15 w4.heap.size w5.heap.size aoX_ss (fl .f32 (fmarks 1 ss.length)) ∧ Whole w15 w5.heap.size 27 #[.int .i64 sn, .slice aoX_ss ss.length ss.length] ∧ Row w15 w6.heap.size w7.heap.size aoX_us (fl .f32 (fmarks (1 + ss.length) us.length)) ∧ Whole w15 w7.heap.size 27 #[.int .i64 tn, .slice aoX_us us.length us.length] ∧ Whole w15 w9.heap.size 27 #[.int .i64 0, .slice none 0 0] ∧ Below w.heap.size w w15) := Lib.hid ⟨HS14.out.1.buts bt (by omega), HS14.out.2.1.buts bt (by omega), HS14.out.2.2.1.buts bt (by omega), HS14.out.2.2.2.1.but bt (by omega), HS14.out.2.2.2.2.1.buts bt (by omega), row, HS14.out.2.2.2.2.2.2.1.buts bt (by omega), HS14.out.2.2.2.2.2.2.2.1.buts bt (by omega), bt.bel HS14.out.2.2.2.2.2.2.2.2 (by omega)⟩
    clear HS14 row bt
    have hc0 := (HS15.out.1).facts.1
    have hf0 := (HS15.out.1).facts.2
    have hz0 := (HS15.out.1).lt
    have hc1 := (HS15.out.2.1).facts.1
    have hf1 := (HS15.out.2.1).facts.2
    have hz1 := (HS15.out.2.1).lt
    have hc2 := (HS15.out.2.2.1).facts.1
    have hf2 := (HS15.out.2.2.1).facts.2
    have hz2 := (HS15.out.2.2.1).lt
    have hc4 := (HS15.out.2.2.2.2.1).facts.1
    have hf4 := (HS15.out.2.2.2.2.1).facts.2
    have hz4 := (HS15.out.2.2.2.2.1).lt
    have hc6 := (HS15.out.2.2.2.2.2.2.1).facts.1
    have hf6 := (HS15.out.2.2.2.2.2.2.1).facts.2
    have hz6 := (HS15.out.2.2.2.2.2.2.1).lt
    have hc7 := (HS15.out.2.2.2.2.2.2.2.1).facts.1
    have hf7 := (HS15.out.2.2.2.2.2.2.2.1).facts.2
    have hz7 := (HS15.out.2.2.2.2.2.2.2.1).lt
    go_wp2_with fail
    clear hc0 hf0 hz0
    clear hc1 hf1 hz1
    clear hc2 hf2 hz2
    clear hc4 hf4 hz4
    clear hc6 hf6 hz6
    clear hc7 hf7 hz7
    refine (eqChain_same (0) [] 0 rfl _ _ _ _ _ (Holds.nil _ _) (Holds.nil _ _) (by omega)).mono ?_
    rintro e w16 ⟨rfl, hb⟩
    have z16 : w15.heap.size ≤ w16.heap.size := hb.size
    have HS16 : Hid (Whole w16 w.heap.size 24 #[.int .i64 sn, .slice ao_ss ss.length c_ss] ∧ Whole w16 (w.heap.size + 1) 24 #[.int .i64 tn, .slice ao_us us.length c_us] ∧ Whole w16 gN4 27 #[.int .i64 0, .slice none 0 0] ∧ Row w16 w4.heap.size w5.heap.size aoX_ss (fl .f32 (fmarks 1 ss.length)) ∧ Whole w16 w5.heap.size 27 #[.int .i64 sn, .slice aoX_ss ss.length ss.length] ∧ Row w16 w6.heap.size w7.heap.size aoX_us (fl .f32 (fmarks (1 + ss.length) us.length)) ∧ Whole w16 w7.heap.size 27 #[.int .i64 tn, .slice aoX_us us.length us.length] ∧ Whole w16 w9.heap.size 27 #[.int .i64 0, .slice none 0 0] ∧ Below w.heap.size w w16) := Lib.hid ⟨HS15.out.1.below hb, HS15.out.2.1.below hb, HS15.out.2.2.1.below hb, HS15.out.2.2.2.1.below hb, HS15.out.2.2.2.2.1.below hb, HS15.out.2.2.2.2.2.1.below hb, HS15.out.2.2.2.2.2.2.1.below hb, HS15.out.2.2.2.2.2.2.2.1.below hb, Bel_next HS15.out.2.2.2.2.2.2.2.2 hb⟩
    clear HS15 hb
    have hc0 := (HS16.out.1).facts.1
    have hf0 := (HS16.out.1).facts.2
    have hz0 := (HS16.out.1).lt
    have hc1 := (HS16.out.2.1).facts.1
    have hf1 := (HS16.out.2.1).facts.2
    have hz1 := (HS16.out.2.1).lt
    have hc2 := (HS16.out.2.2.1).facts.1
    have hf2 := (HS16.out.2.2.1).facts.2
    have hz2 := (HS16.out.2.2.1).lt
    have hc4 := (HS16.out.2.2.2.2.1).facts.1
    have hf4 := (HS16.out.2.2.2.2.1).facts.2
    have hz4 := (HS16.out.2.2.2.2.1).lt
    have hc6 := (HS16.out.2.2.2.2.2.2.1).facts.1
    have hf6 := (HS16.out.2.2.2.2.2.2.1).facts.2
    have hz6 := (HS16.out.2.2.2.2.2.2.1).lt
    have hc7 := (HS16.out.2.2.2.2.2.2.2.1).facts.1
    have hf7 := (HS16.out.2.2.2.2.2.2.2.1).facts.2
    have hz7 := (HS16.out.2.2.2.2.2.2.2.1).lt
    go_wp2_with fail
    clear hc0 hf0 hz0
    clear hc1 hf1 hz1
    clear hc2 hf2 hz2
    clear hc4 hf4 hz4
    clear hc6 hf6 hz6
    clear hc7 hf7 hz7
    refine (markChain_zero (0) 1 _ _ _).mono ?_
    rintro e w17 ⟨rfl, hb⟩
    have z17 : w16.heap.size ≤ w17.heap.size := hb.size
    have HS17 : Hid (Whole w17 w.heap.size 24 #[.int .i64 sn, .slice ao_ss ss.length c_ss] ∧ Whole w17 (w.heap.size + 1) 24 #[.int .i64 tn, .slice ao_us us.length c_us] ∧ Whole w17 gN4 27 #[.int .i64 0, .slice none 0 0] ∧ Row w17 w4.heap.size w5.heap.size aoX_ss (fl .f32 (fmarks 1 ss.length)) ∧ Whole w17 w5.heap.size 27 #[.int .i64 sn, .slice aoX_ss ss.length ss.length] ∧ Row w17 w6.heap.size w7.heap.size aoX_us (fl .f32 (fmarks (1 + ss.length) us.length)) ∧ Whole w17 w7.heap.size 27 #[.int .i64 tn, .slice aoX_us us.length us.length] ∧ Whole w17 w9.heap.size 27 #[.int .i64 0, .slice none 0 0] ∧ Below w.heap.size w w17) := Lib.hid ⟨HS16.out.1.below hb, HS16.out.2.1.below hb, HS16.out.2.2.1.below hb, HS16.out.2.2.2.1.below hb, HS16.out.2.2.2.2.1.below hb, HS16.out.2.2.2.2.2.1.below hb, HS16.out.2.2.2.2.2.2.1.below hb, HS16.out.2.2.2.2.2.2.2.1.below hb, Bel_next HS16.out.2.2.2.2.2.2.2.2 hb⟩
    clear HS16 hb
    have hc0 := (HS17.out.1).facts.1
    have hf0 := (HS17.out.1).facts.2
    have hz0 := (HS17.out.1).lt
    have hc1 := (HS17.out.2.1).facts.1
    have hf1 := (HS17.out.2.1).facts.2
    have hz1 := (HS17.out.2.1).lt
    have hc2 := (HS17.out.2.2.1).facts.1
    have hf2 := (HS17.out.2.2.1).facts.2
    have hz2 := (HS17.out.2.2.1).lt
    have hc4 := (HS17.out.2.2.2.2.1).facts.1
    have hf4 := (HS17.out.2.2.2.2.1).facts.2
    have hz4 := (HS17.out.2.2.2.2.1).lt
    have hc6 := (HS17.out.2.2.2.2.2.2.1).facts.1
    have hf6 := (HS17.out.2.2.2.2.2.2.1).facts.2
    have hz6 := (HS17.out.2.2.2.2.2.2.1).lt
    have hc7 := (HS17.out.2.2.2.2.2.2.2.1).facts.1
    have hf7 := (HS17.out.2.2.2.2.2.2.2.1).facts.2
    have hz7 := (HS17.out.2.2.2.2.2.2.2.1).lt
    go_wp2_with fail
    clear hc0 hf0 hz0
    clear hc1 hf1 hz1
    clear hc2 hf2 hz2
    clear hc4 hf4 hz4
    clear hc6 hf6 hz6
    clear hc7 hf7 hz7
    refine (heldChain_marks (0) 1 (0) _ _ _ (Holds.nil _ _) (by omega)).mono ?_
    rintro e w18 ⟨rfl, hb⟩
    have z18 : w17.heap.size ≤ w18.heap.size := hb.size
    have HS18 : Hid (Whole w18 w.heap.size 24 #[.int .i64 sn, .slice ao_ss ss.length c_ss] ∧ Whole w18 (w.heap.size + 1) 24 #[.int .i64 tn, .slice ao_us us.length c_us] ∧ Whole w18 gN4 27 #[.int .i64 0, .slice none 0 0] ∧ Row w18 w4.heap.size w5.heap.size aoX_ss (fl .f32 (fmarks 1 ss.length)) ∧ Whole w18 w5.heap.size 27 #[.int .i64 sn, .slice aoX_ss ss.length ss.length] ∧ Row w18 w6.heap.size w7.heap.size aoX_us (fl .f32 (fmarks (1 + ss.length) us.length)) ∧ Whole w18 w7.heap.size 27 #[.int .i64 tn, .slice aoX_us us.length us.length] ∧ Whole w18 w9.heap.size 27 #[.int .i64 0, .slice none 0 0] ∧ Below w.heap.size w w18) := Lib.hid ⟨HS17.out.1.below hb, HS17.out.2.1.below hb, HS17.out.2.2.1.below hb, HS17.out.2.2.2.1.below hb, HS17.out.2.2.2.2.1.below hb, HS17.out.2.2.2.2.2.1.below hb, HS17.out.2.2.2.2.2.2.1.below hb, HS17.out.2.2.2.2.2.2.2.1.below hb, Bel_next HS17.out.2.2.2.2.2.2.2.2 hb⟩
    clear HS17 hb
    have hc0 := (HS18.out.1).facts.1
    have hf0 := (HS18.out.1).facts.2
    have hz0 := (HS18.out.1).lt
    have hc1 := (HS18.out.2.1).facts.1
    have hf1 := (HS18.out.2.1).facts.2
    have hz1 := (HS18.out.2.1).lt
    have hc2 := (HS18.out.2.2.1).facts.1
    have hf2 := (HS18.out.2.2.1).facts.2
    have hz2 := (HS18.out.2.2.1).lt
    have hc4 := (HS18.out.2.2.2.2.1).facts.1
    have hf4 := (HS18.out.2.2.2.2.1).facts.2
    have hz4 := (HS18.out.2.2.2.2.1).lt
    have hc6 := (HS18.out.2.2.2.2.2.2.1).facts.1
    have hf6 := (HS18.out.2.2.2.2.2.2.1).facts.2
    have hz6 := (HS18.out.2.2.2.2.2.2.1).lt
    have hc7 := (HS18.out.2.2.2.2.2.2.2.1).facts.1
    have hf7 := (HS18.out.2.2.2.2.2.2.2.1).facts.2
    have hz7 := (HS18.out.2.2.2.2.2.2.2.1).lt
    go_wp2_with fail
    clear hc0 hf0 hz0
    clear hc1 hf1 hz1
    clear hc2 hf2 hz2
    clear hc4 hf4 hz4
    clear hc6 hf6 hz6
    clear hc7 hf7 hz7
    have HK : Hid (∀ v v' : World, (v.cell? ⟨w.heap.size, 0, none⟩ = some (.int .i64 sn) ∧ v.cell? ⟨w.heap.size, 1, none⟩ = some (.slice ao_ss ss.length c_ss) ∧ v.cell? ⟨(w.heap.size + 1), 0, none⟩ = some (.int .i64 tn) ∧ v.cell? ⟨(w.heap.size + 1), 1, none⟩ = some (.slice ao_us us.length c_us) ∧ w18.heap.size ≤ v.heap.size ∧ Whole v w.heap.size 24 #[.int .i64 sn, .slice ao_ss ss.length c_ss] ∧ Whole v (w.heap.size + 1) 24 #[.int .i64 tn, .slice ao_us us.length c_us] ∧ Whole v gN4 27 #[.int .i64 0, .slice none 0 0] ∧ Row v w4.heap.size w5.heap.size aoX_ss (fl .f32 (fmarks 1 ss.length)) ∧ Whole v w5.heap.size 27 #[.int .i64 sn, .slice aoX_ss ss.length ss.length] ∧ Row v w6.heap.size w7.heap.size aoX_us (fl .f32 (fmarks (1 + ss.length) us.length)) ∧ Whole v w7.heap.size 27 #[.int .i64 tn, .slice aoX_us us.length us.length] ∧ Whole v w9.heap.size 27 #[.int .i64 0, .slice none 0 0] ∧ Below w.heap.size w v) → Below v.heap.size v v' → (v'.cell? ⟨w.heap.size, 0, none⟩ = some (.int .i64 sn) ∧ v'.cell? ⟨w.heap.size, 1, none⟩ = some (.slice ao_ss ss.length c_ss) ∧ v'.cell? ⟨(w.heap.size + 1), 0, none⟩ = some (.int .i64 tn) ∧ v'.cell? ⟨(w.heap.size + 1), 1, none⟩ = some (.slice ao_us us.length c_us) ∧ w18.heap.size ≤ v'.heap.size ∧ Whole v' w.heap.size 24 #[.int .i64 sn, .slice ao_ss ss.length c_ss] ∧ Whole v' (w.heap.size + 1) 24 #[.int .i64 tn, .slice ao_us us.length c_us] ∧ Whole v' gN4 27 #[.int .i64 0, .slice none 0 0] ∧ Row v' w4.heap.size w5.heap.size aoX_ss (fl .f32 (fmarks 1 ss.length)) ∧ Whole v' w5.heap.size 27 #[.int .i64 sn, .slice aoX_ss ss.length ss.length] ∧ Row v' w6.heap.size w7.heap.size aoX_us (fl .f32 (fmarks (1 + ss.length) us.length)) ∧ Whole v' w7.heap.size 27 #[.int .i64 tn, .slice aoX_us us.length us.length] ∧ Whole v' w9.heap.size 27 #[.int .i64 0, .slice none 0 0] ∧ Below w.heap.size w v')) := Lib.hid (fun v v' h hb => ⟨(by rw [Below.cell hb (World.block_lt_of_cell? _ _ h.1)]; exact h.1), (by rw [Below.cell hb (World.block_lt_of_cell? _ _ h.2.1)]; exact h.2.1), (by rw [Below.cell hb (World.block_lt_of_cell? _ _ h.2.2.1)]; exact h.2.2.1), (by rw [Below.cell hb (World.block_lt_of_cell? _ _ h.2.2.2.1)]; exact h.2.2.2.1), Nat.le_trans h.2.2.2.2.1 hb.size, h.2.2.2.2.2.1.below hb, h.2.2.2.2.2.2.1.below hb, h.2.2.2.2.2.2.2.1.below hb, h.2.2.2.2.2.2.2.2.1.below hb, h.2.2.2.2.2.2.2.2.2.1.below hb, h.2.2.2.2.2.2.2.2.2.2.1.below hb, h.2.2.2.2.2.2.2.2.2.2.2.1.below hb, h.2.2.2.2.2.2.2.2.2.2.2.2.1.below hb, Bel_next h.2.2.2.2.2.2.2.2.2.2.2.2.2 hb⟩)
    have HP : Hid (∀ v : World, (v.cell? ⟨w.heap.size, 0, none⟩ = some (.int .i64 sn) ∧ v.cell? ⟨w.heap.size, 1, none⟩ = some (.slice ao_ss ss.length c_ss) ∧ v.cell? ⟨(w.heap.size + 1), 0, none⟩ = some (.int .i64 tn) ∧ v.cell? ⟨(w.heap.size + 1), 1, none⟩ = some (.slice ao_us us.length c_us) ∧ w18.heap.size ≤ v.heap.size ∧ Whole v w.heap.size 24 #[.int .i64 sn, .slice ao_ss ss.length c_ss] ∧ Whole v (w.heap.size + 1) 24 #[.int .i64 tn, .slice ao_us us.length c_us] ∧ Whole v gN4 27 #[.int .i64 0, .slice none 0 0] ∧ Row v w4.heap.size w5.heap.size aoX_ss (fl .f32 (fmarks 1 ss.length)) ∧ Whole v w5.heap.size 27 #[.int .i64 sn, .slice aoX_ss ss.length ss.length] ∧ Row v w6.heap.size w7.heap.size aoX_us (fl .f32 (fmarks (1 + ss.length) us.length)) ∧ Whole v w7.heap.size 27 #[.int .i64 tn, .slice aoX_us us.length us.length] ∧ Whole v w9.heap.size 27 #[.int .i64 0, .slice none 0 0] ∧ Below w.heap.size w v) → (Whole v w.heap.size 24 #[.int .i64 sn, .slice ao_ss ss.length c_ss] ∧ Whole v (w.heap.size + 1) 24 #[.int .i64 tn, .slice ao_us us.length c_us] ∧ Whole v gN4 27 #[.int .i64 0, .slice none 0 0] ∧ Row v w4.heap.size w5.heap.size aoX_ss (fl .f32 (fmarks 1 ss.length)) ∧ Whole v w5.heap.size 27 #[.int .i64 sn, .slice aoX_ss ss.length ss.length] ∧ Row v w6.heap.size w7.heap.size aoX_us (fl .f32 (fmarks (1 + ss.length) us.length)) ∧ Whole v w7.heap.size 27 #[.int .i64 tn, .slice aoX_us us.length us.length] ∧ Whole v w9.heap.size 27 #[.int .i64 0, .slice none 0 0] ∧ Below w.heap.size w v)) := Lib.hid (fun v h => h.2.2.2.2.2)
    have hR : w18.cell? ⟨w.heap.size, 0, none⟩ = some (.int .i64 sn) ∧ w18.cell? ⟨w.heap.size, 1, none⟩ = some (.slice ao_ss ss.length c_ss) ∧ w18.cell? ⟨(w.heap.size + 1), 0, none⟩ = some (.int .i64 tn) ∧ w18.cell? ⟨(w.heap.size + 1), 1, none⟩ = some (.slice ao_us us.length c_us) ∧ w18.heap.size ≤ w18.heap.size ∧ Whole w18 w.heap.size 24 #[.int .i64 sn, .slice ao_ss ss.length c_ss] ∧ Whole w18 (w.heap.size + 1) 24 #[.int .i64 tn, .slice ao_us us.length c_us] ∧ Whole w18 gN4 27 #[.int .i64 0, .slice none 0 0] ∧ Row w18 w4.heap.size w5.heap.size aoX_ss (fl .f32 (fmarks 1 ss.length)) ∧ Whole w18 w5.heap.size 27 #[.int .i64 sn, .slice aoX_ss ss.length ss.length] ∧ Row w18 w6.heap.size w7.heap.size aoX_us (fl .f32 (fmarks (1 + ss.length) us.length)) ∧ Whole w18 w7.heap.size 27 #[.int .i64 tn, .slice aoX_us us.length us.length] ∧ Whole w18 w9.heap.size 27 #[.int .i64 0, .slice none 0 0] ∧ Below w.heap.size w w18 := ⟨(HS18.out.1).cell 0, (HS18.out.1).cell 1, (HS18.out.2.1).cell 0, (HS18.out.2.1).cell 1, Nat.le_refl _, HS18.out.1, HS18.out.2.1, HS18.out.2.2.1, HS18.out.2.2.2.1, HS18.out.2.2.2.2.1, HS18.out.2.2.2.2.2.1, HS18.out.2.2.2.2.2.2.1, HS18.out.2.2.2.2.2.2.2.1, HS18.out.2.2.2.2.2.2.2.2⟩
    have HK2 : Hid (∀ (v : World) (q : Addr) (u : Value), (v.cell? ⟨w.heap.size, 0, none⟩ = some (.int .i64 sn) ∧ v.cell? ⟨w.heap.size, 1, none⟩ = some (.slice ao_ss ss.length c_ss) ∧ v.cell? ⟨(w.heap.size + 1), 0, none⟩ = some (.int .i64 tn) ∧ v.cell? ⟨(w.heap.size + 1), 1, none⟩ = some (.slice ao_us us.length c_us) ∧ w18.heap.size ≤ v.heap.size ∧ Whole v w.heap.size 24 #[.int .i64 sn, .slice ao_ss ss.length c_ss] ∧ Whole v (w.heap.size + 1) 24 #[.int .i64 tn, .slice ao_us us.length c_us] ∧ Whole v gN4 27 #[.int .i64 0, .slice none 0 0] ∧ Row v w4.heap.size w5.heap.size aoX_ss (fl .f32 (fmarks 1 ss.length)) ∧ Whole v w5.heap.size 27 #[.int .i64 sn, .slice aoX_ss ss.length ss.length] ∧ Row v w6.heap.size w7.heap.size aoX_us (fl .f32 (fmarks (1 + ss.length) us.length)) ∧ Whole v w7.heap.size 27 #[.int .i64 tn, .slice aoX_us us.length us.length] ∧ Whole v w9.heap.size 27 #[.int .i64 0, .slice none 0 0] ∧ Below w.heap.size w v) → w18.heap.size ≤ q.block → ((v.setCell q u).cell? ⟨w.heap.size, 0, none⟩ = some (.int .i64 sn) ∧ (v.setCell q u).cell? ⟨w.heap.size, 1, none⟩ = some (.slice ao_ss ss.length c_ss) ∧ (v.setCell q u).cell? ⟨(w.heap.size + 1), 0, none⟩ = some (.int .i64 tn) ∧ (v.setCell q u).cell? ⟨(w.heap.size + 1), 1, none⟩ = some (.slice ao_us us.length c_us) ∧ w18.heap.size ≤ (v.setCell q u).heap.size ∧ Whole (v.setCell q u) w.heap.size 24 #[.int .i64 sn, .slice ao_ss ss.length c_ss] ∧ Whole (v.setCell q u) (w.heap.size + 1) 24 #[.int .i64 tn, .slice ao_us us.length c_us] ∧ Whole (v.setCell q u) gN4 27 #[.int .i64 0, .slice none 0 0] ∧ Row (v.setCell q u) w4.heap.size w5.heap.size aoX_ss (fl .f32 (fmarks 1 ss.length)) ∧ Whole (v.setCell q u) w5.heap.size 27 #[.int .i64 sn, .slice aoX_ss ss.length ss.length] ∧ Row (v.setCell q u) w6.heap.size w7.heap.size aoX_us (fl .f32 (fmarks (1 + ss.length) us.length)) ∧ Whole (v.setCell q u) w7.heap.size 27 #[.int .i64 tn, .slice aoX_us us.length us.length] ∧ Whole (v.setCell q u) w9.heap.size 27 #[.int .i64 0, .slice none 0 0] ∧ Below w.heap.size w (v.setCell q u))) := Lib.hid (fun v q u h hq => ⟨((World.cell?_of_block (a := ⟨w.heap.size, 0, none⟩) (Below.heap_setCell v q u _ (by show ¬ _ = _; simp only []; omega))).trans h.1), ((World.cell?_of_block (a := ⟨w.heap.size, 1, none⟩) (Below.heap_setCell v q u _ (by show ¬ _ = _; simp only []; omega))).trans h.2.1), ((World.cell?_of_block (a := ⟨(w.heap.size + 1), 0, none⟩) (Below.heap_setCell v q u _ (by show ¬ _ = _; simp only []; omega))).trans h.2.2.1), ((World.cell?_of_block (a := ⟨(w.heap.size + 1), 1, none⟩) (Below.heap_setCell v q u _ (by show ¬ _ = _; simp only []; omega))).trans h.2.2.2.1), (by simpa using h.2.2.2.2.1), h.2.2.2.2.2.1.far (by omega) _, h.2.2.2.2.2.2.1.far (by omega) _, h.2.2.2.2.2.2.2.1.far (by omega) _, h.2.2.2.2.2.2.2.2.1.far (.inr (by omega)) _, h.2.2.2.2.2.2.2.2.2.1.far (by omega) _, h.2.2.2.2.2.2.2.2.2.2.1.far (.inr (by omega)) _, h.2.2.2.2.2.2.2.2.2.2.2.1.far (by omega) _, h.2.2.2.2.2.2.2.2.2.2.2.2.1.far (by omega) _, Below.setCell h.2.2.2.2.2.2.2.2.2.2.2.2.2 (by omega) _⟩)
    go_cut [15, 16] from 17 (fun s0 s1 wx => ∃ (gN : Nat), s0 = .pointer (some ⟨gN, 0, none⟩) ∧ s1 = .bool false ∧ w18.heap.size ≤ gN ∧ Whole wx gN 27 #[.int .i64 0, .slice none 0 0] ∧ Whole wx w.heap.size 24 #[.int .i64 sn, .slice ao_ss ss.length c_ss] ∧ Whole wx (w.heap.size + 1) 24 #[.int .i64 tn, .slice ao_us us.length c_us] ∧ Whole wx gN4 27 #[.int .i64 0, .slice none 0 0] ∧ Row wx w4.heap.size w5.heap.size aoX_ss (fl .f32 (fmarks 1 ss.length)) ∧ Whole wx w5.heap.size 27 #[.int .i64 sn, .slice aoX_ss ss.length ss.length] ∧ Row wx w6.heap.size w7.heap.size aoX_us (fl .f32 (fmarks (1 + ss.length) us.length)) ∧ Whole wx w7.heap.size 27 #[.int .i64 tn, .slice aoX_us us.length us.length] ∧ Whole wx w9.heap.size 27 #[.int .i64 0, .slice none 0 0] ∧ Below w.heap.size w wx)
    case first =>
      go_region_held3 (fun v => v.cell? ⟨w.heap.size, 0, none⟩ = some (.int .i64 sn) ∧ v.cell? ⟨w.heap.size, 1, none⟩ = some (.slice ao_ss ss.length c_ss) ∧ v.cell? ⟨(w.heap.size + 1), 0, none⟩ = some (.int .i64 tn) ∧ v.cell? ⟨(w.heap.size + 1), 1, none⟩ = some (.slice ao_us us.length c_us) ∧ w18.heap.size ≤ v.heap.size ∧ Whole v w.heap.size 24 #[.int .i64 sn, .slice ao_ss ss.length c_ss] ∧ Whole v (w.heap.size + 1) 24 #[.int .i64 tn, .slice ao_us us.length c_us] ∧ Whole v gN4 27 #[.int .i64 0, .slice none 0 0] ∧ Row v w4.heap.size w5.heap.size aoX_ss (fl .f32 (fmarks 1 ss.length)) ∧ Whole v w5.heap.size 27 #[.int .i64 sn, .slice aoX_ss ss.length ss.length] ∧ Row v w6.heap.size w7.heap.size aoX_us (fl .f32 (fmarks (1 + ss.length) us.length)) ∧ Whole v w7.heap.size 27 #[.int .i64 tn, .slice aoX_us us.length us.length] ∧ Whole v w9.heap.size 27 #[.int .i64 0, .slice none 0 0] ∧ Below w.heap.size w v)
        (first | with_reducible assumption | with_reducible exact HSv2.out | with_reducible exact HSv1.out | with_reducible exact HSv0.out | ((with_reducible refine HK.out _ _ HSv2.out ?_); (repeat (first | with_reducible exact Below.refl _ _ | with_reducible refine Below.drew ?_ | with_reducible refine Bel_drewN ?_ _ | with_reducible refine Below.alloc ?_ (by first | omega | (simp; done) | (simp; omega)) _ | with_reducible refine Below.setCell ?_ (by first | omega | (simp; done) | (simp; omega)) _)); done) | ((with_reducible refine HK.out _ _ HSv1.out ?_); (repeat (first | with_reducible exact Below.refl _ _ | with_reducible refine Below.drew ?_ | with_reducible refine Bel_drewN ?_ _ | with_reducible refine Below.alloc ?_ (by first | omega | (simp; done) | (simp; omega)) _ | with_reducible refine Below.setCell ?_ (by first | omega | (simp; done) | (simp; omega)) _)); done) | ((with_reducible refine HK.out _ _ HSv0.out ?_); (repeat (first | with_reducible exact Below.refl _ _ | with_reducible refine Below.drew ?_ | with_reducible refine Bel_drewN ?_ _ | with_reducible refine Below.alloc ?_ (by first | omega | (simp; done) | (simp; omega)) _ | with_reducible refine Below.setCell ?_ (by first | omega | (simp; done) | (simp; omega)) _)); done) | ((with_reducible refine HK.out w18 _ hR ?_); (repeat (first | with_reducible exact Below.refl _ _ | with_reducible refine Below.drew ?_ | with_reducible refine Bel_drewN ?_ _ | with_reducible refine Below.alloc ?_ (by first | omega | (simp; done) | (simp; omega)) _ | with_reducible refine Below.setCell ?_ (by first | omega | (simp; done) | (simp; omega)) _)); done) | ((with_reducible refine HK2.out _ _ _ HSv2.out ?_) <;> (first | omega | (simp; done) | (simp; omega))) | ((with_reducible refine HK2.out _ _ _ (HK2.out _ _ _ HSv2.out ?_) ?_) <;> (first | omega | (simp; done) | (simp; omega))) | exact HK.out _ _ (by with_reducible assumption) (by with_reducible assumption))
        (first | (go_at_call 17; (with_reducible (refine (toChain_any sn ss _ _ _ (Holds.below HX_ss.out (HP.out _ (by assumption)).2.2.2.2.2.2.2.2) hn_ss).mono ?_)); rintro e wt0 ⟨aohd_ss, rfl, rowhd_ss, hbt0⟩; have zz0 := hbt0.size; (try simp at zz0); have HSv0 := Lib.hid (HK.out _ _ (by with_reducible assumption) hbt0); obtain ⟨kc0, kf0⟩ := cells_kept hbt0; (try have zt0_0 : w18.heap.size < wt0.heap.size := by omega)) | (go_at_call 17; (with_reducible (refine (toChain_any tn us _ _ _ (Holds.below HX_us.out (HP.out _ (by assumption)).2.2.2.2.2.2.2.2) hn_us).mono ?_)); rintro e wt1 ⟨aohd_us, rfl, rowhd_us, hbt1⟩; have zz1 := hbt1.size; (try simp at zz1); have HSv1 := Lib.hid (HK.out _ _ (by with_reducible assumption) hbt1); obtain ⟨kc1, kf1⟩ := cells_kept hbt1; (try have zt1_0 : w18.heap.size < wt1.heap.size := by omega); (try have zt1_1 : wt0.heap.size < wt1.heap.size := by omega)) | (go_at_call 39; refine (implJoi_not sn tn ss us _ _ rfl rfl _ _ _ _ _ (by first | exact ((Row.below rowhd_ss (by first | exact hbt1 | exact Bel_next (Below.refl _ _).drew hbt1 | (refine Bel_next ?_ hbt1; (repeat (first | with_reducible exact Below.refl _ _ | with_reducible refine Below.drew ?_ | with_reducible refine Bel_drewN ?_ _ | with_reducible refine Below.alloc ?_ (by first | omega | (simp; done) | (simp; omega)) _ | with_reducible refine Below.setCell ?_ (by first | omega | (simp; done) | (simp; omega)) _)); done)))).holds | (refine (Row.below (Row.below rowhd_ss (by first | exact hbt1 | exact Bel_next (Below.refl _ _).drew hbt1 | (refine Bel_next ?_ hbt1; (repeat (first | with_reducible exact Below.refl _ _ | with_reducible refine Below.drew ?_ | with_reducible refine Bel_drewN ?_ _ | with_reducible refine Below.alloc ?_ (by first | omega | (simp; done) | (simp; omega)) _ | with_reducible refine Below.setCell ?_ (by first | omega | (simp; done) | (simp; omega)) _)); done))) ?_).holds; (repeat (first | with_reducible exact Below.refl _ _ | with_reducible refine Below.drew ?_ | with_reducible refine Bel_drewN ?_ _ | with_reducible refine Below.alloc ?_ (by first | omega | (simp; done) | (simp; omega)) _ | with_reducible refine Below.setCell ?_ (by first | omega | (simp; done) | (simp; omega)) _)); done)) (by first | exact (rowhd_us).holds | (refine (Row.below rowhd_us ?_).holds; (repeat (first | with_reducible exact Below.refl _ _ | with_reducible refine Below.drew ?_ | with_reducible refine Bel_drewN ?_ _ | with_reducible refine Below.alloc ?_ (by first | omega | (simp; done) | (simp; omega)) _ | with_reducible refine Below.setCell ?_ (by first | omega | (simp; done) | (simp; omega)) _)); done)) hn_ss hn_us (Nat.le_refl _) (Nat.le_refl _) HV.out).mono ?_; rintro e w19 ⟨rfl, hb⟩; have zz2 := hb.size; (try simp at zz2); have HSv2 := Lib.hid (HK.out _ _ (by with_reducible assumption) hb); obtain ⟨kc2, kf2⟩ := cells_kept hb; (try have zt2_0 : w18.heap.size < w19.heap.size := by omega); (try have zt2_1 : wt0.heap.size < w19.heap.size := by omega); (try have zt2_2 : wt1.heap.size < w19.heap.size := by omega)))
      all_goals
        go_wp2_with fail
        go_meet
        refine ⟨_, rfl, rfl, ?_, ?_, ?_⟩
        · first | omega | (simp; done) | (simp; omega)
        · first | exact Whole.made _ _ _ | (have hq := (((Whole.made _ _ _).below hbt0).below hbt1).below hb; exact ((hq).put 0 _).put 1 _) | (have hq := ((((Whole.made _ _ _).drew).below hbt0).below hbt1).below hb; exact ((hq).put 0 _).put 1 _) | (have hq := ((Whole.made _ _ _).below hbt1).below hb; exact ((hq).put 0 _).put 1 _) | (have hq := (Whole.made _ _ _).below hb; exact ((hq).put 0 _).put 1 _)
        · first | (refine HP.out _ (HK.out _ _ HSv2.out ?_); (repeat (first | with_reducible exact Below.refl _ _ | with_reducible refine Below.drew ?_ | with_reducible refine Bel_drewN ?_ _ | with_reducible refine Below.alloc ?_ (by first | omega | (simp; done) | (simp; omega)) _ | with_reducible refine Below.setCell ?_ (by first | omega | (simp; done) | (simp; omega)) _)); done) | exact HP.out _ (HK2.out _ _ _ (HK2.out _ _ _ HSv2.out (by first | omega | (simp; done) | (simp; omega))) (by first | omega | (simp; done) | (simp; omega)))
    case rest =>
      obtain ⟨gN, rfl, rfl, hle, hW, hS⟩ := hcut
      rename World => w19
      have z19 : w18.heap.size ≤ w19.heap.size := by have := hW.lt; omega
      obtain ⟨gN19, hgN⟩ : ∃ g, g = gN := ⟨_, rfl⟩
      subst hgN
      have ygN19 : gN19 < w19.heap.size := hW.lt
      have xgN19 : w18.heap.size ≤ gN19 := hle
      have HS19 : Hid (Whole w19 w.heap.size 24 #[.int .i64 sn, .slice ao_ss ss.length c_ss] ∧ Whole w19 (w.heap.size + 1) 24 #[.int .i64 tn, .slice ao_us us.length c_us] ∧ Whole w19 gN4 27 #[.int .i64 0, .slice none 0 0] ∧ Row w19 w4.heap.size w5.heap.size aoX_ss (fl .f32 (fmarks 1 ss.length)) ∧ Whole w19 w5.heap.size 27 #[.int .i64 sn, .slice aoX_ss ss.length ss.length] ∧ Row w19 w6.heap.size w7.heap.size aoX_us (fl .f32 (fmarks (1 + ss.length) us.length)) ∧ Whole w19 w7.heap.size 27 #[.int .i64 tn, .slice aoX_us us.length us.length] ∧ Whole w19 w9.heap.size 27 #[.int .i64 0, .slice none 0 0] ∧ Whole w19 gN19 27 #[.int .i64 0, .slice none 0 0] ∧ Below w.heap.size w w19) := Lib.hid ⟨hS.1, hS.2.1, hS.2.2.1, hS.2.2.2.1, hS.2.2.2.2.1, hS.2.2.2.2.2.1, hS.2.2.2.2.2.2.1, hS.2.2.2.2.2.2.2.1, hW, hS.2.2.2.2.2.2.2.2⟩
      clear HS18 HK HP HK2 hR hle hW hS
      have hc0 := (HS19.out.1).facts.1
      have hf0 := (HS19.out.1).facts.2
      have hz0 := (HS19.out.1).lt
      have hc1 := (HS19.out.2.1).facts.1
      have hf1 := (HS19.out.2.1).facts.2
      have hz1 := (HS19.out.2.1).lt
      have hc2 := (HS19.out.2.2.1).facts.1
      have hf2 := (HS19.out.2.2.1).facts.2
      have hz2 := (HS19.out.2.2.1).lt
      have hc4 := (HS19.out.2.2.2.2.1).facts.1
      have hf4 := (HS19.out.2.2.2.2.1).facts.2
      have hz4 := (HS19.out.2.2.2.2.1).lt
      have hc6 := (HS19.out.2.2.2.2.2.2.1).facts.1
      have hf6 := (HS19.out.2.2.2.2.2.2.1).facts.2
      have hz6 := (HS19.out.2.2.2.2.2.2.1).lt
      have hc7 := (HS19.out.2.2.2.2.2.2.2.1).facts.1
      have hf7 := (HS19.out.2.2.2.2.2.2.2.1).facts.2
      have hz7 := (HS19.out.2.2.2.2.2.2.2.1).lt
      have hc8 := (HS19.out.2.2.2.2.2.2.2.2.1).facts.1
      have hf8 := (HS19.out.2.2.2.2.2.2.2.2.1).facts.2
      have hz8 := (HS19.out.2.2.2.2.2.2.2.2.1).lt
      go_wp2_with fail
      clear hc0 hf0 hz0
      clear hc1 hf1 hz1
      clear hc2 hf2 hz2
      clear hc4 hf4 hz4
      clear hc6 hf6 hz6
      clear hc7 hf7 hz7
      clear hc8 hf8 hz8
      refine (eqChain_same (0) [] 0 rfl _ _ _ _ _ (Holds.nil _ _) (Holds.nil _ _) (by omega)).mono ?_
      rintro e w20 ⟨rfl, hb⟩
      have z20 : w19.heap.size ≤ w20.heap.size := hb.size
      have HS20 : Hid (Whole w20 w.heap.size 24 #[.int .i64 sn, .slice ao_ss ss.length c_ss] ∧ Whole w20 (w.heap.size + 1) 24 #[.int .i64 tn, .slice ao_us us.length c_us] ∧ Whole w20 gN4 27 #[.int .i64 0, .slice none 0 0] ∧ Row w20 w4.heap.size w5.heap.size aoX_ss (fl .f32 (fmarks 1 ss.length)) ∧ Whole w20 w5.heap.size 27 #[.int .i64 sn, .slice aoX_ss ss.length ss.length] ∧ Row w20 w6.heap.size w7.heap.size aoX_us (fl .f32 (fmarks (1 + ss.length) us.length)) ∧ Whole w20 w7.heap.size 27 #[.int .i64 tn, .slice aoX_us us.length us.length] ∧ Whole w20 w9.heap.size 27 #[.int .i64 0, .slice none 0 0] ∧ Whole w20 gN19 27 #[.int .i64 0, .slice none 0 0] ∧ Below w.heap.size w w20) := Lib.hid ⟨HS19.out.1.below hb, HS19.out.2.1.below hb, HS19.out.2.2.1.below hb, HS19.out.2.2.2.1.below hb, HS19.out.2.2.2.2.1.below hb, HS19.out.2.2.2.2.2.1.below hb, HS19.out.2.2.2.2.2.2.1.below hb, HS19.out.2.2.2.2.2.2.2.1.below hb, HS19.out.2.2.2.2.2.2.2.2.1.below hb, Bel_next HS19.out.2.2.2.2.2.2.2.2.2 hb⟩
      clear HS19 hb
      have hc0 := (HS20.out.1).facts.1
      have hf0 := (HS20.out.1).facts.2
      have hz0 := (HS20.out.1).lt
      have hc1 := (HS20.out.2.1).facts.1
      have hf1 := (HS20.out.2.1).facts.2
      have hz1 := (HS20.out.2.1).lt
      have hc2 := (HS20.out.2.2.1).facts.1
      have hf2 := (HS20.out.2.2.1).facts.2
      have hz2 := (HS20.out.2.2.1).lt
      have hc4 := (HS20.out.2.2.2.2.1).facts.1
      have hf4 := (HS20.out.2.2.2.2.1).facts.2
      have hz4 := (HS20.out.2.2.2.2.1).lt
      have hc6 := (HS20.out.2.2.2.2.2.2.1).facts.1
      have hf6 := (HS20.out.2.2.2.2.2.2.1).facts.2
      have hz6 := (HS20.out.2.2.2.2.2.2.1).lt
      have hc7 := (HS20.out.2.2.2.2.2.2.2.1).facts.1
      have hf7 := (HS20.out.2.2.2.2.2.2.2.1).facts.2
      have hz7 := (HS20.out.2.2.2.2.2.2.2.1).lt
      have hc8 := (HS20.out.2.2.2.2.2.2.2.2.1).facts.1
      have hf8 := (HS20.out.2.2.2.2.2.2.2.2.1).facts.2
      have hz8 := (HS20.out.2.2.2.2.2.2.2.2.1).lt
      go_wp2_with fail
      clear hc0 hf0 hz0
      clear hc1 hf1 hz1
      clear hc2 hf2 hz2
      clear hc4 hf4 hz4
      clear hc6 hf6 hz6
      clear hc7 hf7 hz7
      clear hc8 hf8 hz8
      refine (heldChain_marks (0) 1 (0) _ _ _ (Holds.nil _ _) (by omega)).mono ?_
      rintro e w21 ⟨rfl, hb⟩
      have z21 : w20.heap.size ≤ w21.heap.size := hb.size
      have HS21 : Hid (Whole w21 w.heap.size 24 #[.int .i64 sn, .slice ao_ss ss.length c_ss] ∧ Whole w21 (w.heap.size + 1) 24 #[.int .i64 tn, .slice ao_us us.length c_us] ∧ Whole w21 gN4 27 #[.int .i64 0, .slice none 0 0] ∧ Row w21 w4.heap.size w5.heap.size aoX_ss (fl .f32 (fmarks 1 ss.length)) ∧ Whole w21 w5.heap.size 27 #[.int .i64 sn, .slice aoX_ss ss.length ss.length] ∧ Row w21 w6.heap.size w7.heap.size aoX_us (fl .f32 (fmarks (1 + ss.length) us.length)) ∧ Whole w21 w7.heap.size 27 #[.int .i64 tn, .slice aoX_us us.length us.length] ∧ Whole w21 w9.heap.size 27 #[.int .i64 0, .slice none 0 0] ∧ Whole w21 gN19 27 #[.int .i64 0, .slice none 0 0] ∧ Below w.heap.size w w21) := Lib.hid ⟨HS20.out.1.below hb, HS20.out.2.1.below hb, HS20.out.2.2.1.below hb, HS20.out.2.2.2.1.below hb, HS20.out.2.2.2.2.1.below hb, HS20.out.2.2.2.2.2.1.below hb, HS20.out.2.2.2.2.2.2.1.below hb, HS20.out.2.2.2.2.2.2.2.1.below hb, HS20.out.2.2.2.2.2.2.2.2.1.below hb, Bel_next HS20.out.2.2.2.2.2.2.2.2.2 hb⟩
      clear HS20 hb
      have hc0 := (HS21.out.1).facts.1
      have hf0 := (HS21.out.1).facts.2
      have hz0 := (HS21.out.1).lt
      have hc1 := (HS21.out.2.1).facts.1
      have hf1 := (HS21.out.2.1).facts.2
      have hz1 := (HS21.out.2.1).lt
      have hc2 := (HS21.out.2.2.1).facts.1
      have hf2 := (HS21.out.2.2.1).facts.2
      have hz2 := (HS21.out.2.2.1).lt
      have hc4 := (HS21.out.2.2.2.2.1).facts.1
      have hf4 := (HS21.out.2.2.2.2.1).facts.2
      have hz4 := (HS21.out.2.2.2.2.1).lt
      have hc6 := (HS21.out.2.2.2.2.2.2.1).facts.1
      have hf6 := (HS21.out.2.2.2.2.2.2.1).facts.2
      have hz6 := (HS21.out.2.2.2.2.2.2.1).lt
      have hc7 := (HS21.out.2.2.2.2.2.2.2.1).facts.1
      have hf7 := (HS21.out.2.2.2.2.2.2.2.1).facts.2
      have hz7 := (HS21.out.2.2.2.2.2.2.2.1).lt
      have hc8 := (HS21.out.2.2.2.2.2.2.2.2.1).facts.1
      have hf8 := (HS21.out.2.2.2.2.2.2.2.2.1).facts.2
      have hz8 := (HS21.out.2.2.2.2.2.2.2.2.1).lt
      go_wp2_with fail
      clear hc0 hf0 hz0
      clear hc1 hf1 hz1
      clear hc2 hf2 hz2
      clear hc4 hf4 hz4
      clear hc6 hf6 hz6
      clear hc7 hf7 hz7
      clear hc8 hf8 hz8
      go_ret
      exact ⟨rfl, Bel_next HS21.out.2.2.2.2.2.2.2.2.2 (by repeat (first | with_reducible exact Below.refl _ _ | with_reducible refine Below.drew ?_ | with_reducible refine Bel_drewN ?_ _ | with_reducible refine Below.alloc ?_ (by first | omega | (simp; done) | (simp; omega)) _ | with_reducible refine Below.setCell ?_ (by first | omega | (simp; done) | (simp; omega)) _))⟩
end Go.Proofs.Ytfbllggnndodoaa
