/- The walk of the law FnExactWalkChain. -/
import Derived.Test.YtgeomaeccalceaaWkb
import Derived.Test.YtgeomaeccalceaaSChain
import Derived.Deep.RegionHeld3
import Derived.Deep.DeepCutAuto
namespace Go.Proofs.Ytgeomaeccalceaa
open Go Go.RowKit Fl
set_option linter.unusedVariables false

set_option maxRecDepth 100000 in
set_option maxHeartbeats 20000000 in
theorem FnExactWalkChain_walk (k : Int) (a b : Nat) (h_k : (Lit.int .i64 k).wf = true) (h_a : a < 18446744073709551616) (h_b : b < 18446744073709551616) (sn : Int) (h_sn : (Lit.int .i64 sn).wf = true) (ss : List Nat) (ao_ss : Option Addr) (c_ss : Nat) (m_ss : ss.length ≤ 9223372036854775807) (fr : Int) (h_fr : (Lit.int .i64 fr).wf = true) (st : Int) (h_st : (Lit.int .i64 st).wf = true) (w : World) (hx_ss : Holds w ao_ss (fl .f32 ss)) :
    Calls Try.prog 3 #[.agg #[.int .i64 k, .int .u64 (a : Int), .int .u64 (b : Int)], .agg #[.int .i64 sn, .slice ao_ss ss.length c_ss], .int .i64 fr, .int .i64 st] w fun e w' => e = .returned (.bool true) ∧ Below w.heap.size w w' := by
  by_cases hl0 : ss.length ≤ 1048576
  case neg =>
    have HL0 := Lib.hid hl0
    clear hl0
    go_enter Try.func3, Try.ntmps3
    have HS0 : Hid (Below w.heap.size w w) := Lib.hid (Below.refl _ _)
    go_wp2_with fail
    generalize hW : World.alloc (World.alloc w _) _ = w1
    have hb : Below w.heap.size w w1 := by rw [← hW]; exact (by repeat (first | with_reducible exact Below.refl _ _ | with_reducible refine Below.drew ?_ | with_reducible refine Bel_drewN ?_ _ | with_reducible refine Below.alloc ?_ (by first | omega | (simp; done) | (simp; omega)) _ | with_reducible refine Below.setCell ?_ (by first | omega | (simp; done) | (simp; omega)) _))
    have z1 : w.heap.size + 2 ≤ w1.heap.size := by rw [← hW]; simp
    have HS1 : Hid (Whole w1 w.heap.size 24 #[.int .i64 k, .int .u64 (a : Int), .int .u64 (b : Int)] ∧ Whole w1 (w.heap.size + 1) 27 #[.int .i64 sn, .slice ao_ss ss.length c_ss] ∧ Below w.heap.size w w1) := Lib.hid ⟨by rw [← hW]; exact (Whole.made _ _ _).alloc _, by rw [← hW]; exact Whole.made2 _ _ _ _, Bel_next HS0.out hb⟩
    clear HS0 hW hb
    refine (szChain_no sn ss _ _ (1048576) _ HL0.out (by omega) m_ss).mono ?_
    rintro e w2 ⟨rfl, hb⟩
    have z2 : w1.heap.size ≤ w2.heap.size := hb.size
    have HS2 : Hid (Whole w2 w.heap.size 24 #[.int .i64 k, .int .u64 (a : Int), .int .u64 (b : Int)] ∧ Whole w2 (w.heap.size + 1) 27 #[.int .i64 sn, .slice ao_ss ss.length c_ss] ∧ Below w.heap.size w w2) := Lib.hid ⟨HS1.out.1.below hb, HS1.out.2.1.below hb, Bel_next HS1.out.2.2 hb⟩
    clear HS1 hb
    have hc0 := (HS2.out.1).facts.1
    have hf0 := (HS2.out.1).facts.2
    have hz0 := (HS2.out.1).lt
    have hc1 := (HS2.out.2.1).facts.1
    have hf1 := (HS2.out.2.1).facts.2
    have hz1 := (HS2.out.2.1).lt
    go_wp2_with fail
    clear hc0 hf0 hz0
    clear hc1 hf1 hz1
    go_ret
    exact ⟨rfl, Bel_next HS2.out.2.2 (by repeat (first | with_reducible exact Below.refl _ _ | with_reducible refine Below.drew ?_ | with_reducible refine Bel_drewN ?_ _ | with_reducible refine Below.alloc ?_ (by first | omega | (simp; done) | (simp; omega)) _ | with_reducible refine Below.setCell ?_ (by first | omega | (simp; done) | (simp; omega)) _))⟩
  have HL0 := Lib.hid hl0
  have hn_ss : ss.length ≤ 1048576 := by omega
  clear hl0
  have HX_ss := Lib.hid hx_ss
  clear hx_ss
  by_cases hv0 : vSeed k a b = true ∧ isState sn ss fr ∧ 0 ≤ st ∧ st ≤ 512
  · have HV := Lib.hid hv0
    clear hv0
    have hst : st.toNat + 1 ≤ 513 := by have := HV.out.2.2; omega
    go_enter Try.func3, Try.ntmps3
    have HS0 : Hid (Below w.heap.size w w) := Lib.hid (Below.refl _ _)
    go_wp2_with fail
    generalize hW : World.alloc (World.alloc w _) _ = w1
    have hb : Below w.heap.size w w1 := by rw [← hW]; exact (by repeat (first | with_reducible exact Below.refl _ _ | with_reducible refine Below.drew ?_ | with_reducible refine Bel_drewN ?_ _ | with_reducible refine Below.alloc ?_ (by first | omega | (simp; done) | (simp; omega)) _ | with_reducible refine Below.setCell ?_ (by first | omega | (simp; done) | (simp; omega)) _))
    have z1 : w.heap.size + 2 ≤ w1.heap.size := by rw [← hW]; simp
    have HS1 : Hid (Whole w1 w.heap.size 24 #[.int .i64 k, .int .u64 (a : Int), .int .u64 (b : Int)] ∧ Whole w1 (w.heap.size + 1) 27 #[.int .i64 sn, .slice ao_ss ss.length c_ss] ∧ Below w.heap.size w w1) := Lib.hid ⟨by rw [← hW]; exact (Whole.made _ _ _).alloc _, by rw [← hW]; exact Whole.made2 _ _ _ _, Bel_next HS0.out hb⟩
    clear HS0 hW hb
    refine (szChain_yes sn ss _ _ (1048576) _ HL0.out (by omega)).mono ?_
    rintro e w2 ⟨rfl, hb⟩
    have z2 : w1.heap.size ≤ w2.heap.size := hb.size
    have HS2 : Hid (Whole w2 w.heap.size 24 #[.int .i64 k, .int .u64 (a : Int), .int .u64 (b : Int)] ∧ Whole w2 (w.heap.size + 1) 27 #[.int .i64 sn, .slice ao_ss ss.length c_ss] ∧ Below w.heap.size w w2) := Lib.hid ⟨HS1.out.1.below hb, HS1.out.2.1.below hb, Bel_next HS1.out.2.2 hb⟩
    clear HS1 hb
    have hc0 := (HS2.out.1).facts.1
    have hf0 := (HS2.out.1).facts.2
    have hz0 := (HS2.out.1).lt
    have hc1 := (HS2.out.2.1).facts.1
    have hf1 := (HS2.out.2.1).facts.2
    have hz1 := (HS2.out.2.1).lt
    go_wp2_with fail
    clear hc0 hf0 hz0
    clear hc1 hf1 hz1
    have HK : Hid (∀ v v' : World, (v.cell? ⟨w.heap.size, 0, none⟩ = some (.int .i64 k) ∧ v.cell? ⟨w.heap.size, 1, none⟩ = some (.int .u64 (a : Int)) ∧ v.cell? ⟨w.heap.size, 2, none⟩ = some (.int .u64 (b : Int)) ∧ v.cell? ⟨(w.heap.size + 1), 0, none⟩ = some (.int .i64 sn) ∧ v.cell? ⟨(w.heap.size + 1), 1, none⟩ = some (.slice ao_ss ss.length c_ss) ∧ w2.heap.size ≤ v.heap.size ∧ Whole v w.heap.size 24 #[.int .i64 k, .int .u64 (a : Int), .int .u64 (b : Int)] ∧ Whole v (w.heap.size + 1) 27 #[.int .i64 sn, .slice ao_ss ss.length c_ss] ∧ Below w.heap.size w v) → Below v.heap.size v v' → (v'.cell? ⟨w.heap.size, 0, none⟩ = some (.int .i64 k) ∧ v'.cell? ⟨w.heap.size, 1, none⟩ = some (.int .u64 (a : Int)) ∧ v'.cell? ⟨w.heap.size, 2, none⟩ = some (.int .u64 (b : Int)) ∧ v'.cell? ⟨(w.heap.size + 1), 0, none⟩ = some (.int .i64 sn) ∧ v'.cell? ⟨(w.heap.size + 1), 1, none⟩ = some (.slice ao_ss ss.length c_ss) ∧ w2.heap.size ≤ v'.heap.size ∧ Whole v' w.heap.size 24 #[.int .i64 k, .int .u64 (a : Int), .int .u64 (b : Int)] ∧ Whole v' (w.heap.size + 1) 27 #[.int .i64 sn, .slice ao_ss ss.length c_ss] ∧ Below w.heap.size w v')) := Lib.hid (fun v v' h hb => ⟨(by rw [Below.cell hb (World.block_lt_of_cell? _ _ h.1)]; exact h.1), (by rw [Below.cell hb (World.block_lt_of_cell? _ _ h.2.1)]; exact h.2.1), (by rw [Below.cell hb (World.block_lt_of_cell? _ _ h.2.2.1)]; exact h.2.2.1), (by rw [Below.cell hb (World.block_lt_of_cell? _ _ h.2.2.2.1)]; exact h.2.2.2.1), (by rw [Below.cell hb (World.block_lt_of_cell? _ _ h.2.2.2.2.1)]; exact h.2.2.2.2.1), Nat.le_trans h.2.2.2.2.2.1 hb.size, h.2.2.2.2.2.2.1.below hb, h.2.2.2.2.2.2.2.1.below hb, Bel_next h.2.2.2.2.2.2.2.2 hb⟩)
    have HP : Hid (∀ v : World, (v.cell? ⟨w.heap.size, 0, none⟩ = some (.int .i64 k) ∧ v.cell? ⟨w.heap.size, 1, none⟩ = some (.int .u64 (a : Int)) ∧ v.cell? ⟨w.heap.size, 2, none⟩ = some (.int .u64 (b : Int)) ∧ v.cell? ⟨(w.heap.size + 1), 0, none⟩ = some (.int .i64 sn) ∧ v.cell? ⟨(w.heap.size + 1), 1, none⟩ = some (.slice ao_ss ss.length c_ss) ∧ w2.heap.size ≤ v.heap.size ∧ Whole v w.heap.size 24 #[.int .i64 k, .int .u64 (a : Int), .int .u64 (b : Int)] ∧ Whole v (w.heap.size + 1) 27 #[.int .i64 sn, .slice ao_ss ss.length c_ss] ∧ Below w.heap.size w v) → (Whole v w.heap.size 24 #[.int .i64 k, .int .u64 (a : Int), .int .u64 (b : Int)] ∧ Whole v (w.heap.size + 1) 27 #[.int .i64 sn, .slice ao_ss ss.length c_ss] ∧ Below w.heap.size w v)) := Lib.hid (fun v h => h.2.2.2.2.2.2)
    have hR : w2.cell? ⟨w.heap.size, 0, none⟩ = some (.int .i64 k) ∧ w2.cell? ⟨w.heap.size, 1, none⟩ = some (.int .u64 (a : Int)) ∧ w2.cell? ⟨w.heap.size, 2, none⟩ = some (.int .u64 (b : Int)) ∧ w2.cell? ⟨(w.heap.size + 1), 0, none⟩ = some (.int .i64 sn) ∧ w2.cell? ⟨(w.heap.size + 1), 1, none⟩ = some (.slice ao_ss ss.length c_ss) ∧ w2.heap.size ≤ w2.heap.size ∧ Whole w2 w.heap.size 24 #[.int .i64 k, .int .u64 (a : Int), .int .u64 (b : Int)] ∧ Whole w2 (w.heap.size + 1) 27 #[.int .i64 sn, .slice ao_ss ss.length c_ss] ∧ Below w.heap.size w w2 := ⟨(HS2.out.1).cell 0, (HS2.out.1).cell 1, (HS2.out.1).cell 2, (HS2.out.2.1).cell 0, (HS2.out.2.1).cell 1, Nat.le_refl _, HS2.out.1, HS2.out.2.1, HS2.out.2.2⟩
    have HK2 : Hid (∀ (v : World) (q : Addr) (u : Value), (v.cell? ⟨w.heap.size, 0, none⟩ = some (.int .i64 k) ∧ v.cell? ⟨w.heap.size, 1, none⟩ = some (.int .u64 (a : Int)) ∧ v.cell? ⟨w.heap.size, 2, none⟩ = some (.int .u64 (b : Int)) ∧ v.cell? ⟨(w.heap.size + 1), 0, none⟩ = some (.int .i64 sn) ∧ v.cell? ⟨(w.heap.size + 1), 1, none⟩ = some (.slice ao_ss ss.length c_ss) ∧ w2.heap.size ≤ v.heap.size ∧ Whole v w.heap.size 24 #[.int .i64 k, .int .u64 (a : Int), .int .u64 (b : Int)] ∧ Whole v (w.heap.size + 1) 27 #[.int .i64 sn, .slice ao_ss ss.length c_ss] ∧ Below w.heap.size w v) → w2.heap.size ≤ q.block → ((v.setCell q u).cell? ⟨w.heap.size, 0, none⟩ = some (.int .i64 k) ∧ (v.setCell q u).cell? ⟨w.heap.size, 1, none⟩ = some (.int .u64 (a : Int)) ∧ (v.setCell q u).cell? ⟨w.heap.size, 2, none⟩ = some (.int .u64 (b : Int)) ∧ (v.setCell q u).cell? ⟨(w.heap.size + 1), 0, none⟩ = some (.int .i64 sn) ∧ (v.setCell q u).cell? ⟨(w.heap.size + 1), 1, none⟩ = some (.slice ao_ss ss.length c_ss) ∧ w2.heap.size ≤ (v.setCell q u).heap.size ∧ Whole (v.setCell q u) w.heap.size 24 #[.int .i64 k, .int .u64 (a : Int), .int .u64 (b : Int)] ∧ Whole (v.setCell q u) (w.heap.size + 1) 27 #[.int .i64 sn, .slice ao_ss ss.length c_ss] ∧ Below w.heap.size w (v.setCell q u))) := Lib.hid (fun v q u h hq => ⟨((World.cell?_of_block (a := ⟨w.heap.size, 0, none⟩) (Below.heap_setCell v q u _ (by show ¬ _ = _; simp only []; omega))).trans h.1), ((World.cell?_of_block (a := ⟨w.heap.size, 1, none⟩) (Below.heap_setCell v q u _ (by show ¬ _ = _; simp only []; omega))).trans h.2.1), ((World.cell?_of_block (a := ⟨w.heap.size, 2, none⟩) (Below.heap_setCell v q u _ (by show ¬ _ = _; simp only []; omega))).trans h.2.2.1), ((World.cell?_of_block (a := ⟨(w.heap.size + 1), 0, none⟩) (Below.heap_setCell v q u _ (by show ¬ _ = _; simp only []; omega))).trans h.2.2.2.1), ((World.cell?_of_block (a := ⟨(w.heap.size + 1), 1, none⟩) (Below.heap_setCell v q u _ (by show ¬ _ = _; simp only []; omega))).trans h.2.2.2.2.1), (by simpa using h.2.2.2.2.2.1), h.2.2.2.2.2.2.1.far (by omega) _, h.2.2.2.2.2.2.2.1.far (by omega) _, Below.setCell h.2.2.2.2.2.2.2.2 (by omega) _⟩)
    go_cut [10, 11, 12] from 23 (fun s0 s1 s2 wx => ∃ (gN : Nat) (aos : Option Addr) (ccs : Nat), s0 = .pointer (some ⟨gN, 0, none⟩) ∧ s1 = .slice aos (st.toNat + 1) ccs ∧ s2 = .bool true ∧ w2.heap.size ≤ gN ∧ Whole wx gN 29 #[.int .i64 k, .int .u64 ((sdK k a b st.toNat).1 : Int), .int .u64 ((sdK k a b st.toNat).2 : Int)] ∧ (∃ rl3 rh3 : Nat, Row wx rl3 rh3 aos (il (walkL sn.toNat ss k a b fr.toNat st.toNat)) ∧ w2.heap.size ≤ rl3 ∧ rl3 ≤ rh3 ∧ rh3 ≤ wx.heap.size ∧ (gN < rl3 ∨ rh3 ≤ gN)) ∧ Whole wx w.heap.size 24 #[.int .i64 k, .int .u64 (a : Int), .int .u64 (b : Int)] ∧ Whole wx (w.heap.size + 1) 27 #[.int .i64 sn, .slice ao_ss ss.length c_ss] ∧ Below w.heap.size w wx)
    case first =>
      go_region_held3 (fun v => v.cell? ⟨w.heap.size, 0, none⟩ = some (.int .i64 k) ∧ v.cell? ⟨w.heap.size, 1, none⟩ = some (.int .u64 (a : Int)) ∧ v.cell? ⟨w.heap.size, 2, none⟩ = some (.int .u64 (b : Int)) ∧ v.cell? ⟨(w.heap.size + 1), 0, none⟩ = some (.int .i64 sn) ∧ v.cell? ⟨(w.heap.size + 1), 1, none⟩ = some (.slice ao_ss ss.length c_ss) ∧ w2.heap.size ≤ v.heap.size ∧ Whole v w.heap.size 24 #[.int .i64 k, .int .u64 (a : Int), .int .u64 (b : Int)] ∧ Whole v (w.heap.size + 1) 27 #[.int .i64 sn, .slice ao_ss ss.length c_ss] ∧ Below w.heap.size w v)
        (first | with_reducible assumption | with_reducible exact HSv2.out | with_reducible exact HSv1.out | with_reducible exact HSv0.out | ((with_reducible refine HK.out _ _ HSv2.out ?_); (repeat (first | with_reducible exact Below.refl _ _ | with_reducible refine Below.drew ?_ | with_reducible refine Bel_drewN ?_ _ | with_reducible refine Below.alloc ?_ (by first | omega | (simp; done) | (simp; omega)) _ | with_reducible refine Below.setCell ?_ (by first | omega | (simp; done) | (simp; omega)) _)); done) | ((with_reducible refine HK.out _ _ HSv1.out ?_); (repeat (first | with_reducible exact Below.refl _ _ | with_reducible refine Below.drew ?_ | with_reducible refine Bel_drewN ?_ _ | with_reducible refine Below.alloc ?_ (by first | omega | (simp; done) | (simp; omega)) _ | with_reducible refine Below.setCell ?_ (by first | omega | (simp; done) | (simp; omega)) _)); done) | ((with_reducible refine HK.out _ _ HSv0.out ?_); (repeat (first | with_reducible exact Below.refl _ _ | with_reducible refine Below.drew ?_ | with_reducible refine Bel_drewN ?_ _ | with_reducible refine Below.alloc ?_ (by first | omega | (simp; done) | (simp; omega)) _ | with_reducible refine Below.setCell ?_ (by first | omega | (simp; done) | (simp; omega)) _)); done) | ((with_reducible refine HK.out w2 _ hR ?_); (repeat (first | with_reducible exact Below.refl _ _ | with_reducible refine Below.drew ?_ | with_reducible refine Bel_drewN ?_ _ | with_reducible refine Below.alloc ?_ (by first | omega | (simp; done) | (simp; omega)) _ | with_reducible refine Below.setCell ?_ (by first | omega | (simp; done) | (simp; omega)) _)); done) | ((with_reducible refine HK2.out _ _ _ HSv2.out ?_) <;> (first | omega | (simp; done) | (simp; omega))) | ((with_reducible refine HK2.out _ _ _ (HK2.out _ _ _ HSv2.out ?_) ?_) <;> (first | omega | (simp; done) | (simp; omega))) | ((with_reducible refine HK2.out _ _ _ (HK2.out _ _ _ (HK2.out _ _ _ HSv2.out ?_) ?_) ?_) <;> (first | omega | (simp; done) | (simp; omega))) | exact HK.out _ _ (by with_reducible assumption) (by with_reducible assumption))
        (first | (go_at_call 17; refine (toSeed_ret k a b _).mono ?_; rintro e wt0 ⟨rfl, hbt0⟩; have zz0 := hbt0.size; (try simp at zz0); have HSv0 := Lib.hid (HK.out _ _ (by with_reducible assumption) hbt0); obtain ⟨kc0, kf0⟩ := cells_kept hbt0; (try have zt0_0 : w2.heap.size < wt0.heap.size := by omega)) | (go_at_call 18; refine (toChain_any sn ss _ _ _ (Holds.below HX_ss.out (HP.out _ (by assumption)).2.2) hn_ss).mono ?_; rintro e wt1 ⟨aosd_ss, rfl, rowsd_ss, hbt1⟩; have zz1 := hbt1.size; (try simp at zz1); have HSv1 := Lib.hid (HK.out _ _ (by with_reducible assumption) hbt1); obtain ⟨kc1, kf1⟩ := cells_kept hbt1; (try have zt1_0 : w2.heap.size < wt1.heap.size := by omega); (try have zt1_1 : wt0.heap.size < wt1.heap.size := by omega)) | (go_at_call 16; refine (specWalk_is k a b sn fr st ss _ _ _ _ h_a h_b rfl (by first | exact (rowsd_ss).holds | (refine (Row.below rowsd_ss ?_).holds; (repeat (first | with_reducible exact Below.refl _ _ | with_reducible refine Below.drew ?_ | with_reducible refine Bel_drewN ?_ _ | with_reducible refine Below.alloc ?_ (by first | omega | (simp; done) | (simp; omega)) _ | with_reducible refine Below.setCell ?_ (by first | omega | (simp; done) | (simp; omega)) _)); done)) HV.out).mono ?_; rintro e w3 ⟨aos, ccs, rfl, rows, hb⟩; have zz2 := hb.size; (try simp at zz2); have HSv2 := Lib.hid (HK.out _ _ (by with_reducible assumption) hb); obtain ⟨kc2, kf2⟩ := cells_kept hb; (try have zt2_0 : w2.heap.size < w3.heap.size := by omega); (try have zt2_1 : wt0.heap.size < w3.heap.size := by omega); (try have zt2_2 : wt1.heap.size < w3.heap.size := by omega)))
      all_goals
        go_wp2_with fail
        go_meet
        refine ⟨_, aos, ccs, rfl, rfl, rfl, ?_, ?_, ?_, ?_⟩
        · first | omega | (simp; done) | (simp; omega)
        · first | exact Whole.made _ _ _ | (have hq := (((Whole.made _ _ _).below hbt0).below hbt1).below hb; exact (((hq).put 0 _).put 1 _).put 2 _) | (have hq := ((((Whole.made _ _ _).drew).below hbt0).below hbt1).below hb; exact (((hq).put 0 _).put 1 _).put 2 _) | (have hq := ((Whole.made _ _ _).below hbt1).below hb; exact (((hq).put 0 _).put 1 _).put 2 _) | (have hq := (Whole.made _ _ _).below hb; exact (((hq).put 0 _).put 1 _).put 2 _)
        · first | exact ⟨_, _, (Row.far (Row.far (Row.far rows (by first | (left; (first | omega | (simp; done) | (simp; omega))) | (right; (first | omega | (simp; done) | (simp; omega)))) _) (by first | (left; (first | omega | (simp; done) | (simp; omega))) | (right; (first | omega | (simp; done) | (simp; omega)))) _) (by first | (left; (first | omega | (simp; done) | (simp; omega))) | (right; (first | omega | (simp; done) | (simp; omega)))) _), (by first | omega | (simp; done) | (simp; omega)), (by first | omega | (simp; done) | (simp; omega)), (by first | omega | (simp; done) | (simp; omega)), (by first | (left; (first | omega | (simp; done) | (simp; omega))) | (right; (first | omega | (simp; done) | (simp; omega))))⟩ | exact ⟨_, _, Row.alloc rows _, (by first | omega | (simp; done) | (simp; omega)), (by first | omega | (simp; done) | (simp; omega)), (by first | omega | (simp; done) | (simp; omega)), (by first | (left; (first | omega | (simp; done) | (simp; omega))) | (right; (first | omega | (simp; done) | (simp; omega))))⟩ | exact ⟨_, _, (Row.far (Row.far (Row.far (Row.alloc rows _) (by first | (left; (first | omega | (simp; done) | (simp; omega))) | (right; (first | omega | (simp; done) | (simp; omega)))) _) (by first | (left; (first | omega | (simp; done) | (simp; omega))) | (right; (first | omega | (simp; done) | (simp; omega)))) _) (by first | (left; (first | omega | (simp; done) | (simp; omega))) | (right; (first | omega | (simp; done) | (simp; omega)))) _), (by first | omega | (simp; done) | (simp; omega)), (by first | omega | (simp; done) | (simp; omega)), (by first | omega | (simp; done) | (simp; omega)), (by first | (left; (first | omega | (simp; done) | (simp; omega))) | (right; (first | omega | (simp; done) | (simp; omega))))⟩
        · first | (refine HP.out _ (HK.out _ _ HSv2.out ?_); (repeat (first | with_reducible exact Below.refl _ _ | with_reducible refine Below.drew ?_ | with_reducible refine Bel_drewN ?_ _ | with_reducible refine Below.alloc ?_ (by first | omega | (simp; done) | (simp; omega)) _ | with_reducible refine Below.setCell ?_ (by first | omega | (simp; done) | (simp; omega)) _)); done) | exact HP.out _ (HK2.out _ _ _ (HK2.out _ _ _ (HK2.out _ _ _ HSv2.out (by first | omega | (simp; done) | (simp; omega))) (by first | omega | (simp; done) | (simp; omega))) (by first | omega | (simp; done) | (simp; omega)))
    case rest =>
      obtain ⟨gN, aos, ccs, rfl, rfl, rfl, hle, hW, ⟨rl3, rh3, hrow0, hra3, hrb3, hrc3, hrd3⟩, hS⟩ := hcut
      rename World => w3
      have z3 : w2.heap.size ≤ w3.heap.size := by have := hW.lt; omega
      obtain ⟨gN3, hgN⟩ : ∃ g, g = gN := ⟨_, rfl⟩
      subst hgN
      have ygN3 : gN3 < w3.heap.size := hW.lt
      have xgN3 : w2.heap.size ≤ gN3 := hle
      have HS3 : Hid (Whole w3 w.heap.size 24 #[.int .i64 k, .int .u64 (a : Int), .int .u64 (b : Int)] ∧ Whole w3 (w.heap.size + 1) 27 #[.int .i64 sn, .slice ao_ss ss.length c_ss] ∧ Row w3 rl3 rh3 aos (il (walkL sn.toNat ss k a b fr.toNat st.toNat)) ∧ Whole w3 gN3 29 #[.int .i64 k, .int .u64 ((sdK k a b st.toNat).1 : Int), .int .u64 ((sdK k a b st.toNat).2 : Int)] ∧ Below w.heap.size w w3) := Lib.hid ⟨hS.1, hS.2.1, hrow0, hW, hS.2.2⟩
      clear HS2 HK HP HK2 hR hle hW hS hrow0
      have hc0 := (HS3.out.1).facts.1
      have hf0 := (HS3.out.1).facts.2
      have hz0 := (HS3.out.1).lt
      have hc1 := (HS3.out.2.1).facts.1
      have hf1 := (HS3.out.2.1).facts.2
      have hz1 := (HS3.out.2.1).lt
      have hc3 := (HS3.out.2.2.2.1).facts.1
      have hf3 := (HS3.out.2.2.2.1).facts.2
      have hz3 := (HS3.out.2.2.2.1).lt
      go_wp2_with fail
      clear hc0 hf0 hz0
      clear hc1 hf1 hz1
      clear hc3 hf3 hz3
      refine (toChain_any sn ss _ _ _ (Holds.below HX_ss.out HS3.out.2.2.2.2) hn_ss).mono ?_
      rintro e w4 ⟨aoX_ss, rfl, rowX_ss, hb⟩
      have z4 : w3.heap.size ≤ w4.heap.size := hb.size
      have HS4 : Hid (Whole w4 w.heap.size 24 #[.int .i64 k, .int .u64 (a : Int), .int .u64 (b : Int)] ∧ Whole w4 (w.heap.size + 1) 27 #[.int .i64 sn, .slice ao_ss ss.length c_ss] ∧ Row w4 rl3 rh3 aos (il (walkL sn.toNat ss k a b fr.toNat st.toNat)) ∧ Whole w4 gN3 29 #[.int .i64 k, .int .u64 ((sdK k a b st.toNat).1 : Int), .int .u64 ((sdK k a b st.toNat).2 : Int)] ∧ Row w4 w3.heap.size w4.heap.size aoX_ss (fl .f32 ss) ∧ Below w.heap.size w w4) := Lib.hid ⟨HS3.out.1.below hb, HS3.out.2.1.below hb, HS3.out.2.2.1.below hb, HS3.out.2.2.2.1.below hb, rowX_ss, Bel_next HS3.out.2.2.2.2 hb⟩
      clear HS3 hb rowX_ss
      have hc0 := (HS4.out.1).facts.1
      have hf0 := (HS4.out.1).facts.2
      have hz0 := (HS4.out.1).lt
      have hc1 := (HS4.out.2.1).facts.1
      have hf1 := (HS4.out.2.1).facts.2
      have hz1 := (HS4.out.2.1).lt
      have hc3 := (HS4.out.2.2.2.1).facts.1
      have hf3 := (HS4.out.2.2.2.1).facts.2
      have hz3 := (HS4.out.2.2.2.1).lt
      go_wp2_with fail
      clear hc0 hf0 hz0
      clear hc1 hf1 hz1
      clear hc3 hf3 hz3
      generalize hW : World.alloc w4 _ = w5
      have hb : Below w4.heap.size w4 w5 := by rw [← hW]; exact (by repeat (first | with_reducible exact Below.refl _ _ | with_reducible refine Below.drew ?_ | with_reducible refine Bel_drewN ?_ _ | with_reducible refine Below.alloc ?_ (by first | omega | (simp; done) | (simp; omega)) _ | with_reducible refine Below.setCell ?_ (by first | omega | (simp; done) | (simp; omega)) _))
      have z5 : w4.heap.size + 1 ≤ w5.heap.size := by rw [← hW]; simp
      have HS5 : Hid (Whole w5 w.heap.size 24 #[.int .i64 k, .int .u64 (a : Int), .int .u64 (b : Int)] ∧ Whole w5 (w.heap.size + 1) 27 #[.int .i64 sn, .slice ao_ss ss.length c_ss] ∧ Row w5 rl3 rh3 aos (il (walkL sn.toNat ss k a b fr.toNat st.toNat)) ∧ Whole w5 gN3 29 #[.int .i64 k, .int .u64 ((sdK k a b st.toNat).1 : Int), .int .u64 ((sdK k a b st.toNat).2 : Int)] ∧ Row w5 w3.heap.size w4.heap.size aoX_ss (fl .f32 ss) ∧ Whole w5 w4.heap.size 34 #[.int .i64 sn, .slice aoX_ss ss.length ss.length] ∧ Below w.heap.size w w5) := Lib.hid ⟨HS4.out.1.below hb, HS4.out.2.1.below hb, HS4.out.2.2.1.below hb, HS4.out.2.2.2.1.below hb, HS4.out.2.2.2.2.1.below hb, by rw [← hW]; exact Whole.made _ _ _, Bel_next HS4.out.2.2.2.2.2 hb⟩
      clear HS4 hW hb
      have HK : Hid (∀ v v' : World, (v.cell? ⟨w.heap.size, 0, none⟩ = some (.int .i64 k) ∧ v.cell? ⟨w.heap.size, 1, none⟩ = some (.int .u64 (a : Int)) ∧ v.cell? ⟨w.heap.size, 2, none⟩ = some (.int .u64 (b : Int)) ∧ v.cell? ⟨w4.heap.size, 0, none⟩ = some (.int .i64 sn) ∧ v.cell? ⟨w4.heap.size, 1, none⟩ = some (.slice aoX_ss ss.length ss.length) ∧ w5.heap.size ≤ v.heap.size ∧ Whole v w.heap.size 24 #[.int .i64 k, .int .u64 (a : Int), .int .u64 (b : Int)] ∧ Whole v (w.heap.size + 1) 27 #[.int .i64 sn, .slice ao_ss ss.length c_ss] ∧ Row v rl3 rh3 aos (il (walkL sn.toNat ss k a b fr.toNat st.toNat)) ∧ Whole v gN3 29 #[.int .i64 k, .int .u64 ((sdK k a b st.toNat).1 : Int), .int .u64 ((sdK k a b st.toNat).2 : Int)] ∧ Row v w3.heap.size w4.heap.size aoX_ss (fl .f32 ss) ∧ Whole v w4.heap.size 34 #[.int .i64 sn, .slice aoX_ss ss.length ss.length] ∧ Below w.heap.size w v) → Below v.heap.size v v' → (v'.cell? ⟨w.heap.size, 0, none⟩ = some (.int .i64 k) ∧ v'.cell? ⟨w.heap.size, 1, none⟩ = some (.int .u64 (a : Int)) ∧ v'.cell? ⟨w.heap.size, 2, none⟩ = some (.int .u64 (b : Int)) ∧ v'.cell? ⟨w4.heap.size, 0, none⟩ = some (.int .i64 sn) ∧ v'.cell? ⟨w4.heap.size, 1, none⟩ = some (.slice aoX_ss ss.length ss.length) ∧ w5.heap.size ≤ v'.heap.size ∧ Whole v' w.heap.size 24 #[.int .i64 k, .int .u64 (a : Int), .int .u64 (b : Int)] ∧ Whole v' (w.heap.size + 1) 27 #[.int .i64 sn, .slice ao_ss ss.length c_ss] ∧ Row v' rl3 rh3 aos (il (walkL sn.toNat ss k a b fr.toNat st.toNat)) ∧ Whole v' gN3 29 #[.int .i64 k, .int .u64 ((sdK k a b st.toNat).1 : Int), .int .u64 ((sdK k a b st.toNat).2 : Int)] ∧ Row v' w3.heap.size w4.heap.size aoX_ss (fl .f32 ss) ∧ Whole v' w4.heap.size 34 #[.int .i64 sn, .slice aoX_ss ss.length ss.length] ∧ Below w.heap.size w v')) := Lib.hid (fun v v' h hb => ⟨(by rw [Below.cell hb (World.block_lt_of_cell? _ _ h.1)]; exact h.1), (by rw [Below.cell hb (World.block_lt_of_cell? _ _ h.2.1)]; exact h.2.1), (by rw [Below.cell hb (World.block_lt_of_cell? _ _ h.2.2.1)]; exact h.2.2.1), (by rw [Below.cell hb (World.block_lt_of_cell? _ _ h.2.2.2.1)]; exact h.2.2.2.1), (by rw [Below.cell hb (World.block_lt_of_cell? _ _ h.2.2.2.2.1)]; exact h.2.2.2.2.1), Nat.le_trans h.2.2.2.2.2.1 hb.size, h.2.2.2.2.2.2.1.below hb, h.2.2.2.2.2.2.2.1.below hb, h.2.2.2.2.2.2.2.2.1.below hb, h.2.2.2.2.2.2.2.2.2.1.below hb, h.2.2.2.2.2.2.2.2.2.2.1.below hb, h.2.2.2.2.2.2.2.2.2.2.2.1.below hb, Bel_next h.2.2.2.2.2.2.2.2.2.2.2.2 hb⟩)
      have HP : Hid (∀ v : World, (v.cell? ⟨w.heap.size, 0, none⟩ = some (.int .i64 k) ∧ v.cell? ⟨w.heap.size, 1, none⟩ = some (.int .u64 (a : Int)) ∧ v.cell? ⟨w.heap.size, 2, none⟩ = some (.int .u64 (b : Int)) ∧ v.cell? ⟨w4.heap.size, 0, none⟩ = some (.int .i64 sn) ∧ v.cell? ⟨w4.heap.size, 1, none⟩ = some (.slice aoX_ss ss.length ss.length) ∧ w5.heap.size ≤ v.heap.size ∧ Whole v w.heap.size 24 #[.int .i64 k, .int .u64 (a : Int), .int .u64 (b : Int)] ∧ Whole v (w.heap.size + 1) 27 #[.int .i64 sn, .slice ao_ss ss.length c_ss] ∧ Row v rl3 rh3 aos (il (walkL sn.toNat ss k a b fr.toNat st.toNat)) ∧ Whole v gN3 29 #[.int .i64 k, .int .u64 ((sdK k a b st.toNat).1 : Int), .int .u64 ((sdK k a b st.toNat).2 : Int)] ∧ Row v w3.heap.size w4.heap.size aoX_ss (fl .f32 ss) ∧ Whole v w4.heap.size 34 #[.int .i64 sn, .slice aoX_ss ss.length ss.length] ∧ Below w.heap.size w v) → (Whole v w.heap.size 24 #[.int .i64 k, .int .u64 (a : Int), .int .u64 (b : Int)] ∧ Whole v (w.heap.size + 1) 27 #[.int .i64 sn, .slice ao_ss ss.length c_ss] ∧ Row v rl3 rh3 aos (il (walkL sn.toNat ss k a b fr.toNat st.toNat)) ∧ Whole v gN3 29 #[.int .i64 k, .int .u64 ((sdK k a b st.toNat).1 : Int), .int .u64 ((sdK k a b st.toNat).2 : Int)] ∧ Row v w3.heap.size w4.heap.size aoX_ss (fl .f32 ss) ∧ Whole v w4.heap.size 34 #[.int .i64 sn, .slice aoX_ss ss.length ss.length] ∧ Below w.heap.size w v)) := Lib.hid (fun v h => h.2.2.2.2.2.2)
      have hR : w5.cell? ⟨w.heap.size, 0, none⟩ = some (.int .i64 k) ∧ w5.cell? ⟨w.heap.size, 1, none⟩ = some (.int .u64 (a : Int)) ∧ w5.cell? ⟨w.heap.size, 2, none⟩ = some (.int .u64 (b : Int)) ∧ w5.cell? ⟨w4.heap.size, 0, none⟩ = some (.int .i64 sn) ∧ w5.cell? ⟨w4.heap.size, 1, none⟩ = some (.slice aoX_ss ss.length ss.length) ∧ w5.heap.size ≤ w5.heap.size ∧ Whole w5 w.heap.size 24 #[.int .i64 k, .int .u64 (a : Int), .int .u64 (b : Int)] ∧ Whole w5 (w.heap.size + 1) 27 #[.int .i64 sn, .slice ao_ss ss.length c_ss] ∧ Row w5 rl3 rh3 aos (il (walkL sn.toNat ss k a b fr.toNat st.toNat)) ∧ Whole w5 gN3 29 #[.int .i64 k, .int .u64 ((sdK k a b st.toNat).1 : Int), .int .u64 ((sdK k a b st.toNat).2 : Int)] ∧ Row w5 w3.heap.size w4.heap.size aoX_ss (fl .f32 ss) ∧ Whole w5 w4.heap.size 34 #[.int .i64 sn, .slice aoX_ss ss.length ss.length] ∧ Below w.heap.size w w5 := ⟨(HS5.out.1).cell 0, (HS5.out.1).cell 1, (HS5.out.1).cell 2, (HS5.out.2.2.2.2.2.1).cell 0, (HS5.out.2.2.2.2.2.1).cell 1, Nat.le_refl _, HS5.out.1, HS5.out.2.1, HS5.out.2.2.1, HS5.out.2.2.2.1, HS5.out.2.2.2.2.1, HS5.out.2.2.2.2.2.1, HS5.out.2.2.2.2.2.2⟩
      have HK2 : Hid (∀ (v : World) (q : Addr) (u : Value), (v.cell? ⟨w.heap.size, 0, none⟩ = some (.int .i64 k) ∧ v.cell? ⟨w.heap.size, 1, none⟩ = some (.int .u64 (a : Int)) ∧ v.cell? ⟨w.heap.size, 2, none⟩ = some (.int .u64 (b : Int)) ∧ v.cell? ⟨w4.heap.size, 0, none⟩ = some (.int .i64 sn) ∧ v.cell? ⟨w4.heap.size, 1, none⟩ = some (.slice aoX_ss ss.length ss.length) ∧ w5.heap.size ≤ v.heap.size ∧ Whole v w.heap.size 24 #[.int .i64 k, .int .u64 (a : Int), .int .u64 (b : Int)] ∧ Whole v (w.heap.size + 1) 27 #[.int .i64 sn, .slice ao_ss ss.length c_ss] ∧ Row v rl3 rh3 aos (il (walkL sn.toNat ss k a b fr.toNat st.toNat)) ∧ Whole v gN3 29 #[.int .i64 k, .int .u64 ((sdK k a b st.toNat).1 : Int), .int .u64 ((sdK k a b st.toNat).2 : Int)] ∧ Row v w3.heap.size w4.heap.size aoX_ss (fl .f32 ss) ∧ Whole v w4.heap.size 34 #[.int .i64 sn, .slice aoX_ss ss.length ss.length] ∧ Below w.heap.size w v) → w5.heap.size ≤ q.block → ((v.setCell q u).cell? ⟨w.heap.size, 0, none⟩ = some (.int .i64 k) ∧ (v.setCell q u).cell? ⟨w.heap.size, 1, none⟩ = some (.int .u64 (a : Int)) ∧ (v.setCell q u).cell? ⟨w.heap.size, 2, none⟩ = some (.int .u64 (b : Int)) ∧ (v.setCell q u).cell? ⟨w4.heap.size, 0, none⟩ = some (.int .i64 sn) ∧ (v.setCell q u).cell? ⟨w4.heap.size, 1, none⟩ = some (.slice aoX_ss ss.length ss.length) ∧ w5.heap.size ≤ (v.setCell q u).heap.size ∧ Whole (v.setCell q u) w.heap.size 24 #[.int .i64 k, .int .u64 (a : Int), .int .u64 (b : Int)] ∧ Whole (v.setCell q u) (w.heap.size + 1) 27 #[.int .i64 sn, .slice ao_ss ss.length c_ss] ∧ Row (v.setCell q u) rl3 rh3 aos (il (walkL sn.toNat ss k a b fr.toNat st.toNat)) ∧ Whole (v.setCell q u) gN3 29 #[.int .i64 k, .int .u64 ((sdK k a b st.toNat).1 : Int), .int .u64 ((sdK k a b st.toNat).2 : Int)] ∧ Row (v.setCell q u) w3.heap.size w4.heap.size aoX_ss (fl .f32 ss) ∧ Whole (v.setCell q u) w4.heap.size 34 #[.int .i64 sn, .slice aoX_ss ss.length ss.length] ∧ Below w.heap.size w (v.setCell q u))) := Lib.hid (fun v q u h hq => ⟨((World.cell?_of_block (a := ⟨w.heap.size, 0, none⟩) (Below.heap_setCell v q u _ (by show ¬ _ = _; simp only []; omega))).trans h.1), ((World.cell?_of_block (a := ⟨w.heap.size, 1, none⟩) (Below.heap_setCell v q u _ (by show ¬ _ = _; simp only []; omega))).trans h.2.1), ((World.cell?_of_block (a := ⟨w.heap.size, 2, none⟩) (Below.heap_setCell v q u _ (by show ¬ _ = _; simp only []; omega))).trans h.2.2.1), ((World.cell?_of_block (a := ⟨w4.heap.size, 0, none⟩) (Below.heap_setCell v q u _ (by show ¬ _ = _; simp only []; omega))).trans h.2.2.2.1), ((World.cell?_of_block (a := ⟨w4.heap.size, 1, none⟩) (Below.heap_setCell v q u _ (by show ¬ _ = _; simp only []; omega))).trans h.2.2.2.2.1), (by simpa using h.2.2.2.2.2.1), h.2.2.2.2.2.2.1.far (by omega) _, h.2.2.2.2.2.2.2.1.far (by omega) _, h.2.2.2.2.2.2.2.2.1.far (.inr (by omega)) _, h.2.2.2.2.2.2.2.2.2.1.far (by omega) _, h.2.2.2.2.2.2.2.2.2.2.1.far (.inr (by omega)) _, h.2.2.2.2.2.2.2.2.2.2.2.1.far (by omega) _, Below.setCell h.2.2.2.2.2.2.2.2.2.2.2.2 (by omega) _⟩)
      go_cut [14, 15, 16] from 23 (fun s0 s1 s2 wx => ∃ (gN : Nat) (aog : Option Addr) (ccg : Nat), s0 = .pointer (some ⟨gN, 0, none⟩) ∧ s1 = .slice aog (st.toNat + 1) ccg ∧ s2 = .bool true ∧ w5.heap.size ≤ gN ∧ Whole wx gN 29 #[.int .i64 k, .int .u64 ((sdK k a b st.toNat).1 : Int), .int .u64 ((sdK k a b st.toNat).2 : Int)] ∧ (∃ rl6 rh6 : Nat, Row wx rl6 rh6 aog (il (walkL sn.toNat ss k a b fr.toNat st.toNat)) ∧ w5.heap.size ≤ rl6 ∧ rl6 ≤ rh6 ∧ rh6 ≤ wx.heap.size ∧ (gN < rl6 ∨ rh6 ≤ gN)) ∧ Whole wx w.heap.size 24 #[.int .i64 k, .int .u64 (a : Int), .int .u64 (b : Int)] ∧ Whole wx (w.heap.size + 1) 27 #[.int .i64 sn, .slice ao_ss ss.length c_ss] ∧ Row wx rl3 rh3 aos (il (walkL sn.toNat ss k a b fr.toNat st.toNat)) ∧ Whole wx gN3 29 #[.int .i64 k, .int .u64 ((sdK k a b st.toNat).1 : Int), .int .u64 ((sdK k a b st.toNat).2 : Int)] ∧ Row wx w3.heap.size w4.heap.size aoX_ss (fl .f32 ss) ∧ Whole wx w4.heap.size 34 #[.int .i64 sn, .slice aoX_ss ss.length ss.length] ∧ Below w.heap.size w wx)
      case first =>
        go_region_held3 (fun v => v.cell? ⟨w.heap.size, 0, none⟩ = some (.int .i64 k) ∧ v.cell? ⟨w.heap.size, 1, none⟩ = some (.int .u64 (a : Int)) ∧ v.cell? ⟨w.heap.size, 2, none⟩ = some (.int .u64 (b : Int)) ∧ v.cell? ⟨w4.heap.size, 0, none⟩ = some (.int .i64 sn) ∧ v.cell? ⟨w4.heap.size, 1, none⟩ = some (.slice aoX_ss ss.length ss.length) ∧ w5.heap.size ≤ v.heap.size ∧ Whole v w.heap.size 24 #[.int .i64 k, .int .u64 (a : Int), .int .u64 (b : Int)] ∧ Whole v (w.heap.size + 1) 27 #[.int .i64 sn, .slice ao_ss ss.length c_ss] ∧ Row v rl3 rh3 aos (il (walkL sn.toNat ss k a b fr.toNat st.toNat)) ∧ Whole v gN3 29 #[.int .i64 k, .int .u64 ((sdK k a b st.toNat).1 : Int), .int .u64 ((sdK k a b st.toNat).2 : Int)] ∧ Row v w3.heap.size w4.heap.size aoX_ss (fl .f32 ss) ∧ Whole v w4.heap.size 34 #[.int .i64 sn, .slice aoX_ss ss.length ss.length] ∧ Below w.heap.size w v)
          (first | with_reducible assumption | with_reducible exact HSv1.out | with_reducible exact HSv0.out | ((with_reducible refine HK.out _ _ HSv1.out ?_); (repeat (first | with_reducible exact Below.refl _ _ | with_reducible refine Below.drew ?_ | with_reducible refine Bel_drewN ?_ _ | with_reducible refine Below.alloc ?_ (by first | omega | (simp; done) | (simp; omega)) _ | with_reducible refine Below.setCell ?_ (by first | omega | (simp; done) | (simp; omega)) _)); done) | ((with_reducible refine HK.out _ _ HSv0.out ?_); (repeat (first | with_reducible exact Below.refl _ _ | with_reducible refine Below.drew ?_ | with_reducible refine Bel_drewN ?_ _ | with_reducible refine Below.alloc ?_ (by first | omega | (simp; done) | (simp; omega)) _ | with_reducible refine Below.setCell ?_ (by first | omega | (simp; done) | (simp; omega)) _)); done) | ((with_reducible refine HK.out w5 _ hR ?_); (repeat (first | with_reducible exact Below.refl _ _ | with_reducible refine Below.drew ?_ | with_reducible refine Bel_drewN ?_ _ | with_reducible refine Below.alloc ?_ (by first | omega | (simp; done) | (simp; omega)) _ | with_reducible refine Below.setCell ?_ (by first | omega | (simp; done) | (simp; omega)) _)); done) | ((with_reducible refine HK2.out _ _ _ HSv1.out ?_) <;> (first | omega | (simp; done) | (simp; omega))) | ((with_reducible refine HK2.out _ _ _ (HK2.out _ _ _ HSv1.out ?_) ?_) <;> (first | omega | (simp; done) | (simp; omega))) | ((with_reducible refine HK2.out _ _ _ (HK2.out _ _ _ (HK2.out _ _ _ HSv1.out ?_) ?_) ?_) <;> (first | omega | (simp; done) | (simp; omega))) | exact HK.out _ _ (by with_reducible assumption) (by with_reducible assumption))
          (first | (go_at_call 17; refine (toSeed_ret k a b _).mono ?_; rintro e wt0 ⟨rfl, hbt0⟩; have zz0 := hbt0.size; (try simp at zz0); have HSv0 := Lib.hid (HK.out _ _ (by with_reducible assumption) hbt0); obtain ⟨kc0, kf0⟩ := cells_kept hbt0; (try have zt0_0 : w5.heap.size < wt0.heap.size := by omega)) | (go_at_call 19; refine (implWalk_is k a b sn fr st ss _ _ _ _ h_a h_b rfl (HP.out _ (by assumption)).2.2.2.2.1.holds (Nat.le_refl _) HV.out).mono ?_; rintro e w6 ⟨aog, ccg, rfl, rowg, hb⟩; have zz1 := hb.size; (try simp at zz1); have HSv1 := Lib.hid (HK.out _ _ (by with_reducible assumption) hb); obtain ⟨kc1, kf1⟩ := cells_kept hb; (try have zt1_0 : w5.heap.size < w6.heap.size := by omega); (try have zt1_1 : wt0.heap.size < w6.heap.size := by omega)))
        all_goals
          go_wp2_with fail
          go_meet
          refine ⟨_, aog, ccg, rfl, rfl, rfl, ?_, ?_, ?_, ?_⟩
          · first | omega | (simp; done) | (simp; omega)
          · first | exact Whole.made _ _ _ | (have hq := ((Whole.made _ _ _).below hbt0).below hb; exact (((hq).put 0 _).put 1 _).put 2 _) | (have hq := (((Whole.made _ _ _).drew).below hbt0).below hb; exact (((hq).put 0 _).put 1 _).put 2 _) | (have hq := (Whole.made _ _ _).below hb; exact (((hq).put 0 _).put 1 _).put 2 _)
          · first | exact ⟨_, _, (Row.far (Row.far (Row.far rowg (by first | (left; (first | omega | (simp; done) | (simp; omega))) | (right; (first | omega | (simp; done) | (simp; omega)))) _) (by first | (left; (first | omega | (simp; done) | (simp; omega))) | (right; (first | omega | (simp; done) | (simp; omega)))) _) (by first | (left; (first | omega | (simp; done) | (simp; omega))) | (right; (first | omega | (simp; done) | (simp; omega)))) _), (by first | omega | (simp; done) | (simp; omega)), (by first | omega | (simp; done) | (simp; omega)), (by first | omega | (simp; done) | (simp; omega)), (by first | (left; (first | omega | (simp; done) | (simp; omega))) | (right; (first | omega | (simp; done) | (simp; omega))))⟩ | exact ⟨_, _, Row.alloc rowg _, (by first | omega | (simp; done) | (simp; omega)), (by first | omega | (simp; done) | (simp; omega)), (by first | omega | (simp; done) | (simp; omega)), (by first | (left; (first | omega | (simp; done) | (simp; omega))) | (right; (first | omega | (simp; done) | (simp; omega))))⟩ | exact ⟨_, _, (Row.far (Row.far (Row.far (Row.alloc rowg _) (by first | (left; (first | omega | (simp; done) | (simp; omega))) | (right; (first | omega | (simp; done) | (simp; omega)))) _) (by first | (left; (first | omega | (simp; done) | (simp; omega))) | (right; (first | omega | (simp; done) | (simp; omega)))) _) (by first | (left; (first | omega | (simp; done) | (simp; omega))) | (right; (first | omega | (simp; done) | (simp; omega)))) _), (by first | omega | (simp; done) | (simp; omega)), (by first | omega | (simp; done) | (simp; omega)), (by first | omega | (simp; done) | (simp; omega)), (by first | (left; (first | omega | (simp; done) | (simp; omega))) | (right; (first | omega | (simp; done) | (simp; omega))))⟩
          · first | (refine HP.out _ (HK.out _ _ HSv1.out ?_); (repeat (first | with_reducible exact Below.refl _ _ | with_reducible refine Below.drew ?_ | with_reducible refine Bel_drewN ?_ _ | with_reducible refine Below.alloc ?_ (by first | omega | (simp; done) | (simp; omega)) _ | with_reducible refine Below.setCell ?_ (by first | omega | (simp; done) | (simp; omega)) _)); done) | exact HP.out _ (HK2.out _ _ _ (HK2.out _ _ _ (HK2.out _ _ _ HSv1.out (by first | omega | (simp; done) | (simp; omega))) (by first | omega | (simp; done) | (simp; omega))) (by first | omega | (simp; done) | (simp; omega)))
      case rest =>
        obtain ⟨gN, aog, ccg, rfl, rfl, rfl, hle, hW, ⟨rl6, rh6, hrow0, hra6, hrb6, hrc6, hrd6⟩, hS⟩ := hcut
        rename World => w6
        have z6 : w5.heap.size ≤ w6.heap.size := by have := hW.lt; omega
        obtain ⟨gN6, hgN⟩ : ∃ g, g = gN := ⟨_, rfl⟩
        subst hgN
        have ygN6 : gN6 < w6.heap.size := hW.lt
        have xgN6 : w5.heap.size ≤ gN6 := hle
        have HS6 : Hid (Whole w6 w.heap.size 24 #[.int .i64 k, .int .u64 (a : Int), .int .u64 (b : Int)] ∧ Whole w6 (w.heap.size + 1) 27 #[.int .i64 sn, .slice ao_ss ss.length c_ss] ∧ Row w6 rl3 rh3 aos (il (walkL sn.toNat ss k a b fr.toNat st.toNat)) ∧ Whole w6 gN3 29 #[.int .i64 k, .int .u64 ((sdK k a b st.toNat).1 : Int), .int .u64 ((sdK k a b st.toNat).2 : Int)] ∧ Row w6 w3.heap.size w4.heap.size aoX_ss (fl .f32 ss) ∧ Whole w6 w4.heap.size 34 #[.int .i64 sn, .slice aoX_ss ss.length ss.length] ∧ Row w6 rl6 rh6 aog (il (walkL sn.toNat ss k a b fr.toNat st.toNat)) ∧ Whole w6 gN6 29 #[.int .i64 k, .int .u64 ((sdK k a b st.toNat).1 : Int), .int .u64 ((sdK k a b st.toNat).2 : Int)] ∧ Below w.heap.size w w6) := Lib.hid ⟨hS.1, hS.2.1, hS.2.2.1, hS.2.2.2.1, hS.2.2.2.2.1, hS.2.2.2.2.2.1, hrow0, hW, hS.2.2.2.2.2.2⟩
        clear HS5 HK HP HK2 hR hle hW hS hrow0
        have hc0 := (HS6.out.1).facts.1
        have hf0 := (HS6.out.1).facts.2
        have hz0 := (HS6.out.1).lt
        have hc1 := (HS6.out.2.1).facts.1
        have hf1 := (HS6.out.2.1).facts.2
        have hz1 := (HS6.out.2.1).lt
        have hc3 := (HS6.out.2.2.2.1).facts.1
        have hf3 := (HS6.out.2.2.2.1).facts.2
        have hz3 := (HS6.out.2.2.2.1).lt
        have hc5 := (HS6.out.2.2.2.2.2.1).facts.1
        have hf5 := (HS6.out.2.2.2.2.2.1).facts.2
        have hz5 := (HS6.out.2.2.2.2.2.1).lt
        have hc7 := (HS6.out.2.2.2.2.2.2.2.1).facts.1
        have hf7 := (HS6.out.2.2.2.2.2.2.2.1).facts.2
        have hz7 := (HS6.out.2.2.2.2.2.2.2.1).lt
        go_wp2_with fail
        clear hc0 hf0 hz0
        clear hc1 hf1 hz1
        clear hc3 hf3 hz3
        clear hc5 hf5 hz5
        clear hc7 hf7 hz7
        refine (eqSeed_same _ _ _ _).mono ?_
        rintro e w7 ⟨rfl, hb⟩
        have z7 : w6.heap.size ≤ w7.heap.size := hb.size
        have HS7 : Hid (Whole w7 w.heap.size 24 #[.int .i64 k, .int .u64 (a : Int), .int .u64 (b : Int)] ∧ Whole w7 (w.heap.size + 1) 27 #[.int .i64 sn, .slice ao_ss ss.length c_ss] ∧ Row w7 rl3 rh3 aos (il (walkL sn.toNat ss k a b fr.toNat st.toNat)) ∧ Whole w7 gN3 29 #[.int .i64 k, .int .u64 ((sdK k a b st.toNat).1 : Int), .int .u64 ((sdK k a b st.toNat).2 : Int)] ∧ Row w7 w3.heap.size w4.heap.size aoX_ss (fl .f32 ss) ∧ Whole w7 w4.heap.size 34 #[.int .i64 sn, .slice aoX_ss ss.length ss.length] ∧ Row w7 rl6 rh6 aog (il (walkL sn.toNat ss k a b fr.toNat st.toNat)) ∧ Whole w7 gN6 29 #[.int .i64 k, .int .u64 ((sdK k a b st.toNat).1 : Int), .int .u64 ((sdK k a b st.toNat).2 : Int)] ∧ Below w.heap.size w w7) := Lib.hid ⟨HS6.out.1.below hb, HS6.out.2.1.below hb, HS6.out.2.2.1.below hb, HS6.out.2.2.2.1.below hb, HS6.out.2.2.2.2.1.below hb, HS6.out.2.2.2.2.2.1.below hb, HS6.out.2.2.2.2.2.2.1.below hb, HS6.out.2.2.2.2.2.2.2.1.below hb, Bel_next HS6.out.2.2.2.2.2.2.2.2 hb⟩
        clear HS6 hb
        have hc0 := (HS7.out.1).facts.1
        have hf0 := (HS7.out.1).facts.2
        have hz0 := (HS7.out.1).lt
        have hc1 := (HS7.out.2.1).facts.1
        have hf1 := (HS7.out.2.1).facts.2
        have hz1 := (HS7.out.2.1).lt
        have hc3 := (HS7.out.2.2.2.1).facts.1
        have hf3 := (HS7.out.2.2.2.1).facts.2
        have hz3 := (HS7.out.2.2.2.1).lt
        have hc5 := (HS7.out.2.2.2.2.2.1).facts.1
        have hf5 := (HS7.out.2.2.2.2.2.1).facts.2
        have hz5 := (HS7.out.2.2.2.2.2.1).lt
        have hc7 := (HS7.out.2.2.2.2.2.2.2.1).facts.1
        have hf7 := (HS7.out.2.2.2.2.2.2.2.1).facts.2
        have hz7 := (HS7.out.2.2.2.2.2.2.2.1).lt
        go_wp2_with fail
        clear hc0 hf0 hz0
        clear hc1 hf1 hz1
        clear hc3 hf3 hz3
        clear hc5 hf5 hz5
        clear hc7 hf7 hz7
        refine (eqInt64S_same (walkL sn.toNat ss k a b fr.toNat st.toNat) ((st.toNat + 1)) (walkL_len _ _ _ _ _ _ _) _ _ _ _ _ HS7.out.2.2.2.2.2.2.1.holds HS7.out.2.2.1.holds (by omega)).mono ?_
        rintro e w8 ⟨rfl, hb⟩
        have z8 : w7.heap.size ≤ w8.heap.size := hb.size
        have HS8 : Hid (Whole w8 w.heap.size 24 #[.int .i64 k, .int .u64 (a : Int), .int .u64 (b : Int)] ∧ Whole w8 (w.heap.size + 1) 27 #[.int .i64 sn, .slice ao_ss ss.length c_ss] ∧ Row w8 rl3 rh3 aos (il (walkL sn.toNat ss k a b fr.toNat st.toNat)) ∧ Whole w8 gN3 29 #[.int .i64 k, .int .u64 ((sdK k a b st.toNat).1 : Int), .int .u64 ((sdK k a b st.toNat).2 : Int)] ∧ Row w8 w3.heap.size w4.heap.size aoX_ss (fl .f32 ss) ∧ Whole w8 w4.heap.size 34 #[.int .i64 sn, .slice aoX_ss ss.length ss.length] ∧ Row w8 rl6 rh6 aog (il (walkL sn.toNat ss k a b fr.toNat st.toNat)) ∧ Whole w8 gN6 29 #[.int .i64 k, .int .u64 ((sdK k a b st.toNat).1 : Int), .int .u64 ((sdK k a b st.toNat).2 : Int)] ∧ Below w.heap.size w w8) := Lib.hid ⟨HS7.out.1.below hb, HS7.out.2.1.below hb, HS7.out.2.2.1.below hb, HS7.out.2.2.2.1.below hb, HS7.out.2.2.2.2.1.below hb, HS7.out.2.2.2.2.2.1.below hb, HS7.out.2.2.2.2.2.2.1.below hb, HS7.out.2.2.2.2.2.2.2.1.below hb, Bel_next HS7.out.2.2.2.2.2.2.2.2 hb⟩
        clear HS7 hb
        have hc0 := (HS8.out.1).facts.1
        have hf0 := (HS8.out.1).facts.2
        have hz0 := (HS8.out.1).lt
        have hc1 := (HS8.out.2.1).facts.1
        have hf1 := (HS8.out.2.1).facts.2
        have hz1 := (HS8.out.2.1).lt
        have hc3 := (HS8.out.2.2.2.1).facts.1
        have hf3 := (HS8.out.2.2.2.1).facts.2
        have hz3 := (HS8.out.2.2.2.1).lt
        have hc5 := (HS8.out.2.2.2.2.2.1).facts.1
        have hf5 := (HS8.out.2.2.2.2.2.1).facts.2
        have hz5 := (HS8.out.2.2.2.2.2.1).lt
        have hc7 := (HS8.out.2.2.2.2.2.2.2.1).facts.1
        have hf7 := (HS8.out.2.2.2.2.2.2.2.1).facts.2
        have hz7 := (HS8.out.2.2.2.2.2.2.2.1).lt
        go_wp2_with fail
        clear hc0 hf0 hz0
        clear hc1 hf1 hz1
        clear hc3 hf3 hz3
        clear hc5 hf5 hz5
        clear hc7 hf7 hz7
        have HK : Hid (∀ v v' : World, (v.cell? ⟨w4.heap.size, 0, none⟩ = some (.int .i64 sn) ∧ v.cell? ⟨w4.heap.size, 1, none⟩ = some (.slice aoX_ss ss.length ss.length) ∧ v.cell? ⟨(w.heap.size + 1), 0, none⟩ = some (.int .i64 sn) ∧ v.cell? ⟨(w.heap.size + 1), 1, none⟩ = some (.slice ao_ss ss.length c_ss) ∧ w8.heap.size ≤ v.heap.size ∧ Whole v w.heap.size 24 #[.int .i64 k, .int .u64 (a : Int), .int .u64 (b : Int)] ∧ Whole v (w.heap.size + 1) 27 #[.int .i64 sn, .slice ao_ss ss.length c_ss] ∧ Row v rl3 rh3 aos (il (walkL sn.toNat ss k a b fr.toNat st.toNat)) ∧ Whole v gN3 29 #[.int .i64 k, .int .u64 ((sdK k a b st.toNat).1 : Int), .int .u64 ((sdK k a b st.toNat).2 : Int)] ∧ Row v w3.heap.size w4.heap.size aoX_ss (fl .f32 ss) ∧ Whole v w4.heap.size 34 #[.int .i64 sn, .slice aoX_ss ss.length ss.length] ∧ Row v rl6 rh6 aog (il (walkL sn.toNat ss k a b fr.toNat st.toNat)) ∧ Whole v gN6 29 #[.int .i64 k, .int .u64 ((sdK k a b st.toNat).1 : Int), .int .u64 ((sdK k a b st.toNat).2 : Int)] ∧ Below w.heap.size w v) → Below v.heap.size v v' → (v'.cell? ⟨w4.heap.size, 0, none⟩ = some (.int .i64 sn) ∧ v'.cell? ⟨w4.heap.size, 1, none⟩ = some (.slice aoX_ss ss.length ss.length) ∧ v'.cell? ⟨(w.heap.size + 1), 0, none⟩ = some (.int .i64 sn) ∧ v'.cell? ⟨(w.heap.size + 1), 1, none⟩ = some (.slice ao_ss ss.length c_ss) ∧ w8.heap.size ≤ v'.heap.size ∧ Whole v' w.heap.size 24 #[.int .i64 k, .int .u64 (a : Int), .int .u64 (b : Int)] ∧ Whole v' (w.heap.size + 1) 27 #[.int .i64 sn, .slice ao_ss ss.length c_ss] ∧ Row v' rl3 rh3 aos (il (walkL sn.toNat ss k a b fr.toNat st.toNat)) ∧ Whole v' gN3 29 #[.int .i64 k, .int .u64 ((sdK k a b st.toNat).1 : Int), .int .u64 ((sdK k a b st.toNat).2 : Int)] ∧ Row v' w3.heap.size w4.heap.size aoX_ss (fl .f32 ss) ∧ Whole v' w4.heap.size 34 #[.int .i64 sn, .slice aoX_ss ss.length ss.length] ∧ Row v' rl6 rh6 aog (il (walkL sn.toNat ss k a b fr.toNat st.toNat)) ∧ Whole v' gN6 29 #[.int .i64 k, .int .u64 ((sdK k a b st.toNat).1 : Int), .int .u64 ((sdK k a b st.toNat).2 : Int)] ∧ Below w.heap.size w v')) := Lib.hid (fun v v' h hb => ⟨(by rw [Below.cell hb (World.block_lt_of_cell? _ _ h.1)]; exact h.1), (by rw [Below.cell hb (World.block_lt_of_cell? _ _ h.2.1)]; exact h.2.1), (by rw [Below.cell hb (World.block_lt_of_cell? _ _ h.2.2.1)]; exact h.2.2.1), (by rw [Below.cell hb (World.block_lt_of_cell? _ _ h.2.2.2.1)]; exact h.2.2.2.1), Nat.le_trans h.2.2.2.2.1 hb.size, h.2.2.2.2.2.1.below hb, h.2.2.2.2.2.2.1.below hb, h.2.2.2.2.2.2.2.1.below hb, h.2.2.2.2.2.2.2.2.1.below hb, h.2.2.2.2.2.2.2.2.2.1.below hb, h.2.2.2.2.2.2.2.2.2.2.1.below hb, h.2.2.2.2.2.2.2.2.2.2.2.1.below hb, h.2.2.2.2.2.2.2.2.2.2.2.2.1.below hb, Bel_next h.2.2.2.2.2.2.2.2.2.2.2.2.2 hb⟩)
        have HP : Hid (∀ v : World, (v.cell? ⟨w4.heap.size, 0, none⟩ = some (.int .i64 sn) ∧ v.cell? ⟨w4.heap.size, 1, none⟩ = some (.slice aoX_ss ss.length ss.length) ∧ v.cell? ⟨(w.heap.size + 1), 0, none⟩ = some (.int .i64 sn) ∧ v.cell? ⟨(w.heap.size + 1), 1, none⟩ = some (.slice ao_ss ss.length c_ss) ∧ w8.heap.size ≤ v.heap.size ∧ Whole v w.heap.size 24 #[.int .i64 k, .int .u64 (a : Int), .int .u64 (b : Int)] ∧ Whole v (w.heap.size + 1) 27 #[.int .i64 sn, .slice ao_ss ss.length c_ss] ∧ Row v rl3 rh3 aos (il (walkL sn.toNat ss k a b fr.toNat st.toNat)) ∧ Whole v gN3 29 #[.int .i64 k, .int .u64 ((sdK k a b st.toNat).1 : Int), .int .u64 ((sdK k a b st.toNat).2 : Int)] ∧ Row v w3.heap.size w4.heap.size aoX_ss (fl .f32 ss) ∧ Whole v w4.heap.size 34 #[.int .i64 sn, .slice aoX_ss ss.length ss.length] ∧ Row v rl6 rh6 aog (il (walkL sn.toNat ss k a b fr.toNat st.toNat)) ∧ Whole v gN6 29 #[.int .i64 k, .int .u64 ((sdK k a b st.toNat).1 : Int), .int .u64 ((sdK k a b st.toNat).2 : Int)] ∧ Below w.heap.size w v) → (Whole v w.heap.size 24 #[.int .i64 k, .int .u64 (a : Int), .int .u64 (b : Int)] ∧ Whole v (w.heap.size + 1) 27 #[.int .i64 sn, .slice ao_ss ss.length c_ss] ∧ Row v rl3 rh3 aos (il (walkL sn.toNat ss k a b fr.toNat st.toNat)) ∧ Whole v gN3 29 #[.int .i64 k, .int .u64 ((sdK k a b st.toNat).1 : Int), .int .u64 ((sdK k a b st.toNat).2 : Int)] ∧ Row v w3.heap.size w4.heap.size aoX_ss (fl .f32 ss) ∧ Whole v w4.heap.size 34 #[.int .i64 sn, .slice aoX_ss ss.length ss.length] ∧ Row v rl6 rh6 aog (il (walkL sn.toNat ss k a b fr.toNat st.toNat)) ∧ Whole v gN6 29 #[.int .i64 k, .int .u64 ((sdK k a b st.toNat).1 : Int), .int .u64 ((sdK k a b st.toNat).2 : Int)] ∧ Below w.heap.size w v)) := Lib.hid (fun v h => h.2.2.2.2.2)
        have hR : w8.cell? ⟨w4.heap.size, 0, none⟩ = some (.int .i64 sn) ∧ w8.cell? ⟨w4.heap.size, 1, none⟩ = some (.slice aoX_ss ss.length ss.length) ∧ w8.cell? ⟨(w.heap.size + 1), 0, none⟩ = some (.int .i64 sn) ∧ w8.cell? ⟨(w.heap.size + 1), 1, none⟩ = some (.slice ao_ss ss.length c_ss) ∧ w8.heap.size ≤ w8.heap.size ∧ Whole w8 w.heap.size 24 #[.int .i64 k, .int .u64 (a : Int), .int .u64 (b : Int)] ∧ Whole w8 (w.heap.size + 1) 27 #[.int .i64 sn, .slice ao_ss ss.length c_ss] ∧ Row w8 rl3 rh3 aos (il (walkL sn.toNat ss k a b fr.toNat st.toNat)) ∧ Whole w8 gN3 29 #[.int .i64 k, .int .u64 ((sdK k a b st.toNat).1 : Int), .int .u64 ((sdK k a b st.toNat).2 : Int)] ∧ Row w8 w3.heap.size w4.heap.size aoX_ss (fl .f32 ss) ∧ Whole w8 w4.heap.size 34 #[.int .i64 sn, .slice aoX_ss ss.length ss.length] ∧ Row w8 rl6 rh6 aog (il (walkL sn.toNat ss k a b fr.toNat st.toNat)) ∧ Whole w8 gN6 29 #[.int .i64 k, .int .u64 ((sdK k a b st.toNat).1 : Int), .int .u64 ((sdK k a b st.toNat).2 : Int)] ∧ Below w.heap.size w w8 := ⟨(HS8.out.2.2.2.2.2.1).cell 0, (HS8.out.2.2.2.2.2.1).cell 1, (HS8.out.2.1).cell 0, (HS8.out.2.1).cell 1, Nat.le_refl _, HS8.out.1, HS8.out.2.1, HS8.out.2.2.1, HS8.out.2.2.2.1, HS8.out.2.2.2.2.1, HS8.out.2.2.2.2.2.1, HS8.out.2.2.2.2.2.2.1, HS8.out.2.2.2.2.2.2.2.1, HS8.out.2.2.2.2.2.2.2.2⟩
        go_region_held3 (fun v => v.cell? ⟨w4.heap.size, 0, none⟩ = some (.int .i64 sn) ∧ v.cell? ⟨w4.heap.size, 1, none⟩ = some (.slice aoX_ss ss.length ss.length) ∧ v.cell? ⟨(w.heap.size + 1), 0, none⟩ = some (.int .i64 sn) ∧ v.cell? ⟨(w.heap.size + 1), 1, none⟩ = some (.slice ao_ss ss.length c_ss) ∧ w8.heap.size ≤ v.heap.size ∧ Whole v w.heap.size 24 #[.int .i64 k, .int .u64 (a : Int), .int .u64 (b : Int)] ∧ Whole v (w.heap.size + 1) 27 #[.int .i64 sn, .slice ao_ss ss.length c_ss] ∧ Row v rl3 rh3 aos (il (walkL sn.toNat ss k a b fr.toNat st.toNat)) ∧ Whole v gN3 29 #[.int .i64 k, .int .u64 ((sdK k a b st.toNat).1 : Int), .int .u64 ((sdK k a b st.toNat).2 : Int)] ∧ Row v w3.heap.size w4.heap.size aoX_ss (fl .f32 ss) ∧ Whole v w4.heap.size 34 #[.int .i64 sn, .slice aoX_ss ss.length ss.length] ∧ Row v rl6 rh6 aog (il (walkL sn.toNat ss k a b fr.toNat st.toNat)) ∧ Whole v gN6 29 #[.int .i64 k, .int .u64 ((sdK k a b st.toNat).1 : Int), .int .u64 ((sdK k a b st.toNat).2 : Int)] ∧ Below w.heap.size w v)
          (first | assumption | exact HK.out _ _ (by assumption) (by assumption) | exact HK.out _ _ (by assumption) ((Below.refl _ _).drew) | (refine HK.out _ _ (by assumption) ?_; (repeat (first | with_reducible exact Below.refl _ _ | with_reducible refine Below.drew ?_ | with_reducible refine Bel_drewN ?_ _ | with_reducible refine Below.alloc ?_ (by first | omega | (simp; done) | (simp; omega)) _ | with_reducible refine Below.setCell ?_ (by first | omega | (simp; done) | (simp; omega)) _)); done))
          (first | (go_at_call 18; refine (toChain_any sn ss _ _ _ (Holds.below HX_ss.out (HP.out _ (by assumption)).2.2.2.2.2.2.2.2) hn_ss).mono ?_; rintro e wt ⟨aoY_ss, rfl, rowY_ss, hbt⟩) | (go_at_call 22; refine (eqChain_same sn ss _ rfl _ _ _ _ _ ((HP.out _ (by assumption)).2.2.2.2.1.holds) (by exact rowY_ss.holds) hn_ss).mono ?_; rintro e w9 ⟨rfl, hb⟩))
        have hN := (HK.out _ _ (HK.out _ _ hR (by first | exact hbt | exact Bel_next (Below.refl _ _).drew hbt | (refine Bel_next ?_ hbt; (repeat (first | with_reducible exact Below.refl _ _ | with_reducible refine Below.drew ?_ | with_reducible refine Bel_drewN ?_ _ | with_reducible refine Below.alloc ?_ (by first | omega | (simp; done) | (simp; omega)) _ | with_reducible refine Below.setCell ?_ (by first | omega | (simp; done) | (simp; omega)) _)); done))) (by first | exact hb | exact Bel_next (Below.refl _ _).drew hb | (refine Bel_next ?_ hb; (repeat (first | with_reducible exact Below.refl _ _ | with_reducible refine Below.drew ?_ | with_reducible refine Bel_drewN ?_ _ | with_reducible refine Below.alloc ?_ (by first | omega | (simp; done) | (simp; omega)) _ | with_reducible refine Below.setCell ?_ (by first | omega | (simp; done) | (simp; omega)) _)); done)))
        have z9 : w8.heap.size ≤ w9.heap.size := hN.2.2.2.2.1
        have HS9 : Hid (Whole w9 w.heap.size 24 #[.int .i64 k, .int .u64 (a : Int), .int .u64 (b : Int)] ∧ Whole w9 (w.heap.size + 1) 27 #[.int .i64 sn, .slice ao_ss ss.length c_ss] ∧ Row w9 rl3 rh3 aos (il (walkL sn.toNat ss k a b fr.toNat st.toNat)) ∧ Whole w9 gN3 29 #[.int .i64 k, .int .u64 ((sdK k a b st.toNat).1 : Int), .int .u64 ((sdK k a b st.toNat).2 : Int)] ∧ Row w9 w3.heap.size w4.heap.size aoX_ss (fl .f32 ss) ∧ Whole w9 w4.heap.size 34 #[.int .i64 sn, .slice aoX_ss ss.length ss.length] ∧ Row w9 rl6 rh6 aog (il (walkL sn.toNat ss k a b fr.toNat st.toNat)) ∧ Whole w9 gN6 29 #[.int .i64 k, .int .u64 ((sdK k a b st.toNat).1 : Int), .int .u64 ((sdK k a b st.toNat).2 : Int)] ∧ Below w.heap.size w w9) := Lib.hid ⟨hN.2.2.2.2.2.1, hN.2.2.2.2.2.2.1, hN.2.2.2.2.2.2.2.1, hN.2.2.2.2.2.2.2.2.1, hN.2.2.2.2.2.2.2.2.2.1, hN.2.2.2.2.2.2.2.2.2.2.1, hN.2.2.2.2.2.2.2.2.2.2.2.1, hN.2.2.2.2.2.2.2.2.2.2.2.2.1, hN.2.2.2.2.2.2.2.2.2.2.2.2.2⟩
        clear HS8 hN hR HK HP hb hbt
        clear rowY_ss
        have hc0 := (HS9.out.1).facts.1
        have hf0 := (HS9.out.1).facts.2
        have hz0 := (HS9.out.1).lt
        have hc1 := (HS9.out.2.1).facts.1
        have hf1 := (HS9.out.2.1).facts.2
        have hz1 := (HS9.out.2.1).lt
        have hc3 := (HS9.out.2.2.2.1).facts.1
        have hf3 := (HS9.out.2.2.2.1).facts.2
        have hz3 := (HS9.out.2.2.2.1).lt
        have hc5 := (HS9.out.2.2.2.2.2.1).facts.1
        have hf5 := (HS9.out.2.2.2.2.2.1).facts.2
        have hz5 := (HS9.out.2.2.2.2.2.1).lt
        have hc7 := (HS9.out.2.2.2.2.2.2.2.1).facts.1
        have hf7 := (HS9.out.2.2.2.2.2.2.2.1).facts.2
        have hz7 := (HS9.out.2.2.2.2.2.2.2.1).lt
        go_wp2_with fail
        clear hc0 hf0 hz0
        clear hc1 hf1 hz1
        clear hc3 hf3 hz3
        clear hc5 hf5 hz5
        clear hc7 hf7 hz7
        refine (markChain_row sn 1 _ _ _ _ _ _ HS9.out.2.2.2.2.1 ((fl_len _ _).trans (rfl)) (by omega)).mono ?_
        rintro e w10 ⟨rfl, row, bt⟩
        have z10 : w9.heap.size ≤ w10.heap.size := bt.size
        have HS10 : Hid (Whole w10 w.heap.size 24 #[.int .i64 k, .int .u64 (a : Int), .int .u64 (b : Int)] ∧ Whole w10 (w.heap.size + 1) 27 #[.int .i64 sn, .slice ao_ss ss.length c_ss] ∧ Row w10 rl3 rh3 aos (il (walkL sn.toNat ss k a b fr.toNat st.toNat)) ∧ Whole w10 gN3 29 #[.int .i64 k, .int .u64 ((sdK k a b st.toNat).1 : Int), .int .u64 ((sdK k a b st.toNat).2 : Int)] ∧ Row w10 w3.heap.size w4.heap.size aoX_ss (fl .f32 (fmarks 1 ss.length)) ∧ Whole w10 w4.heap.size 34 #[.int .i64 sn, .slice aoX_ss ss.length ss.length] ∧ Row w10 rl6 rh6 aog (il (walkL sn.toNat ss k a b fr.toNat st.toNat)) ∧ Whole w10 gN6 29 #[.int .i64 k, .int .u64 ((sdK k a b st.toNat).1 : Int), .int .u64 ((sdK k a b st.toNat).2 : Int)] ∧ Below w.heap.size w w10) := Lib.hid ⟨HS9.out.1.buts bt (by omega), HS9.out.2.1.buts bt (by omega), HS9.out.2.2.1.but bt (by omega), HS9.out.2.2.2.1.buts bt (by omega), row, HS9.out.2.2.2.2.2.1.buts bt (by omega), HS9.out.2.2.2.2.2.2.1.but bt (by omega), HS9.out.2.2.2.2.2.2.2.1.buts bt (by omega), bt.bel HS9.out.2.2.2.2.2.2.2.2 (by omega)⟩
        clear HS9 row bt
        have hc0 := (HS10.out.1).facts.1
        have hf0 := (HS10.out.1).facts.2
        have hz0 := (HS10.out.1).lt
        have hc1 := (HS10.out.2.1).facts.1
        have hf1 := (HS10.out.2.1).facts.2
        have hz1 := (HS10.out.2.1).lt
        have hc3 := (HS10.out.2.2.2.1).facts.1
        have hf3 := (HS10.out.2.2.2.1).facts.2
        have hz3 := (HS10.out.2.2.2.1).lt
        have hc5 := (HS10.out.2.2.2.2.2.1).facts.1
        have hf5 := (HS10.out.2.2.2.2.2.1).facts.2
        have hz5 := (HS10.out.2.2.2.2.2.1).lt
        have hc7 := (HS10.out.2.2.2.2.2.2.2.1).facts.1
        have hf7 := (HS10.out.2.2.2.2.2.2.2.1).facts.2
        have hz7 := (HS10.out.2.2.2.2.2.2.2.1).lt
        go_wp2_with fail
        clear hc0 hf0 hz0
        clear hc1 hf1 hz1
        clear hc3 hf3 hz3
        clear hc5 hf5 hz5
        clear hc7 hf7 hz7
        refine (eqSeed_same _ _ _ _).mono ?_
        rintro e w11 ⟨rfl, hb⟩
        have z11 : w10.heap.size ≤ w11.heap.size := hb.size
        have HS11 : Hid (Whole w11 w.heap.size 24 #[.int .i64 k, .int .u64 (a : Int), .int .u64 (b : Int)] ∧ Whole w11 (w.heap.size + 1) 27 #[.int .i64 sn, .slice ao_ss ss.length c_ss] ∧ Row w11 rl3 rh3 aos (il (walkL sn.toNat ss k a b fr.toNat st.toNat)) ∧ Whole w11 gN3 29 #[.int .i64 k, .int .u64 ((sdK k a b st.toNat).1 : Int), .int .u64 ((sdK k a b st.toNat).2 : Int)] ∧ Row w11 w3.heap.size w4.heap.size aoX_ss (fl .f32 (fmarks 1 ss.length)) ∧ Whole w11 w4.heap.size 34 #[.int .i64 sn, .slice aoX_ss ss.length ss.length] ∧ Row w11 rl6 rh6 aog (il (walkL sn.toNat ss k a b fr.toNat st.toNat)) ∧ Whole w11 gN6 29 #[.int .i64 k, .int .u64 ((sdK k a b st.toNat).1 : Int), .int .u64 ((sdK k a b st.toNat).2 : Int)] ∧ Below w.heap.size w w11) := Lib.hid ⟨HS10.out.1.below hb, HS10.out.2.1.below hb, HS10.out.2.2.1.below hb, HS10.out.2.2.2.1.below hb, HS10.out.2.2.2.2.1.below hb, HS10.out.2.2.2.2.2.1.below hb, HS10.out.2.2.2.2.2.2.1.below hb, HS10.out.2.2.2.2.2.2.2.1.below hb, Bel_next HS10.out.2.2.2.2.2.2.2.2 hb⟩
        clear HS10 hb
        have hc0 := (HS11.out.1).facts.1
        have hf0 := (HS11.out.1).facts.2
        have hz0 := (HS11.out.1).lt
        have hc1 := (HS11.out.2.1).facts.1
        have hf1 := (HS11.out.2.1).facts.2
        have hz1 := (HS11.out.2.1).lt
        have hc3 := (HS11.out.2.2.2.1).facts.1
        have hf3 := (HS11.out.2.2.2.1).facts.2
        have hz3 := (HS11.out.2.2.2.1).lt
        have hc5 := (HS11.out.2.2.2.2.2.1).facts.1
        have hf5 := (HS11.out.2.2.2.2.2.1).facts.2
        have hz5 := (HS11.out.2.2.2.2.2.1).lt
        have hc7 := (HS11.out.2.2.2.2.2.2.2.1).facts.1
        have hf7 := (HS11.out.2.2.2.2.2.2.2.1).facts.2
        have hz7 := (HS11.out.2.2.2.2.2.2.2.1).lt
        go_wp2_with fail
        clear hc0 hf0 hz0
        clear hc1 hf1 hz1
        clear hc3 hf3 hz3
        clear hc5 hf5 hz5
        clear hc7 hf7 hz7
        refine (eqInt64S_same (walkL sn.toNat ss k a b fr.toNat st.toNat) ((st.toNat + 1)) (walkL_len _ _ _ _ _ _ _) _ _ _ _ _ HS11.out.2.2.2.2.2.2.1.holds HS11.out.2.2.1.holds (by omega)).mono ?_
        rintro e w12 ⟨rfl, hb⟩
        have z12 : w11.heap.size ≤ w12.heap.size := hb.size
        have HS12 : Hid (Whole w12 w.heap.size 24 #[.int .i64 k, .int .u64 (a : Int), .int .u64 (b : Int)] ∧ Whole w12 (w.heap.size + 1) 27 #[.int .i64 sn, .slice ao_ss ss.length c_ss] ∧ Row w12 rl3 rh3 aos (il (walkL sn.toNat ss k a b fr.toNat st.toNat)) ∧ Whole w12 gN3 29 #[.int .i64 k, .int .u64 ((sdK k a b st.toNat).1 : Int), .int .u64 ((sdK k a b st.toNat).2 : Int)] ∧ Row w12 w3.heap.size w4.heap.size aoX_ss (fl .f32 (fmarks 1 ss.length)) ∧ Whole w12 w4.heap.size 34 #[.int .i64 sn, .slice aoX_ss ss.length ss.length] ∧ Row w12 rl6 rh6 aog (il (walkL sn.toNat ss k a b fr.toNat st.toNat)) ∧ Whole w12 gN6 29 #[.int .i64 k, .int .u64 ((sdK k a b st.toNat).1 : Int), .int .u64 ((sdK k a b st.toNat).2 : Int)] ∧ Below w.heap.size w w12) := Lib.hid ⟨HS11.out.1.below hb, HS11.out.2.1.below hb, HS11.out.2.2.1.below hb, HS11.out.2.2.2.1.below hb, HS11.out.2.2.2.2.1.below hb, HS11.out.2.2.2.2.2.1.below hb, HS11.out.2.2.2.2.2.2.1.below hb, HS11.out.2.2.2.2.2.2.2.1.below hb, Bel_next HS11.out.2.2.2.2.2.2.2.2 hb⟩
        clear HS11 hb
        have hc0 := (HS12.out.1).facts.1
        have hf0 := (HS12.out.1).facts.2
        have hz0 := (HS12.out.1).lt
        have hc1 := (HS12.out.2.1).facts.1
        have hf1 := (HS12.out.2.1).facts.2
        have hz1 := (HS12.out.2.1).lt
        have hc3 := (HS12.out.2.2.2.1).facts.1
        have hf3 := (HS12.out.2.2.2.1).facts.2
        have hz3 := (HS12.out.2.2.2.1).lt
        have hc5 := (HS12.out.2.2.2.2.2.1).facts.1
        have hf5 := (HS12.out.2.2.2.2.2.1).facts.2
        have hz5 := (HS12.out.2.2.2.2.2.1).lt
        have hc7 := (HS12.out.2.2.2.2.2.2.2.1).facts.1
        have hf7 := (HS12.out.2.2.2.2.2.2.2.1).facts.2
        have hz7 := (HS12.out.2.2.2.2.2.2.2.1).lt
        go_wp2_with fail
        clear hc0 hf0 hz0
        clear hc1 hf1 hz1
        clear hc3 hf3 hz3
        clear hc5 hf5 hz5
        clear hc7 hf7 hz7
        refine (markInt64S_row ((st.toNat + 1)) _ 1 _ _ _ _ _ HS12.out.2.2.2.2.2.2.1 ((il_len _).trans (walkL_len _ _ _ _ _ _ _)) (by omega)).mono ?_
        rintro e w13 ⟨rfl, row, bt⟩
        have z13 : w12.heap.size ≤ w13.heap.size := bt.size
        have HS13 : Hid (Whole w13 w.heap.size 24 #[.int .i64 k, .int .u64 (a : Int), .int .u64 (b : Int)] ∧ Whole w13 (w.heap.size + 1) 27 #[.int .i64 sn, .slice ao_ss ss.length c_ss] ∧ Row w13 rl3 rh3 aos (il (walkL sn.toNat ss k a b fr.toNat st.toNat)) ∧ Whole w13 gN3 29 #[.int .i64 k, .int .u64 ((sdK k a b st.toNat).1 : Int), .int .u64 ((sdK k a b st.toNat).2 : Int)] ∧ Row w13 w3.heap.size w4.heap.size aoX_ss (fl .f32 (fmarks 1 ss.length)) ∧ Whole w13 w4.heap.size 34 #[.int .i64 sn, .slice aoX_ss ss.length ss.length] ∧ Row w13 rl6 rh6 aog (il (marks 1 (st.toNat + 1))) ∧ Whole w13 gN6 29 #[.int .i64 k, .int .u64 ((sdK k a b st.toNat).1 : Int), .int .u64 ((sdK k a b st.toNat).2 : Int)] ∧ Below w.heap.size w w13) := Lib.hid ⟨HS12.out.1.buts bt (by omega), HS12.out.2.1.buts bt (by omega), HS12.out.2.2.1.but bt (by omega), HS12.out.2.2.2.1.buts bt (by omega), HS12.out.2.2.2.2.1.but bt (by omega), HS12.out.2.2.2.2.2.1.buts bt (by omega), row, HS12.out.2.2.2.2.2.2.2.1.buts bt (by omega), bt.bel HS12.out.2.2.2.2.2.2.2.2 (by omega)⟩
        clear HS12 row bt
        have hc0 := (HS13.out.1).facts.1
        have hf0 := (HS13.out.1).facts.2
        have hz0 := (HS13.out.1).lt
        have hc1 := (HS13.out.2.1).facts.1
        have hf1 := (HS13.out.2.1).facts.2
        have hz1 := (HS13.out.2.1).lt
        have hc3 := (HS13.out.2.2.2.1).facts.1
        have hf3 := (HS13.out.2.2.2.1).facts.2
        have hz3 := (HS13.out.2.2.2.1).lt
        have hc5 := (HS13.out.2.2.2.2.2.1).facts.1
        have hf5 := (HS13.out.2.2.2.2.2.1).facts.2
        have hz5 := (HS13.out.2.2.2.2.2.1).lt
        have hc7 := (HS13.out.2.2.2.2.2.2.2.1).facts.1
        have hf7 := (HS13.out.2.2.2.2.2.2.2.1).facts.2
        have hz7 := (HS13.out.2.2.2.2.2.2.2.1).lt
        go_wp2_with fail
        clear hc0 hf0 hz0
        clear hc1 hf1 hz1
        clear hc3 hf3 hz3
        clear hc5 hf5 hz5
        clear hc7 hf7 hz7
        refine (heldInt64S_marks 1 ((st.toNat + 1)) _ _ _ HS13.out.2.2.2.2.2.2.1.holds (by omega)).mono ?_
        rintro e w14 ⟨rfl, hb⟩
        have z14 : w13.heap.size ≤ w14.heap.size := hb.size
        have HS14 : Hid (Whole w14 w.heap.size 24 #[.int .i64 k, .int .u64 (a : Int), .int .u64 (b : Int)] ∧ Whole w14 (w.heap.size + 1) 27 #[.int .i64 sn, .slice ao_ss ss.length c_ss] ∧ Row w14 rl3 rh3 aos (il (walkL sn.toNat ss k a b fr.toNat st.toNat)) ∧ Whole w14 gN3 29 #[.int .i64 k, .int .u64 ((sdK k a b st.toNat).1 : Int), .int .u64 ((sdK k a b st.toNat).2 : Int)] ∧ Row w14 w3.heap.size w4.heap.size aoX_ss (fl .f32 (fmarks 1 ss.length)) ∧ Whole w14 w4.heap.size 34 #[.int .i64 sn, .slice aoX_ss ss.length ss.length] ∧ Row w14 rl6 rh6 aog (il (marks 1 (st.toNat + 1))) ∧ Whole w14 gN6 29 #[.int .i64 k, .int .u64 ((sdK k a b st.toNat).1 : Int), .int .u64 ((sdK k a b st.toNat).2 : Int)] ∧ Below w.heap.size w w14) := Lib.hid ⟨HS13.out.1.below hb, HS13.out.2.1.below hb, HS13.out.2.2.1.below hb, HS13.out.2.2.2.1.below hb, HS13.out.2.2.2.2.1.below hb, HS13.out.2.2.2.2.2.1.below hb, HS13.out.2.2.2.2.2.2.1.below hb, HS13.out.2.2.2.2.2.2.2.1.below hb, Bel_next HS13.out.2.2.2.2.2.2.2.2 hb⟩
        clear HS13 hb
        have hc0 := (HS14.out.1).facts.1
        have hf0 := (HS14.out.1).facts.2
        have hz0 := (HS14.out.1).lt
        have hc1 := (HS14.out.2.1).facts.1
        have hf1 := (HS14.out.2.1).facts.2
        have hz1 := (HS14.out.2.1).lt
        have hc3 := (HS14.out.2.2.2.1).facts.1
        have hf3 := (HS14.out.2.2.2.1).facts.2
        have hz3 := (HS14.out.2.2.2.1).lt
        have hc5 := (HS14.out.2.2.2.2.2.1).facts.1
        have hf5 := (HS14.out.2.2.2.2.2.1).facts.2
        have hz5 := (HS14.out.2.2.2.2.2.1).lt
        have hc7 := (HS14.out.2.2.2.2.2.2.2.1).facts.1
        have hf7 := (HS14.out.2.2.2.2.2.2.2.1).facts.2
        have hz7 := (HS14.out.2.2.2.2.2.2.2.1).lt
        go_wp2_with fail
        clear hc0 hf0 hz0
        clear hc1 hf1 hz1
        clear hc3 hf3 hz3
        clear hc5 hf5 hz5
        clear hc7 hf7 hz7
        have HK : Hid (∀ v v' : World, (v.cell? ⟨w.heap.size, 0, none⟩ = some (.int .i64 k) ∧ v.cell? ⟨w.heap.size, 1, none⟩ = some (.int .u64 (a : Int)) ∧ v.cell? ⟨w.heap.size, 2, none⟩ = some (.int .u64 (b : Int)) ∧ v.cell? ⟨(w.heap.size + 1), 0, none⟩ = some (.int .i64 sn) ∧ v.cell? ⟨(w.heap.size + 1), 1, none⟩ = some (.slice ao_ss ss.length c_ss) ∧ w14.heap.size ≤ v.heap.size ∧ Whole v w.heap.size 24 #[.int .i64 k, .int .u64 (a : Int), .int .u64 (b : Int)] ∧ Whole v (w.heap.size + 1) 27 #[.int .i64 sn, .slice ao_ss ss.length c_ss] ∧ Row v rl3 rh3 aos (il (walkL sn.toNat ss k a b fr.toNat st.toNat)) ∧ Whole v gN3 29 #[.int .i64 k, .int .u64 ((sdK k a b st.toNat).1 : Int), .int .u64 ((sdK k a b st.toNat).2 : Int)] ∧ Row v w3.heap.size w4.heap.size aoX_ss (fl .f32 (fmarks 1 ss.length)) ∧ Whole v w4.heap.size 34 #[.int .i64 sn, .slice aoX_ss ss.length ss.length] ∧ Row v rl6 rh6 aog (il (marks 1 (st.toNat + 1))) ∧ Whole v gN6 29 #[.int .i64 k, .int .u64 ((sdK k a b st.toNat).1 : Int), .int .u64 ((sdK k a b st.toNat).2 : Int)] ∧ Below w.heap.size w v) → Below v.heap.size v v' → (v'.cell? ⟨w.heap.size, 0, none⟩ = some (.int .i64 k) ∧ v'.cell? ⟨w.heap.size, 1, none⟩ = some (.int .u64 (a : Int)) ∧ v'.cell? ⟨w.heap.size, 2, none⟩ = some (.int .u64 (b : Int)) ∧ v'.cell? ⟨(w.heap.size + 1), 0, none⟩ = some (.int .i64 sn) ∧ v'.cell? ⟨(w.heap.size + 1), 1, none⟩ = some (.slice ao_ss ss.length c_ss) ∧ w14.heap.size ≤ v'.heap.size ∧ Whole v' w.heap.size 24 #[.int .i64 k, .int .u64 (a : Int), .int .u64 (b : Int)] ∧ Whole v' (w.heap.size + 1) 27 #[.int .i64 sn, .slice ao_ss ss.length c_ss] ∧ Row v' rl3 rh3 aos (il (walkL sn.toNat ss k a b fr.toNat st.toNat)) ∧ Whole v' gN3 29 #[.int .i64 k, .int .u64 ((sdK k a b st.toNat).1 : Int), .int .u64 ((sdK k a b st.toNat).2 : Int)] ∧ Row v' w3.heap.size w4.heap.size aoX_ss (fl .f32 (fmarks 1 ss.length)) ∧ Whole v' w4.heap.size 34 #[.int .i64 sn, .slice aoX_ss ss.length ss.length] ∧ Row v' rl6 rh6 aog (il (marks 1 (st.toNat + 1))) ∧ Whole v' gN6 29 #[.int .i64 k, .int .u64 ((sdK k a b st.toNat).1 : Int), .int .u64 ((sdK k a b st.toNat).2 : Int)] ∧ Below w.heap.size w v')) := Lib.hid (fun v v' h hb => ⟨(by rw [Below.cell hb (World.block_lt_of_cell? _ _ h.1)]; exact h.1), (by rw [Below.cell hb (World.block_lt_of_cell? _ _ h.2.1)]; exact h.2.1), (by rw [Below.cell hb (World.block_lt_of_cell? _ _ h.2.2.1)]; exact h.2.2.1), (by rw [Below.cell hb (World.block_lt_of_cell? _ _ h.2.2.2.1)]; exact h.2.2.2.1), (by rw [Below.cell hb (World.block_lt_of_cell? _ _ h.2.2.2.2.1)]; exact h.2.2.2.2.1), Nat.le_trans h.2.2.2.2.2.1 hb.size, h.2.2.2.2.2.2.1.below hb, h.2.2.2.2.2.2.2.1.below hb, h.2.2.2.2.2.2.2.2.1.below hb, h.2.2.2.2.2.2.2.2.2.1.below hb, h.2.2.2.2.2.2.2.2.2.2.1.below hb, h.2.2.2.2.2.2.2.2.2.2.2.1.below hb, h.2.2.2.2.2.2.2.2.2.2.2.2.1.below hb, h.2.2.2.2.2.2.2.2.2.2.2.2.2.1.below hb, Bel_next h.2.2.2.2.2.2.2.2.2.2.2.2.2.2 hb⟩)
        have HP : Hid (∀ v : World, (v.cell? ⟨w.heap.size, 0, none⟩ = some (.int .i64 k) ∧ v.cell? ⟨w.heap.size, 1, none⟩ = some (.int .u64 (a : Int)) ∧ v.cell? ⟨w.heap.size, 2, none⟩ = some (.int .u64 (b : Int)) ∧ v.cell? ⟨(w.heap.size + 1), 0, none⟩ = some (.int .i64 sn) ∧ v.cell? ⟨(w.heap.size + 1), 1, none⟩ = some (.slice ao_ss ss.length c_ss) ∧ w14.heap.size ≤ v.heap.size ∧ Whole v w.heap.size 24 #[.int .i64 k, .int .u64 (a : Int), .int .u64 (b : Int)] ∧ Whole v (w.heap.size + 1) 27 #[.int .i64 sn, .slice ao_ss ss.length c_ss] ∧ Row v rl3 rh3 aos (il (walkL sn.toNat ss k a b fr.toNat st.toNat)) ∧ Whole v gN3 29 #[.int .i64 k, .int .u64 ((sdK k a b st.toNat).1 : Int), .int .u64 ((sdK k a b st.toNat).2 : Int)] ∧ Row v w3.heap.size w4.heap.size aoX_ss (fl .f32 (fmarks 1 ss.length)) ∧ Whole v w4.heap.size 34 #[.int .i64 sn, .slice aoX_ss ss.length ss.length] ∧ Row v rl6 rh6 aog (il (marks 1 (st.toNat + 1))) ∧ Whole v gN6 29 #[.int .i64 k, .int .u64 ((sdK k a b st.toNat).1 : Int), .int .u64 ((sdK k a b st.toNat).2 : Int)] ∧ Below w.heap.size w v) → (Whole v w.heap.size 24 #[.int .i64 k, .int .u64 (a : Int), .int .u64 (b : Int)] ∧ Whole v (w.heap.size + 1) 27 #[.int .i64 sn, .slice ao_ss ss.length c_ss] ∧ Row v rl3 rh3 aos (il (walkL sn.toNat ss k a b fr.toNat st.toNat)) ∧ Whole v gN3 29 #[.int .i64 k, .int .u64 ((sdK k a b st.toNat).1 : Int), .int .u64 ((sdK k a b st.toNat).2 : Int)] ∧ Row v w3.heap.size w4.heap.size aoX_ss (fl .f32 (fmarks 1 ss.length)) ∧ Whole v w4.heap.size 34 #[.int .i64 sn, .slice aoX_ss ss.length ss.length] ∧ Row v rl6 rh6 aog (il (marks 1 (st.toNat + 1))) ∧ Whole v gN6 29 #[.int .i64 k, .int .u64 ((sdK k a b st.toNat).1 : Int), .int .u64 ((sdK k a b st.toNat).2 : Int)] ∧ Below w.heap.size w v)) := Lib.hid (fun v h => h.2.2.2.2.2.2)
        have hR : w14.cell? ⟨w.heap.size, 0, none⟩ = some (.int .i64 k) ∧ w14.cell? ⟨w.heap.size, 1, none⟩ = some (.int .u64 (a : Int)) ∧ w14.cell? ⟨w.heap.size, 2, none⟩ = some (.int .u64 (b : Int)) ∧ w14.cell? ⟨(w.heap.size + 1), 0, none⟩ = some (.int .i64 sn) ∧ w14.cell? ⟨(w.heap.size + 1), 1, none⟩ = some (.slice ao_ss ss.length c_ss) ∧ w14.heap.size ≤ w14.heap.size ∧ Whole w14 w.heap.size 24 #[.int .i64 k, .int .u64 (a : Int), .int .u64 (b : Int)] ∧ Whole w14 (w.heap.size + 1) 27 #[.int .i64 sn, .slice ao_ss ss.length c_ss] ∧ Row w14 rl3 rh3 aos (il (walkL sn.toNat ss k a b fr.toNat st.toNat)) ∧ Whole w14 gN3 29 #[.int .i64 k, .int .u64 ((sdK k a b st.toNat).1 : Int), .int .u64 ((sdK k a b st.toNat).2 : Int)] ∧ Row w14 w3.heap.size w4.heap.size aoX_ss (fl .f32 (fmarks 1 ss.length)) ∧ Whole w14 w4.heap.size 34 #[.int .i64 sn, .slice aoX_ss ss.length ss.length] ∧ Row w14 rl6 rh6 aog (il (marks 1 (st.toNat + 1))) ∧ Whole w14 gN6 29 #[.int .i64 k, .int .u64 ((sdK k a b st.toNat).1 : Int), .int .u64 ((sdK k a b st.toNat).2 : Int)] ∧ Below w.heap.size w w14 := ⟨(HS14.out.1).cell 0, (HS14.out.1).cell 1, (HS14.out.1).cell 2, (HS14.out.2.1).cell 0, (HS14.out.2.1).cell 1, Nat.le_refl _, HS14.out.1, HS14.out.2.1, HS14.out.2.2.1, HS14.out.2.2.2.1, HS14.out.2.2.2.2.1, HS14.out.2.2.2.2.2.1, HS14.out.2.2.2.2.2.2.1, HS14.out.2.2.2.2.2.2.2.1, HS14.out.2.2.2.2.2.2.2.2⟩
        have HK2 : Hid (∀ (v : World) (q : Addr) (u : Value), (v.cell? ⟨w.heap.size, 0, none⟩ = some (.int .i64 k) ∧ v.cell? ⟨w.heap.size, 1, none⟩ = some (.int .u64 (a : Int)) ∧ v.cell? ⟨w.heap.size, 2, none⟩ = some (.int .u64 (b : Int)) ∧ v.cell? ⟨(w.heap.size + 1), 0, none⟩ = some (.int .i64 sn) ∧ v.cell? ⟨(w.heap.size + 1), 1, none⟩ = some (.slice ao_ss ss.length c_ss) ∧ w14.heap.size ≤ v.heap.size ∧ Whole v w.heap.size 24 #[.int .i64 k, .int .u64 (a : Int), .int .u64 (b : Int)] ∧ Whole v (w.heap.size + 1) 27 #[.int .i64 sn, .slice ao_ss ss.length c_ss] ∧ Row v rl3 rh3 aos (il (walkL sn.toNat ss k a b fr.toNat st.toNat)) ∧ Whole v gN3 29 #[.int .i64 k, .int .u64 ((sdK k a b st.toNat).1 : Int), .int .u64 ((sdK k a b st.toNat).2 : Int)] ∧ Row v w3.heap.size w4.heap.size aoX_ss (fl .f32 (fmarks 1 ss.length)) ∧ Whole v w4.heap.size 34 #[.int .i64 sn, .slice aoX_ss ss.length ss.length] ∧ Row v rl6 rh6 aog (il (marks 1 (st.toNat + 1))) ∧ Whole v gN6 29 #[.int .i64 k, .int .u64 ((sdK k a b st.toNat).1 : Int), .int .u64 ((sdK k a b st.toNat).2 : Int)] ∧ Below w.heap.size w v) → w14.heap.size ≤ q.block → ((v.setCell q u).cell? ⟨w.heap.size, 0, none⟩ = some (.int .i64 k) ∧ (v.setCell q u).cell? ⟨w.heap.size, 1, none⟩ = some (.int .u64 (a : Int)) ∧ (v.setCell q u).cell? ⟨w.heap.size, 2, none⟩ = some (.int .u64 (b : Int)) ∧ (v.setCell q u).cell? ⟨(w.heap.size + 1), 0, none⟩ = some (.int .i64 sn) ∧ (v.setCell q u).cell? ⟨(w.heap.size + 1), 1, none⟩ = some (.slice ao_ss ss.length c_ss) ∧ w14.heap.size ≤ (v.setCell q u).heap.size ∧ Whole (v.setCell q u) w.heap.size 24 #[.int .i64 k, .int .u64 (a : Int), .int .u64 (b : Int)] ∧ Whole (v.setCell q u) (w.heap.size + 1) 27 #[.int .i64 sn, .slice ao_ss ss.length c_ss] ∧ Row (v.setCell q u) rl3 rh3 aos (il (walkL sn.toNat ss k a b fr.toNat st.toNat)) ∧ Whole (v.setCell q u) gN3 29 #[.int .i64 k, .int .u64 ((sdK k a b st.toNat).1 : Int), .int .u64 ((sdK k a b st.toNat).2 : Int)] ∧ Row (v.setCell q u) w3.heap.size w4.heap.size aoX_ss (fl .f32 (fmarks 1 ss.length)) ∧ Whole (v.setCell q u) w4.heap.size 34 #[.int .i64 sn, .slice aoX_ss ss.length ss.length] ∧ Row (v.setCell q u) rl6 rh6 aog (il (marks 1 (st.toNat + 1))) ∧ Whole (v.setCell q u) gN6 29 #[.int .i64 k, .int .u64 ((sdK k a b st.toNat).1 : Int), .int .u64 ((sdK k a b st.toNat).2 : Int)] ∧ Below w.heap.size w (v.setCell q u))) := Lib.hid (fun v q u h hq => ⟨((World.cell?_of_block (a := ⟨w.heap.size, 0, none⟩) (Below.heap_setCell v q u _ (by show ¬ _ = _; simp only []; omega))).trans h.1), ((World.cell?_of_block (a := ⟨w.heap.size, 1, none⟩) (Below.heap_setCell v q u _ (by show ¬ _ = _; simp only []; omega))).trans h.2.1), ((World.cell?_of_block (a := ⟨w.heap.size, 2, none⟩) (Below.heap_setCell v q u _ (by show ¬ _ = _; simp only []; omega))).trans h.2.2.1), ((World.cell?_of_block (a := ⟨(w.heap.size + 1), 0, none⟩) (Below.heap_setCell v q u _ (by show ¬ _ = _; simp only []; omega))).trans h.2.2.2.1), ((World.cell?_of_block (a := ⟨(w.heap.size + 1), 1, none⟩) (Below.heap_setCell v q u _ (by show ¬ _ = _; simp only []; omega))).trans h.2.2.2.2.1), (by simpa using h.2.2.2.2.2.1), h.2.2.2.2.2.2.1.far (by omega) _, h.2.2.2.2.2.2.2.1.far (by omega) _, h.2.2.2.2.2.2.2.2.1.far (.inr (by omega)) _, h.2.2.2.2.2.2.2.2.2.1.far (by omega) _, h.2.2.2.2.2.2.2.2.2.2.1.far (.inr (by omega)) _, h.2.2.2.2.2.2.2.2.2.2.2.1.far (by omega) _, h.2.2.2.2.2.2.2.2.2.2.2.2.1.far (.inr (by omega)) _, h.2.2.2.2.2.2.2.2.2.2.2.2.2.1.far (by omega) _, Below.setCell h.2.2.2.2.2.2.2.2.2.2.2.2.2.2 (by omega) _⟩)
        go_cut [20, 21, 22] from 23 (fun s0 s1 s2 wx => ∃ (gN : Nat) (aoh : Option Addr) (cch : Nat), s0 = .pointer (some ⟨gN, 0, none⟩) ∧ s1 = .slice aoh (st.toNat + 1) cch ∧ s2 = .bool true ∧ w14.heap.size ≤ gN ∧ Whole wx gN 29 #[.int .i64 k, .int .u64 ((sdK k a b st.toNat).1 : Int), .int .u64 ((sdK k a b st.toNat).2 : Int)] ∧ (∃ rl15 rh15 : Nat, Row wx rl15 rh15 aoh (il (walkL sn.toNat ss k a b fr.toNat st.toNat)) ∧ w14.heap.size ≤ rl15 ∧ rl15 ≤ rh15 ∧ rh15 ≤ wx.heap.size ∧ (gN < rl15 ∨ rh15 ≤ gN)) ∧ Whole wx w.heap.size 24 #[.int .i64 k, .int .u64 (a : Int), .int .u64 (b : Int)] ∧ Whole wx (w.heap.size + 1) 27 #[.int .i64 sn, .slice ao_ss ss.length c_ss] ∧ Row wx rl3 rh3 aos (il (walkL sn.toNat ss k a b fr.toNat st.toNat)) ∧ Whole wx gN3 29 #[.int .i64 k, .int .u64 ((sdK k a b st.toNat).1 : Int), .int .u64 ((sdK k a b st.toNat).2 : Int)] ∧ Row wx w3.heap.size w4.heap.size aoX_ss (fl .f32 (fmarks 1 ss.length)) ∧ Whole wx w4.heap.size 34 #[.int .i64 sn, .slice aoX_ss ss.length ss.length] ∧ Row wx rl6 rh6 aog (il (marks 1 (st.toNat + 1))) ∧ Whole wx gN6 29 #[.int .i64 k, .int .u64 ((sdK k a b st.toNat).1 : Int), .int .u64 ((sdK k a b st.toNat).2 : Int)] ∧ Below w.heap.size w wx)
        case first =>
          go_region_held3 (fun v => v.cell? ⟨w.heap.size, 0, none⟩ = some (.int .i64 k) ∧ v.cell? ⟨w.heap.size, 1, none⟩ = some (.int .u64 (a : Int)) ∧ v.cell? ⟨w.heap.size, 2, none⟩ = some (.int .u64 (b : Int)) ∧ v.cell? ⟨(w.heap.size + 1), 0, none⟩ = some (.int .i64 sn) ∧ v.cell? ⟨(w.heap.size + 1), 1, none⟩ = some (.slice ao_ss ss.length c_ss) ∧ w14.heap.size ≤ v.heap.size ∧ Whole v w.heap.size 24 #[.int .i64 k, .int .u64 (a : Int), .int .u64 (b : Int)] ∧ Whole v (w.heap.size + 1) 27 #[.int .i64 sn, .slice ao_ss ss.length c_ss] ∧ Row v rl3 rh3 aos (il (walkL sn.toNat ss k a b fr.toNat st.toNat)) ∧ Whole v gN3 29 #[.int .i64 k, .int .u64 ((sdK k a b st.toNat).1 : Int), .int .u64 ((sdK k a b st.toNat).2 : Int)] ∧ Row v w3.heap.size w4.heap.size aoX_ss (fl .f32 (fmarks 1 ss.length)) ∧ Whole v w4.heap.size 34 #[.int .i64 sn, .slice aoX_ss ss.length ss.length] ∧ Row v rl6 rh6 aog (il (marks 1 (st.toNat + 1))) ∧ Whole v gN6 29 #[.int .i64 k, .int .u64 ((sdK k a b st.toNat).1 : Int), .int .u64 ((sdK k a b st.toNat).2 : Int)] ∧ Below w.heap.size w v)
            (first | with_reducible assumption | with_reducible exact HSv2.out | with_reducible exact HSv1.out | with_reducible exact HSv0.out | ((with_reducible refine HK.out _ _ HSv2.out ?_); (repeat (first | with_reducible exact Below.refl _ _ | with_reducible refine Below.drew ?_ | with_reducible refine Bel_drewN ?_ _ | with_reducible refine Below.alloc ?_ (by first | omega | (simp; done) | (simp; omega)) _ | with_reducible refine Below.setCell ?_ (by first | omega | (simp; done) | (simp; omega)) _)); done) | ((with_reducible refine HK.out _ _ HSv1.out ?_); (repeat (first | with_reducible exact Below.refl _ _ | with_reducible refine Below.drew ?_ | with_reducible refine Bel_drewN ?_ _ | with_reducible refine Below.alloc ?_ (by first | omega | (simp; done) | (simp; omega)) _ | with_reducible refine Below.setCell ?_ (by first | omega | (simp; done) | (simp; omega)) _)); done) | ((with_reducible refine HK.out _ _ HSv0.out ?_); (repeat (first | with_reducible exact Below.refl _ _ | with_reducible refine Below.drew ?_ | with_reducible refine Bel_drewN ?_ _ | with_reducible refine Below.alloc ?_ (by first | omega | (simp; done) | (simp; omega)) _ | with_reducible refine Below.setCell ?_ (by first | omega | (simp; done) | (simp; omega)) _)); done) | ((with_reducible refine HK.out w14 _ hR ?_); (repeat (first | with_reducible exact Below.refl _ _ | with_reducible refine Below.drew ?_ | with_reducible refine Bel_drewN ?_ _ | with_reducible refine Below.alloc ?_ (by first | omega | (simp; done) | (simp; omega)) _ | with_reducible refine Below.setCell ?_ (by first | omega | (simp; done) | (simp; omega)) _)); done) | ((with_reducible refine HK2.out _ _ _ HSv2.out ?_) <;> (first | omega | (simp; done) | (simp; omega))) | ((with_reducible refine HK2.out _ _ _ (HK2.out _ _ _ HSv2.out ?_) ?_) <;> (first | omega | (simp; done) | (simp; omega))) | ((with_reducible refine HK2.out _ _ _ (HK2.out _ _ _ (HK2.out _ _ _ HSv2.out ?_) ?_) ?_) <;> (first | omega | (simp; done) | (simp; omega))) | exact HK.out _ _ (by with_reducible assumption) (by with_reducible assumption))
            (first | (go_at_call 17; refine (toSeed_ret k a b _).mono ?_; rintro e wt0 ⟨rfl, hbt0⟩; have zz0 := hbt0.size; (try simp at zz0); have HSv0 := Lib.hid (HK.out _ _ (by with_reducible assumption) hbt0); obtain ⟨kc0, kf0⟩ := cells_kept hbt0; (try have zt0_0 : w14.heap.size < wt0.heap.size := by omega)) | (go_at_call 18; refine (toChain_any sn ss _ _ _ (Holds.below HX_ss.out (HP.out _ (by assumption)).2.2.2.2.2.2.2.2) hn_ss).mono ?_; rintro e wt1 ⟨aohd_ss, rfl, rowhd_ss, hbt1⟩; have zz1 := hbt1.size; (try simp at zz1); have HSv1 := Lib.hid (HK.out _ _ (by with_reducible assumption) hbt1); obtain ⟨kc1, kf1⟩ := cells_kept hbt1; (try have zt1_0 : w14.heap.size < wt1.heap.size := by omega); (try have zt1_1 : wt0.heap.size < wt1.heap.size := by omega)) | (go_at_call 19; refine (implWalk_is k a b sn fr st ss _ _ _ _ h_a h_b rfl (by first | exact (rowhd_ss).holds | (refine (Row.below rowhd_ss ?_).holds; (repeat (first | with_reducible exact Below.refl _ _ | with_reducible refine Below.drew ?_ | with_reducible refine Bel_drewN ?_ _ | with_reducible refine Below.alloc ?_ (by first | omega | (simp; done) | (simp; omega)) _ | with_reducible refine Below.setCell ?_ (by first | omega | (simp; done) | (simp; omega)) _)); done)) (Nat.le_refl _) HV.out).mono ?_; rintro e w15 ⟨aoh, cch, rfl, rowh, hb⟩; have zz2 := hb.size; (try simp at zz2); have HSv2 := Lib.hid (HK.out _ _ (by with_reducible assumption) hb); obtain ⟨kc2, kf2⟩ := cells_kept hb; (try have zt2_0 : w14.heap.size < w15.heap.size := by omega); (try have zt2_1 : wt0.heap.size < w15.heap.size := by omega); (try have zt2_2 : wt1.heap.size < w15.heap.size := by omega)))
          all_goals
            go_wp2_with fail
            go_meet
            refine ⟨_, aoh, cch, rfl, rfl, rfl, ?_, ?_, ?_, ?_⟩
            · first | omega | (simp; done) | (simp; omega)
            · first | exact Whole.made _ _ _ | (have hq := (((Whole.made _ _ _).below hbt0).below hbt1).below hb; exact (((hq).put 0 _).put 1 _).put 2 _) | (have hq := ((((Whole.made _ _ _).drew).below hbt0).below hbt1).below hb; exact (((hq).put 0 _).put 1 _).put 2 _) | (have hq := ((Whole.made _ _ _).below hbt1).below hb; exact (((hq).put 0 _).put 1 _).put 2 _) | (have hq := (Whole.made _ _ _).below hb; exact (((hq).put 0 _).put 1 _).put 2 _)
            · first | exact ⟨_, _, (Row.far (Row.far (Row.far rowh (by first | (left; (first | omega | (simp; done) | (simp; omega))) | (right; (first | omega | (simp; done) | (simp; omega)))) _) (by first | (left; (first | omega | (simp; done) | (simp; omega))) | (right; (first | omega | (simp; done) | (simp; omega)))) _) (by first | (left; (first | omega | (simp; done) | (simp; omega))) | (right; (first | omega | (simp; done) | (simp; omega)))) _), (by first | omega | (simp; done) | (simp; omega)), (by first | omega | (simp; done) | (simp; omega)), (by first | omega | (simp; done) | (simp; omega)), (by first | (left; (first | omega | (simp; done) | (simp; omega))) | (right; (first | omega | (simp; done) | (simp; omega))))⟩ | exact ⟨_, _, Row.alloc rowh _, (by first | omega | (simp; done) | (simp; omega)), (by first | omega | (simp; done) | (simp; omega)), (by first | omega | (simp; done) | (simp; omega)), (by first | (left; (first | omega | (simp; done) | (simp; omega))) | (right; (first | omega | (simp; done) | (simp; omega))))⟩ | exact ⟨_, _, (Row.far (Row.far (Row.far (Row.alloc rowh _) (by first | (left; (first | omega | (simp; done) | (simp; omega))) | (right; (first | omega | (simp; done) | (simp; omega)))) _) (by first | (left; (first | omega | (simp; done) | (simp; omega))) | (right; (first | omega | (simp; done) | (simp; omega)))) _) (by first | (left; (first | omega | (simp; done) | (simp; omega))) | (right; (first | omega | (simp; done) | (simp; omega)))) _), (by first | omega | (simp; done) | (simp; omega)), (by first | omega | (simp; done) | (simp; omega)), (by first | omega | (simp; done) | (simp; omega)), (by first | (left; (first | omega | (simp; done) | (simp; omega))) | (right; (first | omega | (simp; done) | (simp; omega))))⟩
            · first | (refine HP.out _ (HK.out _ _ HSv2.out ?_); (repeat (first | with_reducible exact Below.refl _ _ | with_reducible refine Below.drew ?_ | with_reducible refine Bel_drewN ?_ _ | with_reducible refine Below.alloc ?_ (by first | omega | (simp; done) | (simp; omega)) _ | with_reducible refine Below.setCell ?_ (by first | omega | (simp; done) | (simp; omega)) _)); done) | exact HP.out _ (HK2.out _ _ _ (HK2.out _ _ _ (HK2.out _ _ _ HSv2.out (by first | omega | (simp; done) | (simp; omega))) (by first | omega | (simp; done) | (simp; omega))) (by first | omega | (simp; done) | (simp; omega)))
        case rest =>
          obtain ⟨gN, aoh, cch, rfl, rfl, rfl, hle, hW, ⟨rl15, rh15, hrow0, hra15, hrb15, hrc15, hrd15⟩, hS⟩ := hcut
          rename World => w15
          have z15 : w14.heap.size ≤ w15.heap.size := by have := hW.lt; omega
          obtain ⟨gN15, hgN⟩ : ∃ g, g = gN := ⟨_, rfl⟩
          subst hgN
          have ygN15 : gN15 < w15.heap.size := hW.lt
          have xgN15 : w14.heap.size ≤ gN15 := hle
          have HS15 : Hid (Whole w15 w.heap.size 24 #[.int .i64 k, .int .u64 (a : Int), .int .u64 (b : Int)] ∧ Whole w15 (w.heap.size + 1) 27 #[.int .i64 sn, .slice ao_ss ss.length c_ss] ∧ Row w15 rl3 rh3 aos (il (walkL sn.toNat ss k a b fr.toNat st.toNat)) ∧ Whole w15 gN3 29 #[.int .i64 k, .int .u64 ((sdK k a b st.toNat).1 : Int), .int .u64 ((sdK k a b st.toNat).2 : Int)] ∧ Row w15 w3.heap.size w4.heap.size aoX_ss (fl .f32 (fmarks 1 ss.length)) ∧ Whole w15 w4.heap.size 34 #[.int .i64 sn, .slice aoX_ss ss.length ss.length] ∧ Row w15 rl6 rh6 aog (il (marks 1 (st.toNat + 1))) ∧ Whole w15 gN6 29 #[.int .i64 k, .int .u64 ((sdK k a b st.toNat).1 : Int), .int .u64 ((sdK k a b st.toNat).2 : Int)] ∧ Row w15 rl15 rh15 aoh (il (walkL sn.toNat ss k a b fr.toNat st.toNat)) ∧ Whole w15 gN15 29 #[.int .i64 k, .int .u64 ((sdK k a b st.toNat).1 : Int), .int .u64 ((sdK k a b st.toNat).2 : Int)] ∧ Below w.heap.size w w15) := Lib.hid ⟨hS.1, hS.2.1, hS.2.2.1, hS.2.2.2.1, hS.2.2.2.2.1, hS.2.2.2.2.2.1, hS.2.2.2.2.2.2.1, hS.2.2.2.2.2.2.2.1, hrow0, hW, hS.2.2.2.2.2.2.2.2⟩
          clear HS14 HK HP HK2 hR hle hW hS hrow0
          have hc0 := (HS15.out.1).facts.1
          have hf0 := (HS15.out.1).facts.2
          have hz0 := (HS15.out.1).lt
          have hc1 := (HS15.out.2.1).facts.1
          have hf1 := (HS15.out.2.1).facts.2
          have hz1 := (HS15.out.2.1).lt
          have hc3 := (HS15.out.2.2.2.1).facts.1
          have hf3 := (HS15.out.2.2.2.1).facts.2
          have hz3 := (HS15.out.2.2.2.1).lt
          have hc5 := (HS15.out.2.2.2.2.2.1).facts.1
          have hf5 := (HS15.out.2.2.2.2.2.1).facts.2
          have hz5 := (HS15.out.2.2.2.2.2.1).lt
          have hc7 := (HS15.out.2.2.2.2.2.2.2.1).facts.1
          have hf7 := (HS15.out.2.2.2.2.2.2.2.1).facts.2
          have hz7 := (HS15.out.2.2.2.2.2.2.2.1).lt
          have hc9 := (HS15.out.2.2.2.2.2.2.2.2.2.1).facts.1
          have hf9 := (HS15.out.2.2.2.2.2.2.2.2.2.1).facts.2
          have hz9 := (HS15.out.2.2.2.2.2.2.2.2.2.1).lt
          go_wp2_with fail
          clear hc0 hf0 hz0
          clear hc1 hf1 hz1
          clear hc3 hf3 hz3
          clear hc5 hf5 hz5
          clear hc7 hf7 hz7
          clear hc9 hf9 hz9
          refine (eqSeed_same _ _ _ _).mono ?_
          rintro e w16 ⟨rfl, hb⟩
          have z16 : w15.heap.size ≤ w16.heap.size := hb.size
          have HS16 : Hid (Whole w16 w.heap.size 24 #[.int .i64 k, .int .u64 (a : Int), .int .u64 (b : Int)] ∧ Whole w16 (w.heap.size + 1) 27 #[.int .i64 sn, .slice ao_ss ss.length c_ss] ∧ Row w16 rl3 rh3 aos (il (walkL sn.toNat ss k a b fr.toNat st.toNat)) ∧ Whole w16 gN3 29 #[.int .i64 k, .int .u64 ((sdK k a b st.toNat).1 : Int), .int .u64 ((sdK k a b st.toNat).2 : Int)] ∧ Row w16 w3.heap.size w4.heap.size aoX_ss (fl .f32 (fmarks 1 ss.length)) ∧ Whole w16 w4.heap.size 34 #[.int .i64 sn, .slice aoX_ss ss.length ss.length] ∧ Row w16 rl6 rh6 aog (il (marks 1 (st.toNat + 1))) ∧ Whole w16 gN6 29 #[.int .i64 k, .int .u64 ((sdK k a b st.toNat).1 : Int), .int .u64 ((sdK k a b st.toNat).2 : Int)] ∧ Row w16 rl15 rh15 aoh (il (walkL sn.toNat ss k a b fr.toNat st.toNat)) ∧ Whole w16 gN15 29 #[.int .i64 k, .int .u64 ((sdK k a b st.toNat).1 : Int), .int .u64 ((sdK k a b st.toNat).2 : Int)] ∧ Below w.heap.size w w16) := Lib.hid ⟨HS15.out.1.below hb, HS15.out.2.1.below hb, HS15.out.2.2.1.below hb, HS15.out.2.2.2.1.below hb, HS15.out.2.2.2.2.1.below hb, HS15.out.2.2.2.2.2.1.below hb, HS15.out.2.2.2.2.2.2.1.below hb, HS15.out.2.2.2.2.2.2.2.1.below hb, HS15.out.2.2.2.2.2.2.2.2.1.below hb, HS15.out.2.2.2.2.2.2.2.2.2.1.below hb, Bel_next HS15.out.2.2.2.2.2.2.2.2.2.2 hb⟩
          clear HS15 hb
          have hc0 := (HS16.out.1).facts.1
          have hf0 := (HS16.out.1).facts.2
          have hz0 := (HS16.out.1).lt
          have hc1 := (HS16.out.2.1).facts.1
          have hf1 := (HS16.out.2.1).facts.2
          have hz1 := (HS16.out.2.1).lt
          have hc3 := (HS16.out.2.2.2.1).facts.1
          have hf3 := (HS16.out.2.2.2.1).facts.2
          have hz3 := (HS16.out.2.2.2.1).lt
          have hc5 := (HS16.out.2.2.2.2.2.1).facts.1
          have hf5 := (HS16.out.2.2.2.2.2.1).facts.2
          have hz5 := (HS16.out.2.2.2.2.2.1).lt
          have hc7 := (HS16.out.2.2.2.2.2.2.2.1).facts.1
          have hf7 := (HS16.out.2.2.2.2.2.2.2.1).facts.2
          have hz7 := (HS16.out.2.2.2.2.2.2.2.1).lt
          have hc9 := (HS16.out.2.2.2.2.2.2.2.2.2.1).facts.1
          have hf9 := (HS16.out.2.2.2.2.2.2.2.2.2.1).facts.2
          have hz9 := (HS16.out.2.2.2.2.2.2.2.2.2.1).lt
          go_wp2_with fail
          clear hc0 hf0 hz0
          clear hc1 hf1 hz1
          clear hc3 hf3 hz3
          clear hc5 hf5 hz5
          clear hc7 hf7 hz7
          clear hc9 hf9 hz9
          refine (eqInt64S_same (walkL sn.toNat ss k a b fr.toNat st.toNat) ((st.toNat + 1)) (walkL_len _ _ _ _ _ _ _) _ _ _ _ _ HS16.out.2.2.2.2.2.2.2.2.1.holds HS16.out.2.2.1.holds (by omega)).mono ?_
          rintro e w17 ⟨rfl, hb⟩
          have z17 : w16.heap.size ≤ w17.heap.size := hb.size
          have HS17 : Hid (Whole w17 w.heap.size 24 #[.int .i64 k, .int .u64 (a : Int), .int .u64 (b : Int)] ∧ Whole w17 (w.heap.size + 1) 27 #[.int .i64 sn, .slice ao_ss ss.length c_ss] ∧ Row w17 rl3 rh3 aos (il (walkL sn.toNat ss k a b fr.toNat st.toNat)) ∧ Whole w17 gN3 29 #[.int .i64 k, .int .u64 ((sdK k a b st.toNat).1 : Int), .int .u64 ((sdK k a b st.toNat).2 : Int)] ∧ Row w17 w3.heap.size w4.heap.size aoX_ss (fl .f32 (fmarks 1 ss.length)) ∧ Whole w17 w4.heap.size 34 #[.int .i64 sn, .slice aoX_ss ss.length ss.length] ∧ Row w17 rl6 rh6 aog (il (marks 1 (st.toNat + 1))) ∧ Whole w17 gN6 29 #[.int .i64 k, .int .u64 ((sdK k a b st.toNat).1 : Int), .int .u64 ((sdK k a b st.toNat).2 : Int)] ∧ Row w17 rl15 rh15 aoh (il (walkL sn.toNat ss k a b fr.toNat st.toNat)) ∧ Whole w17 gN15 29 #[.int .i64 k, .int .u64 ((sdK k a b st.toNat).1 : Int), .int .u64 ((sdK k a b st.toNat).2 : Int)] ∧ Below w.heap.size w w17) := Lib.hid ⟨HS16.out.1.below hb, HS16.out.2.1.below hb, HS16.out.2.2.1.below hb, HS16.out.2.2.2.1.below hb, HS16.out.2.2.2.2.1.below hb, HS16.out.2.2.2.2.2.1.below hb, HS16.out.2.2.2.2.2.2.1.below hb, HS16.out.2.2.2.2.2.2.2.1.below hb, HS16.out.2.2.2.2.2.2.2.2.1.below hb, HS16.out.2.2.2.2.2.2.2.2.2.1.below hb, Bel_next HS16.out.2.2.2.2.2.2.2.2.2.2 hb⟩
          clear HS16 hb
          have hc0 := (HS17.out.1).facts.1
          have hf0 := (HS17.out.1).facts.2
          have hz0 := (HS17.out.1).lt
          have hc1 := (HS17.out.2.1).facts.1
          have hf1 := (HS17.out.2.1).facts.2
          have hz1 := (HS17.out.2.1).lt
          have hc3 := (HS17.out.2.2.2.1).facts.1
          have hf3 := (HS17.out.2.2.2.1).facts.2
          have hz3 := (HS17.out.2.2.2.1).lt
          have hc5 := (HS17.out.2.2.2.2.2.1).facts.1
          have hf5 := (HS17.out.2.2.2.2.2.1).facts.2
          have hz5 := (HS17.out.2.2.2.2.2.1).lt
          have hc7 := (HS17.out.2.2.2.2.2.2.2.1).facts.1
          have hf7 := (HS17.out.2.2.2.2.2.2.2.1).facts.2
          have hz7 := (HS17.out.2.2.2.2.2.2.2.1).lt
          have hc9 := (HS17.out.2.2.2.2.2.2.2.2.2.1).facts.1
          have hf9 := (HS17.out.2.2.2.2.2.2.2.2.2.1).facts.2
          have hz9 := (HS17.out.2.2.2.2.2.2.2.2.2.1).lt
          go_wp2_with fail
          clear hc0 hf0 hz0
          clear hc1 hf1 hz1
          clear hc3 hf3 hz3
          clear hc5 hf5 hz5
          clear hc7 hf7 hz7
          clear hc9 hf9 hz9
          refine (heldInt64S_marks 1 ((st.toNat + 1)) _ _ _ HS17.out.2.2.2.2.2.2.1.holds (by omega)).mono ?_
          rintro e w18 ⟨rfl, hb⟩
          have z18 : w17.heap.size ≤ w18.heap.size := hb.size
          have HS18 : Hid (Whole w18 w.heap.size 24 #[.int .i64 k, .int .u64 (a : Int), .int .u64 (b : Int)] ∧ Whole w18 (w.heap.size + 1) 27 #[.int .i64 sn, .slice ao_ss ss.length c_ss] ∧ Row w18 rl3 rh3 aos (il (walkL sn.toNat ss k a b fr.toNat st.toNat)) ∧ Whole w18 gN3 29 #[.int .i64 k, .int .u64 ((sdK k a b st.toNat).1 : Int), .int .u64 ((sdK k a b st.toNat).2 : Int)] ∧ Row w18 w3.heap.size w4.heap.size aoX_ss (fl .f32 (fmarks 1 ss.length)) ∧ Whole w18 w4.heap.size 34 #[.int .i64 sn, .slice aoX_ss ss.length ss.length] ∧ Row w18 rl6 rh6 aog (il (marks 1 (st.toNat + 1))) ∧ Whole w18 gN6 29 #[.int .i64 k, .int .u64 ((sdK k a b st.toNat).1 : Int), .int .u64 ((sdK k a b st.toNat).2 : Int)] ∧ Row w18 rl15 rh15 aoh (il (walkL sn.toNat ss k a b fr.toNat st.toNat)) ∧ Whole w18 gN15 29 #[.int .i64 k, .int .u64 ((sdK k a b st.toNat).1 : Int), .int .u64 ((sdK k a b st.toNat).2 : Int)] ∧ Below w.heap.size w w18) := Lib.hid ⟨HS17.out.1.below hb, HS17.out.2.1.below hb, HS17.out.2.2.1.below hb, HS17.out.2.2.2.1.below hb, HS17.out.2.2.2.2.1.below hb, HS17.out.2.2.2.2.2.1.below hb, HS17.out.2.2.2.2.2.2.1.below hb, HS17.out.2.2.2.2.2.2.2.1.below hb, HS17.out.2.2.2.2.2.2.2.2.1.below hb, HS17.out.2.2.2.2.2.2.2.2.2.1.below hb, Bel_next HS17.out.2.2.2.2.2.2.2.2.2.2 hb⟩
          clear HS17 hb
          have hc0 := (HS18.out.1).facts.1
          have hf0 := (HS18.out.1).facts.2
          have hz0 := (HS18.out.1).lt
          have hc1 := (HS18.out.2.1).facts.1
          have hf1 := (HS18.out.2.1).facts.2
          have hz1 := (HS18.out.2.1).lt
          have hc3 := (HS18.out.2.2.2.1).facts.1
          have hf3 := (HS18.out.2.2.2.1).facts.2
          have hz3 := (HS18.out.2.2.2.1).lt
          have hc5 := (HS18.out.2.2.2.2.2.1).facts.1
          have hf5 := (HS18.out.2.2.2.2.2.1).facts.2
          have hz5 := (HS18.out.2.2.2.2.2.1).lt
          have hc7 := (HS18.out.2.2.2.2.2.2.2.1).facts.1
          have hf7 := (HS18.out.2.2.2.2.2.2.2.1).facts.2
          have hz7 := (HS18.out.2.2.2.2.2.2.2.1).lt
          have hc9 := (HS18.out.2.2.2.2.2.2.2.2.2.1).facts.1
          have hf9 := (HS18.out.2.2.2.2.2.2.2.2.2.1).facts.2
          have hz9 := (HS18.out.2.2.2.2.2.2.2.2.2.1).lt
          go_wp2_with fail
          clear hc0 hf0 hz0
          clear hc1 hf1 hz1
          clear hc3 hf3 hz3
          clear hc5 hf5 hz5
          clear hc7 hf7 hz7
          clear hc9 hf9 hz9
          go_ret
          exact ⟨rfl, Bel_next HS18.out.2.2.2.2.2.2.2.2.2.2 (by repeat (first | with_reducible exact Below.refl _ _ | with_reducible refine Below.drew ?_ | with_reducible refine Bel_drewN ?_ _ | with_reducible refine Below.alloc ?_ (by first | omega | (simp; done) | (simp; omega)) _ | with_reducible refine Below.setCell ?_ (by first | omega | (simp; done) | (simp; omega)) _))⟩
  have HV := Lib.hid hv0
  clear hv0
  go_enter Try.func3, Try.ntmps3
  have HS0 : Hid (Below w.heap.size w w) := Lib.hid (Below.refl _ _)
  go_wp2_with fail
  generalize hW : World.alloc (World.alloc w _) _ = w1
  have hb : Below w.heap.size w w1 := by rw [← hW]; exact (by repeat (first | with_reducible exact Below.refl _ _ | with_reducible refine Below.drew ?_ | with_reducible refine Bel_drewN ?_ _ | with_reducible refine Below.alloc ?_ (by first | omega | (simp; done) | (simp; omega)) _ | with_reducible refine Below.setCell ?_ (by first | omega | (simp; done) | (simp; omega)) _))
  have z1 : w.heap.size + 2 ≤ w1.heap.size := by rw [← hW]; simp
  have HS1 : Hid (Whole w1 w.heap.size 24 #[.int .i64 k, .int .u64 (a : Int), .int .u64 (b : Int)] ∧ Whole w1 (w.heap.size + 1) 27 #[.int .i64 sn, .slice ao_ss ss.length c_ss] ∧ Below w.heap.size w w1) := Lib.hid ⟨by rw [← hW]; exact (Whole.made _ _ _).alloc _, by rw [← hW]; exact Whole.made2 _ _ _ _, Bel_next HS0.out hb⟩
  clear HS0 hW hb
  refine (szChain_yes sn ss _ _ (1048576) _ HL0.out (by omega)).mono ?_
  rintro e w2 ⟨rfl, hb⟩
  have z2 : w1.heap.size ≤ w2.heap.size := hb.size
  have HS2 : Hid (Whole w2 w.heap.size 24 #[.int .i64 k, .int .u64 (a : Int), .int .u64 (b : Int)] ∧ Whole w2 (w.heap.size + 1) 27 #[.int .i64 sn, .slice ao_ss ss.length c_ss] ∧ Below w.heap.size w w2) := Lib.hid ⟨HS1.out.1.below hb, HS1.out.2.1.below hb, Bel_next HS1.out.2.2 hb⟩
  clear HS1 hb
  have hc0 := (HS2.out.1).facts.1
  have hf0 := (HS2.out.1).facts.2
  have hz0 := (HS2.out.1).lt
  have hc1 := (HS2.out.2.1).facts.1
  have hf1 := (HS2.out.2.1).facts.2
  have hz1 := (HS2.out.2.1).lt
  go_wp2_with fail
  clear hc0 hf0 hz0
  clear hc1 hf1 hz1
  have HK : Hid (∀ v v' : World, (v.cell? ⟨w.heap.size, 0, none⟩ = some (.int .i64 k) ∧ v.cell? ⟨w.heap.size, 1, none⟩ = some (.int .u64 (a : Int)) ∧ v.cell? ⟨w.heap.size, 2, none⟩ = some (.int .u64 (b : Int)) ∧ v.cell? ⟨(w.heap.size + 1), 0, none⟩ = some (.int .i64 sn) ∧ v.cell? ⟨(w.heap.size + 1), 1, none⟩ = some (.slice ao_ss ss.length c_ss) ∧ w2.heap.size ≤ v.heap.size ∧ Whole v w.heap.size 24 #[.int .i64 k, .int .u64 (a : Int), .int .u64 (b : Int)] ∧ Whole v (w.heap.size + 1) 27 #[.int .i64 sn, .slice ao_ss ss.length c_ss] ∧ Below w.heap.size w v) → Below v.heap.size v v' → (v'.cell? ⟨w.heap.size, 0, none⟩ = some (.int .i64 k) ∧ v'.cell? ⟨w.heap.size, 1, none⟩ = some (.int .u64 (a : Int)) ∧ v'.cell? ⟨w.heap.size, 2, none⟩ = some (.int .u64 (b : Int)) ∧ v'.cell? ⟨(w.heap.size + 1), 0, none⟩ = some (.int .i64 sn) ∧ v'.cell? ⟨(w.heap.size + 1), 1, none⟩ = some (.slice ao_ss ss.length c_ss) ∧ w2.heap.size ≤ v'.heap.size ∧ Whole v' w.heap.size 24 #[.int .i64 k, .int .u64 (a : Int), .int .u64 (b : Int)] ∧ Whole v' (w.heap.size + 1) 27 #[.int .i64 sn, .slice ao_ss ss.length c_ss] ∧ Below w.heap.size w v')) := Lib.hid (fun v v' h hb => ⟨(by rw [Below.cell hb (World.block_lt_of_cell? _ _ h.1)]; exact h.1), (by rw [Below.cell hb (World.block_lt_of_cell? _ _ h.2.1)]; exact h.2.1), (by rw [Below.cell hb (World.block_lt_of_cell? _ _ h.2.2.1)]; exact h.2.2.1), (by rw [Below.cell hb (World.block_lt_of_cell? _ _ h.2.2.2.1)]; exact h.2.2.2.1), (by rw [Below.cell hb (World.block_lt_of_cell? _ _ h.2.2.2.2.1)]; exact h.2.2.2.2.1), Nat.le_trans h.2.2.2.2.2.1 hb.size, h.2.2.2.2.2.2.1.below hb, h.2.2.2.2.2.2.2.1.below hb, Bel_next h.2.2.2.2.2.2.2.2 hb⟩)
  have HP : Hid (∀ v : World, (v.cell? ⟨w.heap.size, 0, none⟩ = some (.int .i64 k) ∧ v.cell? ⟨w.heap.size, 1, none⟩ = some (.int .u64 (a : Int)) ∧ v.cell? ⟨w.heap.size, 2, none⟩ = some (.int .u64 (b : Int)) ∧ v.cell? ⟨(w.heap.size + 1), 0, none⟩ = some (.int .i64 sn) ∧ v.cell? ⟨(w.heap.size + 1), 1, none⟩ = some (.slice ao_ss ss.length c_ss) ∧ w2.heap.size ≤ v.heap.size ∧ Whole v w.heap.size 24 #[.int .i64 k, .int .u64 (a : Int), .int .u64 (b : Int)] ∧ Whole v (w.heap.size + 1) 27 #[.int .i64 sn, .slice ao_ss ss.length c_ss] ∧ Below w.heap.size w v) → (Whole v w.heap.size 24 #[.int .i64 k, .int .u64 (a : Int), .int .u64 (b : Int)] ∧ Whole v (w.heap.size + 1) 27 #[.int .i64 sn, .slice ao_ss ss.length c_ss] ∧ Below w.heap.size w v)) := Lib.hid (fun v h => h.2.2.2.2.2.2)
  have hR : w2.cell? ⟨w.heap.size, 0, none⟩ = some (.int .i64 k) ∧ w2.cell? ⟨w.heap.size, 1, none⟩ = some (.int .u64 (a : Int)) ∧ w2.cell? ⟨w.heap.size, 2, none⟩ = some (.int .u64 (b : Int)) ∧ w2.cell? ⟨(w.heap.size + 1), 0, none⟩ = some (.int .i64 sn) ∧ w2.cell? ⟨(w.heap.size + 1), 1, none⟩ = some (.slice ao_ss ss.length c_ss) ∧ w2.heap.size ≤ w2.heap.size ∧ Whole w2 w.heap.size 24 #[.int .i64 k, .int .u64 (a : Int), .int .u64 (b : Int)] ∧ Whole w2 (w.heap.size + 1) 27 #[.int .i64 sn, .slice ao_ss ss.length c_ss] ∧ Below w.heap.size w w2 := ⟨(HS2.out.1).cell 0, (HS2.out.1).cell 1, (HS2.out.1).cell 2, (HS2.out.2.1).cell 0, (HS2.out.2.1).cell 1, Nat.le_refl _, HS2.out.1, HS2.out.2.1, HS2.out.2.2⟩
  have HK2 : Hid (∀ (v : World) (q : Addr) (u : Value), (v.cell? ⟨w.heap.size, 0, none⟩ = some (.int .i64 k) ∧ v.cell? ⟨w.heap.size, 1, none⟩ = some (.int .u64 (a : Int)) ∧ v.cell? ⟨w.heap.size, 2, none⟩ = some (.int .u64 (b : Int)) ∧ v.cell? ⟨(w.heap.size + 1), 0, none⟩ = some (.int .i64 sn) ∧ v.cell? ⟨(w.heap.size + 1), 1, none⟩ = some (.slice ao_ss ss.length c_ss) ∧ w2.heap.size ≤ v.heap.size ∧ Whole v w.heap.size 24 #[.int .i64 k, .int .u64 (a : Int), .int .u64 (b : Int)] ∧ Whole v (w.heap.size + 1) 27 #[.int .i64 sn, .slice ao_ss ss.length c_ss] ∧ Below w.heap.size w v) → w2.heap.size ≤ q.block → ((v.setCell q u).cell? ⟨w.heap.size, 0, none⟩ = some (.int .i64 k) ∧ (v.setCell q u).cell? ⟨w.heap.size, 1, none⟩ = some (.int .u64 (a : Int)) ∧ (v.setCell q u).cell? ⟨w.heap.size, 2, none⟩ = some (.int .u64 (b : Int)) ∧ (v.setCell q u).cell? ⟨(w.heap.size + 1), 0, none⟩ = some (.int .i64 sn) ∧ (v.setCell q u).cell? ⟨(w.heap.size + 1), 1, none⟩ = some (.slice ao_ss ss.length c_ss) ∧ w2.heap.size ≤ (v.setCell q u).heap.size ∧ Whole (v.setCell q u) w.heap.size 24 #[.int .i64 k, .int .u64 (a : Int), .int .u64 (b : Int)] ∧ Whole (v.setCell q u) (w.heap.size + 1) 27 #[.int .i64 sn, .slice ao_ss ss.length c_ss] ∧ Below w.heap.size w (v.setCell q u))) := Lib.hid (fun v q u h hq => ⟨((World.cell?_of_block (a := ⟨w.heap.size, 0, none⟩) (Below.heap_setCell v q u _ (by show ¬ _ = _; simp only []; omega))).trans h.1), ((World.cell?_of_block (a := ⟨w.heap.size, 1, none⟩) (Below.heap_setCell v q u _ (by show ¬ _ = _; simp only []; omega))).trans h.2.1), ((World.cell?_of_block (a := ⟨w.heap.size, 2, none⟩) (Below.heap_setCell v q u _ (by show ¬ _ = _; simp only []; omega))).trans h.2.2.1), ((World.cell?_of_block (a := ⟨(w.heap.size + 1), 0, none⟩) (Below.heap_setCell v q u _ (by show ¬ _ = _; simp only []; omega))).trans h.2.2.2.1), ((World.cell?_of_block (a := ⟨(w.heap.size + 1), 1, none⟩) (Below.heap_setCell v q u _ (by show ¬ _ = _; simp only []; omega))).trans h.2.2.2.2.1), (by simpa using h.2.2.2.2.2.1), h.2.2.2.2.2.2.1.far (by omega) _, h.2.2.2.2.2.2.2.1.far (by omega) _, Below.setCell h.2.2.2.2.2.2.2.2 (by omega) _⟩)
  go_cut [10, 11, 12] from 23 (fun s0 s1 s2 wx => ∃ (gN : Nat), s0 = .pointer (some ⟨gN, 0, none⟩) ∧ s1 = .slice none 0 0 ∧ s2 = .bool false ∧ w2.heap.size ≤ gN ∧ Whole wx gN 29 #[.int .i64 0, .int .u64 (0 : Int), .int .u64 (0 : Int)] ∧ Whole wx w.heap.size 24 #[.int .i64 k, .int .u64 (a : Int), .int .u64 (b : Int)] ∧ Whole wx (w.heap.size + 1) 27 #[.int .i64 sn, .slice ao_ss ss.length c_ss] ∧ Below w.heap.size w wx)
  case first =>
    go_region_held3 (fun v => v.cell? ⟨w.heap.size, 0, none⟩ = some (.int .i64 k) ∧ v.cell? ⟨w.heap.size, 1, none⟩ = some (.int .u64 (a : Int)) ∧ v.cell? ⟨w.heap.size, 2, none⟩ = some (.int .u64 (b : Int)) ∧ v.cell? ⟨(w.heap.size + 1), 0, none⟩ = some (.int .i64 sn) ∧ v.cell? ⟨(w.heap.size + 1), 1, none⟩ = some (.slice ao_ss ss.length c_ss) ∧ w2.heap.size ≤ v.heap.size ∧ Whole v w.heap.size 24 #[.int .i64 k, .int .u64 (a : Int), .int .u64 (b : Int)] ∧ Whole v (w.heap.size + 1) 27 #[.int .i64 sn, .slice ao_ss ss.length c_ss] ∧ Below w.heap.size w v)
      (first | with_reducible assumption | with_reducible exact HSv2.out | with_reducible exact HSv1.out | with_reducible exact HSv0.out | ((with_reducible refine HK.out _ _ HSv2.out ?_); (repeat (first | with_reducible exact Below.refl _ _ | with_reducible refine Below.drew ?_ | with_reducible refine Bel_drewN ?_ _ | with_reducible refine Below.alloc ?_ (by first | omega | (simp; done) | (simp; omega)) _ | with_reducible refine Below.setCell ?_ (by first | omega | (simp; done) | (simp; omega)) _)); done) | ((with_reducible refine HK.out _ _ HSv1.out ?_); (repeat (first | with_reducible exact Below.refl _ _ | with_reducible refine Below.drew ?_ | with_reducible refine Bel_drewN ?_ _ | with_reducible refine Below.alloc ?_ (by first | omega | (simp; done) | (simp; omega)) _ | with_reducible refine Below.setCell ?_ (by first | omega | (simp; done) | (simp; omega)) _)); done) | ((with_reducible refine HK.out _ _ HSv0.out ?_); (repeat (first | with_reducible exact Below.refl _ _ | with_reducible refine Below.drew ?_ | with_reducible refine Bel_drewN ?_ _ | with_reducible refine Below.alloc ?_ (by first | omega | (simp; done) | (simp; omega)) _ | with_reducible refine Below.setCell ?_ (by first | omega | (simp; done) | (simp; omega)) _)); done) | ((with_reducible refine HK.out w2 _ hR ?_); (repeat (first | with_reducible exact Below.refl _ _ | with_reducible refine Below.drew ?_ | with_reducible refine Bel_drewN ?_ _ | with_reducible refine Below.alloc ?_ (by first | omega | (simp; done) | (simp; omega)) _ | with_reducible refine Below.setCell ?_ (by first | omega | (simp; done) | (simp; omega)) _)); done) | ((with_reducible refine HK2.out _ _ _ HSv2.out ?_) <;> (first | omega | (simp; done) | (simp; omega))) | ((with_reducible refine HK2.out _ _ _ (HK2.out _ _ _ HSv2.out ?_) ?_) <;> (first | omega | (simp; done) | (simp; omega))) | ((with_reducible refine HK2.out _ _ _ (HK2.out _ _ _ (HK2.out _ _ _ HSv2.out ?_) ?_) ?_) <;> (first | omega | (simp; done) | (simp; omega))) | exact HK.out _ _ (by with_reducible assumption) (by with_reducible assumption))
      (first | (go_at_call 17; refine (toSeed_ret k a b _).mono ?_; rintro e wt0 ⟨rfl, hbt0⟩; have zz0 := hbt0.size; (try simp at zz0); have HSv0 := Lib.hid (HK.out _ _ (by with_reducible assumption) hbt0); obtain ⟨kc0, kf0⟩ := cells_kept hbt0; (try have zt0_0 : w2.heap.size < wt0.heap.size := by omega)) | (go_at_call 18; refine (toChain_any sn ss _ _ _ (Holds.below HX_ss.out (HP.out _ (by assumption)).2.2) hn_ss).mono ?_; rintro e wt1 ⟨aosd_ss, rfl, rowsd_ss, hbt1⟩; have zz1 := hbt1.size; (try simp at zz1); have HSv1 := Lib.hid (HK.out _ _ (by with_reducible assumption) hbt1); obtain ⟨kc1, kf1⟩ := cells_kept hbt1; (try have zt1_0 : w2.heap.size < wt1.heap.size := by omega); (try have zt1_1 : wt0.heap.size < wt1.heap.size := by omega)) | (go_at_call 16; refine (specWalk_no k a b sn fr st ss _ _ _ _ rfl (by first | exact (rowsd_ss).holds | (refine (Row.below rowsd_ss ?_).holds; (repeat (first | with_reducible exact Below.refl _ _ | with_reducible refine Below.drew ?_ | with_reducible refine Bel_drewN ?_ _ | with_reducible refine Below.alloc ?_ (by first | omega | (simp; done) | (simp; omega)) _ | with_reducible refine Below.setCell ?_ (by first | omega | (simp; done) | (simp; omega)) _)); done)) hn_ss HV.out).mono ?_; rintro e w3 ⟨rfl, hb⟩; have zz2 := hb.size; (try simp at zz2); have HSv2 := Lib.hid (HK.out _ _ (by with_reducible assumption) hb); obtain ⟨kc2, kf2⟩ := cells_kept hb; (try have zt2_0 : w2.heap.size < w3.heap.size := by omega); (try have zt2_1 : wt0.heap.size < w3.heap.size := by omega); (try have zt2_2 : wt1.heap.size < w3.heap.size := by omega)))
    all_goals
      go_wp2_with fail
      go_meet
      refine ⟨_, rfl, rfl, rfl, ?_, ?_, ?_⟩
      · first | omega | (simp; done) | (simp; omega)
      · first | exact Whole.made _ _ _ | (have hq := (((Whole.made _ _ _).below hbt0).below hbt1).below hb; exact (((hq).put 0 _).put 1 _).put 2 _) | (have hq := ((((Whole.made _ _ _).drew).below hbt0).below hbt1).below hb; exact (((hq).put 0 _).put 1 _).put 2 _) | (have hq := ((Whole.made _ _ _).below hbt1).below hb; exact (((hq).put 0 _).put 1 _).put 2 _) | (have hq := (Whole.made _ _ _).below hb; exact (((hq).put 0 _).put 1 _).put 2 _)
      · first | (refine HP.out _ (HK.out _ _ HSv2.out ?_); (repeat (first | with_reducible exact Below.refl _ _ | with_reducible refine Below.drew ?_ | with_reducible refine Bel_drewN ?_ _ | with_reducible refine Below.alloc ?_ (by first | omega | (simp; done) | (simp; omega)) _ | with_reducible refine Below.setCell ?_ (by first | omega | (simp; done) | (simp; omega)) _)); done) | exact HP.out _ (HK2.out _ _ _ (HK2.out _ _ _ (HK2.out _ _ _ HSv2.out (by first | omega | (simp; done) | (simp; omega))) (by first | omega | (simp; done) | (simp; omega))) (by first | omega | (simp; done) | (simp; omega)))
  case rest =>
    obtain ⟨gN, rfl, rfl, rfl, hle, hW, hS⟩ := hcut
    rename World => w3
    have z3 : w2.heap.size ≤ w3.heap.size := by have := hW.lt; omega
    obtain ⟨gN3, hgN⟩ : ∃ g, g = gN := ⟨_, rfl⟩
    subst hgN
    have ygN3 : gN3 < w3.heap.size := hW.lt
    have xgN3 : w2.heap.size ≤ gN3 := hle
    have HS3 : Hid (Whole w3 w.heap.size 24 #[.int .i64 k, .int .u64 (a : Int), .int .u64 (b : Int)] ∧ Whole w3 (w.heap.size + 1) 27 #[.int .i64 sn, .slice ao_ss ss.length c_ss] ∧ Whole w3 gN3 29 #[.int .i64 0, .int .u64 (0 : Int), .int .u64 (0 : Int)] ∧ Below w.heap.size w w3) := Lib.hid ⟨hS.1, hS.2.1, hW, hS.2.2⟩
    clear HS2 HK HP HK2 hR hle hW hS
    have hc0 := (HS3.out.1).facts.1
    have hf0 := (HS3.out.1).facts.2
    have hz0 := (HS3.out.1).lt
    have hc1 := (HS3.out.2.1).facts.1
    have hf1 := (HS3.out.2.1).facts.2
    have hz1 := (HS3.out.2.1).lt
    have hc2 := (HS3.out.2.2.1).facts.1
    have hf2 := (HS3.out.2.2.1).facts.2
    have hz2 := (HS3.out.2.2.1).lt
    go_wp2_with fail
    clear hc0 hf0 hz0
    clear hc1 hf1 hz1
    clear hc2 hf2 hz2
    refine (toChain_any sn ss _ _ _ (Holds.below HX_ss.out HS3.out.2.2.2) hn_ss).mono ?_
    rintro e w4 ⟨aoX_ss, rfl, rowX_ss, hb⟩
    have z4 : w3.heap.size ≤ w4.heap.size := hb.size
    have HS4 : Hid (Whole w4 w.heap.size 24 #[.int .i64 k, .int .u64 (a : Int), .int .u64 (b : Int)] ∧ Whole w4 (w.heap.size + 1) 27 #[.int .i64 sn, .slice ao_ss ss.length c_ss] ∧ Whole w4 gN3 29 #[.int .i64 0, .int .u64 (0 : Int), .int .u64 (0 : Int)] ∧ Row w4 w3.heap.size w4.heap.size aoX_ss (fl .f32 ss) ∧ Below w.heap.size w w4) := Lib.hid ⟨HS3.out.1.below hb, HS3.out.2.1.below hb, HS3.out.2.2.1.below hb, rowX_ss, Bel_next HS3.out.2.2.2 hb⟩
    clear HS3 hb rowX_ss
    have hc0 := (HS4.out.1).facts.1
    have hf0 := (HS4.out.1).facts.2
    have hz0 := (HS4.out.1).lt
    have hc1 := (HS4.out.2.1).facts.1
    have hf1 := (HS4.out.2.1).facts.2
    have hz1 := (HS4.out.2.1).lt
    have hc2 := (HS4.out.2.2.1).facts.1
    have hf2 := (HS4.out.2.2.1).facts.2
    have hz2 := (HS4.out.2.2.1).lt
    go_wp2_with fail
    clear hc0 hf0 hz0
    clear hc1 hf1 hz1
    clear hc2 hf2 hz2
    generalize hW : World.alloc w4 _ = w5
    have hb : Below w4.heap.size w4 w5 := by rw [← hW]; exact (by repeat (first | with_reducible exact Below.refl _ _ | with_reducible refine Below.drew ?_ | with_reducible refine Bel_drewN ?_ _ | with_reducible refine Below.alloc ?_ (by first | omega | (simp; done) | (simp; omega)) _ | with_reducible refine Below.setCell ?_ (by first | omega | (simp; done) | (simp; omega)) _))
    have z5 : w4.heap.size + 1 ≤ w5.heap.size := by rw [← hW]; simp
    have HS5 : Hid (Whole w5 w.heap.size 24 #[.int .i64 k, .int .u64 (a : Int), .int .u64 (b : Int)] ∧ Whole w5 (w.heap.size + 1) 27 #[.int .i64 sn, .slice ao_ss ss.length c_ss] ∧ Whole w5 gN3 29 #[.int .i64 0, .int .u64 (0 : Int), .int .u64 (0 : Int)] ∧ Row w5 w3.heap.size w4.heap.size aoX_ss (fl .f32 ss) ∧ Whole w5 w4.heap.size 34 #[.int .i64 sn, .slice aoX_ss ss.length ss.length] ∧ Below w.heap.size w w5) := Lib.hid ⟨HS4.out.1.below hb, HS4.out.2.1.below hb, HS4.out.2.2.1.below hb, HS4.out.2.2.2.1.below hb, by rw [← hW]; exact Whole.made _ _ _, Bel_next HS4.out.2.2.2.2 hb⟩
    clear HS4 hW hb
    have HK : Hid (∀ v v' : World, (v.cell? ⟨w.heap.size, 0, none⟩ = some (.int .i64 k) ∧ v.cell? ⟨w.heap.size, 1, none⟩ = some (.int .u64 (a : Int)) ∧ v.cell? ⟨w.heap.size, 2, none⟩ = some (.int .u64 (b : Int)) ∧ v.cell? ⟨w4.heap.size, 0, none⟩ = some (.int .i64 sn) ∧ v.cell? ⟨w4.heap.size, 1, none⟩ = some (.slice aoX_ss ss.length ss.length) ∧ w5.heap.size ≤ v.heap.size ∧ Whole v w.heap.size 24 #[.int .i64 k, .int .u64 (a : Int), .int .u64 (b : Int)] ∧ Whole v (w.heap.size + 1) 27 #[.int .i64 sn, .slice ao_ss ss.length c_ss] ∧ Whole v gN3 29 #[.int .i64 0, .int .u64 (0 : Int), .int .u64 (0 : Int)] ∧ Row v w3.heap.size w4.heap.size aoX_ss (fl .f32 ss) ∧ Whole v w4.heap.size 34 #[.int .i64 sn, .slice aoX_ss ss.length ss.length] ∧ Below w.heap.size w v) → Below v.heap.size v v' → (v'.cell? ⟨w.heap.size, 0, none⟩ = some (.int .i64 k) ∧ v'.cell? ⟨w.heap.size, 1, none⟩ = some (.int .u64 (a : Int)) ∧ v'.cell? ⟨w.heap.size, 2, none⟩ = some (.int .u64 (b : Int)) ∧ v'.cell? ⟨w4.heap.size, 0, none⟩ = some (.int .i64 sn) ∧ v'.cell? ⟨w4.heap.size, 1, none⟩ = some (.slice aoX_ss ss.length ss.length) ∧ w5.heap.size ≤ v'.heap.size ∧ Whole v' w.heap.size 24 #[.int .i64 k, .int .u64 (a : Int), .int .u64 (b : Int)] ∧ Whole v' (w.heap.size + 1) 27 #[.int .i64 sn, .slice ao_ss ss.length c_ss] ∧ Whole v' gN3 29 #[.int .i64 0, .int .u64 (0 : Int), .int .u64 (0 : Int)] ∧ Row v' w3.heap.size w4.heap.size aoX_ss (fl .f32 ss) ∧ Whole v' w4.heap.size 34 #[.int .i64 sn, .slice aoX_ss ss.length ss.length] ∧ Below w.heap.size w v')) := Lib.hid (fun v v' h hb => ⟨(by rw [Below.cell hb (World.block_lt_of_cell? _ _ h.1)]; exact h.1), (by rw [Below.cell hb (World.block_lt_of_cell? _ _ h.2.1)]; exact h.2.1), (by rw [Below.cell hb (World.block_lt_of_cell? _ _ h.2.2.1)]; exact h.2.2.1), (by rw [Below.cell hb (World.block_lt_of_cell? _ _ h.2.2.2.1)]; exact h.2.2.2.1), (by rw [Below.cell hb (World.block_lt_of_cell? _ _ h.2.2.2.2.1)]; exact h.2.2.2.2.1), Nat.le_trans h.2.2.2.2.2.1 hb.size, h.2.2.2.2.2.2.1.below hb, h.2.2.2.2.2.2.2.1.below hb, h.2.2.2.2.2.2.2.2.1.below hb, h.2.2.2.2.2.2.2.2.2.1.below hb, h.2.2.2.2.2.2.2.2.2.2.1.below hb, Bel_next h.2.2.2.2.2.2.2.2.2.2.2 hb⟩)
    have HP : Hid (∀ v : World, (v.cell? ⟨w.heap.size, 0, none⟩ = some (.int .i64 k) ∧ v.cell? ⟨w.heap.size, 1, none⟩ = some (.int .u64 (a : Int)) ∧ v.cell? ⟨w.heap.size, 2, none⟩ = some (.int .u64 (b : Int)) ∧ v.cell? ⟨w4.heap.size, 0, none⟩ = some (.int .i64 sn) ∧ v.cell? ⟨w4.heap.size, 1, none⟩ = some (.slice aoX_ss ss.length ss.length) ∧ w5.heap.size ≤ v.heap.size ∧ Whole v w.heap.size 24 #[.int .i64 k, .int .u64 (a : Int), .int .u64 (b : Int)] ∧ Whole v (w.heap.size + 1) 27 #[.int .i64 sn, .slice ao_ss ss.length c_ss] ∧ Whole v gN3 29 #[.int .i64 0, .int .u64 (0 : Int), .int .u64 (0 : Int)] ∧ Row v w3.heap.size w4.heap.size aoX_ss (fl .f32 ss) ∧ Whole v w4.heap.size 34 #[.int .i64 sn, .slice aoX_ss ss.length ss.length] ∧ Below w.heap.size w v) → (Whole v w.heap.size 24 #[.int .i64 k, .int .u64 (a : Int), .int .u64 (b : Int)] ∧ Whole v (w.heap.size + 1) 27 #[.int .i64 sn, .slice ao_ss ss.length c_ss] ∧ Whole v gN3 29 #[.int .i64 0, .int .u64 (0 : Int), .int .u64 (0 : Int)] ∧ Row v w3.heap.size w4.heap.size aoX_ss (fl .f32 ss) ∧ Whole v w4.heap.size 34 #[.int .i64 sn, .slice aoX_ss ss.length ss.length] ∧ Below w.heap.size w v)) := Lib.hid (fun v h => h.2.2.2.2.2.2)
    have hR : w5.cell? ⟨w.heap.size, 0, none⟩ = some (.int .i64 k) ∧ w5.cell? ⟨w.heap.size, 1, none⟩ = some (.int .u64 (a : Int)) ∧ w5.cell? ⟨w.heap.size, 2, none⟩ = some (.int .u64 (b : Int)) ∧ w5.cell? ⟨w4.heap.size, 0, none⟩ = some (.int .i64 sn) ∧ w5.cell? ⟨w4.heap.size, 1, none⟩ = some (.slice aoX_ss ss.length ss.length) ∧ w5.heap.size ≤ w5.heap.size ∧ Whole w5 w.heap.size 24 #[.int .i64 k, .int .u64 (a : Int), .int .u64 (b : Int)] ∧ Whole w5 (w.heap.size + 1) 27 #[.int .i64 sn, .slice ao_ss ss.length c_ss] ∧ Whole w5 gN3 29 #[.int .i64 0, .int .u64 (0 : Int), .int .u64 (0 : Int)] ∧ Row w5 w3.heap.size w4.heap.size aoX_ss (fl .f32 ss) ∧ Whole w5 w4.heap.size 34 #[.int .i64 sn, .slice aoX_ss ss.length ss.length] ∧ Below w.heap.size w w5 := ⟨(HS5.out.1).cell 0, (HS5.out.1).cell 1, (HS5.out.1).cell 2, (HS5.out.2.2.2.2.1).cell 0, (HS5.out.2.2.2.2.1).cell 1, Nat.le_refl _, HS5.out.1, HS5.out.2.1, HS5.out.2.2.1, HS5.out.2.2.2.1, HS5.out.2.2.2.2.1, HS5.out.2.2.2.2.2⟩
    have HK2 : Hid (∀ (v : World) (q : Addr) (u : Value), (v.cell? ⟨w.heap.size, 0, none⟩ = some (.int .i64 k) ∧ v.cell? ⟨w.heap.size, 1, none⟩ = some (.int .u64 (a : Int)) ∧ v.cell? ⟨w.heap.size, 2, none⟩ = some (.int .u64 (b : Int)) ∧ v.cell? ⟨w4.heap.size, 0, none⟩ = some (.int .i64 sn) ∧ v.cell? ⟨w4.heap.size, 1, none⟩ = some (.slice aoX_ss ss.length ss.length) ∧ w5.heap.size ≤ v.heap.size ∧ Whole v w.heap.size 24 #[.int .i64 k, .int .u64 (a : Int), .int .u64 (b : Int)] ∧ Whole v (w.heap.size + 1) 27 #[.int .i64 sn, .slice ao_ss ss.length c_ss] ∧ Whole v gN3 29 #[.int .i64 0, .int .u64 (0 : Int), .int .u64 (0 : Int)] ∧ Row v w3.heap.size w4.heap.size aoX_ss (fl .f32 ss) ∧ Whole v w4.heap.size 34 #[.int .i64 sn, .slice aoX_ss ss.length ss.length] ∧ Below w.heap.size w v) → w5.heap.size ≤ q.block → ((v.setCell q u).cell? ⟨w.heap.size, 0, none⟩ = some (.int .i64 k) ∧ (v.setCell q u).cell? ⟨w.heap.size, 1, none⟩ = some (.int .u64 (a : Int)) ∧ (v.setCell q u).cell? ⟨w.heap.size, 2, none⟩ = some (.int .u64 (b : Int)) ∧ (v.setCell q u).cell? ⟨w4.heap.size, 0, none⟩ = some (.int .i64 sn) ∧ (v.setCell q u).cell? ⟨w4.heap.size, 1, none⟩ = some (.slice aoX_ss ss.length ss.length) ∧ w5.heap.size ≤ (v.setCell q u).heap.size ∧ Whole (v.setCell q u) w.heap.size 24 #[.int .i64 k, .int .u64 (a : Int), .int .u64 (b : Int)] ∧ Whole (v.setCell q u) (w.heap.size + 1) 27 #[.int .i64 sn, .slice ao_ss ss.length c_ss] ∧ Whole (v.setCell q u) gN3 29 #[.int .i64 0, .int .u64 (0 : Int), .int .u64 (0 : Int)] ∧ Row (v.setCell q u) w3.heap.size w4.heap.size aoX_ss (fl .f32 ss) ∧ Whole (v.setCell q u) w4.heap.size 34 #[.int .i64 sn, .slice aoX_ss ss.length ss.length] ∧ Below w.heap.size w (v.setCell q u))) := Lib.hid (fun v q u h hq => ⟨((World.cell?_of_block (a := ⟨w.heap.size, 0, none⟩) (Below.heap_setCell v q u _ (by show ¬ _ = _; simp only []; omega))).trans h.1), ((World.cell?_of_block (a := ⟨w.heap.size, 1, none⟩) (Below.heap_setCell v q u _ (by show ¬ _ = _; simp only []; omega))).trans h.2.1), ((World.cell?_of_block (a := ⟨w.heap.size, 2, none⟩) (Below.heap_setCell v q u _ (by show ¬ _ = _; simp only []; omega))).trans h.2.2.1), ((World.cell?_of_block (a := ⟨w4.heap.size, 0, none⟩) (Below.heap_setCell v q u _ (by show ¬ _ = _; simp only []; omega))).trans h.2.2.2.1), ((World.cell?_of_block (a := ⟨w4.heap.size, 1, none⟩) (Below.heap_setCell v q u _ (by show ¬ _ = _; simp only []; omega))).trans h.2.2.2.2.1), (by simpa using h.2.2.2.2.2.1), h.2.2.2.2.2.2.1.far (by omega) _, h.2.2.2.2.2.2.2.1.far (by omega) _, h.2.2.2.2.2.2.2.2.1.far (by omega) _, h.2.2.2.2.2.2.2.2.2.1.far (.inr (by omega)) _, h.2.2.2.2.2.2.2.2.2.2.1.far (by omega) _, Below.setCell h.2.2.2.2.2.2.2.2.2.2.2 (by omega) _⟩)
    go_cut [14, 15, 16] from 23 (fun s0 s1 s2 wx => ∃ (gN : Nat), s0 = .pointer (some ⟨gN, 0, none⟩) ∧ s1 = .slice none 0 0 ∧ s2 = .bool false ∧ w5.heap.size ≤ gN ∧ Whole wx gN 29 #[.int .i64 0, .int .u64 (0 : Int), .int .u64 (0 : Int)] ∧ Whole wx w.heap.size 24 #[.int .i64 k, .int .u64 (a : Int), .int .u64 (b : Int)] ∧ Whole wx (w.heap.size + 1) 27 #[.int .i64 sn, .slice ao_ss ss.length c_ss] ∧ Whole wx gN3 29 #[.int .i64 0, .int .u64 (0 : Int), .int .u64 (0 : Int)] ∧ Row wx w3.heap.size w4.heap.size aoX_ss (fl .f32 ss) ∧ Whole wx w4.heap.size 34 #[.int .i64 sn, .slice aoX_ss ss.length ss.length] ∧ Below w.heap.size w wx)
    case first =>
      go_region_held3 (fun v => v.cell? ⟨w.heap.size, 0, none⟩ = some (.int .i64 k) ∧ v.cell? ⟨w.heap.size, 1, none⟩ = some (.int .u64 (a : Int)) ∧ v.cell? ⟨w.heap.size, 2, none⟩ = some (.int .u64 (b : Int)) ∧ v.cell? ⟨w4.heap.size, 0, none⟩ = some (.int .i64 sn) ∧ v.cell? ⟨w4.heap.size, 1, none⟩ = some (.slice aoX_ss ss.length ss.length) ∧ w5.heap.size ≤ v.heap.size ∧ Whole v w.heap.size 24 #[.int .i64 k, .int .u64 (a : Int), .int .u64 (b : Int)] ∧ Whole v (w.heap.size + 1) 27 #[.int .i64 sn, .slice ao_ss ss.length c_ss] ∧ Whole v gN3 29 #[.int .i64 0, .int .u64 (0 : Int), .int .u64 (0 : Int)] ∧ Row v w3.heap.size w4.heap.size aoX_ss (fl .f32 ss) ∧ Whole v w4.heap.size 34 #[.int .i64 sn, .slice aoX_ss ss.length ss.length] ∧ Below w.heap.size w v)
        (first | with_reducible assumption | with_reducible exact HSv1.out | with_reducible exact HSv0.out | ((with_reducible refine HK.out _ _ HSv1.out ?_); (repeat (first | with_reducible exact Below.refl _ _ | with_reducible refine Below.drew ?_ | with_reducible refine Bel_drewN ?_ _ | with_reducible refine Below.alloc ?_ (by first | omega | (simp; done) | (simp; omega)) _ | with_reducible refine Below.setCell ?_ (by first | omega | (simp; done) | (simp; omega)) _)); done) | ((with_reducible refine HK.out _ _ HSv0.out ?_); (repeat (first | with_reducible exact Below.refl _ _ | with_reducible refine Below.drew ?_ | with_reducible refine Bel_drewN ?_ _ | with_reducible refine Below.alloc ?_ (by first | omega | (simp; done) | (simp; omega)) _ | with_reducible refine Below.setCell ?_ (by first | omega | (simp; done) | (simp; omega)) _)); done) | ((with_reducible refine HK.out w5 _ hR ?_); (repeat (first | with_reducible exact Below.refl _ _ | with_reducible refine Below.drew ?_ | with_reducible refine Bel_drewN ?_ _ | with_reducible refine Below.alloc ?_ (by first | omega | (simp; done) | (simp; omega)) _ | with_reducible refine Below.setCell ?_ (by first | omega | (simp; done) | (simp; omega)) _)); done) | ((with_reducible refine HK2.out _ _ _ HSv1.out ?_) <;> (first | omega | (simp; done) | (simp; omega))) | ((with_reducible refine HK2.out _ _ _ (HK2.out _ _ _ HSv1.out ?_) ?_) <;> (first | omega | (simp; done) | (simp; omega))) | ((with_reducible refine HK2.out _ _ _ (HK2.out _ _ _ (HK2.out _ _ _ HSv1.out ?_) ?_) ?_) <;> (first | omega | (simp; done) | (simp; omega))) | exact HK.out _ _ (by with_reducible assumption) (by with_reducible assumption))
        (first | (go_at_call 17; refine (toSeed_ret k a b _).mono ?_; rintro e wt0 ⟨rfl, hbt0⟩; have zz0 := hbt0.size; (try simp at zz0); have HSv0 := Lib.hid (HK.out _ _ (by with_reducible assumption) hbt0); obtain ⟨kc0, kf0⟩ := cells_kept hbt0; (try have zt0_0 : w5.heap.size < wt0.heap.size := by omega)) | (go_at_call 19; refine (implWalk_no k a b sn fr st ss _ _ _ _ rfl (HP.out _ (by assumption)).2.2.2.1.holds hn_ss (Nat.le_refl _) HV.out).mono ?_; rintro e w6 ⟨rfl, hb⟩; have zz1 := hb.size; (try simp at zz1); have HSv1 := Lib.hid (HK.out _ _ (by with_reducible assumption) hb); obtain ⟨kc1, kf1⟩ := cells_kept hb; (try have zt1_0 : w5.heap.size < w6.heap.size := by omega); (try have zt1_1 : wt0.heap.size < w6.heap.size := by omega)))
      all_goals
        go_wp2_with fail
        go_meet
        refine ⟨_, rfl, rfl, rfl, ?_, ?_, ?_⟩
        · first | omega | (simp; done) | (simp; omega)
        · first | exact Whole.made _ _ _ | (have hq := ((Whole.made _ _ _).below hbt0).below hb; exact (((hq).put 0 _).put 1 _).put 2 _) | (have hq := (((Whole.made _ _ _).drew).below hbt0).below hb; exact (((hq).put 0 _).put 1 _).put 2 _) | (have hq := (Whole.made _ _ _).below hb; exact (((hq).put 0 _).put 1 _).put 2 _)
        · first | (refine HP.out _ (HK.out _ _ HSv1.out ?_); (repeat (first | with_reducible exact Below.refl _ _ | with_reducible refine Below.drew ?_ | with_reducible refine Bel_drewN ?_ _ | with_reducible refine Below.alloc ?_ (by first | omega | (simp; done) | (simp; omega)) _ | with_reducible refine Below.setCell ?_ (by first | omega | (simp; done) | (simp; omega)) _)); done) | exact HP.out _ (HK2.out _ _ _ (HK2.out _ _ _ (HK2.out _ _ _ HSv1.out (by first | omega | (simp; done) | (simp; omega))) (by first | omega | (simp; done) | (simp; omega))) (by first | omega | (simp; done) | (simp; omega)))
    case rest =>
      obtain ⟨gN, rfl, rfl, rfl, hle, hW, hS⟩ := hcut
      rename World => w6
      have z6 : w5.heap.size ≤ w6.heap.size := by have := hW.lt; omega
      obtain ⟨gN6, hgN⟩ : ∃ g, g = gN := ⟨_, rfl⟩
      subst hgN
      have ygN6 : gN6 < w6.heap.size := hW.lt
      have xgN6 : w5.heap.size ≤ gN6 := hle
      have HS6 : Hid (Whole w6 w.heap.size 24 #[.int .i64 k, .int .u64 (a : Int), .int .u64 (b : Int)] ∧ Whole w6 (w.heap.size + 1) 27 #[.int .i64 sn, .slice ao_ss ss.length c_ss] ∧ Whole w6 gN3 29 #[.int .i64 0, .int .u64 (0 : Int), .int .u64 (0 : Int)] ∧ Row w6 w3.heap.size w4.heap.size aoX_ss (fl .f32 ss) ∧ Whole w6 w4.heap.size 34 #[.int .i64 sn, .slice aoX_ss ss.length ss.length] ∧ Whole w6 gN6 29 #[.int .i64 0, .int .u64 (0 : Int), .int .u64 (0 : Int)] ∧ Below w.heap.size w w6) := Lib.hid ⟨hS.1, hS.2.1, hS.2.2.1, hS.2.2.2.1, hS.2.2.2.2.1, hW, hS.2.2.2.2.2⟩
      clear HS5 HK HP HK2 hR hle hW hS
      have hc0 := (HS6.out.1).facts.1
      have hf0 := (HS6.out.1).facts.2
      have hz0 := (HS6.out.1).lt
      have hc1 := (HS6.out.2.1).facts.1
      have hf1 := (HS6.out.2.1).facts.2
      have hz1 := (HS6.out.2.1).lt
      have hc2 := (HS6.out.2.2.1).facts.1
      have hf2 := (HS6.out.2.2.1).facts.2
      have hz2 := (HS6.out.2.2.1).lt
      have hc4 := (HS6.out.2.2.2.2.1).facts.1
      have hf4 := (HS6.out.2.2.2.2.1).facts.2
      have hz4 := (HS6.out.2.2.2.2.1).lt
      have hc5 := (HS6.out.2.2.2.2.2.1).facts.1
      have hf5 := (HS6.out.2.2.2.2.2.1).facts.2
      have hz5 := (HS6.out.2.2.2.2.2.1).lt
      go_wp2_with fail
      clear hc0 hf0 hz0
      clear hc1 hf1 hz1
      clear hc2 hf2 hz2
      clear hc4 hf4 hz4
      clear hc5 hf5 hz5
      refine (eqSeed_same _ _ _ _).mono ?_
      rintro e w7 ⟨rfl, hb⟩
      have z7 : w6.heap.size ≤ w7.heap.size := hb.size
      have HS7 : Hid (Whole w7 w.heap.size 24 #[.int .i64 k, .int .u64 (a : Int), .int .u64 (b : Int)] ∧ Whole w7 (w.heap.size + 1) 27 #[.int .i64 sn, .slice ao_ss ss.length c_ss] ∧ Whole w7 gN3 29 #[.int .i64 0, .int .u64 (0 : Int), .int .u64 (0 : Int)] ∧ Row w7 w3.heap.size w4.heap.size aoX_ss (fl .f32 ss) ∧ Whole w7 w4.heap.size 34 #[.int .i64 sn, .slice aoX_ss ss.length ss.length] ∧ Whole w7 gN6 29 #[.int .i64 0, .int .u64 (0 : Int), .int .u64 (0 : Int)] ∧ Below w.heap.size w w7) := Lib.hid ⟨HS6.out.1.below hb, HS6.out.2.1.below hb, HS6.out.2.2.1.below hb, HS6.out.2.2.2.1.below hb, HS6.out.2.2.2.2.1.below hb, HS6.out.2.2.2.2.2.1.below hb, Bel_next HS6.out.2.2.2.2.2.2 hb⟩
      clear HS6 hb
      have hc0 := (HS7.out.1).facts.1
      have hf0 := (HS7.out.1).facts.2
      have hz0 := (HS7.out.1).lt
      have hc1 := (HS7.out.2.1).facts.1
      have hf1 := (HS7.out.2.1).facts.2
      have hz1 := (HS7.out.2.1).lt
      have hc2 := (HS7.out.2.2.1).facts.1
      have hf2 := (HS7.out.2.2.1).facts.2
      have hz2 := (HS7.out.2.2.1).lt
      have hc4 := (HS7.out.2.2.2.2.1).facts.1
      have hf4 := (HS7.out.2.2.2.2.1).facts.2
      have hz4 := (HS7.out.2.2.2.2.1).lt
      have hc5 := (HS7.out.2.2.2.2.2.1).facts.1
      have hf5 := (HS7.out.2.2.2.2.2.1).facts.2
      have hz5 := (HS7.out.2.2.2.2.2.1).lt
      go_wp2_with fail
      clear hc0 hf0 hz0
      clear hc1 hf1 hz1
      clear hc2 hf2 hz2
      clear hc4 hf4 hz4
      clear hc5 hf5 hz5
      refine (eqInt64S_same [] 0 rfl _ _ _ _ _ (Holds.nil _ _) (Holds.nil _ _) (by omega)).mono ?_
      rintro e w8 ⟨rfl, hb⟩
      have z8 : w7.heap.size ≤ w8.heap.size := hb.size
      have HS8 : Hid (Whole w8 w.heap.size 24 #[.int .i64 k, .int .u64 (a : Int), .int .u64 (b : Int)] ∧ Whole w8 (w.heap.size + 1) 27 #[.int .i64 sn, .slice ao_ss ss.length c_ss] ∧ Whole w8 gN3 29 #[.int .i64 0, .int .u64 (0 : Int), .int .u64 (0 : Int)] ∧ Row w8 w3.heap.size w4.heap.size aoX_ss (fl .f32 ss) ∧ Whole w8 w4.heap.size 34 #[.int .i64 sn, .slice aoX_ss ss.length ss.length] ∧ Whole w8 gN6 29 #[.int .i64 0, .int .u64 (0 : Int), .int .u64 (0 : Int)] ∧ Below w.heap.size w w8) := Lib.hid ⟨HS7.out.1.below hb, HS7.out.2.1.below hb, HS7.out.2.2.1.below hb, HS7.out.2.2.2.1.below hb, HS7.out.2.2.2.2.1.below hb, HS7.out.2.2.2.2.2.1.below hb, Bel_next HS7.out.2.2.2.2.2.2 hb⟩
      clear HS7 hb
      have hc0 := (HS8.out.1).facts.1
      have hf0 := (HS8.out.1).facts.2
      have hz0 := (HS8.out.1).lt
      have hc1 := (HS8.out.2.1).facts.1
      have hf1 := (HS8.out.2.1).facts.2
      have hz1 := (HS8.out.2.1).lt
      have hc2 := (HS8.out.2.2.1).facts.1
      have hf2 := (HS8.out.2.2.1).facts.2
      have hz2 := (HS8.out.2.2.1).lt
      have hc4 := (HS8.out.2.2.2.2.1).facts.1
      have hf4 := (HS8.out.2.2.2.2.1).facts.2
      have hz4 := (HS8.out.2.2.2.2.1).lt
      have hc5 := (HS8.out.2.2.2.2.2.1).facts.1
      have hf5 := (HS8.out.2.2.2.2.2.1).facts.2
      have hz5 := (HS8.out.2.2.2.2.2.1).lt
      go_wp2_with fail
      clear hc0 hf0 hz0
      clear hc1 hf1 hz1
      clear hc2 hf2 hz2
      clear hc4 hf4 hz4
      clear hc5 hf5 hz5
      have HK : Hid (∀ v v' : World, (v.cell? ⟨w4.heap.size, 0, none⟩ = some (.int .i64 sn) ∧ v.cell? ⟨w4.heap.size, 1, none⟩ = some (.slice aoX_ss ss.length ss.length) ∧ v.cell? ⟨(w.heap.size + 1), 0, none⟩ = some (.int .i64 sn) ∧ v.cell? ⟨(w.heap.size + 1), 1, none⟩ = some (.slice ao_ss ss.length c_ss) ∧ w8.heap.size ≤ v.heap.size ∧ Whole v w.heap.size 24 #[.int .i64 k, .int .u64 (a : Int), .int .u64 (b : Int)] ∧ Whole v (w.heap.size + 1) 27 #[.int .i64 sn, .slice ao_ss ss.length c_ss] ∧ Whole v gN3 29 #[.int .i64 0, .int .u64 (0 : Int), .int .u64 (0 : Int)] ∧ Row v w3.heap.size w4.heap.size aoX_ss (fl .f32 ss) ∧ Whole v w4.heap.size 34 #[.int .i64 sn, .slice aoX_ss ss.length ss.length] ∧ Whole v gN6 29 #[.int .i64 0, .int .u64 (0 : Int), .int .u64 (0 : Int)] ∧ Below w.heap.size w v) → Below v.heap.size v v' → (v'.cell? ⟨w4.heap.size, 0, none⟩ = some (.int .i64 sn) ∧ v'.cell? ⟨w4.heap.size, 1, none⟩ = some (.slice aoX_ss ss.length ss.length) ∧ v'.cell? ⟨(w.heap.size + 1), 0, none⟩ = some (.int .i64 sn) ∧ v'.cell? ⟨(w.heap.size + 1), 1, none⟩ = some (.slice ao_ss ss.length c_ss) ∧ w8.heap.size ≤ v'.heap.size ∧ Whole v' w.heap.size 24 #[.int .i64 k, .int .u64 (a : Int), .int .u64 (b : Int)] ∧ Whole v' (w.heap.size + 1) 27 #[.int .i64 sn, .slice ao_ss ss.length c_ss] ∧ Whole v' gN3 29 #[.int .i64 0, .int .u64 (0 : Int), .int .u64 (0 : Int)] ∧ Row v' w3.heap.size w4.heap.size aoX_ss (fl .f32 ss) ∧ Whole v' w4.heap.size 34 #[.int .i64 sn, .slice aoX_ss ss.length ss.length] ∧ Whole v' gN6 29 #[.int .i64 0, .int .u64 (0 : Int), .int .u64 (0 : Int)] ∧ Below w.heap.size w v')) := Lib.hid (fun v v' h hb => ⟨(by rw [Below.cell hb (World.block_lt_of_cell? _ _ h.1)]; exact h.1), (by rw [Below.cell hb (World.block_lt_of_cell? _ _ h.2.1)]; exact h.2.1), (by rw [Below.cell hb (World.block_lt_of_cell? _ _ h.2.2.1)]; exact h.2.2.1), (by rw [Below.cell hb (World.block_lt_of_cell? _ _ h.2.2.2.1)]; exact h.2.2.2.1), Nat.le_trans h.2.2.2.2.1 hb.size, h.2.2.2.2.2.1.below hb, h.2.2.2.2.2.2.1.below hb, h.2.2.2.2.2.2.2.1.below hb, h.2.2.2.2.2.2.2.2.1.below hb, h.2.2.2.2.2.2.2.2.2.1.below hb, h.2.2.2.2.2.2.2.2.2.2.1.below hb, Bel_next h.2.2.2.2.2.2.2.2.2.2.2 hb⟩)
      have HP : Hid (∀ v : World, (v.cell? ⟨w4.heap.size, 0, none⟩ = some (.int .i64 sn) ∧ v.cell? ⟨w4.heap.size, 1, none⟩ = some (.slice aoX_ss ss.length ss.length) ∧ v.cell? ⟨(w.heap.size + 1), 0, none⟩ = some (.int .i64 sn) ∧ v.cell? ⟨(w.heap.size + 1), 1, none⟩ = some (.slice ao_ss ss.length c_ss) ∧ w8.heap.size ≤ v.heap.size ∧ Whole v w.heap.size 24 #[.int .i64 k, .int .u64 (a : Int), .int .u64 (b : Int)] ∧ Whole v (w.heap.size + 1) 27 #[.int .i64 sn, .slice ao_ss ss.length c_ss] ∧ Whole v gN3 29 #[.int .i64 0, .int .u64 (0 : Int), .int .u64 (0 : Int)] ∧ Row v w3.heap.size w4.heap.size aoX_ss (fl .f32 ss) ∧ Whole v w4.heap.size 34 #[.int .i64 sn, .slice aoX_ss ss.length ss.length] ∧ Whole v gN6 29 #[.int .i64 0, .int .u64 (0 : Int), .int .u64 (0 : Int)] ∧ Below w.heap.size w v) → (Whole v w.heap.size 24 #[.int .i64 k, .int .u64 (a : Int), .int .u64 (b : Int)] ∧ Whole v (w.heap.size + 1) 27 #[.int .i64 sn, .slice ao_ss ss.length c_ss] ∧ Whole v gN3 29 #[.int .i64 0, .int .u64 (0 : Int), .int .u64 (0 : Int)] ∧ Row v w3.heap.size w4.heap.size aoX_ss (fl .f32 ss) ∧ Whole v w4.heap.size 34 #[.int .i64 sn, .slice aoX_ss ss.length ss.length] ∧ Whole v gN6 29 #[.int .i64 0, .int .u64 (0 : Int), .int .u64 (0 : Int)] ∧ Below w.heap.size w v)) := Lib.hid (fun v h => h.2.2.2.2.2)
      have hR : w8.cell? ⟨w4.heap.size, 0, none⟩ = some (.int .i64 sn) ∧ w8.cell? ⟨w4.heap.size, 1, none⟩ = some (.slice aoX_ss ss.length ss.length) ∧ w8.cell? ⟨(w.heap.size + 1), 0, none⟩ = some (.int .i64 sn) ∧ w8.cell? ⟨(w.heap.size + 1), 1, none⟩ = some (.slice ao_ss ss.length c_ss) ∧ w8.heap.size ≤ w8.heap.size ∧ Whole w8 w.heap.size 24 #[.int .i64 k, .int .u64 (a : Int), .int .u64 (b : Int)] ∧ Whole w8 (w.heap.size + 1) 27 #[.int .i64 sn, .slice ao_ss ss.length c_ss] ∧ Whole w8 gN3 29 #[.int .i64 0, .int .u64 (0 : Int), .int .u64 (0 : Int)] ∧ Row w8 w3.heap.size w4.heap.size aoX_ss (fl .f32 ss) ∧ Whole w8 w4.heap.size 34 #[.int .i64 sn, .slice aoX_ss ss.length ss.length] ∧ Whole w8 gN6 29 #[.int .i64 0, .int .u64 (0 : Int), .int .u64 (0 : Int)] ∧ Below w.heap.size w w8 := ⟨(HS8.out.2.2.2.2.1).cell 0, (HS8.out.2.2.2.2.1).cell 1, (HS8.out.2.1).cell 0, (HS8.out.2.1).cell 1, Nat.le_refl _, HS8.out.1, HS8.out.2.1, HS8.out.2.2.1, HS8.out.2.2.2.1, HS8.out.2.2.2.2.1, HS8.out.2.2.2.2.2.1, HS8.out.2.2.2.2.2.2⟩
      go_region_held3 (fun v => v.cell? ⟨w4.heap.size, 0, none⟩ = some (.int .i64 sn) ∧ v.cell? ⟨w4.heap.size, 1, none⟩ = some (.slice aoX_ss ss.length ss.length) ∧ v.cell? ⟨(w.heap.size + 1), 0, none⟩ = some (.int .i64 sn) ∧ v.cell? ⟨(w.heap.size + 1), 1, none⟩ = some (.slice ao_ss ss.length c_ss) ∧ w8.heap.size ≤ v.heap.size ∧ Whole v w.heap.size 24 #[.int .i64 k, .int .u64 (a : Int), .int .u64 (b : Int)] ∧ Whole v (w.heap.size + 1) 27 #[.int .i64 sn, .slice ao_ss ss.length c_ss] ∧ Whole v gN3 29 #[.int .i64 0, .int .u64 (0 : Int), .int .u64 (0 : Int)] ∧ Row v w3.heap.size w4.heap.size aoX_ss (fl .f32 ss) ∧ Whole v w4.heap.size 34 #[.int .i64 sn, .slice aoX_ss ss.length ss.length] ∧ Whole v gN6 29 #[.int .i64 0, .int .u64 (0 : Int), .int .u64 (0 : Int)] ∧ Below w.heap.size w v)
        (first | assumption | exact HK.out _ _ (by assumption) (by assumption) | exact HK.out _ _ (by assumption) ((Below.refl _ _).drew) | (refine HK.out _ _ (by assumption) ?_; (repeat (first | with_reducible exact Below.refl _ _ | with_reducible refine Below.drew ?_ | with_reducible refine Bel_drewN ?_ _ | with_reducible refine Below.alloc ?_ (by first | omega | (simp; done) | (simp; omega)) _ | with_reducible refine Below.setCell ?_ (by first | omega | (simp; done) | (simp; omega)) _)); done))
        (first | (go_at_call 18; refine (toChain_any sn ss _ _ _ (Holds.below HX_ss.out (HP.out _ (by assumption)).2.2.2.2.2.2) hn_ss).mono ?_; rintro e wt ⟨aoY_ss, rfl, rowY_ss, hbt⟩) | (go_at_call 22; refine (eqChain_same sn ss _ rfl _ _ _ _ _ ((HP.out _ (by assumption)).2.2.2.1.holds) (by exact rowY_ss.holds) hn_ss).mono ?_; rintro e w9 ⟨rfl, hb⟩))
      have hN := (HK.out _ _ (HK.out _ _ hR (by first | exact hbt | exact Bel_next (Below.refl _ _).drew hbt | (refine Bel_next ?_ hbt; (repeat (first | with_reducible exact Below.refl _ _ | with_reducible refine Below.drew ?_ | with_reducible refine Bel_drewN ?_ _ | with_reducible refine Below.alloc ?_ (by first | omega | (simp; done) | (simp; omega)) _ | with_reducible refine Below.setCell ?_ (by first | omega | (simp; done) | (simp; omega)) _)); done))) (by first | exact hb | exact Bel_next (Below.refl _ _).drew hb | (refine Bel_next ?_ hb; (repeat (first | with_reducible exact Below.refl _ _ | with_reducible refine Below.drew ?_ | with_reducible refine Bel_drewN ?_ _ | with_reducible refine Below.alloc ?_ (by first | omega | (simp; done) | (simp; omega)) _ | with_reducible refine Below.setCell ?_ (by first | omega | (simp; done) | (simp; omega)) _)); done)))
      have z9 : w8.heap.size ≤ w9.heap.size := hN.2.2.2.2.1
      have HS9 : Hid (Whole w9 w.heap.size 24 #[.int .i64 k, .int .u64 (a : Int), .int .u64 (b : Int)] ∧ Whole w9 (w.heap.size + 1) 27 #[.int .i64 sn, .slice ao_ss ss.length c_ss] ∧ Whole w9 gN3 29 #[.int .i64 0, .int .u64 (0 : Int), .int .u64 (0 : Int)] ∧ Row w9 w3.heap.size w4.heap.size aoX_ss (fl .f32 ss) ∧ Whole w9 w4.heap.size 34 #[.int .i64 sn, .slice aoX_ss ss.length ss.length] ∧ Whole w9 gN6 29 #[.int .i64 0, .int .u64 (0 : Int), .int .u64 (0 : Int)] ∧ Below w.heap.size w w9) := Lib.hid ⟨hN.2.2.2.2.2.1, hN.2.2.2.2.2.2.1, hN.2.2.2.2.2.2.2.1, hN.2.2.2.2.2.2.2.2.1, hN.2.2.2.2.2.2.2.2.2.1, hN.2.2.2.2.2.2.2.2.2.2.1, hN.2.2.2.2.2.2.2.2.2.2.2⟩
      clear HS8 hN hR HK HP hb hbt
      clear rowY_ss
      have hc0 := (HS9.out.1).facts.1
      have hf0 := (HS9.out.1).facts.2
      have hz0 := (HS9.out.1).lt
      have hc1 := (HS9.out.2.1).facts.1
      have hf1 := (HS9.out.2.1).facts.2
      have hz1 := (HS9.out.2.1).lt
      have hc2 := (HS9.out.2.2.1).facts.1
      have hf2 := (HS9.out.2.2.1).facts.2
      have hz2 := (HS9.out.2.2.1).lt
      have hc4 := (HS9.out.2.2.2.2.1).facts.1
      have hf4 := (HS9.out.2.2.2.2.1).facts.2
      have hz4 := (HS9.out.2.2.2.2.1).lt
      have hc5 := (HS9.out.2.2.2.2.2.1).facts.1
      have hf5 := (HS9.out.2.2.2.2.2.1).facts.2
      have hz5 := (HS9.out.2.2.2.2.2.1).lt
      go_wp2_with fail
      clear hc0 hf0 hz0
      clear hc1 hf1 hz1
      clear hc2 hf2 hz2
      clear hc4 hf4 hz4
      clear hc5 hf5 hz5
      refine (markChain_row sn 1 _ _ _ _ _ _ HS9.out.2.2.2.1 ((fl_len _ _).trans (rfl)) (by omega)).mono ?_
      rintro e w10 ⟨rfl, row, bt⟩
      have z10 : w9.heap.size ≤ w10.heap.size := bt.size
      have HS10 : Hid (Whole w10 w.heap.size 24 #[.int .i64 k, .int .u64 (a : Int), .int .u64 (b : Int)] ∧ Whole w10 (w.heap.size + 1) 27 #[.int .i64 sn, .slice ao_ss ss.length c_ss] ∧ Whole w10 gN3 29 #[.int .i64 0, .int .u64 (0 : Int), .int .u64 (0 : Int)] ∧ Row w10 w3.heap.size w4.heap.size aoX_ss (fl .f32 (fmarks 1 ss.length)) ∧ Whole w10 w4.heap.size 34 #[.int .i64 sn, .slice aoX_ss ss.length ss.length] ∧ Whole w10 gN6 29 #[.int .i64 0, .int .u64 (0 : Int), .int .u64 (0 : Int)] ∧ Below w.heap.size w w10) := Lib.hid ⟨HS9.out.1.buts bt (by omega), HS9.out.2.1.buts bt (by omega), HS9.out.2.2.1.buts bt (by omega), row, HS9.out.2.2.2.2.1.buts bt (by omega), HS9.out.2.2.2.2.2.1.buts bt (by omega), bt.bel HS9.out.2.2.2.2.2.2 (by omega)⟩
      clear HS9 row bt
      have hc0 := (HS10.out.1).facts.1
      have hf0 := (HS10.out.1).facts.2
      have hz0 := (HS10.out.1).lt
      have hc1 := (HS10.out.2.1).facts.1
      have hf1 := (HS10.out.2.1).facts.2
      have hz1 := (HS10.out.2.1).lt
      have hc2 := (HS10.out.2.2.1).facts.1
      have hf2 := (HS10.out.2.2.1).facts.2
      have hz2 := (HS10.out.2.2.1).lt
      have hc4 := (HS10.out.2.2.2.2.1).facts.1
      have hf4 := (HS10.out.2.2.2.2.1).facts.2
      have hz4 := (HS10.out.2.2.2.2.1).lt
      have hc5 := (HS10.out.2.2.2.2.2.1).facts.1
      have hf5 := (HS10.out.2.2.2.2.2.1).facts.2
      have hz5 := (HS10.out.2.2.2.2.2.1).lt
      go_wp2_with fail
      clear hc0 hf0 hz0
      clear hc1 hf1 hz1
      clear hc2 hf2 hz2
      clear hc4 hf4 hz4
      clear hc5 hf5 hz5
      refine (eqSeed_same _ _ _ _).mono ?_
      rintro e w11 ⟨rfl, hb⟩
      have z11 : w10.heap.size ≤ w11.heap.size := hb.size
      have HS11 : Hid (Whole w11 w.heap.size 24 #[.int .i64 k, .int .u64 (a : Int), .int .u64 (b : Int)] ∧ Whole w11 (w.heap.size + 1) 27 #[.int .i64 sn, .slice ao_ss ss.length c_ss] ∧ Whole w11 gN3 29 #[.int .i64 0, .int .u64 (0 : Int), .int .u64 (0 : Int)] ∧ Row w11 w3.heap.size w4.heap.size aoX_ss (fl .f32 (fmarks 1 ss.length)) ∧ Whole w11 w4.heap.size 34 #[.int .i64 sn, .slice aoX_ss ss.length ss.length] ∧ Whole w11 gN6 29 #[.int .i64 0, .int .u64 (0 : Int), .int .u64 (0 : Int)] ∧ Below w.heap.size w w11) := Lib.hid ⟨HS10.out.1.below hb, HS10.out.2.1.below hb, HS10.out.2.2.1.below hb, HS10.out.2.2.2.1.below hb, HS10.out.2.2.2.2.1.below hb, HS10.out.2.2.2.2.2.1.below hb, Bel_next HS10.out.2.2.2.2.2.2 hb⟩
      clear HS10 hb
      have hc0 := (HS11.out.1).facts.1
      have hf0 := (HS11.out.1).facts.2
      have hz0 := (HS11.out.1).lt
      have hc1 := (HS11.out.2.1).facts.1
      have hf1 := (HS11.out.2.1).facts.2
      have hz1 := (HS11.out.2.1).lt
      have hc2 := (HS11.out.2.2.1).facts.1
      have hf2 := (HS11.out.2.2.1).facts.2
      have hz2 := (HS11.out.2.2.1).lt
      have hc4 := (HS11.out.2.2.2.2.1).facts.1
      have hf4 := (HS11.out.2.2.2.2.1).facts.2
      have hz4 := (HS11.out.2.2.2.2.1).lt
      have hc5 := (HS11.out.2.2.2.2.2.1).facts.1
      have hf5 := (HS11.out.2.2.2.2.2.1).facts.2
      have hz5 := (HS11.out.2.2.2.2.2.1).lt
      go_wp2_with fail
      clear hc0 hf0 hz0
      clear hc1 hf1 hz1
      clear hc2 hf2 hz2
      clear hc4 hf4 hz4
      clear hc5 hf5 hz5
      refine (eqInt64S_same [] 0 rfl _ _ _ _ _ (Holds.nil _ _) (Holds.nil _ _) (by omega)).mono ?_
      rintro e w12 ⟨rfl, hb⟩
      have z12 : w11.heap.size ≤ w12.heap.size := hb.size
      have HS12 : Hid (Whole w12 w.heap.size 24 #[.int .i64 k, .int .u64 (a : Int), .int .u64 (b : Int)] ∧ Whole w12 (w.heap.size + 1) 27 #[.int .i64 sn, .slice ao_ss ss.length c_ss] ∧ Whole w12 gN3 29 #[.int .i64 0, .int .u64 (0 : Int), .int .u64 (0 : Int)] ∧ Row w12 w3.heap.size w4.heap.size aoX_ss (fl .f32 (fmarks 1 ss.length)) ∧ Whole w12 w4.heap.size 34 #[.int .i64 sn, .slice aoX_ss ss.length ss.length] ∧ Whole w12 gN6 29 #[.int .i64 0, .int .u64 (0 : Int), .int .u64 (0 : Int)] ∧ Below w.heap.size w w12) := Lib.hid ⟨HS11.out.1.below hb, HS11.out.2.1.below hb, HS11.out.2.2.1.below hb, HS11.out.2.2.2.1.below hb, HS11.out.2.2.2.2.1.below hb, HS11.out.2.2.2.2.2.1.below hb, Bel_next HS11.out.2.2.2.2.2.2 hb⟩
      clear HS11 hb
      have hc0 := (HS12.out.1).facts.1
      have hf0 := (HS12.out.1).facts.2
      have hz0 := (HS12.out.1).lt
      have hc1 := (HS12.out.2.1).facts.1
      have hf1 := (HS12.out.2.1).facts.2
      have hz1 := (HS12.out.2.1).lt
      have hc2 := (HS12.out.2.2.1).facts.1
      have hf2 := (HS12.out.2.2.1).facts.2
      have hz2 := (HS12.out.2.2.1).lt
      have hc4 := (HS12.out.2.2.2.2.1).facts.1
      have hf4 := (HS12.out.2.2.2.2.1).facts.2
      have hz4 := (HS12.out.2.2.2.2.1).lt
      have hc5 := (HS12.out.2.2.2.2.2.1).facts.1
      have hf5 := (HS12.out.2.2.2.2.2.1).facts.2
      have hz5 := (HS12.out.2.2.2.2.2.1).lt
      go_wp2_with fail
      clear hc0 hf0 hz0
      clear hc1 hf1 hz1
      clear hc2 hf2 hz2
      clear hc4 hf4 hz4
      clear hc5 hf5 hz5
      refine (markInt64S_zero 1 _ _ _).mono ?_
      rintro e w13 ⟨rfl, hb⟩
      have z13 : w12.heap.size ≤ w13.heap.size := hb.size
      have HS13 : Hid (Whole w13 w.heap.size 24 #[.int .i64 k, .int .u64 (a : Int), .int .u64 (b : Int)] ∧ Whole w13 (w.heap.size + 1) 27 #[.int .i64 sn, .slice ao_ss ss.length c_ss] ∧ Whole w13 gN3 29 #[.int .i64 0, .int .u64 (0 : Int), .int .u64 (0 : Int)] ∧ Row w13 w3.heap.size w4.heap.size aoX_ss (fl .f32 (fmarks 1 ss.length)) ∧ Whole w13 w4.heap.size 34 #[.int .i64 sn, .slice aoX_ss ss.length ss.length] ∧ Whole w13 gN6 29 #[.int .i64 0, .int .u64 (0 : Int), .int .u64 (0 : Int)] ∧ Below w.heap.size w w13) := Lib.hid ⟨HS12.out.1.below hb, HS12.out.2.1.below hb, HS12.out.2.2.1.below hb, HS12.out.2.2.2.1.below hb, HS12.out.2.2.2.2.1.below hb, HS12.out.2.2.2.2.2.1.below hb, Bel_next HS12.out.2.2.2.2.2.2 hb⟩
      clear HS12 hb
      have hc0 := (HS13.out.1).facts.1
      have hf0 := (HS13.out.1).facts.2
      have hz0 := (HS13.out.1).lt
      have hc1 := (HS13.out.2.1).facts.1
      have hf1 := (HS13.out.2.1).facts.2
      have hz1 := (HS13.out.2.1).lt
      have hc2 := (HS13.out.2.2.1).facts.1
      have hf2 := (HS13.out.2.2.1).facts.2
      have hz2 := (HS13.out.2.2.1).lt
      have hc4 := (HS13.out.2.2.2.2.1).facts.1
      have hf4 := (HS13.out.2.2.2.2.1).facts.2
      have hz4 := (HS13.out.2.2.2.2.1).lt
      have hc5 := (HS13.out.2.2.2.2.2.1).facts.1
      have hf5 := (HS13.out.2.2.2.2.2.1).facts.2
      have hz5 := (HS13.out.2.2.2.2.2.1).lt
      go_wp2_with fail
      clear hc0 hf0 hz0
      clear hc1 hf1 hz1
      clear hc2 hf2 hz2
      clear hc4 hf4 hz4
      clear hc5 hf5 hz5
      refine (heldInt64S_marks 1 0 _ _ _ (Holds.nil _ _) (by omega)).mono ?_
      rintro e w14 ⟨rfl, hb⟩
      have z14 : w13.heap.size ≤ w14.heap.size := hb.size
      have HS14 : Hid (Whole w14 w.heap.size 24 #[.int .i64 k, .int .u64 (a : Int), .int .u64 (b : Int)] ∧ Whole w14 (w.heap.size + 1) 27 #[.int .i64 sn, .slice ao_ss ss.length c_ss] ∧ Whole w14 gN3 29 #[.int .i64 0, .int .u64 (0 : Int), .int .u64 (0 : Int)] ∧ Row w14 w3.heap.size w4.heap.size aoX_ss (fl .f32 (fmarks 1 ss.length)) ∧ Whole w14 w4.heap.size 34 #[.int .i64 sn, .slice aoX_ss ss.length ss.length] ∧ Whole w14 gN6 29 #[.int .i64 0, .int .u64 (0 : Int), .int .u64 (0 : Int)] ∧ Below w.heap.size w w14) := Lib.hid ⟨HS13.out.1.below hb, HS13.out.2.1.below hb, HS13.out.2.2.1.below hb, HS13.out.2.2.2.1.below hb, HS13.out.2.2.2.2.1.below hb, HS13.out.2.2.2.2.2.1.below hb, Bel_next HS13.out.2.2.2.2.2.2 hb⟩
      clear HS13 hb
      have hc0 := (HS14.out.1).facts.1
      have hf0 := (HS14.out.1).facts.2
      have hz0 := (HS14.out.1).lt
      have hc1 := (HS14.out.2.1).facts.1
      have hf1 := (HS14.out.2.1).facts.2
      have hz1 := (HS14.out.2.1).lt
      have hc2 := (HS14.out.2.2.1).facts.1
      have hf2 := (HS14.out.2.2.1).facts.2
      have hz2 := (HS14.out.2.2.1).lt
      have hc4 := (HS14.out.2.2.2.2.1).facts.1
      have hf4 := (HS14.out.2.2.2.2.1).facts.2
      have hz4 := (HS14.out.2.2.2.2.1).lt
      have hc5 := (HS14.out.2.2.2.2.2.1).facts.1
      have hf5 := (HS14.out.2.2.2.2.2.1).facts.2
      have hz5 := (HS14.out.2.2.2.2.2.1).lt
      go_wp2_with fail
      clear hc0 hf0 hz0
      clear hc1 hf1 hz1
      clear hc2 hf2 hz2
      clear hc4 hf4 hz4
      clear hc5 hf5 hz5
      have HK : Hid (∀ v v' : World, (v.cell? ⟨w.heap.size, 0, none⟩ = some (.int .i64 k) ∧ v.cell? ⟨w.heap.size, 1, none⟩ = some (.int .u64 (a : Int)) ∧ v.cell? ⟨w.heap.size, 2, none⟩ = some (.int .u64 (b : Int)) ∧ v.cell? ⟨(w.heap.size + 1), 0, none⟩ = some (.int .i64 sn) ∧ v.cell? ⟨(w.heap.size + 1), 1, none⟩ = some (.slice ao_ss ss.length c_ss) ∧ w14.heap.size ≤ v.heap.size ∧ Whole v w.heap.size 24 #[.int .i64 k, .int .u64 (a : Int), .int .u64 (b : Int)] ∧ Whole v (w.heap.size + 1) 27 #[.int .i64 sn, .slice ao_ss ss.length c_ss] ∧ Whole v gN3 29 #[.int .i64 0, .int .u64 (0 : Int), .int .u64 (0 : Int)] ∧ Row v w3.heap.size w4.heap.size aoX_ss (fl .f32 (fmarks 1 ss.length)) ∧ Whole v w4.heap.size 34 #[.int .i64 sn, .slice aoX_ss ss.length ss.length] ∧ Whole v gN6 29 #[.int .i64 0, .int .u64 (0 : Int), .int .u64 (0 : Int)] ∧ Below w.heap.size w v) → Below v.heap.size v v' → (v'.cell? ⟨w.heap.size, 0, none⟩ = some (.int .i64 k) ∧ v'.cell? ⟨w.heap.size, 1, none⟩ = some (.int .u64 (a : Int)) ∧ v'.cell? ⟨w.heap.size, 2, none⟩ = some (.int .u64 (b : Int)) ∧ v'.cell? ⟨(w.heap.size + 1), 0, none⟩ = some (.int .i64 sn) ∧ v'.cell? ⟨(w.heap.size + 1), 1, none⟩ = some (.slice ao_ss ss.length c_ss) ∧ w14.heap.size ≤ v'.heap.size ∧ Whole v' w.heap.size 24 #[.int .i64 k, .int .u64 (a : Int), .int .u64 (b : Int)] ∧ Whole v' (w.heap.size + 1) 27 #[.int .i64 sn, .slice ao_ss ss.length c_ss] ∧ Whole v' gN3 29 #[.int .i64 0, .int .u64 (0 : Int), .int .u64 (0 : Int)] ∧ Row v' w3.heap.size w4.heap.size aoX_ss (fl .f32 (fmarks 1 ss.length)) ∧ Whole v' w4.heap.size 34 #[.int .i64 sn, .slice aoX_ss ss.length ss.length] ∧ Whole v' gN6 29 #[.int .i64 0, .int .u64 (0 : Int), .int .u64 (0 : Int)] ∧ Below w.heap.size w v')) := Lib.hid (fun v v' h hb => ⟨(by rw [Below.cell hb (World.block_lt_of_cell? _ _ h.1)]; exact h.1), (by rw [Below.cell hb (World.block_lt_of_cell? _ _ h.2.1)]; exact h.2.1), (by rw [Below.cell hb (World.block_lt_of_cell? _ _ h.2.2.1)]; exact h.2.2.1), (by rw [Below.cell hb (World.block_lt_of_cell? _ _ h.2.2.2.1)]; exact h.2.2.2.1), (by rw [Below.cell hb (World.block_lt_of_cell? _ _ h.2.2.2.2.1)]; exact h.2.2.2.2.1), Nat.le_trans h.2.2.2.2.2.1 hb.size, h.2.2.2.2.2.2.1.below hb, h.2.2.2.2.2.2.2.1.below hb, h.2.2.2.2.2.2.2.2.1.below hb, h.2.2.2.2.2.2.2.2.2.1.below hb, h.2.2.2.2.2.2.2.2.2.2.1.below hb, h.2.2.2.2.2.2.2.2.2.2.2.1.below hb, Bel_next h.2.2.2.2.2.2.2.2.2.2.2.2 hb⟩)
      have HP : Hid (∀ v : World, (v.cell? ⟨w.heap.size, 0, none⟩ = some (.int .i64 k) ∧ v.cell? ⟨w.heap.size, 1, none⟩ = some (.int .u64 (a : Int)) ∧ v.cell? ⟨w.heap.size, 2, none⟩ = some (.int .u64 (b : Int)) ∧ v.cell? ⟨(w.heap.size + 1), 0, none⟩ = some (.int .i64 sn) ∧ v.cell? ⟨(w.heap.size + 1), 1, none⟩ = some (.slice ao_ss ss.length c_ss) ∧ w14.heap.size ≤ v.heap.size ∧ Whole v w.heap.size 24 #[.int .i64 k, .int .u64 (a : Int), .int .u64 (b : Int)] ∧ Whole v (w.heap.size + 1) 27 #[.int .i64 sn, .slice ao_ss ss.length c_ss] ∧ Whole v gN3 29 #[.int .i64 0, .int .u64 (0 : Int), .int .u64 (0 : Int)] ∧ Row v w3.heap.size w4.heap.size aoX_ss (fl .f32 (fmarks 1 ss.length)) ∧ Whole v w4.heap.size 34 #[.int .i64 sn, .slice aoX_ss ss.length ss.length] ∧ Whole v gN6 29 #[.int .i64 0, .int .u64 (0 : Int), .int .u64 (0 : Int)] ∧ Below w.heap.size w v) → (Whole v w.heap.size 24 #[.int .i64 k, .int .u64 (a : Int), .int .u64 (b : Int)] ∧ Whole v (w.heap.size + 1) 27 #[.int .i64 sn, .slice ao_ss ss.length c_ss] ∧ Whole v gN3 29 #[.int .i64 0, .int .u64 (0 : Int), .int .u64 (0 : Int)] ∧ Row v w3.heap.size w4.heap.size aoX_ss (fl .f32 (fmarks 1 ss.length)) ∧ Whole v w4.heap.size 34 #[.int .i64 sn, .slice aoX_ss ss.length ss.length] ∧ Whole v gN6 29 #[.int .i64 0, .int .u64 (0 : Int), .int .u64 (0 : Int)] ∧ Below w.heap.size w v)) := Lib.hid (fun v h => h.2.2.2.2.2.2)
      have hR : w14.cell? ⟨w.heap.size, 0, none⟩ = some (.int .i64 k) ∧ w14.cell? ⟨w.heap.size, 1, none⟩ = some (.int .u64 (a : Int)) ∧ w14.cell? ⟨w.heap.size, 2, none⟩ = some (.int .u64 (b : Int)) ∧ w14.cell? ⟨(w.heap.size + 1), 0, none⟩ = some (.int .i64 sn) ∧ w14.cell? ⟨(w.heap.size + 1), 1, none⟩ = some (.slice ao_ss ss.length c_ss) ∧ w14.heap.size ≤ w14.heap.size ∧ Whole w14 w.heap.size 24 #[.int .i64 k, .int .u64 (a : Int), .int .u64 (b : Int)] ∧ Whole w14 (w.heap.size + 1) 27 #[.int .i64 sn, .slice ao_ss ss.length c_ss] ∧ Whole w14 gN3 29 #[.int .i64 0, .int .u64 (0 : Int), .int .u64 (0 : Int)] ∧ Row w14 w3.heap.size w4.heap.size aoX_ss (fl .f32 (fmarks 1 ss.length)) ∧ Whole w14 w4.heap.size 34 #[.int .i64 sn, .slice aoX_ss ss.length ss.length] ∧ Whole w14 gN6 29 #[.int .i64 0, .int .u64 (0 : Int), .int .u64 (0 : Int)] ∧ Below w.heap.size w w14 := ⟨(HS14.out.1).cell 0, (HS14.out.1).cell 1, (HS14.out.1).cell 2, (HS14.out.2.1).cell 0, (HS14.out.2.1).cell 1, Nat.le_refl _, HS14.out.1, HS14.out.2.1, HS14.out.2.2.1, HS14.out.2.2.2.1, HS14.out.2.2.2.2.1, HS14.out.2.2.2.2.2.1, HS14.out.2.2.2.2.2.2⟩
      have HK2 : Hid (∀ (v : World) (q : Addr) (u : Value), (v.cell? ⟨w.heap.size, 0, none⟩ = some (.int .i64 k) ∧ v.cell? ⟨w.heap.size, 1, none⟩ = some (.int .u64 (a : Int)) ∧ v.cell? ⟨w.heap.size, 2, none⟩ = some (.int .u64 (b : Int)) ∧ v.cell? ⟨(w.heap.size + 1), 0, none⟩ = some (.int .i64 sn) ∧ v.cell? ⟨(w.heap.size + 1), 1, none⟩ = some (.slice ao_ss ss.length c_ss) ∧ w14.heap.size ≤ v.heap.size ∧ Whole v w.heap.size 24 #[.int .i64 k, .int .u64 (a : Int), .int .u64 (b : Int)] ∧ Whole v (w.heap.size + 1) 27 #[.int .i64 sn, .slice ao_ss ss.length c_ss] ∧ Whole v gN3 29 #[.int .i64 0, .int .u64 (0 : Int), .int .u64 (0 : Int)] ∧ Row v w3.heap.size w4.heap.size aoX_ss (fl .f32 (fmarks 1 ss.length)) ∧ Whole v w4.heap.size 34 #[.int .i64 sn, .slice aoX_ss ss.length ss.length] ∧ Whole v gN6 29 #[.int .i64 0, .int .u64 (0 : Int), .int .u64 (0 : Int)] ∧ Below w.heap.size w v) → w14.heap.size ≤ q.block → ((v.setCell q u).cell? ⟨w.heap.size, 0, none⟩ = some (.int .i64 k) ∧ (v.setCell q u).cell? ⟨w.heap.size, 1, none⟩ = some (.int .u64 (a : Int)) ∧ (v.setCell q u).cell? ⟨w.heap.size, 2, none⟩ = some (.int .u64 (b : Int)) ∧ (v.setCell q u).cell? ⟨(w.heap.size + 1), 0, none⟩ = some (.int .i64 sn) ∧ (v.setCell q u).cell? ⟨(w.heap.size + 1), 1, none⟩ = some (.slice ao_ss ss.length c_ss) ∧ w14.heap.size ≤ (v.setCell q u).heap.size ∧ Whole (v.setCell q u) w.heap.size 24 #[.int .i64 k, .int .u64 (a : Int), .int .u64 (b : Int)] ∧ Whole (v.setCell q u) (w.heap.size + 1) 27 #[.int .i64 sn, .slice ao_ss ss.length c_ss] ∧ Whole (v.setCell q u) gN3 29 #[.int .i64 0, .int .u64 (0 : Int), .int .u64 (0 : Int)] ∧ Row (v.setCell q u) w3.heap.size w4.heap.size aoX_ss (fl .f32 (fmarks 1 ss.length)) ∧ Whole (v.setCell q u) w4.heap.size 34 #[.int .i64 sn, .slice aoX_ss ss.length ss.length] ∧ Whole (v.setCell q u) gN6 29 #[.int .i64 0, .int .u64 (0 : Int), .int .u64 (0 : Int)] ∧ Below w.heap.size w (v.setCell q u))) := Lib.hid (fun v q u h hq => ⟨((World.cell?_of_block (a := ⟨w.heap.size, 0, none⟩) (Below.heap_setCell v q u _ (by show ¬ _ = _; simp only []; omega))).trans h.1), ((World.cell?_of_block (a := ⟨w.heap.size, 1, none⟩) (Below.heap_setCell v q u _ (by show ¬ _ = _; simp only []; omega))).trans h.2.1), ((World.cell?_of_block (a := ⟨w.heap.size, 2, none⟩) (Below.heap_setCell v q u _ (by show ¬ _ = _; simp only []; omega))).trans h.2.2.1), ((World.cell?_of_block (a := ⟨(w.heap.size + 1), 0, none⟩) (Below.heap_setCell v q u _ (by show ¬ _ = _; simp only []; omega))).trans h.2.2.2.1), ((World.cell?_of_block (a := ⟨(w.heap.size + 1), 1, none⟩) (Below.heap_setCell v q u _ (by show ¬ _ = _; simp only []; omega))).trans h.2.2.2.2.1), (by simpa using h.2.2.2.2.2.1), h.2.2.2.2.2.2.1.far (by omega) _, h.2.2.2.2.2.2.2.1.far (by omega) _, h.2.2.2.2.2.2.2.2.1.far (by omega) _, h.2.2.2.2.2.2.2.2.2.1.far (.inr (by omega)) _, h.2.2.2.2.2.2.2.2.2.2.1.far (by omega) _, h.2.2.2.2.2.2.2.2.2.2.2.1.far (by omega) _, Below.setCell h.2.2.2.2.2.2.2.2.2.2.2.2 (by omega) _⟩)
      go_cut [20, 21, 22] from 23 (fun s0 s1 s2 wx => ∃ (gN : Nat), s0 = .pointer (some ⟨gN, 0, none⟩) ∧ s1 = .slice none 0 0 ∧ s2 = .bool false ∧ w14.heap.size ≤ gN ∧ Whole wx gN 29 #[.int .i64 0, .int .u64 (0 : Int), .int .u64 (0 : Int)] ∧ Whole wx w.heap.size 24 #[.int .i64 k, .int .u64 (a : Int), .int .u64 (b : Int)] ∧ Whole wx (w.heap.size + 1) 27 #[.int .i64 sn, .slice ao_ss ss.length c_ss] ∧ Whole wx gN3 29 #[.int .i64 0, .int .u64 (0 : Int), .int .u64 (0 : Int)] ∧ Row wx w3.heap.size w4.heap.size aoX_ss (fl .f32 (fmarks 1 ss.length)) ∧ Whole wx w4.heap.size 34 #[.int .i64 sn, .slice aoX_ss ss.length ss.length] ∧ Whole wx gN6 29 #[.int .i64 0, .int .u64 (0 : Int), .int .u64 (0 : Int)] ∧ Below w.heap.size w wx)
      case first =>
        go_region_held3 (fun v => v.cell? ⟨w.heap.size, 0, none⟩ = some (.int .i64 k) ∧ v.cell? ⟨w.heap.size, 1, none⟩ = some (.int .u64 (a : Int)) ∧ v.cell? ⟨w.heap.size, 2, none⟩ = some (.int .u64 (b : Int)) ∧ v.cell? ⟨(w.heap.size + 1), 0, none⟩ = some (.int .i64 sn) ∧ v.cell? ⟨(w.heap.size + 1), 1, none⟩ = some (.slice ao_ss ss.length c_ss) ∧ w14.heap.size ≤ v.heap.size ∧ Whole v w.heap.size 24 #[.int .i64 k, .int .u64 (a : Int), .int .u64 (b : Int)] ∧ Whole v (w.heap.size + 1) 27 #[.int .i64 sn, .slice ao_ss ss.length c_ss] ∧ Whole v gN3 29 #[.int .i64 0, .int .u64 (0 : Int), .int .u64 (0 : Int)] ∧ Row v w3.heap.size w4.heap.size aoX_ss (fl .f32 (fmarks 1 ss.length)) ∧ Whole v w4.heap.size 34 #[.int .i64 sn, .slice aoX_ss ss.length ss.length] ∧ Whole v gN6 29 #[.int .i64 0, .int .u64 (0 : Int), .int .u64 (0 : Int)] ∧ Below w.heap.size w v)
          (first | with_reducible assumption | with_reducible exact HSv2.out | with_reducible exact HSv1.out | with_reducible exact HSv0.out | ((with_reducible refine HK.out _ _ HSv2.out ?_); (repeat (first | with_reducible exact Below.refl _ _ | with_reducible refine Below.drew ?_ | with_reducible refine Bel_drewN ?_ _ | with_reducible refine Below.alloc ?_ (by first | omega | (simp; done) | (simp; omega)) _ | with_reducible refine Below.setCell ?_ (by first | omega | (simp; done) | (simp; omega)) _)); done) | ((with_reducible refine HK.out _ _ HSv1.out ?_); (repeat (first | with_reducible exact Below.refl _ _ | with_reducible refine Below.drew ?_ | with_reducible refine Bel_drewN ?_ _ | with_reducible refine Below.alloc ?_ (by first | omega | (simp; done) | (simp; omega)) _ | with_reducible refine Below.setCell ?_ (by first | omega | (simp; done) | (simp; omega)) _)); done) | ((with_reducible refine HK.out _ _ HSv0.out ?_); (repeat (first | with_reducible exact Below.refl _ _ | with_reducible refine Below.drew ?_ | with_reducible refine Bel_drewN ?_ _ | with_reducible refine Below.alloc ?_ (by first | omega | (simp; done) | (simp; omega)) _ | with_reducible refine Below.setCell ?_ (by first | omega | (simp; done) | (simp; omega)) _)); done) | ((with_reducible refine HK.out w14 _ hR ?_); (repeat (first | with_reducible exact Below.refl _ _ | with_reducible refine Below.drew ?_ | with_reducible refine Bel_drewN ?_ _ | with_reducible refine Below.alloc ?_ (by first | omega | (simp; done) | (simp; omega)) _ | with_reducible refine Below.setCell ?_ (by first | omega | (simp; done) | (simp; omega)) _)); done) | ((with_reducible refine HK2.out _ _ _ HSv2.out ?_) <;> (first | omega | (simp; done) | (simp; omega))) | ((with_reducible refine HK2.out _ _ _ (HK2.out _ _ _ HSv2.out ?_) ?_) <;> (first | omega | (simp; done) | (simp; omega))) | ((with_reducible refine HK2.out _ _ _ (HK2.out _ _ _ (HK2.out _ _ _ HSv2.out ?_) ?_) ?_) <;> (first | omega | (simp; done) | (simp; omega))) | exact HK.out _ _ (by with_reducible assumption) (by with_reducible assumption))
          (first | (go_at_call 17; refine (toSeed_ret k a b _).mono ?_; rintro e wt0 ⟨rfl, hbt0⟩; have zz0 := hbt0.size; (try simp at zz0); have HSv0 := Lib.hid (HK.out _ _ (by with_reducible assumption) hbt0); obtain ⟨kc0, kf0⟩ := cells_kept hbt0; (try have zt0_0 : w14.heap.size < wt0.heap.size := by omega)) | (go_at_call 18; refine (toChain_any sn ss _ _ _ (Holds.below HX_ss.out (HP.out _ (by assumption)).2.2.2.2.2.2) hn_ss).mono ?_; rintro e wt1 ⟨aohd_ss, rfl, rowhd_ss, hbt1⟩; have zz1 := hbt1.size; (try simp at zz1); have HSv1 := Lib.hid (HK.out _ _ (by with_reducible assumption) hbt1); obtain ⟨kc1, kf1⟩ := cells_kept hbt1; (try have zt1_0 : w14.heap.size < wt1.heap.size := by omega); (try have zt1_1 : wt0.heap.size < wt1.heap.size := by omega)) | (go_at_call 19; refine (implWalk_no k a b sn fr st ss _ _ _ _ rfl (by first | exact (rowhd_ss).holds | (refine (Row.below rowhd_ss ?_).holds; (repeat (first | with_reducible exact Below.refl _ _ | with_reducible refine Below.drew ?_ | with_reducible refine Bel_drewN ?_ _ | with_reducible refine Below.alloc ?_ (by first | omega | (simp; done) | (simp; omega)) _ | with_reducible refine Below.setCell ?_ (by first | omega | (simp; done) | (simp; omega)) _)); done)) hn_ss (Nat.le_refl _) HV.out).mono ?_; rintro e w15 ⟨rfl, hb⟩; have zz2 := hb.size; (try simp at zz2); have HSv2 := Lib.hid (HK.out _ _ (by with_reducible assumption) hb); obtain ⟨kc2, kf2⟩ := cells_kept hb; (try have zt2_0 : w14.heap.size < w15.heap.size := by omega); (try have zt2_1 : wt0.heap.size < w15.heap.size := by omega); (try have zt2_2 : wt1.heap.size < w15.heap.size := by omega)))
        all_goals
          go_wp2_with fail
          go_meet
          refine ⟨_, rfl, rfl, rfl, ?_, ?_, ?_⟩
          · first | omega | (simp; done) | (simp; omega)
          · first | exact Whole.made _ _ _ | (have hq := (((Whole.made _ _ _).below hbt0).below hbt1).below hb; exact (((hq).put 0 _).put 1 _).put 2 _) | (have hq := ((((Whole.made _ _ _).drew).below hbt0).below hbt1).below hb; exact (((hq).put 0 _).put 1 _).put 2 _) | (have hq := ((Whole.made _ _ _).below hbt1).below hb; exact (((hq).put 0 _).put 1 _).put 2 _) | (have hq := (Whole.made _ _ _).below hb; exact (((hq).put 0 _).put 1 _).put 2 _)
          · first | (refine HP.out _ (HK.out _ _ HSv2.out ?_); (repeat (first | with_reducible exact Below.refl _ _ | with_reducible refine Below.drew ?_ | with_reducible refine Bel_drewN ?_ _ | with_reducible refine Below.alloc ?_ (by first | omega | (simp; done) | (simp; omega)) _ | with_reducible refine Below.setCell ?_ (by first | omega | (simp; done) | (simp; omega)) _)); done) | exact HP.out _ (HK2.out _ _ _ (HK2.out _ _ _ (HK2.out _ _ _ HSv2.out (by first | omega | (simp; done) | (simp; omega))) (by first | omega | (simp; done) | (simp; omega))) (by first | omega | (simp; done) | (simp; omega)))
      case rest =>
        obtain ⟨gN, rfl, rfl, rfl, hle, hW, hS⟩ := hcut
        rename World => w15
        have z15 : w14.heap.size ≤ w15.heap.size := by have := hW.lt; omega
        obtain ⟨gN15, hgN⟩ : ∃ g, g = gN := ⟨_, rfl⟩
        subst hgN
        have ygN15 : gN15 < w15.heap.size := hW.lt
        have xgN15 : w14.heap.size ≤ gN15 := hle
        have HS15 : Hid (Whole w15 w.heap.size 24 #[.int .i64 k, .int .u64 (a : Int), .int .u64 (b : Int)] ∧ Whole w15 (w.heap.size + 1) 27 #[.int .i64 sn, .slice ao_ss ss.length c_ss] ∧ Whole w15 gN3 29 #[.int .i64 0, .int .u64 (0 : Int), .int .u64 (0 : Int)] ∧ Row w15 w3.heap.size w4.heap.size aoX_ss (fl .f32 (fmarks 1 ss.length)) ∧ Whole w15 w4.heap.size 34 #[.int .i64 sn, .slice aoX_ss ss.length ss.length] ∧ Whole w15 gN6 29 #[.int .i64 0, .int .u64 (0 : Int), .int .u64 (0 : Int)] ∧ Whole w15 gN15 29 #[.int .i64 0, .int .u64 (0 : Int), .int .u64 (0 : Int)] ∧ Below w.heap.size w w15) := Lib.hid ⟨hS.1, hS.2.1, hS.2.2.1, hS.2.2.2.1, hS.2.2.2.2.1, hS.2.2.2.2.2.1, hW, hS.2.2.2.2.2.2⟩
        clear HS14 HK HP HK2 hR hle hW hS
        have hc0 := (HS15.out.1).facts.1
        have hf0 := (HS15.out.1).facts.2
        have hz0 := (HS15.out.1).lt
        have hc1 := (HS15.out.2.1).facts.1
        have hf1 := (HS15.out.2.1).facts.2
        have hz1 := (HS15.out.2.1).lt
        have hc2 := (HS15.out.2.2.1).facts.1
        have hf2 := (HS15.out.2.2.1).facts.2
        have hz2 := (HS15.out.2.2.1).lt
        have hc4 := (HS15.out.2.2.2.2.1).facts.1
        have hf4 := (HS15.out.2.2.2.2.1).facts.2
        have hz4 := (HS15.out.2.2.2.2.1).lt
        have hc5 := (HS15.out.2.2.2.2.2.1).facts.1
        have hf5 := (HS15.out.2.2.2.2.2.1).facts.2
        have hz5 := (HS15.out.2.2.2.2.2.1).lt
        have hc6 := (HS15.out.2.2.2.2.2.2.1).facts.1
        have hf6 := (HS15.out.2.2.2.2.2.2.1).facts.2
        have hz6 := (HS15.out.2.2.2.2.2.2.1).lt
        go_wp2_with fail
        clear hc0 hf0 hz0
        clear hc1 hf1 hz1
        clear hc2 hf2 hz2
        clear hc4 hf4 hz4
        clear hc5 hf5 hz5
        clear hc6 hf6 hz6
        refine (eqSeed_same _ _ _ _).mono ?_
        rintro e w16 ⟨rfl, hb⟩
        have z16 : w15.heap.size ≤ w16.heap.size := hb.size
        have HS16 : Hid (Whole w16 w.heap.size 24 #[.int .i64 k, .int .u64 (a : Int), .int .u64 (b : Int)] ∧ Whole w16 (w.heap.size + 1) 27 #[.int .i64 sn, .slice ao_ss ss.length c_ss] ∧ Whole w16 gN3 29 #[.int .i64 0, .int .u64 (0 : Int), .int .u64 (0 : Int)] ∧ Row w16 w3.heap.size w4.heap.size aoX_ss (fl .f32 (fmarks 1 ss.length)) ∧ Whole w16 w4.heap.size 34 #[.int .i64 sn, .slice aoX_ss ss.length ss.length] ∧ Whole w16 gN6 29 #[.int .i64 0, .int .u64 (0 : Int), .int .u64 (0 : Int)] ∧ Whole w16 gN15 29 #[.int .i64 0, .int .u64 (0 : Int), .int .u64 (0 : Int)] ∧ Below w.heap.size w w16) := Lib.hid ⟨HS15.out.1.below hb, HS15.out.2.1.below hb, HS15.out.2.2.1.below hb, HS15.out.2.2.2.1.below hb, HS15.out.2.2.2.2.1.below hb, HS15.out.2.2.2.2.2.1.below hb, HS15.out.2.2.2.2.2.2.1.below hb, Bel_next HS15.out.2.2.2.2.2.2.2 hb⟩
        clear HS15 hb
        have hc0 := (HS16.out.1).facts.1
        have hf0 := (HS16.out.1).facts.2
        have hz0 := (HS16.out.1).lt
        have hc1 := (HS16.out.2.1).facts.1
        have hf1 := (HS16.out.2.1).facts.2
        have hz1 := (HS16.out.2.1).lt
        have hc2 := (HS16.out.2.2.1).facts.1
        have hf2 := (HS16.out.2.2.1).facts.2
        have hz2 := (HS16.out.2.2.1).lt
        have hc4 := (HS16.out.2.2.2.2.1).facts.1
        have hf4 := (HS16.out.2.2.2.2.1).facts.2
        have hz4 := (HS16.out.2.2.2.2.1).lt
        have hc5 := (HS16.out.2.2.2.2.2.1).facts.1
        have hf5 := (HS16.out.2.2.2.2.2.1).facts.2
        have hz5 := (HS16.out.2.2.2.2.2.1).lt
        have hc6 := (HS16.out.2.2.2.2.2.2.1).facts.1
        have hf6 := (HS16.out.2.2.2.2.2.2.1).facts.2
        have hz6 := (HS16.out.2.2.2.2.2.2.1).lt
        go_wp2_with fail
        clear hc0 hf0 hz0
        clear hc1 hf1 hz1
        clear hc2 hf2 hz2
        clear hc4 hf4 hz4
        clear hc5 hf5 hz5
        clear hc6 hf6 hz6
        refine (eqInt64S_same [] 0 rfl _ _ _ _ _ (Holds.nil _ _) (Holds.nil _ _) (by omega)).mono ?_
        rintro e w17 ⟨rfl, hb⟩
        have z17 : w16.heap.size ≤ w17.heap.size := hb.size
        have HS17 : Hid (Whole w17 w.heap.size 24 #[.int .i64 k, .int .u64 (a : Int), .int .u64 (b : Int)] ∧ Whole w17 (w.heap.size + 1) 27 #[.int .i64 sn, .slice ao_ss ss.length c_ss] ∧ Whole w17 gN3 29 #[.int .i64 0, .int .u64 (0 : Int), .int .u64 (0 : Int)] ∧ Row w17 w3.heap.size w4.heap.size aoX_ss (fl .f32 (fmarks 1 ss.length)) ∧ Whole w17 w4.heap.size 34 #[.int .i64 sn, .slice aoX_ss ss.length ss.length] ∧ Whole w17 gN6 29 #[.int .i64 0, .int .u64 (0 : Int), .int .u64 (0 : Int)] ∧ Whole w17 gN15 29 #[.int .i64 0, .int .u64 (0 : Int), .int .u64 (0 : Int)] ∧ Below w.heap.size w w17) := Lib.hid ⟨HS16.out.1.below hb, HS16.out.2.1.below hb, HS16.out.2.2.1.below hb, HS16.out.2.2.2.1.below hb, HS16.out.2.2.2.2.1.below hb, HS16.out.2.2.2.2.2.1.below hb, HS16.out.2.2.2.2.2.2.1.below hb, Bel_next HS16.out.2.2.2.2.2.2.2 hb⟩
        clear HS16 hb
        have hc0 := (HS17.out.1).facts.1
        have hf0 := (HS17.out.1).facts.2
        have hz0 := (HS17.out.1).lt
        have hc1 := (HS17.out.2.1).facts.1
        have hf1 := (HS17.out.2.1).facts.2
        have hz1 := (HS17.out.2.1).lt
        have hc2 := (HS17.out.2.2.1).facts.1
        have hf2 := (HS17.out.2.2.1).facts.2
        have hz2 := (HS17.out.2.2.1).lt
        have hc4 := (HS17.out.2.2.2.2.1).facts.1
        have hf4 := (HS17.out.2.2.2.2.1).facts.2
        have hz4 := (HS17.out.2.2.2.2.1).lt
        have hc5 := (HS17.out.2.2.2.2.2.1).facts.1
        have hf5 := (HS17.out.2.2.2.2.2.1).facts.2
        have hz5 := (HS17.out.2.2.2.2.2.1).lt
        have hc6 := (HS17.out.2.2.2.2.2.2.1).facts.1
        have hf6 := (HS17.out.2.2.2.2.2.2.1).facts.2
        have hz6 := (HS17.out.2.2.2.2.2.2.1).lt
        go_wp2_with fail
        clear hc0 hf0 hz0
        clear hc1 hf1 hz1
        clear hc2 hf2 hz2
        clear hc4 hf4 hz4
        clear hc5 hf5 hz5
        clear hc6 hf6 hz6
        refine (heldInt64S_marks 1 0 _ _ _ (Holds.nil _ _) (by omega)).mono ?_
        rintro e w18 ⟨rfl, hb⟩
        have z18 : w17.heap.size ≤ w18.heap.size := hb.size
        have HS18 : Hid (Whole w18 w.heap.size 24 #[.int .i64 k, .int .u64 (a : Int), .int .u64 (b : Int)] ∧ Whole w18 (w.heap.size + 1) 27 #[.int .i64 sn, .slice ao_ss ss.length c_ss] ∧ Whole w18 gN3 29 #[.int .i64 0, .int .u64 (0 : Int), .int .u64 (0 : Int)] ∧ Row w18 w3.heap.size w4.heap.size aoX_ss (fl .f32 (fmarks 1 ss.length)) ∧ Whole w18 w4.heap.size 34 #[.int .i64 sn, .slice aoX_ss ss.length ss.length] ∧ Whole w18 gN6 29 #[.int .i64 0, .int .u64 (0 : Int), .int .u64 (0 : Int)] ∧ Whole w18 gN15 29 #[.int .i64 0, .int .u64 (0 : Int), .int .u64 (0 : Int)] ∧ Below w.heap.size w w18) := Lib.hid ⟨HS17.out.1.below hb, HS17.out.2.1.below hb, HS17.out.2.2.1.below hb, HS17.out.2.2.2.1.below hb, HS17.out.2.2.2.2.1.below hb, HS17.out.2.2.2.2.2.1.below hb, HS17.out.2.2.2.2.2.2.1.below hb, Bel_next HS17.out.2.2.2.2.2.2.2 hb⟩
        clear HS17 hb
        have hc0 := (HS18.out.1).facts.1
        have hf0 := (HS18.out.1).facts.2
        have hz0 := (HS18.out.1).lt
        have hc1 := (HS18.out.2.1).facts.1
        have hf1 := (HS18.out.2.1).facts.2
        have hz1 := (HS18.out.2.1).lt
        have hc2 := (HS18.out.2.2.1).facts.1
        have hf2 := (HS18.out.2.2.1).facts.2
        have hz2 := (HS18.out.2.2.1).lt
        have hc4 := (HS18.out.2.2.2.2.1).facts.1
        have hf4 := (HS18.out.2.2.2.2.1).facts.2
        have hz4 := (HS18.out.2.2.2.2.1).lt
        have hc5 := (HS18.out.2.2.2.2.2.1).facts.1
        have hf5 := (HS18.out.2.2.2.2.2.1).facts.2
        have hz5 := (HS18.out.2.2.2.2.2.1).lt
        have hc6 := (HS18.out.2.2.2.2.2.2.1).facts.1
        have hf6 := (HS18.out.2.2.2.2.2.2.1).facts.2
        have hz6 := (HS18.out.2.2.2.2.2.2.1).lt
        go_wp2_with fail
        clear hc0 hf0 hz0
        clear hc1 hf1 hz1
        clear hc2 hf2 hz2
        clear hc4 hf4 hz4
        clear hc5 hf5 hz5
        clear hc6 hf6 hz6
        go_ret
        exact ⟨rfl, Bel_next HS18.out.2.2.2.2.2.2.2 (by repeat (first | with_reducible exact Below.refl _ _ | with_reducible refine Below.drew ?_ | with_reducible refine Bel_drewN ?_ _ | with_reducible refine Below.alloc ?_ (by first | omega | (simp; done) | (simp; omega)) _ | with_reducible refine Below.setCell ?_ (by first | omega | (simp; done) | (simp; omega)) _))⟩
end Go.Proofs.Ytgeomaeccalceaa
