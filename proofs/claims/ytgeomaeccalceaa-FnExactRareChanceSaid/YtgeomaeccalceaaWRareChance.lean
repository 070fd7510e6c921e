/- The walk of the law FnExactRareChance. -/
import Derived.Test.YtgeomaeccalceaaRaw
import Derived.Test.YtgeomaeccalceaaSChain
import Derived.Test.YtgeomaeccalceaaFq
import Derived.Deep.RegionHeld3
import Derived.Deep.DeepCutAuto
namespace Go.Proofs.Ytgeomaeccalceaa
open Go Go.RowKit Fl
set_option linter.unusedVariables false

set_option maxRecDepth 100000 in
set_option maxHeartbeats 20000000 in
theorem FnExactRareChance_walk (k : Int) (a b : Nat) (h_k : (Lit.int .i64 k).wf = true) (h_a : a < 18446744073709551616) (h_b : b < 18446744073709551616) (sn : Int) (h_sn : (Lit.int .i64 sn).wf = true) (ss : List Nat) (ao_ss : Option Addr) (c_ss : Nat) (m_ss : ss.length ≤ 9223372036854775807) (fr : Int) (h_fr : (Lit.int .i64 fr).wf = true) (lv : List Int) (ao_lv : Option Addr) (c_lv : Nat) (h_lv : ∀ x ∈ lv, -9223372036854775808 ≤ x ∧ x ≤ 9223372036854775807) (wk : Int) (h_wk : (Lit.int .i64 wk).wf = true) (w : World) (hx_ss : Holds w ao_ss (fl .f32 ss)) (hx_lv : Holds w ao_lv (il lv)) :
    Calls Try.prog 6 #[.agg #[.int .i64 k, .int .u64 (a : Int), .int .u64 (b : Int)], .agg #[.int .i64 sn, .slice ao_ss ss.length c_ss], .int .i64 fr, .slice ao_lv lv.length c_lv, .int .i64 wk] w fun e w' => e = .returned (.bool true) ∧ Below w.heap.size w w' := by
  by_cases hp0 : 1048576 < lv.length
  case pos =>
    have hl : (1048576 : Int) < (lv.length : Int) := by omega
    clear hp0
    go_enter Try.func6, Try.ntmps6
    have HS0 : Hid (Below w.heap.size w w) := Lib.hid (Below.refl _ _)
    go_wp2
    go_ret
    exact ⟨rfl, (by repeat (first | with_reducible exact Below.refl _ _ | with_reducible refine Below.drew ?_ | with_reducible refine Bel_drewN ?_ _ | with_reducible refine Below.alloc ?_ (by first | omega | (simp; done) | (simp; omega)) _ | with_reducible refine Below.setCell ?_ (by first | omega | (simp; done) | (simp; omega)) _))⟩
  have hs0 : (lv.length : Int) ≤ 1048576 := by omega
  have hn_lv : lv.length ≤ 1048576 := by omega
  clear hp0
  by_cases hl0 : ss.length ≤ 1048576
  case neg =>
    have HL0 := Lib.hid hl0
    clear hl0
    go_enter Try.func6, Try.ntmps6
    have HS0 : Hid (Below w.heap.size w w) := Lib.hid (Below.refl _ _)
    go_wp2_with fail
    generalize hW : World.alloc (World.alloc w _) _ = w1
    have hb : Below w.heap.size w w1 := by rw [← hW]; exact (by repeat (first | with_reducible exact Below.refl _ _ | with_reducible refine Below.drew ?_ | with_reducible refine Bel_drewN ?_ _ | with_reducible refine Below.alloc ?_ (by first | omega | (simp; done) | (simp; omega)) _ | with_reducible refine Below.setCell ?_ (by first | omega | (simp; done) | (simp; omega)) _))
    have z1 : w.heap.size + 2 ≤ w1.heap.size := by rw [← hW]; simp
    have HS1 : Hid (Whole w1 w.heap.size 24 #[.int .i64 k, .int .u64 (a : Int), .int .u64 (b : Int)] ∧ Whole w1 (w.heap.size + 1) 27 #[.int .i64 sn, .slice ao_ss ss.length c_ss] ∧ Below w.heap.size w w1) := Lib.hid ⟨by rw [← hW]; exact (Whole.made _ _ _).alloc _, by rw [← hW]; exact Whole.made2 _ _ _ _, Bel_next HS0.out hb⟩
    clear HS0 hW hb
    refine (szChain_no sn ss _ _ (1048576) _ HL0.out (by omega) m_ss).mono ?_
    rintro e w2 ⟨rfl, hb⟩
    have z2 : w1.heap.size ≤ w2.heap.size := hb.size
    have HS2 : Hid (Whole w2 w.heap.size 24 #[.int .i64 k, .int .u64 (a : Int), .int .u64 (b : Int)] ∧ Whole w2 (w.heap.size + 1) 27 #[.int .i64 sn, .slice ao_ss ss.length c_ss] ∧ Below w.heap.size w w2) := Lib.hid ⟨HS1.out.1.below hb, HS1.out.2.1.below hb, Bel_next HS1.out.2.2 hb⟩
    clear HS1 hb
    have hc0 := (HS2.out.1).facts.1
    have hf0 := (HS2.out.1).facts.2
    have hz0 := (HS2.out.1).lt
    have hc1 := (HS2.out.2.1).facts.1
    have hf1 := (HS2.out.2.1).facts.2
    have hz1 := (HS2.out.2.1).lt
    go_wp2_with fail
    clear hc0 hf0 hz0
    clear hc1 hf1 hz1
    go_ret
    exact ⟨rfl, Bel_next HS2.out.2.2 (by repeat (first | with_reducible exact Below.refl _ _ | with_reducible refine Below.drew ?_ | with_reducible refine Bel_drewN ?_ _ | with_reducible refine Below.alloc ?_ (by first | omega | (simp; done) | (simp; omega)) _ | with_reducible refine Below.setCell ?_ (by first | omega | (simp; done) | (simp; omega)) _))⟩
  have HL0 := Lib.hid hl0
  have hn_ss : ss.length ≤ 1048576 := by omega
  clear hl0
  have HX_ss := Lib.hid hx_ss
  clear hx_ss
  have HX_lv := Lib.hid hx_lv
  clear hx_lv
  by_cases hv0 : rarC k a b sn fr wk ss lv
  · have HV := Lib.hid hv0
    clear hv0
    go_enter Try.func6, Try.ntmps6
    have HS0 : Hid (Below w.heap.size w w) := Lib.hid (Below.refl _ _)
    go_wp2_with fail
    generalize hW : World.alloc (World.alloc w _) _ = w1
    have hb : Below w.heap.size w w1 := by rw [← hW]; exact (by repeat (first | with_reducible exact Below.refl _ _ | with_reducible refine Below.drew ?_ | with_reducible refine Bel_drewN ?_ _ | with_reducible refine Below.alloc ?_ (by first | omega | (simp; done) | (simp; omega)) _ | with_reducible refine Below.setCell ?_ (by first | omega | (simp; done) | (simp; omega)) _))
    have z1 : w.heap.size + 2 ≤ w1.heap.size := by rw [← hW]; simp
    have HS1 : Hid (Whole w1 w.heap.size 24 #[.int .i64 k, .int .u64 (a : Int), .int .u64 (b : Int)] ∧ Whole w1 (w.heap.size + 1) 27 #[.int .i64 sn, .slice ao_ss ss.length c_ss] ∧ Below w.heap.size w w1) := Lib.hid ⟨by rw [← hW]; exact (Whole.made _ _ _).alloc _, by rw [← hW]; exact Whole.made2 _ _ _ _, Bel_next HS0.out hb⟩
    clear HS0 hW hb
    refine (szChain_yes sn ss _ _ (1048576) _ HL0.out (by omega)).mono ?_
    rintro e w2 ⟨rfl, hb⟩
    have z2 : w1.heap.size ≤ w2.heap.size := hb.size
    have HS2 : Hid (Whole w2 w.heap.size 24 #[.int .i64 k, .int .u64 (a : Int), .int .u64 (b : Int)] ∧ Whole w2 (w.heap.size + 1) 27 #[.int .i64 sn, .slice ao_ss ss.length c_ss] ∧ Below w.heap.size w w2) := Lib.hid ⟨HS1.out.1.below hb, HS1.out.2.1.below hb, Bel_next HS1.out.2.2 hb⟩
    clear HS1 hb
    have hc0 := (HS2.out.1).facts.1
    have hf0 := (HS2.out.1).facts.2
    have hz0 := (HS2.out.1).lt
    have hc1 := (HS2.out.2.1).facts.1
    have hf1 := (HS2.out.2.1).facts.2
    have hz1 := (HS2.out.2.1).lt
    go_wp2_with fail
    clear hc0 hf0 hz0
    clear hc1 hf1 hz1
    have HK : Hid (∀ v v' : World, (v.cell? ⟨w.heap.size, 0, none⟩ = some (.int .i64 k) ∧ v.cell? ⟨w.heap.size, 1, none⟩ = some (.int .u64 (a : Int)) ∧ v.cell? ⟨w.heap.size, 2, none⟩ = some (.int .u64 (b : Int)) ∧ v.cell? ⟨(w.heap.size + 1), 0, none⟩ = some (.int .i64 sn) ∧ v.cell? ⟨(w.heap.size + 1), 1, none⟩ = some (.slice ao_ss ss.length c_ss) ∧ w2.heap.size ≤ v.heap.size ∧ Whole v w.heap.size 24 #[.int .i64 k, .int .u64 (a : Int), .int .u64 (b : Int)] ∧ Whole v (w.heap.size + 1) 27 #[.int .i64 sn, .slice ao_ss ss.length c_ss] ∧ Below w.heap.size w v) → Below v.heap.size v v' → (v'.cell? ⟨w.heap.size, 0, none⟩ = some (.int .i64 k) ∧ v'.cell? ⟨w.heap.size, 1, none⟩ = some (.int .u64 (a : Int)) ∧ v'.cell? ⟨w.heap.size, 2, none⟩ = some (.int .u64 (b : Int)) ∧ v'.cell? ⟨(w.heap.size + 1), 0, none⟩ = some (.int .i64 sn) ∧ v'.cell? ⟨(w.heap.size + 1), 1, none⟩ = some (.slice ao_ss ss.length c_ss) ∧ w2.heap.size ≤ v'.heap.size ∧ Whole v' w.heap.size 24 #[.int .i64 k, .int .u64 (a : Int), .int .u64 (b : Int)] ∧ Whole v' (w.heap.size + 1) 27 #[.int .i64 sn, .slice ao_ss ss.length c_ss] ∧ Below w.heap.size w v')) := Lib.hid (fun v v' h hb => ⟨(by rw [Below.cell hb (World.block_lt_of_cell? _ _ h.1)]; exact h.1), (by rw [Below.cell hb (World.block_lt_of_cell? _ _ h.2.1)]; exact h.2.1), (by rw [Below.cell hb (World.block_lt_of_cell? _ _ h.2.2.1)]; exact h.2.2.1), (by rw [Below.cell hb (World.block_lt_of_cell? _ _ h.2.2.2.1)]; exact h.2.2.2.1), (by rw [Below.cell hb (World.block_lt_of_cell? _ _ h.2.2.2.2.1)]; exact h.2.2.2.2.1), Nat.le_trans h.2.2.2.2.2.1 hb.size, h.2.2.2.2.2.2.1.below hb, h.2.2.2.2.2.2.2.1.below hb, Bel_next h.2.2.2.2.2.2.2.2 hb⟩)
    have HP : Hid (∀ v : World, (v.cell? ⟨w.heap.size, 0, none⟩ = some (.int .i64 k) ∧ v.cell? ⟨w.heap.size, 1, none⟩ = some (.int .u64 (a : Int)) ∧ v.cell? ⟨w.heap.size, 2, none⟩ = some (.int .u64 (b : Int)) ∧ v.cell? ⟨(w.heap.size + 1), 0, none⟩ = some (.int .i64 sn) ∧ v.cell? ⟨(w.heap.size + 1), 1, none⟩ = some (.slice ao_ss ss.length c_ss) ∧ w2.heap.size ≤ v.heap.size ∧ Whole v w.heap.size 24 #[.int .i64 k, .int .u64 (a : Int), .int .u64 (b : Int)] ∧ Whole v (w.heap.size + 1) 27 #[.int .i64 sn, .slice ao_ss ss.length c_ss] ∧ Below w.heap.size w v) → (Whole v w.heap.size 24 #[.int .i64 k, .int .u64 (a : Int), .int .u64 (b : Int)] ∧ Whole v (w.heap.size + 1) 27 #[.int .i64 sn, .slice ao_ss ss.length c_ss] ∧ Below w.heap.size w v)) := Lib.hid (fun v h => h.2.2.2.2.2.2)
    have hR : w2.cell? ⟨w.heap.size, 0, none⟩ = some (.int .i64 k) ∧ w2.cell? ⟨w.heap.size, 1, none⟩ = some (.int .u64 (a : Int)) ∧ w2.cell? ⟨w.heap.size, 2, none⟩ = some (.int .u64 (b : Int)) ∧ w2.cell? ⟨(w.heap.size + 1), 0, none⟩ = some (.int .i64 sn) ∧ w2.cell? ⟨(w.heap.size + 1), 1, none⟩ = some (.slice ao_ss ss.length c_ss) ∧ w2.heap.size ≤ w2.heap.size ∧ Whole w2 w.heap.size 24 #[.int .i64 k, .int .u64 (a : Int), .int .u64 (b : Int)] ∧ Whole w2 (w.heap.size + 1) 27 #[.int .i64 sn, .slice ao_ss ss.length c_ss] ∧ Below w.heap.size w w2 := ⟨(HS2.out.1).cell 0, (HS2.out.1).cell 1, (HS2.out.1).cell 2, (HS2.out.2.1).cell 0, (HS2.out.2.1).cell 1, Nat.le_refl _, HS2.out.1, HS2.out.2.1, HS2.out.2.2⟩
    have HK2 : Hid (∀ (v : World) (q : Addr) (u : Value), (v.cell? ⟨w.heap.size, 0, none⟩ = some (.int .i64 k) ∧ v.cell? ⟨w.heap.size, 1, none⟩ = some (.int .u64 (a : Int)) ∧ v.cell? ⟨w.heap.size, 2, none⟩ = some (.int .u64 (b : Int)) ∧ v.cell? ⟨(w.heap.size + 1), 0, none⟩ = some (.int .i64 sn) ∧ v.cell? ⟨(w.heap.size + 1), 1, none⟩ = some (.slice ao_ss ss.length c_ss) ∧ w2.heap.size ≤ v.heap.size ∧ Whole v w.heap.size 24 #[.int .i64 k, .int .u64 (a : Int), .int .u64 (b : Int)] ∧ Whole v (w.heap.size + 1) 27 #[.int .i64 sn, .slice ao_ss ss.length c_ss] ∧ Below w.heap.size w v) → w2.heap.size ≤ q.block → ((v.setCell q u).cell? ⟨w.heap.size, 0, none⟩ = some (.int .i64 k) ∧ (v.setCell q u).cell? ⟨w.heap.size, 1, none⟩ = some (.int .u64 (a : Int)) ∧ (v.setCell q u).cell? ⟨w.heap.size, 2, none⟩ = some (.int .u64 (b : Int)) ∧ (v.setCell q u).cell? ⟨(w.heap.size + 1), 0, none⟩ = some (.int .i64 sn) ∧ (v.setCell q u).cell? ⟨(w.heap.size + 1), 1, none⟩ = some (.slice ao_ss ss.length c_ss) ∧ w2.heap.size ≤ (v.setCell q u).heap.size ∧ Whole (v.setCell q u) w.heap.size 24 #[.int .i64 k, .int .u64 (a : Int), .int .u64 (b : Int)] ∧ Whole (v.setCell q u) (w.heap.size + 1) 27 #[.int .i64 sn, .slice ao_ss ss.length c_ss] ∧ Below w.heap.size w (v.setCell q u))) := Lib.hid (fun v q u h hq => ⟨((World.cell?_of_block (a := ⟨w.heap.size, 0, none⟩) (Below.heap_setCell v q u _ (by show ¬ _ = _; simp only []; omega))).trans h.1), ((World.cell?_of_block (a := ⟨w.heap.size, 1, none⟩) (Below.heap_setCell v q u _ (by show ¬ _ = _; simp only []; omega))).trans h.2.1), ((World.cell?_of_block (a := ⟨w.heap.size, 2, none⟩) (Below.heap_setCell v q u _ (by show ¬ _ = _; simp only []; omega))).trans h.2.2.1), ((World.cell?_of_block (a := ⟨(w.heap.size + 1), 0, none⟩) (Below.heap_setCell v q u _ (by show ¬ _ = _; simp only []; omega))).trans h.2.2.2.1), ((World.cell?_of_block (a := ⟨(w.heap.size + 1), 1, none⟩) (Below.heap_setCell v q u _ (by show ¬ _ = _; simp only []; omega))).trans h.2.2.2.2.1), (by simpa using h.2.2.2.2.2.1), h.2.2.2.2.2.2.1.far (by omega) _, h.2.2.2.2.2.2.2.1.far (by omega) _, Below.setCell h.2.2.2.2.2.2.2.2 (by omega) _⟩)
    go_cut [12, 13, 14] from 20 (fun s0 s1 s2 wx => ∃ (gN : Nat) (rrs : Nat), s0 = .pointer (some ⟨gN, 0, none⟩) ∧ s1 = .float .f32 rrs ∧ s2 = .bool true ∧ w2.heap.size ≤ gN ∧ Whole wx gN 29 #[.int .i64 k, .int .u64 ((rarR k a b sn fr wk ss lv).1 : Int), .int .u64 ((rarR k a b sn fr wk ss lv).2.1 : Int)] ∧ Fv .f32 ((rarR k a b sn fr wk ss lv).2.2) rrs ∧ Whole wx w.heap.size 24 #[.int .i64 k, .int .u64 (a : Int), .int .u64 (b : Int)] ∧ Whole wx (w.heap.size + 1) 27 #[.int .i64 sn, .slice ao_ss ss.length c_ss] ∧ Below w.heap.size w wx)
    case first =>
      go_region_held3 (fun v => v.cell? ⟨w.heap.size, 0, none⟩ = some (.int .i64 k) ∧ v.cell? ⟨w.heap.size, 1, none⟩ = some (.int .u64 (a : Int)) ∧ v.cell? ⟨w.heap.size, 2, none⟩ = some (.int .u64 (b : Int)) ∧ v.cell? ⟨(w.heap.size + 1), 0, none⟩ = some (.int .i64 sn) ∧ v.cell? ⟨(w.heap.size + 1), 1, none⟩ = some (.slice ao_ss ss.length c_ss) ∧ w2.heap.size ≤ v.heap.size ∧ Whole v w.heap.size 24 #[.int .i64 k, .int .u64 (a : Int), .int .u64 (b : Int)] ∧ Whole v (w.heap.size + 1) 27 #[.int .i64 sn, .slice ao_ss ss.length c_ss] ∧ Below w.heap.size w v)
        (first | with_reducible assumption | with_reducible exact HSv3.out | with_reducible exact HSv2.out | with_reducible exact HSv1.out | with_reducible exact HSv0.out | ((with_reducible refine HK.out _ _ HSv3.out ?_); (repeat (first | with_reducible exact Below.refl _ _ | with_reducible refine Below.drew ?_ | with_reducible refine Bel_drewN ?_ _ | with_reducible refine Below.alloc ?_ (by first | omega | (simp; done) | (simp; omega)) _ | with_reducible refine Below.setCell ?_ (by first | omega | (simp; done) | (simp; omega)) _)); done) | ((with_reducible refine HK.out _ _ HSv2.out ?_); (repeat (first | with_reducible exact Below.refl _ _ | with_reducible refine Below.drew ?_ | with_reducible refine Bel_drewN ?_ _ | with_reducible refine Below.alloc ?_ (by first | omega | (simp; done) | (simp; omega)) _ | with_reducible refine Below.setCell ?_ (by first | omega | (simp; done) | (simp; omega)) _)); done) | ((with_reducible refine HK.out _ _ HSv1.out ?_); (repeat (first | with_reducible exact Below.refl _ _ | with_reducible refine Below.drew ?_ | with_reducible refine Bel_drewN ?_ _ | with_reducible refine Below.alloc ?_ (by first | omega | (simp; done) | (simp; omega)) _ | with_reducible refine Below.setCell ?_ (by first | omega | (simp; done) | (simp; omega)) _)); done) | ((with_reducible refine HK.out _ _ HSv0.out ?_); (repeat (first | with_reducible exact Below.refl _ _ | with_reducible refine Below.drew ?_ | with_reducible refine Bel_drewN ?_ _ | with_reducible refine Below.alloc ?_ (by first | omega | (simp; done) | (simp; omega)) _ | with_reducible refine Below.setCell ?_ (by first | omega | (simp; done) | (simp; omega)) _)); done) | ((with_reducible refine HK.out w2 _ hR ?_); (repeat (first | with_reducible exact Below.refl _ _ | with_reducible refine Below.drew ?_ | with_reducible refine Bel_drewN ?_ _ | with_reducible refine Below.alloc ?_ (by first | omega | (simp; done) | (simp; omega)) _ | with_reducible refine Below.setCell ?_ (by first | omega | (simp; done) | (simp; omega)) _)); done) | ((with_reducible refine HK2.out _ _ _ HSv3.out ?_) <;> (first | omega | (simp; done) | (simp; omega))) | ((with_reducible refine HK2.out _ _ _ (HK2.out _ _ _ HSv3.out ?_) ?_) <;> (first | omega | (simp; done) | (simp; omega))) | ((with_reducible refine HK2.out _ _ _ (HK2.out _ _ _ (HK2.out _ _ _ HSv3.out ?_) ?_) ?_) <;> (first | omega | (simp; done) | (simp; omega))) | exact HK.out _ _ (by with_reducible assumption) (by with_reducible assumption))
        (first | (go_at_call 17; refine (toSeed_ret k a b _).mono ?_; rintro e wt0 ⟨rfl, hbt0⟩; have zz0 := hbt0.size; (try simp at zz0); have HSv0 := Lib.hid (HK.out _ _ (by with_reducible assumption) hbt0); obtain ⟨kc0, kf0⟩ := cells_kept hbt0; (try have zt0_0 : w2.heap.size < wt0.heap.size := by omega)) | (go_at_call 18; refine (toChain_any sn ss _ _ _ (Holds.below HX_ss.out (HP.out _ (by assumption)).2.2) hn_ss).mono ?_; rintro e wt1 ⟨aosd_ss, rfl, rowsd_ss, hbt1⟩; have zz1 := hbt1.size; (try simp at zz1); have HSv1 := Lib.hid (HK.out _ _ (by with_reducible assumption) hbt1); obtain ⟨kc1, kf1⟩ := cells_kept hbt1; (try have zt1_0 : w2.heap.size < wt1.heap.size := by omega); (try have zt1_1 : wt0.heap.size < wt1.heap.size := by omega)) | (go_at_call 31; refine (toInt64S_any lv _ _ _ (Holds.below HX_lv.out (HP.out _ (by assumption)).2.2) hn_lv).mono ?_; rintro e wt3 ⟨aosd_lv, rfl, rowsd_lv, hbt3⟩; have zz2 := hbt3.size; (try simp at zz2); have HSv2 := Lib.hid (HK.out _ _ (by with_reducible assumption) hbt3); obtain ⟨kc2, kf2⟩ := cells_kept hbt3; (try have zt2_0 : w2.heap.size < wt3.heap.size := by omega); (try have zt2_1 : wt0.heap.size < wt3.heap.size := by omega); (try have zt2_2 : wt1.heap.size < wt3.heap.size := by omega)) | (go_at_call 30; refine (specRare_is k a b sn fr wk ss lv _ _ _ _ _ _ h_a h_b rfl (by first | exact ((Row.below rowsd_ss (by first | exact hbt3 | exact Bel_next (Below.refl _ _).drew hbt3 | (refine Bel_next ?_ hbt3; (repeat (first | with_reducible exact Below.refl _ _ | with_reducible refine Below.drew ?_ | with_reducible refine Bel_drewN ?_ _ | with_reducible refine Below.alloc ?_ (by first | omega | (simp; done) | (simp; omega)) _ | with_reducible refine Below.setCell ?_ (by first | omega | (simp; done) | (simp; omega)) _)); done)))).holds | (refine (Row.below (Row.below rowsd_ss (by first | exact hbt3 | exact Bel_next (Below.refl _ _).drew hbt3 | (refine Bel_next ?_ hbt3; (repeat (first | with_reducible exact Below.refl _ _ | with_reducible refine Below.drew ?_ | with_reducible refine Bel_drewN ?_ _ | with_reducible refine Below.alloc ?_ (by first | omega | (simp; done) | (simp; omega)) _ | with_reducible refine Below.setCell ?_ (by first | omega | (simp; done) | (simp; omega)) _)); done))) ?_).holds; (repeat (first | with_reducible exact Below.refl _ _ | with_reducible refine Below.drew ?_ | with_reducible refine Bel_drewN ?_ _ | with_reducible refine Below.alloc ?_ (by first | omega | (simp; done) | (simp; omega)) _ | with_reducible refine Below.setCell ?_ (by first | omega | (simp; done) | (simp; omega)) _)); done)) (by first | exact (rowsd_lv).holds | (refine (Row.below rowsd_lv ?_).holds; (repeat (first | with_reducible exact Below.refl _ _ | with_reducible refine Below.drew ?_ | with_reducible refine Bel_drewN ?_ _ | with_reducible refine Below.alloc ?_ (by first | omega | (simp; done) | (simp; omega)) _ | with_reducible refine Below.setCell ?_ (by first | omega | (simp; done) | (simp; omega)) _)); done)) HV.out).mono ?_; rintro e w3 ⟨rs, rfl, hrs, hb⟩; have zz3 := hb.size; (try simp at zz3); have HSv3 := Lib.hid (HK.out _ _ (by with_reducible assumption) hb); obtain ⟨kc3, kf3⟩ := cells_kept hb; (try have zt3_0 : w2.heap.size < w3.heap.size := by omega); (try have zt3_1 : wt0.heap.size < w3.heap.size := by omega); (try have zt3_2 : wt1.heap.size < w3.heap.size := by omega); (try have zt3_3 : wt3.heap.size < w3.heap.size := by omega)))
      all_goals
        go_wp2_with fail
        go_meet
        refine ⟨_, _, rfl, rfl, rfl, ?_, ?_, ?_, ?_⟩
        · first | omega | (simp; done) | (simp; omega)
        · first | exact Whole.made _ _ _ | (have hq := ((((Whole.made _ _ _).below hbt0).below hbt1).below hbt3).below hb; exact (((hq).put 0 _).put 1 _).put 2 _) | (have hq := (((((Whole.made _ _ _).drew).below hbt0).below hbt1).below hbt3).below hb; exact (((hq).put 0 _).put 1 _).put 2 _) | (have hq := (((Whole.made _ _ _).below hbt1).below hbt3).below hb; exact (((hq).put 0 _).put 1 _).put 2 _) | (have hq := ((Whole.made _ _ _).below hbt3).below hb; exact (((hq).put 0 _).put 1 _).put 2 _) | (have hq := (Whole.made _ _ _).below hb; exact (((hq).put 0 _).put 1 _).put 2 _)
        · assumption
        · first | (refine HP.out _ (HK.out _ _ HSv3.out ?_); (repeat (first | with_reducible exact Below.refl _ _ | with_reducible refine Below.drew ?_ | with_reducible refine Bel_drewN ?_ _ | with_reducible refine Below.alloc ?_ (by first | omega | (simp; done) | (simp; omega)) _ | with_reducible refine Below.setCell ?_ (by first | omega | (simp; done) | (simp; omega)) _)); done) | exact HP.out _ (HK2.out _ _ _ (HK2.out _ _ _ (HK2.out _ _ _ HSv3.out (by first | omega | (simp; done) | (simp; omega))) (by first | omega | (simp; done) | (simp; omega))) (by first | omega | (simp; done) | (simp; omega)))
    case rest =>
      obtain ⟨gN, rrs, rfl, rfl, rfl, hle, hW, hfcs, hS⟩ := hcut
      rename World => w3
      have HRs := Lib.hid hfcs
      clear hfcs
      have z3 : w2.heap.size ≤ w3.heap.size := by have := hW.lt; omega
      obtain ⟨gN3, hgN⟩ : ∃ g, g = gN := ⟨_, rfl⟩
      subst hgN
      have ygN3 : gN3 < w3.heap.size := hW.lt
      have xgN3 : w2.heap.size ≤ gN3 := hle
      have HS3 : Hid (Whole w3 w.heap.size 24 #[.int .i64 k, .int .u64 (a : Int), .int .u64 (b : Int)] ∧ Whole w3 (w.heap.size + 1) 27 #[.int .i64 sn, .slice ao_ss ss.length c_ss] ∧ Whole w3 gN3 29 #[.int .i64 k, .int .u64 ((rarR k a b sn fr wk ss lv).1 : Int), .int .u64 ((rarR k a b sn fr wk ss lv).2.1 : Int)] ∧ Below w.heap.size w w3) := Lib.hid ⟨hS.1, hS.2.1, hW, hS.2.2⟩
      clear HS2 HK HP HK2 hR hle hW hS
      have hc0 := (HS3.out.1).facts.1
      have hf0 := (HS3.out.1).facts.2
      have hz0 := (HS3.out.1).lt
      have hc1 := (HS3.out.2.1).facts.1
      have hf1 := (HS3.out.2.1).facts.2
      have hz1 := (HS3.out.2.1).lt
      have hc2 := (HS3.out.2.2.1).facts.1
      have hf2 := (HS3.out.2.2.1).facts.2
      have hz2 := (HS3.out.2.2.1).lt
      go_wp2_with fail
      clear hc0 hf0 hz0
      clear hc1 hf1 hz1
      clear hc2 hf2 hz2
      refine (toChain_any sn ss _ _ _ (Holds.below HX_ss.out HS3.out.2.2.2) hn_ss).mono ?_
      rintro e w4 ⟨aoX_ss, rfl, rowX_ss, hb⟩
      have z4 : w3.heap.size ≤ w4.heap.size := hb.size
      have HS4 : Hid (Whole w4 w.heap.size 24 #[.int .i64 k, .int .u64 (a : Int), .int .u64 (b : Int)] ∧ Whole w4 (w.heap.size + 1) 27 #[.int .i64 sn, .slice ao_ss ss.length c_ss] ∧ Whole w4 gN3 29 #[.int .i64 k, .int .u64 ((rarR k a b sn fr wk ss lv).1 : Int), .int .u64 ((rarR k a b sn fr wk ss lv).2.1 : Int)] ∧ Row w4 w3.heap.size w4.heap.size aoX_ss (fl .f32 ss) ∧ Below w.heap.size w w4) := Lib.hid ⟨HS3.out.1.below hb, HS3.out.2.1.below hb, HS3.out.2.2.1.below hb, rowX_ss, Bel_next HS3.out.2.2.2 hb⟩
      clear HS3 hb rowX_ss
      have hc0 := (HS4.out.1).facts.1
      have hf0 := (HS4.out.1).facts.2
      have hz0 := (HS4.out.1).lt
      have hc1 := (HS4.out.2.1).facts.1
      have hf1 := (HS4.out.2.1).facts.2
      have hz1 := (HS4.out.2.1).lt
      have hc2 := (HS4.out.2.2.1).facts.1
      have hf2 := (HS4.out.2.2.1).facts.2
      have hz2 := (HS4.out.2.2.1).lt
      go_wp2_with fail
      clear hc0 hf0 hz0
      clear hc1 hf1 hz1
      clear hc2 hf2 hz2
      generalize hW : World.alloc w4 _ = w5
      have hb : Below w4.heap.size w4 w5 := by rw [← hW]; exact (by repeat (first | with_reducible exact Below.refl _ _ | with_reducible refine Below.drew ?_ | with_reducible refine Bel_drewN ?_ _ | with_reducible refine Below.alloc ?_ (by first | omega | (simp; done) | (simp; omega)) _ | with_reducible refine Below.setCell ?_ (by first | omega | (simp; done) | (simp; omega)) _))
      have z5 : w4.heap.size + 1 ≤ w5.heap.size := by rw [← hW]; simp
      have HS5 : Hid (Whole w5 w.heap.size 24 #[.int .i64 k, .int .u64 (a : Int), .int .u64 (b : Int)] ∧ Whole w5 (w.heap.size + 1) 27 #[.int .i64 sn, .slice ao_ss ss.length c_ss] ∧ Whole w5 gN3 29 #[.int .i64 k, .int .u64 ((rarR k a b sn fr wk ss lv).1 : Int), .int .u64 ((rarR k a b sn fr wk ss lv).2.1 : Int)] ∧ Row w5 w3.heap.size w4.heap.size aoX_ss (fl .f32 ss) ∧ Whole w5 w4.heap.size 34 #[.int .i64 sn, .slice aoX_ss ss.length ss.length] ∧ Below w.heap.size w w5) := Lib.hid ⟨HS4.out.1.below hb, HS4.out.2.1.below hb, HS4.out.2.2.1.below hb, HS4.out.2.2.2.1.below hb, by rw [← hW]; exact Whole.made _ _ _, Bel_next HS4.out.2.2.2.2 hb⟩
      clear HS4 hW hb
      refine (toInt64S_any lv _ _ _ (Holds.below HX_lv.out HS5.out.2.2.2.2.2) hn_lv).mono ?_
      rintro e w6 ⟨aoX_lv, rfl, rowX_lv, hb⟩
      have z6 : w5.heap.size ≤ w6.heap.size := hb.size
      have HS6 : Hid (Whole w6 w.heap.size 24 #[.int .i64 k, .int .u64 (a : Int), .int .u64 (b : Int)] ∧ Whole w6 (w.heap.size + 1) 27 #[.int .i64 sn, .slice ao_ss ss.length c_ss] ∧ Whole w6 gN3 29 #[.int .i64 k, .int .u64 ((rarR k a b sn fr wk ss lv).1 : Int), .int .u64 ((rarR k a b sn fr wk ss lv).2.1 : Int)] ∧ Row w6 w3.heap.size w4.heap.size aoX_ss (fl .f32 ss) ∧ Whole w6 w4.heap.size 34 #[.int .i64 sn, .slice aoX_ss ss.length ss.length] ∧ Row w6 w5.heap.size w6.heap.size aoX_lv (il lv) ∧ Below w.heap.size w w6) := Lib.hid ⟨HS5.out.1.below hb, HS5.out.2.1.below hb, HS5.out.2.2.1.below hb, HS5.out.2.2.2.1.below hb, HS5.out.2.2.2.2.1.below hb, rowX_lv, Bel_next HS5.out.2.2.2.2.2 hb⟩
      clear HS5 hb rowX_lv
      have hc0 := (HS6.out.1).facts.1
      have hf0 := (HS6.out.1).facts.2
      have hz0 := (HS6.out.1).lt
      have hc1 := (HS6.out.2.1).facts.1
      have hf1 := (HS6.out.2.1).facts.2
      have hz1 := (HS6.out.2.1).lt
      have hc2 := (HS6.out.2.2.1).facts.1
      have hf2 := (HS6.out.2.2.1).facts.2
      have hz2 := (HS6.out.2.2.1).lt
      have hc4 := (HS6.out.2.2.2.2.1).facts.1
      have hf4 := (HS6.out.2.2.2.2.1).facts.2
      have hz4 := (HS6.out.2.2.2.2.1).lt
      go_wp2_with fail
      clear hc0 hf0 hz0
      clear hc1 hf1 hz1
      clear hc2 hf2 hz2
      clear hc4 hf4 hz4
      have HK : Hid (∀ v v' : World, (v.cell? ⟨w.heap.size, 0, none⟩ = some (.int .i64 k) ∧ v.cell? ⟨w.heap.size, 1, none⟩ = some (.int .u64 (a : Int)) ∧ v.cell? ⟨w.heap.size, 2, none⟩ = some (.int .u64 (b : Int)) ∧ v.cell? ⟨w4.heap.size, 0, none⟩ = some (.int .i64 sn) ∧ v.cell? ⟨w4.heap.size, 1, none⟩ = some (.slice aoX_ss ss.length ss.length) ∧ w6.heap.size ≤ v.heap.size ∧ Whole v w.heap.size 24 #[.int .i64 k, .int .u64 (a : Int), .int .u64 (b : Int)] ∧ Whole v (w.heap.size + 1) 27 #[.int .i64 sn, .slice ao_ss ss.length c_ss] ∧ Whole v gN3 29 #[.int .i64 k, .int .u64 ((rarR k a b sn fr wk ss lv).1 : Int), .int .u64 ((rarR k a b sn fr wk ss lv).2.1 : Int)] ∧ Row v w3.heap.size w4.heap.size aoX_ss (fl .f32 ss) ∧ Whole v w4.heap.size 34 #[.int .i64 sn, .slice aoX_ss ss.length ss.length] ∧ Row v w5.heap.size w6.heap.size aoX_lv (il lv) ∧ Below w.heap.size w v) → Below v.heap.size v v' → (v'.cell? ⟨w.heap.size, 0, none⟩ = some (.int .i64 k) ∧ v'.cell? ⟨w.heap.size, 1, none⟩ = some (.int .u64 (a : Int)) ∧ v'.cell? ⟨w.heap.size, 2, none⟩ = some (.int .u64 (b : Int)) ∧ v'.cell? ⟨w4.heap.size, 0, none⟩ = some (.int .i64 sn) ∧ v'.cell? ⟨w4.heap.size, 1, none⟩ = some (.slice aoX_ss ss.length ss.length) ∧ w6.heap.size ≤ v'.heap.size ∧ Whole v' w.heap.size 24 #[.int .i64 k, .int .u64 (a : Int), .int .u64 (b : Int)] ∧ Whole v' (w.heap.size + 1) 27 #[.int .i64 sn, .slice ao_ss ss.length c_ss] ∧ Whole v' gN3 29 #[.int .i64 k, .int .u64 ((rarR k a b sn fr wk ss lv).1 : Int), .int .u64 ((rarR k a b sn fr wk ss lv).2.1 : Int)] ∧ Row v' w3.heap.size w4.heap.size aoX_ss (fl .f32 ss) ∧ Whole v' w4.heap.size 34 #[.int .i64 sn, .slice aoX_ss ss.length ss.length] ∧ Row v' w5.heap.size w6.heap.size aoX_lv (il lv) ∧ Below w.heap.size w v')) := Lib.hid (fun v v' h hb => ⟨(by rw [Below.cell hb (World.block_lt_of_cell? _ _ h.1)]; exact h.1), (by rw [Below.cell hb (World.block_lt_of_cell? _ _ h.2.1)]; exact h.2.1), (by rw [Below.cell hb (World.block_lt_of_cell? _ _ h.2.2.1)]; exact h.2.2.1), (by rw [Below.cell hb (World.block_lt_of_cell? _ _ h.2.2.2.1)]; exact h.2.2.2.1), (by rw [Below.cell hb (World.block_lt_of_cell? _ _ h.2.2.2.2.1)]; exact h.2.2.2.2.1), Nat.le_trans h.2.2.2.2.2.1 hb.size, h.2.2.2.2.2.2.1.below hb, h.2.2.2.2.2.2.2.1.below hb, h.2.2.2.2.2.2.2.2.1.below hb, h.2.2.2.2.2.2.2.2.2.1.below hb, h.2.2.2.2.2.2.2.2.2.2.1.below hb, h.2.2.2.2.2.2.2.2.2.2.2.1.below hb, Bel_next h.2.2.2.2.2.2.2.2.2.2.2.2 hb⟩)
      have HP : Hid (∀ v : World, (v.cell? ⟨w.heap.size, 0, none⟩ = some (.int .i64 k) ∧ v.cell? ⟨w.heap.size, 1, none⟩ = some (.int .u64 (a : Int)) ∧ v.cell? ⟨w.heap.size, 2, none⟩ = some (.int .u64 (b : Int)) ∧ v.cell? ⟨w4.heap.size, 0, none⟩ = some (.int .i64 sn) ∧ v.cell? ⟨w4.heap.size, 1, none⟩ = some (.slice aoX_ss ss.length ss.length) ∧ w6.heap.size ≤ v.heap.size ∧ Whole v w.heap.size 24 #[.int .i64 k, .int .u64 (a : Int), .int .u64 (b : Int)] ∧ Whole v (w.heap.size + 1) 27 #[.int .i64 sn, .slice ao_ss ss.length c_ss] ∧ Whole v gN3 29 #[.int .i64 k, .int .u64 ((rarR k a b sn fr wk ss lv).1 : Int), .int .u64 ((rarR k a b sn fr wk ss lv).2.1 : Int)] ∧ Row v w3.heap.size w4.heap.size aoX_ss (fl .f32 ss) ∧ Whole v w4.heap.size 34 #[.int .i64 sn, .slice aoX_ss ss.length ss.length] ∧ Row v w5.heap.size w6.heap.size aoX_lv (il lv) ∧ Below w.heap.size w v) → (Whole v w.heap.size 24 #[.int .i64 k, .int .u64 (a : Int), .int .u64 (b : Int)] ∧ Whole v (w.heap.size + 1) 27 #[.int .i64 sn, .slice ao_ss ss.length c_ss] ∧ Whole v gN3 29 #[.int .i64 k, .int .u64 ((rarR k a b sn fr wk ss lv).1 : Int), .int .u64 ((rarR k a b sn fr wk ss lv).2.1 : Int)] ∧ Row v w3.heap.size w4.heap.size aoX_ss (fl .f32 ss) ∧ Whole v w4.heap.size 34 #[.int .i64 sn, .slice aoX_ss ss.length ss.length] ∧ Row v w5.heap.size w6.heap.size aoX_lv (il lv) ∧ Below w.heap.size w v)) := Lib.hid (fun v h => h.2.2.2.2.2.2)
      have hR : w6.cell? ⟨w.heap.size, 0, none⟩ = some (.int .i64 k) ∧ w6.cell? ⟨w.heap.size, 1, none⟩ = some (.int .u64 (a : Int)) ∧ w6.cell? ⟨w.heap.size, 2, none⟩ = some (.int .u64 (b : Int)) ∧ w6.cell? ⟨w4.heap.size, 0, none⟩ = some (.int .i64 sn) ∧ w6.cell? ⟨w4.heap.size, 1, none⟩ = some (.slice aoX_ss ss.length ss.length) ∧ w6.heap.size ≤ w6.heap.size ∧ Whole w6 w.heap.size 24 #[.int .i64 k, .int .u64 (a : Int), .int .u64 (b : Int)] ∧ Whole w6 (w.heap.size + 1) 27 #[.int .i64 sn, .slice ao_ss ss.length c_ss] ∧ Whole w6 gN3 29 #[.int .i64 k, .int .u64 ((rarR k a b sn fr wk ss lv).1 : Int), .int .u64 ((rarR k a b sn fr wk ss lv).2.1 : Int)] ∧ Row w6 w3.heap.size w4.heap.size aoX_ss (fl .f32 ss) ∧ Whole w6 w4.heap.size 34 #[.int .i64 sn, .slice aoX_ss ss.length ss.length] ∧ Row w6 w5.heap.size w6.heap.size aoX_lv (il lv) ∧ Below w.heap.size w w6 := ⟨(HS6.out.1).cell 0, (HS6.out.1).cell 1, (HS6.out.1).cell 2, (HS6.out.2.2.2.2.1).cell 0, (HS6.out.2.2.2.2.1).cell 1, Nat.le_refl _, HS6.out.1, HS6.out.2.1, HS6.out.2.2.1, HS6.out.2.2.2.1, HS6.out.2.2.2.2.1, HS6.out.2.2.2.2.2.1, HS6.out.2.2.2.2.2.2⟩
      have HK2 : Hid (∀ (v : World) (q : Addr) (u : Value), (v.cell? ⟨w.heap.size, 0, none⟩ = some (.int .i64 k) ∧ v.cell? ⟨w.heap.size, 1, none⟩ = some (.int .u64 (a : Int)) ∧ v.cell? ⟨w.heap.size, 2, none⟩ = some (.int .u64 (b : Int)) ∧ v.cell? ⟨w4.heap.size, 0, none⟩ = some (.int .i64 sn) ∧ v.cell? ⟨w4.heap.size, 1, none⟩ = some (.slice aoX_ss ss.length ss.length) ∧ w6.heap.size ≤ v.heap.size ∧ Whole v w.heap.size 24 #[.int .i64 k, .int .u64 (a : Int), .int .u64 (b : Int)] ∧ Whole v (w.heap.size + 1) 27 #[.int .i64 sn, .slice ao_ss ss.length c_ss] ∧ Whole v gN3 29 #[.int .i64 k, .int .u64 ((rarR k a b sn fr wk ss lv).1 : Int), .int .u64 ((rarR k a b sn fr wk ss lv).2.1 : Int)] ∧ Row v w3.heap.size w4.heap.size aoX_ss (fl .f32 ss) ∧ Whole v w4.heap.size 34 #[.int .i64 sn, .slice aoX_ss ss.length ss.length] ∧ Row v w5.heap.size w6.heap.size aoX_lv (il lv) ∧ Below w.heap.size w v) → w6.heap.size ≤ q.block → ((v.setCell q u).cell? ⟨w.heap.size, 0, none⟩ = some (.int .i64 k) ∧ (v.setCell q u).cell? ⟨w.heap.size, 1, none⟩ = some (.int .u64 (a : Int)) ∧ (v.setCell q u).cell? ⟨w.heap.size, 2, none⟩ = some (.int .u64 (b : Int)) ∧ (v.setCell q u).cell? ⟨w4.heap.size, 0, none⟩ = some (.int .i64 sn) ∧ (v.setCell q u).cell? ⟨w4.heap.size, 1, none⟩ = some (.slice aoX_ss ss.length ss.length) ∧ w6.heap.size ≤ (v.setCell q u).heap.size ∧ Whole (v.setCell q u) w.heap.size 24 #[.int .i64 k, .int .u64 (a : Int), .int .u64 (b : Int)] ∧ Whole (v.setCell q u) (w.heap.size + 1) 27 #[.int .i64 sn, .slice ao_ss ss.length c_ss] ∧ Whole (v.setCell q u) gN3 29 #[.int .i64 k, .int .u64 ((rarR k a b sn fr wk ss lv).1 : Int), .int .u64 ((rarR k a b sn fr wk ss lv).2.1 : Int)] ∧ Row (v.setCell q u) w3.heap.size w4.heap.size aoX_ss (fl .f32 ss) ∧ Whole (v.setCell q u) w4.heap.size 34 #[.int .i64 sn, .slice aoX_ss ss.length ss.length] ∧ Row (v.setCell q u) w5.heap.size w6.heap.size aoX_lv (il lv) ∧ Below w.heap.size w (v.setCell q u))) := Lib.hid (fun v q u h hq => ⟨((World.cell?_of_block (a := ⟨w.heap.size, 0, none⟩) (Below.heap_setCell v q u _ (by show ¬ _ = _; simp only []; omega))).trans h.1), ((World.cell?_of_block (a := ⟨w.heap.size, 1, none⟩) (Below.heap_setCell v q u _ (by show ¬ _ = _; simp only []; omega))).trans h.2.1), ((World.cell?_of_block (a := ⟨w.heap.size, 2, none⟩) (Below.heap_setCell v q u _ (by show ¬ _ = _; simp only []; omega))).trans h.2.2.1), ((World.cell?_of_block (a := ⟨w4.heap.size, 0, none⟩) (Below.heap_setCell v q u _ (by show ¬ _ = _; simp only []; omega))).trans h.2.2.2.1), ((World.cell?_of_block (a := ⟨w4.heap.size, 1, none⟩) (Below.heap_setCell v q u _ (by show ¬ _ = _; simp only []; omega))).trans h.2.2.2.2.1), (by simpa using h.2.2.2.2.2.1), h.2.2.2.2.2.2.1.far (by omega) _, h.2.2.2.2.2.2.2.1.far (by omega) _, h.2.2.2.2.2.2.2.2.1.far (by omega) _, h.2.2.2.2.2.2.2.2.2.1.far (.inr (by omega)) _, h.2.2.2.2.2.2.2.2.2.2.1.far (by omega) _, h.2.2.2.2.2.2.2.2.2.2.2.1.far (.inr (by omega)) _, Below.setCell h.2.2.2.2.2.2.2.2.2.2.2.2 (by omega) _⟩)
      go_cut [17, 18, 19] from 20 (fun s0 s1 s2 wx => ∃ (gN : Nat) (rrg : Nat), s0 = .pointer (some ⟨gN, 0, none⟩) ∧ s1 = .float .f32 rrg ∧ s2 = .bool true ∧ w6.heap.size ≤ gN ∧ Whole wx gN 29 #[.int .i64 k, .int .u64 ((rarR k a b sn fr wk ss lv).1 : Int), .int .u64 ((rarR k a b sn fr wk ss lv).2.1 : Int)] ∧ Fv .f32 ((rarR k a b sn fr wk ss lv).2.2) rrg ∧ Whole wx w.heap.size 24 #[.int .i64 k, .int .u64 (a : Int), .int .u64 (b : Int)] ∧ Whole wx (w.heap.size + 1) 27 #[.int .i64 sn, .slice ao_ss ss.length c_ss] ∧ Whole wx gN3 29 #[.int .i64 k, .int .u64 ((rarR k a b sn fr wk ss lv).1 : Int), .int .u64 ((rarR k a b sn fr wk ss lv).2.1 : Int)] ∧ Row wx w3.heap.size w4.heap.size aoX_ss (fl .f32 ss) ∧ Whole wx w4.heap.size 34 #[.int .i64 sn, .slice aoX_ss ss.length ss.length] ∧ Row wx w5.heap.size w6.heap.size aoX_lv (il lv) ∧ Below w.heap.size w wx)
      case first =>
        go_region_held3 (fun v => v.cell? ⟨w.heap.size, 0, none⟩ = some (.int .i64 k) ∧ v.cell? ⟨w.heap.size, 1, none⟩ = some (.int .u64 (a : Int)) ∧ v.cell? ⟨w.heap.size, 2, none⟩ = some (.int .u64 (b : Int)) ∧ v.cell? ⟨w4.heap.size, 0, none⟩ = some (.int .i64 sn) ∧ v.cell? ⟨w4.heap.size, 1, none⟩ = some (.slice aoX_ss ss.length ss.length) ∧ w6.heap.size ≤ v.heap.size ∧ Whole v w.heap.size 24 #[.int .i64 k, .int .u64 (a : Int), .int .u64 (b : Int)] ∧ Whole v (w.heap.size + 1) 27 #[.int .i64 sn, .slice ao_ss ss.length c_ss] ∧ Whole v gN3 29 #[.int .i64 k, .int .u64 ((rarR k a b sn fr wk ss lv).1 : Int), .int .u64 ((rarR k a b sn fr wk ss lv).2.1 : Int)] ∧ Row v w3.heap.size w4.heap.size aoX_ss (fl .f32 ss) ∧ Whole v w4.heap.size 34 #[.int .i64 sn, .slice aoX_ss ss.length ss.length] ∧ Row v w5.heap.size w6.heap.size aoX_lv (il lv) ∧ Below w.heap.size w v)
          (first | with_reducible assumption | with_reducible exact HSv1.out | with_reducible exact HSv0.out | ((with_reducible refine HK.out _ _ HSv1.out ?_); (repeat (first | with_reducible exact Below.refl _ _ | with_reducible refine Below.drew ?_ | with_reducible refine Bel_drewN ?_ _ | with_reducible refine Below.alloc ?_ (by first | omega | (simp; done) | (simp; omega)) _ | with_reducible refine Below.setCell ?_ (by first | omega | (simp; done) | (simp; omega)) _)); done) | ((with_reducible refine HK.out _ _ HSv0.out ?_); (repeat (first | with_reducible exact Below.refl _ _ | with_reducible refine Below.drew ?_ | with_reducible refine Bel_drewN ?_ _ | with_reducible refine Below.alloc ?_ (by first | omega | (simp; done) | (simp; omega)) _ | with_reducible refine Below.setCell ?_ (by first | omega | (simp; done) | (simp; omega)) _)); done) | ((with_reducible refine HK.out w6 _ hR ?_); (repeat (first | with_reducible exact Below.refl _ _ | with_reducible refine Below.drew ?_ | with_reducible refine Bel_drewN ?_ _ | with_reducible refine Below.alloc ?_ (by first | omega | (simp; done) | (simp; omega)) _ | with_reducible refine Below.setCell ?_ (by first | omega | (simp; done) | (simp; omega)) _)); done) | ((with_reducible refine HK2.out _ _ _ HSv1.out ?_) <;> (first | omega | (simp; done) | (simp; omega))) | ((with_reducible refine HK2.out _ _ _ (HK2.out _ _ _ HSv1.out ?_) ?_) <;> (first | omega | (simp; done) | (simp; omega))) | ((with_reducible refine HK2.out _ _ _ (HK2.out _ _ _ (HK2.out _ _ _ HSv1.out ?_) ?_) ?_) <;> (first | omega | (simp; done) | (simp; omega))) | exact HK.out _ _ (by with_reducible assumption) (by with_reducible assumption))
          (first | (go_at_call 17; refine (toSeed_ret k a b _).mono ?_; rintro e wt0 ⟨rfl, hbt0⟩; have zz0 := hbt0.size; (try simp at zz0); have HSv0 := Lib.hid (HK.out _ _ (by with_reducible assumption) hbt0); obtain ⟨kc0, kf0⟩ := cells_kept hbt0; (try have zt0_0 : w6.heap.size < wt0.heap.size := by omega)) | (go_at_call 32; refine (implRare_is k a b sn fr wk ss lv _ _ _ _ _ _ h_a h_b rfl (Nat.le_refl _) (HP.out _ (by assumption)).2.2.2.1.holds (HP.out _ (by assumption)).2.2.2.2.2.1.holds HV.out).mono ?_; rintro e w7 ⟨rg, rfl, hrg, hb⟩; have zz1 := hb.size; (try simp at zz1); have HSv1 := Lib.hid (HK.out _ _ (by with_reducible assumption) hb); obtain ⟨kc1, kf1⟩ := cells_kept hb; (try have zt1_0 : w6.heap.size < w7.heap.size := by omega); (try have zt1_1 : wt0.heap.size < w7.heap.size := by omega)))
        all_goals
          go_wp2_with fail
          go_meet
          refine ⟨_, _, rfl, rfl, rfl, ?_, ?_, ?_, ?_⟩
          · first | omega | (simp; done) | (simp; omega)
          · first | exact Whole.made _ _ _ | (have hq := ((Whole.made _ _ _).below hbt0).below hb; exact (((hq).put 0 _).put 1 _).put 2 _) | (have hq := (((Whole.made _ _ _).drew).below hbt0).below hb; exact (((hq).put 0 _).put 1 _).put 2 _) | (have hq := (Whole.made _ _ _).below hb; exact (((hq).put 0 _).put 1 _).put 2 _)
          · assumption
          · first | (refine HP.out _ (HK.out _ _ HSv1.out ?_); (repeat (first | with_reducible exact Below.refl _ _ | with_reducible refine Below.drew ?_ | with_reducible refine Bel_drewN ?_ _ | with_reducible refine Below.alloc ?_ (by first | omega | (simp; done) | (simp; omega)) _ | with_reducible refine Below.setCell ?_ (by first | omega | (simp; done) | (simp; omega)) _)); done) | exact HP.out _ (HK2.out _ _ _ (HK2.out _ _ _ (HK2.out _ _ _ HSv1.out (by first | omega | (simp; done) | (simp; omega))) (by first | omega | (simp; done) | (simp; omega))) (by first | omega | (simp; done) | (simp; omega)))
      case rest =>
        obtain ⟨gN, rrg, rfl, rfl, rfl, hle, hW, hfcg, hS⟩ := hcut
        rename World => w7
        have HRg := Lib.hid hfcg
        clear hfcg
        have z7 : w6.heap.size ≤ w7.heap.size := by have := hW.lt; omega
        obtain ⟨gN7, hgN⟩ : ∃ g, g = gN := ⟨_, rfl⟩
        subst hgN
        have ygN7 : gN7 < w7.heap.size := hW.lt
        have xgN7 : w6.heap.size ≤ gN7 := hle
        have HS7 : Hid (Whole w7 w.heap.size 24 #[.int .i64 k, .int .u64 (a : Int), .int .u64 (b : Int)] ∧ Whole w7 (w.heap.size + 1) 27 #[.int .i64 sn, .slice ao_ss ss.length c_ss] ∧ Whole w7 gN3 29 #[.int .i64 k, .int .u64 ((rarR k a b sn fr wk ss lv).1 : Int), .int .u64 ((rarR k a b sn fr wk ss lv).2.1 : Int)] ∧ Row w7 w3.heap.size w4.heap.size aoX_ss (fl .f32 ss) ∧ Whole w7 w4.heap.size 34 #[.int .i64 sn, .slice aoX_ss ss.length ss.length] ∧ Row w7 w5.heap.size w6.heap.size aoX_lv (il lv) ∧ Whole w7 gN7 29 #[.int .i64 k, .int .u64 ((rarR k a b sn fr wk ss lv).1 : Int), .int .u64 ((rarR k a b sn fr wk ss lv).2.1 : Int)] ∧ Below w.heap.size w w7) := Lib.hid ⟨hS.1, hS.2.1, hS.2.2.1, hS.2.2.2.1, hS.2.2.2.2.1, hS.2.2.2.2.2.1, hW, hS.2.2.2.2.2.2⟩
        clear HS6 HK HP HK2 hR hle hW hS
        have hc0 := (HS7.out.1).facts.1
        have hf0 := (HS7.out.1).facts.2
        have hz0 := (HS7.out.1).lt
        have hc1 := (HS7.out.2.1).facts.1
        have hf1 := (HS7.out.2.1).facts.2
        have hz1 := (HS7.out.2.1).lt
        have hc2 := (HS7.out.2.2.1).facts.1
        have hf2 := (HS7.out.2.2.1).facts.2
        have hz2 := (HS7.out.2.2.1).lt
        have hc4 := (HS7.out.2.2.2.2.1).facts.1
        have hf4 := (HS7.out.2.2.2.2.1).facts.2
        have hz4 := (HS7.out.2.2.2.2.1).lt
        have hc6 := (HS7.out.2.2.2.2.2.2.1).facts.1
        have hf6 := (HS7.out.2.2.2.2.2.2.1).facts.2
        have hz6 := (HS7.out.2.2.2.2.2.2.1).lt
        go_wp2_with fail
        clear hc0 hf0 hz0
        clear hc1 hf1 hz1
        clear hc2 hf2 hz2
        clear hc4 hf4 hz4
        clear hc6 hf6 hz6
        refine (eqSeed_same _ _ _ _).mono ?_
        rintro e w8 ⟨rfl, hb⟩
        have z8 : w7.heap.size ≤ w8.heap.size := hb.size
        have HS8 : Hid (Whole w8 w.heap.size 24 #[.int .i64 k, .int .u64 (a : Int), .int .u64 (b : Int)] ∧ Whole w8 (w.heap.size + 1) 27 #[.int .i64 sn, .slice ao_ss ss.length c_ss] ∧ Whole w8 gN3 29 #[.int .i64 k, .int .u64 ((rarR k a b sn fr wk ss lv).1 : Int), .int .u64 ((rarR k a b sn fr wk ss lv).2.1 : Int)] ∧ Row w8 w3.heap.size w4.heap.size aoX_ss (fl .f32 ss) ∧ Whole w8 w4.heap.size 34 #[.int .i64 sn, .slice aoX_ss ss.length ss.length] ∧ Row w8 w5.heap.size w6.heap.size aoX_lv (il lv) ∧ Whole w8 gN7 29 #[.int .i64 k, .int .u64 ((rarR k a b sn fr wk ss lv).1 : Int), .int .u64 ((rarR k a b sn fr wk ss lv).2.1 : Int)] ∧ Below w.heap.size w w8) := Lib.hid ⟨HS7.out.1.below hb, HS7.out.2.1.below hb, HS7.out.2.2.1.below hb, HS7.out.2.2.2.1.below hb, HS7.out.2.2.2.2.1.below hb, HS7.out.2.2.2.2.2.1.below hb, HS7.out.2.2.2.2.2.2.1.below hb, Bel_next HS7.out.2.2.2.2.2.2.2 hb⟩
        clear HS7 hb
        have hc0 := (HS8.out.1).facts.1
        have hf0 := (HS8.out.1).facts.2
        have hz0 := (HS8.out.1).lt
        have hc1 := (HS8.out.2.1).facts.1
        have hf1 := (HS8.out.2.1).facts.2
        have hz1 := (HS8.out.2.1).lt
        have hc2 := (HS8.out.2.2.1).facts.1
        have hf2 := (HS8.out.2.2.1).facts.2
        have hz2 := (HS8.out.2.2.1).lt
        have hc4 := (HS8.out.2.2.2.2.1).facts.1
        have hf4 := (HS8.out.2.2.2.2.1).facts.2
        have hz4 := (HS8.out.2.2.2.2.1).lt
        have hc6 := (HS8.out.2.2.2.2.2.2.1).facts.1
        have hf6 := (HS8.out.2.2.2.2.2.2.1).facts.2
        have hz6 := (HS8.out.2.2.2.2.2.2.1).lt
        go_wp2_with (first | (refine wpList_widen_g _ _ _ _ rfl Try.underlying47 Try.underlying52 rfl ?_; intro r n hr) | (go_at_call 33; fail))
        clear hc0 hf0 hz0
        clear hc1 hf1 hz1
        clear hc2 hf2 hz2
        clear hc4 hf4 hz4
        clear hc6 hf6 hz6
        refine (sameFloat_any _ _ (widen ((rarR k a b sn fr wk ss lv).2.2)) (by rw [← HRg.out.2]; assumption) (by rw [← HRs.out.2]; assumption) _).mono ?_
        rintro e w' ⟨n3, rfl, rfl⟩
        generalize hW : World.drewN _ n3 = w9
        repeat rw [World.drewN_drewN] at hW
        have z9 : w8.heap.size ≤ w9.heap.size := by rw [← hW]; exact Nat.le_refl _
        have HS9 : Hid (Whole w9 w.heap.size 24 #[.int .i64 k, .int .u64 (a : Int), .int .u64 (b : Int)] ∧ Whole w9 (w.heap.size + 1) 27 #[.int .i64 sn, .slice ao_ss ss.length c_ss] ∧ Whole w9 gN3 29 #[.int .i64 k, .int .u64 ((rarR k a b sn fr wk ss lv).1 : Int), .int .u64 ((rarR k a b sn fr wk ss lv).2.1 : Int)] ∧ Row w9 w3.heap.size w4.heap.size aoX_ss (fl .f32 ss) ∧ Whole w9 w4.heap.size 34 #[.int .i64 sn, .slice aoX_ss ss.length ss.length] ∧ Row w9 w5.heap.size w6.heap.size aoX_lv (il lv) ∧ Whole w9 gN7 29 #[.int .i64 k, .int .u64 ((rarR k a b sn fr wk ss lv).1 : Int), .int .u64 ((rarR k a b sn fr wk ss lv).2.1 : Int)] ∧ Below w.heap.size w w9) := Lib.hid ⟨by rw [← hW]; exact (HS8.out.1).drewN _, by rw [← hW]; exact (HS8.out.2.1).drewN _, by rw [← hW]; exact (HS8.out.2.2.1).drewN _, by rw [← hW]; exact (HS8.out.2.2.2.1).drewN _, by rw [← hW]; exact (HS8.out.2.2.2.2.1).drewN _, by rw [← hW]; exact (HS8.out.2.2.2.2.2.1).drewN _, by rw [← hW]; exact (HS8.out.2.2.2.2.2.2.1).drewN _, by rw [← hW]; exact Bel_drewN HS8.out.2.2.2.2.2.2.2 _⟩
        clear HS8 hW
        have hc0 := (HS9.out.1).facts.1
        have hf0 := (HS9.out.1).facts.2
        have hz0 := (HS9.out.1).lt
        have hc1 := (HS9.out.2.1).facts.1
        have hf1 := (HS9.out.2.1).facts.2
        have hz1 := (HS9.out.2.1).lt
        have hc2 := (HS9.out.2.2.1).facts.1
        have hf2 := (HS9.out.2.2.1).facts.2
        have hz2 := (HS9.out.2.2.1).lt
        have hc4 := (HS9.out.2.2.2.2.1).facts.1
        have hf4 := (HS9.out.2.2.2.2.1).facts.2
        have hz4 := (HS9.out.2.2.2.2.1).lt
        have hc6 := (HS9.out.2.2.2.2.2.2.1).facts.1
        have hf6 := (HS9.out.2.2.2.2.2.2.1).facts.2
        have hz6 := (HS9.out.2.2.2.2.2.2.1).lt
        go_wp2_with fail
        clear hc0 hf0 hz0
        clear hc1 hf1 hz1
        clear hc2 hf2 hz2
        clear hc4 hf4 hz4
        clear hc6 hf6 hz6
        have HK : Hid (∀ v v' : World, (v.cell? ⟨w4.heap.size, 0, none⟩ = some (.int .i64 sn) ∧ v.cell? ⟨w4.heap.size, 1, none⟩ = some (.slice aoX_ss ss.length ss.length) ∧ v.cell? ⟨(w.heap.size + 1), 0, none⟩ = some (.int .i64 sn) ∧ v.cell? ⟨(w.heap.size + 1), 1, none⟩ = some (.slice ao_ss ss.length c_ss) ∧ w9.heap.size ≤ v.heap.size ∧ Whole v w.heap.size 24 #[.int .i64 k, .int .u64 (a : Int), .int .u64 (b : Int)] ∧ Whole v (w.heap.size + 1) 27 #[.int .i64 sn, .slice ao_ss ss.length c_ss] ∧ Whole v gN3 29 #[.int .i64 k, .int .u64 ((rarR k a b sn fr wk ss lv).1 : Int), .int .u64 ((rarR k a b sn fr wk ss lv).2.1 : Int)] ∧ Row v w3.heap.size w4.heap.size aoX_ss (fl .f32 ss) ∧ Whole v w4.heap.size 34 #[.int .i64 sn, .slice aoX_ss ss.length ss.length] ∧ Row v w5.heap.size w6.heap.size aoX_lv (il lv) ∧ Whole v gN7 29 #[.int .i64 k, .int .u64 ((rarR k a b sn fr wk ss lv).1 : Int), .int .u64 ((rarR k a b sn fr wk ss lv).2.1 : Int)] ∧ Below w.heap.size w v) → Below v.heap.size v v' → (v'.cell? ⟨w4.heap.size, 0, none⟩ = some (.int .i64 sn) ∧ v'.cell? ⟨w4.heap.size, 1, none⟩ = some (.slice aoX_ss ss.length ss.length) ∧ v'.cell? ⟨(w.heap.size + 1), 0, none⟩ = some (.int .i64 sn) ∧ v'.cell? ⟨(w.heap.size + 1), 1, none⟩ = some (.slice ao_ss ss.length c_ss) ∧ w9.heap.size ≤ v'.heap.size ∧ Whole v' w.heap.size 24 #[.int .i64 k, .int .u64 (a : Int), .int .u64 (b : Int)] ∧ Whole v' (w.heap.size + 1) 27 #[.int .i64 sn, .slice ao_ss ss.length c_ss] ∧ Whole v' gN3 29 #[.int .i64 k, .int .u64 ((rarR k a b sn fr wk ss lv).1 : Int), .int .u64 ((rarR k a b sn fr wk ss lv).2.1 : Int)] ∧ Row v' w3.heap.size w4.heap.size aoX_ss (fl .f32 ss) ∧ Whole v' w4.heap.size 34 #[.int .i64 sn, .slice aoX_ss ss.length ss.length] ∧ Row v' w5.heap.size w6.heap.size aoX_lv (il lv) ∧ Whole v' gN7 29 #[.int .i64 k, .int .u64 ((rarR k a b sn fr wk ss lv).1 : Int), .int .u64 ((rarR k a b sn fr wk ss lv).2.1 : Int)] ∧ Below w.heap.size w v')) := Lib.hid (fun v v' h hb => ⟨(by rw [Below.cell hb (World.block_lt_of_cell? _ _ h.1)]; exact h.1), (by rw [Below.cell hb (World.block_lt_of_cell? _ _ h.2.1)]; exact h.2.1), (by rw [Below.cell hb (World.block_lt_of_cell? _ _ h.2.2.1)]; exact h.2.2.1), (by rw [Below.cell hb (World.block_lt_of_cell? _ _ h.2.2.2.1)]; exact h.2.2.2.1), Nat.le_trans h.2.2.2.2.1 hb.size, h.2.2.2.2.2.1.below hb, h.2.2.2.2.2.2.1.below hb, h.2.2.2.2.2.2.2.1.below hb, h.2.2.2.2.2.2.2.2.1.below hb, h.2.2.2.2.2.2.2.2.2.1.below hb, h.2.2.2.2.2.2.2.2.2.2.1.below hb, h.2.2.2.2.2.2.2.2.2.2.2.1.below hb, Bel_next h.2.2.2.2.2.2.2.2.2.2.2.2 hb⟩)
        have HP : Hid (∀ v : World, (v.cell? ⟨w4.heap.size, 0, none⟩ = some (.int .i64 sn) ∧ v.cell? ⟨w4.heap.size, 1, none⟩ = some (.slice aoX_ss ss.length ss.length) ∧ v.cell? ⟨(w.heap.size + 1), 0, none⟩ = some (.int .i64 sn) ∧ v.cell? ⟨(w.heap.size + 1), 1, none⟩ = some (.slice ao_ss ss.length c_ss) ∧ w9.heap.size ≤ v.heap.size ∧ Whole v w.heap.size 24 #[.int .i64 k, .int .u64 (a : Int), .int .u64 (b : Int)] ∧ Whole v (w.heap.size + 1) 27 #[.int .i64 sn, .slice ao_ss ss.length c_ss] ∧ Whole v gN3 29 #[.int .i64 k, .int .u64 ((rarR k a b sn fr wk ss lv).1 : Int), .int .u64 ((rarR k a b sn fr wk ss lv).2.1 : Int)] ∧ Row v w3.heap.size w4.heap.size aoX_ss (fl .f32 ss) ∧ Whole v w4.heap.size 34 #[.int .i64 sn, .slice aoX_ss ss.length ss.length] ∧ Row v w5.heap.size w6.heap.size aoX_lv (il lv) ∧ Whole v gN7 29 #[.int .i64 k, .int .u64 ((rarR k a b sn fr wk ss lv).1 : Int), .int .u64 ((rarR k a b sn fr wk ss lv).2.1 : Int)] ∧ Below w.heap.size w v) → (Whole v w.heap.size 24 #[.int .i64 k, .int .u64 (a : Int), .int .u64 (b : Int)] ∧ Whole v (w.heap.size + 1) 27 #[.int .i64 sn, .slice ao_ss ss.length c_ss] ∧ Whole v gN3 29 #[.int .i64 k, .int .u64 ((rarR k a b sn fr wk ss lv).1 : Int), .int .u64 ((rarR k a b sn fr wk ss lv).2.1 : Int)] ∧ Row v w3.heap.size w4.heap.size aoX_ss (fl .f32 ss) ∧ Whole v w4.heap.size 34 #[.int .i64 sn, .slice aoX_ss ss.length ss.length] ∧ Row v w5.heap.size w6.heap.size aoX_lv (il lv) ∧ Whole v gN7 29 #[.int .i64 k, .int .u64 ((rarR k a b sn fr wk ss lv).1 : Int), .int .u64 ((rarR k a b sn fr wk ss lv).2.1 : Int)] ∧ Below w.heap.size w v)) := Lib.hid (fun v h => h.2.2.2.2.2)
        have hR : w9.cell? ⟨w4.heap.size, 0, none⟩ = some (.int .i64 sn) ∧ w9.cell? ⟨w4.heap.size, 1, none⟩ = some (.slice aoX_ss ss.length ss.length) ∧ w9.cell? ⟨(w.heap.size + 1), 0, none⟩ = some (.int .i64 sn) ∧ w9.cell? ⟨(w.heap.size + 1), 1, none⟩ = some (.slice ao_ss ss.length c_ss) ∧ w9.heap.size ≤ w9.heap.size ∧ Whole w9 w.heap.size 24 #[.int .i64 k, .int .u64 (a : Int), .int .u64 (b : Int)] ∧ Whole w9 (w.heap.size + 1) 27 #[.int .i64 sn, .slice ao_ss ss.length c_ss] ∧ Whole w9 gN3 29 #[.int .i64 k, .int .u64 ((rarR k a b sn fr wk ss lv).1 : Int), .int .u64 ((rarR k a b sn fr wk ss lv).2.1 : Int)] ∧ Row w9 w3.heap.size w4.heap.size aoX_ss (fl .f32 ss) ∧ Whole w9 w4.heap.size 34 #[.int .i64 sn, .slice aoX_ss ss.length ss.length] ∧ Row w9 w5.heap.size w6.heap.size aoX_lv (il lv) ∧ Whole w9 gN7 29 #[.int .i64 k, .int .u64 ((rarR k a b sn fr wk ss lv).1 : Int), .int .u64 ((rarR k a b sn fr wk ss lv).2.1 : Int)] ∧ Below w.heap.size w w9 := ⟨(HS9.out.2.2.2.2.1).cell 0, (HS9.out.2.2.2.2.1).cell 1, (HS9.out.2.1).cell 0, (HS9.out.2.1).cell 1, Nat.le_refl _, HS9.out.1, HS9.out.2.1, HS9.out.2.2.1, HS9.out.2.2.2.1, HS9.out.2.2.2.2.1, HS9.out.2.2.2.2.2.1, HS9.out.2.2.2.2.2.2.1, HS9.out.2.2.2.2.2.2.2⟩
        go_region_held3 (fun v => v.cell? ⟨w4.heap.size, 0, none⟩ = some (.int .i64 sn) ∧ v.cell? ⟨w4.heap.size, 1, none⟩ = some (.slice aoX_ss ss.length ss.length) ∧ v.cell? ⟨(w.heap.size + 1), 0, none⟩ = some (.int .i64 sn) ∧ v.cell? ⟨(w.heap.size + 1), 1, none⟩ = some (.slice ao_ss ss.length c_ss) ∧ w9.heap.size ≤ v.heap.size ∧ Whole v w.heap.size 24 #[.int .i64 k, .int .u64 (a : Int), .int .u64 (b : Int)] ∧ Whole v (w.heap.size + 1) 27 #[.int .i64 sn, .slice ao_ss ss.length c_ss] ∧ Whole v gN3 29 #[.int .i64 k, .int .u64 ((rarR k a b sn fr wk ss lv).1 : Int), .int .u64 ((rarR k a b sn fr wk ss lv).2.1 : Int)] ∧ Row v w3.heap.size w4.heap.size aoX_ss (fl .f32 ss) ∧ Whole v w4.heap.size 34 #[.int .i64 sn, .slice aoX_ss ss.length ss.length] ∧ Row v w5.heap.size w6.heap.size aoX_lv (il lv) ∧ Whole v gN7 29 #[.int .i64 k, .int .u64 ((rarR k a b sn fr wk ss lv).1 : Int), .int .u64 ((rarR k a b sn fr wk ss lv).2.1 : Int)] ∧ Below w.heap.size w v)
          (first | assumption | exact HK.out _ _ (by assumption) (by assumption) | exact HK.out _ _ (by assumption) ((Below.refl _ _).drew) | (refine HK.out _ _ (by assumption) ?_; (repeat (first | with_reducible exact Below.refl _ _ | with_reducible refine Below.drew ?_ | with_reducible refine Bel_drewN ?_ _ | with_reducible refine Below.alloc ?_ (by first | omega | (simp; done) | (simp; omega)) _ | with_reducible refine Below.setCell ?_ (by first | omega | (simp; done) | (simp; omega)) _)); done))
          (first | (go_at_call 18; refine (toChain_any sn ss _ _ _ (Holds.below HX_ss.out (HP.out _ (by assumption)).2.2.2.2.2.2.2) hn_ss).mono ?_; rintro e wt ⟨aoY_ss, rfl, rowY_ss, hbt⟩) | (go_at_call 22; refine (eqChain_same sn ss _ rfl _ _ _ _ _ ((HP.out _ (by assumption)).2.2.2.1.holds) (by exact rowY_ss.holds) hn_ss).mono ?_; rintro e w10 ⟨rfl, hb⟩))
        have hN := (HK.out _ _ (HK.out _ _ hR (by first | exact hbt | exact Bel_next (Below.refl _ _).drew hbt | (refine Bel_next ?_ hbt; (repeat (first | with_reducible exact Below.refl _ _ | with_reducible refine Below.drew ?_ | with_reducible refine Bel_drewN ?_ _ | with_reducible refine Below.alloc ?_ (by first | omega | (simp; done) | (simp; omega)) _ | with_reducible refine Below.setCell ?_ (by first | omega | (simp; done) | (simp; omega)) _)); done))) (by first | exact hb | exact Bel_next (Below.refl _ _).drew hb | (refine Bel_next ?_ hb; (repeat (first | with_reducible exact Below.refl _ _ | with_reducible refine Below.drew ?_ | with_reducible refine Bel_drewN ?_ _ | with_reducible refine Below.alloc ?_ (by first | omega | (simp; done) | (simp; omega)) _ | with_reducible refine Below.setCell ?_ (by first | omega | (simp; done) | (simp; omega)) _)); done)))
        have z10 : w9.heap.size ≤ w10.heap.size := hN.2.2.2.2.1
        have HS10 : Hid (Whole w10 w.heap.size 24 #[.int .i64 k, .int .u64 (a : Int), .int .u64 (b : Int)] ∧ Whole w10 (w.heap.size + 1) 27 #[.int .i64 sn, .slice ao_ss ss.length c_ss] ∧ Whole w10 gN3 29 #[.int .i64 k, .int .u64 ((rarR k a b sn fr wk ss lv).1 : Int), .int .u64 ((rarR k a b sn fr wk ss lv).2.1 : Int)] ∧ Row w10 w3.heap.size w4.heap.size aoX_ss (fl .f32 ss) ∧ Whole w10 w4.heap.size 34 #[.int .i64 sn, .slice aoX_ss ss.length ss.length] ∧ Row w10 w5.heap.size w6.heap.size aoX_lv (il lv) ∧ Whole w10 gN7 29 #[.int .i64 k, .int .u64 ((rarR k a b sn fr wk ss lv).1 : Int), .int .u64 ((rarR k a b sn fr wk ss lv).2.1 : Int)] ∧ Below w.heap.size w w10) := Lib.hid ⟨hN.2.2.2.2.2.1, hN.2.2.2.2.2.2.1, hN.2.2.2.2.2.2.2.1, hN.2.2.2.2.2.2.2.2.1, hN.2.2.2.2.2.2.2.2.2.1, hN.2.2.2.2.2.2.2.2.2.2.1, hN.2.2.2.2.2.2.2.2.2.2.2.1, hN.2.2.2.2.2.2.2.2.2.2.2.2⟩
        clear HS9 hN hR HK HP hb hbt
        clear rowY_ss
        have hc0 := (HS10.out.1).facts.1
        have hf0 := (HS10.out.1).facts.2
        have hz0 := (HS10.out.1).lt
        have hc1 := (HS10.out.2.1).facts.1
        have hf1 := (HS10.out.2.1).facts.2
        have hz1 := (HS10.out.2.1).lt
        have hc2 := (HS10.out.2.2.1).facts.1
        have hf2 := (HS10.out.2.2.1).facts.2
        have hz2 := (HS10.out.2.2.1).lt
        have hc4 := (HS10.out.2.2.2.2.1).facts.1
        have hf4 := (HS10.out.2.2.2.2.1).facts.2
        have hz4 := (HS10.out.2.2.2.2.1).lt
        have hc6 := (HS10.out.2.2.2.2.2.2.1).facts.1
        have hf6 := (HS10.out.2.2.2.2.2.2.1).facts.2
        have hz6 := (HS10.out.2.2.2.2.2.2.1).lt
        go_wp2_with fail
        clear hc0 hf0 hz0
        clear hc1 hf1 hz1
        clear hc2 hf2 hz2
        clear hc4 hf4 hz4
        clear hc6 hf6 hz6
        refine (toInt64S_any lv _ _ _ (Holds.below HX_lv.out HS10.out.2.2.2.2.2.2.2) hn_lv).mono ?_
        rintro e w11 ⟨aoY_lv, rfl, rowY_lv, hb⟩
        have z11 : w10.heap.size ≤ w11.heap.size := hb.size
        have HS11 : Hid (Whole w11 w.heap.size 24 #[.int .i64 k, .int .u64 (a : Int), .int .u64 (b : Int)] ∧ Whole w11 (w.heap.size + 1) 27 #[.int .i64 sn, .slice ao_ss ss.length c_ss] ∧ Whole w11 gN3 29 #[.int .i64 k, .int .u64 ((rarR k a b sn fr wk ss lv).1 : Int), .int .u64 ((rarR k a b sn fr wk ss lv).2.1 : Int)] ∧ Row w11 w3.heap.size w4.heap.size aoX_ss (fl .f32 ss) ∧ Whole w11 w4.heap.size 34 #[.int .i64 sn, .slice aoX_ss ss.length ss.length] ∧ Row w11 w5.heap.size w6.heap.size aoX_lv (il lv) ∧ Whole w11 gN7 29 #[.int .i64 k, .int .u64 ((rarR k a b sn fr wk ss lv).1 : Int), .int .u64 ((rarR k a b sn fr wk ss lv).2.1 : Int)] ∧ Row w11 w10.heap.size w11.heap.size aoY_lv (il lv) ∧ Below w.heap.size w w11) := Lib.hid ⟨HS10.out.1.below hb, HS10.out.2.1.below hb, HS10.out.2.2.1.below hb, HS10.out.2.2.2.1.below hb, HS10.out.2.2.2.2.1.below hb, HS10.out.2.2.2.2.2.1.below hb, HS10.out.2.2.2.2.2.2.1.below hb, rowY_lv, Bel_next HS10.out.2.2.2.2.2.2.2 hb⟩
        clear HS10 hb rowY_lv
        have hc0 := (HS11.out.1).facts.1
        have hf0 := (HS11.out.1).facts.2
        have hz0 := (HS11.out.1).lt
        have hc1 := (HS11.out.2.1).facts.1
        have hf1 := (HS11.out.2.1).facts.2
        have hz1 := (HS11.out.2.1).lt
        have hc2 := (HS11.out.2.2.1).facts.1
        have hf2 := (HS11.out.2.2.1).facts.2
        have hz2 := (HS11.out.2.2.1).lt
        have hc4 := (HS11.out.2.2.2.2.1).facts.1
        have hf4 := (HS11.out.2.2.2.2.1).facts.2
        have hz4 := (HS11.out.2.2.2.2.1).lt
        have hc6 := (HS11.out.2.2.2.2.2.2.1).facts.1
        have hf6 := (HS11.out.2.2.2.2.2.2.1).facts.2
        have hz6 := (HS11.out.2.2.2.2.2.2.1).lt
        go_wp2_with fail
        clear hc0 hf0 hz0
        clear hc1 hf1 hz1
        clear hc2 hf2 hz2
        clear hc4 hf4 hz4
        clear hc6 hf6 hz6
        refine (eqInt64S_same lv _ rfl _ _ _ _ _ HS11.out.2.2.2.2.2.1.holds HS11.out.2.2.2.2.2.2.2.1.holds (by omega)).mono ?_
        rintro e w12 ⟨rfl, hb⟩
        have z12 : w11.heap.size ≤ w12.heap.size := hb.size
        have HS12 : Hid (Whole w12 w.heap.size 24 #[.int .i64 k, .int .u64 (a : Int), .int .u64 (b : Int)] ∧ Whole w12 (w.heap.size + 1) 27 #[.int .i64 sn, .slice ao_ss ss.length c_ss] ∧ Whole w12 gN3 29 #[.int .i64 k, .int .u64 ((rarR k a b sn fr wk ss lv).1 : Int), .int .u64 ((rarR k a b sn fr wk ss lv).2.1 : Int)] ∧ Row w12 w3.heap.size w4.heap.size aoX_ss (fl .f32 ss) ∧ Whole w12 w4.heap.size 34 #[.int .i64 sn, .slice aoX_ss ss.length ss.length] ∧ Row w12 w5.heap.size w6.heap.size aoX_lv (il lv) ∧ Whole w12 gN7 29 #[.int .i64 k, .int .u64 ((rarR k a b sn fr wk ss lv).1 : Int), .int .u64 ((rarR k a b sn fr wk ss lv).2.1 : Int)] ∧ Row w12 w10.heap.size w11.heap.size aoY_lv (il lv) ∧ Below w.heap.size w w12) := Lib.hid ⟨HS11.out.1.below hb, HS11.out.2.1.below hb, HS11.out.2.2.1.below hb, HS11.out.2.2.2.1.below hb, HS11.out.2.2.2.2.1.below hb, HS11.out.2.2.2.2.2.1.below hb, HS11.out.2.2.2.2.2.2.1.below hb, HS11.out.2.2.2.2.2.2.2.1.below hb, Bel_next HS11.out.2.2.2.2.2.2.2.2 hb⟩
        clear HS11 hb
        have HSn : Hid (Whole w12 w.heap.size 24 #[.int .i64 k, .int .u64 (a : Int), .int .u64 (b : Int)] ∧ Whole w12 (w.heap.size + 1) 27 #[.int .i64 sn, .slice ao_ss ss.length c_ss] ∧ Whole w12 gN3 29 #[.int .i64 k, .int .u64 ((rarR k a b sn fr wk ss lv).1 : Int), .int .u64 ((rarR k a b sn fr wk ss lv).2.1 : Int)] ∧ Row w12 w3.heap.size w4.heap.size aoX_ss (fl .f32 ss) ∧ Whole w12 w4.heap.size 34 #[.int .i64 sn, .slice aoX_ss ss.length ss.length] ∧ Row w12 w5.heap.size w6.heap.size aoX_lv (il lv) ∧ Whole w12 gN7 29 #[.int .i64 k, .int .u64 ((rarR k a b sn fr wk ss lv).1 : Int), .int .u64 ((rarR k a b sn fr wk ss lv).2.1 : Int)] ∧ Below w.heap.size w w12) := Lib.hid ⟨HS12.out.1, HS12.out.2.1, HS12.out.2.2.1, HS12.out.2.2.2.1, HS12.out.2.2.2.2.1, HS12.out.2.2.2.2.2.1, HS12.out.2.2.2.2.2.2.1, HS12.out.2.2.2.2.2.2.2.2⟩
        clear HS12
        have HS12 := HSn
        clear HSn
        have hc0 := (HS12.out.1).facts.1
        have hf0 := (HS12.out.1).facts.2
        have hz0 := (HS12.out.1).lt
        have hc1 := (HS12.out.2.1).facts.1
        have hf1 := (HS12.out.2.1).facts.2
        have hz1 := (HS12.out.2.1).lt
        have hc2 := (HS12.out.2.2.1).facts.1
        have hf2 := (HS12.out.2.2.1).facts.2
        have hz2 := (HS12.out.2.2.1).lt
        have hc4 := (HS12.out.2.2.2.2.1).facts.1
        have hf4 := (HS12.out.2.2.2.2.1).facts.2
        have hz4 := (HS12.out.2.2.2.2.1).lt
        have hc6 := (HS12.out.2.2.2.2.2.2.1).facts.1
        have hf6 := (HS12.out.2.2.2.2.2.2.1).facts.2
        have hz6 := (HS12.out.2.2.2.2.2.2.1).lt
        go_wp2_with fail
        clear hc0 hf0 hz0
        clear hc1 hf1 hz1
        clear hc2 hf2 hz2
        clear hc4 hf4 hz4
        clear hc6 hf6 hz6
        go_ret
        exact ⟨rfl, Bel_next HS12.out.2.2.2.2.2.2.2 (by repeat (first | with_reducible exact Below.refl _ _ | with_reducible refine Below.drew ?_ | with_reducible refine Bel_drewN ?_ _ | with_reducible refine Below.alloc ?_ (by first | omega | (simp; done) | (simp; omega)) _ | with_reducible refine Below.setCell ?_ (by first | omega | (simp; done) | (simp; omega)) _))⟩
  have HV := Lib.hid hv0
  clear hv0
  go_enter Try.func6, Try.ntmps6
  have HS0 : Hid (Below w.heap.size w w) := Lib.hid (Below.refl _ _)
  go_wp2_with fail
  generalize hW : World.alloc (World.alloc w _) _ = w1
  have hb : Below w.heap.size w w1 := by rw [← hW]; exact (by repeat (first | with_reducible exact Below.refl _ _ | with_reducible refine Below.drew ?_ | with_reducible refine Bel_drewN ?_ _ | with_reducible refine Below.alloc ?_ (by first | omega | (simp; done) | (simp; omega)) _ | with_reducible refine Below.setCell ?_ (by first | omega | (simp; done) | (simp; omega)) _))
  have z1 : w.heap.size + 2 ≤ w1.heap.size := by rw [← hW]; simp
  have HS1 : Hid (Whole w1 w.heap.size 24 #[.int .i64 k, .int .u64 (a : Int), .int .u64 (b : Int)] ∧ Whole w1 (w.heap.size + 1) 27 #[.int .i64 sn, .slice ao_ss ss.length c_ss] ∧ Below w.heap.size w w1) := Lib.hid ⟨by rw [← hW]; exact (Whole.made _ _ _).alloc _, by rw [← hW]; exact Whole.made2 _ _ _ _, Bel_next HS0.out hb⟩
  clear HS0 hW hb
  refine (szChain_yes sn ss _ _ (1048576) _ HL0.out (by omega)).mono ?_
  rintro e w2 ⟨rfl, hb⟩
  have z2 : w1.heap.size ≤ w2.heap.size := hb.size
  have HS2 : Hid (Whole w2 w.heap.size 24 #[.int .i64 k, .int .u64 (a : Int), .int .u64 (b : Int)] ∧ Whole w2 (w.heap.size + 1) 27 #[.int .i64 sn, .slice ao_ss ss.length c_ss] ∧ Below w.heap.size w w2) := Lib.hid ⟨HS1.out.1.below hb, HS1.out.2.1.below hb, Bel_next HS1.out.2.2 hb⟩
  clear HS1 hb
  have hc0 := (HS2.out.1).facts.1
  have hf0 := (HS2.out.1).facts.2
  have hz0 := (HS2.out.1).lt
  have hc1 := (HS2.out.2.1).facts.1
  have hf1 := (HS2.out.2.1).facts.2
  have hz1 := (HS2.out.2.1).lt
  go_wp2_with fail
  clear hc0 hf0 hz0
  clear hc1 hf1 hz1
  have HK : Hid (∀ v v' : World, (v.cell? ⟨w.heap.size, 0, none⟩ = some (.int .i64 k) ∧ v.cell? ⟨w.heap.size, 1, none⟩ = some (.int .u64 (a : Int)) ∧ v.cell? ⟨w.heap.size, 2, none⟩ = some (.int .u64 (b : Int)) ∧ v.cell? ⟨(w.heap.size + 1), 0, none⟩ = some (.int .i64 sn) ∧ v.cell? ⟨(w.heap.size + 1), 1, none⟩ = some (.slice ao_ss ss.length c_ss) ∧ w2.heap.size ≤ v.heap.size ∧ Whole v w.heap.size 24 #[.int .i64 k, .int .u64 (a : Int), .int .u64 (b : Int)] ∧ Whole v (w.heap.size + 1) 27 #[.int .i64 sn, .slice ao_ss ss.length c_ss] ∧ Below w.heap.size w v) → Below v.heap.size v v' → (v'.cell? ⟨w.heap.size, 0, none⟩ = some (.int .i64 k) ∧ v'.cell? ⟨w.heap.size, 1, none⟩ = some (.int .u64 (a : Int)) ∧ v'.cell? ⟨w.heap.size, 2, none⟩ = some (.int .u64 (b : Int)) ∧ v'.cell? ⟨(w.heap.size + 1), 0, none⟩ = some (.int .i64 sn) ∧ v'.cell? ⟨(w.heap.size + 1), 1, none⟩ = some (.slice ao_ss ss.length c_ss) ∧ w2.heap.size ≤ v'.heap.size ∧ Whole v' w.heap.size 24 #[.int .i64 k, .int .u64 (a : Int), .int .u64 (b : Int)] ∧ Whole v' (w.heap.size + 1) 27 #[.int .i64 sn, .slice ao_ss ss.length c_ss] ∧ Below w.heap.size w v')) := Lib.hid (fun v v' h hb => ⟨(by rw [Below.cell hb (World.block_lt_of_cell? _ _ h.1)]; exact h.1), (by rw [Below.cell hb (World.block_lt_of_cell? _ _ h.2.1)]; exact h.2.1), (by rw [Below.cell hb (World.block_lt_of_cell? _ _ h.2.2.1)]; exact h.2.2.1), (by rw [Below.cell hb (World.block_lt_of_cell? _ _ h.2.2.2.1)]; exact h.2.2.2.1), (by rw [Below.cell hb (World.block_lt_of_cell? _ _ h.2.2.2.2.1)]; exact h.2.2.2.2.1), Nat.le_trans h.2.2.2.2.2.1 hb.size, h.2.2.2.2.2.2.1.below hb, h.2.2.2.2.2.2.2.1.below hb, Bel_next h.2.2.2.2.2.2.2.2 hb⟩)
  have HP : Hid (∀ v : World, (v.cell? ⟨w.heap.size, 0, none⟩ = some (.int .i64 k) ∧ v.cell? ⟨w.heap.size, 1, none⟩ = some (.int .u64 (a : Int)) ∧ v.cell? ⟨w.heap.size, 2, none⟩ = some (.int .u64 (b : Int)) ∧ v.cell? ⟨(w.heap.size + 1), 0, none⟩ = some (.int .i64 sn) ∧ v.cell? ⟨(w.heap.size + 1), 1, none⟩ = some (.slice ao_ss ss.length c_ss) ∧ w2.heap.size ≤ v.heap.size ∧ Whole v w.heap.size 24 #[.int .i64 k, .int .u64 (a : Int), .int .u64 (b : Int)] ∧ Whole v (w.heap.size + 1) 27 #[.int .i64 sn, .slice ao_ss ss.length c_ss] ∧ Below w.heap.size w v) → (Whole v w.heap.size 24 #[.int .i64 k, .int .u64 (a : Int), .int .u64 (b : Int)] ∧ Whole v (w.heap.size + 1) 27 #[.int .i64 sn, .slice ao_ss ss.length c_ss] ∧ Below w.heap.size w v)) := Lib.hid (fun v h => h.2.2.2.2.2.2)
  have hR : w2.cell? ⟨w.heap.size, 0, none⟩ = some (.int .i64 k) ∧ w2.cell? ⟨w.heap.size, 1, none⟩ = some (.int .u64 (a : Int)) ∧ w2.cell? ⟨w.heap.size, 2, none⟩ = some (.int .u64 (b : Int)) ∧ w2.cell? ⟨(w.heap.size + 1), 0, none⟩ = some (.int .i64 sn) ∧ w2.cell? ⟨(w.heap.size + 1), 1, none⟩ = some (.slice ao_ss ss.length c_ss) ∧ w2.heap.size ≤ w2.heap.size ∧ Whole w2 w.heap.size 24 #[.int .i64 k, .int .u64 (a : Int), .int .u64 (b : Int)] ∧ Whole w2 (w.heap.size + 1) 27 #[.int .i64 sn, .slice ao_ss ss.length c_ss] ∧ Below w.heap.size w w2 := ⟨(HS2.out.1).cell 0, (HS2.out.1).cell 1, (HS2.out.1).cell 2, (HS2.out.2.1).cell 0, (HS2.out.2.1).cell 1, Nat.le_refl _, HS2.out.1, HS2.out.2.1, HS2.out.2.2⟩
  have HK2 : Hid (∀ (v : World) (q : Addr) (u : Value), (v.cell? ⟨w.heap.size, 0, none⟩ = some (.int .i64 k) ∧ v.cell? ⟨w.heap.size, 1, none⟩ = some (.int .u64 (a : Int)) ∧ v.cell? ⟨w.heap.size, 2, none⟩ = some (.int .u64 (b : Int)) ∧ v.cell? ⟨(w.heap.size + 1), 0, none⟩ = some (.int .i64 sn) ∧ v.cell? ⟨(w.heap.size + 1), 1, none⟩ = some (.slice ao_ss ss.length c_ss) ∧ w2.heap.size ≤ v.heap.size ∧ Whole v w.heap.size 24 #[.int .i64 k, .int .u64 (a : Int), .int .u64 (b : Int)] ∧ Whole v (w.heap.size + 1) 27 #[.int .i64 sn, .slice ao_ss ss.length c_ss] ∧ Below w.heap.size w v) → w2.heap.size ≤ q.block → ((v.setCell q u).cell? ⟨w.heap.size, 0, none⟩ = some (.int .i64 k) ∧ (v.setCell q u).cell? ⟨w.heap.size, 1, none⟩ = some (.int .u64 (a : Int)) ∧ (v.setCell q u).cell? ⟨w.heap.size, 2, none⟩ = some (.int .u64 (b : Int)) ∧ (v.setCell q u).cell? ⟨(w.heap.size + 1), 0, none⟩ = some (.int .i64 sn) ∧ (v.setCell q u).cell? ⟨(w.heap.size + 1), 1, none⟩ = some (.slice ao_ss ss.length c_ss) ∧ w2.heap.size ≤ (v.setCell q u).heap.size ∧ Whole (v.setCell q u) w.heap.size 24 #[.int .i64 k, .int .u64 (a : Int), .int .u64 (b : Int)] ∧ Whole (v.setCell q u) (w.heap.size + 1) 27 #[.int .i64 sn, .slice ao_ss ss.length c_ss] ∧ Below w.heap.size w (v.setCell q u))) := Lib.hid (fun v q u h hq => ⟨((World.cell?_of_block (a := ⟨w.heap.size, 0, none⟩) (Below.heap_setCell v q u _ (by show ¬ _ = _; simp only []; omega))).trans h.1), ((World.cell?_of_block (a := ⟨w.heap.size, 1, none⟩) (Below.heap_setCell v q u _ (by show ¬ _ = _; simp only []; omega))).trans h.2.1), ((World.cell?_of_block (a := ⟨w.heap.size, 2, none⟩) (Below.heap_setCell v q u _ (by show ¬ _ = _; simp only []; omega))).trans h.2.2.1), ((World.cell?_of_block (a := ⟨(w.heap.size + 1), 0, none⟩) (Below.heap_setCell v q u _ (by show ¬ _ = _; simp only []; omega))).trans h.2.2.2.1), ((World.cell?_of_block (a := ⟨(w.heap.size + 1), 1, none⟩) (Below.heap_setCell v q u _ (by show ¬ _ = _; simp only []; omega))).trans h.2.2.2.2.1), (by simpa using h.2.2.2.2.2.1), h.2.2.2.2.2.2.1.far (by omega) _, h.2.2.2.2.2.2.2.1.far (by omega) _, Below.setCell h.2.2.2.2.2.2.2.2 (by omega) _⟩)
  go_cut [12, 13, 14] from 20 (fun s0 s1 s2 wx => ∃ (gN : Nat) (rrs : Nat), s0 = .pointer (some ⟨gN, 0, none⟩) ∧ s1 = .float .f32 rrs ∧ s2 = .bool false ∧ w2.heap.size ≤ gN ∧ Whole wx gN 29 #[.int .i64 0, .int .u64 (0 : Int), .int .u64 (0 : Int)] ∧ Fv .f32 (av .f32 0) rrs ∧ Whole wx w.heap.size 24 #[.int .i64 k, .int .u64 (a : Int), .int .u64 (b : Int)] ∧ Whole wx (w.heap.size + 1) 27 #[.int .i64 sn, .slice ao_ss ss.length c_ss] ∧ Below w.heap.size w wx)
  case first =>
    go_region_held3 (fun v => v.cell? ⟨w.heap.size, 0, none⟩ = some (.int .i64 k) ∧ v.cell? ⟨w.heap.size, 1, none⟩ = some (.int .u64 (a : Int)) ∧ v.cell? ⟨w.heap.size, 2, none⟩ = some (.int .u64 (b : Int)) ∧ v.cell? ⟨(w.heap.size + 1), 0, none⟩ = some (.int .i64 sn) ∧ v.cell? ⟨(w.heap.size + 1), 1, none⟩ = some (.slice ao_ss ss.length c_ss) ∧ w2.heap.size ≤ v.heap.size ∧ Whole v w.heap.size 24 #[.int .i64 k, .int .u64 (a : Int), .int .u64 (b : Int)] ∧ Whole v (w.heap.size + 1) 27 #[.int .i64 sn, .slice ao_ss ss.length c_ss] ∧ Below w.heap.size w v)
      (first | with_reducible assumption | with_reducible exact HSv3.out | with_reducible exact HSv2.out | with_reducible exact HSv1.out | with_reducible exact HSv0.out | ((with_reducible refine HK.out _ _ HSv3.out ?_); (repeat (first | with_reducible exact Below.refl _ _ | with_reducible refine Below.drew ?_ | with_reducible refine Bel_drewN ?_ _ | with_reducible refine Below.alloc ?_ (by first | omega | (simp; done) | (simp; omega)) _ | with_reducible refine Below.setCell ?_ (by first | omega | (simp; done) | (simp; omega)) _)); done) | ((with_reducible refine HK.out _ _ HSv2.out ?_); (repeat (first | with_reducible exact Below.refl _ _ | with_reducible refine Below.drew ?_ | with_reducible refine Bel_drewN ?_ _ | with_reducible refine Below.alloc ?_ (by first | omega | (simp; done) | (simp; omega)) _ | with_reducible refine Below.setCell ?_ (by first | omega | (simp; done) | (simp; omega)) _)); done) | ((with_reducible refine HK.out _ _ HSv1.out ?_); (repeat (first | with_reducible exact Below.refl _ _ | with_reducible refine Below.drew ?_ | with_reducible refine Bel_drewN ?_ _ | with_reducible refine Below.alloc ?_ (by first | omega | (simp; done) | (simp; omega)) _ | with_reducible refine Below.setCell ?_ (by first | omega | (simp; done) | (simp; omega)) _)); done) | ((with_reducible refine HK.out _ _ HSv0.out ?_); (repeat (first | with_reducible exact Below.refl _ _ | with_reducible refine Below.drew ?_ | with_reducible refine Bel_drewN ?_ _ | with_reducible refine Below.alloc ?_ (by first | omega | (simp; done) | (simp; omega)) _ | with_reducible refine Below.setCell ?_ (by first | omega | (simp; done) | (simp; omega)) _)); done) | ((with_reducible refine HK.out w2 _ hR ?_); (repeat (first | with_reducible exact Below.refl _ _ | with_reducible refine Below.drew ?_ | with_reducible refine Bel_drewN ?_ _ | with_reducible refine Below.alloc ?_ (by first | omega | (simp; done) | (simp; omega)) _ | with_reducible refine Below.setCell ?_ (by first | omega | (simp; done) | (simp; omega)) _)); done) | ((with_reducible refine HK2.out _ _ _ HSv3.out ?_) <;> (first | omega | (simp; done) | (simp; omega))) | ((with_reducible refine HK2.out _ _ _ (HK2.out _ _ _ HSv3.out ?_) ?_) <;> (first | omega | (simp; done) | (simp; omega))) | ((with_reducible refine HK2.out _ _ _ (HK2.out _ _ _ (HK2.out _ _ _ HSv3.out ?_) ?_) ?_) <;> (first | omega | (simp; done) | (simp; omega))) | exact HK.out _ _ (by with_reducible assumption) (by with_reducible assumption))
      (first | (go_at_call 17; refine (toSeed_ret k a b _).mono ?_; rintro e wt0 ⟨rfl, hbt0⟩; have zz0 := hbt0.size; (try simp at zz0); have HSv0 := Lib.hid (HK.out _ _ (by with_reducible assumption) hbt0); obtain ⟨kc0, kf0⟩ := cells_kept hbt0; (try have zt0_0 : w2.heap.size < wt0.heap.size := by omega)) | (go_at_call 18; refine (toChain_any sn ss _ _ _ (Holds.below HX_ss.out (HP.out _ (by assumption)).2.2) hn_ss).mono ?_; rintro e wt1 ⟨aosd_ss, rfl, rowsd_ss, hbt1⟩; have zz1 := hbt1.size; (try simp at zz1); have HSv1 := Lib.hid (HK.out _ _ (by with_reducible assumption) hbt1); obtain ⟨kc1, kf1⟩ := cells_kept hbt1; (try have zt1_0 : w2.heap.size < wt1.heap.size := by omega); (try have zt1_1 : wt0.heap.size < wt1.heap.size := by omega)) | (go_at_call 31; refine (toInt64S_any lv _ _ _ (Holds.below HX_lv.out (HP.out _ (by assumption)).2.2) hn_lv).mono ?_; rintro e wt3 ⟨aosd_lv, rfl, rowsd_lv, hbt3⟩; have zz2 := hbt3.size; (try simp at zz2); have HSv2 := Lib.hid (HK.out _ _ (by with_reducible assumption) hbt3); obtain ⟨kc2, kf2⟩ := cells_kept hbt3; (try have zt2_0 : w2.heap.size < wt3.heap.size := by omega); (try have zt2_1 : wt0.heap.size < wt3.heap.size := by omega); (try have zt2_2 : wt1.heap.size < wt3.heap.size := by omega)) | (go_at_call 30; refine (specRare_not k a b sn fr wk ss lv _ _ _ _ _ _ rfl hn_ss (by first | exact ((Row.below rowsd_ss (by first | exact hbt3 | exact Bel_next (Below.refl _ _).drew hbt3 | (refine Bel_next ?_ hbt3; (repeat (first | with_reducible exact Below.refl _ _ | with_reducible refine Below.drew ?_ | with_reducible refine Bel_drewN ?_ _ | with_reducible refine Below.alloc ?_ (by first | omega | (simp; done) | (simp; omega)) _ | with_reducible refine Below.setCell ?_ (by first | omega | (simp; done) | (simp; omega)) _)); done)))).holds | (refine (Row.below (Row.below rowsd_ss (by first | exact hbt3 | exact Bel_next (Below.refl _ _).drew hbt3 | (refine Bel_next ?_ hbt3; (repeat (first | with_reducible exact Below.refl _ _ | with_reducible refine Below.drew ?_ | with_reducible refine Bel_drewN ?_ _ | with_reducible refine Below.alloc ?_ (by first | omega | (simp; done) | (simp; omega)) _ | with_reducible refine Below.setCell ?_ (by first | omega | (simp; done) | (simp; omega)) _)); done))) ?_).holds; (repeat (first | with_reducible exact Below.refl _ _ | with_reducible refine Below.drew ?_ | with_reducible refine Bel_drewN ?_ _ | with_reducible refine Below.alloc ?_ (by first | omega | (simp; done) | (simp; omega)) _ | with_reducible refine Below.setCell ?_ (by first | omega | (simp; done) | (simp; omega)) _)); done)) (by first | exact (rowsd_lv).holds | (refine (Row.below rowsd_lv ?_).holds; (repeat (first | with_reducible exact Below.refl _ _ | with_reducible refine Below.drew ?_ | with_reducible refine Bel_drewN ?_ _ | with_reducible refine Below.alloc ?_ (by first | omega | (simp; done) | (simp; omega)) _ | with_reducible refine Below.setCell ?_ (by first | omega | (simp; done) | (simp; omega)) _)); done)) hn_lv HV.out).mono ?_; rintro e w3 ⟨rs, rfl, hrs, hb⟩; have zz3 := hb.size; (try simp at zz3); have HSv3 := Lib.hid (HK.out _ _ (by with_reducible assumption) hb); obtain ⟨kc3, kf3⟩ := cells_kept hb; (try have zt3_0 : w2.heap.size < w3.heap.size := by omega); (try have zt3_1 : wt0.heap.size < w3.heap.size := by omega); (try have zt3_2 : wt1.heap.size < w3.heap.size := by omega); (try have zt3_3 : wt3.heap.size < w3.heap.size := by omega)))
    all_goals
      go_wp2_with fail
      go_meet
      refine ⟨_, _, rfl, rfl, rfl, ?_, ?_, ?_, ?_⟩
      · first | omega | (simp; done) | (simp; omega)
      · first | exact Whole.made _ _ _ | (have hq := ((((Whole.made _ _ _).below hbt0).below hbt1).below hbt3).below hb; exact (((hq).put 0 _).put 1 _).put 2 _) | (have hq := (((((Whole.made _ _ _).drew).below hbt0).below hbt1).below hbt3).below hb; exact (((hq).put 0 _).put 1 _).put 2 _) | (have hq := (((Whole.made _ _ _).below hbt1).below hbt3).below hb; exact (((hq).put 0 _).put 1 _).put 2 _) | (have hq := ((Whole.made _ _ _).below hbt3).below hb; exact (((hq).put 0 _).put 1 _).put 2 _) | (have hq := (Whole.made _ _ _).below hb; exact (((hq).put 0 _).put 1 _).put 2 _)
      · assumption
      · first | (refine HP.out _ (HK.out _ _ HSv3.out ?_); (repeat (first | with_reducible exact Below.refl _ _ | with_reducible refine Below.drew ?_ | with_reducible refine Bel_drewN ?_ _ | with_reducible refine Below.alloc ?_ (by first | omega | (simp; done) | (simp; omega)) _ | with_reducible refine Below.setCell ?_ (by first | omega | (simp; done) | (simp; omega)) _)); done) | exact HP.out _ (HK2.out _ _ _ (HK2.out _ _ _ (HK2.out _ _ _ HSv3.out (by first | omega | (simp; done) | (simp; omega))) (by first | omega | (simp; done) | (simp; omega))) (by first | omega | (simp; done) | (simp; omega)))
  case rest =>
    obtain ⟨gN, rrs, rfl, rfl, rfl, hle, hW, hfcs, hS⟩ := hcut
    rename World => w3
    have HRs := Lib.hid hfcs
    clear hfcs
    have z3 : w2.heap.size ≤ w3.heap.size := by have := hW.lt; omega
    obtain ⟨gN3, hgN⟩ : ∃ g, g = gN := ⟨_, rfl⟩
    subst hgN
    have ygN3 : gN3 < w3.heap.size := hW.lt
    have xgN3 : w2.heap.size ≤ gN3 := hle
    have HS3 : Hid (Whole w3 w.heap.size 24 #[.int .i64 k, .int .u64 (a : Int), .int .u64 (b : Int)] ∧ Whole w3 (w.heap.size + 1) 27 #[.int .i64 sn, .slice ao_ss ss.length c_ss] ∧ Whole w3 gN3 29 #[.int .i64 0, .int .u64 (0 : Int), .int .u64 (0 : Int)] ∧ Below w.heap.size w w3) := Lib.hid ⟨hS.1, hS.2.1, hW, hS.2.2⟩
    clear HS2 HK HP HK2 hR hle hW hS
    have hc0 := (HS3.out.1).facts.1
    have hf0 := (HS3.out.1).facts.2
    have hz0 := (HS3.out.1).lt
    have hc1 := (HS3.out.2.1).facts.1
    have hf1 := (HS3.out.2.1).facts.2
    have hz1 := (HS3.out.2.1).lt
    have hc2 := (HS3.out.2.2.1).facts.1
    have hf2 := (HS3.out.2.2.1).facts.2
    have hz2 := (HS3.out.2.2.1).lt
    go_wp2_with fail
    clear hc0 hf0 hz0
    clear hc1 hf1 hz1
    clear hc2 hf2 hz2
    refine (toChain_any sn ss _ _ _ (Holds.below HX_ss.out HS3.out.2.2.2) hn_ss).mono ?_
    rintro e w4 ⟨aoX_ss, rfl, rowX_ss, hb⟩
    have z4 : w3.heap.size ≤ w4.heap.size := hb.size
    have HS4 : Hid (Whole w4 w.heap.size 24 #[.int .i64 k, .int .u64 (a : Int), .int .u64 (b : Int)] ∧ Whole w4 (w.heap.size + 1) 27 #[.int .i64 sn, .slice ao_ss ss.length c_ss] ∧ Whole w4 gN3 29 #[.int .i64 0, .int .u64 (0 : Int), .int .u64 (0 : Int)] ∧ Row w4 w3.heap.size w4.heap.size aoX_ss (fl .f32 ss) ∧ Below w.heap.size w w4) := Lib.hid ⟨HS3.out.1.below hb, HS3.out.2.1.below hb, HS3.out.2.2.1.below hb, rowX_ss, Bel_next HS3.out.2.2.2 hb⟩
    clear HS3 hb rowX_ss
    have hc0 := (HS4.out.1).facts.1
    have hf0 := (HS4.out.1).facts.2
    have hz0 := (HS4.out.1).lt
    have hc1 := (HS4.out.2.1).facts.1
    have hf1 := (HS4.out.2.1).facts.2
    have hz1 := (HS4.out.2.1).lt
    have hc2 := (HS4.out.2.2.1).facts.1
    have hf2 := (HS4.out.2.2.1).facts.2
    have hz2 := (HS4.out.2.2.1).lt
    go_wp2_with fail
    clear hc0 hf0 hz0
    clear hc1 hf1 hz1
    clear hc2 hf2 hz2
    generalize hW : World.alloc w4 _ = w5
    have hb : Below w4.heap.size w4 w5 := by rw [← hW]; exact (by repeat (first | with_reducible exact Below.refl _ _ | with_reducible refine Below.drew ?_ | with_reducible refine Bel_drewN ?_ _ | with_reducible refine Below.alloc ?_ (by first | omega | (simp; done) | (simp; omega)) _ | with_reducible refine Below.setCell ?_ (by first | omega | (simp; done) | (simp; omega)) _))
    have z5 : w4.heap.size + 1 ≤ w5.heap.size := by rw [← hW]; simp
    have HS5 : Hid (Whole w5 w.heap.size 24 #[.int .i64 k, .int .u64 (a : Int), .int .u64 (b : Int)] ∧ Whole w5 (w.heap.size + 1) 27 #[.int .i64 sn, .slice ao_ss ss.length c_ss] ∧ Whole w5 gN3 29 #[.int .i64 0, .int .u64 (0 : Int), .int .u64 (0 : Int)] ∧ Row w5 w3.heap.size w4.heap.size aoX_ss (fl .f32 ss) ∧ Whole w5 w4.heap.size 34 #[.int .i64 sn, .slice aoX_ss ss.length ss.length] ∧ Below w.heap.size w w5) := Lib.hid ⟨HS4.out.1.below hb, HS4.out.2.1.below hb, HS4.out.2.2.1.below hb, HS4.out.2.2.2.1.below hb, by rw [← hW]; exact Whole.made _ _ _, Bel_next HS4.out.2.2.2.2 hb⟩
    clear HS4 hW hb
    refine (toInt64S_any lv _ _ _ (Holds.below HX_lv.out HS5.out.2.2.2.2.2) hn_lv).mono ?_
    rintro e w6 ⟨aoX_lv, rfl, rowX_lv, hb⟩
    have z6 : w5.heap.size ≤ w6.heap.size := hb.size
    have HS6 : Hid (Whole w6 w.heap.size 24 #[.int .i64 k, .int .u64 (a : Int), .int .u64 (b : Int)] ∧ Whole w6 (w.heap.size + 1) 27 #[.int .i64 sn, .slice ao_ss ss.length c_ss] ∧ Whole w6 gN3 29 #[.int .i64 0, .int .u64 (0 : Int), .int .u64 (0 : Int)] ∧ Row w6 w3.heap.size w4.heap.size aoX_ss (fl .f32 ss) ∧ Whole w6 w4.heap.size 34 #[.int .i64 sn, .slice aoX_ss ss.length ss.length] ∧ Row w6 w5.heap.size w6.heap.size aoX_lv (il lv) ∧ Below w.heap.size w w6) := Lib.hid ⟨HS5.out.1.below hb, HS5.out.2.1.below hb, HS5.out.2.2.1.below hb, HS5.out.2.2.2.1.below hb, HS5.out.2.2.2.2.1.below hb, rowX_lv, Bel_next HS5.out.2.2.2.2.2 hb⟩
    clear HS5 hb rowX_lv
    have hc0 := (HS6.out.1).facts.1
    have hf0 := (HS6.out.1).facts.2
    have hz0 := (HS6.out.1).lt
    have hc1 := (HS6.out.2.1).facts.1
    have hf1 := (HS6.out.2.1).facts.2
    have hz1 := (HS6.out.2.1).lt
    have hc2 := (HS6.out.2.2.1).facts.1
    have hf2 := (HS6.out.2.2.1).facts.2
    have hz2 := (HS6.out.2.2.1).lt
    have hc4 := (HS6.out.2.2.2.2.1).facts.1
    have hf4 := (HS6.out.2.2.2.2.1).facts.2
    have hz4 := (HS6.out.2.2.2.2.1).lt
    go_wp2_with fail
    clear hc0 hf0 hz0
    clear hc1 hf1 hz1
    clear hc2 hf2 hz2
    clear hc4 hf4 hz4
    have HK : Hid (∀ v v' : World, (v.cell? ⟨w.heap.size, 0, none⟩ = some (.int .i64 k) ∧ v.cell? ⟨w.heap.size, 1, none⟩ = some (.int .u64 (a : Int)) ∧ v.cell? ⟨w.heap.size, 2, none⟩ = some (.int .u64 (b : Int)) ∧ v.cell? ⟨w4.heap.size, 0, none⟩ = some (.int .i64 sn) ∧ v.cell? ⟨w4.heap.size, 1, none⟩ = some (.slice aoX_ss ss.length ss.length) ∧ w6.heap.size ≤ v.heap.size ∧ Whole v w.heap.size 24 #[.int .i64 k, .int .u64 (a : Int), .int .u64 (b : Int)] ∧ Whole v (w.heap.size + 1) 27 #[.int .i64 sn, .slice ao_ss ss.length c_ss] ∧ Whole v gN3 29 #[.int .i64 0, .int .u64 (0 : Int), .int .u64 (0 : Int)] ∧ Row v w3.heap.size w4.heap.size aoX_ss (fl .f32 ss) ∧ Whole v w4.heap.size 34 #[.int .i64 sn, .slice aoX_ss ss.length ss.length] ∧ Row v w5.heap.size w6.heap.size aoX_lv (il lv) ∧ Below w.heap.size w v) → Below v.heap.size v v' → (v'.cell? ⟨w.heap.size, 0, none⟩ = some (.int .i64 k) ∧ v'.cell? ⟨w.heap.size, 1, none⟩ = some (.int .u64 (a : Int)) ∧ v'.cell? ⟨w.heap.size, 2, none⟩ = some (.int .u64 (b : Int)) ∧ v'.cell? ⟨w4.heap.size, 0, none⟩ = some (.int .i64 sn) ∧ v'.cell? ⟨w4.heap.size, 1, none⟩ = some (.slice aoX_ss ss.length ss.length) ∧ w6.heap.size ≤ v'.heap.size ∧ Whole v' w.heap.size 24 #[.int .i64 k, .int .u64 (a : Int), .int .u64 (b : Int)] ∧ Whole v' (w.heap.size + 1) 27 #[.int .i64 sn, .slice ao_ss ss.length c_ss] ∧ Whole v' gN3 29 #[.int .i64 0, .int .u64 (0 : Int), .int .u64 (0 : Int)] ∧ Row v' w3.heap.size w4.heap.size aoX_ss (fl .f32 ss) ∧ Whole v' w4.heap.size 34 #[.int .i64 sn, .slice aoX_ss ss.length ss.length] ∧ Row v' w5.heap.size w6.heap.size aoX_lv (il lv) ∧ Below w.heap.size w v')) := Lib.hid (fun v v' h hb => ⟨(by rw [Below.cell hb (World.block_lt_of_cell? _ _ h.1)]; exact h.1), (by rw [Below.cell hb (World.block_lt_of_cell? _ _ h.2.1)]; exact h.2.1), (by rw [Below.cell hb (World.block_lt_of_cell? _ _ h.2.2.1)]; exact h.2.2.1), (by rw [Below.cell hb (World.block_lt_of_cell? _ _ h.2.2.2.1)]; exact h.2.2.2.1), (by rw [Below.cell hb (World.block_lt_of_cell? _ _ h.2.2.2.2.1)]; exact h.2.2.2.2.1), Nat.le_trans h.2.2.2.2.2.1 hb.size, h.2.2.2.2.2.2.1.below hb, h.2.2.2.2.2.2.2.1.below hb, h.2.2.2.2.2.2.2.2.1.below hb, h.2.2.2.2.2.2.2.2.2.1.below hb, h.2.2.2.2.2.2.2.2.2.2.1.below hb, h.2.2.2.2.2.2.2.2.2.2.2.1.below hb, Bel_next h.2.2.2.2.2.2.2.2.2.2.2.2 hb⟩)
    have HP : Hid (∀ v : World, (v.cell? ⟨w.heap.size, 0, none⟩ = some (.int .i64 k) ∧ v.cell? ⟨w.heap.size, 1, none⟩ = some (.int .u64 (a : Int)) ∧ v.cell? ⟨w.heap.size, 2, none⟩ = some (.int .u64 (b : Int)) ∧ v.cell? ⟨w4.heap.size, 0, none⟩ = some (.int .i64 sn) ∧ v.cell? ⟨w4.heap.size, 1, none⟩ = some (.slice aoX_ss ss.length ss.length) ∧ w6.heap.size ≤ v.heap.size ∧ Whole v w.heap.size 24 #[.int .i64 k, .int .u64 (a : Int), .int .u64 (b : Int)] ∧ Whole v (w.heap.size + 1) 27 #[.int .i64 sn, .slice ao_ss ss.length c_ss] ∧ Whole v gN3 29 #[.int .i64 0, .int .u64 (0 : Int), .int .u64 (0 : Int)] ∧ Row v w3.heap.size w4.heap.size aoX_ss (fl .f32 ss) ∧ Whole v w4.heap.size 34 #[.int .i64 sn, .slice aoX_ss ss.length ss.length] ∧ Row v w5.heap.size w6.heap.size aoX_lv (il lv) ∧ Below w.heap.size w v) → (Whole v w.heap.size 24 #[.int .i64 k, .int .u64 (a : Int), .int .u64 (b : Int)] ∧ Whole v (w.heap.size + 1) 27 #[.int .i64 sn, .slice ao_ss ss.length c_ss] ∧ Whole v gN3 29 #[.int .i64 0, .int .u64 (0 : Int), .int .u64 (0 : Int)] ∧ Row v w3.heap.size w4.heap.size aoX_ss (fl .f32 ss) ∧ Whole v w4.heap.size 34 #[.int .i64 sn, .slice aoX_ss ss.length ss.length] ∧ Row v w5.heap.size w6.heap.size aoX_lv (il lv) ∧ Below w.heap.size w v)) := Lib.hid (fun v h => h.2.2.2.2.2.2)
    have hR : w6.cell? ⟨w.heap.size, 0, none⟩ = some (.int .i64 k) ∧ w6.cell? ⟨w.heap.size, 1, none⟩ = some (.int .u64 (a : Int)) ∧ w6.cell? ⟨w.heap.size, 2, none⟩ = some (.int .u64 (b : Int)) ∧ w6.cell? ⟨w4.heap.size, 0, none⟩ = some (.int .i64 sn) ∧ w6.cell? ⟨w4.heap.size, 1, none⟩ = some (.slice aoX_ss ss.length ss.length) ∧ w6.heap.size ≤ w6.heap.size ∧ Whole w6 w.heap.size 24 #[.int .i64 k, .int .u64 (a : Int), .int .u64 (b : Int)] ∧ Whole w6 (w.heap.size + 1) 27 #[.int .i64 sn, .slice ao_ss ss.length c_ss] ∧ Whole w6 gN3 29 #[.int .i64 0, .int .u64 (0 : Int), .int .u64 (0 : Int)] ∧ Row w6 w3.heap.size w4.heap.size aoX_ss (fl .f32 ss) ∧ Whole w6 w4.heap.size 34 #[.int .i64 sn, .slice aoX_ss ss.length ss.length] ∧ Row w6 w5.heap.size w6.heap.size aoX_lv (il lv) ∧ Below w.heap.size w w6 := ⟨(HS6.out.1).cell 0, (HS6.out.1).cell 1, (HS6.out.1).cell 2, (HS6.out.2.2.2.2.1).cell 0, (HS6.out.2.2.2.2.1).cell 1, Nat.le_refl _, HS6.out.1, HS6.out.2.1, HS6.out.2.2.1, HS6.out.2.2.2.1, HS6.out.2.2.2.2.1, HS6.out.2.2.2.2.2.1, HS6.out.2.2.2.2.2.2⟩
    have HK2 : Hid (∀ (v : World) (q : Addr) (u : Value), (v.cell? ⟨w.heap.size, 0, none⟩ = some (.int .i64 k) ∧ v.cell? ⟨w.heap.size, 1, none⟩ = some (.int .u64 (a : Int)) ∧ v.cell? ⟨w.heap.size, 2, none⟩ = some (.int .u64 (b : Int)) ∧ v.cell? ⟨w4.heap.size, 0, none⟩ = some (.int .i64 sn) ∧ v.cell? ⟨w4.heap.size, 1, none⟩ = some (.slice aoX_ss ss.length ss.length) ∧ w6.heap.size ≤ v.heap.size ∧ Whole v w.heap.size 24 #[.int .i64 k, .int .u64 (a : Int), .int .u64 (b : Int)] ∧ Whole v (w.heap.size + 1) 27 #[.int .i64 sn, .slice ao_ss ss.length c_ss] ∧ Whole v gN3 29 #[.int .i64 0, .int .u64 (0 : Int), .int .u64 (0 : Int)] ∧ Row v w3.heap.size w4.heap.size aoX_ss (fl .f32 ss) ∧ Whole v w4.heap.size 34 #[.int .i64 sn, .slice aoX_ss ss.length ss.length] ∧ Row v w5.heap.size w6.heap.size aoX_lv (il lv) ∧ Below w.heap.size w v) → w6.heap.size ≤ q.block → ((v.setCell q u).cell? ⟨w.heap.size, 0, none⟩ = some (.int .i64 k) ∧ (v.setCell q u).cell? ⟨w.heap.size, 1, none⟩ = some (.int .u64 (a : Int)) ∧ (v.setCell q u).cell? ⟨w.heap.size, 2, none⟩ = some (.int .u64 (b : Int)) ∧ (v.setCell q u).cell? ⟨w4.heap.size, 0, none⟩ = some (.int .i64 sn) ∧ (v.setCell q u).cell? ⟨w4.heap.size, 1, none⟩ = some (.slice aoX_ss ss.length ss.length) ∧ w6.heap.size ≤ (v.setCell q u).heap.size ∧ Whole (v.setCell q u) w.heap.size 24 #[.int .i64 k, .int .u64 (a : Int), .int .u64 (b : Int)] ∧ Whole (v.setCell q u) (w.heap.size + 1) 27 #[.int .i64 sn, .slice ao_ss ss.length c_ss] ∧ Whole (v.setCell q u) gN3 29 #[.int .i64 0, .int .u64 (0 : Int), .int .u64 (0 : Int)] ∧ Row (v.setCell q u) w3.heap.size w4.heap.size aoX_ss (fl .f32 ss) ∧ Whole (v.setCell q u) w4.heap.size 34 #[.int .i64 sn, .slice aoX_ss ss.length ss.length] ∧ Row (v.setCell q u) w5.heap.size w6.heap.size aoX_lv (il lv) ∧ Below w.heap.size w (v.setCell q u))) := Lib.hid (fun v q u h hq => ⟨((World.cell?_of_block (a := ⟨w.heap.size, 0, none⟩) (Below.heap_setCell v q u _ (by show ¬ _ = _; simp only []; omega))).trans h.1), ((World.cell?_of_block (a := ⟨w.heap.size, 1, none⟩) (Below.heap_setCell v q u _ (by show ¬ _ = _; simp only []; omega))).trans h.2.1), ((World.cell?_of_block (a := ⟨w.heap.size, 2, none⟩) (Below.heap_setCell v q u _ (by show ¬ _ = _; simp only []; omega))).trans h.2.2.1), ((World.cell?_of_block (a := ⟨w4.heap.size, 0, none⟩) (Below.heap_setCell v q u _ (by show ¬ _ = _; simp only []; omega))).trans h.2.2.2.1), ((World.cell?_of_block (a := ⟨w4.heap.size, 1, none⟩) (Below.heap_setCell v q u _ (by show ¬ _ = _; simp only []; omega))).trans h.2.2.2.2.1), (by simpa using h.2.2.2.2.2.1), h.2.2.2.2.2.2.1.far (by omega) _, h.2.2.2.2.2.2.2.1.far (by omega) _, h.2.2.2.2.2.2.2.2.1.far (by omega) _, h.2.2.2.2.2.2.2.2.2.1.far (.inr (by omega)) _, h.2.2.2.2.2.2.2.2.2.2.1.far (by omega) _, h.2.2.2.2.2.2.2.2.2.2.2.1.far (.inr (by omega)) _, Below.setCell h.2.2.2.2.2.2.2.2.2.2.2.2 (by omega) _⟩)
    go_cut [17, 18, 19] from 20 (fun s0 s1 s2 wx => ∃ (gN : Nat) (rrg : Nat), s0 = .pointer (some ⟨gN, 0, none⟩) ∧ s1 = .float .f32 rrg ∧ s2 = .bool false ∧ w6.heap.size ≤ gN ∧ Whole wx gN 29 #[.int .i64 0, .int .u64 (0 : Int), .int .u64 (0 : Int)] ∧ Fv .f32 (av .f32 0) rrg ∧ Whole wx w.heap.size 24 #[.int .i64 k, .int .u64 (a : Int), .int .u64 (b : Int)] ∧ Whole wx (w.heap.size + 1) 27 #[.int .i64 sn, .slice ao_ss ss.length c_ss] ∧ Whole wx gN3 29 #[.int .i64 0, .int .u64 (0 : Int), .int .u64 (0 : Int)] ∧ Row wx w3.heap.size w4.heap.size aoX_ss (fl .f32 ss) ∧ Whole wx w4.heap.size 34 #[.int .i64 sn, .slice aoX_ss ss.length ss.length] ∧ Row wx w5.heap.size w6.heap.size aoX_lv (il lv) ∧ Below w.heap.size w wx)
    case first =>
      go_region_held3 (fun v => v.cell? ⟨w.heap.size, 0, none⟩ = some (.int .i64 k) ∧ v.cell? ⟨w.heap.size, 1, none⟩ = some (.int .u64 (a : Int)) ∧ v.cell? ⟨w.heap.size, 2, none⟩ = some (.int .u64 (b : Int)) ∧ v.cell? ⟨w4.heap.size, 0, none⟩ = some (.int .i64 sn) ∧ v.cell? ⟨w4.heap.size, 1, none⟩ = some (.slice aoX_ss ss.length ss.length) ∧ w6.heap.size ≤ v.heap.size ∧ Whole v w.heap.size 24 #[.int .i64 k, .int .u64 (a : Int), .int .u64 (b : Int)] ∧ Whole v (w.heap.size + 1) 27 #[.int .i64 sn, .slice ao_ss ss.length c_ss] ∧ Whole v gN3 29 #[.int .i64 0, .int .u64 (0 : Int), .int .u64 (0 : Int)] ∧ Row v w3.heap.size w4.heap.size aoX_ss (fl .f32 ss) ∧ Whole v w4.heap.size 34 #[.int .i64 sn, .slice aoX_ss ss.length ss.length] ∧ Row v w5.heap.size w6.heap.size aoX_lv (il lv) ∧ Below w.heap.size w v)
        (first | with_reducible assumption | with_reducible exact HSv1.out | with_reducible exact HSv0.out | ((with_reducible refine HK.out _ _ HSv1.out ?_); (repeat (first | with_reducible exact Below.refl _ _ | with_reducible refine Below.drew ?_ | with_reducible refine Bel_drewN ?_ _ | with_reducible refine Below.alloc ?_ (by first | omega | (simp; done) | (simp; omega)) _ | with_reducible refine Below.setCell ?_ (by first | omega | (simp; done) | (simp; omega)) _)); done) | ((with_reducible refine HK.out _ _ HSv0.out ?_); (repeat (first | with_reducible exact Below.refl _ _ | with_reducible refine Below.drew ?_ | with_reducible refine Bel_drewN ?_ _ | with_reducible refine Below.alloc ?_ (by first | omega | (simp; done) | (simp; omega)) _ | with_reducible refine Below.setCell ?_ (by first | omega | (simp; done) | (simp; omega)) _)); done) | ((with_reducible refine HK.out w6 _ hR ?_); (repeat (first | with_reducible exact Below.refl _ _ | with_reducible refine Below.drew ?_ | with_reducible refine Bel_drewN ?_ _ | with_reducible refine Below.alloc ?_ (by first | omega | (simp; done) | (simp; omega)) _ | with_reducible refine Below.setCell ?_ (by first | omega | (simp; done) | (simp; omega)) _)); done) | ((with_reducible refine HK2.out _ _ _ HSv1.out ?_) <;> (first | omega | (simp; done) | (simp; omega))) | ((with_reducible refine HK2.out _ _ _ (HK2.out _ _ _ HSv1.out ?_) ?_) <;> (first | omega | (simp; done) | (simp; omega))) | ((with_reducible refine HK2.out _ _ _ (HK2.out _ _ _ (HK2.out _ _ _ HSv1.out ?_) ?_) ?_) <;> (first | omega | (simp; done) | (simp; omega))) | exact HK.out _ _ (by with_reducible assumption) (by with_reducible assumption))
        (first | (go_at_call 17; refine (toSeed_ret k a b _).mono ?_; rintro e wt0 ⟨rfl, hbt0⟩; have zz0 := hbt0.size; (try simp at zz0); have HSv0 := Lib.hid (HK.out _ _ (by with_reducible assumption) hbt0); obtain ⟨kc0, kf0⟩ := cells_kept hbt0; (try have zt0_0 : w6.heap.size < wt0.heap.size := by omega)) | (go_at_call 32; refine (implRare_not k a b sn fr wk ss lv _ _ _ _ _ _ rfl (Nat.le_refl _) hn_ss (HP.out _ (by assumption)).2.2.2.1.holds (HP.out _ (by assumption)).2.2.2.2.2.1.holds hn_lv HV.out).mono ?_; rintro e w7 ⟨rg, rfl, hrg, hb⟩; have zz1 := hb.size; (try simp at zz1); have HSv1 := Lib.hid (HK.out _ _ (by with_reducible assumption) hb); obtain ⟨kc1, kf1⟩ := cells_kept hb; (try have zt1_0 : w6.heap.size < w7.heap.size := by omega); (try have zt1_1 : wt0.heap.size < w7.heap.size := by omega)))
      all_goals
        go_wp2_with fail
        go_meet
        refine ⟨_, _, rfl, rfl, rfl, ?_, ?_, ?_, ?_⟩
        · first | omega | (simp; done) | (simp; omega)
        · first | exact Whole.made _ _ _ | (have hq := ((Whole.made _ _ _).below hbt0).below hb; exact (((hq).put 0 _).put 1 _).put 2 _) | (have hq := (((Whole.made _ _ _).drew).below hbt0).below hb; exact (((hq).put 0 _).put 1 _).put 2 _) | (have hq := (Whole.made _ _ _).below hb; exact (((hq).put 0 _).put 1 _).put 2 _)
        · assumption
        · first | (refine HP.out _ (HK.out _ _ HSv1.out ?_); (repeat (first | with_reducible exact Below.refl _ _ | with_reducible refine Below.drew ?_ | with_reducible refine Bel_drewN ?_ _ | with_reducible refine Below.alloc ?_ (by first | omega | (simp; done) | (simp; omega)) _ | with_reducible refine Below.setCell ?_ (by first | omega | (simp; done) | (simp; omega)) _)); done) | exact HP.out _ (HK2.out _ _ _ (HK2.out _ _ _ (HK2.out _ _ _ HSv1.out (by first | omega | (simp; done) | (simp; omega))) (by first | omega | (simp; done) | (simp; omega))) (by first | omega | (simp; done) | (simp; omega)))
    case rest =>
      obtain ⟨gN, rrg, rfl, rfl, rfl, hle, hW, hfcg, hS⟩ := hcut
      rename World => w7
      have HRg := Lib.hid hfcg
      clear hfcg
      have z7 : w6.heap.size ≤ w7.heap.size := by have := hW.lt; omega
      obtain ⟨gN7, hgN⟩ : ∃ g, g = gN := ⟨_, rfl⟩
      subst hgN
      have ygN7 : gN7 < w7.heap.size := hW.lt
      have xgN7 : w6.heap.size ≤ gN7 := hle
      have HS7 : Hid (Whole w7 w.heap.size 24 #[.int .i64 k, .int .u64 (a : Int), .int .u64 (b : Int)] ∧ Whole w7 (w.heap.size + 1) 27 #[.int .i64 sn, .slice ao_ss ss.length c_ss] ∧ Whole w7 gN3 29 #[.int .i64 0, .int .u64 (0 : Int), .int .u64 (0 : Int)] ∧ Row w7 w3.heap.size w4.heap.size aoX_ss (fl .f32 ss) ∧ Whole w7 w4.heap.size 34 #[.int .i64 sn, .slice aoX_ss ss.length ss.length] ∧ Row w7 w5.heap.size w6.heap.size aoX_lv (il lv) ∧ Whole w7 gN7 29 #[.int .i64 0, .int .u64 (0 : Int), .int .u64 (0 : Int)] ∧ Below w.heap.size w w7) := Lib.hid ⟨hS.1, hS.2.1, hS.2.2.1, hS.2.2.2.1, hS.2.2.2.2.1, hS.2.2.2.2.2.1, hW, hS.2.2.2.2.2.2⟩
      clear HS6 HK HP HK2 hR hle hW hS
      have hc0 := (HS7.out.1).facts.1
      have hf0 := (HS7.out.1).facts.2
      have hz0 := (HS7.out.1).lt
      have hc1 := (HS7.out.2.1).facts.1
      have hf1 := (HS7.out.2.1).facts.2
      have hz1 := (HS7.out.2.1).lt
      have hc2 := (HS7.out.2.2.1).facts.1
      have hf2 := (HS7.out.2.2.1).facts.2
      have hz2 := (HS7.out.2.2.1).lt
      have hc4 := (HS7.out.2.2.2.2.1).facts.1
      have hf4 := (HS7.out.2.2.2.2.1).facts.2
      have hz4 := (HS7.out.2.2.2.2.1).lt
      have hc6 := (HS7.out.2.2.2.2.2.2.1).facts.1
      have hf6 := (HS7.out.2.2.2.2.2.2.1).facts.2
      have hz6 := (HS7.out.2.2.2.2.2.2.1).lt
      go_wp2_with fail
      clear hc0 hf0 hz0
      clear hc1 hf1 hz1
      clear hc2 hf2 hz2
      clear hc4 hf4 hz4
      clear hc6 hf6 hz6
      refine (eqSeed_same _ _ _ _).mono ?_
      rintro e w8 ⟨rfl, hb⟩
      have z8 : w7.heap.size ≤ w8.heap.size := hb.size
      have HS8 : Hid (Whole w8 w.heap.size 24 #[.int .i64 k, .int .u64 (a : Int), .int .u64 (b : Int)] ∧ Whole w8 (w.heap.size + 1) 27 #[.int .i64 sn, .slice ao_ss ss.length c_ss] ∧ Whole w8 gN3 29 #[.int .i64 0, .int .u64 (0 : Int), .int .u64 (0 : Int)] ∧ Row w8 w3.heap.size w4.heap.size aoX_ss (fl .f32 ss) ∧ Whole w8 w4.heap.size 34 #[.int .i64 sn, .slice aoX_ss ss.length ss.length] ∧ Row w8 w5.heap.size w6.heap.size aoX_lv (il lv) ∧ Whole w8 gN7 29 #[.int .i64 0, .int .u64 (0 : Int), .int .u64 (0 : Int)] ∧ Below w.heap.size w w8) := Lib.hid ⟨HS7.out.1.below hb, HS7.out.2.1.below hb, HS7.out.2.2.1.below hb, HS7.out.2.2.2.1.below hb, HS7.out.2.2.2.2.1.below hb, HS7.out.2.2.2.2.2.1.below hb, HS7.out.2.2.2.2.2.2.1.below hb, Bel_next HS7.out.2.2.2.2.2.2.2 hb⟩
      clear HS7 hb
      have hc0 := (HS8.out.1).facts.1
      have hf0 := (HS8.out.1).facts.2
      have hz0 := (HS8.out.1).lt
      have hc1 := (HS8.out.2.1).facts.1
      have hf1 := (HS8.out.2.1).facts.2
      have hz1 := (HS8.out.2.1).lt
      have hc2 := (HS8.out.2.2.1).facts.1
      have hf2 := (HS8.out.2.2.1).facts.2
      have hz2 := (HS8.out.2.2.1).lt
      have hc4 := (HS8.out.2.2.2.2.1).facts.1
      have hf4 := (HS8.out.2.2.2.2.1).facts.2
      have hz4 := (HS8.out.2.2.2.2.1).lt
      have hc6 := (HS8.out.2.2.2.2.2.2.1).facts.1
      have hf6 := (HS8.out.2.2.2.2.2.2.1).facts.2
      have hz6 := (HS8.out.2.2.2.2.2.2.1).lt
      go_wp2_with (first | (refine wpList_widen_g _ _ _ _ rfl Try.underlying47 Try.underlying52 rfl ?_; intro r n hr) | (go_at_call 33; fail))
      clear hc0 hf0 hz0
      clear hc1 hf1 hz1
      clear hc2 hf2 hz2
      clear hc4 hf4 hz4
      clear hc6 hf6 hz6
      refine (sameFloat_any _ _ (widen (av .f32 0)) (by rw [← HRg.out.2]; assumption) (by rw [← HRs.out.2]; assumption) _).mono ?_
      rintro e w' ⟨n3, rfl, rfl⟩
      generalize hW : World.drewN _ n3 = w9
      repeat rw [World.drewN_drewN] at hW
      have z9 : w8.heap.size ≤ w9.heap.size := by rw [← hW]; exact Nat.le_refl _
      have HS9 : Hid (Whole w9 w.heap.size 24 #[.int .i64 k, .int .u64 (a : Int), .int .u64 (b : Int)] ∧ Whole w9 (w.heap.size + 1) 27 #[.int .i64 sn, .slice ao_ss ss.length c_ss] ∧ Whole w9 gN3 29 #[.int .i64 0, .int .u64 (0 : Int), .int .u64 (0 : Int)] ∧ Row w9 w3.heap.size w4.heap.size aoX_ss (fl .f32 ss) ∧ Whole w9 w4.heap.size 34 #[.int .i64 sn, .slice aoX_ss ss.length ss.length] ∧ Row w9 w5.heap.size w6.heap.size aoX_lv (il lv) ∧ Whole w9 gN7 29 #[.int .i64 0, .int .u64 (0 : Int), .int .u64 (0 : Int)] ∧ Below w.heap.size w w9) := Lib.hid ⟨by rw [← hW]; exact (HS8.out.1).drewN _, by rw [← hW]; exact (HS8.out.2.1).drewN _, by rw [← hW]; exact (HS8.out.2.2.1).drewN _, by rw [← hW]; exact (HS8.out.2.2.2.1).drewN _, by rw [← hW]; exact (HS8.out.2.2.2.2.1).drewN _, by rw [← hW]; exact (HS8.out.2.2.2.2.2.1).drewN _, by rw [← hW]; exact (HS8.out.2.2.2.2.2.2.1).drewN _, by rw [← hW]; exact Bel_drewN HS8.out.2.2.2.2.2.2.2 _⟩
      clear HS8 hW
      have hc0 := (HS9.out.1).facts.1
      have hf0 := (HS9.out.1).facts.2
      have hz0 := (HS9.out.1).lt
      have hc1 := (HS9.out.2.1).facts.1
      have hf1 := (HS9.out.2.1).facts.2
      have hz1 := (HS9.out.2.1).lt
      have hc2 := (HS9.out.2.2.1).facts.1
      have hf2 := (HS9.out.2.2.1).facts.2
      have hz2 := (HS9.out.2.2.1).lt
      have hc4 := (HS9.out.2.2.2.2.1).facts.1
      have hf4 := (HS9.out.2.2.2.2.1).facts.2
      have hz4 := (HS9.out.2.2.2.2.1).lt
      have hc6 := (HS9.out.2.2.2.2.2.2.1).facts.1
      have hf6 := (HS9.out.2.2.2.2.2.2.1).facts.2
      have hz6 := (HS9.out.2.2.2.2.2.2.1).lt
      go_wp2_with fail
      clear hc0 hf0 hz0
      clear hc1 hf1 hz1
      clear hc2 hf2 hz2
      clear hc4 hf4 hz4
      clear hc6 hf6 hz6
      have HK : Hid (∀ v v' : World, (v.cell? ⟨w4.heap.size, 0, none⟩ = some (.int .i64 sn) ∧ v.cell? ⟨w4.heap.size, 1, none⟩ = some (.slice aoX_ss ss.length ss.length) ∧ v.cell? ⟨(w.heap.size + 1), 0, none⟩ = some (.int .i64 sn) ∧ v.cell? ⟨(w.heap.size + 1), 1, none⟩ = some (.slice ao_ss ss.length c_ss) ∧ w9.heap.size ≤ v.heap.size ∧ Whole v w.heap.size 24 #[.int .i64 k, .int .u64 (a : Int), .int .u64 (b : Int)] ∧ Whole v (w.heap.size + 1) 27 #[.int .i64 sn, .slice ao_ss ss.length c_ss] ∧ Whole v gN3 29 #[.int .i64 0, .int .u64 (0 : Int), .int .u64 (0 : Int)] ∧ Row v w3.heap.size w4.heap.size aoX_ss (fl .f32 ss) ∧ Whole v w4.heap.size 34 #[.int .i64 sn, .slice aoX_ss ss.length ss.length] ∧ Row v w5.heap.size w6.heap.size aoX_lv (il lv) ∧ Whole v gN7 29 #[.int .i64 0, .int .u64 (0 : Int), .int .u64 (0 : Int)] ∧ Below w.heap.size w v) → Below v.heap.size v v' → (v'.cell? ⟨w4.heap.size, 0, none⟩ = some (.int .i64 sn) ∧ v'.cell? ⟨w4.heap.size, 1, none⟩ = some (.slice aoX_ss ss.length ss.length) ∧ v'.cell? ⟨(w.heap.size + 1), 0, none⟩ = some (.int .i64 sn) ∧ v'.cell? ⟨(w.heap.size + 1), 1, none⟩ = some (.slice ao_ss ss.length c_ss) ∧ w9.heap.size ≤ v'.heap.size ∧ Whole v' w.heap.size 24 #[.int .i64 k, .int .u64 (a : Int), .int .u64 (b : Int)] ∧ Whole v' (w.heap.size + 1) 27 #[.int .i64 sn, .slice ao_ss ss.length c_ss] ∧ Whole v' gN3 29 #[.int .i64 0, .int .u64 (0 : Int), .int .u64 (0 : Int)] ∧ Row v' w3.heap.size w4.heap.size aoX_ss (fl .f32 ss) ∧ Whole v' w4.heap.size 34 #[.int .i64 sn, .slice aoX_ss ss.length ss.length] ∧ Row v' w5.heap.size w6.heap.size aoX_lv (il lv) ∧ Whole v' gN7 29 #[.int .i64 0, .int .u64 (0 : Int), .int .u64 (0 : Int)] ∧ Below w.heap.size w v')) := Lib.hid (fun v v' h hb => ⟨(by rw [Below.cell hb (World.block_lt_of_cell? _ _ h.1)]; exact h.1), (by rw [Below.cell hb (World.block_lt_of_cell? _ _ h.2.1)]; exact h.2.1), (by rw [Below.cell hb (World.block_lt_of_cell? _ _ h.2.2.1)]; exact h.2.2.1), (by rw [Below.cell hb (World.block_lt_of_cell? _ _ h.2.2.2.1)]; exact h.2.2.2.1), Nat.le_trans h.2.2.2.2.1 hb.size, h.2.2.2.2.2.1.below hb, h.2.2.2.2.2.2.1.below hb, h.2.2.2.2.2.2.2.1.below hb, h.2.2.2.2.2.2.2.2.1.below hb, h.2.2.2.2.2.2.2.2.2.1.below hb, h.2.2.2.2.2.2.2.2.2.2.1.below hb, h.2.2.2.2.2.2.2.2.2.2.2.1.below hb, Bel_next h.2.2.2.2.2.2.2.2.2.2.2.2 hb⟩)
      have HP : Hid (∀ v : World, (v.cell? ⟨w4.heap.size, 0, none⟩ = some (.int .i64 sn) ∧ v.cell? ⟨w4.heap.size, 1, none⟩ = some (.slice aoX_ss ss.length ss.length) ∧ v.cell? ⟨(w.heap.size + 1), 0, none⟩ = some (.int .i64 sn) ∧ v.cell? ⟨(w.heap.size + 1), 1, none⟩ = some (.slice ao_ss ss.length c_ss) ∧ w9.heap.size ≤ v.heap.size ∧ Whole v w.heap.size 24 #[.int .i64 k, .int .u64 (a : Int), .int .u64 (b : Int)] ∧ Whole v (w.heap.size + 1) 27 #[.int .i64 sn, .slice ao_ss ss.length c_ss] ∧ Whole v gN3 29 #[.int .i64 0, .int .u64 (0 : Int), .int .u64 (0 : Int)] ∧ Row v w3.heap.size w4.heap.size aoX_ss (fl .f32 ss) ∧ Whole v w4.heap.size 34 #[.int .i64 sn, .slice aoX_ss ss.length ss.length] ∧ Row v w5.heap.size w6.heap.size aoX_lv (il lv) ∧ Whole v gN7 29 #[.int .i64 0, .int .u64 (0 : Int), .int .u64 (0 : Int)] ∧ Below w.heap.size w v) → (Whole v w.heap.size 24 #[.int .i64 k, .int .u64 (a : Int), .int .u64 (b : Int)] ∧ Whole v (w.heap.size + 1) 27 #[.int .i64 sn, .slice ao_ss ss.length c_ss] ∧ Whole v gN3 29 #[.int .i64 0, .int .u64 (0 : Int), .int .u64 (0 : Int)] ∧ Row v w3.heap.size w4.heap.size aoX_ss (fl .f32 ss) ∧ Whole v w4.heap.size 34 #[.int .i64 sn, .slice aoX_ss ss.length ss.length] ∧ Row v w5.heap.size w6.heap.size aoX_lv (il lv) ∧ Whole v gN7 29 #[.int .i64 0, .int .u64 (0 : Int), .int .u64 (0 : Int)] ∧ Below w.heap.size w v)) := Lib.hid (fun v h => h.2.2.2.2.2)
      have hR : w9.cell? ⟨w4.heap.size, 0, none⟩ = some (.int .i64 sn) ∧ w9.cell? ⟨w4.heap.size, 1, none⟩ = some (.slice aoX_ss ss.length ss.length) ∧ w9.cell? ⟨(w.heap.size + 1), 0, none⟩ = some (.int .i64 sn) ∧ w9.cell? ⟨(w.heap.size + 1), 1, none⟩ = some (.slice ao_ss ss.length c_ss) ∧ w9.heap.size ≤ w9.heap.size ∧ Whole w9 w.heap.size 24 #[.int .i64 k, .int .u64 (a : Int), .int .u64 (b : Int)] ∧ Whole w9 (w.heap.size + 1) 27 #[.int .i64 sn, .slice ao_ss ss.length c_ss] ∧ Whole w9 gN3 29 #[.int .i64 0, .int .u64 (0 : Int), .int .u64 (0 : Int)] ∧ Row w9 w3.heap.size w4.heap.size aoX_ss (fl .f32 ss) ∧ Whole w9 w4.heap.size 34 #[.int .i64 sn, .slice aoX_ss ss.length ss.length] ∧ Row w9 w5.heap.size w6.heap.size aoX_lv (il lv) ∧ Whole w9 gN7 29 #[.int .i64 0, .int .u64 (0 : Int), .int .u64 (0 : Int)] ∧ Below w.heap.size w w9 := ⟨(HS9.out.2.2.2.2.1).cell 0, (HS9.out.2.2.2.2.1).cell 1, (HS9.out.2.1).cell 0, (HS9.out.2.1).cell 1, Nat.le_refl _, HS9.out.1, HS9.out.2.1, HS9.out.2.2.1, HS9.out.2.2.2.1, HS9.out.2.2.2.2.1, HS9.out.2.2.2.2.2.1, HS9.out.2.2.2.2.2.2.1, HS9.out.2.2.2.2.2.2.2⟩
      go_region_held3 (fun v => v.cell? ⟨w4.heap.size, 0, none⟩ = some (.int .i64 sn) ∧ v.cell? ⟨w4.heap.size, 1, none⟩ = some (.slice aoX_ss ss.length ss.length) ∧ v.cell? ⟨(w.heap.size + 1), 0, none⟩ = some (.int .i64 sn) ∧ v.cell? ⟨(w.heap.size + 1), 1, none⟩ = some (.slice ao_ss ss.length c_ss) ∧ w9.heap.size ≤ v.heap.size ∧ Whole v w.heap.size 24 #[.int .i64 k, .int .u64 (a : Int), .int .u64 (b : Int)] ∧ Whole v (w.heap.size + 1) 27 #[.int .i64 sn, .slice ao_ss ss.length c_ss] ∧ Whole v gN3 29 #[.int .i64 0, .int .u64 (0 : Int), .int .u64 (0 : Int)] ∧ Row v w3.heap.size w4.heap.size aoX_ss (fl .f32 ss) ∧ Whole v w4.heap.size 34 #[.int .i64 sn, .slice aoX_ss ss.length ss.length] ∧ Row v w5.heap.size w6.heap.size aoX_lv (il lv) ∧ Whole v gN7 29 #[.int .i64 0, .int .u64 (0 : Int), .int .u64 (0 : Int)] ∧ Below w.heap.size w v)
        (first | assumption | exact HK.out _ _ (by assumption) (by assumption) | exact HK.out _ _ (by assumption) ((Below.refl _ _).drew) | (refine HK.out _ _ (by assumption) ?_; (repeat (first | with_reducible exact Below.refl _ _ | with_reducible refine Below.drew ?_ | with_reducible refine Bel_drewN ?_ _ | with_reducible refine Below.alloc ?_ (by first | omega | (simp; done) | (simp; omega)) _ | with_reducible refine Below.setCell ?_ (by first | omega | (simp; done) | (simp; omega)) _)); done))
        (first | (go_at_call 18; refine (toChain_any sn ss _ _ _ (Holds.below HX_ss.out (HP.out _ (by assumption)).2.2.2.2.2.2.2) hn_ss).mono ?_; rintro e wt ⟨aoY_ss, rfl, rowY_ss, hbt⟩) | (go_at_call 22; refine (eqChain_same sn ss _ rfl _ _ _ _ _ ((HP.out _ (by assumption)).2.2.2.1.holds) (by exact rowY_ss.holds) hn_ss).mono ?_; rintro e w10 ⟨rfl, hb⟩))
      have hN := (HK.out _ _ (HK.out _ _ hR (by first | exact hbt | exact Bel_next (Below.refl _ _).drew hbt | (refine Bel_next ?_ hbt; (repeat (first | with_reducible exact Below.refl _ _ | with_reducible refine Below.drew ?_ | with_reducible refine Bel_drewN ?_ _ | with_reducible refine Below.alloc ?_ (by first | omega | (simp; done) | (simp; omega)) _ | with_reducible refine Below.setCell ?_ (by first | omega | (simp; done) | (simp; omega)) _)); done))) (by first | exact hb | exact Bel_next (Below.refl _ _).drew hb | (refine Bel_next ?_ hb; (repeat (first | with_reducible exact Below.refl _ _ | with_reducible refine Below.drew ?_ | with_reducible refine Bel_drewN ?_ _ | with_reducible refine Below.alloc ?_ (by first | omega | (simp; done) | (simp; omega)) _ | with_reducible refine Below.setCell ?_ (by first | omega | (simp; done) | (simp; omega)) _)); done)))
      have z10 : w9.heap.size ≤ w10.heap.size := hN.2.2.2.2.1
      have HS10 : Hid (Whole w10 w.heap.size 24 #[.int .i64 k, .int .u64 (a : Int), .int .u64 (b : Int)] ∧ Whole w10 (w.heap.size + 1) 27 #[.int .i64 sn, .slice ao_ss ss.length c_ss] ∧ Whole w10 gN3 29 #[.int .i64 0, .int .u64 (0 : Int), .int .u64 (0 : Int)] ∧ Row w10 w3.heap.size w4.heap.size aoX_ss (fl .f32 ss) ∧ Whole w10 w4.heap.size 34 #[.int .i64 sn, .slice aoX_ss ss.length ss.length] ∧ Row w10 w5.heap.size w6.heap.size aoX_lv (il lv) ∧ Whole w10 gN7 29 #[.int .i64 0, .int .u64 (0 : Int), .int .u64 (0 : Int)] ∧ Below w.heap.size w w10) := Lib.hid ⟨hN.2.2.2.2.2.1, hN.2.2.2.2.2.2.1, hN.2.2.2.2.2.2.2.1, hN.2.2.2.2.2.2.2.2.1, hN.2.2.2.2.2.2.2.2.2.1, hN.2.2.2.2.2.2.2.2.2.2.1, hN.2.2.2.2.2.2.2.2.2.2.2.1, hN.2.2.2.2.2.2.2.2.2.2.2.2⟩
      clear HS9 hN hR HK HP hb hbt
      clear rowY_ss
      have hc0 := (HS10.out.1).facts.1
      have hf0 := (HS10.out.1).facts.2
      have hz0 := (HS10.out.1).lt
      have hc1 := (HS10.out.2.1).facts.1
      have hf1 := (HS10.out.2.1).facts.2
      have hz1 := (HS10.out.2.1).lt
      have hc2 := (HS10.out.2.2.1).facts.1
      have hf2 := (HS10.out.2.2.1).facts.2
      have hz2 := (HS10.out.2.2.1).lt
      have hc4 := (HS10.out.2.2.2.2.1).facts.1
      have hf4 := (HS10.out.2.2.2.2.1).facts.2
      have hz4 := (HS10.out.2.2.2.2.1).lt
      have hc6 := (HS10.out.2.2.2.2.2.2.1).facts.1
      have hf6 := (HS10.out.2.2.2.2.2.2.1).facts.2
      have hz6 := (HS10.out.2.2.2.2.2.2.1).lt
      go_wp2_with fail
      clear hc0 hf0 hz0
      clear hc1 hf1 hz1
      clear hc2 hf2 hz2
      clear hc4 hf4 hz4
      clear hc6 hf6 hz6
      refine (toInt64S_any lv _ _ _ (Holds.below HX_lv.out HS10.out.2.2.2.2.2.2.2) hn_lv).mono ?_
      rintro e w11 ⟨aoY_lv, rfl, rowY_lv, hb⟩
      have z11 : w10.heap.size ≤ w11.heap.size := hb.size
      have HS11 : Hid (Whole w11 w.heap.size 24 #[.int .i64 k, .int .u64 (a : Int), .int .u64 (b : Int)] ∧ Whole w11 (w.heap.size + 1) 27 #[.int .i64 sn, .slice ao_ss ss.length c_ss] ∧ Whole w11 gN3 29 #[.int .i64 0, .int .u64 (0 : Int), .int .u64 (0 : Int)] ∧ Row w11 w3.heap.size w4.heap.size aoX_ss (fl .f32 ss) ∧ Whole w11 w4.heap.size 34 #[.int .i64 sn, .slice aoX_ss ss.length ss.length] ∧ Row w11 w5.heap.size w6.heap.size aoX_lv (il lv) ∧ Whole w11 gN7 29 #[.int .i64 0, .int .u64 (0 : Int), .int .u64 (0 : Int)] ∧ Row w11 w10.heap.size w11.heap.size aoY_lv (il lv) ∧ Below w.heap.size w w11) := Lib.hid ⟨HS10.out.1.below hb, HS10.out.2.1.below hb, HS10.out.2.2.1.below hb, HS10.out.2.2.2.1.below hb, HS10.out.2.2.2.2.1.below hb, HS10.out.2.2.2.2.2.1.below hb, HS10.out.2.2.2.2.2.2.1.below hb, rowY_lv, Bel_next HS10.out.2.2.2.2.2.2.2 hb⟩
      clear HS10 hb rowY_lv
      have hc0 := (HS11.out.1).facts.1
      have hf0 := (HS11.out.1).facts.2
      have hz0 := (HS11.out.1).lt
      have hc1 := (HS11.out.2.1).facts.1
      have hf1 := (HS11.out.2.1).facts.2
      have hz1 := (HS11.out.2.1).lt
      have hc2 := (HS11.out.2.2.1).facts.1
      have hf2 := (HS11.out.2.2.1).facts.2
      have hz2 := (HS11.out.2.2.1).lt
      have hc4 := (HS11.out.2.2.2.2.1).facts.1
      have hf4 := (HS11.out.2.2.2.2.1).facts.2
      have hz4 := (HS11.out.2.2.2.2.1).lt
      have hc6 := (HS11.out.2.2.2.2.2.2.1).facts.1
      have hf6 := (HS11.out.2.2.2.2.2.2.1).facts.2
      have hz6 := (HS11.out.2.2.2.2.2.2.1).lt
      go_wp2_with fail
      clear hc0 hf0 hz0
      clear hc1 hf1 hz1
      clear hc2 hf2 hz2
      clear hc4 hf4 hz4
      clear hc6 hf6 hz6
      refine (eqInt64S_same lv _ rfl _ _ _ _ _ HS11.out.2.2.2.2.2.1.holds HS11.out.2.2.2.2.2.2.2.1.holds (by omega)).mono ?_
      rintro e w12 ⟨rfl, hb⟩
      have z12 : w11.heap.size ≤ w12.heap.size := hb.size
      have HS12 : Hid (Whole w12 w.heap.size 24 #[.int .i64 k, .int .u64 (a : Int), .int .u64 (b : Int)] ∧ Whole w12 (w.heap.size + 1) 27 #[.int .i64 sn, .slice ao_ss ss.length c_ss] ∧ Whole w12 gN3 29 #[.int .i64 0, .int .u64 (0 : Int), .int .u64 (0 : Int)] ∧ Row w12 w3.heap.size w4.heap.size aoX_ss (fl .f32 ss) ∧ Whole w12 w4.heap.size 34 #[.int .i64 sn, .slice aoX_ss ss.length ss.length] ∧ Row w12 w5.heap.size w6.heap.size aoX_lv (il lv) ∧ Whole w12 gN7 29 #[.int .i64 0, .int .u64 (0 : Int), .int .u64 (0 : Int)] ∧ Row w12 w10.heap.size w11.heap.size aoY_lv (il lv) ∧ Below w.heap.size w w12) := Lib.hid ⟨HS11.out.1.below hb, HS11.out.2.1.below hb, HS11.out.2.2.1.below hb, HS11.out.2.2.2.1.below hb, HS11.out.2.2.2.2.1.below hb, HS11.out.2.2.2.2.2.1.below hb, HS11.out.2.2.2.2.2.2.1.below hb, HS11.out.2.2.2.2.2.2.2.1.below hb, Bel_next HS11.out.2.2.2.2.2.2.2.2 hb⟩
      clear HS11 hb
      have HSn : Hid (Whole w12 w.heap.size 24 #[.int .i64 k, .int .u64 (a : Int), .int .u64 (b : Int)] ∧ Whole w12 (w.heap.size + 1) 27 #[.int .i64 sn, .slice ao_ss ss.length c_ss] ∧ Whole w12 gN3 29 #[.int .i64 0, .int .u64 (0 : Int), .int .u64 (0 : Int)] ∧ Row w12 w3.heap.size w4.heap.size aoX_ss (fl .f32 ss) ∧ Whole w12 w4.heap.size 34 #[.int .i64 sn, .slice aoX_ss ss.length ss.length] ∧ Row w12 w5.heap.size w6.heap.size aoX_lv (il lv) ∧ Whole w12 gN7 29 #[.int .i64 0, .int .u64 (0 : Int), .int .u64 (0 : Int)] ∧ Below w.heap.size w w12) := Lib.hid ⟨HS12.out.1, HS12.out.2.1, HS12.out.2.2.1, HS12.out.2.2.2.1, HS12.out.2.2.2.2.1, HS12.out.2.2.2.2.2.1, HS12.out.2.2.2.2.2.2.1, HS12.out.2.2.2.2.2.2.2.2⟩
      clear HS12
      have HS12 := HSn
      clear HSn
      have hc0 := (HS12.out.1).facts.1
      have hf0 := (HS12.out.1).facts.2
      have hz0 := (HS12.out.1).lt
      have hc1 := (HS12.out.2.1).facts.1
      have hf1 := (HS12.out.2.1).facts.2
      have hz1 := (HS12.out.2.1).lt
      have hc2 := (HS12.out.2.2.1).facts.1
      have hf2 := (HS12.out.2.2.1).facts.2
      have hz2 := (HS12.out.2.2.1).lt
      have hc4 := (HS12.out.2.2.2.2.1).facts.1
      have hf4 := (HS12.out.2.2.2.2.1).facts.2
      have hz4 := (HS12.out.2.2.2.2.1).lt
      have hc6 := (HS12.out.2.2.2.2.2.2.1).facts.1
      have hf6 := (HS12.out.2.2.2.2.2.2.1).facts.2
      have hz6 := (HS12.out.2.2.2.2.2.2.1).lt
      go_wp2_with fail
      clear hc0 hf0 hz0
      clear hc1 hf1 hz1
      clear hc2 hf2 hz2
      clear hc4 hf4 hz4
      clear hc6 hf6 hz6
      go_ret
      exact ⟨rfl, Bel_next HS12.out.2.2.2.2.2.2.2 (by repeat (first | with_reducible exact Below.refl _ _ | with_reducible refine Below.drew ?_ | with_reducible refine Bel_drewN ?_ _ | with_reducible refine Below.alloc ?_ (by first | omega | (simp; done) | (simp; omega)) _ | with_reducible refine Below.setCell ?_ (by first | omega | (simp; done) | (simp; omega)) _))⟩
end Go.Proofs.Ytgeomaeccalceaa
