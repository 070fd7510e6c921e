/- The walk of the law FnExactSeedShare. -/
import Derived.Test.YtjnnfiimimmmnaaSg
import Derived.Test.YtjnnfiimimmmnaaSShare
import Derived.Test.YtjnnfiimimmmnaaSv
import Derived.Deep.RegionHeld3
import Derived.Deep.DeepCutAuto
namespace Go.Proofs.Ytjnnfiimimmmnaa
open Go Go.RowKit Fl
set_option linter.unusedVariables false

set_option maxRecDepth 100000 in
set_option maxHeartbeats 20000000 in
theorem FnExactSeedShare_walk (k : Int) (a b : Nat) (h_k : (Lit.int .i64 k).wf = true) (h_a : a < 18446744073709551616) (h_b : b < 18446744073709551616) (xs : List Nat) (ao_xs : Option Addr) (c_xs : Nat) (m_xs : xs.length ≤ 9223372036854775807) (ys : List Nat) (ao_ys : Option Addr) (c_ys : Nat) (m_ys : ys.length ≤ 9223372036854775807) (w : World) (hx_xs : Holds w ao_xs (fl .f32 xs)) (hx_ys : Holds w ao_ys (fl .f32 ys)) :
    Calls Try.prog 9 #[.agg #[.int .i64 k, .int .u64 (a : Int), .int .u64 (b : Int)], .agg #[.slice ao_xs xs.length c_xs, .slice ao_ys ys.length c_ys]] w fun e w' => e = .returned (.bool true) ∧ Below w.heap.size w w' := by
  by_cases hl0 : xs.length + ys.length ≤ 1048576
  case neg =>
    have HL0 := Lib.hid hl0
    clear hl0
    go_enter Try.func9, Try.ntmps9
    have HS0 : Hid (Below w.heap.size w w) := Lib.hid (Below.refl _ _)
    go_wp2_with fail
    generalize hW : World.alloc (World.alloc w _) _ = w1
    have hb : Below w.heap.size w w1 := by rw [← hW]; exact (by repeat (first | with_reducible exact Below.refl _ _ | with_reducible refine Below.drew ?_ | with_reducible refine Bel_drewN ?_ _ | with_reducible refine Below.alloc ?_ (by first | omega | (simp; done) | (simp; omega)) _ | with_reducible refine Below.setCell ?_ (by first | omega | (simp; done) | (simp; omega)) _))
    have z1 : w.heap.size + 2 ≤ w1.heap.size := by rw [← hW]; simp
    have HS1 : Hid (Whole w1 w.heap.size 43 #[.int .i64 k, .int .u64 (a : Int), .int .u64 (b : Int)] ∧ Whole w1 (w.heap.size + 1) 24 #[.slice ao_xs xs.length c_xs, .slice ao_ys ys.length c_ys] ∧ Below w.heap.size w w1) := Lib.hid ⟨by rw [← hW]; exact (Whole.made _ _ _).alloc _, by rw [← hW]; exact Whole.made2 _ _ _ _, Bel_next HS0.out hb⟩
    clear HS0 hW hb
    refine (szShare_no xs _ _ ys _ _ (1048576) _ HL0.out (by omega) m_xs m_ys).mono ?_
    rintro e w2 ⟨rfl, hb⟩
    have z2 : w1.heap.size ≤ w2.heap.size := hb.size
    have HS2 : Hid (Whole w2 w.heap.size 43 #[.int .i64 k, .int .u64 (a : Int), .int .u64 (b : Int)] ∧ Whole w2 (w.heap.size + 1) 24 #[.slice ao_xs xs.length c_xs, .slice ao_ys ys.length c_ys] ∧ Below w.heap.size w w2) := Lib.hid ⟨HS1.out.1.below hb, HS1.out.2.1.below hb, Bel_next HS1.out.2.2 hb⟩
    clear HS1 hb
    have hc0 := (HS2.out.1).facts.1
    have hf0 := (HS2.out.1).facts.2
    have hz0 := (HS2.out.1).lt
    have hc1 := (HS2.out.2.1).facts.1
    have hf1 := (HS2.out.2.1).facts.2
    have hz1 := (HS2.out.2.1).lt
    go_wp2_with fail
    clear hc0 hf0 hz0
    clear hc1 hf1 hz1
    go_ret
    exact ⟨rfl, Bel_next HS2.out.2.2 (by repeat (first | with_reducible exact Below.refl _ _ | with_reducible refine Below.drew ?_ | with_reducible refine Bel_drewN ?_ _ | with_reducible refine Below.alloc ?_ (by first | omega | (simp; done) | (simp; omega)) _ | with_reducible refine Below.setCell ?_ (by first | omega | (simp; done) | (simp; omega)) _))⟩
  have HL0 := Lib.hid hl0
  have hn_xs : xs.length ≤ 1048576 := by omega
  have hn_ys : ys.length ≤ 1048576 := by omega
  clear hl0
  have HX_xs := Lib.hid hx_xs
  clear hx_xs
  have HX_ys := Lib.hid hx_ys
  clear hx_ys
  by_cases hv0 : ∃ i, ssC k a b xs ys i
  · have HV := Lib.hid hv0
    clear hv0
    obtain ⟨i, hv⟩ := HV.out
    have HW := Lib.hid hv
    clear hv
    go_enter Try.func9, Try.ntmps9
    have HS0 : Hid (Below w.heap.size w w) := Lib.hid (Below.refl _ _)
    go_wp2_with fail
    generalize hW : World.alloc (World.alloc w _) _ = w1
    have hb : Below w.heap.size w w1 := by rw [← hW]; exact (by repeat (first | with_reducible exact Below.refl _ _ | with_reducible refine Below.drew ?_ | with_reducible refine Bel_drewN ?_ _ | with_reducible refine Below.alloc ?_ (by first | omega | (simp; done) | (simp; omega)) _ | with_reducible refine Below.setCell ?_ (by first | omega | (simp; done) | (simp; omega)) _))
    have z1 : w.heap.size + 2 ≤ w1.heap.size := by rw [← hW]; simp
    have HS1 : Hid (Whole w1 w.heap.size 43 #[.int .i64 k, .int .u64 (a : Int), .int .u64 (b : Int)] ∧ Whole w1 (w.heap.size + 1) 24 #[.slice ao_xs xs.length c_xs, .slice ao_ys ys.length c_ys] ∧ Below w.heap.size w w1) := Lib.hid ⟨by rw [← hW]; exact (Whole.made _ _ _).alloc _, by rw [← hW]; exact Whole.made2 _ _ _ _, Bel_next HS0.out hb⟩
    clear HS0 hW hb
    refine (szShare_yes xs _ _ ys _ _ (1048576) _ HL0.out (by omega)).mono ?_
    rintro e w2 ⟨rfl, hb⟩
    have z2 : w1.heap.size ≤ w2.heap.size := hb.size
    have HS2 : Hid (Whole w2 w.heap.size 43 #[.int .i64 k, .int .u64 (a : Int), .int .u64 (b : Int)] ∧ Whole w2 (w.heap.size + 1) 24 #[.slice ao_xs xs.length c_xs, .slice ao_ys ys.length c_ys] ∧ Below w.heap.size w w2) := Lib.hid ⟨HS1.out.1.below hb, HS1.out.2.1.below hb, Bel_next HS1.out.2.2 hb⟩
    clear HS1 hb
    have hc0 := (HS2.out.1).facts.1
    have hf0 := (HS2.out.1).facts.2
    have hz0 := (HS2.out.1).lt
    have hc1 := (HS2.out.2.1).facts.1
    have hf1 := (HS2.out.2.1).facts.2
    have hz1 := (HS2.out.2.1).lt
    go_wp2_with fail
    clear hc0 hf0 hz0
    clear hc1 hf1 hz1
    have HK : Hid (∀ v v' : World, (v.cell? ⟨w.heap.size, 0, none⟩ = some (.int .i64 k) ∧ v.cell? ⟨w.heap.size, 1, none⟩ = some (.int .u64 (a : Int)) ∧ v.cell? ⟨w.heap.size, 2, none⟩ = some (.int .u64 (b : Int)) ∧ v.cell? ⟨(w.heap.size + 1), 0, none⟩ = some (.slice ao_xs xs.length c_xs) ∧ v.cell? ⟨(w.heap.size + 1), 1, none⟩ = some (.slice ao_ys ys.length c_ys) ∧ w2.heap.size ≤ v.heap.size ∧ Whole v w.heap.size 43 #[.int .i64 k, .int .u64 (a : Int), .int .u64 (b : Int)] ∧ Whole v (w.heap.size + 1) 24 #[.slice ao_xs xs.length c_xs, .slice ao_ys ys.length c_ys] ∧ Below w.heap.size w v) → Below v.heap.size v v' → (v'.cell? ⟨w.heap.size, 0, none⟩ = some (.int .i64 k) ∧ v'.cell? ⟨w.heap.size, 1, none⟩ = some (.int .u64 (a : Int)) ∧ v'.cell? ⟨w.heap.size, 2, none⟩ = some (.int .u64 (b : Int)) ∧ v'.cell? ⟨(w.heap.size + 1), 0, none⟩ = some (.slice ao_xs xs.length c_xs) ∧ v'.cell? ⟨(w.heap.size + 1), 1, none⟩ = some (.slice ao_ys ys.length c_ys) ∧ w2.heap.size ≤ v'.heap.size ∧ Whole v' w.heap.size 43 #[.int .i64 k, .int .u64 (a : Int), .int .u64 (b : Int)] ∧ Whole v' (w.heap.size + 1) 24 #[.slice ao_xs xs.length c_xs, .slice ao_ys ys.length c_ys] ∧ Below w.heap.size w v')) := Lib.hid (fun v v' h hb => ⟨(by rw [Below.cell hb (World.block_lt_of_cell? _ _ h.1)]; exact h.1), (by rw [Below.cell hb (World.block_lt_of_cell? _ _ h.2.1)]; exact h.2.1), (by rw [Below.cell hb (World.block_lt_of_cell? _ _ h.2.2.1)]; exact h.2.2.1), (by rw [Below.cell hb (World.block_lt_of_cell? _ _ h.2.2.2.1)]; exact h.2.2.2.1), (by rw [Below.cell hb (World.block_lt_of_cell? _ _ h.2.2.2.2.1)]; exact h.2.2.2.2.1), Nat.le_trans h.2.2.2.2.2.1 hb.size, h.2.2.2.2.2.2.1.below hb, h.2.2.2.2.2.2.2.1.below hb, Bel_next h.2.2.2.2.2.2.2.2 hb⟩)
    have HP : Hid (∀ v : World, (v.cell? ⟨w.heap.size, 0, none⟩ = some (.int .i64 k) ∧ v.cell? ⟨w.heap.size, 1, none⟩ = some (.int .u64 (a : Int)) ∧ v.cell? ⟨w.heap.size, 2, none⟩ = some (.int .u64 (b : Int)) ∧ v.cell? ⟨(w.heap.size + 1), 0, none⟩ = some (.slice ao_xs xs.length c_xs) ∧ v.cell? ⟨(w.heap.size + 1), 1, none⟩ = some (.slice ao_ys ys.length c_ys) ∧ w2.heap.size ≤ v.heap.size ∧ Whole v w.heap.size 43 #[.int .i64 k, .int .u64 (a : Int), .int .u64 (b : Int)] ∧ Whole v (w.heap.size + 1) 24 #[.slice ao_xs xs.length c_xs, .slice ao_ys ys.length c_ys] ∧ Below w.heap.size w v) → (Whole v w.heap.size 43 #[.int .i64 k, .int .u64 (a : Int), .int .u64 (b : Int)] ∧ Whole v (w.heap.size + 1) 24 #[.slice ao_xs xs.length c_xs, .slice ao_ys ys.length c_ys] ∧ Below w.heap.size w v)) := Lib.hid (fun v h => h.2.2.2.2.2.2)
    have hR : w2.cell? ⟨w.heap.size, 0, none⟩ = some (.int .i64 k) ∧ w2.cell? ⟨w.heap.size, 1, none⟩ = some (.int .u64 (a : Int)) ∧ w2.cell? ⟨w.heap.size, 2, none⟩ = some (.int .u64 (b : Int)) ∧ w2.cell? ⟨(w.heap.size + 1), 0, none⟩ = some (.slice ao_xs xs.length c_xs) ∧ w2.cell? ⟨(w.heap.size + 1), 1, none⟩ = some (.slice ao_ys ys.length c_ys) ∧ w2.heap.size ≤ w2.heap.size ∧ Whole w2 w.heap.size 43 #[.int .i64 k, .int .u64 (a : Int), .int .u64 (b : Int)] ∧ Whole w2 (w.heap.size + 1) 24 #[.slice ao_xs xs.length c_xs, .slice ao_ys ys.length c_ys] ∧ Below w.heap.size w w2 := ⟨(HS2.out.1).cell 0, (HS2.out.1).cell 1, (HS2.out.1).cell 2, (HS2.out.2.1).cell 0, (HS2.out.2.1).cell 1, Nat.le_refl _, HS2.out.1, HS2.out.2.1, HS2.out.2.2⟩
    have HK2 : Hid (∀ (v : World) (q : Addr) (u : Value), (v.cell? ⟨w.heap.size, 0, none⟩ = some (.int .i64 k) ∧ v.cell? ⟨w.heap.size, 1, none⟩ = some (.int .u64 (a : Int)) ∧ v.cell? ⟨w.heap.size, 2, none⟩ = some (.int .u64 (b : Int)) ∧ v.cell? ⟨(w.heap.size + 1), 0, none⟩ = some (.slice ao_xs xs.length c_xs) ∧ v.cell? ⟨(w.heap.size + 1), 1, none⟩ = some (.slice ao_ys ys.length c_ys) ∧ w2.heap.size ≤ v.heap.size ∧ Whole v w.heap.size 43 #[.int .i64 k, .int .u64 (a : Int), .int .u64 (b : Int)] ∧ Whole v (w.heap.size + 1) 24 #[.slice ao_xs xs.length c_xs, .slice ao_ys ys.length c_ys] ∧ Below w.heap.size w v) → w2.heap.size ≤ q.block → ((v.setCell q u).cell? ⟨w.heap.size, 0, none⟩ = some (.int .i64 k) ∧ (v.setCell q u).cell? ⟨w.heap.size, 1, none⟩ = some (.int .u64 (a : Int)) ∧ (v.setCell q u).cell? ⟨w.heap.size, 2, none⟩ = some (.int .u64 (b : Int)) ∧ (v.setCell q u).cell? ⟨(w.heap.size + 1), 0, none⟩ = some (.slice ao_xs xs.length c_xs) ∧ (v.setCell q u).cell? ⟨(w.heap.size + 1), 1, none⟩ = some (.slice ao_ys ys.length c_ys) ∧ w2.heap.size ≤ (v.setCell q u).heap.size ∧ Whole (v.setCell q u) w.heap.size 43 #[.int .i64 k, .int .u64 (a : Int), .int .u64 (b : Int)] ∧ Whole (v.setCell q u) (w.heap.size + 1) 24 #[.slice ao_xs xs.length c_xs, .slice ao_ys ys.length c_ys] ∧ Below w.heap.size w (v.setCell q u))) := Lib.hid (fun v q u h hq => ⟨((World.cell?_of_block (a := ⟨w.heap.size, 0, none⟩) (Below.heap_setCell v q u _ (by show ¬ _ = _; simp only []; omega))).trans h.1), ((World.cell?_of_block (a := ⟨w.heap.size, 1, none⟩) (Below.heap_setCell v q u _ (by show ¬ _ = _; simp only []; omega))).trans h.2.1), ((World.cell?_of_block (a := ⟨w.heap.size, 2, none⟩) (Below.heap_setCell v q u _ (by show ¬ _ = _; simp only []; omega))).trans h.2.2.1), ((World.cell?_of_block (a := ⟨(w.heap.size + 1), 0, none⟩) (Below.heap_setCell v q u _ (by show ¬ _ = _; simp only []; omega))).trans h.2.2.2.1), ((World.cell?_of_block (a := ⟨(w.heap.size + 1), 1, none⟩) (Below.heap_setCell v q u _ (by show ¬ _ = _; simp only []; omega))).trans h.2.2.2.2.1), (by simpa using h.2.2.2.2.2.1), h.2.2.2.2.2.2.1.far (by omega) _, h.2.2.2.2.2.2.2.1.far (by omega) _, Below.setCell h.2.2.2.2.2.2.2.2 (by omega) _⟩)
    go_cut [6, 7, 8] from 13 (fun s0 s1 s2 wx => ∃ gN : Nat, s0 = .pointer (some ⟨gN, 0, none⟩) ∧ s1 = .float .f32 (xs[i]?.getD 0) ∧ s2 = .bool true ∧ w2.heap.size ≤ gN ∧ Whole wx gN 44 #[.int .i64 k, .int .u64 ((nxA k a b) : Int), .int .u64 ((nxB k a b) : Int)] ∧ Whole wx w.heap.size 43 #[.int .i64 k, .int .u64 (a : Int), .int .u64 (b : Int)] ∧ Whole wx (w.heap.size + 1) 24 #[.slice ao_xs xs.length c_xs, .slice ao_ys ys.length c_ys] ∧ Below w.heap.size w wx)
    case first =>
      go_region_held3 (fun v => v.cell? ⟨w.heap.size, 0, none⟩ = some (.int .i64 k) ∧ v.cell? ⟨w.heap.size, 1, none⟩ = some (.int .u64 (a : Int)) ∧ v.cell? ⟨w.heap.size, 2, none⟩ = some (.int .u64 (b : Int)) ∧ v.cell? ⟨(w.heap.size + 1), 0, none⟩ = some (.slice ao_xs xs.length c_xs) ∧ v.cell? ⟨(w.heap.size + 1), 1, none⟩ = some (.slice ao_ys ys.length c_ys) ∧ w2.heap.size ≤ v.heap.size ∧ Whole v w.heap.size 43 #[.int .i64 k, .int .u64 (a : Int), .int .u64 (b : Int)] ∧ Whole v (w.heap.size + 1) 24 #[.slice ao_xs xs.length c_xs, .slice ao_ys ys.length c_ys] ∧ Below w.heap.size w v)
        (first | with_reducible assumption | with_reducible exact HSv2.out | with_reducible exact HSv1.out | with_reducible exact HSv0.out | ((with_reducible refine HK.out _ _ HSv2.out ?_); (repeat (first | with_reducible exact Below.refl _ _ | with_reducible refine Below.drew ?_ | with_reducible refine Bel_drewN ?_ _ | with_reducible refine Below.alloc ?_ (by first | omega | (simp; done) | (simp; omega)) _ | with_reducible refine Below.setCell ?_ (by first | omega | (simp; done) | (simp; omega)) _)); done) | ((with_reducible refine HK.out _ _ HSv1.out ?_); (repeat (first | with_reducible exact Below.refl _ _ | with_reducible refine Below.drew ?_ | with_reducible refine Bel_drewN ?_ _ | with_reducible refine Below.alloc ?_ (by first | omega | (simp; done) | (simp; omega)) _ | with_reducible refine Below.setCell ?_ (by first | omega | (simp; done) | (simp; omega)) _)); done) | ((with_reducible refine HK.out _ _ HSv0.out ?_); (repeat (first | with_reducible exact Below.refl _ _ | with_reducible refine Below.drew ?_ | with_reducible refine Bel_drewN ?_ _ | with_reducible refine Below.alloc ?_ (by first | omega | (simp; done) | (simp; omega)) _ | with_reducible refine Below.setCell ?_ (by first | omega | (simp; done) | (simp; omega)) _)); done) | ((with_reducible refine HK.out w2 _ hR ?_); (repeat (first | with_reducible exact Below.refl _ _ | with_reducible refine Below.drew ?_ | with_reducible refine Bel_drewN ?_ _ | with_reducible refine Below.alloc ?_ (by first | omega | (simp; done) | (simp; omega)) _ | with_reducible refine Below.setCell ?_ (by first | omega | (simp; done) | (simp; omega)) _)); done) | ((with_reducible refine HK2.out _ _ _ HSv2.out ?_) <;> (first | omega | (simp; done) | (simp; omega))) | ((with_reducible refine HK2.out _ _ _ (HK2.out _ _ _ HSv2.out ?_) ?_) <;> (first | omega | (simp; done) | (simp; omega))) | ((with_reducible refine HK2.out _ _ _ (HK2.out _ _ _ (HK2.out _ _ _ HSv2.out ?_) ?_) ?_) <;> (first | omega | (simp; done) | (simp; omega))) | exact HK.out _ _ (by with_reducible assumption) (by with_reducible assumption))
        (first | (go_at_call 32; refine (toSeed_ret k a b _).mono ?_; rintro e wt0 ⟨rfl, hbt0⟩; have zz0 := hbt0.size; (try simp at zz0); have HSv0 := Lib.hid (HK.out _ _ (by with_reducible assumption) hbt0); obtain ⟨kc0, kf0⟩ := cells_kept hbt0; (try have zt0_0 : w2.heap.size < wt0.heap.size := by omega)) | (go_at_call 17; refine (toShare_any xs _ _ ys _ _ _ (Holds.below HX_xs.out (HP.out _ (by assumption)).2.2) (Holds.below HX_ys.out (HP.out _ (by assumption)).2.2) hn_xs hn_ys).mono ?_; rintro e wt1 ⟨aosd_xs, aosd_ys, rfl, rowsd_xs, rowsd_ys, hbt1⟩; have zz1 := hbt1.size; (try simp at zz1); have HSv1 := Lib.hid (HK.out _ _ (by with_reducible assumption) hbt1); obtain ⟨kc1, kf1⟩ := cells_kept hbt1; (try have zt1_0 : w2.heap.size < wt1.heap.size := by omega); (try have zt1_1 : wt0.heap.size < wt1.heap.size := by omega)) | (go_at_call 31; refine (specSs_yes k a b xs ys _ rfl _ _ _ _ i _ h_a h_b (by first | exact (rowsd_xs).holds | (refine (Row.below rowsd_xs ?_).holds; (repeat (first | with_reducible exact Below.refl _ _ | with_reducible refine Below.drew ?_ | with_reducible refine Bel_drewN ?_ _ | with_reducible refine Below.alloc ?_ (by first | omega | (simp; done) | (simp; omega)) _ | with_reducible refine Below.setCell ?_ (by first | omega | (simp; done) | (simp; omega)) _)); done)) (by first | exact (rowsd_ys).holds | (refine (Row.below rowsd_ys ?_).holds; (repeat (first | with_reducible exact Below.refl _ _ | with_reducible refine Below.drew ?_ | with_reducible refine Bel_drewN ?_ _ | with_reducible refine Below.alloc ?_ (by first | omega | (simp; done) | (simp; omega)) _ | with_reducible refine Below.setCell ?_ (by first | omega | (simp; done) | (simp; omega)) _)); done)) HW.out).mono ?_; rintro e w3 ⟨rfl, hb⟩; have zz2 := hb.size; (try simp at zz2); have HSv2 := Lib.hid (HK.out _ _ (by with_reducible assumption) hb); obtain ⟨kc2, kf2⟩ := cells_kept hb; (try have zt2_0 : w2.heap.size < w3.heap.size := by omega); (try have zt2_1 : wt0.heap.size < w3.heap.size := by omega); (try have zt2_2 : wt1.heap.size < w3.heap.size := by omega)))
      all_goals
        go_wp2_with fail
        go_meet
        refine ⟨_, rfl, rfl, rfl, ?_, ?_, ?_⟩
        · first | omega | (simp; done) | (simp; omega)
        · first | exact Whole.made _ _ _ | (have hq := (((Whole.made _ _ _).below hbt0).below hbt1).below hb; exact (((hq).put 0 _).put 1 _).put 2 _) | (have hq := ((((Whole.made _ _ _).drew).below hbt0).below hbt1).below hb; exact (((hq).put 0 _).put 1 _).put 2 _) | (have hq := ((Whole.made _ _ _).below hbt1).below hb; exact (((hq).put 0 _).put 1 _).put 2 _) | (have hq := (Whole.made _ _ _).below hb; exact (((hq).put 0 _).put 1 _).put 2 _)
        · first | (refine HP.out _ (HK.out _ _ HSv2.out ?_); (repeat (first | with_reducible exact Below.refl _ _ | with_reducible refine Below.drew ?_ | with_reducible refine Bel_drewN ?_ _ | with_reducible refine Below.alloc ?_ (by first | omega | (simp; done) | (simp; omega)) _ | with_reducible refine Below.setCell ?_ (by first | omega | (simp; done) | (simp; omega)) _)); done) | exact HP.out _ (HK2.out _ _ _ (HK2.out _ _ _ (HK2.out _ _ _ HSv2.out (by first | omega | (simp; done) | (simp; omega))) (by first | omega | (simp; done) | (simp; omega))) (by first | omega | (simp; done) | (simp; omega)))
    case rest =>
      obtain ⟨gN, rfl, rfl, rfl, hle, hW, hS⟩ := hcut
      rename World => w3
      have z3 : w2.heap.size ≤ w3.heap.size := by have := hW.lt; omega
      obtain ⟨gN3, hgN⟩ : ∃ g, g = gN := ⟨_, rfl⟩
      subst hgN
      have ygN3 : gN3 < w3.heap.size := hW.lt
      have xgN3 : w2.heap.size ≤ gN3 := hle
      have HS3 : Hid (Whole w3 w.heap.size 43 #[.int .i64 k, .int .u64 (a : Int), .int .u64 (b : Int)] ∧ Whole w3 (w.heap.size + 1) 24 #[.slice ao_xs xs.length c_xs, .slice ao_ys ys.length c_ys] ∧ Whole w3 gN3 44 #[.int .i64 k, .int .u64 ((nxA k a b) : Int), .int .u64 ((nxB k a b) : Int)] ∧ Below w.heap.size w w3) := Lib.hid ⟨hS.1, hS.2.1, hW, hS.2.2⟩
      clear HS2 HK HP HK2 hR hle hW hS
      have hc0 := (HS3.out.1).facts.1
      have hf0 := (HS3.out.1).facts.2
      have hz0 := (HS3.out.1).lt
      have hc1 := (HS3.out.2.1).facts.1
      have hf1 := (HS3.out.2.1).facts.2
      have hz1 := (HS3.out.2.1).lt
      have hc2 := (HS3.out.2.2.1).facts.1
      have hf2 := (HS3.out.2.2.1).facts.2
      have hz2 := (HS3.out.2.2.1).lt
      go_wp2_with fail
      clear hc0 hf0 hz0
      clear hc1 hf1 hz1
      clear hc2 hf2 hz2
      refine (toShare_any xs _ _ ys _ _ _ (Holds.below HX_xs.out HS3.out.2.2.2) (Holds.below HX_ys.out HS3.out.2.2.2) hn_xs hn_ys).mono ?_
      rintro e w4 ⟨aoX_xs, aoX_ys, rfl, rowX_xs, rowX_ys, hb⟩
      have z4 : w3.heap.size ≤ w4.heap.size := hb.size
      have HS4 : Hid (Whole w4 w.heap.size 43 #[.int .i64 k, .int .u64 (a : Int), .int .u64 (b : Int)] ∧ Whole w4 (w.heap.size + 1) 24 #[.slice ao_xs xs.length c_xs, .slice ao_ys ys.length c_ys] ∧ Whole w4 gN3 44 #[.int .i64 k, .int .u64 ((nxA k a b) : Int), .int .u64 ((nxB k a b) : Int)] ∧ Row w4 w3.heap.size w4.heap.size aoX_xs (fl .f32 xs) ∧ Row w4 w3.heap.size w4.heap.size aoX_ys (fl .f32 ys) ∧ Below w.heap.size w w4) := Lib.hid ⟨HS3.out.1.below hb, HS3.out.2.1.below hb, HS3.out.2.2.1.below hb, rowX_xs, rowX_ys, Bel_next HS3.out.2.2.2 hb⟩
      clear HS3 hb rowX_xs rowX_ys
      have hc0 := (HS4.out.1).facts.1
      have hf0 := (HS4.out.1).facts.2
      have hz0 := (HS4.out.1).lt
      have hc1 := (HS4.out.2.1).facts.1
      have hf1 := (HS4.out.2.1).facts.2
      have hz1 := (HS4.out.2.1).lt
      have hc2 := (HS4.out.2.2.1).facts.1
      have hf2 := (HS4.out.2.2.1).facts.2
      have hz2 := (HS4.out.2.2.1).lt
      go_wp2_with fail
      clear hc0 hf0 hz0
      clear hc1 hf1 hz1
      clear hc2 hf2 hz2
      generalize hW : World.alloc w4 _ = w5
      have hb : Below w4.heap.size w4 w5 := by rw [← hW]; exact (by repeat (first | with_reducible exact Below.refl _ _ | with_reducible refine Below.drew ?_ | with_reducible refine Bel_drewN ?_ _ | with_reducible refine Below.alloc ?_ (by first | omega | (simp; done) | (simp; omega)) _ | with_reducible refine Below.setCell ?_ (by first | omega | (simp; done) | (simp; omega)) _))
      have z5 : w4.heap.size + 1 ≤ w5.heap.size := by rw [← hW]; simp
      have HS5 : Hid (Whole w5 w.heap.size 43 #[.int .i64 k, .int .u64 (a : Int), .int .u64 (b : Int)] ∧ Whole w5 (w.heap.size + 1) 24 #[.slice ao_xs xs.length c_xs, .slice ao_ys ys.length c_ys] ∧ Whole w5 gN3 44 #[.int .i64 k, .int .u64 ((nxA k a b) : Int), .int .u64 ((nxB k a b) : Int)] ∧ Row w5 w3.heap.size w4.heap.size aoX_xs (fl .f32 xs) ∧ Row w5 w3.heap.size w4.heap.size aoX_ys (fl .f32 ys) ∧ Whole w5 w4.heap.size 27 #[.slice aoX_xs xs.length xs.length, .slice aoX_ys ys.length ys.length] ∧ Below w.heap.size w w5) := Lib.hid ⟨HS4.out.1.below hb, HS4.out.2.1.below hb, HS4.out.2.2.1.below hb, HS4.out.2.2.2.1.below hb, HS4.out.2.2.2.2.1.below hb, by rw [← hW]; exact Whole.made _ _ _, Bel_next HS4.out.2.2.2.2.2 hb⟩
      clear HS4 hW hb
      have HK : Hid (∀ v v' : World, (v.cell? ⟨w.heap.size, 0, none⟩ = some (.int .i64 k) ∧ v.cell? ⟨w.heap.size, 1, none⟩ = some (.int .u64 (a : Int)) ∧ v.cell? ⟨w.heap.size, 2, none⟩ = some (.int .u64 (b : Int)) ∧ v.cell? ⟨w4.heap.size, 0, none⟩ = some (.slice aoX_xs xs.length xs.length) ∧ v.cell? ⟨w4.heap.size, 1, none⟩ = some (.slice aoX_ys ys.length ys.length) ∧ w5.heap.size ≤ v.heap.size ∧ Whole v w.heap.size 43 #[.int .i64 k, .int .u64 (a : Int), .int .u64 (b : Int)] ∧ Whole v (w.heap.size + 1) 24 #[.slice ao_xs xs.length c_xs, .slice ao_ys ys.length c_ys] ∧ Whole v gN3 44 #[.int .i64 k, .int .u64 ((nxA k a b) : Int), .int .u64 ((nxB k a b) : Int)] ∧ Row v w3.heap.size w4.heap.size aoX_xs (fl .f32 xs) ∧ Row v w3.heap.size w4.heap.size aoX_ys (fl .f32 ys) ∧ Whole v w4.heap.size 27 #[.slice aoX_xs xs.length xs.length, .slice aoX_ys ys.length ys.length] ∧ Below w.heap.size w v) → Below v.heap.size v v' → (v'.cell? ⟨w.heap.size, 0, none⟩ = some (.int .i64 k) ∧ v'.cell? ⟨w.heap.size, 1, none⟩ = some (.int .u64 (a : Int)) ∧ v'.cell? ⟨w.heap.size, 2, none⟩ = some (.int .u64 (b : Int)) ∧ v'.cell? ⟨w4.heap.size, 0, none⟩ = some (.slice aoX_xs xs.length xs.length) ∧ v'.cell? ⟨w4.heap.size, 1, none⟩ = some (.slice aoX_ys ys.length ys.length) ∧ w5.heap.size ≤ v'.heap.size ∧ Whole v' w.heap.size 43 #[.int .i64 k, .int .u64 (a : Int), .int .u64 (b : Int)] ∧ Whole v' (w.heap.size + 1) 24 #[.slice ao_xs xs.length c_xs, .slice ao_ys ys.length c_ys] ∧ Whole v' gN3 44 #[.int .i64 k, .int .u64 ((nxA k a b) : Int), .int .u64 ((nxB k a b) : Int)] ∧ Row v' w3.heap.size w4.heap.size aoX_xs (fl .f32 xs) ∧ Row v' w3.heap.size w4.heap.size aoX_ys (fl .f32 ys) ∧ Whole v' w4.heap.size 27 #[.slice aoX_xs xs.length xs.length, .slice aoX_ys ys.length ys.length] ∧ Below w.heap.size w v')) := Lib.hid (fun v v' h hb => ⟨(by rw [Below.cell hb (World.block_lt_of_cell? _ _ h.1)]; exact h.1), (by rw [Below.cell hb (World.block_lt_of_cell? _ _ h.2.1)]; exact h.2.1), (by rw [Below.cell hb (World.block_lt_of_cell? _ _ h.2.2.1)]; exact h.2.2.1), (by rw [Below.cell hb (World.block_lt_of_cell? _ _ h.2.2.2.1)]; exact h.2.2.2.1), (by rw [Below.cell hb (World.block_lt_of_cell? _ _ h.2.2.2.2.1)]; exact h.2.2.2.2.1), Nat.le_trans h.2.2.2.2.2.1 hb.size, h.2.2.2.2.2.2.1.below hb, h.2.2.2.2.2.2.2.1.below hb, h.2.2.2.2.2.2.2.2.1.below hb, h.2.2.2.2.2.2.2.2.2.1.below hb, h.2.2.2.2.2.2.2.2.2.2.1.below hb, h.2.2.2.2.2.2.2.2.2.2.2.1.below hb, Bel_next h.2.2.2.2.2.2.2.2.2.2.2.2 hb⟩)
      have HP : Hid (∀ v : World, (v.cell? ⟨w.heap.size, 0, none⟩ = some (.int .i64 k) ∧ v.cell? ⟨w.heap.size, 1, none⟩ = some (.int .u64 (a : Int)) ∧ v.cell? ⟨w.heap.size, 2, none⟩ = some (.int .u64 (b : Int)) ∧ v.cell? ⟨w4.heap.size, 0, none⟩ = some (.slice aoX_xs xs.length xs.length) ∧ v.cell? ⟨w4.heap.size, 1, none⟩ = some (.slice aoX_ys ys.length ys.length) ∧ w5.heap.size ≤ v.heap.size ∧ Whole v w.heap.size 43 #[.int .i64 k, .int .u64 (a : Int), .int .u64 (b : Int)] ∧ Whole v (w.heap.size + 1) 24 #[.slice ao_xs xs.length c_xs, .slice ao_ys ys.length c_ys] ∧ Whole v gN3 44 #[.int .i64 k, .int .u64 ((nxA k a b) : Int), .int .u64 ((nxB k a b) : Int)] ∧ Row v w3.heap.size w4.heap.size aoX_xs (fl .f32 xs) ∧ Row v w3.heap.size w4.heap.size aoX_ys (fl .f32 ys) ∧ Whole v w4.heap.size 27 #[.slice aoX_xs xs.length xs.length, .slice aoX_ys ys.length ys.length] ∧ Below w.heap.size w v) → (Whole v w.heap.size 43 #[.int .i64 k, .int .u64 (a : Int), .int .u64 (b : Int)] ∧ Whole v (w.heap.size + 1) 24 #[.slice ao_xs xs.length c_xs, .slice ao_ys ys.length c_ys] ∧ Whole v gN3 44 #[.int .i64 k, .int .u64 ((nxA k a b) : Int), .int .u64 ((nxB k a b) : Int)] ∧ Row v w3.heap.size w4.heap.size aoX_xs (fl .f32 xs) ∧ Row v w3.heap.size w4.heap.size aoX_ys (fl .f32 ys) ∧ Whole v w4.heap.size 27 #[.slice aoX_xs xs.length xs.length, .slice aoX_ys ys.length ys.length] ∧ Below w.heap.size w v)) := Lib.hid (fun v h => h.2.2.2.2.2.2)
      have hR : w5.cell? ⟨w.heap.size, 0, none⟩ = some (.int .i64 k) ∧ w5.cell? ⟨w.heap.size, 1, none⟩ = some (.int .u64 (a : Int)) ∧ w5.cell? ⟨w.heap.size, 2, none⟩ = some (.int .u64 (b : Int)) ∧ w5.cell? ⟨w4.heap.size, 0, none⟩ = some (.slice aoX_xs xs.length xs.length) ∧ w5.cell? ⟨w4.heap.size, 1, none⟩ = some (.slice aoX_ys ys.length ys.length) ∧ w5.heap.size ≤ w5.heap.size ∧ Whole w5 w.heap.size 43 #[.int .i64 k, .int .u64 (a : Int), .int .u64 (b : Int)] ∧ Whole w5 (w.heap.size + 1) 24 #[.slice ao_xs xs.length c_xs, .slice ao_ys ys.length c_ys] ∧ Whole w5 gN3 44 #[.int .i64 k, .int .u64 ((nxA k a b) : Int), .int .u64 ((nxB k a b) : Int)] ∧ Row w5 w3.heap.size w4.heap.size aoX_xs (fl .f32 xs) ∧ Row w5 w3.heap.size w4.heap.size aoX_ys (fl .f32 ys) ∧ Whole w5 w4.heap.size 27 #[.slice aoX_xs xs.length xs.length, .slice aoX_ys ys.length ys.length] ∧ Below w.heap.size w w5 := ⟨(HS5.out.1).cell 0, (HS5.out.1).cell 1, (HS5.out.1).cell 2, (HS5.out.2.2.2.2.2.1).cell 0, (HS5.out.2.2.2.2.2.1).cell 1, Nat.le_refl _, HS5.out.1, HS5.out.2.1, HS5.out.2.2.1, HS5.out.2.2.2.1, HS5.out.2.2.2.2.1, HS5.out.2.2.2.2.2.1, HS5.out.2.2.2.2.2.2⟩
      have HK2 : Hid (∀ (v : World) (q : Addr) (u : Value), (v.cell? ⟨w.heap.size, 0, none⟩ = some (.int .i64 k) ∧ v.cell? ⟨w.heap.size, 1, none⟩ = some (.int .u64 (a : Int)) ∧ v.cell? ⟨w.heap.size, 2, none⟩ = some (.int .u64 (b : Int)) ∧ v.cell? ⟨w4.heap.size, 0, none⟩ = some (.slice aoX_xs xs.length xs.length) ∧ v.cell? ⟨w4.heap.size, 1, none⟩ = some (.slice aoX_ys ys.length ys.length) ∧ w5.heap.size ≤ v.heap.size ∧ Whole v w.heap.size 43 #[.int .i64 k, .int .u64 (a : Int), .int .u64 (b : Int)] ∧ Whole v (w.heap.size + 1) 24 #[.slice ao_xs xs.length c_xs, .slice ao_ys ys.length c_ys] ∧ Whole v gN3 44 #[.int .i64 k, .int .u64 ((nxA k a b) : Int), .int .u64 ((nxB k a b) : Int)] ∧ Row v w3.heap.size w4.heap.size aoX_xs (fl .f32 xs) ∧ Row v w3.heap.size w4.heap.size aoX_ys (fl .f32 ys) ∧ Whole v w4.heap.size 27 #[.slice aoX_xs xs.length xs.length, .slice aoX_ys ys.length ys.length] ∧ Below w.heap.size w v) → w5.heap.size ≤ q.block → ((v.setCell q u).cell? ⟨w.heap.size, 0, none⟩ = some (.int .i64 k) ∧ (v.setCell q u).cell? ⟨w.heap.size, 1, none⟩ = some (.int .u64 (a : Int)) ∧ (v.setCell q u).cell? ⟨w.heap.size, 2, none⟩ = some (.int .u64 (b : Int)) ∧ (v.setCell q u).cell? ⟨w4.heap.size, 0, none⟩ = some (.slice aoX_xs xs.length xs.length) ∧ (v.setCell q u).cell? ⟨w4.heap.size, 1, none⟩ = some (.slice aoX_ys ys.length ys.length) ∧ w5.heap.size ≤ (v.setCell q u).heap.size ∧ Whole (v.setCell q u) w.heap.size 43 #[.int .i64 k, .int .u64 (a : Int), .int .u64 (b : Int)] ∧ Whole (v.setCell q u) (w.heap.size + 1) 24 #[.slice ao_xs xs.length c_xs, .slice ao_ys ys.length c_ys] ∧ Whole (v.setCell q u) gN3 44 #[.int .i64 k, .int .u64 ((nxA k a b) : Int), .int .u64 ((nxB k a b) : Int)] ∧ Row (v.setCell q u) w3.heap.size w4.heap.size aoX_xs (fl .f32 xs) ∧ Row (v.setCell q u) w3.heap.size w4.heap.size aoX_ys (fl .f32 ys) ∧ Whole (v.setCell q u) w4.heap.size 27 #[.slice aoX_xs xs.length xs.length, .slice aoX_ys ys.length ys.length] ∧ Below w.heap.size w (v.setCell q u))) := Lib.hid (fun v q u h hq => ⟨((World.cell?_of_block (a := ⟨w.heap.size, 0, none⟩) (Below.heap_setCell v q u _ (by show ¬ _ = _; simp only []; omega))).trans h.1), ((World.cell?_of_block (a := ⟨w.heap.size, 1, none⟩) (Below.heap_setCell v q u _ (by show ¬ _ = _; simp only []; omega))).trans h.2.1), ((World.cell?_of_block (a := ⟨w.heap.size, 2, none⟩) (Below.heap_setCell v q u _ (by show ¬ _ = _; simp only []; omega))).trans h.2.2.1), ((World.cell?_of_block (a := ⟨w4.heap.size, 0, none⟩) (Below.heap_setCell v q u _ (by show ¬ _ = _; simp only []; omega))).trans h.2.2.2.1), ((World.cell?_of_block (a := ⟨w4.heap.size, 1, none⟩) (Below.heap_setCell v q u _ (by show ¬ _ = _; simp only []; omega))).trans h.2.2.2.2.1), (by simpa using h.2.2.2.2.2.1), h.2.2.2.2.2.2.1.far (by omega) _, h.2.2.2.2.2.2.2.1.far (by omega) _, h.2.2.2.2.2.2.2.2.1.far (by omega) _, h.2.2.2.2.2.2.2.2.2.1.far (.inr (by omega)) _, h.2.2.2.2.2.2.2.2.2.2.1.far (.inr (by omega)) _, h.2.2.2.2.2.2.2.2.2.2.2.1.far (by omega) _, Below.setCell h.2.2.2.2.2.2.2.2.2.2.2.2 (by omega) _⟩)
      go_cut [10, 11, 12] from 13 (fun s0 s1 s2 wx => ∃ gN : Nat, s0 = .pointer (some ⟨gN, 0, none⟩) ∧ s1 = .float .f32 (xs[i]?.getD 0) ∧ s2 = .bool true ∧ w5.heap.size ≤ gN ∧ Whole wx gN 44 #[.int .i64 k, .int .u64 ((nxA k a b) : Int), .int .u64 ((nxB k a b) : Int)] ∧ Whole wx w.heap.size 43 #[.int .i64 k, .int .u64 (a : Int), .int .u64 (b : Int)] ∧ Whole wx (w.heap.size + 1) 24 #[.slice ao_xs xs.length c_xs, .slice ao_ys ys.length c_ys] ∧ Whole wx gN3 44 #[.int .i64 k, .int .u64 ((nxA k a b) : Int), .int .u64 ((nxB k a b) : Int)] ∧ Row wx w3.heap.size w4.heap.size aoX_xs (fl .f32 xs) ∧ Row wx w3.heap.size w4.heap.size aoX_ys (fl .f32 ys) ∧ Whole wx w4.heap.size 27 #[.slice aoX_xs xs.length xs.length, .slice aoX_ys ys.length ys.length] ∧ Below w.heap.size w wx)
      case first =>
        go_region_held3 (fun v => v.cell? ⟨w.heap.size, 0, none⟩ = some (.int .i64 k) ∧ v.cell? ⟨w.heap.size, 1, none⟩ = some (.int .u64 (a : Int)) ∧ v.cell? ⟨w.heap.size, 2, none⟩ = some (.int .u64 (b : Int)) ∧ v.cell? ⟨w4.heap.size, 0, none⟩ = some (.slice aoX_xs xs.length xs.length) ∧ v.cell? ⟨w4.heap.size, 1, none⟩ = some (.slice aoX_ys ys.length ys.length) ∧ w5.heap.size ≤ v.heap.size ∧ Whole v w.heap.size 43 #[.int .i64 k, .int .u64 (a : Int), .int .u64 (b : Int)] ∧ Whole v (w.heap.size + 1) 24 #[.slice ao_xs xs.length c_xs, .slice ao_ys ys.length c_ys] ∧ Whole v gN3 44 #[.int .i64 k, .int .u64 ((nxA k a b) : Int), .int .u64 ((nxB k a b) : Int)] ∧ Row v w3.heap.size w4.heap.size aoX_xs (fl .f32 xs) ∧ Row v w3.heap.size w4.heap.size aoX_ys (fl .f32 ys) ∧ Whole v w4.heap.size 27 #[.slice aoX_xs xs.length xs.length, .slice aoX_ys ys.length ys.length] ∧ Below w.heap.size w v)
          (first | with_reducible assumption | with_reducible exact HSv1.out | with_reducible exact HSv0.out | ((with_reducible refine HK.out _ _ HSv1.out ?_); (repeat (first | with_reducible exact Below.refl _ _ | with_reducible refine Below.drew ?_ | with_reducible refine Bel_drewN ?_ _ | with_reducible refine Below.alloc ?_ (by first | omega | (simp; done) | (simp; omega)) _ | with_reducible refine Below.setCell ?_ (by first | omega | (simp; done) | (simp; omega)) _)); done) | ((with_reducible refine HK.out _ _ HSv0.out ?_); (repeat (first | with_reducible exact Below.refl _ _ | with_reducible refine Below.drew ?_ | with_reducible refine Bel_drewN ?_ _ | with_reducible refine Below.alloc ?_ (by first | omega | (simp; done) | (simp; omega)) _ | with_reducible refine Below.setCell ?_ (by first | omega | (simp; done) | (simp; omega)) _)); done) | ((with_reducible refine HK.out w5 _ hR ?_); (repeat (first | with_reducible exact Below.refl _ _ | with_reducible refine Below.drew ?_ | with_reducible refine Bel_drewN ?_ _ | with_reducible refine Below.alloc ?_ (by first | omega | (simp; done) | (simp; omega)) _ | with_reducible refine Below.setCell ?_ (by first | omega | (simp; done) | (simp; omega)) _)); done) | ((with_reducible refine HK2.out _ _ _ HSv1.out ?_) <;> (first | omega | (simp; done) | (simp; omega))) | ((with_reducible refine HK2.out _ _ _ (HK2.out _ _ _ HSv1.out ?_) ?_) <;> (first | omega | (simp; done) | (simp; omega))) | ((with_reducible refine HK2.out _ _ _ (HK2.out _ _ _ (HK2.out _ _ _ HSv1.out ?_) ?_) ?_) <;> (first | omega | (simp; done) | (simp; omega))) | exact HK.out _ _ (by with_reducible assumption) (by with_reducible assumption))
          (first | (go_at_call 32; refine (toSeed_ret k a b _).mono ?_; rintro e wt0 ⟨rfl, hbt0⟩; have zz0 := hbt0.size; (try simp at zz0); have HSv0 := Lib.hid (HK.out _ _ (by with_reducible assumption) hbt0); obtain ⟨kc0, kf0⟩ := cells_kept hbt0; (try have zt0_0 : w5.heap.size < wt0.heap.size := by omega)) | (go_at_call 33; refine (implSs_yes k a b xs ys _ rfl _ _ _ _ i _ h_a h_b (HP.out _ (by assumption)).2.2.2.1.holds (HP.out _ (by assumption)).2.2.2.2.1.holds HW.out).mono ?_; rintro e w6 ⟨rfl, hb⟩; have zz1 := hb.size; (try simp at zz1); have HSv1 := Lib.hid (HK.out _ _ (by with_reducible assumption) hb); obtain ⟨kc1, kf1⟩ := cells_kept hb; (try have zt1_0 : w5.heap.size < w6.heap.size := by omega); (try have zt1_1 : wt0.heap.size < w6.heap.size := by omega)))
        all_goals
          go_wp2_with fail
          go_meet
          refine ⟨_, rfl, rfl, rfl, ?_, ?_, ?_⟩
          · first | omega | (simp; done) | (simp; omega)
          · first | exact Whole.made _ _ _ | (have hq := ((Whole.made _ _ _).below hbt0).below hb; exact (((hq).put 0 _).put 1 _).put 2 _) | (have hq := (((Whole.made _ _ _).drew).below hbt0).below hb; exact (((hq).put 0 _).put 1 _).put 2 _) | (have hq := (Whole.made _ _ _).below hb; exact (((hq).put 0 _).put 1 _).put 2 _)
          · first | (refine HP.out _ (HK.out _ _ HSv1.out ?_); (repeat (first | with_reducible exact Below.refl _ _ | with_reducible refine Below.drew ?_ | with_reducible refine Bel_drewN ?_ _ | with_reducible refine Below.alloc ?_ (by first | omega | (simp; done) | (simp; omega)) _ | with_reducible refine Below.setCell ?_ (by first | omega | (simp; done) | (simp; omega)) _)); done) | exact HP.out _ (HK2.out _ _ _ (HK2.out _ _ _ (HK2.out _ _ _ HSv1.out (by first | omega | (simp; done) | (simp; omega))) (by first | omega | (simp; done) | (simp; omega))) (by first | omega | (simp; done) | (simp; omega)))
      case rest =>
        obtain ⟨gN, rfl, rfl, rfl, hle, hW, hS⟩ := hcut
        rename World => w6
        have z6 : w5.heap.size ≤ w6.heap.size := by have := hW.lt; omega
        obtain ⟨gN6, hgN⟩ : ∃ g, g = gN := ⟨_, rfl⟩
        subst hgN
        have ygN6 : gN6 < w6.heap.size := hW.lt
        have xgN6 : w5.heap.size ≤ gN6 := hle
        have HS6 : Hid (Whole w6 w.heap.size 43 #[.int .i64 k, .int .u64 (a : Int), .int .u64 (b : Int)] ∧ Whole w6 (w.heap.size + 1) 24 #[.slice ao_xs xs.length c_xs, .slice ao_ys ys.length c_ys] ∧ Whole w6 gN3 44 #[.int .i64 k, .int .u64 ((nxA k a b) : Int), .int .u64 ((nxB k a b) : Int)] ∧ Row w6 w3.heap.size w4.heap.size aoX_xs (fl .f32 xs) ∧ Row w6 w3.heap.size w4.heap.size aoX_ys (fl .f32 ys) ∧ Whole w6 w4.heap.size 27 #[.slice aoX_xs xs.length xs.length, .slice aoX_ys ys.length ys.length] ∧ Whole w6 gN6 44 #[.int .i64 k, .int .u64 ((nxA k a b) : Int), .int .u64 ((nxB k a b) : Int)] ∧ Below w.heap.size w w6) := Lib.hid ⟨hS.1, hS.2.1, hS.2.2.1, hS.2.2.2.1, hS.2.2.2.2.1, hS.2.2.2.2.2.1, hW, hS.2.2.2.2.2.2⟩
        clear HS5 HK HP HK2 hR hle hW hS
        have hc0 := (HS6.out.1).facts.1
        have hf0 := (HS6.out.1).facts.2
        have hz0 := (HS6.out.1).lt
        have hc1 := (HS6.out.2.1).facts.1
        have hf1 := (HS6.out.2.1).facts.2
        have hz1 := (HS6.out.2.1).lt
        have hc2 := (HS6.out.2.2.1).facts.1
        have hf2 := (HS6.out.2.2.1).facts.2
        have hz2 := (HS6.out.2.2.1).lt
        have hc5 := (HS6.out.2.2.2.2.2.1).facts.1
        have hf5 := (HS6.out.2.2.2.2.2.1).facts.2
        have hz5 := (HS6.out.2.2.2.2.2.1).lt
        have hc6 := (HS6.out.2.2.2.2.2.2.1).facts.1
        have hf6 := (HS6.out.2.2.2.2.2.2.1).facts.2
        have hz6 := (HS6.out.2.2.2.2.2.2.1).lt
        go_wp2_with fail
        clear hc0 hf0 hz0
        clear hc1 hf1 hz1
        clear hc2 hf2 hz2
        clear hc5 hf5 hz5
        clear hc6 hf6 hz6
        refine (eqSeed_same _ _ _ _).mono ?_
        rintro e w7 ⟨rfl, hb⟩
        have z7 : w6.heap.size ≤ w7.heap.size := hb.size
        have HS7 : Hid (Whole w7 w.heap.size 43 #[.int .i64 k, .int .u64 (a : Int), .int .u64 (b : Int)] ∧ Whole w7 (w.heap.size + 1) 24 #[.slice ao_xs xs.length c_xs, .slice ao_ys ys.length c_ys] ∧ Whole w7 gN3 44 #[.int .i64 k, .int .u64 ((nxA k a b) : Int), .int .u64 ((nxB k a b) : Int)] ∧ Row w7 w3.heap.size w4.heap.size aoX_xs (fl .f32 xs) ∧ Row w7 w3.heap.size w4.heap.size aoX_ys (fl .f32 ys) ∧ Whole w7 w4.heap.size 27 #[.slice aoX_xs xs.length xs.length, .slice aoX_ys ys.length ys.length] ∧ Whole w7 gN6 44 #[.int .i64 k, .int .u64 ((nxA k a b) : Int), .int .u64 ((nxB k a b) : Int)] ∧ Below w.heap.size w w7) := Lib.hid ⟨HS6.out.1.below hb, HS6.out.2.1.below hb, HS6.out.2.2.1.below hb, HS6.out.2.2.2.1.below hb, HS6.out.2.2.2.2.1.below hb, HS6.out.2.2.2.2.2.1.below hb, HS6.out.2.2.2.2.2.2.1.below hb, Bel_next HS6.out.2.2.2.2.2.2.2 hb⟩
        clear HS6 hb
        have hc0 := (HS7.out.1).facts.1
        have hf0 := (HS7.out.1).facts.2
        have hz0 := (HS7.out.1).lt
        have hc1 := (HS7.out.2.1).facts.1
        have hf1 := (HS7.out.2.1).facts.2
        have hz1 := (HS7.out.2.1).lt
        have hc2 := (HS7.out.2.2.1).facts.1
        have hf2 := (HS7.out.2.2.1).facts.2
        have hz2 := (HS7.out.2.2.1).lt
        have hc5 := (HS7.out.2.2.2.2.2.1).facts.1
        have hf5 := (HS7.out.2.2.2.2.2.1).facts.2
        have hz5 := (HS7.out.2.2.2.2.2.1).lt
        have hc6 := (HS7.out.2.2.2.2.2.2.1).facts.1
        have hf6 := (HS7.out.2.2.2.2.2.2.1).facts.2
        have hz6 := (HS7.out.2.2.2.2.2.2.1).lt
        go_wp2_with (first | (refine wpList_widen_g _ _ _ _ rfl Try.underlying32 Try.underlying36 rfl ?_; intro r n hr) | (go_at_call 24; fail))
        clear hc0 hf0 hz0
        clear hc1 hf1 hz1
        clear hc2 hf2 hz2
        clear hc5 hf5 hz5
        clear hc6 hf6 hz6
        refine (sameFloat_any _ _ (widen (av .f32 (xs[i]?.getD 0))) (by assumption) (by assumption) _).mono ?_
        rintro e w' ⟨n3, rfl, rfl⟩
        generalize hW : World.drewN _ n3 = w8
        repeat rw [World.drewN_drewN] at hW
        have z8 : w7.heap.size ≤ w8.heap.size := by rw [← hW]; exact Nat.le_refl _
        have HS8 : Hid (Whole w8 w.heap.size 43 #[.int .i64 k, .int .u64 (a : Int), .int .u64 (b : Int)] ∧ Whole w8 (w.heap.size + 1) 24 #[.slice ao_xs xs.length c_xs, .slice ao_ys ys.length c_ys] ∧ Whole w8 gN3 44 #[.int .i64 k, .int .u64 ((nxA k a b) : Int), .int .u64 ((nxB k a b) : Int)] ∧ Row w8 w3.heap.size w4.heap.size aoX_xs (fl .f32 xs) ∧ Row w8 w3.heap.size w4.heap.size aoX_ys (fl .f32 ys) ∧ Whole w8 w4.heap.size 27 #[.slice aoX_xs xs.length xs.length, .slice aoX_ys ys.length ys.length] ∧ Whole w8 gN6 44 #[.int .i64 k, .int .u64 ((nxA k a b) : Int), .int .u64 ((nxB k a b) : Int)] ∧ Below w.heap.size w w8) := Lib.hid ⟨by rw [← hW]; exact (HS7.out.1).drewN _, by rw [← hW]; exact (HS7.out.2.1).drewN _, by rw [← hW]; exact (HS7.out.2.2.1).drewN _, by rw [← hW]; exact (HS7.out.2.2.2.1).drewN _, by rw [← hW]; exact (HS7.out.2.2.2.2.1).drewN _, by rw [← hW]; exact (HS7.out.2.2.2.2.2.1).drewN _, by rw [← hW]; exact (HS7.out.2.2.2.2.2.2.1).drewN _, by rw [← hW]; exact Bel_drewN HS7.out.2.2.2.2.2.2.2 _⟩
        clear HS7 hW
        have hc0 := (HS8.out.1).facts.1
        have hf0 := (HS8.out.1).facts.2
        have hz0 := (HS8.out.1).lt
        have hc1 := (HS8.out.2.1).facts.1
        have hf1 := (HS8.out.2.1).facts.2
        have hz1 := (HS8.out.2.1).lt
        have hc2 := (HS8.out.2.2.1).facts.1
        have hf2 := (HS8.out.2.2.1).facts.2
        have hz2 := (HS8.out.2.2.1).lt
        have hc5 := (HS8.out.2.2.2.2.2.1).facts.1
        have hf5 := (HS8.out.2.2.2.2.2.1).facts.2
        have hz5 := (HS8.out.2.2.2.2.2.1).lt
        have hc6 := (HS8.out.2.2.2.2.2.2.1).facts.1
        have hf6 := (HS8.out.2.2.2.2.2.2.1).facts.2
        have hz6 := (HS8.out.2.2.2.2.2.2.1).lt
        go_wp2_with fail
        clear hc0 hf0 hz0
        clear hc1 hf1 hz1
        clear hc2 hf2 hz2
        clear hc5 hf5 hz5
        clear hc6 hf6 hz6
        have HK : Hid (∀ v v' : World, (v.cell? ⟨w4.heap.size, 0, none⟩ = some (.slice aoX_xs xs.length xs.length) ∧ v.cell? ⟨w4.heap.size, 1, none⟩ = some (.slice aoX_ys ys.length ys.length) ∧ v.cell? ⟨(w.heap.size + 1), 0, none⟩ = some (.slice ao_xs xs.length c_xs) ∧ v.cell? ⟨(w.heap.size + 1), 1, none⟩ = some (.slice ao_ys ys.length c_ys) ∧ w8.heap.size ≤ v.heap.size ∧ Whole v w.heap.size 43 #[.int .i64 k, .int .u64 (a : Int), .int .u64 (b : Int)] ∧ Whole v (w.heap.size + 1) 24 #[.slice ao_xs xs.length c_xs, .slice ao_ys ys.length c_ys] ∧ Whole v gN3 44 #[.int .i64 k, .int .u64 ((nxA k a b) : Int), .int .u64 ((nxB k a b) : Int)] ∧ Row v w3.heap.size w4.heap.size aoX_xs (fl .f32 xs) ∧ Row v w3.heap.size w4.heap.size aoX_ys (fl .f32 ys) ∧ Whole v w4.heap.size 27 #[.slice aoX_xs xs.length xs.length, .slice aoX_ys ys.length ys.length] ∧ Whole v gN6 44 #[.int .i64 k, .int .u64 ((nxA k a b) : Int), .int .u64 ((nxB k a b) : Int)] ∧ Below w.heap.size w v) → Below v.heap.size v v' → (v'.cell? ⟨w4.heap.size, 0, none⟩ = some (.slice aoX_xs xs.length xs.length) ∧ v'.cell? ⟨w4.heap.size, 1, none⟩ = some (.slice aoX_ys ys.length ys.length) ∧ v'.cell? ⟨(w.heap.size + 1), 0, none⟩ = some (.slice ao_xs xs.length c_xs) ∧ v'.cell? ⟨(w.heap.size + 1), 1, none⟩ = some (.slice ao_ys ys.length c_ys) ∧ w8.heap.size ≤ v'.heap.size ∧ Whole v' w.heap.size 43 #[.int .i64 k, .int .u64 (a : Int), .int .u64 (b : Int)] ∧ Whole v' (w.heap.size + 1) 24 #[.slice ao_xs xs.length c_xs, .slice ao_ys ys.length c_ys] ∧ Whole v' gN3 44 #[.int .i64 k, .int .u64 ((nxA k a b) : Int), .int .u64 ((nxB k a b) : Int)] ∧ Row v' w3.heap.size w4.heap.size aoX_xs (fl .f32 xs) ∧ Row v' w3.heap.size w4.heap.size aoX_ys (fl .f32 ys) ∧ Whole v' w4.heap.size 27 #[.slice aoX_xs xs.length xs.length, .slice aoX_ys ys.length ys.length] ∧ Whole v' gN6 44 #[.int .i64 k, .int .u64 ((nxA k a b) : Int), .int .u64 ((nxB k a b) : Int)] ∧ Below w.heap.size w v')) := Lib.hid (fun v v' h hb => ⟨(by rw [Below.cell hb (World.block_lt_of_cell? _ _ h.1)]; exact h.1), (by rw [Below.cell hb (World.block_lt_of_cell? _ _ h.2.1)]; exact h.2.1), (by rw [Below.cell hb (World.block_lt_of_cell? _ _ h.2.2.1)]; exact h.2.2.1), (by rw [Below.cell hb (World.block_lt_of_cell? _ _ h.2.2.2.1)]; exact h.2.2.2.1), Nat.le_trans h.2.2.2.2.1 hb.size, h.2.2.2.2.2.1.below hb, h.2.2.2.2.2.2.1.below hb, h.2.2.2.2.2.2.2.1.below hb, h.2.2.2.2.2.2.2.2.1.below hb, h.2.2.2.2.2.2.2.2.2.1.below hb, h.2.2.2.2.2.2.2.2.2.2.1.below hb, h.2.2.2.2.2.2.2.2.2.2.2.1.below hb, Bel_next h.2.2.2.2.2.2.2.2.2.2.2.2 hb⟩)
        have HP : Hid (∀ v : World, (v.cell? ⟨w4.heap.size, 0, none⟩ = some (.slice aoX_xs xs.length xs.length) ∧ v.cell? ⟨w4.heap.size, 1, none⟩ = some (.slice aoX_ys ys.length ys.length) ∧ v.cell? ⟨(w.heap.size + 1), 0, none⟩ = some (.slice ao_xs xs.length c_xs) ∧ v.cell? ⟨(w.heap.size + 1), 1, none⟩ = some (.slice ao_ys ys.length c_ys) ∧ w8.heap.size ≤ v.heap.size ∧ Whole v w.heap.size 43 #[.int .i64 k, .int .u64 (a : Int), .int .u64 (b : Int)] ∧ Whole v (w.heap.size + 1) 24 #[.slice ao_xs xs.length c_xs, .slice ao_ys ys.length c_ys] ∧ Whole v gN3 44 #[.int .i64 k, .int .u64 ((nxA k a b) : Int), .int .u64 ((nxB k a b) : Int)] ∧ Row v w3.heap.size w4.heap.size aoX_xs (fl .f32 xs) ∧ Row v w3.heap.size w4.heap.size aoX_ys (fl .f32 ys) ∧ Whole v w4.heap.size 27 #[.slice aoX_xs xs.length xs.length, .slice aoX_ys ys.length ys.length] ∧ Whole v gN6 44 #[.int .i64 k, .int .u64 ((nxA k a b) : Int), .int .u64 ((nxB k a b) : Int)] ∧ Below w.heap.size w v) → (Whole v w.heap.size 43 #[.int .i64 k, .int .u64 (a : Int), .int .u64 (b : Int)] ∧ Whole v (w.heap.size + 1) 24 #[.slice ao_xs xs.length c_xs, .slice ao_ys ys.length c_ys] ∧ Whole v gN3 44 #[.int .i64 k, .int .u64 ((nxA k a b) : Int), .int .u64 ((nxB k a b) : Int)] ∧ Row v w3.heap.size w4.heap.size aoX_xs (fl .f32 xs) ∧ Row v w3.heap.size w4.heap.size aoX_ys (fl .f32 ys) ∧ Whole v w4.heap.size 27 #[.slice aoX_xs xs.length xs.length, .slice aoX_ys ys.length ys.length] ∧ Whole v gN6 44 #[.int .i64 k, .int .u64 ((nxA k a b) : Int), .int .u64 ((nxB k a b) : Int)] ∧ Below w.heap.size w v)) := Lib.hid (fun v h => h.2.2.2.2.2)
        have hR : w8.cell? ⟨w4.heap.size, 0, none⟩ = some (.slice aoX_xs xs.length xs.length) ∧ w8.cell? ⟨w4.heap.size, 1, none⟩ = some (.slice aoX_ys ys.length ys.length) ∧ w8.cell? ⟨(w.heap.size + 1), 0, none⟩ = some (.slice ao_xs xs.length c_xs) ∧ w8.cell? ⟨(w.heap.size + 1), 1, none⟩ = some (.slice ao_ys ys.length c_ys) ∧ w8.heap.size ≤ w8.heap.size ∧ Whole w8 w.heap.size 43 #[.int .i64 k, .int .u64 (a : Int), .int .u64 (b : Int)] ∧ Whole w8 (w.heap.size + 1) 24 #[.slice ao_xs xs.length c_xs, .slice ao_ys ys.length c_ys] ∧ Whole w8 gN3 44 #[.int .i64 k, .int .u64 ((nxA k a b) : Int), .int .u64 ((nxB k a b) : Int)] ∧ Row w8 w3.heap.size w4.heap.size aoX_xs (fl .f32 xs) ∧ Row w8 w3.heap.size w4.heap.size aoX_ys (fl .f32 ys) ∧ Whole w8 w4.heap.size 27 #[.slice aoX_xs xs.length xs.length, .slice aoX_ys ys.length ys.length] ∧ Whole w8 gN6 44 #[.int .i64 k, .int .u64 ((nxA k a b) : Int), .int .u64 ((nxB k a b) : Int)] ∧ Below w.heap.size w w8 := ⟨(HS8.out.2.2.2.2.2.1).cell 0, (HS8.out.2.2.2.2.2.1).cell 1, (HS8.out.2.1).cell 0, (HS8.out.2.1).cell 1, Nat.le_refl _, HS8.out.1, HS8.out.2.1, HS8.out.2.2.1, HS8.out.2.2.2.1, HS8.out.2.2.2.2.1, HS8.out.2.2.2.2.2.1, HS8.out.2.2.2.2.2.2.1, HS8.out.2.2.2.2.2.2.2⟩
        go_region_held3 (fun v => v.cell? ⟨w4.heap.size, 0, none⟩ = some (.slice aoX_xs xs.length xs.length) ∧ v.cell? ⟨w4.heap.size, 1, none⟩ = some (.slice aoX_ys ys.length ys.length) ∧ v.cell? ⟨(w.heap.size + 1), 0, none⟩ = some (.slice ao_xs xs.length c_xs) ∧ v.cell? ⟨(w.heap.size + 1), 1, none⟩ = some (.slice ao_ys ys.length c_ys) ∧ w8.heap.size ≤ v.heap.size ∧ Whole v w.heap.size 43 #[.int .i64 k, .int .u64 (a : Int), .int .u64 (b : Int)] ∧ Whole v (w.heap.size + 1) 24 #[.slice ao_xs xs.length c_xs, .slice ao_ys ys.length c_ys] ∧ Whole v gN3 44 #[.int .i64 k, .int .u64 ((nxA k a b) : Int), .int .u64 ((nxB k a b) : Int)] ∧ Row v w3.heap.size w4.heap.size aoX_xs (fl .f32 xs) ∧ Row v w3.heap.size w4.heap.size aoX_ys (fl .f32 ys) ∧ Whole v w4.heap.size 27 #[.slice aoX_xs xs.length xs.length, .slice aoX_ys ys.length ys.length] ∧ Whole v gN6 44 #[.int .i64 k, .int .u64 ((nxA k a b) : Int), .int .u64 ((nxB k a b) : Int)] ∧ Below w.heap.size w v)
          (first | assumption | exact HK.out _ _ (by assumption) (by assumption) | exact HK.out _ _ (by assumption) ((Below.refl _ _).drew) | (refine HK.out _ _ (by assumption) ?_; (repeat (first | with_reducible exact Below.refl _ _ | with_reducible refine Below.drew ?_ | with_reducible refine Bel_drewN ?_ _ | with_reducible refine Below.alloc ?_ (by first | omega | (simp; done) | (simp; omega)) _ | with_reducible refine Below.setCell ?_ (by first | omega | (simp; done) | (simp; omega)) _)); done))
          (first | (go_at_call 17; refine (toShare_any xs _ _ ys _ _ _ (Holds.below HX_xs.out (HP.out _ (by assumption)).2.2.2.2.2.2.2) (Holds.below HX_ys.out (HP.out _ (by assumption)).2.2.2.2.2.2.2) hn_xs hn_ys).mono ?_; rintro e wt ⟨aoY_xs, aoY_ys, rfl, rowY_xs, rowY_ys, hbt⟩) | (go_at_call 19; refine (eqShare_same xs _ rfl _ _ _ _ ys _ rfl _ _ _ _ _ ((HP.out _ (by assumption)).2.2.2.1.holds) (by exact rowY_xs.holds) ((HP.out _ (by assumption)).2.2.2.2.1.holds) (by exact rowY_ys.holds) hn_xs hn_ys).mono ?_; rintro e w9 ⟨rfl, hb⟩))
        have hN := (HK.out _ _ (HK.out _ _ hR (by first | exact hbt | exact Bel_next (Below.refl _ _).drew hbt)) (by first | exact hb | exact Bel_next (Below.refl _ _).drew hb))
        have z9 : w8.heap.size ≤ w9.heap.size := hN.2.2.2.2.1
        have HS9 : Hid (Whole w9 w.heap.size 43 #[.int .i64 k, .int .u64 (a : Int), .int .u64 (b : Int)] ∧ Whole w9 (w.heap.size + 1) 24 #[.slice ao_xs xs.length c_xs, .slice ao_ys ys.length c_ys] ∧ Whole w9 gN3 44 #[.int .i64 k, .int .u64 ((nxA k a b) : Int), .int .u64 ((nxB k a b) : Int)] ∧ Row w9 w3.heap.size w4.heap.size aoX_xs (fl .f32 xs) ∧ Row w9 w3.heap.size w4.heap.size aoX_ys (fl .f32 ys) ∧ Whole w9 w4.heap.size 27 #[.slice aoX_xs xs.length xs.length, .slice aoX_ys ys.length ys.length] ∧ Whole w9 gN6 44 #[.int .i64 k, .int .u64 ((nxA k a b) : Int), .int .u64 ((nxB k a b) : Int)] ∧ Below w.heap.size w w9) := Lib.hid ⟨hN.2.2.2.2.2.1, hN.2.2.2.2.2.2.1, hN.2.2.2.2.2.2.2.1, hN.2.2.2.2.2.2.2.2.1, hN.2.2.2.2.2.2.2.2.2.1, hN.2.2.2.2.2.2.2.2.2.2.1, hN.2.2.2.2.2.2.2.2.2.2.2.1, hN.2.2.2.2.2.2.2.2.2.2.2.2⟩
        clear HS8 hN hR HK HP hb hbt
        clear rowY_xs rowY_ys
        have hc0 := (HS9.out.1).facts.1
        have hf0 := (HS9.out.1).facts.2
        have hz0 := (HS9.out.1).lt
        have hc1 := (HS9.out.2.1).facts.1
        have hf1 := (HS9.out.2.1).facts.2
        have hz1 := (HS9.out.2.1).lt
        have hc2 := (HS9.out.2.2.1).facts.1
        have hf2 := (HS9.out.2.2.1).facts.2
        have hz2 := (HS9.out.2.2.1).lt
        have hc5 := (HS9.out.2.2.2.2.2.1).facts.1
        have hf5 := (HS9.out.2.2.2.2.2.1).facts.2
        have hz5 := (HS9.out.2.2.2.2.2.1).lt
        have hc6 := (HS9.out.2.2.2.2.2.2.1).facts.1
        have hf6 := (HS9.out.2.2.2.2.2.2.1).facts.2
        have hz6 := (HS9.out.2.2.2.2.2.2.1).lt
        go_wp2_with fail
        clear hc0 hf0 hz0
        clear hc1 hf1 hz1
        clear hc2 hf2 hz2
        clear hc5 hf5 hz5
        clear hc6 hf6 hz6
        go_ret
        exact ⟨rfl, Bel_next HS9.out.2.2.2.2.2.2.2 (by repeat (first | with_reducible exact Below.refl _ _ | with_reducible refine Below.drew ?_ | with_reducible refine Bel_drewN ?_ _ | with_reducible refine Below.alloc ?_ (by first | omega | (simp; done) | (simp; omega)) _ | with_reducible refine Below.setCell ?_ (by first | omega | (simp; done) | (simp; omega)) _))⟩
  have HV := Lib.hid hv0
  clear hv0
  go_enter Try.func9, Try.ntmps9
  have HS0 : Hid (Below w.heap.size w w) := Lib.hid (Below.refl _ _)
  go_wp2_with fail
  generalize hW : World.alloc (World.alloc w _) _ = w1
  have hb : Below w.heap.size w w1 := by rw [← hW]; exact (by repeat (first | with_reducible exact Below.refl _ _ | with_reducible refine Below.drew ?_ | with_reducible refine Bel_drewN ?_ _ | with_reducible refine Below.alloc ?_ (by first | omega | (simp; done) | (simp; omega)) _ | with_reducible refine Below.setCell ?_ (by first | omega | (simp; done) | (simp; omega)) _))
  have z1 : w.heap.size + 2 ≤ w1.heap.size := by rw [← hW]; simp
  have HS1 : Hid (Whole w1 w.heap.size 43 #[.int .i64 k, .int .u64 (a : Int), .int .u64 (b : Int)] ∧ Whole w1 (w.heap.size + 1) 24 #[.slice ao_xs xs.length c_xs, .slice ao_ys ys.length c_ys] ∧ Below w.heap.size w w1) := Lib.hid ⟨by rw [← hW]; exact (Whole.made _ _ _).alloc _, by rw [← hW]; exact Whole.made2 _ _ _ _, Bel_next HS0.out hb⟩
  clear HS0 hW hb
  refine (szShare_yes xs _ _ ys _ _ (1048576) _ HL0.out (by omega)).mono ?_
  rintro e w2 ⟨rfl, hb⟩
  have z2 : w1.heap.size ≤ w2.heap.size := hb.size
  have HS2 : Hid (Whole w2 w.heap.size 43 #[.int .i64 k, .int .u64 (a : Int), .int .u64 (b : Int)] ∧ Whole w2 (w.heap.size + 1) 24 #[.slice ao_xs xs.length c_xs, .slice ao_ys ys.length c_ys] ∧ Below w.heap.size w w2) := Lib.hid ⟨HS1.out.1.below hb, HS1.out.2.1.below hb, Bel_next HS1.out.2.2 hb⟩
  clear HS1 hb
  have hc0 := (HS2.out.1).facts.1
  have hf0 := (HS2.out.1).facts.2
  have hz0 := (HS2.out.1).lt
  have hc1 := (HS2.out.2.1).facts.1
  have hf1 := (HS2.out.2.1).facts.2
  have hz1 := (HS2.out.2.1).lt
  go_wp2_with fail
  clear hc0 hf0 hz0
  clear hc1 hf1 hz1
  have HK : Hid (∀ v v' : World, (v.cell? ⟨w.heap.size, 0, none⟩ = some (.int .i64 k) ∧ v.cell? ⟨w.heap.size, 1, none⟩ = some (.int .u64 (a : Int)) ∧ v.cell? ⟨w.heap.size, 2, none⟩ = some (.int .u64 (b : Int)) ∧ v.cell? ⟨(w.heap.size + 1), 0, none⟩ = some (.slice ao_xs xs.length c_xs) ∧ v.cell? ⟨(w.heap.size + 1), 1, none⟩ = some (.slice ao_ys ys.length c_ys) ∧ w2.heap.size ≤ v.heap.size ∧ Whole v w.heap.size 43 #[.int .i64 k, .int .u64 (a : Int), .int .u64 (b : Int)] ∧ Whole v (w.heap.size + 1) 24 #[.slice ao_xs xs.length c_xs, .slice ao_ys ys.length c_ys] ∧ Below w.heap.size w v) → Below v.heap.size v v' → (v'.cell? ⟨w.heap.size, 0, none⟩ = some (.int .i64 k) ∧ v'.cell? ⟨w.heap.size, 1, none⟩ = some (.int .u64 (a : Int)) ∧ v'.cell? ⟨w.heap.size, 2, none⟩ = some (.int .u64 (b : Int)) ∧ v'.cell? ⟨(w.heap.size + 1), 0, none⟩ = some (.slice ao_xs xs.length c_xs) ∧ v'.cell? ⟨(w.heap.size + 1), 1, none⟩ = some (.slice ao_ys ys.length c_ys) ∧ w2.heap.size ≤ v'.heap.size ∧ Whole v' w.heap.size 43 #[.int .i64 k, .int .u64 (a : Int), .int .u64 (b : Int)] ∧ Whole v' (w.heap.size + 1) 24 #[.slice ao_xs xs.length c_xs, .slice ao_ys ys.length c_ys] ∧ Below w.heap.size w v')) := Lib.hid (fun v v' h hb => ⟨(by rw [Below.cell hb (World.block_lt_of_cell? _ _ h.1)]; exact h.1), (by rw [Below.cell hb (World.block_lt_of_cell? _ _ h.2.1)]; exact h.2.1), (by rw [Below.cell hb (World.block_lt_of_cell? _ _ h.2.2.1)]; exact h.2.2.1), (by rw [Below.cell hb (World.block_lt_of_cell? _ _ h.2.2.2.1)]; exact h.2.2.2.1), (by rw [Below.cell hb (World.block_lt_of_cell? _ _ h.2.2.2.2.1)]; exact h.2.2.2.2.1), Nat.le_trans h.2.2.2.2.2.1 hb.size, h.2.2.2.2.2.2.1.below hb, h.2.2.2.2.2.2.2.1.below hb, Bel_next h.2.2.2.2.2.2.2.2 hb⟩)
  have HP : Hid (∀ v : World, (v.cell? ⟨w.heap.size, 0, none⟩ = some (.int .i64 k) ∧ v.cell? ⟨w.heap.size, 1, none⟩ = some (.int .u64 (a : Int)) ∧ v.cell? ⟨w.heap.size, 2, none⟩ = some (.int .u64 (b : Int)) ∧ v.cell? ⟨(w.heap.size + 1), 0, none⟩ = some (.slice ao_xs xs.length c_xs) ∧ v.cell? ⟨(w.heap.size + 1), 1, none⟩ = some (.slice ao_ys ys.length c_ys) ∧ w2.heap.size ≤ v.heap.size ∧ Whole v w.heap.size 43 #[.int .i64 k, .int .u64 (a : Int), .int .u64 (b : Int)] ∧ Whole v (w.heap.size + 1) 24 #[.slice ao_xs xs.length c_xs, .slice ao_ys ys.length c_ys] ∧ Below w.heap.size w v) → (Whole v w.heap.size 43 #[.int .i64 k, .int .u64 (a : Int), .int .u64 (b : Int)] ∧ Whole v (w.heap.size + 1) 24 #[.slice ao_xs xs.length c_xs, .slice ao_ys ys.length c_ys] ∧ Below w.heap.size w v)) := Lib.hid (fun v h => h.2.2.2.2.2.2)
  have hR : w2.cell? ⟨w.heap.size, 0, none⟩ = some (.int .i64 k) ∧ w2.cell? ⟨w.heap.size, 1, none⟩ = some (.int .u64 (a : Int)) ∧ w2.cell? ⟨w.heap.size, 2, none⟩ = some (.int .u64 (b : Int)) ∧ w2.cell? ⟨(w.heap.size + 1), 0, none⟩ = some (.slice ao_xs xs.length c_xs) ∧ w2.cell? ⟨(w.heap.size + 1), 1, none⟩ = some (.slice ao_ys ys.length c_ys) ∧ w2.heap.size ≤ w2.heap.size ∧ Whole w2 w.heap.size 43 #[.int .i64 k, .int .u64 (a : Int), .int .u64 (b : Int)] ∧ Whole w2 (w.heap.size + 1) 24 #[.slice ao_xs xs.length c_xs, .slice ao_ys ys.length c_ys] ∧ Below w.heap.size w w2 := ⟨(HS2.out.1).cell 0, (HS2.out.1).cell 1, (HS2.out.1).cell 2, (HS2.out.2.1).cell 0, (HS2.out.2.1).cell 1, Nat.le_refl _, HS2.out.1, HS2.out.2.1, HS2.out.2.2⟩
  have HK2 : Hid (∀ (v : World) (q : Addr) (u : Value), (v.cell? ⟨w.heap.size, 0, none⟩ = some (.int .i64 k) ∧ v.cell? ⟨w.heap.size, 1, none⟩ = some (.int .u64 (a : Int)) ∧ v.cell? ⟨w.heap.size, 2, none⟩ = some (.int .u64 (b : Int)) ∧ v.cell? ⟨(w.heap.size + 1), 0, none⟩ = some (.slice ao_xs xs.length c_xs) ∧ v.cell? ⟨(w.heap.size + 1), 1, none⟩ = some (.slice ao_ys ys.length c_ys) ∧ w2.heap.size ≤ v.heap.size ∧ Whole v w.heap.size 43 #[.int .i64 k, .int .u64 (a : Int), .int .u64 (b : Int)] ∧ Whole v (w.heap.size + 1) 24 #[.slice ao_xs xs.length c_xs, .slice ao_ys ys.length c_ys] ∧ Below w.heap.size w v) → w2.heap.size ≤ q.block → ((v.setCell q u).cell? ⟨w.heap.size, 0, none⟩ = some (.int .i64 k) ∧ (v.setCell q u).cell? ⟨w.heap.size, 1, none⟩ = some (.int .u64 (a : Int)) ∧ (v.setCell q u).cell? ⟨w.heap.size, 2, none⟩ = some (.int .u64 (b : Int)) ∧ (v.setCell q u).cell? ⟨(w.heap.size + 1), 0, none⟩ = some (.slice ao_xs xs.length c_xs) ∧ (v.setCell q u).cell? ⟨(w.heap.size + 1), 1, none⟩ = some (.slice ao_ys ys.length c_ys) ∧ w2.heap.size ≤ (v.setCell q u).heap.size ∧ Whole (v.setCell q u) w.heap.size 43 #[.int .i64 k, .int .u64 (a : Int), .int .u64 (b : Int)] ∧ Whole (v.setCell q u) (w.heap.size + 1) 24 #[.slice ao_xs xs.length c_xs, .slice ao_ys ys.length c_ys] ∧ Below w.heap.size w (v.setCell q u))) := Lib.hid (fun v q u h hq => ⟨((World.cell?_of_block (a := ⟨w.heap.size, 0, none⟩) (Below.heap_setCell v q u _ (by show ¬ _ = _; simp only []; omega))).trans h.1), ((World.cell?_of_block (a := ⟨w.heap.size, 1, none⟩) (Below.heap_setCell v q u _ (by show ¬ _ = _; simp only []; omega))).trans h.2.1), ((World.cell?_of_block (a := ⟨w.heap.size, 2, none⟩) (Below.heap_setCell v q u _ (by show ¬ _ = _; simp only []; omega))).trans h.2.2.1), ((World.cell?_of_block (a := ⟨(w.heap.size + 1), 0, none⟩) (Below.heap_setCell v q u _ (by show ¬ _ = _; simp only []; omega))).trans h.2.2.2.1), ((World.cell?_of_block (a := ⟨(w.heap.size + 1), 1, none⟩) (Below.heap_setCell v q u _ (by show ¬ _ = _; simp only []; omega))).trans h.2.2.2.2.1), (by simpa using h.2.2.2.2.2.1), h.2.2.2.2.2.2.1.far (by omega) _, h.2.2.2.2.2.2.2.1.far (by omega) _, Below.setCell h.2.2.2.2.2.2.2.2 (by omega) _⟩)
  go_cut [6, 7, 8] from 13 (fun s0 s1 s2 wx => ∃ gN : Nat, s0 = .pointer (some ⟨gN, 0, none⟩) ∧ s1 = .float .f32 0 ∧ s2 = .bool false ∧ w2.heap.size ≤ gN ∧ Whole wx gN 44 #[.int .i64 0, .int .u64 (0 : Int), .int .u64 (0 : Int)] ∧ Whole wx w.heap.size 43 #[.int .i64 k, .int .u64 (a : Int), .int .u64 (b : Int)] ∧ Whole wx (w.heap.size + 1) 24 #[.slice ao_xs xs.length c_xs, .slice ao_ys ys.length c_ys] ∧ Below w.heap.size w wx)
  case first =>
    go_region_held3 (fun v => v.cell? ⟨w.heap.size, 0, none⟩ = some (.int .i64 k) ∧ v.cell? ⟨w.heap.size, 1, none⟩ = some (.int .u64 (a : Int)) ∧ v.cell? ⟨w.heap.size, 2, none⟩ = some (.int .u64 (b : Int)) ∧ v.cell? ⟨(w.heap.size + 1), 0, none⟩ = some (.slice ao_xs xs.length c_xs) ∧ v.cell? ⟨(w.heap.size + 1), 1, none⟩ = some (.slice ao_ys ys.length c_ys) ∧ w2.heap.size ≤ v.heap.size ∧ Whole v w.heap.size 43 #[.int .i64 k, .int .u64 (a : Int), .int .u64 (b : Int)] ∧ Whole v (w.heap.size + 1) 24 #[.slice ao_xs xs.length c_xs, .slice ao_ys ys.length c_ys] ∧ Below w.heap.size w v)
      (first | with_reducible assumption | with_reducible exact HSv2.out | with_reducible exact HSv1.out | with_reducible exact HSv0.out | ((with_reducible refine HK.out _ _ HSv2.out ?_); (repeat (first | with_reducible exact Below.refl _ _ | with_reducible refine Below.drew ?_ | with_reducible refine Bel_drewN ?_ _ | with_reducible refine Below.alloc ?_ (by first | omega | (simp; done) | (simp; omega)) _ | with_reducible refine Below.setCell ?_ (by first | omega | (simp; done) | (simp; omega)) _)); done) | ((with_reducible refine HK.out _ _ HSv1.out ?_); (repeat (first | with_reducible exact Below.refl _ _ | with_reducible refine Below.drew ?_ | with_reducible refine Bel_drewN ?_ _ | with_reducible refine Below.alloc ?_ (by first | omega | (simp; done) | (simp; omega)) _ | with_reducible refine Below.setCell ?_ (by first | omega | (simp; done) | (simp; omega)) _)); done) | ((with_reducible refine HK.out _ _ HSv0.out ?_); (repeat (first | with_reducible exact Below.refl _ _ | with_reducible refine Below.drew ?_ | with_reducible refine Bel_drewN ?_ _ | with_reducible refine Below.alloc ?_ (by first | omega | (simp; done) | (simp; omega)) _ | with_reducible refine Below.setCell ?_ (by first | omega | (simp; done) | (simp; omega)) _)); done) | ((with_reducible refine HK.out w2 _ hR ?_); (repeat (first | with_reducible exact Below.refl _ _ | with_reducible refine Below.drew ?_ | with_reducible refine Bel_drewN ?_ _ | with_reducible refine Below.alloc ?_ (by first | omega | (simp; done) | (simp; omega)) _ | with_reducible refine Below.setCell ?_ (by first | omega | (simp; done) | (simp; omega)) _)); done) | ((with_reducible refine HK2.out _ _ _ HSv2.out ?_) <;> (first | omega | (simp; done) | (simp; omega))) | ((with_reducible refine HK2.out _ _ _ (HK2.out _ _ _ HSv2.out ?_) ?_) <;> (first | omega | (simp; done) | (simp; omega))) | ((with_reducible refine HK2.out _ _ _ (HK2.out _ _ _ (HK2.out _ _ _ HSv2.out ?_) ?_) ?_) <;> (first | omega | (simp; done) | (simp; omega))) | exact HK.out _ _ (by with_reducible assumption) (by with_reducible assumption))
      (first | (go_at_call 32; refine (toSeed_ret k a b _).mono ?_; rintro e wt0 ⟨rfl, hbt0⟩; have zz0 := hbt0.size; (try simp at zz0); have HSv0 := Lib.hid (HK.out _ _ (by with_reducible assumption) hbt0); obtain ⟨kc0, kf0⟩ := cells_kept hbt0; (try have zt0_0 : w2.heap.size < wt0.heap.size := by omega)) | (go_at_call 17; refine (toShare_any xs _ _ ys _ _ _ (Holds.below HX_xs.out (HP.out _ (by assumption)).2.2) (Holds.below HX_ys.out (HP.out _ (by assumption)).2.2) hn_xs hn_ys).mono ?_; rintro e wt1 ⟨aosd_xs, aosd_ys, rfl, rowsd_xs, rowsd_ys, hbt1⟩; have zz1 := hbt1.size; (try simp at zz1); have HSv1 := Lib.hid (HK.out _ _ (by with_reducible assumption) hbt1); obtain ⟨kc1, kf1⟩ := cells_kept hbt1; (try have zt1_0 : w2.heap.size < wt1.heap.size := by omega); (try have zt1_1 : wt0.heap.size < wt1.heap.size := by omega)) | (go_at_call 31; refine (specSs_no k a b xs ys _ rfl _ _ _ _ _ (by first | exact (rowsd_xs).holds | (refine (Row.below rowsd_xs ?_).holds; (repeat (first | with_reducible exact Below.refl _ _ | with_reducible refine Below.drew ?_ | with_reducible refine Bel_drewN ?_ _ | with_reducible refine Below.alloc ?_ (by first | omega | (simp; done) | (simp; omega)) _ | with_reducible refine Below.setCell ?_ (by first | omega | (simp; done) | (simp; omega)) _)); done)) (by first | exact (rowsd_ys).holds | (refine (Row.below rowsd_ys ?_).holds; (repeat (first | with_reducible exact Below.refl _ _ | with_reducible refine Below.drew ?_ | with_reducible refine Bel_drewN ?_ _ | with_reducible refine Below.alloc ?_ (by first | omega | (simp; done) | (simp; omega)) _ | with_reducible refine Below.setCell ?_ (by first | omega | (simp; done) | (simp; omega)) _)); done)) hn_xs hn_ys (ssC_not HV.out)).mono ?_; rintro e w3 ⟨rfl, hb⟩; have zz2 := hb.size; (try simp at zz2); have HSv2 := Lib.hid (HK.out _ _ (by with_reducible assumption) hb); obtain ⟨kc2, kf2⟩ := cells_kept hb; (try have zt2_0 : w2.heap.size < w3.heap.size := by omega); (try have zt2_1 : wt0.heap.size < w3.heap.size := by omega); (try have zt2_2 : wt1.heap.size < w3.heap.size := by omega)))
    all_goals
      go_wp2_with fail
      go_meet
      refine ⟨_, rfl, rfl, rfl, ?_, ?_, ?_⟩
      · first | omega | (simp; done) | (simp; omega)
      · first | exact Whole.made _ _ _ | (have hq := (((Whole.made _ _ _).below hbt0).below hbt1).below hb; exact (((hq).put 0 _).put 1 _).put 2 _) | (have hq := ((((Whole.made _ _ _).drew).below hbt0).below hbt1).below hb; exact (((hq).put 0 _).put 1 _).put 2 _) | (have hq := ((Whole.made _ _ _).below hbt1).below hb; exact (((hq).put 0 _).put 1 _).put 2 _) | (have hq := (Whole.made _ _ _).below hb; exact (((hq).put 0 _).put 1 _).put 2 _)
      · first | (refine HP.out _ (HK.out _ _ HSv2.out ?_); (repeat (first | with_reducible exact Below.refl _ _ | with_reducible refine Below.drew ?_ | with_reducible refine Bel_drewN ?_ _ | with_reducible refine Below.alloc ?_ (by first | omega | (simp; done) | (simp; omega)) _ | with_reducible refine Below.setCell ?_ (by first | omega | (simp; done) | (simp; omega)) _)); done) | exact HP.out _ (HK2.out _ _ _ (HK2.out _ _ _ (HK2.out _ _ _ HSv2.out (by first | omega | (simp; done) | (simp; omega))) (by first | omega | (simp; done) | (simp; omega))) (by first | omega | (simp; done) | (simp; omega)))
  case rest =>
    obtain ⟨gN, rfl, rfl, rfl, hle, hW, hS⟩ := hcut
    rename World => w3
    have z3 : w2.heap.size ≤ w3.heap.size := by have := hW.lt; omega
    obtain ⟨gN3, hgN⟩ : ∃ g, g = gN := ⟨_, rfl⟩
    subst hgN
    have ygN3 : gN3 < w3.heap.size := hW.lt
    have xgN3 : w2.heap.size ≤ gN3 := hle
    have HS3 : Hid (Whole w3 w.heap.size 43 #[.int .i64 k, .int .u64 (a : Int), .int .u64 (b : Int)] ∧ Whole w3 (w.heap.size + 1) 24 #[.slice ao_xs xs.length c_xs, .slice ao_ys ys.length c_ys] ∧ Whole w3 gN3 44 #[.int .i64 0, .int .u64 (0 : Int), .int .u64 (0 : Int)] ∧ Below w.heap.size w w3) := Lib.hid ⟨hS.1, hS.2.1, hW, hS.2.2⟩
    clear HS2 HK HP HK2 hR hle hW hS
    have hc0 := (HS3.out.1).facts.1
    have hf0 := (HS3.out.1).facts.2
    have hz0 := (HS3.out.1).lt
    have hc1 := (HS3.out.2.1).facts.1
    have hf1 := (HS3.out.2.1).facts.2
    have hz1 := (HS3.out.2.1).lt
    have hc2 := (HS3.out.2.2.1).facts.1
    have hf2 := (HS3.out.2.2.1).facts.2
    have hz2 := (HS3.out.2.2.1).lt
    go_wp2_with fail
    clear hc0 hf0 hz0
    clear hc1 hf1 hz1
    clear hc2 hf2 hz2
    refine (toShare_any xs _ _ ys _ _ _ (Holds.below HX_xs.out HS3.out.2.2.2) (Holds.below HX_ys.out HS3.out.2.2.2) hn_xs hn_ys).mono ?_
    rintro e w4 ⟨aoX_xs, aoX_ys, rfl, rowX_xs, rowX_ys, hb⟩
    have z4 : w3.heap.size ≤ w4.heap.size := hb.size
    have HS4 : Hid (Whole w4 w.heap.size 43 #[.int .i64 k, .int .u64 (a : Int), .int .u64 (b : Int)] ∧ Whole w4 (w.heap.size + 1) 24 #[.slice ao_xs xs.length c_xs, .slice ao_ys ys.length c_ys] ∧ Whole w4 gN3 44 #[.int .i64 0, .int .u64 (0 : Int), .int .u64 (0 : Int)] ∧ Row w4 w3.heap.size w4.heap.size aoX_xs (fl .f32 xs) ∧ Row w4 w3.heap.size w4.heap.size aoX_ys (fl .f32 ys) ∧ Below w.heap.size w w4) := Lib.hid ⟨HS3.out.1.below hb, HS3.out.2.1.below hb, HS3.out.2.2.1.below hb, rowX_xs, rowX_ys, Bel_next HS3.out.2.2.2 hb⟩
    clear HS3 hb rowX_xs rowX_ys
    have hc0 := (HS4.out.1).facts.1
    have hf0 := (HS4.out.1).facts.2
    have hz0 := (HS4.out.1).lt
    have hc1 := (HS4.out.2.1).facts.1
    have hf1 := (HS4.out.2.1).facts.2
    have hz1 := (HS4.out.2.1).lt
    have hc2 := (HS4.out.2.2.1).facts.1
    have hf2 := (HS4.out.2.2.1).facts.2
    have hz2 := (HS4.out.2.2.1).lt
    go_wp2_with fail
    clear hc0 hf0 hz0
    clear hc1 hf1 hz1
    clear hc2 hf2 hz2
    generalize hW : World.alloc w4 _ = w5
    have hb : Below w4.heap.size w4 w5 := by rw [← hW]; exact (by repeat (first | with_reducible exact Below.refl _ _ | with_reducible refine Below.drew ?_ | with_reducible refine Bel_drewN ?_ _ | with_reducible refine Below.alloc ?_ (by first | omega | (simp; done) | (simp; omega)) _ | with_reducible refine Below.setCell ?_ (by first | omega | (simp; done) | (simp; omega)) _))
    have z5 : w4.heap.size + 1 ≤ w5.heap.size := by rw [← hW]; simp
    have HS5 : Hid (Whole w5 w.heap.size 43 #[.int .i64 k, .int .u64 (a : Int), .int .u64 (b : Int)] ∧ Whole w5 (w.heap.size + 1) 24 #[.slice ao_xs xs.length c_xs, .slice ao_ys ys.length c_ys] ∧ Whole w5 gN3 44 #[.int .i64 0, .int .u64 (0 : Int), .int .u64 (0 : Int)] ∧ Row w5 w3.heap.size w4.heap.size aoX_xs (fl .f32 xs) ∧ Row w5 w3.heap.size w4.heap.size aoX_ys (fl .f32 ys) ∧ Whole w5 w4.heap.size 27 #[.slice aoX_xs xs.length xs.length, .slice aoX_ys ys.length ys.length] ∧ Below w.heap.size w w5) := Lib.hid ⟨HS4.out.1.below hb, HS4.out.2.1.below hb, HS4.out.2.2.1.below hb, HS4.out.2.2.2.1.below hb, HS4.out.2.2.2.2.1.below hb, by rw [← hW]; exact Whole.made _ _ _, Bel_next HS4.out.2.2.2.2.2 hb⟩
    clear HS4 hW hb
    have HK : Hid (∀ v v' : World, (v.cell? ⟨w.heap.size, 0, none⟩ = some (.int .i64 k) ∧ v.cell? ⟨w.heap.size, 1, none⟩ = some (.int .u64 (a : Int)) ∧ v.cell? ⟨w.heap.size, 2, none⟩ = some (.int .u64 (b : Int)) ∧ v.cell? ⟨w4.heap.size, 0, none⟩ = some (.slice aoX_xs xs.length xs.length) ∧ v.cell? ⟨w4.heap.size, 1, none⟩ = some (.slice aoX_ys ys.length ys.length) ∧ w5.heap.size ≤ v.heap.size ∧ Whole v w.heap.size 43 #[.int .i64 k, .int .u64 (a : Int), .int .u64 (b : Int)] ∧ Whole v (w.heap.size + 1) 24 #[.slice ao_xs xs.length c_xs, .slice ao_ys ys.length c_ys] ∧ Whole v gN3 44 #[.int .i64 0, .int .u64 (0 : Int), .int .u64 (0 : Int)] ∧ Row v w3.heap.size w4.heap.size aoX_xs (fl .f32 xs) ∧ Row v w3.heap.size w4.heap.size aoX_ys (fl .f32 ys) ∧ Whole v w4.heap.size 27 #[.slice aoX_xs xs.length xs.length, .slice aoX_ys ys.length ys.length] ∧ Below w.heap.size w v) → Below v.heap.size v v' → (v'.cell? ⟨w.heap.size, 0, none⟩ = some (.int .i64 k) ∧ v'.cell? ⟨w.heap.size, 1, none⟩ = some (.int .u64 (a : Int)) ∧ v'.cell? ⟨w.heap.size, 2, none⟩ = some (.int .u64 (b : Int)) ∧ v'.cell? ⟨w4.heap.size, 0, none⟩ = some (.slice aoX_xs xs.length xs.length) ∧ v'.cell? ⟨w4.heap.size, 1, none⟩ = some (.slice aoX_ys ys.length ys.length) ∧ w5.heap.size ≤ v'.heap.size ∧ Whole v' w.heap.size 43 #[.int .i64 k, .int .u64 (a : Int), .int .u64 (b : Int)] ∧ Whole v' (w.heap.size + 1) 24 #[.slice ao_xs xs.length c_xs, .slice ao_ys ys.length c_ys] ∧ Whole v' gN3 44 #[.int .i64 0, .int .u64 (0 : Int), .int .u64 (0 : Int)] ∧ Row v' w3.heap.size w4.heap.size aoX_xs (fl .f32 xs) ∧ Row v' w3.heap.size w4.heap.size aoX_ys (fl .f32 ys) ∧ Whole v' w4.heap.size 27 #[.slice aoX_xs xs.length xs.length, .slice aoX_ys ys.length ys.length] ∧ Below w.heap.size w v')) := Lib.hid (fun v v' h hb => ⟨(by rw [Below.cell hb (World.block_lt_of_cell? _ _ h.1)]; exact h.1), (by rw [Below.cell hb (World.block_lt_of_cell? _ _ h.2.1)]; exact h.2.1), (by rw [Below.cell hb (World.block_lt_of_cell? _ _ h.2.2.1)]; exact h.2.2.1), (by rw [Below.cell hb (World.block_lt_of_cell? _ _ h.2.2.2.1)]; exact h.2.2.2.1), (by rw [Below.cell hb (World.block_lt_of_cell? _ _ h.2.2.2.2.1)]; exact h.2.2.2.2.1), Nat.le_trans h.2.2.2.2.2.1 hb.size, h.2.2.2.2.2.2.1.below hb, h.2.2.2.2.2.2.2.1.below hb, h.2.2.2.2.2.2.2.2.1.below hb, h.2.2.2.2.2.2.2.2.2.1.below hb, h.2.2.2.2.2.2.2.2.2.2.1.below hb, h.2.2.2.2.2.2.2.2.2.2.2.1.below hb, Bel_next h.2.2.2.2.2.2.2.2.2.2.2.2 hb⟩)
    have HP : Hid (∀ v : World, (v.cell? ⟨w.heap.size, 0, none⟩ = some (.int .i64 k) ∧ v.cell? ⟨w.heap.size, 1, none⟩ = some (.int .u64 (a : Int)) ∧ v.cell? ⟨w.heap.size, 2, none⟩ = some (.int .u64 (b : Int)) ∧ v.cell? ⟨w4.heap.size, 0, none⟩ = some (.slice aoX_xs xs.length xs.length) ∧ v.cell? ⟨w4.heap.size, 1, none⟩ = some (.slice aoX_ys ys.length ys.length) ∧ w5.heap.size ≤ v.heap.size ∧ Whole v w.heap.size 43 #[.int .i64 k, .int .u64 (a : Int), .int .u64 (b : Int)] ∧ Whole v (w.heap.size + 1) 24 #[.slice ao_xs xs.length c_xs, .slice ao_ys ys.length c_ys] ∧ Whole v gN3 44 #[.int .i64 0, .int .u64 (0 : Int), .int .u64 (0 : Int)] ∧ Row v w3.heap.size w4.heap.size aoX_xs (fl .f32 xs) ∧ Row v w3.heap.size w4.heap.size aoX_ys (fl .f32 ys) ∧ Whole v w4.heap.size 27 #[.slice aoX_xs xs.length xs.length, .slice aoX_ys ys.length ys.length] ∧ Below w.heap.size w v) → (Whole v w.heap.size 43 #[.int .i64 k, .int .u64 (a : Int), .int .u64 (b : Int)] ∧ Whole v (w.heap.size + 1) 24 #[.slice ao_xs xs.length c_xs, .slice ao_ys ys.length c_ys] ∧ Whole v gN3 44 #[.int .i64 0, .int .u64 (0 : Int), .int .u64 (0 : Int)] ∧ Row v w3.heap.size w4.heap.size aoX_xs (fl .f32 xs) ∧ Row v w3.heap.size w4.heap.size aoX_ys (fl .f32 ys) ∧ Whole v w4.heap.size 27 #[.slice aoX_xs xs.length xs.length, .slice aoX_ys ys.length ys.length] ∧ Below w.heap.size w v)) := Lib.hid (fun v h => h.2.2.2.2.2.2)
    have hR : w5.cell? ⟨w.heap.size, 0, none⟩ = some (.int .i64 k) ∧ w5.cell? ⟨w.heap.size, 1, none⟩ = some (.int .u64 (a : Int)) ∧ w5.cell? ⟨w.heap.size, 2, none⟩ = some (.int .u64 (b : Int)) ∧ w5.cell? ⟨w4.heap.size, 0, none⟩ = some (.slice aoX_xs xs.length xs.length) ∧ w5.cell? ⟨w4.heap.size, 1, none⟩ = some (.slice aoX_ys ys.length ys.length) ∧ w5.heap.size ≤ w5.heap.size ∧ Whole w5 w.heap.size 43 #[.int .i64 k, .int .u64 (a : Int), .int .u64 (b : Int)] ∧ Whole w5 (w.heap.size + 1) 24 #[.slice ao_xs xs.length c_xs, .slice ao_ys ys.length c_ys] ∧ Whole w5 gN3 44 #[.int .i64 0, .int .u64 (0 : Int), .int .u64 (0 : Int)] ∧ Row w5 w3.heap.size w4.heap.size aoX_xs (fl .f32 xs) ∧ Row w5 w3.heap.size w4.heap.size aoX_ys (fl .f32 ys) ∧ Whole w5 w4.heap.size 27 #[.slice aoX_xs xs.length xs.length, .slice aoX_ys ys.length ys.length] ∧ Below w.heap.size w w5 := ⟨(HS5.out.1).cell 0, (HS5.out.1).cell 1, (HS5.out.1).cell 2, (HS5.out.2.2.2.2.2.1).cell 0, (HS5.out.2.2.2.2.2.1).cell 1, Nat.le_refl _, HS5.out.1, HS5.out.2.1, HS5.out.2.2.1, HS5.out.2.2.2.1, HS5.out.2.2.2.2.1, HS5.out.2.2.2.2.2.1, HS5.out.2.2.2.2.2.2⟩
    have HK2 : Hid (∀ (v : World) (q : Addr) (u : Value), (v.cell? ⟨w.heap.size, 0, none⟩ = some (.int .i64 k) ∧ v.cell? ⟨w.heap.size, 1, none⟩ = some (.int .u64 (a : Int)) ∧ v.cell? ⟨w.heap.size, 2, none⟩ = some (.int .u64 (b : Int)) ∧ v.cell? ⟨w4.heap.size, 0, none⟩ = some (.slice aoX_xs xs.length xs.length) ∧ v.cell? ⟨w4.heap.size, 1, none⟩ = some (.slice aoX_ys ys.length ys.length) ∧ w5.heap.size ≤ v.heap.size ∧ Whole v w.heap.size 43 #[.int .i64 k, .int .u64 (a : Int), .int .u64 (b : Int)] ∧ Whole v (w.heap.size + 1) 24 #[.slice ao_xs xs.length c_xs, .slice ao_ys ys.length c_ys] ∧ Whole v gN3 44 #[.int .i64 0, .int .u64 (0 : Int), .int .u64 (0 : Int)] ∧ Row v w3.heap.size w4.heap.size aoX_xs (fl .f32 xs) ∧ Row v w3.heap.size w4.heap.size aoX_ys (fl .f32 ys) ∧ Whole v w4.heap.size 27 #[.slice aoX_xs xs.length xs.length, .slice aoX_ys ys.length ys.length] ∧ Below w.heap.size w v) → w5.heap.size ≤ q.block → ((v.setCell q u).cell? ⟨w.heap.size, 0, none⟩ = some (.int .i64 k) ∧ (v.setCell q u).cell? ⟨w.heap.size, 1, none⟩ = some (.int .u64 (a : Int)) ∧ (v.setCell q u).cell? ⟨w.heap.size, 2, none⟩ = some (.int .u64 (b : Int)) ∧ (v.setCell q u).cell? ⟨w4.heap.size, 0, none⟩ = some (.slice aoX_xs xs.length xs.length) ∧ (v.setCell q u).cell? ⟨w4.heap.size, 1, none⟩ = some (.slice aoX_ys ys.length ys.length) ∧ w5.heap.size ≤ (v.setCell q u).heap.size ∧ Whole (v.setCell q u) w.heap.size 43 #[.int .i64 k, .int .u64 (a : Int), .int .u64 (b : Int)] ∧ Whole (v.setCell q u) (w.heap.size + 1) 24 #[.slice ao_xs xs.length c_xs, .slice ao_ys ys.length c_ys] ∧ Whole (v.setCell q u) gN3 44 #[.int .i64 0, .int .u64 (0 : Int), .int .u64 (0 : Int)] ∧ Row (v.setCell q u) w3.heap.size w4.heap.size aoX_xs (fl .f32 xs) ∧ Row (v.setCell q u) w3.heap.size w4.heap.size aoX_ys (fl .f32 ys) ∧ Whole (v.setCell q u) w4.heap.size 27 #[.slice aoX_xs xs.length xs.length, .slice aoX_ys ys.length ys.length] ∧ Below w.heap.size w (v.setCell q u))) := Lib.hid (fun v q u h hq => ⟨((World.cell?_of_block (a := ⟨w.heap.size, 0, none⟩) (Below.heap_setCell v q u _ (by show ¬ _ = _; simp only []; omega))).trans h.1), ((World.cell?_of_block (a := ⟨w.heap.size, 1, none⟩) (Below.heap_setCell v q u _ (by show ¬ _ = _; simp only []; omega))).trans h.2.1), ((World.cell?_of_block (a := ⟨w.heap.size, 2, none⟩) (Below.heap_setCell v q u _ (by show ¬ _ = _; simp only []; omega))).trans h.2.2.1), ((World.cell?_of_block (a := ⟨w4.heap.size, 0, none⟩) (Below.heap_setCell v q u _ (by show ¬ _ = _; simp only []; omega))).trans h.2.2.2.1), ((World.cell?_of_block (a := ⟨w4.heap.size, 1, none⟩) (Below.heap_setCell v q u _ (by show ¬ _ = _; simp only []; omega))).trans h.2.2.2.2.1), (by simpa using h.2.2.2.2.2.1), h.2.2.2.2.2.2.1.far (by omega) _, h.2.2.2.2.2.2.2.1.far (by omega) _, h.2.2.2.2.2.2.2.2.1.far (by omega) _, h.2.2.2.2.2.2.2.2.2.1.far (.inr (by omega)) _, h.2.2.2.2.2.2.2.2.2.2.1.far (.inr (by omega)) _, h.2.2.2.2.2.2.2.2.2.2.2.1.far (by omega) _, Below.setCell h.2.2.2.2.2.2.2.2.2.2.2.2 (by omega) _⟩)
    go_cut [10, 11, 12] from 13 (fun s0 s1 s2 wx => ∃ gN : Nat, s0 = .pointer (some ⟨gN, 0, none⟩) ∧ s1 = .float .f32 0 ∧ s2 = .bool false ∧ w5.heap.size ≤ gN ∧ Whole wx gN 44 #[.int .i64 0, .int .u64 (0 : Int), .int .u64 (0 : Int)] ∧ Whole wx w.heap.size 43 #[.int .i64 k, .int .u64 (a : Int), .int .u64 (b : Int)] ∧ Whole wx (w.heap.size + 1) 24 #[.slice ao_xs xs.length c_xs, .slice ao_ys ys.length c_ys] ∧ Whole wx gN3 44 #[.int .i64 0, .int .u64 (0 : Int), .int .u64 (0 : Int)] ∧ Row wx w3.heap.size w4.heap.size aoX_xs (fl .f32 xs) ∧ Row wx w3.heap.size w4.heap.size aoX_ys (fl .f32 ys) ∧ Whole wx w4.heap.size 27 #[.slice aoX_xs xs.length xs.length, .slice aoX_ys ys.length ys.length] ∧ Below w.heap.size w wx)
    case first =>
      go_region_held3 (fun v => v.cell? ⟨w.heap.size, 0, none⟩ = some (.int .i64 k) ∧ v.cell? ⟨w.heap.size, 1, none⟩ = some (.int .u64 (a : Int)) ∧ v.cell? ⟨w.heap.size, 2, none⟩ = some (.int .u64 (b : Int)) ∧ v.cell? ⟨w4.heap.size, 0, none⟩ = some (.slice aoX_xs xs.length xs.length) ∧ v.cell? ⟨w4.heap.size, 1, none⟩ = some (.slice aoX_ys ys.length ys.length) ∧ w5.heap.size ≤ v.heap.size ∧ Whole v w.heap.size 43 #[.int .i64 k, .int .u64 (a : Int), .int .u64 (b : Int)] ∧ Whole v (w.heap.size + 1) 24 #[.slice ao_xs xs.length c_xs, .slice ao_ys ys.length c_ys] ∧ Whole v gN3 44 #[.int .i64 0, .int .u64 (0 : Int), .int .u64 (0 : Int)] ∧ Row v w3.heap.size w4.heap.size aoX_xs (fl .f32 xs) ∧ Row v w3.heap.size w4.heap.size aoX_ys (fl .f32 ys) ∧ Whole v w4.heap.size 27 #[.slice aoX_xs xs.length xs.length, .slice aoX_ys ys.length ys.length] ∧ Below w.heap.size w v)
        (first | with_reducible assumption | with_reducible exact HSv1.out | with_reducible exact HSv0.out | ((with_reducible refine HK.out _ _ HSv1.out ?_); (repeat (first | with_reducible exact Below.refl _ _ | with_reducible refine Below.drew ?_ | with_reducible refine Bel_drewN ?_ _ | with_reducible refine Below.alloc ?_ (by first | omega | (simp; done) | (simp; omega)) _ | with_reducible refine Below.setCell ?_ (by first | omega | (simp; done) | (simp; omega)) _)); done) | ((with_reducible refine HK.out _ _ HSv0.out ?_); (repeat (first | with_reducible exact Below.refl _ _ | with_reducible refine Below.drew ?_ | with_reducible refine Bel_drewN ?_ _ | with_reducible refine Below.alloc ?_ (by first | omega | (simp; done) | (simp; omega)) _ | with_reducible refine Below.setCell ?_ (by first | omega | (simp; done) | (simp; omega)) _)); done) | ((with_reducible refine HK.out w5 _ hR ?_); (repeat (first | with_reducible exact Below.refl _ _ | with_reducible refine Below.drew ?_ | with_reducible refine Bel_drewN ?_ _ | with_reducible refine Below.alloc ?_ (by first | omega | (simp; done) | (simp; omega)) _ | with_reducible refine Below.setCell ?_ (by first | omega | (simp; done) | (simp; omega)) _)); done) | ((with_reducible refine HK2.out _ _ _ HSv1.out ?_) <;> (first | omega | (simp; done) | (simp; omega))) | ((with_reducible refine HK2.out _ _ _ (HK2.out _ _ _ HSv1.out ?_) ?_) <;> (first | omega | (simp; done) | (simp; omega))) | ((with_reducible refine HK2.out _ _ _ (HK2.out _ _ _ (HK2.out _ _ _ HSv1.out ?_) ?_) ?_) <;> (first | omega | (simp; done) | (simp; omega))) | exact HK.out _ _ (by with_reducible assumption) (by with_reducible assumption))
        (first | (go_at_call 32; refine (toSeed_ret k a b _).mono ?_; rintro e wt0 ⟨rfl, hbt0⟩; have zz0 := hbt0.size; (try simp at zz0); have HSv0 := Lib.hid (HK.out _ _ (by with_reducible assumption) hbt0); obtain ⟨kc0, kf0⟩ := cells_kept hbt0; (try have zt0_0 : w5.heap.size < wt0.heap.size := by omega)) | (go_at_call 33; refine (implSs_no k a b xs ys _ rfl _ _ _ _ _ (HP.out _ (by assumption)).2.2.2.1.holds (HP.out _ (by assumption)).2.2.2.2.1.holds hn_xs hn_ys (ssC_not HV.out)).mono ?_; rintro e w6 ⟨rfl, hb⟩; have zz1 := hb.size; (try simp at zz1); have HSv1 := Lib.hid (HK.out _ _ (by with_reducible assumption) hb); obtain ⟨kc1, kf1⟩ := cells_kept hb; (try have zt1_0 : w5.heap.size < w6.heap.size := by omega); (try have zt1_1 : wt0.heap.size < w6.heap.size := by omega)))
      all_goals
        go_wp2_with fail
        go_meet
        refine ⟨_, rfl, rfl, rfl, ?_, ?_, ?_⟩
        · first | omega | (simp; done) | (simp; omega)
        · first | exact Whole.made _ _ _ | (have hq := ((Whole.made _ _ _).below hbt0).below hb; exact (((hq).put 0 _).put 1 _).put 2 _) | (have hq := (((Whole.made _ _ _).drew).below hbt0).below hb; exact (((hq).put 0 _).put 1 _).put 2 _) | (have hq := (Whole.made _ _ _).below hb; exact (((hq).put 0 _).put 1 _).put 2 _)
        · first | (refine HP.out _ (HK.out _ _ HSv1.out ?_); (repeat (first | with_reducible exact Below.refl _ _ | with_reducible refine Below.drew ?_ | with_reducible refine Bel_drewN ?_ _ | with_reducible refine Below.alloc ?_ (by first | omega | (simp; done) | (simp; omega)) _ | with_reducible refine Below.setCell ?_ (by first | omega | (simp; done) | (simp; omega)) _)); done) | exact HP.out _ (HK2.out _ _ _ (HK2.out _ _ _ (HK2.out _ _ _ HSv1.out (by first | omega | (simp; done) | (simp; omega))) (by first | omega | (simp; done) | (simp; omega))) (by first | omega | (simp; done) | (simp; omega)))
    case rest =>
      obtain ⟨gN, rfl, rfl, rfl, hle, hW, hS⟩ := hcut
      rename World => w6
      have z6 : w5.heap.size ≤ w6.heap.size := by have := hW.lt; omega
      obtain ⟨gN6, hgN⟩ : ∃ g, g = gN := ⟨_, rfl⟩
      subst hgN
      have ygN6 : gN6 < w6.heap.size := hW.lt
      have xgN6 : w5.heap.size ≤ gN6 := hle
      have HS6 : Hid (Whole w6 w.heap.size 43 #[.int .i64 k, .int .u64 (a : Int), .int .u64 (b : Int)] ∧ Whole w6 (w.heap.size + 1) 24 #[.slice ao_xs xs.length c_xs, .slice ao_ys ys.length c_ys] ∧ Whole w6 gN3 44 #[.int .i64 0, .int .u64 (0 : Int), .int .u64 (0 : Int)] ∧ Row w6 w3.heap.size w4.heap.size aoX_xs (fl .f32 xs) ∧ Row w6 w3.heap.size w4.heap.size aoX_ys (fl .f32 ys) ∧ Whole w6 w4.heap.size 27 #[.slice aoX_xs xs.length xs.length, .slice aoX_ys ys.length ys.length] ∧ Whole w6 gN6 44 #[.int .i64 0, .int .u64 (0 : Int), .int .u64 (0 : Int)] ∧ Below w.heap.size w w6) := Lib.hid ⟨hS.1, hS.2.1, hS.2.2.1, hS.2.2.2.1, hS.2.2.2.2.1, hS.2.2.2.2.2.1, hW, hS.2.2.2.2.2.2⟩
      clear HS5 HK HP HK2 hR hle hW hS
      have hc0 := (HS6.out.1).facts.1
      have hf0 := (HS6.out.1).facts.2
      have hz0 := (HS6.out.1).lt
      have hc1 := (HS6.out.2.1).facts.1
      have hf1 := (HS6.out.2.1).facts.2
      have hz1 := (HS6.out.2.1).lt
      have hc2 := (HS6.out.2.2.1).facts.1
      have hf2 := (HS6.out.2.2.1).facts.2
      have hz2 := (HS6.out.2.2.1).lt
      have hc5 := (HS6.out.2.2.2.2.2.1).facts.1
      have hf5 := (HS6.out.2.2.2.2.2.1).facts.2
      have hz5 := (HS6.out.2.2.2.2.2.1).lt
      have hc6 := (HS6.out.2.2.2.2.2.2.1).facts.1
      have hf6 := (HS6.out.2.2.2.2.2.2.1).facts.2
      have hz6 := (HS6.out.2.2.2.2.2.2.1).lt
      go_wp2_with fail
      clear hc0 hf0 hz0
      clear hc1 hf1 hz1
      clear hc2 hf2 hz2
      clear hc5 hf5 hz5
      clear hc6 hf6 hz6
      refine (eqSeed_same _ _ _ _).mono ?_
      rintro e w7 ⟨rfl, hb⟩
      have z7 : w6.heap.size ≤ w7.heap.size := hb.size
      have HS7 : Hid (Whole w7 w.heap.size 43 #[.int .i64 k, .int .u64 (a : Int), .int .u64 (b : Int)] ∧ Whole w7 (w.heap.size + 1) 24 #[.slice ao_xs xs.length c_xs, .slice ao_ys ys.length c_ys] ∧ Whole w7 gN3 44 #[.int .i64 0, .int .u64 (0 : Int), .int .u64 (0 : Int)] ∧ Row w7 w3.heap.size w4.heap.size aoX_xs (fl .f32 xs) ∧ Row w7 w3.heap.size w4.heap.size aoX_ys (fl .f32 ys) ∧ Whole w7 w4.heap.size 27 #[.slice aoX_xs xs.length xs.length, .slice aoX_ys ys.length ys.length] ∧ Whole w7 gN6 44 #[.int .i64 0, .int .u64 (0 : Int), .int .u64 (0 : Int)] ∧ Below w.heap.size w w7) := Lib.hid ⟨HS6.out.1.below hb, HS6.out.2.1.below hb, HS6.out.2.2.1.below hb, HS6.out.2.2.2.1.below hb, HS6.out.2.2.2.2.1.below hb, HS6.out.2.2.2.2.2.1.below hb, HS6.out.2.2.2.2.2.2.1.below hb, Bel_next HS6.out.2.2.2.2.2.2.2 hb⟩
      clear HS6 hb
      have hc0 := (HS7.out.1).facts.1
      have hf0 := (HS7.out.1).facts.2
      have hz0 := (HS7.out.1).lt
      have hc1 := (HS7.out.2.1).facts.1
      have hf1 := (HS7.out.2.1).facts.2
      have hz1 := (HS7.out.2.1).lt
      have hc2 := (HS7.out.2.2.1).facts.1
      have hf2 := (HS7.out.2.2.1).facts.2
      have hz2 := (HS7.out.2.2.1).lt
      have hc5 := (HS7.out.2.2.2.2.2.1).facts.1
      have hf5 := (HS7.out.2.2.2.2.2.1).facts.2
      have hz5 := (HS7.out.2.2.2.2.2.1).lt
      have hc6 := (HS7.out.2.2.2.2.2.2.1).facts.1
      have hf6 := (HS7.out.2.2.2.2.2.2.1).facts.2
      have hz6 := (HS7.out.2.2.2.2.2.2.1).lt
      go_wp2_with (first | (refine wpList_widen_g _ _ _ _ rfl Try.underlying32 Try.underlying36 rfl ?_; intro r n hr) | (go_at_call 24; fail))
      clear hc0 hf0 hz0
      clear hc1 hf1 hz1
      clear hc2 hf2 hz2
      clear hc5 hf5 hz5
      clear hc6 hf6 hz6
      refine (sameFloat_any _ _ (widen (av .f32 0)) (by assumption) (by assumption) _).mono ?_
      rintro e w' ⟨n3, rfl, rfl⟩
      generalize hW : World.drewN _ n3 = w8
      repeat rw [World.drewN_drewN] at hW
      have z8 : w7.heap.size ≤ w8.heap.size := by rw [← hW]; exact Nat.le_refl _
      have HS8 : Hid (Whole w8 w.heap.size 43 #[.int .i64 k, .int .u64 (a : Int), .int .u64 (b : Int)] ∧ Whole w8 (w.heap.size + 1) 24 #[.slice ao_xs xs.length c_xs, .slice ao_ys ys.length c_ys] ∧ Whole w8 gN3 44 #[.int .i64 0, .int .u64 (0 : Int), .int .u64 (0 : Int)] ∧ Row w8 w3.heap.size w4.heap.size aoX_xs (fl .f32 xs) ∧ Row w8 w3.heap.size w4.heap.size aoX_ys (fl .f32 ys) ∧ Whole w8 w4.heap.size 27 #[.slice aoX_xs xs.length xs.length, .slice aoX_ys ys.length ys.length] ∧ Whole w8 gN6 44 #[.int .i64 0, .int .u64 (0 : Int), .int .u64 (0 : Int)] ∧ Below w.heap.size w w8) := Lib.hid ⟨by rw [← hW]; exact (HS7.out.1).drewN _, by rw [← hW]; exact (HS7.out.2.1).drewN _, by rw [← hW]; exact (HS7.out.2.2.1).drewN _, by rw [← hW]; exact (HS7.out.2.2.2.1).drewN _, by rw [← hW]; exact (HS7.out.2.2.2.2.1).drewN _, by rw [← hW]; exact (HS7.out.2.2.2.2.2.1).drewN _, by rw [← hW]; exact (HS7.out.2.2.2.2.2.2.1).drewN _, by rw [← hW]; exact Bel_drewN HS7.out.2.2.2.2.2.2.2 _⟩
      clear HS7 hW
      have hc0 := (HS8.out.1).facts.1
      have hf0 := (HS8.out.1).facts.2
      have hz0 := (HS8.out.1).lt
      have hc1 := (HS8.out.2.1).facts.1
      have hf1 := (HS8.out.2.1).facts.2
      have hz1 := (HS8.out.2.1).lt
      have hc2 := (HS8.out.2.2.1).facts.1
      have hf2 := (HS8.out.2.2.1).facts.2
      have hz2 := (HS8.out.2.2.1).lt
      have hc5 := (HS8.out.2.2.2.2.2.1).facts.1
      have hf5 := (HS8.out.2.2.2.2.2.1).facts.2
      have hz5 := (HS8.out.2.2.2.2.2.1).lt
      have hc6 := (HS8.out.2.2.2.2.2.2.1).facts.1
      have hf6 := (HS8.out.2.2.2.2.2.2.1).facts.2
      have hz6 := (HS8.out.2.2.2.2.2.2.1).lt
      go_wp2_with fail
      clear hc0 hf0 hz0
      clear hc1 hf1 hz1
      clear hc2 hf2 hz2
      clear hc5 hf5 hz5
      clear hc6 hf6 hz6
      have HK : Hid (∀ v v' : World, (v.cell? ⟨w4.heap.size, 0, none⟩ = some (.slice aoX_xs xs.length xs.length) ∧ v.cell? ⟨w4.heap.size, 1, none⟩ = some (.slice aoX_ys ys.length ys.length) ∧ v.cell? ⟨(w.heap.size + 1), 0, none⟩ = some (.slice ao_xs xs.length c_xs) ∧ v.cell? ⟨(w.heap.size + 1), 1, none⟩ = some (.slice ao_ys ys.length c_ys) ∧ w8.heap.size ≤ v.heap.size ∧ Whole v w.heap.size 43 #[.int .i64 k, .int .u64 (a : Int), .int .u64 (b : Int)] ∧ Whole v (w.heap.size + 1) 24 #[.slice ao_xs xs.length c_xs, .slice ao_ys ys.length c_ys] ∧ Whole v gN3 44 #[.int .i64 0, .int .u64 (0 : Int), .int .u64 (0 : Int)] ∧ Row v w3.heap.size w4.heap.size aoX_xs (fl .f32 xs) ∧ Row v w3.heap.size w4.heap.size aoX_ys (fl .f32 ys) ∧ Whole v w4.heap.size 27 #[.slice aoX_xs xs.length xs.length, .slice aoX_ys ys.length ys.length] ∧ Whole v gN6 44 #[.int .i64 0, .int .u64 (0 : Int), .int .u64 (0 : Int)] ∧ Below w.heap.size w v) → Below v.heap.size v v' → (v'.cell? ⟨w4.heap.size, 0, none⟩ = some (.slice aoX_xs xs.length xs.length) ∧ v'.cell? ⟨w4.heap.size, 1, none⟩ = some (.slice aoX_ys ys.length ys.length) ∧ v'.cell? ⟨(w.heap.size + 1), 0, none⟩ = some (.slice ao_xs xs.length c_xs) ∧ v'.cell? ⟨(w.heap.size + 1), 1, none⟩ = some (.slice ao_ys ys.length c_ys) ∧ w8.heap.size ≤ v'.heap.size ∧ Whole v' w.heap.size 43 #[.int .i64 k, .int .u64 (a : Int), .int .u64 (b : Int)] ∧ Whole v' (w.heap.size + 1) 24 #[.slice ao_xs xs.length c_xs, .slice ao_ys ys.length c_ys] ∧ Whole v' gN3 44 #[.int .i64 0, .int .u64 (0 : Int), .int .u64 (0 : Int)] ∧ Row v' w3.heap.size w4.heap.size aoX_xs (fl .f32 xs) ∧ Row v' w3.heap.size w4.heap.size aoX_ys (fl .f32 ys) ∧ Whole v' w4.heap.size 27 #[.slice aoX_xs xs.length xs.length, .slice aoX_ys ys.length ys.length] ∧ Whole v' gN6 44 #[.int .i64 0, .int .u64 (0 : Int), .int .u64 (0 : Int)] ∧ Below w.heap.size w v')) := Lib.hid (fun v v' h hb => ⟨(by rw [Below.cell hb (World.block_lt_of_cell? _ _ h.1)]; exact h.1), (by rw [Below.cell hb (World.block_lt_of_cell? _ _ h.2.1)]; exact h.2.1), (by rw [Below.cell hb (World.block_lt_of_cell? _ _ h.2.2.1)]; exact h.2.2.1), (by rw [Below.cell hb (World.block_lt_of_cell? _ _ h.2.2.2.1)]; exact h.2.2.2.1), Nat.le_trans h.2.2.2.2.1 hb.size, h.2.2.2.2.2.1.below hb, h.2.2.2.2.2.2.1.below hb, h.2.2.2.2.2.2.2.1.below hb, h.2.2.2.2.2.2.2.2.1.below hb, h.2.2.2.2.2.2.2.2.2.1.below hb, h.2.2.2.2.2.2.2.2.2.2.1.below hb, h.2.2.2.2.2.2.2.2.2.2.2.1.below hb, Bel_next h.2.2.2.2.2.2.2.2.2.2.2.2 hb⟩)
      have HP : Hid (∀ v : World, (v.cell? ⟨w4.heap.size, 0, none⟩ = some (.slice aoX_xs xs.length xs.length) ∧ v.cell? ⟨w4.heap.size, 1, none⟩ = some (.slice aoX_ys ys.length ys.length) ∧ v.cell? ⟨(w.heap.size + 1), 0, none⟩ = some (.slice ao_xs xs.length c_xs) ∧ v.cell? ⟨(w.heap.size + 1), 1, none⟩ = some (.slice ao_ys ys.length c_ys) ∧ w8.heap.size ≤ v.heap.size ∧ Whole v w.heap.size 43 #[.int .i64 k, .int .u64 (a : Int), .int .u64 (b : Int)] ∧ Whole v (w.heap.size + 1) 24 #[.slice ao_xs xs.length c_xs, .slice ao_ys ys.length c_ys] ∧ Whole v gN3 44 #[.int .i64 0, .int .u64 (0 : Int), .int .u64 (0 : Int)] ∧ Row v w3.heap.size w4.heap.size aoX_xs (fl .f32 xs) ∧ Row v w3.heap.size w4.heap.size aoX_ys (fl .f32 ys) ∧ Whole v w4.heap.size 27 #[.slice aoX_xs xs.length xs.length, .slice aoX_ys ys.length ys.length] ∧ Whole v gN6 44 #[.int .i64 0, .int .u64 (0 : Int), .int .u64 (0 : Int)] ∧ Below w.heap.size w v) → (Whole v w.heap.size 43 #[.int .i64 k, .int .u64 (a : Int), .int .u64 (b : Int)] ∧ Whole v (w.heap.size + 1) 24 #[.slice ao_xs xs.length c_xs, .slice ao_ys ys.length c_ys] ∧ Whole v gN3 44 #[.int .i64 0, .int .u64 (0 : Int), .int .u64 (0 : Int)] ∧ Row v w3.heap.size w4.heap.size aoX_xs (fl .f32 xs) ∧ Row v w3.heap.size w4.heap.size aoX_ys (fl .f32 ys) ∧ Whole v w4.heap.size 27 #[.slice aoX_xs xs.length xs.length, .slice aoX_ys ys.length ys.length] ∧ Whole v gN6 44 #[.int .i64 0, .int .u64 (0 : Int), .int .u64 (0 : Int)] ∧ Below w.heap.size w v)) := Lib.hid (fun v h => h.2.2.2.2.2)
      have hR : w8.cell? ⟨w4.heap.size, 0, none⟩ = some (.slice aoX_xs xs.length xs.length) ∧ w8.cell? ⟨w4.heap.size, 1, none⟩ = some (.slice aoX_ys ys.length ys.length) ∧ w8.cell? ⟨(w.heap.size + 1), 0, none⟩ = some (.slice ao_xs xs.length c_xs) ∧ w8.cell? ⟨(w.heap.size + 1), 1, none⟩ = some (.slice ao_ys ys.length c_ys) ∧ w8.heap.size ≤ w8.heap.size ∧ Whole w8 w.heap.size 43 #[.int .i64 k, .int .u64 (a : Int), .int .u64 (b : Int)] ∧ Whole w8 (w.heap.size + 1) 24 #[.slice ao_xs xs.length c_xs, .slice ao_ys ys.length c_ys] ∧ Whole w8 gN3 44 #[.int .i64 0, .int .u64 (0 : Int), .int .u64 (0 : Int)] ∧ Row w8 w3.heap.size w4.heap.size aoX_xs (fl .f32 xs) ∧ Row w8 w3.heap.size w4.heap.size aoX_ys (fl .f32 ys) ∧ Whole w8 w4.heap.size 27 #[.slice aoX_xs xs.length xs.length, .slice aoX_ys ys.length ys.length] ∧ Whole w8 gN6 44 #[.int .i64 0, .int .u64 (0 : Int), .int .u64 (0 : Int)] ∧ Below w.heap.size w w8 := ⟨(HS8.out.2.2.2.2.2.1).cell 0, (HS8.out.2.2.2.2.2.1).cell 1, (HS8.out.2.1).cell 0, (HS8.out.2.1).cell 1, Nat.le_refl _, HS8.out.1, HS8.out.2.1, HS8.out.2.2.1, HS8.out.2.2.2.1, HS8.out.2.2.2.2.1, HS8.out.2.2.2.2.2.1, HS8.out.2.2.2.2.2.2.1, HS8.out.2.2.2.2.2.2.2⟩
      go_region_held3 (fun v => v.cell? ⟨w4.heap.size, 0, none⟩ = some (.slice aoX_xs xs.length xs.length) ∧ v.cell? ⟨w4.heap.size, 1, none⟩ = some (.slice aoX_ys ys.length ys.length) ∧ v.cell? ⟨(w.heap.size + 1), 0, none⟩ = some (.slice ao_xs xs.length c_xs) ∧ v.cell? ⟨(w.heap.size + 1), 1, none⟩ = some (.slice ao_ys ys.length c_ys) ∧ w8.heap.size ≤ v.heap.size ∧ Whole v w.heap.size 43 #[.int .i64 k, .int .u64 (a : Int), .int .u64 (b : Int)] ∧ Whole v (w.heap.size + 1) 24 #[.slice ao_xs xs.length c_xs, .slice ao_ys ys.length c_ys] ∧ Whole v gN3 44 #[.int .i64 0, .int .u64 (0 : Int), .int .u64 (0 : Int)] ∧ Row v w3.heap.size w4.heap.size aoX_xs (fl .f32 xs) ∧ Row v w3.heap.size w4.heap.size aoX_ys (fl .f32 ys) ∧ Whole v w4.heap.size 27 #[.slice aoX_xs xs.length xs.length, .slice aoX_ys ys.length ys.length] ∧ Whole v gN6 44 #[.int .i64 0, .int .u64 (0 : Int), .int .u64 (0 : Int)] ∧ Below w.heap.size w v)
        (first | assumption | exact HK.out _ _ (by assumption) (by assumption) | exact HK.out _ _ (by assumption) ((Below.refl _ _).drew) | (refine HK.out _ _ (by assumption) ?_; (repeat (first | with_reducible exact Below.refl _ _ | with_reducible refine Below.drew ?_ | with_reducible refine Bel_drewN ?_ _ | with_reducible refine Below.alloc ?_ (by first | omega | (simp; done) | (simp; omega)) _ | with_reducible refine Below.setCell ?_ (by first | omega | (simp; done) | (simp; omega)) _)); done))
        (first | (go_at_call 17; refine (toShare_any xs _ _ ys _ _ _ (Holds.below HX_xs.out (HP.out _ (by assumption)).2.2.2.2.2.2.2) (Holds.below HX_ys.out (HP.out _ (by assumption)).2.2.2.2.2.2.2) hn_xs hn_ys).mono ?_; rintro e wt ⟨aoY_xs, aoY_ys, rfl, rowY_xs, rowY_ys, hbt⟩) | (go_at_call 19; refine (eqShare_same xs _ rfl _ _ _ _ ys _ rfl _ _ _ _ _ ((HP.out _ (by assumption)).2.2.2.1.holds) (by exact rowY_xs.holds) ((HP.out _ (by assumption)).2.2.2.2.1.holds) (by exact rowY_ys.holds) hn_xs hn_ys).mono ?_; rintro e w9 ⟨rfl, hb⟩))
      have hN := (HK.out _ _ (HK.out _ _ hR (by first | exact hbt | exact Bel_next (Below.refl _ _).drew hbt)) (by first | exact hb | exact Bel_next (Below.refl _ _).drew hb))
      have z9 : w8.heap.size ≤ w9.heap.size := hN.2.2.2.2.1
      have HS9 : Hid (Whole w9 w.heap.size 43 #[.int .i64 k, .int .u64 (a : Int), .int .u64 (b : Int)] ∧ Whole w9 (w.heap.size + 1) 24 #[.slice ao_xs xs.length c_xs, .slice ao_ys ys.length c_ys] ∧ Whole w9 gN3 44 #[.int .i64 0, .int .u64 (0 : Int), .int .u64 (0 : Int)] ∧ Row w9 w3.heap.size w4.heap.size aoX_xs (fl .f32 xs) ∧ Row w9 w3.heap.size w4.heap.size aoX_ys (fl .f32 ys) ∧ Whole w9 w4.heap.size 27 #[.slice aoX_xs xs.length xs.length, .slice aoX_ys ys.length ys.length] ∧ Whole w9 gN6 44 #[.int .i64 0, .int .u64 (0 : Int), .int .u64 (0 : Int)] ∧ Below w.heap.size w w9) := Lib.hid ⟨hN.2.2.2.2.2.1, hN.2.2.2.2.2.2.1, hN.2.2.2.2.2.2.2.1, hN.2.2.2.2.2.2.2.2.1, hN.2.2.2.2.2.2.2.2.2.1, hN.2.2.2.2.2.2.2.2.2.2.1, hN.2.2.2.2.2.2.2.2.2.2.2.1, hN.2.2.2.2.2.2.2.2.2.2.2.2⟩
      clear HS8 hN hR HK HP hb hbt
      clear rowY_xs rowY_ys
      have hc0 := (HS9.out.1).facts.1
      have hf0 := (HS9.out.1).facts.2
      have hz0 := (HS9.out.1).lt
      have hc1 := (HS9.out.2.1).facts.1
      have hf1 := (HS9.out.2.1).facts.2
      have hz1 := (HS9.out.2.1).lt
      have hc2 := (HS9.out.2.2.1).facts.1
      have hf2 := (HS9.out.2.2.1).facts.2
      have hz2 := (HS9.out.2.2.1).lt
      have hc5 := (HS9.out.2.2.2.2.2.1).facts.1
      have hf5 := (HS9.out.2.2.2.2.2.1).facts.2
      have hz5 := (HS9.out.2.2.2.2.2.1).lt
      have hc6 := (HS9.out.2.2.2.2.2.2.1).facts.1
      have hf6 := (HS9.out.2.2.2.2.2.2.1).facts.2
      have hz6 := (HS9.out.2.2.2.2.2.2.1).lt
      go_wp2_with fail
      clear hc0 hf0 hz0
      clear hc1 hf1 hz1
      clear hc2 hf2 hz2
      clear hc5 hf5 hz5
      clear hc6 hf6 hz6
      go_ret
      exact ⟨rfl, Bel_next HS9.out.2.2.2.2.2.2.2 (by repeat (first | with_reducible exact Below.refl _ _ | with_reducible refine Below.drew ?_ | with_reducible refine Bel_drewN ?_ _ | with_reducible refine Below.alloc ?_ (by first | omega | (simp; done) | (simp; omega)) _ | with_reducible refine Below.setCell ?_ (by first | omega | (simp; done) | (simp; omega)) _))⟩
end Go.Proofs.Ytjnnfiimimmmnaa
