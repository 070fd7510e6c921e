/- The walk of the law FnExactTableText. -/
import Derived.Test.YtfgkimhcbboipaaDoorTbt
import Derived.Test.YtfgkimhcbboipaaDoorSTable
import Derived.Deep.RegionHeld3
import Derived.Deep.DeepCutAuto
namespace Go.Proofs.YtfgkimhcbboipaaDoor
open Go Go.RowKit
set_option linter.unusedVariables false

set_option maxRecDepth 100000 in
set_option maxHeartbeats 20000000 in
theorem FnExactTableText_walk (tr : Int) (h_tr : (Lit.int .i64 tr).wf = true) (tc : Int) (h_tc : (Lit.int .i64 tc).wf = true) (xs : List Int) (ao_xs : Option Addr) (c_xs : Nat) (h_xs : ∀ x ∈ xs, -9223372036854775808 ≤ x ∧ x ≤ 9223372036854775807) (m_xs : xs.length ≤ 9223372036854775807) (w : World) (hx_xs : Holds w ao_xs (il xs)) (hT : Pow10 w) :
    Calls Tryd.prog 12 #[.agg #[.int .i64 tr, .int .i64 tc, .slice ao_xs xs.length c_xs]] w fun e w' => e = .returned (.bool true) ∧ Below w.heap.size w w' := by
  have HT := Lib.hid hT
  clear hT
  by_cases hl0 : xs.length ≤ 1048576
  case neg =>
    have HL0 := Lib.hid hl0
    clear hl0
    go_enter Tryd.func12, Tryd.ntmps12
    have HS0 : Hid (Below w.heap.size w w) := Lib.hid (Below.refl _ _)
    go_wp2_with fail
    generalize hW : World.alloc w _ = w1
    have hb : Below w.heap.size w w1 := by rw [← hW]; exact (by repeat (first | with_reducible exact Below.refl _ _ | with_reducible refine Below.drew ?_ | with_reducible refine Bel_drewN ?_ _ | with_reducible refine Below.alloc ?_ (by first | omega | (simp; done) | (simp; omega)) _ | with_reducible refine Below.setCell ?_ (by first | omega | (simp; done) | (simp; omega)) _))
    have z1 : w.heap.size + 1 ≤ w1.heap.size := by rw [← hW]; simp
    have HS1 : Hid (Whole w1 w.heap.size 60 #[.int .i64 tr, .int .i64 tc, .slice ao_xs xs.length c_xs] ∧ Below w.heap.size w w1) := Lib.hid ⟨by rw [← hW]; exact Whole.made _ _ _, Bel_next HS0.out hb⟩
    clear HS0 hW hb
    refine (szTable_no tr tc xs _ _ (1048576) _ HL0.out (by omega) m_xs).mono ?_
    rintro e w2 ⟨rfl, hb⟩
    have z2 : w1.heap.size ≤ w2.heap.size := hb.size
    have HS2 : Hid (Whole w2 w.heap.size 60 #[.int .i64 tr, .int .i64 tc, .slice ao_xs xs.length c_xs] ∧ Below w.heap.size w w2) := Lib.hid ⟨HS1.out.1.below hb, Bel_next HS1.out.2 hb⟩
    clear HS1 hb
    have hc0 := (HS2.out.1).facts.1
    have hf0 := (HS2.out.1).facts.2
    have hz0 := (HS2.out.1).lt
    go_wp2_with fail
    clear hc0 hf0 hz0
    go_ret
    exact ⟨rfl, Bel_next HS2.out.2 (by repeat (first | with_reducible exact Below.refl _ _ | with_reducible refine Below.drew ?_ | with_reducible refine Bel_drewN ?_ _ | with_reducible refine Below.alloc ?_ (by first | omega | (simp; done) | (simp; omega)) _ | with_reducible refine Below.setCell ?_ (by first | omega | (simp; done) | (simp; omega)) _))⟩
  have HL0 := Lib.hid hl0
  have hn_xs : xs.length ≤ 1048576 := by omega
  clear hl0
  have HX_xs := Lib.hid hx_xs
  clear hx_xs
  by_cases hv0 : isTab tr tc xs
  · have HV := Lib.hid hv0
    clear hv0
    go_enter Tryd.func12, Tryd.ntmps12
    have HS0 : Hid (Below w.heap.size w w) := Lib.hid (Below.refl _ _)
    go_wp2_with fail
    generalize hW : World.alloc w _ = w1
    have hb : Below w.heap.size w w1 := by rw [← hW]; exact (by repeat (first | with_reducible exact Below.refl _ _ | with_reducible refine Below.drew ?_ | with_reducible refine Bel_drewN ?_ _ | with_reducible refine Below.alloc ?_ (by first | omega | (simp; done) | (simp; omega)) _ | with_reducible refine Below.setCell ?_ (by first | omega | (simp; done) | (simp; omega)) _))
    have z1 : w.heap.size + 1 ≤ w1.heap.size := by rw [← hW]; simp
    have HS1 : Hid (Whole w1 w.heap.size 60 #[.int .i64 tr, .int .i64 tc, .slice ao_xs xs.length c_xs] ∧ Below w.heap.size w w1) := Lib.hid ⟨by rw [← hW]; exact Whole.made _ _ _, Bel_next HS0.out hb⟩
    clear HS0 hW hb
    refine (szTable_yes tr tc xs _ _ (1048576) _ HL0.out (by omega)).mono ?_
    rintro e w2 ⟨rfl, hb⟩
    have z2 : w1.heap.size ≤ w2.heap.size := hb.size
    have HS2 : Hid (Whole w2 w.heap.size 60 #[.int .i64 tr, .int .i64 tc, .slice ao_xs xs.length c_xs] ∧ Below w.heap.size w w2) := Lib.hid ⟨HS1.out.1.below hb, Bel_next HS1.out.2 hb⟩
    clear HS1 hb
    have hc0 := (HS2.out.1).facts.1
    have hf0 := (HS2.out.1).facts.2
    have hz0 := (HS2.out.1).lt
    go_wp2_with fail
    clear hc0 hf0 hz0
    refine (toTable_any tr tc xs _ _ _ (Holds.below HX_xs.out HS2.out.2) hn_xs).mono ?_
    rintro e w3 ⟨aosc_xs, rfl, rowsc_xs, hb⟩
    have z3 : w2.heap.size ≤ w3.heap.size := hb.size
    have HS3 : Hid (Whole w3 w.heap.size 60 #[.int .i64 tr, .int .i64 tc, .slice ao_xs xs.length c_xs] ∧ Row w3 w2.heap.size w3.heap.size aosc_xs (il xs) ∧ Below w.heap.size w w3) := Lib.hid ⟨HS2.out.1.below hb, rowsc_xs, Bel_next HS2.out.2 hb⟩
    clear HS2 hb rowsc_xs
    have hc0 := (HS3.out.1).facts.1
    have hf0 := (HS3.out.1).facts.2
    have hz0 := (HS3.out.1).lt
    go_wp2_with fail
    clear hc0 hf0 hz0
    refine (specTableText_yes tr tc xs _ rfl _ _ _ (HS3.out.2.1).holds HV.out).mono ?_
    rintro e w4 ⟨rfl, hb⟩
    have z4 : w3.heap.size ≤ w4.heap.size := hb.size
    have HS4 : Hid (Whole w4 w.heap.size 60 #[.int .i64 tr, .int .i64 tc, .slice ao_xs xs.length c_xs] ∧ Row w4 w2.heap.size w3.heap.size aosc_xs (il xs) ∧ Below w.heap.size w w4) := Lib.hid ⟨HS3.out.1.below hb, HS3.out.2.1.below hb, Bel_next HS3.out.2.2 hb⟩
    clear HS3 hb
    have HSn : Hid (Whole w4 w.heap.size 60 #[.int .i64 tr, .int .i64 tc, .slice ao_xs xs.length c_xs] ∧ Below w.heap.size w w4) := Lib.hid ⟨HS4.out.1, HS4.out.2.2⟩
    clear HS4
    have HS4 := HSn
    clear HSn
    have hc0 := (HS4.out.1).facts.1
    have hf0 := (HS4.out.1).facts.2
    have hz0 := (HS4.out.1).lt
    go_wp2_with fail
    clear hc0 hf0 hz0
    refine (toTable_any tr tc xs _ _ _ (Holds.below HX_xs.out HS4.out.2) hn_xs).mono ?_
    rintro e w5 ⟨aoX_xs, rfl, rowX_xs, hb⟩
    have z5 : w4.heap.size ≤ w5.heap.size := hb.size
    have HS5 : Hid (Whole w5 w.heap.size 60 #[.int .i64 tr, .int .i64 tc, .slice ao_xs xs.length c_xs] ∧ Row w5 w4.heap.size w5.heap.size aoX_xs (il xs) ∧ Below w.heap.size w w5) := Lib.hid ⟨HS4.out.1.below hb, rowX_xs, Bel_next HS4.out.2 hb⟩
    clear HS4 hb rowX_xs
    have hc0 := (HS5.out.1).facts.1
    have hf0 := (HS5.out.1).facts.2
    have hz0 := (HS5.out.1).lt
    go_wp2_with fail
    clear hc0 hf0 hz0
    generalize hW : World.alloc w5 _ = w6
    have hb : Below w5.heap.size w5 w6 := by rw [← hW]; exact (by repeat (first | with_reducible exact Below.refl _ _ | with_reducible refine Below.drew ?_ | with_reducible refine Bel_drewN ?_ _ | with_reducible refine Below.alloc ?_ (by first | omega | (simp; done) | (simp; omega)) _ | with_reducible refine Below.setCell ?_ (by first | omega | (simp; done) | (simp; omega)) _))
    have z6 : w5.heap.size + 1 ≤ w6.heap.size := by rw [← hW]; simp
    have HS6 : Hid (Whole w6 w.heap.size 60 #[.int .i64 tr, .int .i64 tc, .slice ao_xs xs.length c_xs] ∧ Row w6 w4.heap.size w5.heap.size aoX_xs (il xs) ∧ Whole w6 w5.heap.size 63 #[.int .i64 tr, .int .i64 tc, .slice aoX_xs xs.length xs.length] ∧ Below w.heap.size w w6) := Lib.hid ⟨HS5.out.1.below hb, HS5.out.2.1.below hb, by rw [← hW]; exact Whole.made _ _ _, Bel_next HS5.out.2.2 hb⟩
    clear HS5 hW hb
    refine (implTableText_yes tr tc xs _ rfl _ _ _ (HS6.out.2.1).holds HV.out (Pow10.below HT.out HS6.out.2.2.2)).mono ?_
    rintro e w7 ⟨rfl, hb⟩
    have z7 : w6.heap.size ≤ w7.heap.size := hb.size
    have HS7 : Hid (Whole w7 w.heap.size 60 #[.int .i64 tr, .int .i64 tc, .slice ao_xs xs.length c_xs] ∧ Row w7 w4.heap.size w5.heap.size aoX_xs (il xs) ∧ Whole w7 w5.heap.size 63 #[.int .i64 tr, .int .i64 tc, .slice aoX_xs xs.length xs.length] ∧ Below w.heap.size w w7) := Lib.hid ⟨HS6.out.1.below hb, HS6.out.2.1.below hb, HS6.out.2.2.1.below hb, Bel_next HS6.out.2.2.2 hb⟩
    clear HS6 hb
    have HSn : Hid (Whole w7 w.heap.size 60 #[.int .i64 tr, .int .i64 tc, .slice ao_xs xs.length c_xs] ∧ Row w7 w4.heap.size w5.heap.size aoX_xs (il xs) ∧ Whole w7 w5.heap.size 63 #[.int .i64 tr, .int .i64 tc, .slice aoX_xs xs.length xs.length] ∧ Below w.heap.size w w7) := Lib.hid ⟨HS7.out.1, HS7.out.2.1, HS7.out.2.2.1, HS7.out.2.2.2⟩
    clear HS7
    have HS7 := HSn
    clear HSn
    have hc0 := (HS7.out.1).facts.1
    have hf0 := (HS7.out.1).facts.2
    have hz0 := (HS7.out.1).lt
    have hc2 := (HS7.out.2.2.1).facts.1
    have hf2 := (HS7.out.2.2.1).facts.2
    have hz2 := (HS7.out.2.2.1).lt
    go_wp2_with fail
    clear hc0 hf0 hz0
    clear hc2 hf2 hz2
    have HK : Hid (∀ v v' : World, (v.cell? ⟨w5.heap.size, 0, none⟩ = some (.int .i64 tr) ∧ v.cell? ⟨w5.heap.size, 1, none⟩ = some (.int .i64 tc) ∧ v.cell? ⟨w5.heap.size, 2, none⟩ = some (.slice aoX_xs xs.length xs.length) ∧ v.cell? ⟨w.heap.size, 0, none⟩ = some (.int .i64 tr) ∧ v.cell? ⟨w.heap.size, 1, none⟩ = some (.int .i64 tc) ∧ v.cell? ⟨w.heap.size, 2, none⟩ = some (.slice ao_xs xs.length c_xs) ∧ w7.heap.size ≤ v.heap.size ∧ Whole v w.heap.size 60 #[.int .i64 tr, .int .i64 tc, .slice ao_xs xs.length c_xs] ∧ Row v w4.heap.size w5.heap.size aoX_xs (il xs) ∧ Whole v w5.heap.size 63 #[.int .i64 tr, .int .i64 tc, .slice aoX_xs xs.length xs.length] ∧ Below w.heap.size w v) → Below v.heap.size v v' → (v'.cell? ⟨w5.heap.size, 0, none⟩ = some (.int .i64 tr) ∧ v'.cell? ⟨w5.heap.size, 1, none⟩ = some (.int .i64 tc) ∧ v'.cell? ⟨w5.heap.size, 2, none⟩ = some (.slice aoX_xs xs.length xs.length) ∧ v'.cell? ⟨w.heap.size, 0, none⟩ = some (.int .i64 tr) ∧ v'.cell? ⟨w.heap.size, 1, none⟩ = some (.int .i64 tc) ∧ v'.cell? ⟨w.heap.size, 2, none⟩ = some (.slice ao_xs xs.length c_xs) ∧ w7.heap.size ≤ v'.heap.size ∧ Whole v' w.heap.size 60 #[.int .i64 tr, .int .i64 tc, .slice ao_xs xs.length c_xs] ∧ Row v' w4.heap.size w5.heap.size aoX_xs (il xs) ∧ Whole v' w5.heap.size 63 #[.int .i64 tr, .int .i64 tc, .slice aoX_xs xs.length xs.length] ∧ Below w.heap.size w v')) := Lib.hid (fun v v' h hb => ⟨(by rw [Below.cell hb (World.block_lt_of_cell? _ _ h.1)]; exact h.1), (by rw [Below.cell hb (World.block_lt_of_cell? _ _ h.2.1)]; exact h.2.1), (by rw [Below.cell hb (World.block_lt_of_cell? _ _ h.2.2.1)]; exact h.2.2.1), (by rw [Below.cell hb (World.block_lt_of_cell? _ _ h.2.2.2.1)]; exact h.2.2.2.1), (by rw [Below.cell hb (World.block_lt_of_cell? _ _ h.2.2.2.2.1)]; exact h.2.2.2.2.1), (by rw [Below.cell hb (World.block_lt_of_cell? _ _ h.2.2.2.2.2.1)]; exact h.2.2.2.2.2.1), Nat.le_trans h.2.2.2.2.2.2.1 hb.size, h.2.2.2.2.2.2.2.1.below hb, h.2.2.2.2.2.2.2.2.1.below hb, h.2.2.2.2.2.2.2.2.2.1.below hb, Bel_next h.2.2.2.2.2.2.2.2.2.2 hb⟩)
    have HP : Hid (∀ v : World, (v.cell? ⟨w5.heap.size, 0, none⟩ = some (.int .i64 tr) ∧ v.cell? ⟨w5.heap.size, 1, none⟩ = some (.int .i64 tc) ∧ v.cell? ⟨w5.heap.size, 2, none⟩ = some (.slice aoX_xs xs.length xs.length) ∧ v.cell? ⟨w.heap.size, 0, none⟩ = some (.int .i64 tr) ∧ v.cell? ⟨w.heap.size, 1, none⟩ = some (.int .i64 tc) ∧ v.cell? ⟨w.heap.size, 2, none⟩ = some (.slice ao_xs xs.length c_xs) ∧ w7.heap.size ≤ v.heap.size ∧ Whole v w.heap.size 60 #[.int .i64 tr, .int .i64 tc, .slice ao_xs xs.length c_xs] ∧ Row v w4.heap.size w5.heap.size aoX_xs (il xs) ∧ Whole v w5.heap.size 63 #[.int .i64 tr, .int .i64 tc, .slice aoX_xs xs.length xs.length] ∧ Below w.heap.size w v) → (Whole v w.heap.size 60 #[.int .i64 tr, .int .i64 tc, .slice ao_xs xs.length c_xs] ∧ Row v w4.heap.size w5.heap.size aoX_xs (il xs) ∧ Whole v w5.heap.size 63 #[.int .i64 tr, .int .i64 tc, .slice aoX_xs xs.length xs.length] ∧ Below w.heap.size w v)) := Lib.hid (fun v h => h.2.2.2.2.2.2.2)
    have hR : w7.cell? ⟨w5.heap.size, 0, none⟩ = some (.int .i64 tr) ∧ w7.cell? ⟨w5.heap.size, 1, none⟩ = some (.int .i64 tc) ∧ w7.cell? ⟨w5.heap.size, 2, none⟩ = some (.slice aoX_xs xs.length xs.length) ∧ w7.cell? ⟨w.heap.size, 0, none⟩ = some (.int .i64 tr) ∧ w7.cell? ⟨w.heap.size, 1, none⟩ = some (.int .i64 tc) ∧ w7.cell? ⟨w.heap.size, 2, none⟩ = some (.slice ao_xs xs.length c_xs) ∧ w7.heap.size ≤ w7.heap.size ∧ Whole w7 w.heap.size 60 #[.int .i64 tr, .int .i64 tc, .slice ao_xs xs.length c_xs] ∧ Row w7 w4.heap.size w5.heap.size aoX_xs (il xs) ∧ Whole w7 w5.heap.size 63 #[.int .i64 tr, .int .i64 tc, .slice aoX_xs xs.length xs.length] ∧ Below w.heap.size w w7 := ⟨(HS7.out.2.2.1).cell 0, (HS7.out.2.2.1).cell 1, (HS7.out.2.2.1).cell 2, (HS7.out.1).cell 0, (HS7.out.1).cell 1, (HS7.out.1).cell 2, Nat.le_refl _, HS7.out.1, HS7.out.2.1, HS7.out.2.2.1, HS7.out.2.2.2⟩
    go_region_held3 (fun v => v.cell? ⟨w5.heap.size, 0, none⟩ = some (.int .i64 tr) ∧ v.cell? ⟨w5.heap.size, 1, none⟩ = some (.int .i64 tc) ∧ v.cell? ⟨w5.heap.size, 2, none⟩ = some (.slice aoX_xs xs.length xs.length) ∧ v.cell? ⟨w.heap.size, 0, none⟩ = some (.int .i64 tr) ∧ v.cell? ⟨w.heap.size, 1, none⟩ = some (.int .i64 tc) ∧ v.cell? ⟨w.heap.size, 2, none⟩ = some (.slice ao_xs xs.length c_xs) ∧ w7.heap.size ≤ v.heap.size ∧ Whole v w.heap.size 60 #[.int .i64 tr, .int .i64 tc, .slice ao_xs xs.length c_xs] ∧ Row v w4.heap.size w5.heap.size aoX_xs (il xs) ∧ Whole v w5.heap.size 63 #[.int .i64 tr, .int .i64 tc, .slice aoX_xs xs.length xs.length] ∧ Below w.heap.size w v)
      (first | assumption | exact HK.out _ _ (by assumption) (by assumption) | exact HK.out _ _ (by assumption) ((Below.refl _ _).drew) | (refine HK.out _ _ (by assumption) ?_; (repeat (first | with_reducible exact Below.refl _ _ | with_reducible refine Below.drew ?_ | with_reducible refine Bel_drewN ?_ _ | with_reducible refine Below.alloc ?_ (by first | omega | (simp; done) | (simp; omega)) _ | with_reducible refine Below.setCell ?_ (by first | omega | (simp; done) | (simp; omega)) _)); done))
      (first | (go_at_call 48; refine (toTable_any tr tc xs _ _ _ (Holds.below HX_xs.out (HP.out _ (by assumption)).2.2.2) hn_xs).mono ?_; rintro e wt ⟨aoY_xs, rfl, rowY_xs, hbt⟩) | (go_at_call 50; refine (eqTable_same tr tc xs _ rfl _ _ _ _ _ ((HP.out _ (by assumption)).2.1.holds) (by exact rowY_xs.holds) hn_xs).mono ?_; rintro e w8 ⟨rfl, hb⟩))
    have hN := (HK.out _ _ (HK.out _ _ hR (by first | exact hbt | exact Bel_next (Below.refl _ _).drew hbt | (refine Bel_next ?_ hbt; (repeat (first | with_reducible exact Below.refl _ _ | with_reducible refine Below.drew ?_ | with_reducible refine Bel_drewN ?_ _ | with_reducible refine Below.alloc ?_ (by first | omega | (simp; done) | (simp; omega)) _ | with_reducible refine Below.setCell ?_ (by first | omega | (simp; done) | (simp; omega)) _)); done))) (by first | exact hb | exact Bel_next (Below.refl _ _).drew hb | (refine Bel_next ?_ hb; (repeat (first | with_reducible exact Below.refl _ _ | with_reducible refine Below.drew ?_ | with_reducible refine Bel_drewN ?_ _ | with_reducible refine Below.alloc ?_ (by first | omega | (simp; done) | (simp; omega)) _ | with_reducible refine Below.setCell ?_ (by first | omega | (simp; done) | (simp; omega)) _)); done)))
    have z8 : w7.heap.size ≤ w8.heap.size := hN.2.2.2.2.2.2.1
    have HS8 : Hid (Whole w8 w.heap.size 60 #[.int .i64 tr, .int .i64 tc, .slice ao_xs xs.length c_xs] ∧ Row w8 w4.heap.size w5.heap.size aoX_xs (il xs) ∧ Whole w8 w5.heap.size 63 #[.int .i64 tr, .int .i64 tc, .slice aoX_xs xs.length xs.length] ∧ Below w.heap.size w w8) := Lib.hid ⟨hN.2.2.2.2.2.2.2.1, hN.2.2.2.2.2.2.2.2.1, hN.2.2.2.2.2.2.2.2.2.1, hN.2.2.2.2.2.2.2.2.2.2⟩
    clear HS7 hN hR HK HP hb hbt
    clear rowY_xs
    have hc0 := (HS8.out.1).facts.1
    have hf0 := (HS8.out.1).facts.2
    have hz0 := (HS8.out.1).lt
    have hc2 := (HS8.out.2.2.1).facts.1
    have hf2 := (HS8.out.2.2.1).facts.2
    have hz2 := (HS8.out.2.2.1).lt
    go_wp2_with fail
    clear hc0 hf0 hz0
    clear hc2 hf2 hz2
    go_ret
    exact ⟨rfl, Bel_next HS8.out.2.2.2 (by repeat (first | with_reducible exact Below.refl _ _ | with_reducible refine Below.drew ?_ | with_reducible refine Bel_drewN ?_ _ | with_reducible refine Below.alloc ?_ (by first | omega | (simp; done) | (simp; omega)) _ | with_reducible refine Below.setCell ?_ (by first | omega | (simp; done) | (simp; omega)) _))⟩
  have HV := Lib.hid hv0
  clear hv0
  go_enter Tryd.func12, Tryd.ntmps12
  have HS0 : Hid (Below w.heap.size w w) := Lib.hid (Below.refl _ _)
  go_wp2_with fail
  generalize hW : World.alloc w _ = w1
  have hb : Below w.heap.size w w1 := by rw [← hW]; exact (by repeat (first | with_reducible exact Below.refl _ _ | with_reducible refine Below.drew ?_ | with_reducible refine Bel_drewN ?_ _ | with_reducible refine Below.alloc ?_ (by first | omega | (simp; done) | (simp; omega)) _ | with_reducible refine Below.setCell ?_ (by first | omega | (simp; done) | (simp; omega)) _))
  have z1 : w.heap.size + 1 ≤ w1.heap.size := by rw [← hW]; simp
  have HS1 : Hid (Whole w1 w.heap.size 60 #[.int .i64 tr, .int .i64 tc, .slice ao_xs xs.length c_xs] ∧ Below w.heap.size w w1) := Lib.hid ⟨by rw [← hW]; exact Whole.made _ _ _, Bel_next HS0.out hb⟩
  clear HS0 hW hb
  refine (szTable_yes tr tc xs _ _ (1048576) _ HL0.out (by omega)).mono ?_
  rintro e w2 ⟨rfl, hb⟩
  have z2 : w1.heap.size ≤ w2.heap.size := hb.size
  have HS2 : Hid (Whole w2 w.heap.size 60 #[.int .i64 tr, .int .i64 tc, .slice ao_xs xs.length c_xs] ∧ Below w.heap.size w w2) := Lib.hid ⟨HS1.out.1.below hb, Bel_next HS1.out.2 hb⟩
  clear HS1 hb
  have hc0 := (HS2.out.1).facts.1
  have hf0 := (HS2.out.1).facts.2
  have hz0 := (HS2.out.1).lt
  go_wp2_with fail
  clear hc0 hf0 hz0
  refine (toTable_any tr tc xs _ _ _ (Holds.below HX_xs.out HS2.out.2) hn_xs).mono ?_
  rintro e w3 ⟨aosc_xs, rfl, rowsc_xs, hb⟩
  have z3 : w2.heap.size ≤ w3.heap.size := hb.size
  have HS3 : Hid (Whole w3 w.heap.size 60 #[.int .i64 tr, .int .i64 tc, .slice ao_xs xs.length c_xs] ∧ Row w3 w2.heap.size w3.heap.size aosc_xs (il xs) ∧ Below w.heap.size w w3) := Lib.hid ⟨HS2.out.1.below hb, rowsc_xs, Bel_next HS2.out.2 hb⟩
  clear HS2 hb rowsc_xs
  have hc0 := (HS3.out.1).facts.1
  have hf0 := (HS3.out.1).facts.2
  have hz0 := (HS3.out.1).lt
  go_wp2_with fail
  clear hc0 hf0 hz0
  refine (specTableText_no tr tc xs _ rfl hn_xs _ _ _ (HS3.out.2.1).holds HV.out).mono ?_
  rintro e w4 ⟨rfl, hb⟩
  have z4 : w3.heap.size ≤ w4.heap.size := hb.size
  have HS4 : Hid (Whole w4 w.heap.size 60 #[.int .i64 tr, .int .i64 tc, .slice ao_xs xs.length c_xs] ∧ Row w4 w2.heap.size w3.heap.size aosc_xs (il xs) ∧ Below w.heap.size w w4) := Lib.hid ⟨HS3.out.1.below hb, HS3.out.2.1.below hb, Bel_next HS3.out.2.2 hb⟩
  clear HS3 hb
  have HSn : Hid (Whole w4 w.heap.size 60 #[.int .i64 tr, .int .i64 tc, .slice ao_xs xs.length c_xs] ∧ Below w.heap.size w w4) := Lib.hid ⟨HS4.out.1, HS4.out.2.2⟩
  clear HS4
  have HS4 := HSn
  clear HSn
  have hc0 := (HS4.out.1).facts.1
  have hf0 := (HS4.out.1).facts.2
  have hz0 := (HS4.out.1).lt
  go_wp2_with fail
  clear hc0 hf0 hz0
  refine (toTable_any tr tc xs _ _ _ (Holds.below HX_xs.out HS4.out.2) hn_xs).mono ?_
  rintro e w5 ⟨aoX_xs, rfl, rowX_xs, hb⟩
  have z5 : w4.heap.size ≤ w5.heap.size := hb.size
  have HS5 : Hid (Whole w5 w.heap.size 60 #[.int .i64 tr, .int .i64 tc, .slice ao_xs xs.length c_xs] ∧ Row w5 w4.heap.size w5.heap.size aoX_xs (il xs) ∧ Below w.heap.size w w5) := Lib.hid ⟨HS4.out.1.below hb, rowX_xs, Bel_next HS4.out.2 hb⟩
  clear HS4 hb rowX_xs
  have hc0 := (HS5.out.1).facts.1
  have hf0 := (HS5.out.1).facts.2
  have hz0 := (HS5.out.1).lt
  go_wp2_with fail
  clear hc0 hf0 hz0
  generalize hW : World.alloc w5 _ = w6
  have hb : Below w5.heap.size w5 w6 := by rw [← hW]; exact (by repeat (first | with_reducible exact Below.refl _ _ | with_reducible refine Below.drew ?_ | with_reducible refine Bel_drewN ?_ _ | with_reducible refine Below.alloc ?_ (by first | omega | (simp; done) | (simp; omega)) _ | with_reducible refine Below.setCell ?_ (by first | omega | (simp; done) | (simp; omega)) _))
  have z6 : w5.heap.size + 1 ≤ w6.heap.size := by rw [← hW]; simp
  have HS6 : Hid (Whole w6 w.heap.size 60 #[.int .i64 tr, .int .i64 tc, .slice ao_xs xs.length c_xs] ∧ Row w6 w4.heap.size w5.heap.size aoX_xs (il xs) ∧ Whole w6 w5.heap.size 63 #[.int .i64 tr, .int .i64 tc, .slice aoX_xs xs.length xs.length] ∧ Below w.heap.size w w6) := Lib.hid ⟨HS5.out.1.below hb, HS5.out.2.1.below hb, by rw [← hW]; exact Whole.made _ _ _, Bel_next HS5.out.2.2 hb⟩
  clear HS5 hW hb
  refine (implTableText_no tr tc xs _ rfl hn_xs _ _ _ (HS6.out.2.1).holds HV.out).mono ?_
  rintro e w7 ⟨rfl, hb⟩
  have z7 : w6.heap.size ≤ w7.heap.size := hb.size
  have HS7 : Hid (Whole w7 w.heap.size 60 #[.int .i64 tr, .int .i64 tc, .slice ao_xs xs.length c_xs] ∧ Row w7 w4.heap.size w5.heap.size aoX_xs (il xs) ∧ Whole w7 w5.heap.size 63 #[.int .i64 tr, .int .i64 tc, .slice aoX_xs xs.length xs.length] ∧ Below w.heap.size w w7) := Lib.hid ⟨HS6.out.1.below hb, HS6.out.2.1.below hb, HS6.out.2.2.1.below hb, Bel_next HS6.out.2.2.2 hb⟩
  clear HS6 hb
  have HSn : Hid (Whole w7 w.heap.size 60 #[.int .i64 tr, .int .i64 tc, .slice ao_xs xs.length c_xs] ∧ Row w7 w4.heap.size w5.heap.size aoX_xs (il xs) ∧ Whole w7 w5.heap.size 63 #[.int .i64 tr, .int .i64 tc, .slice aoX_xs xs.length xs.length] ∧ Below w.heap.size w w7) := Lib.hid ⟨HS7.out.1, HS7.out.2.1, HS7.out.2.2.1, HS7.out.2.2.2⟩
  clear HS7
  have HS7 := HSn
  clear HSn
  have hc0 := (HS7.out.1).facts.1
  have hf0 := (HS7.out.1).facts.2
  have hz0 := (HS7.out.1).lt
  have hc2 := (HS7.out.2.2.1).facts.1
  have hf2 := (HS7.out.2.2.1).facts.2
  have hz2 := (HS7.out.2.2.1).lt
  go_wp2_with fail
  clear hc0 hf0 hz0
  clear hc2 hf2 hz2
  have HK : Hid (∀ v v' : World, (v.cell? ⟨w5.heap.size, 0, none⟩ = some (.int .i64 tr) ∧ v.cell? ⟨w5.heap.size, 1, none⟩ = some (.int .i64 tc) ∧ v.cell? ⟨w5.heap.size, 2, none⟩ = some (.slice aoX_xs xs.length xs.length) ∧ v.cell? ⟨w.heap.size, 0, none⟩ = some (.int .i64 tr) ∧ v.cell? ⟨w.heap.size, 1, none⟩ = some (.int .i64 tc) ∧ v.cell? ⟨w.heap.size, 2, none⟩ = some (.slice ao_xs xs.length c_xs) ∧ w7.heap.size ≤ v.heap.size ∧ Whole v w.heap.size 60 #[.int .i64 tr, .int .i64 tc, .slice ao_xs xs.length c_xs] ∧ Row v w4.heap.size w5.heap.size aoX_xs (il xs) ∧ Whole v w5.heap.size 63 #[.int .i64 tr, .int .i64 tc, .slice aoX_xs xs.length xs.length] ∧ Below w.heap.size w v) → Below v.heap.size v v' → (v'.cell? ⟨w5.heap.size, 0, none⟩ = some (.int .i64 tr) ∧ v'.cell? ⟨w5.heap.size, 1, none⟩ = some (.int .i64 tc) ∧ v'.cell? ⟨w5.heap.size, 2, none⟩ = some (.slice aoX_xs xs.length xs.length) ∧ v'.cell? ⟨w.heap.size, 0, none⟩ = some (.int .i64 tr) ∧ v'.cell? ⟨w.heap.size, 1, none⟩ = some (.int .i64 tc) ∧ v'.cell? ⟨w.heap.size, 2, none⟩ = some (.slice ao_xs xs.length c_xs) ∧ w7.heap.size ≤ v'.heap.size ∧ Whole v' w.heap.size 60 #[.int .i64 tr, .int .i64 tc, .slice ao_xs xs.length c_xs] ∧ Row v' w4.heap.size w5.heap.size aoX_xs (il xs) ∧ Whole v' w5.heap.size 63 #[.int .i64 tr, .int .i64 tc, .slice aoX_xs xs.length xs.length] ∧ Below w.heap.size w v')) := Lib.hid (fun v v' h hb => ⟨(by rw [Below.cell hb (World.block_lt_of_cell? _ _ h.1)]; exact h.1), (by rw [Below.cell hb (World.block_lt_of_cell? _ _ h.2.1)]; exact h.2.1), (by rw [Below.cell hb (World.block_lt_of_cell? _ _ h.2.2.1)]; exact h.2.2.1), (by rw [Below.cell hb (World.block_lt_of_cell? _ _ h.2.2.2.1)]; exact h.2.2.2.1), (by rw [Below.cell hb (World.block_lt_of_cell? _ _ h.2.2.2.2.1)]; exact h.2.2.2.2.1), (by rw [Below.cell hb (World.block_lt_of_cell? _ _ h.2.2.2.2.2.1)]; exact h.2.2.2.2.2.1), Nat.le_trans h.2.2.2.2.2.2.1 hb.size, h.2.2.2.2.2.2.2.1.below hb, h.2.2.2.2.2.2.2.2.1.below hb, h.2.2.2.2.2.2.2.2.2.1.below hb, Bel_next h.2.2.2.2.2.2.2.2.2.2 hb⟩)
  have HP : Hid (∀ v : World, (v.cell? ⟨w5.heap.size, 0, none⟩ = some (.int .i64 tr) ∧ v.cell? ⟨w5.heap.size, 1, none⟩ = some (.int .i64 tc) ∧ v.cell? ⟨w5.heap.size, 2, none⟩ = some (.slice aoX_xs xs.length xs.length) ∧ v.cell? ⟨w.heap.size, 0, none⟩ = some (.int .i64 tr) ∧ v.cell? ⟨w.heap.size, 1, none⟩ = some (.int .i64 tc) ∧ v.cell? ⟨w.heap.size, 2, none⟩ = some (.slice ao_xs xs.length c_xs) ∧ w7.heap.size ≤ v.heap.size ∧ Whole v w.heap.size 60 #[.int .i64 tr, .int .i64 tc, .slice ao_xs xs.length c_xs] ∧ Row v w4.heap.size w5.heap.size aoX_xs (il xs) ∧ Whole v w5.heap.size 63 #[.int .i64 tr, .int .i64 tc, .slice aoX_xs xs.length xs.length] ∧ Below w.heap.size w v) → (Whole v w.heap.size 60 #[.int .i64 tr, .int .i64 tc, .slice ao_xs xs.length c_xs] ∧ Row v w4.heap.size w5.heap.size aoX_xs (il xs) ∧ Whole v w5.heap.size 63 #[.int .i64 tr, .int .i64 tc, .slice aoX_xs xs.length xs.length] ∧ Below w.heap.size w v)) := Lib.hid (fun v h => h.2.2.2.2.2.2.2)
  have hR : w7.cell? ⟨w5.heap.size, 0, none⟩ = some (.int .i64 tr) ∧ w7.cell? ⟨w5.heap.size, 1, none⟩ = some (.int .i64 tc) ∧ w7.cell? ⟨w5.heap.size, 2, none⟩ = some (.slice aoX_xs xs.length xs.length) ∧ w7.cell? ⟨w.heap.size, 0, none⟩ = some (.int .i64 tr) ∧ w7.cell? ⟨w.heap.size, 1, none⟩ = some (.int .i64 tc) ∧ w7.cell? ⟨w.heap.size, 2, none⟩ = some (.slice ao_xs xs.length c_xs) ∧ w7.heap.size ≤ w7.heap.size ∧ Whole w7 w.heap.size 60 #[.int .i64 tr, .int .i64 tc, .slice ao_xs xs.length c_xs] ∧ Row w7 w4.heap.size w5.heap.size aoX_xs (il xs) ∧ Whole w7 w5.heap.size 63 #[.int .i64 tr, .int .i64 tc, .slice aoX_xs xs.length xs.length] ∧ Below w.heap.size w w7 := ⟨(HS7.out.2.2.1).cell 0, (HS7.out.2.2.1).cell 1, (HS7.out.2.2.1).cell 2, (HS7.out.1).cell 0, (HS7.out.1).cell 1, (HS7.out.1).cell 2, Nat.le_refl _, HS7.out.1, HS7.out.2.1, HS7.out.2.2.1, HS7.out.2.2.2⟩
  go_region_held3 (fun v => v.cell? ⟨w5.heap.size, 0, none⟩ = some (.int .i64 tr) ∧ v.cell? ⟨w5.heap.size, 1, none⟩ = some (.int .i64 tc) ∧ v.cell? ⟨w5.heap.size, 2, none⟩ = some (.slice aoX_xs xs.length xs.length) ∧ v.cell? ⟨w.heap.size, 0, none⟩ = some (.int .i64 tr) ∧ v.cell? ⟨w.heap.size, 1, none⟩ = some (.int .i64 tc) ∧ v.cell? ⟨w.heap.size, 2, none⟩ = some (.slice ao_xs xs.length c_xs) ∧ w7.heap.size ≤ v.heap.size ∧ Whole v w.heap.size 60 #[.int .i64 tr, .int .i64 tc, .slice ao_xs xs.length c_xs] ∧ Row v w4.heap.size w5.heap.size aoX_xs (il xs) ∧ Whole v w5.heap.size 63 #[.int .i64 tr, .int .i64 tc, .slice aoX_xs xs.length xs.length] ∧ Below w.heap.size w v)
    (first | assumption | exact HK.out _ _ (by assumption) (by assumption) | exact HK.out _ _ (by assumption) ((Below.refl _ _).drew) | (refine HK.out _ _ (by assumption) ?_; (repeat (first | with_reducible exact Below.refl _ _ | with_reducible refine Below.drew ?_ | with_reducible refine Bel_drewN ?_ _ | with_reducible refine Below.alloc ?_ (by first | omega | (simp; done) | (simp; omega)) _ | with_reducible refine Below.setCell ?_ (by first | omega | (simp; done) | (simp; omega)) _)); done))
    (first | (go_at_call 48; refine (toTable_any tr tc xs _ _ _ (Holds.below HX_xs.out (HP.out _ (by assumption)).2.2.2) hn_xs).mono ?_; rintro e wt ⟨aoY_xs, rfl, rowY_xs, hbt⟩) | (go_at_call 50; refine (eqTable_same tr tc xs _ rfl _ _ _ _ _ ((HP.out _ (by assumption)).2.1.holds) (by exact rowY_xs.holds) hn_xs).mono ?_; rintro e w8 ⟨rfl, hb⟩))
  have hN := (HK.out _ _ (HK.out _ _ hR (by first | exact hbt | exact Bel_next (Below.refl _ _).drew hbt | (refine Bel_next ?_ hbt; (repeat (first | with_reducible exact Below.refl _ _ | with_reducible refine Below.drew ?_ | with_reducible refine Bel_drewN ?_ _ | with_reducible refine Below.alloc ?_ (by first | omega | (simp; done) | (simp; omega)) _ | with_reducible refine Below.setCell ?_ (by first | omega | (simp; done) | (simp; omega)) _)); done))) (by first | exact hb | exact Bel_next (Below.refl _ _).drew hb | (refine Bel_next ?_ hb; (repeat (first | with_reducible exact Below.refl _ _ | with_reducible refine Below.drew ?_ | with_reducible refine Bel_drewN ?_ _ | with_reducible refine Below.alloc ?_ (by first | omega | (simp; done) | (simp; omega)) _ | with_reducible refine Below.setCell ?_ (by first | omega | (simp; done) | (simp; omega)) _)); done)))
  have z8 : w7.heap.size ≤ w8.heap.size := hN.2.2.2.2.2.2.1
  have HS8 : Hid (Whole w8 w.heap.size 60 #[.int .i64 tr, .int .i64 tc, .slice ao_xs xs.length c_xs] ∧ Row w8 w4.heap.size w5.heap.size aoX_xs (il xs) ∧ Whole w8 w5.heap.size 63 #[.int .i64 tr, .int .i64 tc, .slice aoX_xs xs.length xs.length] ∧ Below w.heap.size w w8) := Lib.hid ⟨hN.2.2.2.2.2.2.2.1, hN.2.2.2.2.2.2.2.2.1, hN.2.2.2.2.2.2.2.2.2.1, hN.2.2.2.2.2.2.2.2.2.2⟩
  clear HS7 hN hR HK HP hb hbt
  clear rowY_xs
  have hc0 := (HS8.out.1).facts.1
  have hf0 := (HS8.out.1).facts.2
  have hz0 := (HS8.out.1).lt
  have hc2 := (HS8.out.2.2.1).facts.1
  have hf2 := (HS8.out.2.2.1).facts.2
  have hz2 := (HS8.out.2.2.1).lt
  go_wp2_with fail
  clear hc0 hf0 hz0
  clear hc2 hf2 hz2
  go_ret
  exact ⟨rfl, Bel_next HS8.out.2.2.2 (by repeat (first | with_reducible exact Below.refl _ _ | with_reducible refine Below.drew ?_ | with_reducible refine Bel_drewN ?_ _ | with_reducible refine Below.alloc ?_ (by first | omega | (simp; done) | (simp; omega)) _ | with_reducible refine Below.setCell ?_ (by first | omega | (simp; done) | (simp; omega)) _))⟩
end Go.Proofs.YtfgkimhcbboipaaDoor
