/- The walk of the law FnExactCombineSeeds. -/
import Derived.Test.YtdmbhnllebipjabCb
namespace Go.Proofs.Ytdmbhnllebipjab
open Go Go.RowKit
set_option linter.unusedVariables false

set_option maxHeartbeats 800000 in
theorem FnExactCombineSeeds_walk (k : Int) (a b : Nat) (h_k : (Lit.int .i64 k).wf = true) (h_a : a < 18446744073709551616) (h_b : b < 18446744073709551616) (l : Int) (c d : Nat) (h_l : (Lit.int .i64 l).wf = true) (h_c : c < 18446744073709551616) (h_d : d < 18446744073709551616) (n : Int) (h_n : (Lit.int .i64 n).wf = true) (w : World)  :
    Calls Try.prog 3 #[sd k a b, sd l c d, .int .i64 n] w fun e w' => e = .returned (.bool true) ∧ Below w.heap.size w w' := by
  by_cases hv0 : vSeed k a b = true ∧ vSeed l c d = true ∧ 0 ≤ n ∧ n ≤ 256
  · have HV := Lib.hid hv0
    clear hv0
    obtain ⟨n, rfl⟩ : ∃ m : Nat, n = m := ⟨n.toNat, by have := HV.out; omega⟩
    have hnn : n ≤ 256 := by have := HV.out; omega
    go_enter Try.func3, Try.ntmps3
    go_wp2_with fail
    have hK : ((w.alloc (.cells (sdC k a b) 24)).alloc (.cells (sdC l c d) 24)).cell? ⟨w.heap.size, 0, none⟩ = some (.int .i64 k) ∧ ((w.alloc (.cells (sdC k a b) 24)).alloc (.cells (sdC l c d) 24)).cell? ⟨w.heap.size, 1, none⟩ = some (.int .u64 a) ∧ ((w.alloc (.cells (sdC k a b) 24)).alloc (.cells (sdC l c d) 24)).cell? ⟨w.heap.size, 2, none⟩ = some (.int .u64 b) ∧ ((w.alloc (.cells (sdC k a b) 24)).alloc (.cells (sdC l c d) 24)).cell? ⟨w.heap.size + 1, 0, none⟩ = some (.int .i64 l) ∧ ((w.alloc (.cells (sdC k a b) 24)).alloc (.cells (sdC l c d) 24)).cell? ⟨w.heap.size + 1, 1, none⟩ = some (.int .u64 c) ∧ ((w.alloc (.cells (sdC k a b) 24)).alloc (.cells (sdC l c d) 24)).cell? ⟨w.heap.size + 1, 2, none⟩ = some (.int .u64 d) ∧ Below w.heap.size w ((w.alloc (.cells (sdC k a b) 24)).alloc (.cells (sdC l c d) 24)) := ⟨((Whole.made w 24 (sdC k a b)).alloc _).cell 0, ((Whole.made w 24 (sdC k a b)).alloc _).cell 1, ((Whole.made w 24 (sdC k a b)).alloc _).cell 2, (Whole.made2 w _ 24 (sdC l c d)).cell 0, (Whole.made2 w _ 24 (sdC l c d)).cell 1, (Whole.made2 w _ 24 (sdC l c d)).cell 2, ((Below.refl _ _).alloc (Nat.le_refl _) _).alloc (by simp) _⟩
    generalize ((w.alloc (.cells (sdC k a b) 24)).alloc (.cells (sdC l c d) 24)) = w1 at hK ⊢
    have z1 : w.heap.size ≤ w1.heap.size := hK.2.2.2.2.2.2.size
    have yP : w.heap.size + 1 < w1.heap.size := World.block_lt_of_cell? _ _ hK.2.2.2.1
    have HB1 : Hid (Below w.heap.size w w1) := Lib.hid hK.2.2.2.2.2.2
    have HPP := Lib.hid hK
    clear hK
    go_wp2_with fail
    have hHP := HPP.out
    go_region_held3 (fun v => v.cell? ⟨w.heap.size, 0, none⟩ = some (.int .i64 k) ∧ v.cell? ⟨w.heap.size, 1, none⟩ = some (.int .u64 a) ∧ v.cell? ⟨w.heap.size, 2, none⟩ = some (.int .u64 b) ∧ v.cell? ⟨w.heap.size + 1, 0, none⟩ = some (.int .i64 l) ∧ v.cell? ⟨w.heap.size + 1, 1, none⟩ = some (.int .u64 c) ∧ v.cell? ⟨w.heap.size + 1, 2, none⟩ = some (.int .u64 d) ∧ Below w.heap.size w v)
      (first | assumption | exact Kept2.drew (by assumption) | exact Kept2 (by assumption) (by assumption) | exact Kept2.drew (Kept2 (by assumption) (by assumption)))
      (first | (go_at_call 16; refine (toSeed_ret _ _ _ _).mono ?_; rintro e wt ⟨rfl, hbt⟩) | (go_at_call 15; refine (specComb_yes k a b l c d n _ HV.out.1 HV.out.2.1 hnn h_a h_b h_c h_d).mono ?_; rintro e w2 ⟨aoG, ccG, rfl, row, hb⟩))
    rename_i wa hba hH
    have hs : Below w1.heap.size w1 w2 := Bel_next (Bel_next (by first | exact hba | exact (Below.refl _ _).drew.trans hba) hbt) (by first | exact hb | exact hb.drew)
    have HB2 : Hid (Below w.heap.size w w2) := Lib.hid (Bel_next HB1.out hs)
    have z2 : w1.heap.size ≤ w2.heap.size := hs.size
    replace HPP := Lib.hid (Kept2 HPP.out hs)
    have Gs := Lib.hid (Row.wide row (lo' := w1.heap.size) (by have h1 := hba.size; have h2 := hbt.size; simp at h1 h2; omega) (Nat.le_refl _))
    clear row
    clear hb hs hH hHP hba hbt HB1
    go_wp2_with fail
    have hHP := HPP.out
    go_region_held3 (fun v => v.cell? ⟨w.heap.size, 0, none⟩ = some (.int .i64 k) ∧ v.cell? ⟨w.heap.size, 1, none⟩ = some (.int .u64 a) ∧ v.cell? ⟨w.heap.size, 2, none⟩ = some (.int .u64 b) ∧ v.cell? ⟨w.heap.size + 1, 0, none⟩ = some (.int .i64 l) ∧ v.cell? ⟨w.heap.size + 1, 1, none⟩ = some (.int .u64 c) ∧ v.cell? ⟨w.heap.size + 1, 2, none⟩ = some (.int .u64 d) ∧ Below w.heap.size w v)
      (first | assumption | exact Kept2.drew (by assumption) | exact Kept2 (by assumption) (by assumption) | exact Kept2.drew (Kept2 (by assumption) (by assumption)))
      (first | (go_at_call 16; refine (toSeed_ret _ _ _ _).mono ?_; rintro e wt ⟨rfl, hbt⟩) | (go_at_call 17; refine (implComb_yes k a b l c d n _ HV.out.1 HV.out.2.1 hnn h_a h_b h_c h_d).mono ?_; rintro e w3 ⟨aoG, ccG, rfl, row, hb⟩))
    rename_i wa hba hH
    have hs : Below w2.heap.size w2 w3 := Bel_next (Bel_next (by first | exact hba | exact (Below.refl _ _).drew.trans hba) hbt) (by first | exact hb | exact hb.drew)
    have HB3 : Hid (Below w.heap.size w w3) := Lib.hid (Bel_next HB2.out hs)
    have z3 : w2.heap.size ≤ w3.heap.size := hs.size
    replace Gs := Lib.hid (Row.below Gs.out hs)
    replace HPP := Lib.hid (Kept2 HPP.out hs)
    have Gg := Lib.hid (Row.wide row (lo' := w2.heap.size) (by have h1 := hba.size; have h2 := hbt.size; simp at h1 h2; omega) (Nat.le_refl _))
    clear row
    clear hb hs hH hHP hba hbt HB2
    go_wp2_with fail
    refine (eqInt64S_same (combL k a b l c d n) (n) (combL_len k a b l c d n) _ _ _ _ _ (by exact (Row.below Gg.out (by repeat (first | exact Below.refl _ _ | refine Below.drew ?_ | refine Bel_drewN ?_ _ | refine Below.alloc ?_ (by first | omega | (simp; done) | (simp; omega)) _ | refine Below.setCell ?_ (by first | omega | simp) _))).holds) (by exact (Row.below Gs.out (by repeat (first | exact Below.refl _ _ | refine Below.drew ?_ | refine Bel_drewN ?_ _ | refine Below.alloc ?_ (by first | omega | (simp; done) | (simp; omega)) _ | refine Below.setCell ?_ (by first | omega | simp) _))).holds) (by omega)).mono ?_
    rintro e w4 ⟨rfl, hb⟩
    have hs : Below w3.heap.size w3 w4 := Bel_next (by repeat (first | exact Below.refl _ _ | refine Below.drew ?_ | refine Bel_drewN ?_ _ | refine Below.alloc ?_ (by first | omega | (simp; done) | (simp; omega)) _ | refine Below.setCell ?_ (by first | omega | simp) _)) hb
    have HB4 : Hid (Below w.heap.size w w4) := Lib.hid (Bel_next HB3.out hs)
    have z4 : w3.heap.size ≤ w4.heap.size := hs.size
    replace Gs := Lib.hid (Row.below Gs.out hs)
    replace Gg := Lib.hid (Row.below Gg.out hs)
    replace HPP := Lib.hid (Kept2 HPP.out hs)
    clear hb hs HB3
    go_wp2_with fail
    refine (markInt64S_row (n) _ 1 _ _ _ _ _ (by exact Row.below Gg.out (by repeat (first | exact Below.refl _ _ | refine Below.drew ?_ | refine Bel_drewN ?_ _ | refine Below.alloc ?_ (by first | omega | (simp; done) | (simp; omega)) _ | refine Below.setCell ?_ (by first | omega | simp) _))) ((il_len _).trans (combL_len k a b l c d n)) (by omega)).mono ?_
    rintro e w5 ⟨rfl, row, bt⟩
    have HB5 : Hid (Below w.heap.size w w5) := Lib.hid (bt.bel (Bel_next HB4.out (by repeat (first | exact Below.refl _ _ | refine Below.drew ?_ | refine Bel_drewN ?_ _ | refine Below.alloc ?_ (by first | omega | (simp; done) | (simp; omega)) _ | refine Below.setCell ?_ (by first | omega | simp) _))) (by omega))
    have z5 : w4.heap.size ≤ w5.heap.size := by first | exact bt.size | (have := bt.size; simp at this; omega)
    replace HPP := Lib.hid (Kept2.buts HPP.out bt (by simp; omega))
    replace Gs := Lib.hid ((Row.below Gs.out (by repeat (first | exact Below.refl _ _ | refine Below.drew ?_ | refine Bel_drewN ?_ _ | refine Below.alloc ?_ (by first | omega | (simp; done) | (simp; omega)) _ | refine Below.setCell ?_ (by first | omega | simp) _))).but bt (by omega))
    clear Gg bt HB4
    have Gg := Lib.hid row
    clear row
    go_wp2_with fail
    refine (heldInt64S_marks 1 (n) _ _ _ (by exact (Row.below Gg.out (by repeat (first | exact Below.refl _ _ | refine Below.drew ?_ | refine Bel_drewN ?_ _ | refine Below.alloc ?_ (by first | omega | (simp; done) | (simp; omega)) _ | refine Below.setCell ?_ (by first | omega | simp) _))).holds) (by omega)).mono ?_
    rintro e w6 ⟨rfl, hb⟩
    have hs : Below w5.heap.size w5 w6 := Bel_next (by repeat (first | exact Below.refl _ _ | refine Below.drew ?_ | refine Bel_drewN ?_ _ | refine Below.alloc ?_ (by first | omega | (simp; done) | (simp; omega)) _ | refine Below.setCell ?_ (by first | omega | simp) _)) hb
    have HB6 : Hid (Below w.heap.size w w6) := Lib.hid (Bel_next HB5.out hs)
    have z6 : w5.heap.size ≤ w6.heap.size := hs.size
    replace Gs := Lib.hid (Row.below Gs.out hs)
    replace Gg := Lib.hid (Row.below Gg.out hs)
    replace HPP := Lib.hid (Kept2 HPP.out hs)
    clear hb hs HB5
    go_wp2_with fail
    have hHP := HPP.out
    go_region_held3 (fun v => v.cell? ⟨w.heap.size, 0, none⟩ = some (.int .i64 k) ∧ v.cell? ⟨w.heap.size, 1, none⟩ = some (.int .u64 a) ∧ v.cell? ⟨w.heap.size, 2, none⟩ = some (.int .u64 b) ∧ v.cell? ⟨w.heap.size + 1, 0, none⟩ = some (.int .i64 l) ∧ v.cell? ⟨w.heap.size + 1, 1, none⟩ = some (.int .u64 c) ∧ v.cell? ⟨w.heap.size + 1, 2, none⟩ = some (.int .u64 d) ∧ Below w.heap.size w v)
      (first | assumption | exact Kept2.drew (by assumption) | exact Kept2 (by assumption) (by assumption) | exact Kept2.drew (Kept2 (by assumption) (by assumption)))
      (first | (go_at_call 16; refine (toSeed_ret _ _ _ _).mono ?_; rintro e wt ⟨rfl, hbt⟩) | (go_at_call 17; refine (implComb_yes k a b l c d n _ HV.out.1 HV.out.2.1 hnn h_a h_b h_c h_d).mono ?_; rintro e w7 ⟨aoG, ccG, rfl, row, hb⟩))
    rename_i wa hba hH
    have hs : Below w6.heap.size w6 w7 := Bel_next (Bel_next (by first | exact hba | exact (Below.refl _ _).drew.trans hba) hbt) (by first | exact hb | exact hb.drew)
    have HB7 : Hid (Below w.heap.size w w7) := Lib.hid (Bel_next HB6.out hs)
    have z7 : w6.heap.size ≤ w7.heap.size := hs.size
    replace Gs := Lib.hid (Row.below Gs.out hs)
    replace Gg := Lib.hid (Row.below Gg.out hs)
    replace HPP := Lib.hid (Kept2 HPP.out hs)
    have Gh := Lib.hid (Row.wide row (lo' := w6.heap.size) (by have h1 := hba.size; have h2 := hbt.size; simp at h1 h2; omega) (Nat.le_refl _))
    clear row
    clear hb hs hH hHP hba hbt HB6
    go_wp2_with fail
    refine (eqInt64S_same (combL k a b l c d n) (n) (combL_len k a b l c d n) _ _ _ _ _ (by exact (Row.below Gh.out (by repeat (first | exact Below.refl _ _ | refine Below.drew ?_ | refine Bel_drewN ?_ _ | refine Below.alloc ?_ (by first | omega | (simp; done) | (simp; omega)) _ | refine Below.setCell ?_ (by first | omega | simp) _))).holds) (by exact (Row.below Gs.out (by repeat (first | exact Below.refl _ _ | refine Below.drew ?_ | refine Bel_drewN ?_ _ | refine Below.alloc ?_ (by first | omega | (simp; done) | (simp; omega)) _ | refine Below.setCell ?_ (by first | omega | simp) _))).holds) (by omega)).mono ?_
    rintro e w8 ⟨rfl, hb⟩
    have hs : Below w7.heap.size w7 w8 := Bel_next (by repeat (first | exact Below.refl _ _ | refine Below.drew ?_ | refine Bel_drewN ?_ _ | refine Below.alloc ?_ (by first | omega | (simp; done) | (simp; omega)) _ | refine Below.setCell ?_ (by first | omega | simp) _)) hb
    have HB8 : Hid (Below w.heap.size w w8) := Lib.hid (Bel_next HB7.out hs)
    have z8 : w7.heap.size ≤ w8.heap.size := hs.size
    replace Gs := Lib.hid (Row.below Gs.out hs)
    replace Gg := Lib.hid (Row.below Gg.out hs)
    replace Gh := Lib.hid (Row.below Gh.out hs)
    replace HPP := Lib.hid (Kept2 HPP.out hs)
    clear hb hs HB7
    go_wp2_with fail
    refine (heldInt64S_marks 1 (n) _ _ _ (by exact (Row.below Gg.out (by repeat (first | exact Below.refl _ _ | refine Below.drew ?_ | refine Bel_drewN ?_ _ | refine Below.alloc ?_ (by first | omega | (simp; done) | (simp; omega)) _ | refine Below.setCell ?_ (by first | omega | simp) _))).holds) (by omega)).mono ?_
    rintro e w9 ⟨rfl, hb⟩
    have hs : Below w8.heap.size w8 w9 := Bel_next (by repeat (first | exact Below.refl _ _ | refine Below.drew ?_ | refine Bel_drewN ?_ _ | refine Below.alloc ?_ (by first | omega | (simp; done) | (simp; omega)) _ | refine Below.setCell ?_ (by first | omega | simp) _)) hb
    have HB9 : Hid (Below w.heap.size w w9) := Lib.hid (Bel_next HB8.out hs)
    have z9 : w8.heap.size ≤ w9.heap.size := hs.size
    replace Gs := Lib.hid (Row.below Gs.out hs)
    replace Gg := Lib.hid (Row.below Gg.out hs)
    replace Gh := Lib.hid (Row.below Gh.out hs)
    replace HPP := Lib.hid (Kept2 HPP.out hs)
    clear hb hs HB8
    go_wp2_with fail
    go_ret
    exact ⟨rfl, Bel_next HB9.out (by repeat (first | exact Below.refl _ _ | refine Below.drew ?_ | refine Bel_drewN ?_ _ | refine Below.alloc ?_ (by first | omega | (simp; done) | (simp; omega)) _ | refine Below.setCell ?_ (by first | omega | simp) _))⟩
  have HV := Lib.hid hv0
  clear hv0
  go_enter Try.func3, Try.ntmps3
  go_wp2_with fail
  have hK : ((w.alloc (.cells (sdC k a b) 24)).alloc (.cells (sdC l c d) 24)).cell? ⟨w.heap.size, 0, none⟩ = some (.int .i64 k) ∧ ((w.alloc (.cells (sdC k a b) 24)).alloc (.cells (sdC l c d) 24)).cell? ⟨w.heap.size, 1, none⟩ = some (.int .u64 a) ∧ ((w.alloc (.cells (sdC k a b) 24)).alloc (.cells (sdC l c d) 24)).cell? ⟨w.heap.size, 2, none⟩ = some (.int .u64 b) ∧ ((w.alloc (.cells (sdC k a b) 24)).alloc (.cells (sdC l c d) 24)).cell? ⟨w.heap.size + 1, 0, none⟩ = some (.int .i64 l) ∧ ((w.alloc (.cells (sdC k a b) 24)).alloc (.cells (sdC l c d) 24)).cell? ⟨w.heap.size + 1, 1, none⟩ = some (.int .u64 c) ∧ ((w.alloc (.cells (sdC k a b) 24)).alloc (.cells (sdC l c d) 24)).cell? ⟨w.heap.size + 1, 2, none⟩ = some (.int .u64 d) ∧ Below w.heap.size w ((w.alloc (.cells (sdC k a b) 24)).alloc (.cells (sdC l c d) 24)) := ⟨((Whole.made w 24 (sdC k a b)).alloc _).cell 0, ((Whole.made w 24 (sdC k a b)).alloc _).cell 1, ((Whole.made w 24 (sdC k a b)).alloc _).cell 2, (Whole.made2 w _ 24 (sdC l c d)).cell 0, (Whole.made2 w _ 24 (sdC l c d)).cell 1, (Whole.made2 w _ 24 (sdC l c d)).cell 2, ((Below.refl _ _).alloc (Nat.le_refl _) _).alloc (by simp) _⟩
  generalize ((w.alloc (.cells (sdC k a b) 24)).alloc (.cells (sdC l c d) 24)) = w1 at hK ⊢
  have z1 : w.heap.size ≤ w1.heap.size := hK.2.2.2.2.2.2.size
  have yP : w.heap.size + 1 < w1.heap.size := World.block_lt_of_cell? _ _ hK.2.2.2.1
  have HB1 : Hid (Below w.heap.size w w1) := Lib.hid hK.2.2.2.2.2.2
  have HPP := Lib.hid hK
  clear hK
  go_wp2_with fail
  have hHP := HPP.out
  go_region_held3 (fun v => v.cell? ⟨w.heap.size, 0, none⟩ = some (.int .i64 k) ∧ v.cell? ⟨w.heap.size, 1, none⟩ = some (.int .u64 a) ∧ v.cell? ⟨w.heap.size, 2, none⟩ = some (.int .u64 b) ∧ v.cell? ⟨w.heap.size + 1, 0, none⟩ = some (.int .i64 l) ∧ v.cell? ⟨w.heap.size + 1, 1, none⟩ = some (.int .u64 c) ∧ v.cell? ⟨w.heap.size + 1, 2, none⟩ = some (.int .u64 d) ∧ Below w.heap.size w v)
    (first | assumption | exact Kept2.drew (by assumption) | exact Kept2 (by assumption) (by assumption) | exact Kept2.drew (Kept2 (by assumption) (by assumption)))
    (first | (go_at_call 16; refine (toSeed_ret _ _ _ _).mono ?_; rintro e wt ⟨rfl, hbt⟩) | (go_at_call 15; refine (specComb_no k a b l c d n _ HV.out).mono ?_; rintro e w2 ⟨rfl, hb⟩))
  rename_i wa hba hH
  have hs : Below w1.heap.size w1 w2 := Bel_next (Bel_next (by first | exact hba | exact (Below.refl _ _).drew.trans hba) hbt) (by first | exact hb | exact hb.drew)
  have HB2 : Hid (Below w.heap.size w w2) := Lib.hid (Bel_next HB1.out hs)
  have z2 : w1.heap.size ≤ w2.heap.size := hs.size
  replace HPP := Lib.hid (Kept2 HPP.out hs)
  clear hb hs hH hHP hba hbt HB1
  go_wp2_with fail
  have hHP := HPP.out
  go_region_held3 (fun v => v.cell? ⟨w.heap.size, 0, none⟩ = some (.int .i64 k) ∧ v.cell? ⟨w.heap.size, 1, none⟩ = some (.int .u64 a) ∧ v.cell? ⟨w.heap.size, 2, none⟩ = some (.int .u64 b) ∧ v.cell? ⟨w.heap.size + 1, 0, none⟩ = some (.int .i64 l) ∧ v.cell? ⟨w.heap.size + 1, 1, none⟩ = some (.int .u64 c) ∧ v.cell? ⟨w.heap.size + 1, 2, none⟩ = some (.int .u64 d) ∧ Below w.heap.size w v)
    (first | assumption | exact Kept2.drew (by assumption) | exact Kept2 (by assumption) (by assumption) | exact Kept2.drew (Kept2 (by assumption) (by assumption)))
    (first | (go_at_call 16; refine (toSeed_ret _ _ _ _).mono ?_; rintro e wt ⟨rfl, hbt⟩) | (go_at_call 17; refine (implComb_no k a b l c d n _ HV.out).mono ?_; rintro e w3 ⟨rfl, hb⟩))
  rename_i wa hba hH
  have hs : Below w2.heap.size w2 w3 := Bel_next (Bel_next (by first | exact hba | exact (Below.refl _ _).drew.trans hba) hbt) (by first | exact hb | exact hb.drew)
  have HB3 : Hid (Below w.heap.size w w3) := Lib.hid (Bel_next HB2.out hs)
  have z3 : w2.heap.size ≤ w3.heap.size := hs.size
  replace HPP := Lib.hid (Kept2 HPP.out hs)
  clear hb hs hH hHP hba hbt HB2
  go_wp2_with fail
  refine (eqInt64S_same [] 0 rfl _ _ _ _ _ (fun i hi => absurd hi (Nat.not_lt_zero _)) (fun i hi => absurd hi (Nat.not_lt_zero _)) (by omega)).mono ?_
  rintro e w4 ⟨rfl, hb⟩
  have hs : Below w3.heap.size w3 w4 := Bel_next (by repeat (first | exact Below.refl _ _ | refine Below.drew ?_ | refine Bel_drewN ?_ _ | refine Below.alloc ?_ (by first | omega | (simp; done) | (simp; omega)) _ | refine Below.setCell ?_ (by first | omega | simp) _)) hb
  have HB4 : Hid (Below w.heap.size w w4) := Lib.hid (Bel_next HB3.out hs)
  have z4 : w3.heap.size ≤ w4.heap.size := hs.size
  replace HPP := Lib.hid (Kept2 HPP.out hs)
  clear hb hs HB3
  go_wp2_with fail
  refine (markInt64S_zero 1 _ _ _).mono ?_
  rintro e w5 ⟨rfl, hb⟩
  have hs : Below w4.heap.size w4 w5 := Bel_next (by repeat (first | exact Below.refl _ _ | refine Below.drew ?_ | refine Bel_drewN ?_ _ | refine Below.alloc ?_ (by first | omega | (simp; done) | (simp; omega)) _ | refine Below.setCell ?_ (by first | omega | simp) _)) hb
  have HB5 : Hid (Below w.heap.size w w5) := Lib.hid (Bel_next HB4.out hs)
  have z5 : w4.heap.size ≤ w5.heap.size := hs.size
  replace HPP := Lib.hid (Kept2 HPP.out hs)
  clear hb hs HB4
  go_wp2_with fail
  refine (heldInt64S_marks 1 0 _ _ _ (fun i hi => absurd hi (Nat.not_lt_zero _)) (by omega)).mono ?_
  rintro e w6 ⟨rfl, hb⟩
  have hs : Below w5.heap.size w5 w6 := Bel_next (by repeat (first | exact Below.refl _ _ | refine Below.drew ?_ | refine Bel_drewN ?_ _ | refine Below.alloc ?_ (by first | omega | (simp; done) | (simp; omega)) _ | refine Below.setCell ?_ (by first | omega | simp) _)) hb
  have HB6 : Hid (Below w.heap.size w w6) := Lib.hid (Bel_next HB5.out hs)
  have z6 : w5.heap.size ≤ w6.heap.size := hs.size
  replace HPP := Lib.hid (Kept2 HPP.out hs)
  clear hb hs HB5
  go_wp2_with fail
  have hHP := HPP.out
  go_region_held3 (fun v => v.cell? ⟨w.heap.size, 0, none⟩ = some (.int .i64 k) ∧ v.cell? ⟨w.heap.size, 1, none⟩ = some (.int .u64 a) ∧ v.cell? ⟨w.heap.size, 2, none⟩ = some (.int .u64 b) ∧ v.cell? ⟨w.heap.size + 1, 0, none⟩ = some (.int .i64 l) ∧ v.cell? ⟨w.heap.size + 1, 1, none⟩ = some (.int .u64 c) ∧ v.cell? ⟨w.heap.size + 1, 2, none⟩ = some (.int .u64 d) ∧ Below w.heap.size w v)
    (first | assumption | exact Kept2.drew (by assumption) | exact Kept2 (by assumption) (by assumption) | exact Kept2.drew (Kept2 (by assumption) (by assumption)))
    (first | (go_at_call 16; refine (toSeed_ret _ _ _ _).mono ?_; rintro e wt ⟨rfl, hbt⟩) | (go_at_call 17; refine (implComb_no k a b l c d n _ HV.out).mono ?_; rintro e w7 ⟨rfl, hb⟩))
  rename_i wa hba hH
  have hs : Below w6.heap.size w6 w7 := Bel_next (Bel_next (by first | exact hba | exact (Below.refl _ _).drew.trans hba) hbt) (by first | exact hb | exact hb.drew)
  have HB7 : Hid (Below w.heap.size w w7) := Lib.hid (Bel_next HB6.out hs)
  have z7 : w6.heap.size ≤ w7.heap.size := hs.size
  replace HPP := Lib.hid (Kept2 HPP.out hs)
  clear hb hs hH hHP hba hbt HB6
  go_wp2_with fail
  refine (eqInt64S_same [] 0 rfl _ _ _ _ _ (fun i hi => absurd hi (Nat.not_lt_zero _)) (fun i hi => absurd hi (Nat.not_lt_zero _)) (by omega)).mono ?_
  rintro e w8 ⟨rfl, hb⟩
  have hs : Below w7.heap.size w7 w8 := Bel_next (by repeat (first | exact Below.refl _ _ | refine Below.drew ?_ | refine Bel_drewN ?_ _ | refine Below.alloc ?_ (by first | omega | (simp; done) | (simp; omega)) _ | refine Below.setCell ?_ (by first | omega | simp) _)) hb
  have HB8 : Hid (Below w.heap.size w w8) := Lib.hid (Bel_next HB7.out hs)
  have z8 : w7.heap.size ≤ w8.heap.size := hs.size
  replace HPP := Lib.hid (Kept2 HPP.out hs)
  clear hb hs HB7
  go_wp2_with fail
  refine (heldInt64S_marks 1 0 _ _ _ (fun i hi => absurd hi (Nat.not_lt_zero _)) (by omega)).mono ?_
  rintro e w9 ⟨rfl, hb⟩
  have hs : Below w8.heap.size w8 w9 := Bel_next (by repeat (first | exact Below.refl _ _ | refine Below.drew ?_ | refine Bel_drewN ?_ _ | refine Below.alloc ?_ (by first | omega | (simp; done) | (simp; omega)) _ | refine Below.setCell ?_ (by first | omega | simp) _)) hb
  have HB9 : Hid (Below w.heap.size w w9) := Lib.hid (Bel_next HB8.out hs)
  have z9 : w8.heap.size ≤ w9.heap.size := hs.size
  replace HPP := Lib.hid (Kept2 HPP.out hs)
  clear hb hs HB8
  go_wp2_with fail
  go_ret
  exact ⟨rfl, Bel_next HB9.out (by repeat (first | exact Below.refl _ _ | refine Below.drew ?_ | refine Bel_drewN ?_ _ | refine Below.alloc ?_ (by first | omega | (simp; done) | (simp; omega)) _ | refine Below.setCell ?_ (by first | omega | simp) _))⟩
end Go.Proofs.Ytdmbhnllebipjab
