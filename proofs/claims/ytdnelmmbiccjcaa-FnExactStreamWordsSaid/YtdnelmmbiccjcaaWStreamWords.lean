/- The walk of the law FnExactStreamWords. -/
import Derived.Test.YtdnelmmbiccjcaaSx
namespace Go.Proofs.Ytdnelmmbiccjcaa
open Go Go.RowKit
set_option linter.unusedVariables false

set_option maxRecDepth 100000 in
set_option maxHeartbeats 800000 in
theorem FnExactStreamWords_walk (k : Int) (a b : Nat) (h_k : (Lit.int .i64 k).wf = true) (h_a : a < 18446744073709551616) (h_b : b < 18446744073709551616) (sm : Int) (h_sm : (Lit.int .i64 sm).wf = true) (sn : Int) (h_sn : (Lit.int .i64 sn).wf = true) (w : World)  :
    Calls Try.prog 3 #[sd k a b, .int .i64 sm, .int .i64 sn] w fun e w' => e = .returned (.bool true) ∧ Below w.heap.size w w' := by
  by_cases hv0 : strmC k a b sm sn
  · have HV := Lib.hid hv0
    clear hv0
    obtain ⟨sm, rfl⟩ : ∃ q : Nat, sm = q := ⟨sm.toNat, by have := HV.out.2.1; omega⟩
    obtain ⟨sn, rfl⟩ : ∃ q : Nat, sn = q := ⟨sn.toNat, by have := HV.out.2.2; omega⟩
    have HM : Hid (sm ≤ 16 ∧ sn ≤ 256) := Lib.hid ⟨by have := HV.out.2.1; omega, by have := HV.out.2.2; omega⟩
    have hcl : (strmLL k a b sm sn).length ≤ 16 := by rw [strmLL_len]; exact HM.out.1
    have hct : totL (strmLL k a b sm sn) ≤ 4096 := by rw [strmLL_tot]; exact Nat.mul_le_mul HM.out.1 HM.out.2
    go_enter Try.func3, Try.ntmps3
    go_wp2_with fail
    refine (toSeed_ret k a b _).mono ?_
    rintro e w1 ⟨rfl, hb⟩
    have hs : Below w.heap.size w w1 := Bel_next (by repeat (first | exact Below.refl _ _ | refine Below.drew ?_ | refine Bel_drewN ?_ _ | refine Below.alloc ?_ (by first | omega | (simp; done) | (simp; omega)) _ | refine Below.setCell ?_ (by first | omega | simp) _)) hb
    have Q0 := Lib.hid ((Whole.made w 24 (sdC k a b)).below hb)
    have yQ0 := Q0.out.lt
    have HB1 : Hid (Below w.heap.size w w1) := Lib.hid hs
    have z1 : w.heap.size ≤ w1.heap.size := hs.size
    clear hb hs
    have hcQ0 := Q0.out.facts.1
    have hzQ0 := Q0.out.lt
    go_wp2_with fail
    clear hcQ0 hzQ0
    refine (specStreams_in k a b sm sn _ HV.out.1 HM.out.1 HM.out.2 h_a h_b).mono ?_
    rintro e w2 ⟨_, _, rfl, row, hb⟩
    have hs : Below w1.heap.size w1 w2 := Bel_next (by repeat (first | exact Below.refl _ _ | refine Below.drew ?_ | refine Bel_drewN ?_ _ | refine Below.alloc ?_ (by first | omega | (simp; done) | (simp; omega)) _ | refine Below.setCell ?_ (by first | omega | simp) _)) hb
    replace Q0 := Lib.hid (Whole.below Q0.out hs)
    have HB2 : Hid (Below w.heap.size w w2) := Lib.hid (Bel_next HB1.out hs)
    have z2 : w1.heap.size ≤ w2.heap.size := hs.size
    have Gs := Lib.hid (Rows2.wide row (lo' := w1.heap.size) (by first | exact Nat.le_refl _ | (simp; done) | (simp; omega)) (Nat.le_refl _))
    clear row
    clear hb hs HB1
    have hcQ0 := Q0.out.facts.1
    have hzQ0 := Q0.out.lt
    go_wp2_with fail
    clear hcQ0 hzQ0
    refine (toSeed_ret k a b _).mono ?_
    rintro e w3 ⟨rfl, hb⟩
    have hs : Below w2.heap.size w2 w3 := Bel_next (by repeat (first | exact Below.refl _ _ | refine Below.drew ?_ | refine Bel_drewN ?_ _ | refine Below.alloc ?_ (by first | omega | (simp; done) | (simp; omega)) _ | refine Below.setCell ?_ (by first | omega | simp) _)) hb
    replace Q0 := Lib.hid (Whole.below Q0.out hs)
    have HB3 : Hid (Below w.heap.size w w3) := Lib.hid (Bel_next HB2.out hs)
    have z3 : w2.heap.size ≤ w3.heap.size := hs.size
    replace Gs := Lib.hid (Rows2.below Gs.out hs)
    clear hb hs HB2
    have hcQ0 := Q0.out.facts.1
    have hzQ0 := Q0.out.lt
    go_wp2_with fail
    clear hcQ0 hzQ0
    refine (implStreams_in k a b sm sn _ HV.out.1 HM.out.1 HM.out.2 h_a h_b).mono ?_
    rintro e w4 ⟨_, _, rfl, row, hb⟩
    have hs : Below w3.heap.size w3 w4 := Bel_next (by repeat (first | exact Below.refl _ _ | refine Below.drew ?_ | refine Bel_drewN ?_ _ | refine Below.alloc ?_ (by first | omega | (simp; done) | (simp; omega)) _ | refine Below.setCell ?_ (by first | omega | simp) _)) hb
    replace Q0 := Lib.hid (Whole.below Q0.out hs)
    have HB4 : Hid (Below w.heap.size w w4) := Lib.hid (Bel_next HB3.out hs)
    have z4 : w3.heap.size ≤ w4.heap.size := hs.size
    replace Gs := Lib.hid (Rows2.below Gs.out hs)
    have Gg := Lib.hid (Rows2.wide row (lo' := w3.heap.size) (by first | exact Nat.le_refl _ | (simp; done) | (simp; omega)) (Nat.le_refl _))
    clear row
    clear hb hs HB3
    have hcQ0 := Q0.out.facts.1
    have hzQ0 := Q0.out.lt
    go_wp2_with fail
    clear hcQ0 hzQ0
    refine (eqInt64SS_lim (strmLL k a b sm sn) ((strmLL k a b sm sn).length) (rfl) _ _ _ _ _ (by exact (Rows2.below Gg.out (by repeat (first | exact Below.refl _ _ | refine Below.drew ?_ | refine Bel_drewN ?_ _ | refine Below.alloc ?_ (by first | omega | (simp; done) | (simp; omega)) _ | refine Below.setCell ?_ (by first | omega | simp) _))).lists) (by exact (Rows2.below Gs.out (by repeat (first | exact Below.refl _ _ | refine Below.drew ?_ | refine Bel_drewN ?_ _ | refine Below.alloc ?_ (by first | omega | (simp; done) | (simp; omega)) _ | refine Below.setCell ?_ (by first | omega | simp) _))).lists) (by omega)).mono ?_
    rintro e w5 ⟨rfl, hb⟩
    have hs : Below w4.heap.size w4 w5 := Bel_next (by repeat (first | exact Below.refl _ _ | refine Below.drew ?_ | refine Bel_drewN ?_ _ | refine Below.alloc ?_ (by first | omega | (simp; done) | (simp; omega)) _ | refine Below.setCell ?_ (by first | omega | simp) _)) hb
    replace Q0 := Lib.hid (Whole.below Q0.out hs)
    have HB5 : Hid (Below w.heap.size w w5) := Lib.hid (Bel_next HB4.out hs)
    have z5 : w4.heap.size ≤ w5.heap.size := hs.size
    replace Gs := Lib.hid (Rows2.below Gs.out hs)
    replace Gg := Lib.hid (Rows2.below Gg.out hs)
    clear hb hs HB4
    have hcQ0 := Q0.out.facts.1
    have hzQ0 := Q0.out.lt
    go_wp2_with fail
    clear hcQ0 hzQ0
    refine (markInt64SS_row ((strmLL k a b sm sn).length) _ 1 _ _ _ _ _ (by exact Rows2.below Gg.out (by repeat (first | exact Below.refl _ _ | refine Below.drew ?_ | refine Bel_drewN ?_ _ | refine Below.alloc ?_ (by first | omega | (simp; done) | (simp; omega)) _ | refine Below.setCell ?_ (by first | omega | simp) _))) (rfl) (by omega)).mono ?_
    rintro e w6 ⟨rfl, row, bt⟩
    have HB6 : Hid (Below w.heap.size w w6) := Lib.hid (bt.bel (Bel_next HB5.out (by repeat (first | exact Below.refl _ _ | refine Below.drew ?_ | refine Bel_drewN ?_ _ | refine Below.alloc ?_ (by first | omega | (simp; done) | (simp; omega)) _ | refine Below.setCell ?_ (by first | omega | simp) _))) (by omega))
    have z6 : w5.heap.size ≤ w6.heap.size := by first | exact bt.size | (have := bt.size; simp at this; omega)
    replace Q0 := Lib.hid ((Whole.below Q0.out (by repeat (first | exact Below.refl _ _ | refine Below.drew ?_ | refine Bel_drewN ?_ _ | refine Below.alloc ?_ (by first | omega | (simp; done) | (simp; omega)) _ | refine Below.setCell ?_ (by first | omega | simp) _))).buts bt (by omega))
    replace Gs := Lib.hid ((Rows2.below Gs.out (by repeat (first | exact Below.refl _ _ | refine Below.drew ?_ | refine Bel_drewN ?_ _ | refine Below.alloc ?_ (by first | omega | (simp; done) | (simp; omega)) _ | refine Below.setCell ?_ (by first | omega | simp) _))).but bt (by omega))
    clear Gg bt HB5
    have Gg := Lib.hid row
    clear row
    have hcQ0 := Q0.out.facts.1
    have hzQ0 := Q0.out.lt
    go_wp2_with fail
    clear hcQ0 hzQ0
    refine (heldInt64SS_lim 1 ((strmLL k a b sm sn).length) _ _ _ (by exact (Rows2.below Gg.out (by repeat (first | exact Below.refl _ _ | refine Below.drew ?_ | refine Bel_drewN ?_ _ | refine Below.alloc ?_ (by first | omega | (simp; done) | (simp; omega)) _ | refine Below.setCell ?_ (by first | omega | simp) _))).lists) (by omega)).mono ?_
    rintro e w7 ⟨rfl, hb⟩
    have hs : Below w6.heap.size w6 w7 := Bel_next (by repeat (first | exact Below.refl _ _ | refine Below.drew ?_ | refine Bel_drewN ?_ _ | refine Below.alloc ?_ (by first | omega | (simp; done) | (simp; omega)) _ | refine Below.setCell ?_ (by first | omega | simp) _)) hb
    replace Q0 := Lib.hid (Whole.below Q0.out hs)
    have HB7 : Hid (Below w.heap.size w w7) := Lib.hid (Bel_next HB6.out hs)
    have z7 : w6.heap.size ≤ w7.heap.size := hs.size
    replace Gs := Lib.hid (Rows2.below Gs.out hs)
    replace Gg := Lib.hid (Rows2.below Gg.out hs)
    clear hb hs HB6
    have hcQ0 := Q0.out.facts.1
    have hzQ0 := Q0.out.lt
    go_wp2_with fail
    clear hcQ0 hzQ0
    refine (toSeed_ret k a b _).mono ?_
    rintro e w8 ⟨rfl, hb⟩
    have hs : Below w7.heap.size w7 w8 := Bel_next (by repeat (first | exact Below.refl _ _ | refine Below.drew ?_ | refine Bel_drewN ?_ _ | refine Below.alloc ?_ (by first | omega | (simp; done) | (simp; omega)) _ | refine Below.setCell ?_ (by first | omega | simp) _)) hb
    replace Q0 := Lib.hid (Whole.below Q0.out hs)
    have HB8 : Hid (Below w.heap.size w w8) := Lib.hid (Bel_next HB7.out hs)
    have z8 : w7.heap.size ≤ w8.heap.size := hs.size
    replace Gs := Lib.hid (Rows2.below Gs.out hs)
    replace Gg := Lib.hid (Rows2.below Gg.out hs)
    clear hb hs HB7
    have hcQ0 := Q0.out.facts.1
    have hzQ0 := Q0.out.lt
    go_wp2_with fail
    clear hcQ0 hzQ0
    refine (implStreams_in k a b sm sn _ HV.out.1 HM.out.1 HM.out.2 h_a h_b).mono ?_
    rintro e w9 ⟨_, _, rfl, row, hb⟩
    have hs : Below w8.heap.size w8 w9 := Bel_next (by repeat (first | exact Below.refl _ _ | refine Below.drew ?_ | refine Bel_drewN ?_ _ | refine Below.alloc ?_ (by first | omega | (simp; done) | (simp; omega)) _ | refine Below.setCell ?_ (by first | omega | simp) _)) hb
    replace Q0 := Lib.hid (Whole.below Q0.out hs)
    have HB9 : Hid (Below w.heap.size w w9) := Lib.hid (Bel_next HB8.out hs)
    have z9 : w8.heap.size ≤ w9.heap.size := hs.size
    replace Gs := Lib.hid (Rows2.below Gs.out hs)
    replace Gg := Lib.hid (Rows2.below Gg.out hs)
    have Gh := Lib.hid (Rows2.wide row (lo' := w8.heap.size) (by first | exact Nat.le_refl _ | (simp; done) | (simp; omega)) (Nat.le_refl _))
    clear row
    clear hb hs HB8
    have hcQ0 := Q0.out.facts.1
    have hzQ0 := Q0.out.lt
    go_wp2_with fail
    clear hcQ0 hzQ0
    refine (eqInt64SS_lim (strmLL k a b sm sn) ((strmLL k a b sm sn).length) (rfl) _ _ _ _ _ (by exact (Rows2.below Gh.out (by repeat (first | exact Below.refl _ _ | refine Below.drew ?_ | refine Bel_drewN ?_ _ | refine Below.alloc ?_ (by first | omega | (simp; done) | (simp; omega)) _ | refine Below.setCell ?_ (by first | omega | simp) _))).lists) (by exact (Rows2.below Gs.out (by repeat (first | exact Below.refl _ _ | refine Below.drew ?_ | refine Bel_drewN ?_ _ | refine Below.alloc ?_ (by first | omega | (simp; done) | (simp; omega)) _ | refine Below.setCell ?_ (by first | omega | simp) _))).lists) (by omega)).mono ?_
    rintro e w10 ⟨rfl, hb⟩
    have hs : Below w9.heap.size w9 w10 := Bel_next (by repeat (first | exact Below.refl _ _ | refine Below.drew ?_ | refine Bel_drewN ?_ _ | refine Below.alloc ?_ (by first | omega | (simp; done) | (simp; omega)) _ | refine Below.setCell ?_ (by first | omega | simp) _)) hb
    replace Q0 := Lib.hid (Whole.below Q0.out hs)
    have HB10 : Hid (Below w.heap.size w w10) := Lib.hid (Bel_next HB9.out hs)
    have z10 : w9.heap.size ≤ w10.heap.size := hs.size
    replace Gs := Lib.hid (Rows2.below Gs.out hs)
    replace Gg := Lib.hid (Rows2.below Gg.out hs)
    replace Gh := Lib.hid (Rows2.below Gh.out hs)
    clear hb hs HB9
    have hcQ0 := Q0.out.facts.1
    have hzQ0 := Q0.out.lt
    go_wp2_with fail
    clear hcQ0 hzQ0
    refine (heldInt64SS_lim 1 ((strmLL k a b sm sn).length) _ _ _ (by exact (Rows2.below Gg.out (by repeat (first | exact Below.refl _ _ | refine Below.drew ?_ | refine Bel_drewN ?_ _ | refine Below.alloc ?_ (by first | omega | (simp; done) | (simp; omega)) _ | refine Below.setCell ?_ (by first | omega | simp) _))).lists) (by omega)).mono ?_
    rintro e w11 ⟨rfl, hb⟩
    have hs : Below w10.heap.size w10 w11 := Bel_next (by repeat (first | exact Below.refl _ _ | refine Below.drew ?_ | refine Bel_drewN ?_ _ | refine Below.alloc ?_ (by first | omega | (simp; done) | (simp; omega)) _ | refine Below.setCell ?_ (by first | omega | simp) _)) hb
    replace Q0 := Lib.hid (Whole.below Q0.out hs)
    have HB11 : Hid (Below w.heap.size w w11) := Lib.hid (Bel_next HB10.out hs)
    have z11 : w10.heap.size ≤ w11.heap.size := hs.size
    replace Gs := Lib.hid (Rows2.below Gs.out hs)
    replace Gg := Lib.hid (Rows2.below Gg.out hs)
    replace Gh := Lib.hid (Rows2.below Gh.out hs)
    clear hb hs HB10
    go_wp2_with fail
    go_ret
    exact ⟨rfl, Bel_next HB11.out (by repeat (first | exact Below.refl _ _ | refine Below.drew ?_ | refine Bel_drewN ?_ _ | refine Below.alloc ?_ (by first | omega | (simp; done) | (simp; omega)) _ | refine Below.setCell ?_ (by first | omega | simp) _))⟩
  have HV := Lib.hid hv0
  clear hv0
  go_enter Try.func3, Try.ntmps3
  go_wp2_with fail
  refine (toSeed_ret k a b _).mono ?_
  rintro e w1 ⟨rfl, hb⟩
  have hs : Below w.heap.size w w1 := Bel_next (by repeat (first | exact Below.refl _ _ | refine Below.drew ?_ | refine Bel_drewN ?_ _ | refine Below.alloc ?_ (by first | omega | (simp; done) | (simp; omega)) _ | refine Below.setCell ?_ (by first | omega | simp) _)) hb
  have Q0 := Lib.hid ((Whole.made w 24 (sdC k a b)).below hb)
  have yQ0 := Q0.out.lt
  have HB1 : Hid (Below w.heap.size w w1) := Lib.hid hs
  have z1 : w.heap.size ≤ w1.heap.size := hs.size
  clear hb hs
  have hcQ0 := Q0.out.facts.1
  have hzQ0 := Q0.out.lt
  go_wp2_with fail
  clear hcQ0 hzQ0
  refine (specStreams_no k a b sm sn _ HV.out).mono ?_
  rintro e w2 ⟨rfl, hb⟩
  have hs : Below w1.heap.size w1 w2 := Bel_next (by repeat (first | exact Below.refl _ _ | refine Below.drew ?_ | refine Bel_drewN ?_ _ | refine Below.alloc ?_ (by first | omega | (simp; done) | (simp; omega)) _ | refine Below.setCell ?_ (by first | omega | simp) _)) hb
  replace Q0 := Lib.hid (Whole.below Q0.out hs)
  have HB2 : Hid (Below w.heap.size w w2) := Lib.hid (Bel_next HB1.out hs)
  have z2 : w1.heap.size ≤ w2.heap.size := hs.size
  clear hb hs HB1
  have hcQ0 := Q0.out.facts.1
  have hzQ0 := Q0.out.lt
  go_wp2_with fail
  clear hcQ0 hzQ0
  refine (toSeed_ret k a b _).mono ?_
  rintro e w3 ⟨rfl, hb⟩
  have hs : Below w2.heap.size w2 w3 := Bel_next (by repeat (first | exact Below.refl _ _ | refine Below.drew ?_ | refine Bel_drewN ?_ _ | refine Below.alloc ?_ (by first | omega | (simp; done) | (simp; omega)) _ | refine Below.setCell ?_ (by first | omega | simp) _)) hb
  replace Q0 := Lib.hid (Whole.below Q0.out hs)
  have HB3 : Hid (Below w.heap.size w w3) := Lib.hid (Bel_next HB2.out hs)
  have z3 : w2.heap.size ≤ w3.heap.size := hs.size
  clear hb hs HB2
  have hcQ0 := Q0.out.facts.1
  have hzQ0 := Q0.out.lt
  go_wp2_with fail
  clear hcQ0 hzQ0
  refine (implStreams_no k a b sm sn _ HV.out).mono ?_
  rintro e w4 ⟨rfl, hb⟩
  have hs : Below w3.heap.size w3 w4 := Bel_next (by repeat (first | exact Below.refl _ _ | refine Below.drew ?_ | refine Bel_drewN ?_ _ | refine Below.alloc ?_ (by first | omega | (simp; done) | (simp; omega)) _ | refine Below.setCell ?_ (by first | omega | simp) _)) hb
  replace Q0 := Lib.hid (Whole.below Q0.out hs)
  have HB4 : Hid (Below w.heap.size w w4) := Lib.hid (Bel_next HB3.out hs)
  have z4 : w3.heap.size ≤ w4.heap.size := hs.size
  clear hb hs HB3
  have hcQ0 := Q0.out.facts.1
  have hzQ0 := Q0.out.lt
  go_wp2_with fail
  clear hcQ0 hzQ0
  refine (eqInt64SS_nil _ _ _ _ _).mono ?_
  rintro e w5 ⟨rfl, hb⟩
  have hs : Below w4.heap.size w4 w5 := Bel_next (by repeat (first | exact Below.refl _ _ | refine Below.drew ?_ | refine Bel_drewN ?_ _ | refine Below.alloc ?_ (by first | omega | (simp; done) | (simp; omega)) _ | refine Below.setCell ?_ (by first | omega | simp) _)) hb
  replace Q0 := Lib.hid (Whole.below Q0.out hs)
  have HB5 : Hid (Below w.heap.size w w5) := Lib.hid (Bel_next HB4.out hs)
  have z5 : w4.heap.size ≤ w5.heap.size := hs.size
  clear hb hs HB4
  have hcQ0 := Q0.out.facts.1
  have hzQ0 := Q0.out.lt
  go_wp2_with fail
  clear hcQ0 hzQ0
  refine (markInt64SS_zero 1 _ _ _).mono ?_
  rintro e w6 ⟨rfl, hb⟩
  have hs : Below w5.heap.size w5 w6 := Bel_next (by repeat (first | exact Below.refl _ _ | refine Below.drew ?_ | refine Bel_drewN ?_ _ | refine Below.alloc ?_ (by first | omega | (simp; done) | (simp; omega)) _ | refine Below.setCell ?_ (by first | omega | simp) _)) hb
  replace Q0 := Lib.hid (Whole.below Q0.out hs)
  have HB6 : Hid (Below w.heap.size w w6) := Lib.hid (Bel_next HB5.out hs)
  have z6 : w5.heap.size ≤ w6.heap.size := hs.size
  clear hb hs HB5
  have hcQ0 := Q0.out.facts.1
  have hzQ0 := Q0.out.lt
  go_wp2_with fail
  clear hcQ0 hzQ0
  refine (heldInt64SS_nil 1 _ _ _).mono ?_
  rintro e w7 ⟨rfl, hb⟩
  have hs : Below w6.heap.size w6 w7 := Bel_next (by repeat (first | exact Below.refl _ _ | refine Below.drew ?_ | refine Bel_drewN ?_ _ | refine Below.alloc ?_ (by first | omega | (simp; done) | (simp; omega)) _ | refine Below.setCell ?_ (by first | omega | simp) _)) hb
  replace Q0 := Lib.hid (Whole.below Q0.out hs)
  have HB7 : Hid (Below w.heap.size w w7) := Lib.hid (Bel_next HB6.out hs)
  have z7 : w6.heap.size ≤ w7.heap.size := hs.size
  clear hb hs HB6
  have hcQ0 := Q0.out.facts.1
  have hzQ0 := Q0.out.lt
  go_wp2_with fail
  clear hcQ0 hzQ0
  refine (toSeed_ret k a b _).mono ?_
  rintro e w8 ⟨rfl, hb⟩
  have hs : Below w7.heap.size w7 w8 := Bel_next (by repeat (first | exact Below.refl _ _ | refine Below.drew ?_ | refine Bel_drewN ?_ _ | refine Below.alloc ?_ (by first | omega | (simp; done) | (simp; omega)) _ | refine Below.setCell ?_ (by first | omega | simp) _)) hb
  replace Q0 := Lib.hid (Whole.below Q0.out hs)
  have HB8 : Hid (Below w.heap.size w w8) := Lib.hid (Bel_next HB7.out hs)
  have z8 : w7.heap.size ≤ w8.heap.size := hs.size
  clear hb hs HB7
  have hcQ0 := Q0.out.facts.1
  have hzQ0 := Q0.out.lt
  go_wp2_with fail
  clear hcQ0 hzQ0
  refine (implStreams_no k a b sm sn _ HV.out).mono ?_
  rintro e w9 ⟨rfl, hb⟩
  have hs : Below w8.heap.size w8 w9 := Bel_next (by repeat (first | exact Below.refl _ _ | refine Below.drew ?_ | refine Bel_drewN ?_ _ | refine Below.alloc ?_ (by first | omega | (simp; done) | (simp; omega)) _ | refine Below.setCell ?_ (by first | omega | simp) _)) hb
  replace Q0 := Lib.hid (Whole.below Q0.out hs)
  have HB9 : Hid (Below w.heap.size w w9) := Lib.hid (Bel_next HB8.out hs)
  have z9 : w8.heap.size ≤ w9.heap.size := hs.size
  clear hb hs HB8
  have hcQ0 := Q0.out.facts.1
  have hzQ0 := Q0.out.lt
  go_wp2_with fail
  clear hcQ0 hzQ0
  refine (eqInt64SS_nil _ _ _ _ _).mono ?_
  rintro e w10 ⟨rfl, hb⟩
  have hs : Below w9.heap.size w9 w10 := Bel_next (by repeat (first | exact Below.refl _ _ | refine Below.drew ?_ | refine Bel_drewN ?_ _ | refine Below.alloc ?_ (by first | omega | (simp; done) | (simp; omega)) _ | refine Below.setCell ?_ (by first | omega | simp) _)) hb
  replace Q0 := Lib.hid (Whole.below Q0.out hs)
  have HB10 : Hid (Below w.heap.size w w10) := Lib.hid (Bel_next HB9.out hs)
  have z10 : w9.heap.size ≤ w10.heap.size := hs.size
  clear hb hs HB9
  have hcQ0 := Q0.out.facts.1
  have hzQ0 := Q0.out.lt
  go_wp2_with fail
  clear hcQ0 hzQ0
  refine (heldInt64SS_nil 1 _ _ _).mono ?_
  rintro e w11 ⟨rfl, hb⟩
  have hs : Below w10.heap.size w10 w11 := Bel_next (by repeat (first | exact Below.refl _ _ | refine Below.drew ?_ | refine Bel_drewN ?_ _ | refine Below.alloc ?_ (by first | omega | (simp; done) | (simp; omega)) _ | refine Below.setCell ?_ (by first | omega | simp) _)) hb
  replace Q0 := Lib.hid (Whole.below Q0.out hs)
  have HB11 : Hid (Below w.heap.size w w11) := Lib.hid (Bel_next HB10.out hs)
  have z11 : w10.heap.size ≤ w11.heap.size := hs.size
  clear hb hs HB10
  go_wp2_with fail
  go_ret
  exact ⟨rfl, Bel_next HB11.out (by repeat (first | exact Below.refl _ _ | refine Below.drew ?_ | refine Bel_drewN ?_ _ | refine Below.alloc ?_ (by first | omega | (simp; done) | (simp; omega)) _ | refine Below.setCell ?_ (by first | omega | simp) _))⟩
end Go.Proofs.Ytdnelmmbiccjcaa
