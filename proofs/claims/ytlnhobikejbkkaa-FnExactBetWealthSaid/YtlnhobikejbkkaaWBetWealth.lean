/- The walk of the law FnExactBetWealth. -/
import Derived.Test.YtlnhobikejbkkaaBw6
namespace Go.Proofs.Ytlnhobikejbkkaa
open Go Go.RowKit Fl
set_option linter.unusedVariables false

set_option maxRecDepth 100000 in
set_option maxHeartbeats 800000 in
theorem FnExactBetWealth_walk (bs : List Bool) (ao_bs : Option Addr) (c_bs : Nat) (h_bs : True) (sh : Nat) (h_sh : (Lit.float .f32 sh).wf = true) (st : Nat) (h_st : (Lit.float .f32 st).wf = true) (w : World) (hx_bs : Holds w ao_bs (bl bs)) :
    Calls Try.prog 10 #[.slice ao_bs bs.length c_bs, .float .f32 sh, .float .f32 st] w fun e w' => e = .returned (.bool true) ∧ Below w.heap.size w w' := by
  by_cases hl0 : 1048576 < bs.length
  · have hl : (1048576 : Int) < (bs.length : Int) := by omega
    clear hl0
    go_enter Try.func10, Try.ntmps10
    go_wp2
    go_ret
    exact ⟨rfl, by repeat (first | exact Below.refl _ _ | refine Below.drew ?_ | refine Bel_drewN ?_ _ | refine Below.alloc ?_ (by first | omega | (simp; done) | (simp; omega)) _ | refine Below.setCell ?_ (by first | omega | simp) _)⟩
  have hs0 : (bs.length : Int) ≤ 1048576 := by omega
  have hn0 : bs.length ≤ 1048576 := by omega
  clear hl0
  have HX_bs := Lib.hid hx_bs
  clear hx_bs
  by_cases hv0 : betC bs sh st
  · have HV := Lib.hid hv0
    clear hv0
    have hcl : bs.length ≤ 256 := HV.out.1.1.2
    go_enter Try.func10, Try.ntmps10
    go_wp2_with fail
    refine (toBoolS_any bs _ _ _ (by exact Holds.below HX_bs.out (by repeat (first | exact Below.refl _ _ | refine Below.drew ?_ | refine Bel_drewN ?_ _ | refine Below.alloc ?_ (by first | omega | (simp; done) | (simp; omega)) _ | refine Below.setCell ?_ (by first | omega | simp) _))) hn0).mono ?_
    rintro e w1 ⟨_, rfl, row, hb⟩
    have hs : Below w.heap.size w w1 := Bel_next (by repeat (first | exact Below.refl _ _ | refine Below.drew ?_ | refine Bel_drewN ?_ _ | refine Below.alloc ?_ (by first | omega | (simp; done) | (simp; omega)) _ | refine Below.setCell ?_ (by first | omega | simp) _)) hb
    have HB1 : Hid (Below w.heap.size w w1) := Lib.hid hs
    have z1 : w.heap.size ≤ w1.heap.size := hs.size
    have Ra_bs := Lib.hid (Row.wide row (lo' := w.heap.size) (by first | exact Nat.le_refl _ | (simp; done) | (simp; omega)) (Nat.le_refl _))
    clear row
    clear hb hs
    go_wp2_with fail
    refine (specBet_yes bs sh st _ _ _ HV.out (by exact (Row.below Ra_bs.out (by repeat (first | exact Below.refl _ _ | refine Below.drew ?_ | refine Bel_drewN ?_ _ | refine Below.alloc ?_ (by first | omega | (simp; done) | (simp; omega)) _ | refine Below.setCell ?_ (by first | omega | simp) _))).holds)).mono ?_
    rintro e w2 ⟨_, _, rfl, row, hb⟩
    have hs : Below w1.heap.size w1 w2 := Bel_next (by repeat (first | exact Below.refl _ _ | refine Below.drew ?_ | refine Bel_drewN ?_ _ | refine Below.alloc ?_ (by first | omega | (simp; done) | (simp; omega)) _ | refine Below.setCell ?_ (by first | omega | simp) _)) hb
    have HB2 : Hid (Below w.heap.size w w2) := Lib.hid (Bel_next HB1.out hs)
    have z2 : w1.heap.size ≤ w2.heap.size := hs.size
    replace Ra_bs := Lib.hid (Row.below Ra_bs.out hs)
    have Gs := Lib.hid (Row.wide row (lo' := w1.heap.size) (by first | exact Nat.le_refl _ | (simp; done) | (simp; omega)) (Nat.le_refl _))
    clear row
    clear hb hs HB1
    clear Ra_bs
    go_wp2_with fail
    refine (toBoolS_any bs _ _ _ (by exact Holds.below HX_bs.out (Bel_next HB2.out (by repeat (first | exact Below.refl _ _ | refine Below.drew ?_ | refine Bel_drewN ?_ _ | refine Below.alloc ?_ (by first | omega | (simp; done) | (simp; omega)) _ | refine Below.setCell ?_ (by first | omega | simp) _)))) hn0).mono ?_
    rintro e w3 ⟨_, rfl, row, hb⟩
    have hs : Below w2.heap.size w2 w3 := Bel_next (by repeat (first | exact Below.refl _ _ | refine Below.drew ?_ | refine Bel_drewN ?_ _ | refine Below.alloc ?_ (by first | omega | (simp; done) | (simp; omega)) _ | refine Below.setCell ?_ (by first | omega | simp) _)) hb
    have HB3 : Hid (Below w.heap.size w w3) := Lib.hid (Bel_next HB2.out hs)
    have z3 : w2.heap.size ≤ w3.heap.size := hs.size
    replace Gs := Lib.hid (Row.below Gs.out hs)
    have X_bs := Lib.hid (Row.wide row (lo' := w2.heap.size) (by first | exact Nat.le_refl _ | (simp; done) | (simp; omega)) (Nat.le_refl _))
    clear row
    clear hb hs HB2
    go_wp2_with fail
    refine (implBet_yes bs sh st _ _ _ HV.out (by exact (Row.below X_bs.out (by repeat (first | exact Below.refl _ _ | refine Below.drew ?_ | refine Bel_drewN ?_ _ | refine Below.alloc ?_ (by first | omega | (simp; done) | (simp; omega)) _ | refine Below.setCell ?_ (by first | omega | simp) _))).holds)).mono ?_
    rintro e w4 ⟨_, _, rfl, row, hb⟩
    have hs : Below w3.heap.size w3 w4 := Bel_next (by repeat (first | exact Below.refl _ _ | refine Below.drew ?_ | refine Bel_drewN ?_ _ | refine Below.alloc ?_ (by first | omega | (simp; done) | (simp; omega)) _ | refine Below.setCell ?_ (by first | omega | simp) _)) hb
    have HB4 : Hid (Below w.heap.size w w4) := Lib.hid (Bel_next HB3.out hs)
    have z4 : w3.heap.size ≤ w4.heap.size := hs.size
    replace Gs := Lib.hid (Row.below Gs.out hs)
    replace X_bs := Lib.hid (Row.below X_bs.out hs)
    have Gg := Lib.hid (Row.wide row (lo' := w3.heap.size) (by first | exact Nat.le_refl _ | (simp; done) | (simp; omega)) (Nat.le_refl _))
    clear row
    clear hb hs HB3
    go_wp2_with fail
    refine (eqFloat32S_same (betL bs sh st) (bs.length) (wkL_len _ _ _ _ _) _ _ _ _ _ (by exact (Row.below Gg.out (by repeat (first | exact Below.refl _ _ | refine Below.drew ?_ | refine Bel_drewN ?_ _ | refine Below.alloc ?_ (by first | omega | (simp; done) | (simp; omega)) _ | refine Below.setCell ?_ (by first | omega | simp) _))).holds) (by exact (Row.below Gs.out (by repeat (first | exact Below.refl _ _ | refine Below.drew ?_ | refine Bel_drewN ?_ _ | refine Below.alloc ?_ (by first | omega | (simp; done) | (simp; omega)) _ | refine Below.setCell ?_ (by first | omega | simp) _))).holds) (by omega)).mono ?_
    rintro e w5 ⟨rfl, hb⟩
    have hs : Below w4.heap.size w4 w5 := Bel_next (by repeat (first | exact Below.refl _ _ | refine Below.drew ?_ | refine Bel_drewN ?_ _ | refine Below.alloc ?_ (by first | omega | (simp; done) | (simp; omega)) _ | refine Below.setCell ?_ (by first | omega | simp) _)) hb
    have HB5 : Hid (Below w.heap.size w w5) := Lib.hid (Bel_next HB4.out hs)
    have z5 : w4.heap.size ≤ w5.heap.size := hs.size
    replace Gs := Lib.hid (Row.below Gs.out hs)
    replace X_bs := Lib.hid (Row.below X_bs.out hs)
    replace Gg := Lib.hid (Row.below Gg.out hs)
    clear hb hs HB4
    go_wp2_with fail
    refine (toBoolS_any bs _ _ _ (by exact Holds.below HX_bs.out (Bel_next HB5.out (by repeat (first | exact Below.refl _ _ | refine Below.drew ?_ | refine Bel_drewN ?_ _ | refine Below.alloc ?_ (by first | omega | (simp; done) | (simp; omega)) _ | refine Below.setCell ?_ (by first | omega | simp) _)))) hn0).mono ?_
    rintro e w6 ⟨_, rfl, row, hb⟩
    have hs : Below w5.heap.size w5 w6 := Bel_next (by repeat (first | exact Below.refl _ _ | refine Below.drew ?_ | refine Bel_drewN ?_ _ | refine Below.alloc ?_ (by first | omega | (simp; done) | (simp; omega)) _ | refine Below.setCell ?_ (by first | omega | simp) _)) hb
    have HB6 : Hid (Below w.heap.size w w6) := Lib.hid (Bel_next HB5.out hs)
    have z6 : w5.heap.size ≤ w6.heap.size := hs.size
    replace Gs := Lib.hid (Row.below Gs.out hs)
    replace X_bs := Lib.hid (Row.below X_bs.out hs)
    replace Gg := Lib.hid (Row.below Gg.out hs)
    have Y_bs := Lib.hid (Row.wide row (lo' := w5.heap.size) (by first | exact Nat.le_refl _ | (simp; done) | (simp; omega)) (Nat.le_refl _))
    clear row
    clear hb hs HB5
    go_wp2_with fail
    refine (eqBoolS_same bs _ rfl _ _ _ _ _ (by exact (Row.below X_bs.out (by repeat (first | exact Below.refl _ _ | refine Below.drew ?_ | refine Bel_drewN ?_ _ | refine Below.alloc ?_ (by first | omega | (simp; done) | (simp; omega)) _ | refine Below.setCell ?_ (by first | omega | simp) _))).holds) (by exact (Row.below Y_bs.out (by repeat (first | exact Below.refl _ _ | refine Below.drew ?_ | refine Bel_drewN ?_ _ | refine Below.alloc ?_ (by first | omega | (simp; done) | (simp; omega)) _ | refine Below.setCell ?_ (by first | omega | simp) _))).holds) (by omega)).mono ?_
    rintro e w7 ⟨rfl, hb⟩
    have hs : Below w6.heap.size w6 w7 := Bel_next (by repeat (first | exact Below.refl _ _ | refine Below.drew ?_ | refine Bel_drewN ?_ _ | refine Below.alloc ?_ (by first | omega | (simp; done) | (simp; omega)) _ | refine Below.setCell ?_ (by first | omega | simp) _)) hb
    have HB7 : Hid (Below w.heap.size w w7) := Lib.hid (Bel_next HB6.out hs)
    have z7 : w6.heap.size ≤ w7.heap.size := hs.size
    replace Gs := Lib.hid (Row.below Gs.out hs)
    replace X_bs := Lib.hid (Row.below X_bs.out hs)
    replace Gg := Lib.hid (Row.below Gg.out hs)
    replace Y_bs := Lib.hid (Row.below Y_bs.out hs)
    clear hb hs HB6
    clear Y_bs
    go_wp2_with fail
    refine (markBoolS_row (bs.length) _ 1 _ _ _ _ _ (by exact Row.below X_bs.out (by repeat (first | exact Below.refl _ _ | refine Below.drew ?_ | refine Bel_drewN ?_ _ | refine Below.alloc ?_ (by first | omega | (simp; done) | (simp; omega)) _ | refine Below.setCell ?_ (by first | omega | simp) _))) ((bl_len _).trans (rfl)) (by omega)).mono ?_
    rintro e w8 ⟨rfl, row, bt⟩
    have HB8 : Hid (Below w.heap.size w w8) := Lib.hid (bt.bel (Bel_next HB7.out (by repeat (first | exact Below.refl _ _ | refine Below.drew ?_ | refine Bel_drewN ?_ _ | refine Below.alloc ?_ (by first | omega | (simp; done) | (simp; omega)) _ | refine Below.setCell ?_ (by first | omega | simp) _))) (by omega))
    have z8 : w7.heap.size ≤ w8.heap.size := by first | exact bt.size | (have := bt.size; simp at this; omega)
    replace Gs := Lib.hid ((Row.below Gs.out (by repeat (first | exact Below.refl _ _ | refine Below.drew ?_ | refine Bel_drewN ?_ _ | refine Below.alloc ?_ (by first | omega | (simp; done) | (simp; omega)) _ | refine Below.setCell ?_ (by first | omega | simp) _))).but bt (by omega))
    replace Gg := Lib.hid ((Row.below Gg.out (by repeat (first | exact Below.refl _ _ | refine Below.drew ?_ | refine Bel_drewN ?_ _ | refine Below.alloc ?_ (by first | omega | (simp; done) | (simp; omega)) _ | refine Below.setCell ?_ (by first | omega | simp) _))).but bt (by omega))
    clear X_bs bt HB7
    have X_bs := Lib.hid row
    clear row
    clear X_bs
    go_wp2_with fail
    refine (eqFloat32S_same (betL bs sh st) (bs.length) (wkL_len _ _ _ _ _) _ _ _ _ _ (by exact (Row.below Gg.out (by repeat (first | exact Below.refl _ _ | refine Below.drew ?_ | refine Bel_drewN ?_ _ | refine Below.alloc ?_ (by first | omega | (simp; done) | (simp; omega)) _ | refine Below.setCell ?_ (by first | omega | simp) _))).holds) (by exact (Row.below Gs.out (by repeat (first | exact Below.refl _ _ | refine Below.drew ?_ | refine Bel_drewN ?_ _ | refine Below.alloc ?_ (by first | omega | (simp; done) | (simp; omega)) _ | refine Below.setCell ?_ (by first | omega | simp) _))).holds) (by omega)).mono ?_
    rintro e w9 ⟨rfl, hb⟩
    have hs : Below w8.heap.size w8 w9 := Bel_next (by repeat (first | exact Below.refl _ _ | refine Below.drew ?_ | refine Bel_drewN ?_ _ | refine Below.alloc ?_ (by first | omega | (simp; done) | (simp; omega)) _ | refine Below.setCell ?_ (by first | omega | simp) _)) hb
    have HB9 : Hid (Below w.heap.size w w9) := Lib.hid (Bel_next HB8.out hs)
    have z9 : w8.heap.size ≤ w9.heap.size := hs.size
    replace Gs := Lib.hid (Row.below Gs.out hs)
    replace Gg := Lib.hid (Row.below Gg.out hs)
    clear hb hs HB8
    go_wp2_with fail
    refine (markFloat32S_row (bs.length) _ 1 _ _ _ _ _ (by exact Row.below Gg.out (by repeat (first | exact Below.refl _ _ | refine Below.drew ?_ | refine Bel_drewN ?_ _ | refine Below.alloc ?_ (by first | omega | (simp; done) | (simp; omega)) _ | refine Below.setCell ?_ (by first | omega | simp) _))) ((fl_len _ _).trans (wkL_len _ _ _ _ _)) (by omega)).mono ?_
    rintro e w10 ⟨rfl, row, bt⟩
    have HB10 : Hid (Below w.heap.size w w10) := Lib.hid (bt.bel (Bel_next HB9.out (by repeat (first | exact Below.refl _ _ | refine Below.drew ?_ | refine Bel_drewN ?_ _ | refine Below.alloc ?_ (by first | omega | (simp; done) | (simp; omega)) _ | refine Below.setCell ?_ (by first | omega | simp) _))) (by omega))
    have z10 : w9.heap.size ≤ w10.heap.size := by first | exact bt.size | (have := bt.size; simp at this; omega)
    replace Gs := Lib.hid ((Row.below Gs.out (by repeat (first | exact Below.refl _ _ | refine Below.drew ?_ | refine Bel_drewN ?_ _ | refine Below.alloc ?_ (by first | omega | (simp; done) | (simp; omega)) _ | refine Below.setCell ?_ (by first | omega | simp) _))).but bt (by omega))
    clear Gg bt HB9
    have Gg := Lib.hid row
    clear row
    go_wp2_with fail
    refine (heldFloat32S_fmarks 1 (bs.length) _ _ _ (by exact (Row.below Gg.out (by repeat (first | exact Below.refl _ _ | refine Below.drew ?_ | refine Bel_drewN ?_ _ | refine Below.alloc ?_ (by first | omega | (simp; done) | (simp; omega)) _ | refine Below.setCell ?_ (by first | omega | simp) _))).holds) (by omega)).mono ?_
    rintro e w11 ⟨rfl, hb⟩
    have hs : Below w10.heap.size w10 w11 := Bel_next (by repeat (first | exact Below.refl _ _ | refine Below.drew ?_ | refine Bel_drewN ?_ _ | refine Below.alloc ?_ (by first | omega | (simp; done) | (simp; omega)) _ | refine Below.setCell ?_ (by first | omega | simp) _)) hb
    have HB11 : Hid (Below w.heap.size w w11) := Lib.hid (Bel_next HB10.out hs)
    have z11 : w10.heap.size ≤ w11.heap.size := hs.size
    replace Gs := Lib.hid (Row.below Gs.out hs)
    replace Gg := Lib.hid (Row.below Gg.out hs)
    clear hb hs HB10
    go_wp2_with fail
    refine (toBoolS_any bs _ _ _ (by exact Holds.below HX_bs.out (Bel_next HB11.out (by repeat (first | exact Below.refl _ _ | refine Below.drew ?_ | refine Bel_drewN ?_ _ | refine Below.alloc ?_ (by first | omega | (simp; done) | (simp; omega)) _ | refine Below.setCell ?_ (by first | omega | simp) _)))) hn0).mono ?_
    rintro e w12 ⟨_, rfl, row, hb⟩
    have hs : Below w11.heap.size w11 w12 := Bel_next (by repeat (first | exact Below.refl _ _ | refine Below.drew ?_ | refine Bel_drewN ?_ _ | refine Below.alloc ?_ (by first | omega | (simp; done) | (simp; omega)) _ | refine Below.setCell ?_ (by first | omega | simp) _)) hb
    have HB12 : Hid (Below w.heap.size w w12) := Lib.hid (Bel_next HB11.out hs)
    have z12 : w11.heap.size ≤ w12.heap.size := hs.size
    replace Gs := Lib.hid (Row.below Gs.out hs)
    replace Gg := Lib.hid (Row.below Gg.out hs)
    have Rc_bs := Lib.hid (Row.wide row (lo' := w11.heap.size) (by first | exact Nat.le_refl _ | (simp; done) | (simp; omega)) (Nat.le_refl _))
    clear row
    clear hb hs HB11
    go_wp2_with fail
    refine (implBet_yes bs sh st _ _ _ HV.out (by exact (Row.below Rc_bs.out (by repeat (first | exact Below.refl _ _ | refine Below.drew ?_ | refine Bel_drewN ?_ _ | refine Below.alloc ?_ (by first | omega | (simp; done) | (simp; omega)) _ | refine Below.setCell ?_ (by first | omega | simp) _))).holds)).mono ?_
    rintro e w13 ⟨_, _, rfl, row, hb⟩
    have hs : Below w12.heap.size w12 w13 := Bel_next (by repeat (first | exact Below.refl _ _ | refine Below.drew ?_ | refine Bel_drewN ?_ _ | refine Below.alloc ?_ (by first | omega | (simp; done) | (simp; omega)) _ | refine Below.setCell ?_ (by first | omega | simp) _)) hb
    have HB13 : Hid (Below w.heap.size w w13) := Lib.hid (Bel_next HB12.out hs)
    have z13 : w12.heap.size ≤ w13.heap.size := hs.size
    replace Gs := Lib.hid (Row.below Gs.out hs)
    replace Gg := Lib.hid (Row.below Gg.out hs)
    replace Rc_bs := Lib.hid (Row.below Rc_bs.out hs)
    have Gh := Lib.hid (Row.wide row (lo' := w12.heap.size) (by first | exact Nat.le_refl _ | (simp; done) | (simp; omega)) (Nat.le_refl _))
    clear row
    clear hb hs HB12
    go_wp2_with fail
    refine (eqFloat32S_same (betL bs sh st) (bs.length) (wkL_len _ _ _ _ _) _ _ _ _ _ (by exact (Row.below Gh.out (by repeat (first | exact Below.refl _ _ | refine Below.drew ?_ | refine Bel_drewN ?_ _ | refine Below.alloc ?_ (by first | omega | (simp; done) | (simp; omega)) _ | refine Below.setCell ?_ (by first | omega | simp) _))).holds) (by exact (Row.below Gs.out (by repeat (first | exact Below.refl _ _ | refine Below.drew ?_ | refine Bel_drewN ?_ _ | refine Below.alloc ?_ (by first | omega | (simp; done) | (simp; omega)) _ | refine Below.setCell ?_ (by first | omega | simp) _))).holds) (by omega)).mono ?_
    rintro e w14 ⟨rfl, hb⟩
    have hs : Below w13.heap.size w13 w14 := Bel_next (by repeat (first | exact Below.refl _ _ | refine Below.drew ?_ | refine Bel_drewN ?_ _ | refine Below.alloc ?_ (by first | omega | (simp; done) | (simp; omega)) _ | refine Below.setCell ?_ (by first | omega | simp) _)) hb
    have HB14 : Hid (Below w.heap.size w w14) := Lib.hid (Bel_next HB13.out hs)
    have z14 : w13.heap.size ≤ w14.heap.size := hs.size
    replace Gs := Lib.hid (Row.below Gs.out hs)
    replace Gg := Lib.hid (Row.below Gg.out hs)
    replace Rc_bs := Lib.hid (Row.below Rc_bs.out hs)
    replace Gh := Lib.hid (Row.below Gh.out hs)
    clear hb hs HB13
    go_wp2_with fail
    refine (heldFloat32S_fmarks 1 (bs.length) _ _ _ (by exact (Row.below Gg.out (by repeat (first | exact Below.refl _ _ | refine Below.drew ?_ | refine Bel_drewN ?_ _ | refine Below.alloc ?_ (by first | omega | (simp; done) | (simp; omega)) _ | refine Below.setCell ?_ (by first | omega | simp) _))).holds) (by omega)).mono ?_
    rintro e w15 ⟨rfl, hb⟩
    have hs : Below w14.heap.size w14 w15 := Bel_next (by repeat (first | exact Below.refl _ _ | refine Below.drew ?_ | refine Bel_drewN ?_ _ | refine Below.alloc ?_ (by first | omega | (simp; done) | (simp; omega)) _ | refine Below.setCell ?_ (by first | omega | simp) _)) hb
    have HB15 : Hid (Below w.heap.size w w15) := Lib.hid (Bel_next HB14.out hs)
    have z15 : w14.heap.size ≤ w15.heap.size := hs.size
    replace Gs := Lib.hid (Row.below Gs.out hs)
    replace Gg := Lib.hid (Row.below Gg.out hs)
    replace Rc_bs := Lib.hid (Row.below Rc_bs.out hs)
    replace Gh := Lib.hid (Row.below Gh.out hs)
    clear hb hs HB14
    go_wp2_with fail
    go_ret
    exact ⟨rfl, Bel_next HB15.out (by repeat (first | exact Below.refl _ _ | refine Below.drew ?_ | refine Bel_drewN ?_ _ | refine Below.alloc ?_ (by first | omega | (simp; done) | (simp; omega)) _ | refine Below.setCell ?_ (by first | omega | simp) _))⟩
  have HV := Lib.hid hv0
  clear hv0
  go_enter Try.func10, Try.ntmps10
  go_wp2_with fail
  refine (toBoolS_any bs _ _ _ (by exact Holds.below HX_bs.out (by repeat (first | exact Below.refl _ _ | refine Below.drew ?_ | refine Bel_drewN ?_ _ | refine Below.alloc ?_ (by first | omega | (simp; done) | (simp; omega)) _ | refine Below.setCell ?_ (by first | omega | simp) _))) hn0).mono ?_
  rintro e w1 ⟨_, rfl, row, hb⟩
  have hs : Below w.heap.size w w1 := Bel_next (by repeat (first | exact Below.refl _ _ | refine Below.drew ?_ | refine Bel_drewN ?_ _ | refine Below.alloc ?_ (by first | omega | (simp; done) | (simp; omega)) _ | refine Below.setCell ?_ (by first | omega | simp) _)) hb
  have HB1 : Hid (Below w.heap.size w w1) := Lib.hid hs
  have z1 : w.heap.size ≤ w1.heap.size := hs.size
  have Ra_bs := Lib.hid (Row.wide row (lo' := w.heap.size) (by first | exact Nat.le_refl _ | (simp; done) | (simp; omega)) (Nat.le_refl _))
  clear row
  clear hb hs
  go_wp2_with fail
  refine (specBet_no bs sh st _ _ _ HV.out (by exact (Row.below Ra_bs.out (by repeat (first | exact Below.refl _ _ | refine Below.drew ?_ | refine Bel_drewN ?_ _ | refine Below.alloc ?_ (by first | omega | (simp; done) | (simp; omega)) _ | refine Below.setCell ?_ (by first | omega | simp) _))).holds) hn0).mono ?_
  rintro e w2 ⟨rfl, hb⟩
  have hs : Below w1.heap.size w1 w2 := Bel_next (by repeat (first | exact Below.refl _ _ | refine Below.drew ?_ | refine Bel_drewN ?_ _ | refine Below.alloc ?_ (by first | omega | (simp; done) | (simp; omega)) _ | refine Below.setCell ?_ (by first | omega | simp) _)) hb
  have HB2 : Hid (Below w.heap.size w w2) := Lib.hid (Bel_next HB1.out hs)
  have z2 : w1.heap.size ≤ w2.heap.size := hs.size
  replace Ra_bs := Lib.hid (Row.below Ra_bs.out hs)
  clear hb hs HB1
  clear Ra_bs
  go_wp2_with fail
  refine (toBoolS_any bs _ _ _ (by exact Holds.below HX_bs.out (Bel_next HB2.out (by repeat (first | exact Below.refl _ _ | refine Below.drew ?_ | refine Bel_drewN ?_ _ | refine Below.alloc ?_ (by first | omega | (simp; done) | (simp; omega)) _ | refine Below.setCell ?_ (by first | omega | simp) _)))) hn0).mono ?_
  rintro e w3 ⟨_, rfl, row, hb⟩
  have hs : Below w2.heap.size w2 w3 := Bel_next (by repeat (first | exact Below.refl _ _ | refine Below.drew ?_ | refine Bel_drewN ?_ _ | refine Below.alloc ?_ (by first | omega | (simp; done) | (simp; omega)) _ | refine Below.setCell ?_ (by first | omega | simp) _)) hb
  have HB3 : Hid (Below w.heap.size w w3) := Lib.hid (Bel_next HB2.out hs)
  have z3 : w2.heap.size ≤ w3.heap.size := hs.size
  have X_bs := Lib.hid (Row.wide row (lo' := w2.heap.size) (by first | exact Nat.le_refl _ | (simp; done) | (simp; omega)) (Nat.le_refl _))
  clear row
  clear hb hs HB2
  go_wp2_with fail
  refine (implBet_no bs sh st _ _ _ HV.out (by exact (Row.below X_bs.out (by repeat (first | exact Below.refl _ _ | refine Below.drew ?_ | refine Bel_drewN ?_ _ | refine Below.alloc ?_ (by first | omega | (simp; done) | (simp; omega)) _ | refine Below.setCell ?_ (by first | omega | simp) _))).holds) hn0).mono ?_
  rintro e w4 ⟨rfl, hb⟩
  have hs : Below w3.heap.size w3 w4 := Bel_next (by repeat (first | exact Below.refl _ _ | refine Below.drew ?_ | refine Bel_drewN ?_ _ | refine Below.alloc ?_ (by first | omega | (simp; done) | (simp; omega)) _ | refine Below.setCell ?_ (by first | omega | simp) _)) hb
  have HB4 : Hid (Below w.heap.size w w4) := Lib.hid (Bel_next HB3.out hs)
  have z4 : w3.heap.size ≤ w4.heap.size := hs.size
  replace X_bs := Lib.hid (Row.below X_bs.out hs)
  clear hb hs HB3
  go_wp2_with fail
  refine (eqFloat32S_same [] 0 rfl _ _ _ _ _ (fun i hi => absurd hi (Nat.not_lt_zero _)) (fun i hi => absurd hi (Nat.not_lt_zero _)) (by omega)).mono ?_
  rintro e w5 ⟨rfl, hb⟩
  have hs : Below w4.heap.size w4 w5 := Bel_next (by repeat (first | exact Below.refl _ _ | refine Below.drew ?_ | refine Bel_drewN ?_ _ | refine Below.alloc ?_ (by first | omega | (simp; done) | (simp; omega)) _ | refine Below.setCell ?_ (by first | omega | simp) _)) hb
  have HB5 : Hid (Below w.heap.size w w5) := Lib.hid (Bel_next HB4.out hs)
  have z5 : w4.heap.size ≤ w5.heap.size := hs.size
  replace X_bs := Lib.hid (Row.below X_bs.out hs)
  clear hb hs HB4
  go_wp2_with fail
  refine (toBoolS_any bs _ _ _ (by exact Holds.below HX_bs.out (Bel_next HB5.out (by repeat (first | exact Below.refl _ _ | refine Below.drew ?_ | refine Bel_drewN ?_ _ | refine Below.alloc ?_ (by first | omega | (simp; done) | (simp; omega)) _ | refine Below.setCell ?_ (by first | omega | simp) _)))) hn0).mono ?_
  rintro e w6 ⟨_, rfl, row, hb⟩
  have hs : Below w5.heap.size w5 w6 := Bel_next (by repeat (first | exact Below.refl _ _ | refine Below.drew ?_ | refine Bel_drewN ?_ _ | refine Below.alloc ?_ (by first | omega | (simp; done) | (simp; omega)) _ | refine Below.setCell ?_ (by first | omega | simp) _)) hb
  have HB6 : Hid (Below w.heap.size w w6) := Lib.hid (Bel_next HB5.out hs)
  have z6 : w5.heap.size ≤ w6.heap.size := hs.size
  replace X_bs := Lib.hid (Row.below X_bs.out hs)
  have Y_bs := Lib.hid (Row.wide row (lo' := w5.heap.size) (by first | exact Nat.le_refl _ | (simp; done) | (simp; omega)) (Nat.le_refl _))
  clear row
  clear hb hs HB5
  go_wp2_with fail
  refine (eqBoolS_same bs _ rfl _ _ _ _ _ (by exact (Row.below X_bs.out (by repeat (first | exact Below.refl _ _ | refine Below.drew ?_ | refine Bel_drewN ?_ _ | refine Below.alloc ?_ (by first | omega | (simp; done) | (simp; omega)) _ | refine Below.setCell ?_ (by first | omega | simp) _))).holds) (by exact (Row.below Y_bs.out (by repeat (first | exact Below.refl _ _ | refine Below.drew ?_ | refine Bel_drewN ?_ _ | refine Below.alloc ?_ (by first | omega | (simp; done) | (simp; omega)) _ | refine Below.setCell ?_ (by first | omega | simp) _))).holds) (by omega)).mono ?_
  rintro e w7 ⟨rfl, hb⟩
  have hs : Below w6.heap.size w6 w7 := Bel_next (by repeat (first | exact Below.refl _ _ | refine Below.drew ?_ | refine Bel_drewN ?_ _ | refine Below.alloc ?_ (by first | omega | (simp; done) | (simp; omega)) _ | refine Below.setCell ?_ (by first | omega | simp) _)) hb
  have HB7 : Hid (Below w.heap.size w w7) := Lib.hid (Bel_next HB6.out hs)
  have z7 : w6.heap.size ≤ w7.heap.size := hs.size
  replace X_bs := Lib.hid (Row.below X_bs.out hs)
  replace Y_bs := Lib.hid (Row.below Y_bs.out hs)
  clear hb hs HB6
  clear Y_bs
  go_wp2_with fail
  refine (markBoolS_row (bs.length) _ 1 _ _ _ _ _ (by exact Row.below X_bs.out (by repeat (first | exact Below.refl _ _ | refine Below.drew ?_ | refine Bel_drewN ?_ _ | refine Below.alloc ?_ (by first | omega | (simp; done) | (simp; omega)) _ | refine Below.setCell ?_ (by first | omega | simp) _))) ((bl_len _).trans (rfl)) (by omega)).mono ?_
  rintro e w8 ⟨rfl, row, bt⟩
  have HB8 : Hid (Below w.heap.size w w8) := Lib.hid (bt.bel (Bel_next HB7.out (by repeat (first | exact Below.refl _ _ | refine Below.drew ?_ | refine Bel_drewN ?_ _ | refine Below.alloc ?_ (by first | omega | (simp; done) | (simp; omega)) _ | refine Below.setCell ?_ (by first | omega | simp) _))) (by omega))
  have z8 : w7.heap.size ≤ w8.heap.size := by first | exact bt.size | (have := bt.size; simp at this; omega)
  clear X_bs bt HB7
  have X_bs := Lib.hid row
  clear row
  clear X_bs
  go_wp2_with fail
  refine (eqFloat32S_same [] 0 rfl _ _ _ _ _ (fun i hi => absurd hi (Nat.not_lt_zero _)) (fun i hi => absurd hi (Nat.not_lt_zero _)) (by omega)).mono ?_
  rintro e w9 ⟨rfl, hb⟩
  have hs : Below w8.heap.size w8 w9 := Bel_next (by repeat (first | exact Below.refl _ _ | refine Below.drew ?_ | refine Bel_drewN ?_ _ | refine Below.alloc ?_ (by first | omega | (simp; done) | (simp; omega)) _ | refine Below.setCell ?_ (by first | omega | simp) _)) hb
  have HB9 : Hid (Below w.heap.size w w9) := Lib.hid (Bel_next HB8.out hs)
  have z9 : w8.heap.size ≤ w9.heap.size := hs.size
  clear hb hs HB8
  go_wp2_with fail
  refine (markFloat32S_zero 1 _ _ _).mono ?_
  rintro e w10 ⟨rfl, hb⟩
  have hs : Below w9.heap.size w9 w10 := Bel_next (by repeat (first | exact Below.refl _ _ | refine Below.drew ?_ | refine Bel_drewN ?_ _ | refine Below.alloc ?_ (by first | omega | (simp; done) | (simp; omega)) _ | refine Below.setCell ?_ (by first | omega | simp) _)) hb
  have HB10 : Hid (Below w.heap.size w w10) := Lib.hid (Bel_next HB9.out hs)
  have z10 : w9.heap.size ≤ w10.heap.size := hs.size
  clear hb hs HB9
  go_wp2_with fail
  refine (heldFloat32S_fmarks 1 0 _ _ _ (fun i hi => absurd hi (Nat.not_lt_zero _)) (by omega)).mono ?_
  rintro e w11 ⟨rfl, hb⟩
  have hs : Below w10.heap.size w10 w11 := Bel_next (by repeat (first | exact Below.refl _ _ | refine Below.drew ?_ | refine Bel_drewN ?_ _ | refine Below.alloc ?_ (by first | omega | (simp; done) | (simp; omega)) _ | refine Below.setCell ?_ (by first | omega | simp) _)) hb
  have HB11 : Hid (Below w.heap.size w w11) := Lib.hid (Bel_next HB10.out hs)
  have z11 : w10.heap.size ≤ w11.heap.size := hs.size
  clear hb hs HB10
  go_wp2_with fail
  refine (toBoolS_any bs _ _ _ (by exact Holds.below HX_bs.out (Bel_next HB11.out (by repeat (first | exact Below.refl _ _ | refine Below.drew ?_ | refine Bel_drewN ?_ _ | refine Below.alloc ?_ (by first | omega | (simp; done) | (simp; omega)) _ | refine Below.setCell ?_ (by first | omega | simp) _)))) hn0).mono ?_
  rintro e w12 ⟨_, rfl, row, hb⟩
  have hs : Below w11.heap.size w11 w12 := Bel_next (by repeat (first | exact Below.refl _ _ | refine Below.drew ?_ | refine Bel_drewN ?_ _ | refine Below.alloc ?_ (by first | omega | (simp; done) | (simp; omega)) _ | refine Below.setCell ?_ (by first | omega | simp) _)) hb
  have HB12 : Hid (Below w.heap.size w w12) := Lib.hid (Bel_next HB11.out hs)
  have z12 : w11.heap.size ≤ w12.heap.size := hs.size
  have Rc_bs := Lib.hid (Row.wide row (lo' := w11.heap.size) (by first | exact Nat.le_refl _ | (simp; done) | (simp; omega)) (Nat.le_refl _))
  clear row
  clear hb hs HB11
  go_wp2_with fail
  refine (implBet_no bs sh st _ _ _ HV.out (by exact (Row.below Rc_bs.out (by repeat (first | exact Below.refl _ _ | refine Below.drew ?_ | refine Bel_drewN ?_ _ | refine Below.alloc ?_ (by first | omega | (simp; done) | (simp; omega)) _ | refine Below.setCell ?_ (by first | omega | simp) _))).holds) hn0).mono ?_
  rintro e w13 ⟨rfl, hb⟩
  have hs : Below w12.heap.size w12 w13 := Bel_next (by repeat (first | exact Below.refl _ _ | refine Below.drew ?_ | refine Bel_drewN ?_ _ | refine Below.alloc ?_ (by first | omega | (simp; done) | (simp; omega)) _ | refine Below.setCell ?_ (by first | omega | simp) _)) hb
  have HB13 : Hid (Below w.heap.size w w13) := Lib.hid (Bel_next HB12.out hs)
  have z13 : w12.heap.size ≤ w13.heap.size := hs.size
  replace Rc_bs := Lib.hid (Row.below Rc_bs.out hs)
  clear hb hs HB12
  go_wp2_with fail
  refine (eqFloat32S_same [] 0 rfl _ _ _ _ _ (fun i hi => absurd hi (Nat.not_lt_zero _)) (fun i hi => absurd hi (Nat.not_lt_zero _)) (by omega)).mono ?_
  rintro e w14 ⟨rfl, hb⟩
  have hs : Below w13.heap.size w13 w14 := Bel_next (by repeat (first | exact Below.refl _ _ | refine Below.drew ?_ | refine Bel_drewN ?_ _ | refine Below.alloc ?_ (by first | omega | (simp; done) | (simp; omega)) _ | refine Below.setCell ?_ (by first | omega | simp) _)) hb
  have HB14 : Hid (Below w.heap.size w w14) := Lib.hid (Bel_next HB13.out hs)
  have z14 : w13.heap.size ≤ w14.heap.size := hs.size
  replace Rc_bs := Lib.hid (Row.below Rc_bs.out hs)
  clear hb hs HB13
  go_wp2_with fail
  refine (heldFloat32S_fmarks 1 0 _ _ _ (fun i hi => absurd hi (Nat.not_lt_zero _)) (by omega)).mono ?_
  rintro e w15 ⟨rfl, hb⟩
  have hs : Below w14.heap.size w14 w15 := Bel_next (by repeat (first | exact Below.refl _ _ | refine Below.drew ?_ | refine Bel_drewN ?_ _ | refine Below.alloc ?_ (by first | omega | (simp; done) | (simp; omega)) _ | refine Below.setCell ?_ (by first | omega | simp) _)) hb
  have HB15 : Hid (Below w.heap.size w w15) := Lib.hid (Bel_next HB14.out hs)
  have z15 : w14.heap.size ≤ w15.heap.size := hs.size
  replace Rc_bs := Lib.hid (Row.below Rc_bs.out hs)
  clear hb hs HB14
  go_wp2_with fail
  go_ret
  exact ⟨rfl, Bel_next HB15.out (by repeat (first | exact Below.refl _ _ | refine Below.drew ?_ | refine Bel_drewN ?_ _ | refine Below.alloc ?_ (by first | omega | (simp; done) | (simp; omega)) _ | refine Below.setCell ?_ (by first | omega | simp) _))⟩
end Go.Proofs.Ytlnhobikejbkkaa
