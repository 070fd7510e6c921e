/- The walk of the law FnExactBallPoint. -/
import Derived.Test.YticmnkgcolgpaaaBall
import Derived.Test.YticmnkgcolgpaaaFq
namespace Go.Proofs.Yticmnkgcolgpaaa
open Go Go.RowKit Fl
set_option linter.unusedVariables false

set_option maxRecDepth 100000 in
set_option maxHeartbeats 800000 in
theorem FnExactBallPoint_walk (k : Int) (a b : Nat) (h_k : (Lit.int .i64 k).wf = true) (h_a : a < 18446744073709551616) (h_b : b < 18446744073709551616) (w : World)  :
    Calls Try.prog 6 #[sd k a b] w fun e w' => e = .returned (.bool true) ∧ Below w.heap.size w w' := by
  by_cases hv0 : ∃ N, discYes k a b N
  · have HV := Lib.hid hv0
    clear hv0
    obtain ⟨N, hN⟩ := HV.out
    have HD := Lib.hid hN
    clear hN
    go_enter Try.func6, Try.ntmps6
    go_wp2_with fail
    refine (toSeed_ret k a b _).mono ?_
    rintro e w1 ⟨rfl, hb⟩
    have hs : Below w.heap.size w w1 := Bel_next (by repeat (first | exact Below.refl _ _ | refine Below.drew ?_ | refine Bel_drewN ?_ _ | refine Below.alloc ?_ (by first | omega | (simp; done) | (simp; omega)) _ | refine Below.setCell ?_ (by first | omega | simp) _)) hb
    have Q0 := Lib.hid ((Whole.made w 30 (sdC k a b)).below hb)
    have yQ0 := Q0.out.lt
    have HB1 : Hid (Below w.heap.size w w1) := Lib.hid hs
    have z1 : w.heap.size ≤ w1.heap.size := hs.size
    clear hb hs
    have hcQ0 := Q0.out.facts.1
    have hzQ0 := Q0.out.lt
    go_wp2_with fail
    clear hcQ0 hzQ0
    refine (specBall_yes h_a h_b HD.out _).mono ?_
    rintro e w2 ⟨dss, _, _, rfl, hls, row, hb⟩
    have hs : Below w1.heap.size w1 w2 := Bel_next (by repeat (first | exact Below.refl _ _ | refine Below.drew ?_ | refine Bel_drewN ?_ _ | refine Below.alloc ?_ (by first | omega | (simp; done) | (simp; omega)) _ | refine Below.setCell ?_ (by first | omega | simp) _)) hb
    replace Q0 := Lib.hid (Whole.below Q0.out hs)
    have HB2 : Hid (Below w.heap.size w w2) := Lib.hid (Bel_next HB1.out hs)
    have z2 : w1.heap.size ≤ w2.heap.size := hs.size
    have Gs := Lib.hid (Row.wide row (lo' := w1.heap.size) (by first | exact Nat.le_refl _ | (simp; done) | (simp; omega)) (Nat.le_refl _))
    clear row
    clear hb hs HB1
    have HLs := Lib.hid hls
    clear hls
    have hcQ0 := Q0.out.facts.1
    have hzQ0 := Q0.out.lt
    go_wp2_with fail
    clear hcQ0 hzQ0
    refine (toSeed_ret k a b _).mono ?_
    rintro e w3 ⟨rfl, hb⟩
    have hs : Below w2.heap.size w2 w3 := Bel_next (by repeat (first | exact Below.refl _ _ | refine Below.drew ?_ | refine Bel_drewN ?_ _ | refine Below.alloc ?_ (by first | omega | (simp; done) | (simp; omega)) _ | refine Below.setCell ?_ (by first | omega | simp) _)) hb
    replace Q0 := Lib.hid (Whole.below Q0.out hs)
    have Q1 := Lib.hid ((Whole.made w2 31 (sdC k (sN k a b N).1 (sN k a b N).2)).below hb)
    have yQ1 := Q1.out.lt
    have HB3 : Hid (Below w.heap.size w w3) := Lib.hid (Bel_next HB2.out hs)
    have z3 : w2.heap.size ≤ w3.heap.size := hs.size
    replace Gs := Lib.hid (Row.below Gs.out hs)
    clear hb hs HB2
    have hcQ0 := Q0.out.facts.1
    have hzQ0 := Q0.out.lt
    have hcQ1 := Q1.out.facts.1
    have hzQ1 := Q1.out.lt
    go_wp2_with fail
    clear hcQ0 hzQ0
    clear hcQ1 hzQ1
    refine (implBall_yes h_a h_b HD.out _).mono ?_
    rintro e w4 ⟨dsg, _, _, rfl, hlg, row, hb⟩
    have hs : Below w3.heap.size w3 w4 := Bel_next (by repeat (first | exact Below.refl _ _ | refine Below.drew ?_ | refine Bel_drewN ?_ _ | refine Below.alloc ?_ (by first | omega | (simp; done) | (simp; omega)) _ | refine Below.setCell ?_ (by first | omega | simp) _)) hb
    replace Q0 := Lib.hid (Whole.below Q0.out hs)
    replace Q1 := Lib.hid (Whole.below Q1.out hs)
    have HB4 : Hid (Below w.heap.size w w4) := Lib.hid (Bel_next HB3.out hs)
    have z4 : w3.heap.size ≤ w4.heap.size := hs.size
    replace Gs := Lib.hid (Row.below Gs.out hs)
    have Gg := Lib.hid (Row.wide row (lo' := w3.heap.size) (by first | exact Nat.le_refl _ | (simp; done) | (simp; omega)) (Nat.le_refl _))
    clear row
    clear hb hs HB3
    have HLg := Lib.hid hlg
    clear hlg
    have hcQ0 := Q0.out.facts.1
    have hzQ0 := Q0.out.lt
    have hcQ1 := Q1.out.facts.1
    have hzQ1 := Q1.out.lt
    go_wp2_with fail
    clear hcQ0 hzQ0
    clear hcQ1 hzQ1
    refine (eqSeed_same _ _ _ _).mono ?_
    rintro e w5 ⟨rfl, hb⟩
    have hs : Below w4.heap.size w4 w5 := Bel_next (by repeat (first | exact Below.refl _ _ | refine Below.drew ?_ | refine Bel_drewN ?_ _ | refine Below.alloc ?_ (by first | omega | (simp; done) | (simp; omega)) _ | refine Below.setCell ?_ (by first | omega | simp) _)) hb
    replace Q0 := Lib.hid (Whole.below Q0.out hs)
    replace Q1 := Lib.hid (Whole.below Q1.out hs)
    have Q2 := Lib.hid ((Whole.made w4 31 (sdC k (sN k a b N).1 (sN k a b N).2)).below hb)
    have yQ2 := Q2.out.lt
    have HB5 : Hid (Below w.heap.size w w5) := Lib.hid (Bel_next HB4.out hs)
    have z5 : w4.heap.size ≤ w5.heap.size := hs.size
    replace Gs := Lib.hid (Row.below Gs.out hs)
    replace Gg := Lib.hid (Row.below Gg.out hs)
    clear hb hs HB4
    have hcQ0 := Q0.out.facts.1
    have hzQ0 := Q0.out.lt
    have hcQ1 := Q1.out.facts.1
    have hzQ1 := Q1.out.lt
    have hcQ2 := Q2.out.facts.1
    have hzQ2 := Q2.out.lt
    go_wp2_with fail
    clear hcQ0 hzQ0
    clear hcQ1 hzQ1
    clear hcQ2 hzQ2
    refine (eqFloat32S_like HLg.out HLs.out _ _ _ _ _ (by exact (Row.below Gg.out (by repeat (first | exact Below.refl _ _ | refine Below.drew ?_ | refine Bel_drewN ?_ _ | refine Below.alloc ?_ (by first | omega | (simp; done) | (simp; omega)) _ | refine Below.setCell ?_ (by first | omega | simp) _))).holds) (by exact (Row.below Gs.out (by repeat (first | exact Below.refl _ _ | refine Below.drew ?_ | refine Bel_drewN ?_ _ | refine Below.alloc ?_ (by first | omega | (simp; done) | (simp; omega)) _ | refine Below.setCell ?_ (by first | omega | simp) _))).holds) (by omega)).mono ?_
    rintro e w6 ⟨rfl, hb⟩
    have hs : Below w5.heap.size w5 w6 := Bel_next (by repeat (first | exact Below.refl _ _ | refine Below.drew ?_ | refine Bel_drewN ?_ _ | refine Below.alloc ?_ (by first | omega | (simp; done) | (simp; omega)) _ | refine Below.setCell ?_ (by first | omega | simp) _)) hb
    replace Q0 := Lib.hid (Whole.below Q0.out hs)
    replace Q1 := Lib.hid (Whole.below Q1.out hs)
    replace Q2 := Lib.hid (Whole.below Q2.out hs)
    have HB6 : Hid (Below w.heap.size w w6) := Lib.hid (Bel_next HB5.out hs)
    have z6 : w5.heap.size ≤ w6.heap.size := hs.size
    replace Gs := Lib.hid (Row.below Gs.out hs)
    replace Gg := Lib.hid (Row.below Gg.out hs)
    clear hb hs HB5
    have hcQ0 := Q0.out.facts.1
    have hzQ0 := Q0.out.lt
    have hcQ1 := Q1.out.facts.1
    have hzQ1 := Q1.out.lt
    have hcQ2 := Q2.out.facts.1
    have hzQ2 := Q2.out.lt
    go_wp2_with fail
    clear hcQ0 hzQ0
    clear hcQ1 hzQ1
    clear hcQ2 hzQ2
    refine (markFloat32S_row (3) _ 1 _ _ _ _ _ (by exact Row.below Gg.out (by repeat (first | exact Below.refl _ _ | refine Below.drew ?_ | refine Bel_drewN ?_ _ | refine Below.alloc ?_ (by first | omega | (simp; done) | (simp; omega)) _ | refine Below.setCell ?_ (by first | omega | simp) _))) ((fl_len _ _).trans (HLg.out.1)) (by omega)).mono ?_
    rintro e w7 ⟨rfl, row, bt⟩
    have HB7 : Hid (Below w.heap.size w w7) := Lib.hid (bt.bel (Bel_next HB6.out (by repeat (first | exact Below.refl _ _ | refine Below.drew ?_ | refine Bel_drewN ?_ _ | refine Below.alloc ?_ (by first | omega | (simp; done) | (simp; omega)) _ | refine Below.setCell ?_ (by first | omega | simp) _))) (by omega))
    have z7 : w6.heap.size ≤ w7.heap.size := by first | exact bt.size | (have := bt.size; simp at this; omega)
    replace Q0 := Lib.hid ((Whole.below Q0.out (by repeat (first | exact Below.refl _ _ | refine Below.drew ?_ | refine Bel_drewN ?_ _ | refine Below.alloc ?_ (by first | omega | (simp; done) | (simp; omega)) _ | refine Below.setCell ?_ (by first | omega | simp) _))).buts bt (by omega))
    replace Q1 := Lib.hid ((Whole.below Q1.out (by repeat (first | exact Below.refl _ _ | refine Below.drew ?_ | refine Bel_drewN ?_ _ | refine Below.alloc ?_ (by first | omega | (simp; done) | (simp; omega)) _ | refine Below.setCell ?_ (by first | omega | simp) _))).buts bt (by omega))
    replace Q2 := Lib.hid ((Whole.below Q2.out (by repeat (first | exact Below.refl _ _ | refine Below.drew ?_ | refine Bel_drewN ?_ _ | refine Below.alloc ?_ (by first | omega | (simp; done) | (simp; omega)) _ | refine Below.setCell ?_ (by first | omega | simp) _))).buts bt (by omega))
    replace Gs := Lib.hid ((Row.below Gs.out (by repeat (first | exact Below.refl _ _ | refine Below.drew ?_ | refine Bel_drewN ?_ _ | refine Below.alloc ?_ (by first | omega | (simp; done) | (simp; omega)) _ | refine Below.setCell ?_ (by first | omega | simp) _))).but bt (by omega))
    clear Gg bt HB6
    have Gg := Lib.hid row
    clear row
    have hcQ0 := Q0.out.facts.1
    have hzQ0 := Q0.out.lt
    have hcQ1 := Q1.out.facts.1
    have hzQ1 := Q1.out.lt
    have hcQ2 := Q2.out.facts.1
    have hzQ2 := Q2.out.lt
    go_wp2_with fail
    clear hcQ0 hzQ0
    clear hcQ1 hzQ1
    clear hcQ2 hzQ2
    refine (heldFloat32S_fmarks 1 (3) _ _ _ (by exact (Row.below Gg.out (by repeat (first | exact Below.refl _ _ | refine Below.drew ?_ | refine Bel_drewN ?_ _ | refine Below.alloc ?_ (by first | omega | (simp; done) | (simp; omega)) _ | refine Below.setCell ?_ (by first | omega | simp) _))).holds) (by omega)).mono ?_
    rintro e w8 ⟨rfl, hb⟩
    have hs : Below w7.heap.size w7 w8 := Bel_next (by repeat (first | exact Below.refl _ _ | refine Below.drew ?_ | refine Bel_drewN ?_ _ | refine Below.alloc ?_ (by first | omega | (simp; done) | (simp; omega)) _ | refine Below.setCell ?_ (by first | omega | simp) _)) hb
    replace Q0 := Lib.hid (Whole.below Q0.out hs)
    replace Q1 := Lib.hid (Whole.below Q1.out hs)
    replace Q2 := Lib.hid (Whole.below Q2.out hs)
    have HB8 : Hid (Below w.heap.size w w8) := Lib.hid (Bel_next HB7.out hs)
    have z8 : w7.heap.size ≤ w8.heap.size := hs.size
    replace Gs := Lib.hid (Row.below Gs.out hs)
    replace Gg := Lib.hid (Row.below Gg.out hs)
    clear hb hs HB7
    have hcQ0 := Q0.out.facts.1
    have hzQ0 := Q0.out.lt
    have hcQ1 := Q1.out.facts.1
    have hzQ1 := Q1.out.lt
    have hcQ2 := Q2.out.facts.1
    have hzQ2 := Q2.out.lt
    go_wp2_with fail
    clear hcQ0 hzQ0
    clear hcQ1 hzQ1
    clear hcQ2 hzQ2
    refine (toSeed_ret k a b _).mono ?_
    rintro e w9 ⟨rfl, hb⟩
    have hs : Below w8.heap.size w8 w9 := Bel_next (by repeat (first | exact Below.refl _ _ | refine Below.drew ?_ | refine Bel_drewN ?_ _ | refine Below.alloc ?_ (by first | omega | (simp; done) | (simp; omega)) _ | refine Below.setCell ?_ (by first | omega | simp) _)) hb
    replace Q0 := Lib.hid (Whole.below Q0.out hs)
    replace Q1 := Lib.hid (Whole.below Q1.out hs)
    replace Q2 := Lib.hid (Whole.below Q2.out hs)
    have HB9 : Hid (Below w.heap.size w w9) := Lib.hid (Bel_next HB8.out hs)
    have z9 : w8.heap.size ≤ w9.heap.size := hs.size
    replace Gs := Lib.hid (Row.below Gs.out hs)
    replace Gg := Lib.hid (Row.below Gg.out hs)
    clear hb hs HB8
    have hcQ0 := Q0.out.facts.1
    have hzQ0 := Q0.out.lt
    have hcQ1 := Q1.out.facts.1
    have hzQ1 := Q1.out.lt
    have hcQ2 := Q2.out.facts.1
    have hzQ2 := Q2.out.lt
    go_wp2_with fail
    clear hcQ0 hzQ0
    clear hcQ1 hzQ1
    clear hcQ2 hzQ2
    refine (implBall_yes h_a h_b HD.out _).mono ?_
    rintro e w10 ⟨dsh, _, _, rfl, hlh, row, hb⟩
    have hs : Below w9.heap.size w9 w10 := Bel_next (by repeat (first | exact Below.refl _ _ | refine Below.drew ?_ | refine Bel_drewN ?_ _ | refine Below.alloc ?_ (by first | omega | (simp; done) | (simp; omega)) _ | refine Below.setCell ?_ (by first | omega | simp) _)) hb
    replace Q0 := Lib.hid (Whole.below Q0.out hs)
    replace Q1 := Lib.hid (Whole.below Q1.out hs)
    replace Q2 := Lib.hid (Whole.below Q2.out hs)
    have HB10 : Hid (Below w.heap.size w w10) := Lib.hid (Bel_next HB9.out hs)
    have z10 : w9.heap.size ≤ w10.heap.size := hs.size
    replace Gs := Lib.hid (Row.below Gs.out hs)
    replace Gg := Lib.hid (Row.below Gg.out hs)
    have Gh := Lib.hid (Row.wide row (lo' := w9.heap.size) (by first | exact Nat.le_refl _ | (simp; done) | (simp; omega)) (Nat.le_refl _))
    clear row
    clear hb hs HB9
    have HLh := Lib.hid hlh
    clear hlh
    have hcQ0 := Q0.out.facts.1
    have hzQ0 := Q0.out.lt
    have hcQ1 := Q1.out.facts.1
    have hzQ1 := Q1.out.lt
    have hcQ2 := Q2.out.facts.1
    have hzQ2 := Q2.out.lt
    go_wp2_with fail
    clear hcQ0 hzQ0
    clear hcQ1 hzQ1
    clear hcQ2 hzQ2
    refine (eqSeed_same _ _ _ _).mono ?_
    rintro e w11 ⟨rfl, hb⟩
    have hs : Below w10.heap.size w10 w11 := Bel_next (by repeat (first | exact Below.refl _ _ | refine Below.drew ?_ | refine Bel_drewN ?_ _ | refine Below.alloc ?_ (by first | omega | (simp; done) | (simp; omega)) _ | refine Below.setCell ?_ (by first | omega | simp) _)) hb
    replace Q0 := Lib.hid (Whole.below Q0.out hs)
    replace Q1 := Lib.hid (Whole.below Q1.out hs)
    replace Q2 := Lib.hid (Whole.below Q2.out hs)
    have Q3 := Lib.hid ((Whole.made w10 31 (sdC k (sN k a b N).1 (sN k a b N).2)).below hb)
    have yQ3 := Q3.out.lt
    have HB11 : Hid (Below w.heap.size w w11) := Lib.hid (Bel_next HB10.out hs)
    have z11 : w10.heap.size ≤ w11.heap.size := hs.size
    replace Gs := Lib.hid (Row.below Gs.out hs)
    replace Gg := Lib.hid (Row.below Gg.out hs)
    replace Gh := Lib.hid (Row.below Gh.out hs)
    clear hb hs HB10
    have hcQ0 := Q0.out.facts.1
    have hzQ0 := Q0.out.lt
    have hcQ1 := Q1.out.facts.1
    have hzQ1 := Q1.out.lt
    have hcQ2 := Q2.out.facts.1
    have hzQ2 := Q2.out.lt
    have hcQ3 := Q3.out.facts.1
    have hzQ3 := Q3.out.lt
    go_wp2_with fail
    clear hcQ0 hzQ0
    clear hcQ1 hzQ1
    clear hcQ2 hzQ2
    clear hcQ3 hzQ3
    refine (eqFloat32S_like HLh.out HLs.out _ _ _ _ _ (by exact (Row.below Gh.out (by repeat (first | exact Below.refl _ _ | refine Below.drew ?_ | refine Bel_drewN ?_ _ | refine Below.alloc ?_ (by first | omega | (simp; done) | (simp; omega)) _ | refine Below.setCell ?_ (by first | omega | simp) _))).holds) (by exact (Row.below Gs.out (by repeat (first | exact Below.refl _ _ | refine Below.drew ?_ | refine Bel_drewN ?_ _ | refine Below.alloc ?_ (by first | omega | (simp; done) | (simp; omega)) _ | refine Below.setCell ?_ (by first | omega | simp) _))).holds) (by omega)).mono ?_
    rintro e w12 ⟨rfl, hb⟩
    have hs : Below w11.heap.size w11 w12 := Bel_next (by repeat (first | exact Below.refl _ _ | refine Below.drew ?_ | refine Bel_drewN ?_ _ | refine Below.alloc ?_ (by first | omega | (simp; done) | (simp; omega)) _ | refine Below.setCell ?_ (by first | omega | simp) _)) hb
    replace Q0 := Lib.hid (Whole.below Q0.out hs)
    replace Q1 := Lib.hid (Whole.below Q1.out hs)
    replace Q2 := Lib.hid (Whole.below Q2.out hs)
    replace Q3 := Lib.hid (Whole.below Q3.out hs)
    have HB12 : Hid (Below w.heap.size w w12) := Lib.hid (Bel_next HB11.out hs)
    have z12 : w11.heap.size ≤ w12.heap.size := hs.size
    replace Gs := Lib.hid (Row.below Gs.out hs)
    replace Gg := Lib.hid (Row.below Gg.out hs)
    replace Gh := Lib.hid (Row.below Gh.out hs)
    clear hb hs HB11
    have hcQ0 := Q0.out.facts.1
    have hzQ0 := Q0.out.lt
    have hcQ1 := Q1.out.facts.1
    have hzQ1 := Q1.out.lt
    have hcQ2 := Q2.out.facts.1
    have hzQ2 := Q2.out.lt
    have hcQ3 := Q3.out.facts.1
    have hzQ3 := Q3.out.lt
    go_wp2_with fail
    clear hcQ0 hzQ0
    clear hcQ1 hzQ1
    clear hcQ2 hzQ2
    clear hcQ3 hzQ3
    refine (heldFloat32S_fmarks 1 (3) _ _ _ (by exact (Row.below Gg.out (by repeat (first | exact Below.refl _ _ | refine Below.drew ?_ | refine Bel_drewN ?_ _ | refine Below.alloc ?_ (by first | omega | (simp; done) | (simp; omega)) _ | refine Below.setCell ?_ (by first | omega | simp) _))).holds) (by omega)).mono ?_
    rintro e w13 ⟨rfl, hb⟩
    have hs : Below w12.heap.size w12 w13 := Bel_next (by repeat (first | exact Below.refl _ _ | refine Below.drew ?_ | refine Bel_drewN ?_ _ | refine Below.alloc ?_ (by first | omega | (simp; done) | (simp; omega)) _ | refine Below.setCell ?_ (by first | omega | simp) _)) hb
    replace Q0 := Lib.hid (Whole.below Q0.out hs)
    replace Q1 := Lib.hid (Whole.below Q1.out hs)
    replace Q2 := Lib.hid (Whole.below Q2.out hs)
    replace Q3 := Lib.hid (Whole.below Q3.out hs)
    have HB13 : Hid (Below w.heap.size w w13) := Lib.hid (Bel_next HB12.out hs)
    have z13 : w12.heap.size ≤ w13.heap.size := hs.size
    replace Gs := Lib.hid (Row.below Gs.out hs)
    replace Gg := Lib.hid (Row.below Gg.out hs)
    replace Gh := Lib.hid (Row.below Gh.out hs)
    clear hb hs HB12
    go_wp2_with fail
    go_ret
    exact ⟨rfl, Bel_next HB13.out (by repeat (first | exact Below.refl _ _ | refine Below.drew ?_ | refine Bel_drewN ?_ _ | refine Below.alloc ?_ (by first | omega | (simp; done) | (simp; omega)) _ | refine Below.setCell ?_ (by first | omega | simp) _))⟩
  have HV := Lib.hid hv0
  clear hv0
  go_enter Try.func6, Try.ntmps6
  go_wp2_with fail
  refine (toSeed_ret k a b _).mono ?_
  rintro e w1 ⟨rfl, hb⟩
  have hs : Below w.heap.size w w1 := Bel_next (by repeat (first | exact Below.refl _ _ | refine Below.drew ?_ | refine Bel_drewN ?_ _ | refine Below.alloc ?_ (by first | omega | (simp; done) | (simp; omega)) _ | refine Below.setCell ?_ (by first | omega | simp) _)) hb
  have Q0 := Lib.hid ((Whole.made w 30 (sdC k a b)).below hb)
  have yQ0 := Q0.out.lt
  have HB1 : Hid (Below w.heap.size w w1) := Lib.hid hs
  have z1 : w.heap.size ≤ w1.heap.size := hs.size
  clear hb hs
  have hcQ0 := Q0.out.facts.1
  have hzQ0 := Q0.out.lt
  go_wp2_with fail
  clear hcQ0 hzQ0
  refine (specBall_no h_a h_b HV.out _).mono ?_
  rintro e w2 ⟨rfl, hb⟩
  have hs : Below w1.heap.size w1 w2 := Bel_next (by repeat (first | exact Below.refl _ _ | refine Below.drew ?_ | refine Bel_drewN ?_ _ | refine Below.alloc ?_ (by first | omega | (simp; done) | (simp; omega)) _ | refine Below.setCell ?_ (by first | omega | simp) _)) hb
  replace Q0 := Lib.hid (Whole.below Q0.out hs)
  have HB2 : Hid (Below w.heap.size w w2) := Lib.hid (Bel_next HB1.out hs)
  have z2 : w1.heap.size ≤ w2.heap.size := hs.size
  clear hb hs HB1
  have hcQ0 := Q0.out.facts.1
  have hzQ0 := Q0.out.lt
  go_wp2_with fail
  clear hcQ0 hzQ0
  refine (toSeed_ret k a b _).mono ?_
  rintro e w3 ⟨rfl, hb⟩
  have hs : Below w2.heap.size w2 w3 := Bel_next (by repeat (first | exact Below.refl _ _ | refine Below.drew ?_ | refine Bel_drewN ?_ _ | refine Below.alloc ?_ (by first | omega | (simp; done) | (simp; omega)) _ | refine Below.setCell ?_ (by first | omega | simp) _)) hb
  replace Q0 := Lib.hid (Whole.below Q0.out hs)
  have Q1 := Lib.hid ((Whole.made w2 31 (sdC 0 0 0)).below hb)
  have yQ1 := Q1.out.lt
  have HB3 : Hid (Below w.heap.size w w3) := Lib.hid (Bel_next HB2.out hs)
  have z3 : w2.heap.size ≤ w3.heap.size := hs.size
  clear hb hs HB2
  have hcQ0 := Q0.out.facts.1
  have hzQ0 := Q0.out.lt
  have hcQ1 := Q1.out.facts.1
  have hzQ1 := Q1.out.lt
  go_wp2_with fail
  clear hcQ0 hzQ0
  clear hcQ1 hzQ1
  refine (implBall_no h_a h_b HV.out _).mono ?_
  rintro e w4 ⟨rfl, hb⟩
  have hs : Below w3.heap.size w3 w4 := Bel_next (by repeat (first | exact Below.refl _ _ | refine Below.drew ?_ | refine Bel_drewN ?_ _ | refine Below.alloc ?_ (by first | omega | (simp; done) | (simp; omega)) _ | refine Below.setCell ?_ (by first | omega | simp) _)) hb
  replace Q0 := Lib.hid (Whole.below Q0.out hs)
  replace Q1 := Lib.hid (Whole.below Q1.out hs)
  have HB4 : Hid (Below w.heap.size w w4) := Lib.hid (Bel_next HB3.out hs)
  have z4 : w3.heap.size ≤ w4.heap.size := hs.size
  clear hb hs HB3
  have hcQ0 := Q0.out.facts.1
  have hzQ0 := Q0.out.lt
  have hcQ1 := Q1.out.facts.1
  have hzQ1 := Q1.out.lt
  go_wp2_with fail
  clear hcQ0 hzQ0
  clear hcQ1 hzQ1
  refine (eqSeed_same _ _ _ _).mono ?_
  rintro e w5 ⟨rfl, hb⟩
  have hs : Below w4.heap.size w4 w5 := Bel_next (by repeat (first | exact Below.refl _ _ | refine Below.drew ?_ | refine Bel_drewN ?_ _ | refine Below.alloc ?_ (by first | omega | (simp; done) | (simp; omega)) _ | refine Below.setCell ?_ (by first | omega | simp) _)) hb
  replace Q0 := Lib.hid (Whole.below Q0.out hs)
  replace Q1 := Lib.hid (Whole.below Q1.out hs)
  have Q2 := Lib.hid ((Whole.made w4 31 (sdC 0 0 0)).below hb)
  have yQ2 := Q2.out.lt
  have HB5 : Hid (Below w.heap.size w w5) := Lib.hid (Bel_next HB4.out hs)
  have z5 : w4.heap.size ≤ w5.heap.size := hs.size
  clear hb hs HB4
  have hcQ0 := Q0.out.facts.1
  have hzQ0 := Q0.out.lt
  have hcQ1 := Q1.out.facts.1
  have hzQ1 := Q1.out.lt
  have hcQ2 := Q2.out.facts.1
  have hzQ2 := Q2.out.lt
  go_wp2_with fail
  clear hcQ0 hzQ0
  clear hcQ1 hzQ1
  clear hcQ2 hzQ2
  refine (eqFloat32S_same [] 0 rfl _ _ _ _ _ (fun i hi => absurd hi (Nat.not_lt_zero _)) (fun i hi => absurd hi (Nat.not_lt_zero _)) (by omega)).mono ?_
  rintro e w6 ⟨rfl, hb⟩
  have hs : Below w5.heap.size w5 w6 := Bel_next (by repeat (first | exact Below.refl _ _ | refine Below.drew ?_ | refine Bel_drewN ?_ _ | refine Below.alloc ?_ (by first | omega | (simp; done) | (simp; omega)) _ | refine Below.setCell ?_ (by first | omega | simp) _)) hb
  replace Q0 := Lib.hid (Whole.below Q0.out hs)
  replace Q1 := Lib.hid (Whole.below Q1.out hs)
  replace Q2 := Lib.hid (Whole.below Q2.out hs)
  have HB6 : Hid (Below w.heap.size w w6) := Lib.hid (Bel_next HB5.out hs)
  have z6 : w5.heap.size ≤ w6.heap.size := hs.size
  clear hb hs HB5
  have hcQ0 := Q0.out.facts.1
  have hzQ0 := Q0.out.lt
  have hcQ1 := Q1.out.facts.1
  have hzQ1 := Q1.out.lt
  have hcQ2 := Q2.out.facts.1
  have hzQ2 := Q2.out.lt
  go_wp2_with fail
  clear hcQ0 hzQ0
  clear hcQ1 hzQ1
  clear hcQ2 hzQ2
  refine (markFloat32S_zero 1 _ _ _).mono ?_
  rintro e w7 ⟨rfl, hb⟩
  have hs : Below w6.heap.size w6 w7 := Bel_next (by repeat (first | exact Below.refl _ _ | refine Below.drew ?_ | refine Bel_drewN ?_ _ | refine Below.alloc ?_ (by first | omega | (simp; done) | (simp; omega)) _ | refine Below.setCell ?_ (by first | omega | simp) _)) hb
  replace Q0 := Lib.hid (Whole.below Q0.out hs)
  replace Q1 := Lib.hid (Whole.below Q1.out hs)
  replace Q2 := Lib.hid (Whole.below Q2.out hs)
  have HB7 : Hid (Below w.heap.size w w7) := Lib.hid (Bel_next HB6.out hs)
  have z7 : w6.heap.size ≤ w7.heap.size := hs.size
  clear hb hs HB6
  have hcQ0 := Q0.out.facts.1
  have hzQ0 := Q0.out.lt
  have hcQ1 := Q1.out.facts.1
  have hzQ1 := Q1.out.lt
  have hcQ2 := Q2.out.facts.1
  have hzQ2 := Q2.out.lt
  go_wp2_with fail
  clear hcQ0 hzQ0
  clear hcQ1 hzQ1
  clear hcQ2 hzQ2
  refine (heldFloat32S_fmarks 1 0 _ _ _ (fun i hi => absurd hi (Nat.not_lt_zero _)) (by omega)).mono ?_
  rintro e w8 ⟨rfl, hb⟩
  have hs : Below w7.heap.size w7 w8 := Bel_next (by repeat (first | exact Below.refl _ _ | refine Below.drew ?_ | refine Bel_drewN ?_ _ | refine Below.alloc ?_ (by first | omega | (simp; done) | (simp; omega)) _ | refine Below.setCell ?_ (by first | omega | simp) _)) hb
  replace Q0 := Lib.hid (Whole.below Q0.out hs)
  replace Q1 := Lib.hid (Whole.below Q1.out hs)
  replace Q2 := Lib.hid (Whole.below Q2.out hs)
  have HB8 : Hid (Below w.heap.size w w8) := Lib.hid (Bel_next HB7.out hs)
  have z8 : w7.heap.size ≤ w8.heap.size := hs.size
  clear hb hs HB7
  have hcQ0 := Q0.out.facts.1
  have hzQ0 := Q0.out.lt
  have hcQ1 := Q1.out.facts.1
  have hzQ1 := Q1.out.lt
  have hcQ2 := Q2.out.facts.1
  have hzQ2 := Q2.out.lt
  go_wp2_with fail
  clear hcQ0 hzQ0
  clear hcQ1 hzQ1
  clear hcQ2 hzQ2
  refine (toSeed_ret k a b _).mono ?_
  rintro e w9 ⟨rfl, hb⟩
  have hs : Below w8.heap.size w8 w9 := Bel_next (by repeat (first | exact Below.refl _ _ | refine Below.drew ?_ | refine Bel_drewN ?_ _ | refine Below.alloc ?_ (by first | omega | (simp; done) | (simp; omega)) _ | refine Below.setCell ?_ (by first | omega | simp) _)) hb
  replace Q0 := Lib.hid (Whole.below Q0.out hs)
  replace Q1 := Lib.hid (Whole.below Q1.out hs)
  replace Q2 := Lib.hid (Whole.below Q2.out hs)
  have HB9 : Hid (Below w.heap.size w w9) := Lib.hid (Bel_next HB8.out hs)
  have z9 : w8.heap.size ≤ w9.heap.size := hs.size
  clear hb hs HB8
  have hcQ0 := Q0.out.facts.1
  have hzQ0 := Q0.out.lt
  have hcQ1 := Q1.out.facts.1
  have hzQ1 := Q1.out.lt
  have hcQ2 := Q2.out.facts.1
  have hzQ2 := Q2.out.lt
  go_wp2_with fail
  clear hcQ0 hzQ0
  clear hcQ1 hzQ1
  clear hcQ2 hzQ2
  refine (implBall_no h_a h_b HV.out _).mono ?_
  rintro e w10 ⟨rfl, hb⟩
  have hs : Below w9.heap.size w9 w10 := Bel_next (by repeat (first | exact Below.refl _ _ | refine Below.drew ?_ | refine Bel_drewN ?_ _ | refine Below.alloc ?_ (by first | omega | (simp; done) | (simp; omega)) _ | refine Below.setCell ?_ (by first | omega | simp) _)) hb
  replace Q0 := Lib.hid (Whole.below Q0.out hs)
  replace Q1 := Lib.hid (Whole.below Q1.out hs)
  replace Q2 := Lib.hid (Whole.below Q2.out hs)
  have HB10 : Hid (Below w.heap.size w w10) := Lib.hid (Bel_next HB9.out hs)
  have z10 : w9.heap.size ≤ w10.heap.size := hs.size
  clear hb hs HB9
  have hcQ0 := Q0.out.facts.1
  have hzQ0 := Q0.out.lt
  have hcQ1 := Q1.out.facts.1
  have hzQ1 := Q1.out.lt
  have hcQ2 := Q2.out.facts.1
  have hzQ2 := Q2.out.lt
  go_wp2_with fail
  clear hcQ0 hzQ0
  clear hcQ1 hzQ1
  clear hcQ2 hzQ2
  refine (eqSeed_same _ _ _ _).mono ?_
  rintro e w11 ⟨rfl, hb⟩
  have hs : Below w10.heap.size w10 w11 := Bel_next (by repeat (first | exact Below.refl _ _ | refine Below.drew ?_ | refine Bel_drewN ?_ _ | refine Below.alloc ?_ (by first | omega | (simp; done) | (simp; omega)) _ | refine Below.setCell ?_ (by first | omega | simp) _)) hb
  replace Q0 := Lib.hid (Whole.below Q0.out hs)
  replace Q1 := Lib.hid (Whole.below Q1.out hs)
  replace Q2 := Lib.hid (Whole.below Q2.out hs)
  have Q3 := Lib.hid ((Whole.made w10 31 (sdC 0 0 0)).below hb)
  have yQ3 := Q3.out.lt
  have HB11 : Hid (Below w.heap.size w w11) := Lib.hid (Bel_next HB10.out hs)
  have z11 : w10.heap.size ≤ w11.heap.size := hs.size
  clear hb hs HB10
  have hcQ0 := Q0.out.facts.1
  have hzQ0 := Q0.out.lt
  have hcQ1 := Q1.out.facts.1
  have hzQ1 := Q1.out.lt
  have hcQ2 := Q2.out.facts.1
  have hzQ2 := Q2.out.lt
  have hcQ3 := Q3.out.facts.1
  have hzQ3 := Q3.out.lt
  go_wp2_with fail
  clear hcQ0 hzQ0
  clear hcQ1 hzQ1
  clear hcQ2 hzQ2
  clear hcQ3 hzQ3
  refine (eqFloat32S_same [] 0 rfl _ _ _ _ _ (fun i hi => absurd hi (Nat.not_lt_zero _)) (fun i hi => absurd hi (Nat.not_lt_zero _)) (by omega)).mono ?_
  rintro e w12 ⟨rfl, hb⟩
  have hs : Below w11.heap.size w11 w12 := Bel_next (by repeat (first | exact Below.refl _ _ | refine Below.drew ?_ | refine Bel_drewN ?_ _ | refine Below.alloc ?_ (by first | omega | (simp; done) | (simp; omega)) _ | refine Below.setCell ?_ (by first | omega | simp) _)) hb
  replace Q0 := Lib.hid (Whole.below Q0.out hs)
  replace Q1 := Lib.hid (Whole.below Q1.out hs)
  replace Q2 := Lib.hid (Whole.below Q2.out hs)
  replace Q3 := Lib.hid (Whole.below Q3.out hs)
  have HB12 : Hid (Below w.heap.size w w12) := Lib.hid (Bel_next HB11.out hs)
  have z12 : w11.heap.size ≤ w12.heap.size := hs.size
  clear hb hs HB11
  have hcQ0 := Q0.out.facts.1
  have hzQ0 := Q0.out.lt
  have hcQ1 := Q1.out.facts.1
  have hzQ1 := Q1.out.lt
  have hcQ2 := Q2.out.facts.1
  have hzQ2 := Q2.out.lt
  have hcQ3 := Q3.out.facts.1
  have hzQ3 := Q3.out.lt
  go_wp2_with fail
  clear hcQ0 hzQ0
  clear hcQ1 hzQ1
  clear hcQ2 hzQ2
  clear hcQ3 hzQ3
  refine (heldFloat32S_fmarks 1 0 _ _ _ (fun i hi => absurd hi (Nat.not_lt_zero _)) (by omega)).mono ?_
  rintro e w13 ⟨rfl, hb⟩
  have hs : Below w12.heap.size w12 w13 := Bel_next (by repeat (first | exact Below.refl _ _ | refine Below.drew ?_ | refine Bel_drewN ?_ _ | refine Below.alloc ?_ (by first | omega | (simp; done) | (simp; omega)) _ | refine Below.setCell ?_ (by first | omega | simp) _)) hb
  replace Q0 := Lib.hid (Whole.below Q0.out hs)
  replace Q1 := Lib.hid (Whole.below Q1.out hs)
  replace Q2 := Lib.hid (Whole.below Q2.out hs)
  replace Q3 := Lib.hid (Whole.below Q3.out hs)
  have HB13 : Hid (Below w.heap.size w w13) := Lib.hid (Bel_next HB12.out hs)
  have z13 : w12.heap.size ≤ w13.heap.size := hs.size
  clear hb hs HB12
  go_wp2_with fail
  go_ret
  exact ⟨rfl, Bel_next HB13.out (by repeat (first | exact Below.refl _ _ | refine Below.drew ?_ | refine Bel_drewN ?_ _ | refine Below.alloc ?_ (by first | omega | (simp; done) | (simp; omega)) _ | refine Below.setCell ?_ (by first | omega | simp) _))⟩
end Go.Proofs.Yticmnkgcolgpaaa
