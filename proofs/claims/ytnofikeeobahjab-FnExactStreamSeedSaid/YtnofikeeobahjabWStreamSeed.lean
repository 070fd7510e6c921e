/- The walk of the law FnExactStreamSeed. -/
import Derived.Test.YtnofikeeobahjabSt
namespace Go.Proofs.Ytnofikeeobahjab
open Go Go.RowKit
set_option linter.unusedVariables false

set_option maxRecDepth 100000 in
set_option maxHeartbeats 800000 in
theorem FnExactStreamSeed_walk (k : Int) (a b : Nat) (h_k : (Lit.int .i64 k).wf = true) (h_a : a < 18446744073709551616) (h_b : b < 18446744073709551616) (xs : List Int) (ao_xs : Option Addr) (c_xs : Nat) (h_xs : ∀ x ∈ xs, -9223372036854775808 ≤ x ∧ x ≤ 9223372036854775807) (m : Int) (h_m : (Lit.int .i64 m).wf = true) (w : World) (hx_xs : Holds w ao_xs (il xs)) :
    Calls Try.prog 6 #[sd k a b, .slice ao_xs xs.length c_xs, .int .i64 m] w fun e w' => e = .returned (.bool true) ∧ Below w.heap.size w w' := by
  by_cases hl0 : 1048576 < xs.length
  · have hl : (1048576 : Int) < (xs.length : Int) := by omega
    clear hl0
    go_enter Try.func6, Try.ntmps6
    go_wp2
    go_ret
    exact ⟨rfl, by repeat (first | exact Below.refl _ _ | refine Below.drew ?_ | refine Bel_drewN ?_ _ | refine Below.alloc ?_ (by first | omega | (simp; done) | (simp; omega)) _ | refine Below.setCell ?_ (by first | omega | simp) _)⟩
  have hs0 : (xs.length : Int) ≤ 1048576 := by omega
  have hn0 : xs.length ≤ 1048576 := by omega
  clear hl0
  have HX_xs := Lib.hid hx_xs
  clear hx_xs
  by_cases hv0 : ∃ A B cs, streamF k a b xs m = some (A, B, cs)
  · have HV := Lib.hid hv0
    clear hv0
    obtain ⟨A, B, cs, hF⟩ := HV.out
    have HF := Lib.hid hF
    clear hF
    have hcl : cs.length ≤ 256 := streamF_len HF.out
    go_enter Try.func6, Try.ntmps6
    go_wp2_with fail
    refine (toSeed_ret k a b _).mono ?_
    rintro e w1 ⟨rfl, hb⟩
    have hs : Below w.heap.size w w1 := Bel_next (by repeat (first | exact Below.refl _ _ | refine Below.drew ?_ | refine Bel_drewN ?_ _ | refine Below.alloc ?_ (by first | omega | (simp; done) | (simp; omega)) _ | refine Below.setCell ?_ (by first | omega | simp) _)) hb
    have Q0 := Lib.hid ((Whole.made w 24 (sdC k a b)).below hb)
    have yQ0 := Q0.out.lt
    have HB1 : Hid (Below w.heap.size w w1) := Lib.hid hs
    have z1 : w.heap.size ≤ w1.heap.size := hs.size
    clear hb hs
    have hcQ0 := Q0.out.facts.1
    have hzQ0 := Q0.out.lt
    go_wp2_with fail
    clear hcQ0 hzQ0
    refine (toInt64S_any xs _ _ _ (by exact Holds.below HX_xs.out (Bel_next HB1.out (by repeat (first | exact Below.refl _ _ | refine Below.drew ?_ | refine Bel_drewN ?_ _ | refine Below.alloc ?_ (by first | omega | (simp; done) | (simp; omega)) _ | refine Below.setCell ?_ (by first | omega | simp) _)))) hn0).mono ?_
    rintro e w2 ⟨_, rfl, row, hb⟩
    have hs : Below w1.heap.size w1 w2 := Bel_next (by repeat (first | exact Below.refl _ _ | refine Below.drew ?_ | refine Bel_drewN ?_ _ | refine Below.alloc ?_ (by first | omega | (simp; done) | (simp; omega)) _ | refine Below.setCell ?_ (by first | omega | simp) _)) hb
    replace Q0 := Lib.hid (Whole.below Q0.out hs)
    have HB2 : Hid (Below w.heap.size w w2) := Lib.hid (Bel_next HB1.out hs)
    have z2 : w1.heap.size ≤ w2.heap.size := hs.size
    have Ra_xs := Lib.hid (Row.wide row (lo' := w1.heap.size) (by first | exact Nat.le_refl _ | (simp; done) | (simp; omega)) (Nat.le_refl _))
    clear row
    clear hb hs HB1
    have hcQ0 := Q0.out.facts.1
    have hzQ0 := Q0.out.lt
    go_wp2_with fail
    clear hcQ0 hzQ0
    refine (SeedL_some HF.out (specStream_any k a b xs m _ _ _ h_a h_b hn0 (by exact (Row.below Ra_xs.out (by repeat (first | exact Below.refl _ _ | refine Below.drew ?_ | refine Bel_drewN ?_ _ | refine Below.alloc ?_ (by first | omega | (simp; done) | (simp; omega)) _ | refine Below.setCell ?_ (by first | omega | simp) _))).holds))).mono ?_
    rintro e w3 ⟨_, _, rfl, row, hb⟩
    have hs : Below w2.heap.size w2 w3 := Bel_next (by repeat (first | exact Below.refl _ _ | refine Below.drew ?_ | refine Bel_drewN ?_ _ | refine Below.alloc ?_ (by first | omega | (simp; done) | (simp; omega)) _ | refine Below.setCell ?_ (by first | omega | simp) _)) hb
    replace Q0 := Lib.hid (Whole.below Q0.out hs)
    have HB3 : Hid (Below w.heap.size w w3) := Lib.hid (Bel_next HB2.out hs)
    have z3 : w2.heap.size ≤ w3.heap.size := hs.size
    replace Ra_xs := Lib.hid (Row.below Ra_xs.out hs)
    have Gs := Lib.hid (Row.wide row (lo' := w2.heap.size) (by first | exact Nat.le_refl _ | (simp; done) | (simp; omega)) (Nat.le_refl _))
    clear row
    clear hb hs HB2
    clear Ra_xs
    have hcQ0 := Q0.out.facts.1
    have hzQ0 := Q0.out.lt
    go_wp2_with fail
    clear hcQ0 hzQ0
    refine (toInt64S_any xs _ _ _ (by exact Holds.below HX_xs.out (Bel_next HB3.out (by repeat (first | exact Below.refl _ _ | refine Below.drew ?_ | refine Bel_drewN ?_ _ | refine Below.alloc ?_ (by first | omega | (simp; done) | (simp; omega)) _ | refine Below.setCell ?_ (by first | omega | simp) _)))) hn0).mono ?_
    rintro e w4 ⟨_, rfl, row, hb⟩
    have hs : Below w3.heap.size w3 w4 := Bel_next (by repeat (first | exact Below.refl _ _ | refine Below.drew ?_ | refine Bel_drewN ?_ _ | refine Below.alloc ?_ (by first | omega | (simp; done) | (simp; omega)) _ | refine Below.setCell ?_ (by first | omega | simp) _)) hb
    replace Q0 := Lib.hid (Whole.below Q0.out hs)
    have Q1 := Lib.hid ((Whole.made w3 25 (sdC k A B)).below hb)
    have yQ1 := Q1.out.lt
    have HB4 : Hid (Below w.heap.size w w4) := Lib.hid (Bel_next HB3.out hs)
    have z4 : w3.heap.size ≤ w4.heap.size := hs.size
    replace Gs := Lib.hid (Row.below Gs.out hs)
    have X_xs := Lib.hid (Row.wide row (lo' := w3.heap.size + 1) (by first | exact Nat.le_refl _ | (simp; done) | (simp; omega)) (Nat.le_refl _))
    clear row
    clear hb hs HB3
    have hcQ0 := Q0.out.facts.1
    have hzQ0 := Q0.out.lt
    have hcQ1 := Q1.out.facts.1
    have hzQ1 := Q1.out.lt
    go_wp2_with fail
    clear hcQ0 hzQ0
    clear hcQ1 hzQ1
    refine (toSeed_ret k a b _).mono ?_
    rintro e w5 ⟨rfl, hb⟩
    have hs : Below w4.heap.size w4 w5 := Bel_next (by repeat (first | exact Below.refl _ _ | refine Below.drew ?_ | refine Bel_drewN ?_ _ | refine Below.alloc ?_ (by first | omega | (simp; done) | (simp; omega)) _ | refine Below.setCell ?_ (by first | omega | simp) _)) hb
    replace Q0 := Lib.hid (Whole.below Q0.out hs)
    replace Q1 := Lib.hid (Whole.below Q1.out hs)
    have HB5 : Hid (Below w.heap.size w w5) := Lib.hid (Bel_next HB4.out hs)
    have z5 : w4.heap.size ≤ w5.heap.size := hs.size
    replace Gs := Lib.hid (Row.below Gs.out hs)
    replace X_xs := Lib.hid (Row.below X_xs.out hs)
    clear hb hs HB4
    have hcQ0 := Q0.out.facts.1
    have hzQ0 := Q0.out.lt
    have hcQ1 := Q1.out.facts.1
    have hzQ1 := Q1.out.lt
    go_wp2_with fail
    clear hcQ0 hzQ0
    clear hcQ1 hzQ1
    refine (SeedL_some HF.out (implStream_any k a b xs m _ _ _ h_a h_b hn0 (by exact (Row.below X_xs.out (by repeat (first | exact Below.refl _ _ | refine Below.drew ?_ | refine Bel_drewN ?_ _ | refine Below.alloc ?_ (by first | omega | (simp; done) | (simp; omega)) _ | refine Below.setCell ?_ (by first | omega | simp) _))).holds))).mono ?_
    rintro e w6 ⟨_, _, rfl, row, hb⟩
    have hs : Below w5.heap.size w5 w6 := Bel_next (by repeat (first | exact Below.refl _ _ | refine Below.drew ?_ | refine Bel_drewN ?_ _ | refine Below.alloc ?_ (by first | omega | (simp; done) | (simp; omega)) _ | refine Below.setCell ?_ (by first | omega | simp) _)) hb
    replace Q0 := Lib.hid (Whole.below Q0.out hs)
    replace Q1 := Lib.hid (Whole.below Q1.out hs)
    have HB6 : Hid (Below w.heap.size w w6) := Lib.hid (Bel_next HB5.out hs)
    have z6 : w5.heap.size ≤ w6.heap.size := hs.size
    replace Gs := Lib.hid (Row.below Gs.out hs)
    replace X_xs := Lib.hid (Row.below X_xs.out hs)
    have Gg := Lib.hid (Row.wide row (lo' := w5.heap.size) (by first | exact Nat.le_refl _ | (simp; done) | (simp; omega)) (Nat.le_refl _))
    clear row
    clear hb hs HB5
    have hcQ0 := Q0.out.facts.1
    have hzQ0 := Q0.out.lt
    have hcQ1 := Q1.out.facts.1
    have hzQ1 := Q1.out.lt
    go_wp2_with fail
    clear hcQ0 hzQ0
    clear hcQ1 hzQ1
    refine (eqSeed_same _ _ _ _).mono ?_
    rintro e w7 ⟨rfl, hb⟩
    have hs : Below w6.heap.size w6 w7 := Bel_next (by repeat (first | exact Below.refl _ _ | refine Below.drew ?_ | refine Bel_drewN ?_ _ | refine Below.alloc ?_ (by first | omega | (simp; done) | (simp; omega)) _ | refine Below.setCell ?_ (by first | omega | simp) _)) hb
    replace Q0 := Lib.hid (Whole.below Q0.out hs)
    replace Q1 := Lib.hid (Whole.below Q1.out hs)
    have Q2 := Lib.hid ((Whole.made w6 25 (sdC k A B)).below hb)
    have yQ2 := Q2.out.lt
    have HB7 : Hid (Below w.heap.size w w7) := Lib.hid (Bel_next HB6.out hs)
    have z7 : w6.heap.size ≤ w7.heap.size := hs.size
    replace Gs := Lib.hid (Row.below Gs.out hs)
    replace X_xs := Lib.hid (Row.below X_xs.out hs)
    replace Gg := Lib.hid (Row.below Gg.out hs)
    clear hb hs HB6
    have hcQ0 := Q0.out.facts.1
    have hzQ0 := Q0.out.lt
    have hcQ1 := Q1.out.facts.1
    have hzQ1 := Q1.out.lt
    have hcQ2 := Q2.out.facts.1
    have hzQ2 := Q2.out.lt
    go_wp2_with fail
    clear hcQ0 hzQ0
    clear hcQ1 hzQ1
    clear hcQ2 hzQ2
    refine (eqInt64S_same cs (cs.length) (rfl) _ _ _ _ _ (by exact (Row.below Gg.out (by repeat (first | exact Below.refl _ _ | refine Below.drew ?_ | refine Bel_drewN ?_ _ | refine Below.alloc ?_ (by first | omega | (simp; done) | (simp; omega)) _ | refine Below.setCell ?_ (by first | omega | simp) _))).holds) (by exact (Row.below Gs.out (by repeat (first | exact Below.refl _ _ | refine Below.drew ?_ | refine Bel_drewN ?_ _ | refine Below.alloc ?_ (by first | omega | (simp; done) | (simp; omega)) _ | refine Below.setCell ?_ (by first | omega | simp) _))).holds) (by omega)).mono ?_
    rintro e w8 ⟨rfl, hb⟩
    have hs : Below w7.heap.size w7 w8 := Bel_next (by repeat (first | exact Below.refl _ _ | refine Below.drew ?_ | refine Bel_drewN ?_ _ | refine Below.alloc ?_ (by first | omega | (simp; done) | (simp; omega)) _ | refine Below.setCell ?_ (by first | omega | simp) _)) hb
    replace Q0 := Lib.hid (Whole.below Q0.out hs)
    replace Q1 := Lib.hid (Whole.below Q1.out hs)
    replace Q2 := Lib.hid (Whole.below Q2.out hs)
    have HB8 : Hid (Below w.heap.size w w8) := Lib.hid (Bel_next HB7.out hs)
    have z8 : w7.heap.size ≤ w8.heap.size := hs.size
    replace Gs := Lib.hid (Row.below Gs.out hs)
    replace X_xs := Lib.hid (Row.below X_xs.out hs)
    replace Gg := Lib.hid (Row.below Gg.out hs)
    clear hb hs HB7
    have hcQ0 := Q0.out.facts.1
    have hzQ0 := Q0.out.lt
    have hcQ1 := Q1.out.facts.1
    have hzQ1 := Q1.out.lt
    have hcQ2 := Q2.out.facts.1
    have hzQ2 := Q2.out.lt
    go_wp2_with fail
    clear hcQ0 hzQ0
    clear hcQ1 hzQ1
    clear hcQ2 hzQ2
    refine (toInt64S_any xs _ _ _ (by exact Holds.below HX_xs.out (Bel_next HB8.out (by repeat (first | exact Below.refl _ _ | refine Below.drew ?_ | refine Bel_drewN ?_ _ | refine Below.alloc ?_ (by first | omega | (simp; done) | (simp; omega)) _ | refine Below.setCell ?_ (by first | omega | simp) _)))) hn0).mono ?_
    rintro e w9 ⟨_, rfl, row, hb⟩
    have hs : Below w8.heap.size w8 w9 := Bel_next (by repeat (first | exact Below.refl _ _ | refine Below.drew ?_ | refine Bel_drewN ?_ _ | refine Below.alloc ?_ (by first | omega | (simp; done) | (simp; omega)) _ | refine Below.setCell ?_ (by first | omega | simp) _)) hb
    replace Q0 := Lib.hid (Whole.below Q0.out hs)
    replace Q1 := Lib.hid (Whole.below Q1.out hs)
    replace Q2 := Lib.hid (Whole.below Q2.out hs)
    have HB9 : Hid (Below w.heap.size w w9) := Lib.hid (Bel_next HB8.out hs)
    have z9 : w8.heap.size ≤ w9.heap.size := hs.size
    replace Gs := Lib.hid (Row.below Gs.out hs)
    replace X_xs := Lib.hid (Row.below X_xs.out hs)
    replace Gg := Lib.hid (Row.below Gg.out hs)
    have Y_xs := Lib.hid (Row.wide row (lo' := w8.heap.size) (by first | exact Nat.le_refl _ | (simp; done) | (simp; omega)) (Nat.le_refl _))
    clear row
    clear hb hs HB8
    have hcQ0 := Q0.out.facts.1
    have hzQ0 := Q0.out.lt
    have hcQ1 := Q1.out.facts.1
    have hzQ1 := Q1.out.lt
    have hcQ2 := Q2.out.facts.1
    have hzQ2 := Q2.out.lt
    go_wp2_with fail
    clear hcQ0 hzQ0
    clear hcQ1 hzQ1
    clear hcQ2 hzQ2
    refine (eqInt64S_same xs _ rfl _ _ _ _ _ (by exact (Row.below X_xs.out (by repeat (first | exact Below.refl _ _ | refine Below.drew ?_ | refine Bel_drewN ?_ _ | refine Below.alloc ?_ (by first | omega | (simp; done) | (simp; omega)) _ | refine Below.setCell ?_ (by first | omega | simp) _))).holds) (by exact (Row.below Y_xs.out (by repeat (first | exact Below.refl _ _ | refine Below.drew ?_ | refine Bel_drewN ?_ _ | refine Below.alloc ?_ (by first | omega | (simp; done) | (simp; omega)) _ | refine Below.setCell ?_ (by first | omega | simp) _))).holds) (by omega)).mono ?_
    rintro e w10 ⟨rfl, hb⟩
    have hs : Below w9.heap.size w9 w10 := Bel_next (by repeat (first | exact Below.refl _ _ | refine Below.drew ?_ | refine Bel_drewN ?_ _ | refine Below.alloc ?_ (by first | omega | (simp; done) | (simp; omega)) _ | refine Below.setCell ?_ (by first | omega | simp) _)) hb
    replace Q0 := Lib.hid (Whole.below Q0.out hs)
    replace Q1 := Lib.hid (Whole.below Q1.out hs)
    replace Q2 := Lib.hid (Whole.below Q2.out hs)
    have HB10 : Hid (Below w.heap.size w w10) := Lib.hid (Bel_next HB9.out hs)
    have z10 : w9.heap.size ≤ w10.heap.size := hs.size
    replace Gs := Lib.hid (Row.below Gs.out hs)
    replace X_xs := Lib.hid (Row.below X_xs.out hs)
    replace Gg := Lib.hid (Row.below Gg.out hs)
    replace Y_xs := Lib.hid (Row.below Y_xs.out hs)
    clear hb hs HB9
    clear Y_xs
    have hcQ0 := Q0.out.facts.1
    have hzQ0 := Q0.out.lt
    have hcQ1 := Q1.out.facts.1
    have hzQ1 := Q1.out.lt
    have hcQ2 := Q2.out.facts.1
    have hzQ2 := Q2.out.lt
    go_wp2_with fail
    clear hcQ0 hzQ0
    clear hcQ1 hzQ1
    clear hcQ2 hzQ2
    refine (markInt64S_row (xs.length) _ 1 _ _ _ _ _ (by exact Row.below X_xs.out (by repeat (first | exact Below.refl _ _ | refine Below.drew ?_ | refine Bel_drewN ?_ _ | refine Below.alloc ?_ (by first | omega | (simp; done) | (simp; omega)) _ | refine Below.setCell ?_ (by first | omega | simp) _))) ((il_len _).trans (rfl)) (by omega)).mono ?_
    rintro e w11 ⟨rfl, row, bt⟩
    have HB11 : Hid (Below w.heap.size w w11) := Lib.hid (bt.bel (Bel_next HB10.out (by repeat (first | exact Below.refl _ _ | refine Below.drew ?_ | refine Bel_drewN ?_ _ | refine Below.alloc ?_ (by first | omega | (simp; done) | (simp; omega)) _ | refine Below.setCell ?_ (by first | omega | simp) _))) (by omega))
    have z11 : w10.heap.size ≤ w11.heap.size := by first | exact bt.size | (have := bt.size; simp at this; omega)
    replace Q0 := Lib.hid ((Whole.below Q0.out (by repeat (first | exact Below.refl _ _ | refine Below.drew ?_ | refine Bel_drewN ?_ _ | refine Below.alloc ?_ (by first | omega | (simp; done) | (simp; omega)) _ | refine Below.setCell ?_ (by first | omega | simp) _))).buts bt (by omega))
    replace Q1 := Lib.hid ((Whole.below Q1.out (by repeat (first | exact Below.refl _ _ | refine Below.drew ?_ | refine Bel_drewN ?_ _ | refine Below.alloc ?_ (by first | omega | (simp; done) | (simp; omega)) _ | refine Below.setCell ?_ (by first | omega | simp) _))).buts bt (by omega))
    replace Q2 := Lib.hid ((Whole.below Q2.out (by repeat (first | exact Below.refl _ _ | refine Below.drew ?_ | refine Bel_drewN ?_ _ | refine Below.alloc ?_ (by first | omega | (simp; done) | (simp; omega)) _ | refine Below.setCell ?_ (by first | omega | simp) _))).buts bt (by omega))
    replace Gs := Lib.hid ((Row.below Gs.out (by repeat (first | exact Below.refl _ _ | refine Below.drew ?_ | refine Bel_drewN ?_ _ | refine Below.alloc ?_ (by first | omega | (simp; done) | (simp; omega)) _ | refine Below.setCell ?_ (by first | omega | simp) _))).but bt (by omega))
    replace Gg := Lib.hid ((Row.below Gg.out (by repeat (first | exact Below.refl _ _ | refine Below.drew ?_ | refine Bel_drewN ?_ _ | refine Below.alloc ?_ (by first | omega | (simp; done) | (simp; omega)) _ | refine Below.setCell ?_ (by first | omega | simp) _))).but bt (by omega))
    clear X_xs bt HB10
    have X_xs := Lib.hid row
    clear row
    clear X_xs
    have hcQ0 := Q0.out.facts.1
    have hzQ0 := Q0.out.lt
    have hcQ1 := Q1.out.facts.1
    have hzQ1 := Q1.out.lt
    have hcQ2 := Q2.out.facts.1
    have hzQ2 := Q2.out.lt
    go_wp2_with fail
    clear hcQ0 hzQ0
    clear hcQ1 hzQ1
    clear hcQ2 hzQ2
    refine (eqSeed_same _ _ _ _).mono ?_
    rintro e w12 ⟨rfl, hb⟩
    have hs : Below w11.heap.size w11 w12 := Bel_next (by repeat (first | exact Below.refl _ _ | refine Below.drew ?_ | refine Bel_drewN ?_ _ | refine Below.alloc ?_ (by first | omega | (simp; done) | (simp; omega)) _ | refine Below.setCell ?_ (by first | omega | simp) _)) hb
    replace Q0 := Lib.hid (Whole.below Q0.out hs)
    replace Q1 := Lib.hid (Whole.below Q1.out hs)
    replace Q2 := Lib.hid (Whole.below Q2.out hs)
    have HB12 : Hid (Below w.heap.size w w12) := Lib.hid (Bel_next HB11.out hs)
    have z12 : w11.heap.size ≤ w12.heap.size := hs.size
    replace Gs := Lib.hid (Row.below Gs.out hs)
    replace Gg := Lib.hid (Row.below Gg.out hs)
    clear hb hs HB11
    have hcQ0 := Q0.out.facts.1
    have hzQ0 := Q0.out.lt
    have hcQ1 := Q1.out.facts.1
    have hzQ1 := Q1.out.lt
    have hcQ2 := Q2.out.facts.1
    have hzQ2 := Q2.out.lt
    go_wp2_with fail
    clear hcQ0 hzQ0
    clear hcQ1 hzQ1
    clear hcQ2 hzQ2
    refine (eqInt64S_same cs (cs.length) (rfl) _ _ _ _ _ (by exact (Row.below Gg.out (by repeat (first | exact Below.refl _ _ | refine Below.drew ?_ | refine Bel_drewN ?_ _ | refine Below.alloc ?_ (by first | omega | (simp; done) | (simp; omega)) _ | refine Below.setCell ?_ (by first | omega | simp) _))).holds) (by exact (Row.below Gs.out (by repeat (first | exact Below.refl _ _ | refine Below.drew ?_ | refine Bel_drewN ?_ _ | refine Below.alloc ?_ (by first | omega | (simp; done) | (simp; omega)) _ | refine Below.setCell ?_ (by first | omega | simp) _))).holds) (by omega)).mono ?_
    rintro e w13 ⟨rfl, hb⟩
    have hs : Below w12.heap.size w12 w13 := Bel_next (by repeat (first | exact Below.refl _ _ | refine Below.drew ?_ | refine Bel_drewN ?_ _ | refine Below.alloc ?_ (by first | omega | (simp; done) | (simp; omega)) _ | refine Below.setCell ?_ (by first | omega | simp) _)) hb
    replace Q0 := Lib.hid (Whole.below Q0.out hs)
    replace Q1 := Lib.hid (Whole.below Q1.out hs)
    replace Q2 := Lib.hid (Whole.below Q2.out hs)
    have HB13 : Hid (Below w.heap.size w w13) := Lib.hid (Bel_next HB12.out hs)
    have z13 : w12.heap.size ≤ w13.heap.size := hs.size
    replace Gs := Lib.hid (Row.below Gs.out hs)
    replace Gg := Lib.hid (Row.below Gg.out hs)
    clear hb hs HB12
    have hcQ0 := Q0.out.facts.1
    have hzQ0 := Q0.out.lt
    have hcQ1 := Q1.out.facts.1
    have hzQ1 := Q1.out.lt
    have hcQ2 := Q2.out.facts.1
    have hzQ2 := Q2.out.lt
    go_wp2_with fail
    clear hcQ0 hzQ0
    clear hcQ1 hzQ1
    clear hcQ2 hzQ2
    refine (markInt64S_row (cs.length) _ 1 _ _ _ _ _ (by exact Row.below Gg.out (by repeat (first | exact Below.refl _ _ | refine Below.drew ?_ | refine Bel_drewN ?_ _ | refine Below.alloc ?_ (by first | omega | (simp; done) | (simp; omega)) _ | refine Below.setCell ?_ (by first | omega | simp) _))) ((il_len _).trans (rfl)) (by omega)).mono ?_
    rintro e w14 ⟨rfl, row, bt⟩
    have HB14 : Hid (Below w.heap.size w w14) := Lib.hid (bt.bel (Bel_next HB13.out (by repeat (first | exact Below.refl _ _ | refine Below.drew ?_ | refine Bel_drewN ?_ _ | refine Below.alloc ?_ (by first | omega | (simp; done) | (simp; omega)) _ | refine Below.setCell ?_ (by first | omega | simp) _))) (by omega))
    have z14 : w13.heap.size ≤ w14.heap.size := by first | exact bt.size | (have := bt.size; simp at this; omega)
    replace Q0 := Lib.hid ((Whole.below Q0.out (by repeat (first | exact Below.refl _ _ | refine Below.drew ?_ | refine Bel_drewN ?_ _ | refine Below.alloc ?_ (by first | omega | (simp; done) | (simp; omega)) _ | refine Below.setCell ?_ (by first | omega | simp) _))).buts bt (by omega))
    replace Q1 := Lib.hid ((Whole.below Q1.out (by repeat (first | exact Below.refl _ _ | refine Below.drew ?_ | refine Bel_drewN ?_ _ | refine Below.alloc ?_ (by first | omega | (simp; done) | (simp; omega)) _ | refine Below.setCell ?_ (by first | omega | simp) _))).buts bt (by omega))
    replace Q2 := Lib.hid ((Whole.below Q2.out (by repeat (first | exact Below.refl _ _ | refine Below.drew ?_ | refine Bel_drewN ?_ _ | refine Below.alloc ?_ (by first | omega | (simp; done) | (simp; omega)) _ | refine Below.setCell ?_ (by first | omega | simp) _))).buts bt (by omega))
    replace Gs := Lib.hid ((Row.below Gs.out (by repeat (first | exact Below.refl _ _ | refine Below.drew ?_ | refine Bel_drewN ?_ _ | refine Below.alloc ?_ (by first | omega | (simp; done) | (simp; omega)) _ | refine Below.setCell ?_ (by first | omega | simp) _))).but bt (by omega))
    clear Gg bt HB13
    have Gg := Lib.hid row
    clear row
    have hcQ0 := Q0.out.facts.1
    have hzQ0 := Q0.out.lt
    have hcQ1 := Q1.out.facts.1
    have hzQ1 := Q1.out.lt
    have hcQ2 := Q2.out.facts.1
    have hzQ2 := Q2.out.lt
    go_wp2_with fail
    clear hcQ0 hzQ0
    clear hcQ1 hzQ1
    clear hcQ2 hzQ2
    refine (heldInt64S_marks 1 (cs.length) _ _ _ (by exact (Row.below Gg.out (by repeat (first | exact Below.refl _ _ | refine Below.drew ?_ | refine Bel_drewN ?_ _ | refine Below.alloc ?_ (by first | omega | (simp; done) | (simp; omega)) _ | refine Below.setCell ?_ (by first | omega | simp) _))).holds) (by omega)).mono ?_
    rintro e w15 ⟨rfl, hb⟩
    have hs : Below w14.heap.size w14 w15 := Bel_next (by repeat (first | exact Below.refl _ _ | refine Below.drew ?_ | refine Bel_drewN ?_ _ | refine Below.alloc ?_ (by first | omega | (simp; done) | (simp; omega)) _ | refine Below.setCell ?_ (by first | omega | simp) _)) hb
    replace Q0 := Lib.hid (Whole.below Q0.out hs)
    replace Q1 := Lib.hid (Whole.below Q1.out hs)
    replace Q2 := Lib.hid (Whole.below Q2.out hs)
    have HB15 : Hid (Below w.heap.size w w15) := Lib.hid (Bel_next HB14.out hs)
    have z15 : w14.heap.size ≤ w15.heap.size := hs.size
    replace Gs := Lib.hid (Row.below Gs.out hs)
    replace Gg := Lib.hid (Row.below Gg.out hs)
    clear hb hs HB14
    have hcQ0 := Q0.out.facts.1
    have hzQ0 := Q0.out.lt
    have hcQ1 := Q1.out.facts.1
    have hzQ1 := Q1.out.lt
    have hcQ2 := Q2.out.facts.1
    have hzQ2 := Q2.out.lt
    go_wp2_with fail
    clear hcQ0 hzQ0
    clear hcQ1 hzQ1
    clear hcQ2 hzQ2
    refine (toSeed_ret k a b _).mono ?_
    rintro e w16 ⟨rfl, hb⟩
    have hs : Below w15.heap.size w15 w16 := Bel_next (by repeat (first | exact Below.refl _ _ | refine Below.drew ?_ | refine Bel_drewN ?_ _ | refine Below.alloc ?_ (by first | omega | (simp; done) | (simp; omega)) _ | refine Below.setCell ?_ (by first | omega | simp) _)) hb
    replace Q0 := Lib.hid (Whole.below Q0.out hs)
    replace Q1 := Lib.hid (Whole.below Q1.out hs)
    replace Q2 := Lib.hid (Whole.below Q2.out hs)
    have HB16 : Hid (Below w.heap.size w w16) := Lib.hid (Bel_next HB15.out hs)
    have z16 : w15.heap.size ≤ w16.heap.size := hs.size
    replace Gs := Lib.hid (Row.below Gs.out hs)
    replace Gg := Lib.hid (Row.below Gg.out hs)
    clear hb hs HB15
    have hcQ0 := Q0.out.facts.1
    have hzQ0 := Q0.out.lt
    have hcQ1 := Q1.out.facts.1
    have hzQ1 := Q1.out.lt
    have hcQ2 := Q2.out.facts.1
    have hzQ2 := Q2.out.lt
    go_wp2_with fail
    clear hcQ0 hzQ0
    clear hcQ1 hzQ1
    clear hcQ2 hzQ2
    refine (toInt64S_any xs _ _ _ (by exact Holds.below HX_xs.out (Bel_next HB16.out (by repeat (first | exact Below.refl _ _ | refine Below.drew ?_ | refine Bel_drewN ?_ _ | refine Below.alloc ?_ (by first | omega | (simp; done) | (simp; omega)) _ | refine Below.setCell ?_ (by first | omega | simp) _)))) hn0).mono ?_
    rintro e w17 ⟨_, rfl, row, hb⟩
    have hs : Below w16.heap.size w16 w17 := Bel_next (by repeat (first | exact Below.refl _ _ | refine Below.drew ?_ | refine Bel_drewN ?_ _ | refine Below.alloc ?_ (by first | omega | (simp; done) | (simp; omega)) _ | refine Below.setCell ?_ (by first | omega | simp) _)) hb
    replace Q0 := Lib.hid (Whole.below Q0.out hs)
    replace Q1 := Lib.hid (Whole.below Q1.out hs)
    replace Q2 := Lib.hid (Whole.below Q2.out hs)
    have HB17 : Hid (Below w.heap.size w w17) := Lib.hid (Bel_next HB16.out hs)
    have z17 : w16.heap.size ≤ w17.heap.size := hs.size
    replace Gs := Lib.hid (Row.below Gs.out hs)
    replace Gg := Lib.hid (Row.below Gg.out hs)
    have Rc_xs := Lib.hid (Row.wide row (lo' := w16.heap.size) (by first | exact Nat.le_refl _ | (simp; done) | (simp; omega)) (Nat.le_refl _))
    clear row
    clear hb hs HB16
    have hcQ0 := Q0.out.facts.1
    have hzQ0 := Q0.out.lt
    have hcQ1 := Q1.out.facts.1
    have hzQ1 := Q1.out.lt
    have hcQ2 := Q2.out.facts.1
    have hzQ2 := Q2.out.lt
    go_wp2_with fail
    clear hcQ0 hzQ0
    clear hcQ1 hzQ1
    clear hcQ2 hzQ2
    refine (SeedL_some HF.out (implStream_any k a b xs m _ _ _ h_a h_b hn0 (by exact (Row.below Rc_xs.out (by repeat (first | exact Below.refl _ _ | refine Below.drew ?_ | refine Bel_drewN ?_ _ | refine Below.alloc ?_ (by first | omega | (simp; done) | (simp; omega)) _ | refine Below.setCell ?_ (by first | omega | simp) _))).holds))).mono ?_
    rintro e w18 ⟨_, _, rfl, row, hb⟩
    have hs : Below w17.heap.size w17 w18 := Bel_next (by repeat (first | exact Below.refl _ _ | refine Below.drew ?_ | refine Bel_drewN ?_ _ | refine Below.alloc ?_ (by first | omega | (simp; done) | (simp; omega)) _ | refine Below.setCell ?_ (by first | omega | simp) _)) hb
    replace Q0 := Lib.hid (Whole.below Q0.out hs)
    replace Q1 := Lib.hid (Whole.below Q1.out hs)
    replace Q2 := Lib.hid (Whole.below Q2.out hs)
    have HB18 : Hid (Below w.heap.size w w18) := Lib.hid (Bel_next HB17.out hs)
    have z18 : w17.heap.size ≤ w18.heap.size := hs.size
    replace Gs := Lib.hid (Row.below Gs.out hs)
    replace Gg := Lib.hid (Row.below Gg.out hs)
    replace Rc_xs := Lib.hid (Row.below Rc_xs.out hs)
    have Gh := Lib.hid (Row.wide row (lo' := w17.heap.size) (by first | exact Nat.le_refl _ | (simp; done) | (simp; omega)) (Nat.le_refl _))
    clear row
    clear hb hs HB17
    have hcQ0 := Q0.out.facts.1
    have hzQ0 := Q0.out.lt
    have hcQ1 := Q1.out.facts.1
    have hzQ1 := Q1.out.lt
    have hcQ2 := Q2.out.facts.1
    have hzQ2 := Q2.out.lt
    go_wp2_with fail
    clear hcQ0 hzQ0
    clear hcQ1 hzQ1
    clear hcQ2 hzQ2
    refine (eqSeed_same _ _ _ _).mono ?_
    rintro e w19 ⟨rfl, hb⟩
    have hs : Below w18.heap.size w18 w19 := Bel_next (by repeat (first | exact Below.refl _ _ | refine Below.drew ?_ | refine Bel_drewN ?_ _ | refine Below.alloc ?_ (by first | omega | (simp; done) | (simp; omega)) _ | refine Below.setCell ?_ (by first | omega | simp) _)) hb
    replace Q0 := Lib.hid (Whole.below Q0.out hs)
    replace Q1 := Lib.hid (Whole.below Q1.out hs)
    replace Q2 := Lib.hid (Whole.below Q2.out hs)
    have Q3 := Lib.hid ((Whole.made w18 25 (sdC k A B)).below hb)
    have yQ3 := Q3.out.lt
    have HB19 : Hid (Below w.heap.size w w19) := Lib.hid (Bel_next HB18.out hs)
    have z19 : w18.heap.size ≤ w19.heap.size := hs.size
    replace Gs := Lib.hid (Row.below Gs.out hs)
    replace Gg := Lib.hid (Row.below Gg.out hs)
    replace Rc_xs := Lib.hid (Row.below Rc_xs.out hs)
    replace Gh := Lib.hid (Row.below Gh.out hs)
    clear hb hs HB18
    have hcQ0 := Q0.out.facts.1
    have hzQ0 := Q0.out.lt
    have hcQ1 := Q1.out.facts.1
    have hzQ1 := Q1.out.lt
    have hcQ2 := Q2.out.facts.1
    have hzQ2 := Q2.out.lt
    have hcQ3 := Q3.out.facts.1
    have hzQ3 := Q3.out.lt
    go_wp2_with fail
    clear hcQ0 hzQ0
    clear hcQ1 hzQ1
    clear hcQ2 hzQ2
    clear hcQ3 hzQ3
    refine (eqInt64S_same cs (cs.length) (rfl) _ _ _ _ _ (by exact (Row.below Gh.out (by repeat (first | exact Below.refl _ _ | refine Below.drew ?_ | refine Bel_drewN ?_ _ | refine Below.alloc ?_ (by first | omega | (simp; done) | (simp; omega)) _ | refine Below.setCell ?_ (by first | omega | simp) _))).holds) (by exact (Row.below Gs.out (by repeat (first | exact Below.refl _ _ | refine Below.drew ?_ | refine Bel_drewN ?_ _ | refine Below.alloc ?_ (by first | omega | (simp; done) | (simp; omega)) _ | refine Below.setCell ?_ (by first | omega | simp) _))).holds) (by omega)).mono ?_
    rintro e w20 ⟨rfl, hb⟩
    have hs : Below w19.heap.size w19 w20 := Bel_next (by repeat (first | exact Below.refl _ _ | refine Below.drew ?_ | refine Bel_drewN ?_ _ | refine Below.alloc ?_ (by first | omega | (simp; done) | (simp; omega)) _ | refine Below.setCell ?_ (by first | omega | simp) _)) hb
    replace Q0 := Lib.hid (Whole.below Q0.out hs)
    replace Q1 := Lib.hid (Whole.below Q1.out hs)
    replace Q2 := Lib.hid (Whole.below Q2.out hs)
    replace Q3 := Lib.hid (Whole.below Q3.out hs)
    have HB20 : Hid (Below w.heap.size w w20) := Lib.hid (Bel_next HB19.out hs)
    have z20 : w19.heap.size ≤ w20.heap.size := hs.size
    replace Gs := Lib.hid (Row.below Gs.out hs)
    replace Gg := Lib.hid (Row.below Gg.out hs)
    replace Rc_xs := Lib.hid (Row.below Rc_xs.out hs)
    replace Gh := Lib.hid (Row.below Gh.out hs)
    clear hb hs HB19
    have hcQ0 := Q0.out.facts.1
    have hzQ0 := Q0.out.lt
    have hcQ1 := Q1.out.facts.1
    have hzQ1 := Q1.out.lt
    have hcQ2 := Q2.out.facts.1
    have hzQ2 := Q2.out.lt
    have hcQ3 := Q3.out.facts.1
    have hzQ3 := Q3.out.lt
    go_wp2_with fail
    clear hcQ0 hzQ0
    clear hcQ1 hzQ1
    clear hcQ2 hzQ2
    clear hcQ3 hzQ3
    refine (heldInt64S_marks 1 (cs.length) _ _ _ (by exact (Row.below Gg.out (by repeat (first | exact Below.refl _ _ | refine Below.drew ?_ | refine Bel_drewN ?_ _ | refine Below.alloc ?_ (by first | omega | (simp; done) | (simp; omega)) _ | refine Below.setCell ?_ (by first | omega | simp) _))).holds) (by omega)).mono ?_
    rintro e w21 ⟨rfl, hb⟩
    have hs : Below w20.heap.size w20 w21 := Bel_next (by repeat (first | exact Below.refl _ _ | refine Below.drew ?_ | refine Bel_drewN ?_ _ | refine Below.alloc ?_ (by first | omega | (simp; done) | (simp; omega)) _ | refine Below.setCell ?_ (by first | omega | simp) _)) hb
    replace Q0 := Lib.hid (Whole.below Q0.out hs)
    replace Q1 := Lib.hid (Whole.below Q1.out hs)
    replace Q2 := Lib.hid (Whole.below Q2.out hs)
    replace Q3 := Lib.hid (Whole.below Q3.out hs)
    have HB21 : Hid (Below w.heap.size w w21) := Lib.hid (Bel_next HB20.out hs)
    have z21 : w20.heap.size ≤ w21.heap.size := hs.size
    replace Gs := Lib.hid (Row.below Gs.out hs)
    replace Gg := Lib.hid (Row.below Gg.out hs)
    replace Rc_xs := Lib.hid (Row.below Rc_xs.out hs)
    replace Gh := Lib.hid (Row.below Gh.out hs)
    clear hb hs HB20
    go_wp2_with fail
    go_ret
    exact ⟨rfl, Bel_next HB21.out (by repeat (first | exact Below.refl _ _ | refine Below.drew ?_ | refine Bel_drewN ?_ _ | refine Below.alloc ?_ (by first | omega | (simp; done) | (simp; omega)) _ | refine Below.setCell ?_ (by first | omega | simp) _))⟩
  have HV := Lib.hid hv0
  clear hv0
  have HF : Hid (streamF k a b xs m = none) := Lib.hid (by cases h : streamF k a b xs m with | none => rfl | some x => exact absurd ⟨x.1, x.2.1, x.2.2, h⟩ HV.out)
  go_enter Try.func6, Try.ntmps6
  go_wp2_with fail
  refine (toSeed_ret k a b _).mono ?_
  rintro e w1 ⟨rfl, hb⟩
  have hs : Below w.heap.size w w1 := Bel_next (by repeat (first | exact Below.refl _ _ | refine Below.drew ?_ | refine Bel_drewN ?_ _ | refine Below.alloc ?_ (by first | omega | (simp; done) | (simp; omega)) _ | refine Below.setCell ?_ (by first | omega | simp) _)) hb
  have Q0 := Lib.hid ((Whole.made w 24 (sdC k a b)).below hb)
  have yQ0 := Q0.out.lt
  have HB1 : Hid (Below w.heap.size w w1) := Lib.hid hs
  have z1 : w.heap.size ≤ w1.heap.size := hs.size
  clear hb hs
  have hcQ0 := Q0.out.facts.1
  have hzQ0 := Q0.out.lt
  go_wp2_with fail
  clear hcQ0 hzQ0
  refine (toInt64S_any xs _ _ _ (by exact Holds.below HX_xs.out (Bel_next HB1.out (by repeat (first | exact Below.refl _ _ | refine Below.drew ?_ | refine Bel_drewN ?_ _ | refine Below.alloc ?_ (by first | omega | (simp; done) | (simp; omega)) _ | refine Below.setCell ?_ (by first | omega | simp) _)))) hn0).mono ?_
  rintro e w2 ⟨_, rfl, row, hb⟩
  have hs : Below w1.heap.size w1 w2 := Bel_next (by repeat (first | exact Below.refl _ _ | refine Below.drew ?_ | refine Bel_drewN ?_ _ | refine Below.alloc ?_ (by first | omega | (simp; done) | (simp; omega)) _ | refine Below.setCell ?_ (by first | omega | simp) _)) hb
  replace Q0 := Lib.hid (Whole.below Q0.out hs)
  have HB2 : Hid (Below w.heap.size w w2) := Lib.hid (Bel_next HB1.out hs)
  have z2 : w1.heap.size ≤ w2.heap.size := hs.size
  have Ra_xs := Lib.hid (Row.wide row (lo' := w1.heap.size) (by first | exact Nat.le_refl _ | (simp; done) | (simp; omega)) (Nat.le_refl _))
  clear row
  clear hb hs HB1
  have hcQ0 := Q0.out.facts.1
  have hzQ0 := Q0.out.lt
  go_wp2_with fail
  clear hcQ0 hzQ0
  refine (SeedL_none HF.out (specStream_any k a b xs m _ _ _ h_a h_b hn0 (by exact (Row.below Ra_xs.out (by repeat (first | exact Below.refl _ _ | refine Below.drew ?_ | refine Bel_drewN ?_ _ | refine Below.alloc ?_ (by first | omega | (simp; done) | (simp; omega)) _ | refine Below.setCell ?_ (by first | omega | simp) _))).holds))).mono ?_
  rintro e w3 ⟨rfl, hb⟩
  have hs : Below w2.heap.size w2 w3 := Bel_next (by repeat (first | exact Below.refl _ _ | refine Below.drew ?_ | refine Bel_drewN ?_ _ | refine Below.alloc ?_ (by first | omega | (simp; done) | (simp; omega)) _ | refine Below.setCell ?_ (by first | omega | simp) _)) hb
  replace Q0 := Lib.hid (Whole.below Q0.out hs)
  have HB3 : Hid (Below w.heap.size w w3) := Lib.hid (Bel_next HB2.out hs)
  have z3 : w2.heap.size ≤ w3.heap.size := hs.size
  replace Ra_xs := Lib.hid (Row.below Ra_xs.out hs)
  clear hb hs HB2
  clear Ra_xs
  have hcQ0 := Q0.out.facts.1
  have hzQ0 := Q0.out.lt
  go_wp2_with fail
  clear hcQ0 hzQ0
  refine (toInt64S_any xs _ _ _ (by exact Holds.below HX_xs.out (Bel_next HB3.out (by repeat (first | exact Below.refl _ _ | refine Below.drew ?_ | refine Bel_drewN ?_ _ | refine Below.alloc ?_ (by first | omega | (simp; done) | (simp; omega)) _ | refine Below.setCell ?_ (by first | omega | simp) _)))) hn0).mono ?_
  rintro e w4 ⟨_, rfl, row, hb⟩
  have hs : Below w3.heap.size w3 w4 := Bel_next (by repeat (first | exact Below.refl _ _ | refine Below.drew ?_ | refine Bel_drewN ?_ _ | refine Below.alloc ?_ (by first | omega | (simp; done) | (simp; omega)) _ | refine Below.setCell ?_ (by first | omega | simp) _)) hb
  replace Q0 := Lib.hid (Whole.below Q0.out hs)
  have Q1 := Lib.hid ((Whole.made w3 25 (sdC 0 0 0)).below hb)
  have yQ1 := Q1.out.lt
  have HB4 : Hid (Below w.heap.size w w4) := Lib.hid (Bel_next HB3.out hs)
  have z4 : w3.heap.size ≤ w4.heap.size := hs.size
  have X_xs := Lib.hid (Row.wide row (lo' := w3.heap.size + 1) (by first | exact Nat.le_refl _ | (simp; done) | (simp; omega)) (Nat.le_refl _))
  clear row
  clear hb hs HB3
  have hcQ0 := Q0.out.facts.1
  have hzQ0 := Q0.out.lt
  have hcQ1 := Q1.out.facts.1
  have hzQ1 := Q1.out.lt
  go_wp2_with fail
  clear hcQ0 hzQ0
  clear hcQ1 hzQ1
  refine (toSeed_ret k a b _).mono ?_
  rintro e w5 ⟨rfl, hb⟩
  have hs : Below w4.heap.size w4 w5 := Bel_next (by repeat (first | exact Below.refl _ _ | refine Below.drew ?_ | refine Bel_drewN ?_ _ | refine Below.alloc ?_ (by first | omega | (simp; done) | (simp; omega)) _ | refine Below.setCell ?_ (by first | omega | simp) _)) hb
  replace Q0 := Lib.hid (Whole.below Q0.out hs)
  replace Q1 := Lib.hid (Whole.below Q1.out hs)
  have HB5 : Hid (Below w.heap.size w w5) := Lib.hid (Bel_next HB4.out hs)
  have z5 : w4.heap.size ≤ w5.heap.size := hs.size
  replace X_xs := Lib.hid (Row.below X_xs.out hs)
  clear hb hs HB4
  have hcQ0 := Q0.out.facts.1
  have hzQ0 := Q0.out.lt
  have hcQ1 := Q1.out.facts.1
  have hzQ1 := Q1.out.lt
  go_wp2_with fail
  clear hcQ0 hzQ0
  clear hcQ1 hzQ1
  refine (SeedL_none HF.out (implStream_any k a b xs m _ _ _ h_a h_b hn0 (by exact (Row.below X_xs.out (by repeat (first | exact Below.refl _ _ | refine Below.drew ?_ | refine Bel_drewN ?_ _ | refine Below.alloc ?_ (by first | omega | (simp; done) | (simp; omega)) _ | refine Below.setCell ?_ (by first | omega | simp) _))).holds))).mono ?_
  rintro e w6 ⟨rfl, hb⟩
  have hs : Below w5.heap.size w5 w6 := Bel_next (by repeat (first | exact Below.refl _ _ | refine Below.drew ?_ | refine Bel_drewN ?_ _ | refine Below.alloc ?_ (by first | omega | (simp; done) | (simp; omega)) _ | refine Below.setCell ?_ (by first | omega | simp) _)) hb
  replace Q0 := Lib.hid (Whole.below Q0.out hs)
  replace Q1 := Lib.hid (Whole.below Q1.out hs)
  have HB6 : Hid (Below w.heap.size w w6) := Lib.hid (Bel_next HB5.out hs)
  have z6 : w5.heap.size ≤ w6.heap.size := hs.size
  replace X_xs := Lib.hid (Row.below X_xs.out hs)
  clear hb hs HB5
  have hcQ0 := Q0.out.facts.1
  have hzQ0 := Q0.out.lt
  have hcQ1 := Q1.out.facts.1
  have hzQ1 := Q1.out.lt
  go_wp2_with fail
  clear hcQ0 hzQ0
  clear hcQ1 hzQ1
  refine (eqSeed_same _ _ _ _).mono ?_
  rintro e w7 ⟨rfl, hb⟩
  have hs : Below w6.heap.size w6 w7 := Bel_next (by repeat (first | exact Below.refl _ _ | refine Below.drew ?_ | refine Bel_drewN ?_ _ | refine Below.alloc ?_ (by first | omega | (simp; done) | (simp; omega)) _ | refine Below.setCell ?_ (by first | omega | simp) _)) hb
  replace Q0 := Lib.hid (Whole.below Q0.out hs)
  replace Q1 := Lib.hid (Whole.below Q1.out hs)
  have Q2 := Lib.hid ((Whole.made w6 25 (sdC 0 0 0)).below hb)
  have yQ2 := Q2.out.lt
  have HB7 : Hid (Below w.heap.size w w7) := Lib.hid (Bel_next HB6.out hs)
  have z7 : w6.heap.size ≤ w7.heap.size := hs.size
  replace X_xs := Lib.hid (Row.below X_xs.out hs)
  clear hb hs HB6
  have hcQ0 := Q0.out.facts.1
  have hzQ0 := Q0.out.lt
  have hcQ1 := Q1.out.facts.1
  have hzQ1 := Q1.out.lt
  have hcQ2 := Q2.out.facts.1
  have hzQ2 := Q2.out.lt
  go_wp2_with fail
  clear hcQ0 hzQ0
  clear hcQ1 hzQ1
  clear hcQ2 hzQ2
  refine (eqInt64S_same [] 0 rfl _ _ _ _ _ (fun i hi => absurd hi (Nat.not_lt_zero _)) (fun i hi => absurd hi (Nat.not_lt_zero _)) (by omega)).mono ?_
  rintro e w8 ⟨rfl, hb⟩
  have hs : Below w7.heap.size w7 w8 := Bel_next (by repeat (first | exact Below.refl _ _ | refine Below.drew ?_ | refine Bel_drewN ?_ _ | refine Below.alloc ?_ (by first | omega | (simp; done) | (simp; omega)) _ | refine Below.setCell ?_ (by first | omega | simp) _)) hb
  replace Q0 := Lib.hid (Whole.below Q0.out hs)
  replace Q1 := Lib.hid (Whole.below Q1.out hs)
  replace Q2 := Lib.hid (Whole.below Q2.out hs)
  have HB8 : Hid (Below w.heap.size w w8) := Lib.hid (Bel_next HB7.out hs)
  have z8 : w7.heap.size ≤ w8.heap.size := hs.size
  replace X_xs := Lib.hid (Row.below X_xs.out hs)
  clear hb hs HB7
  have hcQ0 := Q0.out.facts.1
  have hzQ0 := Q0.out.lt
  have hcQ1 := Q1.out.facts.1
  have hzQ1 := Q1.out.lt
  have hcQ2 := Q2.out.facts.1
  have hzQ2 := Q2.out.lt
  go_wp2_with fail
  clear hcQ0 hzQ0
  clear hcQ1 hzQ1
  clear hcQ2 hzQ2
  refine (toInt64S_any xs _ _ _ (by exact Holds.below HX_xs.out (Bel_next HB8.out (by repeat (first | exact Below.refl _ _ | refine Below.drew ?_ | refine Bel_drewN ?_ _ | refine Below.alloc ?_ (by first | omega | (simp; done) | (simp; omega)) _ | refine Below.setCell ?_ (by first | omega | simp) _)))) hn0).mono ?_
  rintro e w9 ⟨_, rfl, row, hb⟩
  have hs : Below w8.heap.size w8 w9 := Bel_next (by repeat (first | exact Below.refl _ _ | refine Below.drew ?_ | refine Bel_drewN ?_ _ | refine Below.alloc ?_ (by first | omega | (simp; done) | (simp; omega)) _ | refine Below.setCell ?_ (by first | omega | simp) _)) hb
  replace Q0 := Lib.hid (Whole.below Q0.out hs)
  replace Q1 := Lib.hid (Whole.below Q1.out hs)
  replace Q2 := Lib.hid (Whole.below Q2.out hs)
  have HB9 : Hid (Below w.heap.size w w9) := Lib.hid (Bel_next HB8.out hs)
  have z9 : w8.heap.size ≤ w9.heap.size := hs.size
  replace X_xs := Lib.hid (Row.below X_xs.out hs)
  have Y_xs := Lib.hid (Row.wide row (lo' := w8.heap.size) (by first | exact Nat.le_refl _ | (simp; done) | (simp; omega)) (Nat.le_refl _))
  clear row
  clear hb hs HB8
  have hcQ0 := Q0.out.facts.1
  have hzQ0 := Q0.out.lt
  have hcQ1 := Q1.out.facts.1
  have hzQ1 := Q1.out.lt
  have hcQ2 := Q2.out.facts.1
  have hzQ2 := Q2.out.lt
  go_wp2_with fail
  clear hcQ0 hzQ0
  clear hcQ1 hzQ1
  clear hcQ2 hzQ2
  refine (eqInt64S_same xs _ rfl _ _ _ _ _ (by exact (Row.below X_xs.out (by repeat (first | exact Below.refl _ _ | refine Below.drew ?_ | refine Bel_drewN ?_ _ | refine Below.alloc ?_ (by first | omega | (simp; done) | (simp; omega)) _ | refine Below.setCell ?_ (by first | omega | simp) _))).holds) (by exact (Row.below Y_xs.out (by repeat (first | exact Below.refl _ _ | refine Below.drew ?_ | refine Bel_drewN ?_ _ | refine Below.alloc ?_ (by first | omega | (simp; done) | (simp; omega)) _ | refine Below.setCell ?_ (by first | omega | simp) _))).holds) (by omega)).mono ?_
  rintro e w10 ⟨rfl, hb⟩
  have hs : Below w9.heap.size w9 w10 := Bel_next (by repeat (first | exact Below.refl _ _ | refine Below.drew ?_ | refine Bel_drewN ?_ _ | refine Below.alloc ?_ (by first | omega | (simp; done) | (simp; omega)) _ | refine Below.setCell ?_ (by first | omega | simp) _)) hb
  replace Q0 := Lib.hid (Whole.below Q0.out hs)
  replace Q1 := Lib.hid (Whole.below Q1.out hs)
  replace Q2 := Lib.hid (Whole.below Q2.out hs)
  have HB10 : Hid (Below w.heap.size w w10) := Lib.hid (Bel_next HB9.out hs)
  have z10 : w9.heap.size ≤ w10.heap.size := hs.size
  replace X_xs := Lib.hid (Row.below X_xs.out hs)
  replace Y_xs := Lib.hid (Row.below Y_xs.out hs)
  clear hb hs HB9
  clear Y_xs
  have hcQ0 := Q0.out.facts.1
  have hzQ0 := Q0.out.lt
  have hcQ1 := Q1.out.facts.1
  have hzQ1 := Q1.out.lt
  have hcQ2 := Q2.out.facts.1
  have hzQ2 := Q2.out.lt
  go_wp2_with fail
  clear hcQ0 hzQ0
  clear hcQ1 hzQ1
  clear hcQ2 hzQ2
  refine (markInt64S_row (xs.length) _ 1 _ _ _ _ _ (by exact Row.below X_xs.out (by repeat (first | exact Below.refl _ _ | refine Below.drew ?_ | refine Bel_drewN ?_ _ | refine Below.alloc ?_ (by first | omega | (simp; done) | (simp; omega)) _ | refine Below.setCell ?_ (by first | omega | simp) _))) ((il_len _).trans (rfl)) (by omega)).mono ?_
  rintro e w11 ⟨rfl, row, bt⟩
  have HB11 : Hid (Below w.heap.size w w11) := Lib.hid (bt.bel (Bel_next HB10.out (by repeat (first | exact Below.refl _ _ | refine Below.drew ?_ | refine Bel_drewN ?_ _ | refine Below.alloc ?_ (by first | omega | (simp; done) | (simp; omega)) _ | refine Below.setCell ?_ (by first | omega | simp) _))) (by omega))
  have z11 : w10.heap.size ≤ w11.heap.size := by first | exact bt.size | (have := bt.size; simp at this; omega)
  replace Q0 := Lib.hid ((Whole.below Q0.out (by repeat (first | exact Below.refl _ _ | refine Below.drew ?_ | refine Bel_drewN ?_ _ | refine Below.alloc ?_ (by first | omega | (simp; done) | (simp; omega)) _ | refine Below.setCell ?_ (by first | omega | simp) _))).buts bt (by omega))
  replace Q1 := Lib.hid ((Whole.below Q1.out (by repeat (first | exact Below.refl _ _ | refine Below.drew ?_ | refine Bel_drewN ?_ _ | refine Below.alloc ?_ (by first | omega | (simp; done) | (simp; omega)) _ | refine Below.setCell ?_ (by first | omega | simp) _))).buts bt (by omega))
  replace Q2 := Lib.hid ((Whole.below Q2.out (by repeat (first | exact Below.refl _ _ | refine Below.drew ?_ | refine Bel_drewN ?_ _ | refine Below.alloc ?_ (by first | omega | (simp; done) | (simp; omega)) _ | refine Below.setCell ?_ (by first | omega | simp) _))).buts bt (by omega))
  clear X_xs bt HB10
  have X_xs := Lib.hid row
  clear row
  clear X_xs
  have hcQ0 := Q0.out.facts.1
  have hzQ0 := Q0.out.lt
  have hcQ1 := Q1.out.facts.1
  have hzQ1 := Q1.out.lt
  have hcQ2 := Q2.out.facts.1
  have hzQ2 := Q2.out.lt
  go_wp2_with fail
  clear hcQ0 hzQ0
  clear hcQ1 hzQ1
  clear hcQ2 hzQ2
  refine (eqSeed_same _ _ _ _).mono ?_
  rintro e w12 ⟨rfl, hb⟩
  have hs : Below w11.heap.size w11 w12 := Bel_next (by repeat (first | exact Below.refl _ _ | refine Below.drew ?_ | refine Bel_drewN ?_ _ | refine Below.alloc ?_ (by first | omega | (simp; done) | (simp; omega)) _ | refine Below.setCell ?_ (by first | omega | simp) _)) hb
  replace Q0 := Lib.hid (Whole.below Q0.out hs)
  replace Q1 := Lib.hid (Whole.below Q1.out hs)
  replace Q2 := Lib.hid (Whole.below Q2.out hs)
  have HB12 : Hid (Below w.heap.size w w12) := Lib.hid (Bel_next HB11.out hs)
  have z12 : w11.heap.size ≤ w12.heap.size := hs.size
  clear hb hs HB11
  have hcQ0 := Q0.out.facts.1
  have hzQ0 := Q0.out.lt
  have hcQ1 := Q1.out.facts.1
  have hzQ1 := Q1.out.lt
  have hcQ2 := Q2.out.facts.1
  have hzQ2 := Q2.out.lt
  go_wp2_with fail
  clear hcQ0 hzQ0
  clear hcQ1 hzQ1
  clear hcQ2 hzQ2
  refine (eqInt64S_same [] 0 rfl _ _ _ _ _ (fun i hi => absurd hi (Nat.not_lt_zero _)) (fun i hi => absurd hi (Nat.not_lt_zero _)) (by omega)).mono ?_
  rintro e w13 ⟨rfl, hb⟩
  have hs : Below w12.heap.size w12 w13 := Bel_next (by repeat (first | exact Below.refl _ _ | refine Below.drew ?_ | refine Bel_drewN ?_ _ | refine Below.alloc ?_ (by first | omega | (simp; done) | (simp; omega)) _ | refine Below.setCell ?_ (by first | omega | simp) _)) hb
  replace Q0 := Lib.hid (Whole.below Q0.out hs)
  replace Q1 := Lib.hid (Whole.below Q1.out hs)
  replace Q2 := Lib.hid (Whole.below Q2.out hs)
  have HB13 : Hid (Below w.heap.size w w13) := Lib.hid (Bel_next HB12.out hs)
  have z13 : w12.heap.size ≤ w13.heap.size := hs.size
  clear hb hs HB12
  have hcQ0 := Q0.out.facts.1
  have hzQ0 := Q0.out.lt
  have hcQ1 := Q1.out.facts.1
  have hzQ1 := Q1.out.lt
  have hcQ2 := Q2.out.facts.1
  have hzQ2 := Q2.out.lt
  go_wp2_with fail
  clear hcQ0 hzQ0
  clear hcQ1 hzQ1
  clear hcQ2 hzQ2
  refine (markInt64S_zero 1 _ _ _).mono ?_
  rintro e w14 ⟨rfl, hb⟩
  have hs : Below w13.heap.size w13 w14 := Bel_next (by repeat (first | exact Below.refl _ _ | refine Below.drew ?_ | refine Bel_drewN ?_ _ | refine Below.alloc ?_ (by first | omega | (simp; done) | (simp; omega)) _ | refine Below.setCell ?_ (by first | omega | simp) _)) hb
  replace Q0 := Lib.hid (Whole.below Q0.out hs)
  replace Q1 := Lib.hid (Whole.below Q1.out hs)
  replace Q2 := Lib.hid (Whole.below Q2.out hs)
  have HB14 : Hid (Below w.heap.size w w14) := Lib.hid (Bel_next HB13.out hs)
  have z14 : w13.heap.size ≤ w14.heap.size := hs.size
  clear hb hs HB13
  have hcQ0 := Q0.out.facts.1
  have hzQ0 := Q0.out.lt
  have hcQ1 := Q1.out.facts.1
  have hzQ1 := Q1.out.lt
  have hcQ2 := Q2.out.facts.1
  have hzQ2 := Q2.out.lt
  go_wp2_with fail
  clear hcQ0 hzQ0
  clear hcQ1 hzQ1
  clear hcQ2 hzQ2
  refine (heldInt64S_marks 1 0 _ _ _ (fun i hi => absurd hi (Nat.not_lt_zero _)) (by omega)).mono ?_
  rintro e w15 ⟨rfl, hb⟩
  have hs : Below w14.heap.size w14 w15 := Bel_next (by repeat (first | exact Below.refl _ _ | refine Below.drew ?_ | refine Bel_drewN ?_ _ | refine Below.alloc ?_ (by first | omega | (simp; done) | (simp; omega)) _ | refine Below.setCell ?_ (by first | omega | simp) _)) hb
  replace Q0 := Lib.hid (Whole.below Q0.out hs)
  replace Q1 := Lib.hid (Whole.below Q1.out hs)
  replace Q2 := Lib.hid (Whole.below Q2.out hs)
  have HB15 : Hid (Below w.heap.size w w15) := Lib.hid (Bel_next HB14.out hs)
  have z15 : w14.heap.size ≤ w15.heap.size := hs.size
  clear hb hs HB14
  have hcQ0 := Q0.out.facts.1
  have hzQ0 := Q0.out.lt
  have hcQ1 := Q1.out.facts.1
  have hzQ1 := Q1.out.lt
  have hcQ2 := Q2.out.facts.1
  have hzQ2 := Q2.out.lt
  go_wp2_with fail
  clear hcQ0 hzQ0
  clear hcQ1 hzQ1
  clear hcQ2 hzQ2
  refine (toSeed_ret k a b _).mono ?_
  rintro e w16 ⟨rfl, hb⟩
  have hs : Below w15.heap.size w15 w16 := Bel_next (by repeat (first | exact Below.refl _ _ | refine Below.drew ?_ | refine Bel_drewN ?_ _ | refine Below.alloc ?_ (by first | omega | (simp; done) | (simp; omega)) _ | refine Below.setCell ?_ (by first | omega | simp) _)) hb
  replace Q0 := Lib.hid (Whole.below Q0.out hs)
  replace Q1 := Lib.hid (Whole.below Q1.out hs)
  replace Q2 := Lib.hid (Whole.below Q2.out hs)
  have HB16 : Hid (Below w.heap.size w w16) := Lib.hid (Bel_next HB15.out hs)
  have z16 : w15.heap.size ≤ w16.heap.size := hs.size
  clear hb hs HB15
  have hcQ0 := Q0.out.facts.1
  have hzQ0 := Q0.out.lt
  have hcQ1 := Q1.out.facts.1
  have hzQ1 := Q1.out.lt
  have hcQ2 := Q2.out.facts.1
  have hzQ2 := Q2.out.lt
  go_wp2_with fail
  clear hcQ0 hzQ0
  clear hcQ1 hzQ1
  clear hcQ2 hzQ2
  refine (toInt64S_any xs _ _ _ (by exact Holds.below HX_xs.out (Bel_next HB16.out (by repeat (first | exact Below.refl _ _ | refine Below.drew ?_ | refine Bel_drewN ?_ _ | refine Below.alloc ?_ (by first | omega | (simp; done) | (simp; omega)) _ | refine Below.setCell ?_ (by first | omega | simp) _)))) hn0).mono ?_
  rintro e w17 ⟨_, rfl, row, hb⟩
  have hs : Below w16.heap.size w16 w17 := Bel_next (by repeat (first | exact Below.refl _ _ | refine Below.drew ?_ | refine Bel_drewN ?_ _ | refine Below.alloc ?_ (by first | omega | (simp; done) | (simp; omega)) _ | refine Below.setCell ?_ (by first | omega | simp) _)) hb
  replace Q0 := Lib.hid (Whole.below Q0.out hs)
  replace Q1 := Lib.hid (Whole.below Q1.out hs)
  replace Q2 := Lib.hid (Whole.below Q2.out hs)
  have HB17 : Hid (Below w.heap.size w w17) := Lib.hid (Bel_next HB16.out hs)
  have z17 : w16.heap.size ≤ w17.heap.size := hs.size
  have Rc_xs := Lib.hid (Row.wide row (lo' := w16.heap.size) (by first | exact Nat.le_refl _ | (simp; done) | (simp; omega)) (Nat.le_refl _))
  clear row
  clear hb hs HB16
  have hcQ0 := Q0.out.facts.1
  have hzQ0 := Q0.out.lt
  have hcQ1 := Q1.out.facts.1
  have hzQ1 := Q1.out.lt
  have hcQ2 := Q2.out.facts.1
  have hzQ2 := Q2.out.lt
  go_wp2_with fail
  clear hcQ0 hzQ0
  clear hcQ1 hzQ1
  clear hcQ2 hzQ2
  refine (SeedL_none HF.out (implStream_any k a b xs m _ _ _ h_a h_b hn0 (by exact (Row.below Rc_xs.out (by repeat (first | exact Below.refl _ _ | refine Below.drew ?_ | refine Bel_drewN ?_ _ | refine Below.alloc ?_ (by first | omega | (simp; done) | (simp; omega)) _ | refine Below.setCell ?_ (by first | omega | simp) _))).holds))).mono ?_
  rintro e w18 ⟨rfl, hb⟩
  have hs : Below w17.heap.size w17 w18 := Bel_next (by repeat (first | exact Below.refl _ _ | refine Below.drew ?_ | refine Bel_drewN ?_ _ | refine Below.alloc ?_ (by first | omega | (simp; done) | (simp; omega)) _ | refine Below.setCell ?_ (by first | omega | simp) _)) hb
  replace Q0 := Lib.hid (Whole.below Q0.out hs)
  replace Q1 := Lib.hid (Whole.below Q1.out hs)
  replace Q2 := Lib.hid (Whole.below Q2.out hs)
  have HB18 : Hid (Below w.heap.size w w18) := Lib.hid (Bel_next HB17.out hs)
  have z18 : w17.heap.size ≤ w18.heap.size := hs.size
  replace Rc_xs := Lib.hid (Row.below Rc_xs.out hs)
  clear hb hs HB17
  have hcQ0 := Q0.out.facts.1
  have hzQ0 := Q0.out.lt
  have hcQ1 := Q1.out.facts.1
  have hzQ1 := Q1.out.lt
  have hcQ2 := Q2.out.facts.1
  have hzQ2 := Q2.out.lt
  go_wp2_with fail
  clear hcQ0 hzQ0
  clear hcQ1 hzQ1
  clear hcQ2 hzQ2
  refine (eqSeed_same _ _ _ _).mono ?_
  rintro e w19 ⟨rfl, hb⟩
  have hs : Below w18.heap.size w18 w19 := Bel_next (by repeat (first | exact Below.refl _ _ | refine Below.drew ?_ | refine Bel_drewN ?_ _ | refine Below.alloc ?_ (by first | omega | (simp; done) | (simp; omega)) _ | refine Below.setCell ?_ (by first | omega | simp) _)) hb
  replace Q0 := Lib.hid (Whole.below Q0.out hs)
  replace Q1 := Lib.hid (Whole.below Q1.out hs)
  replace Q2 := Lib.hid (Whole.below Q2.out hs)
  have Q3 := Lib.hid ((Whole.made w18 25 (sdC 0 0 0)).below hb)
  have yQ3 := Q3.out.lt
  have HB19 : Hid (Below w.heap.size w w19) := Lib.hid (Bel_next HB18.out hs)
  have z19 : w18.heap.size ≤ w19.heap.size := hs.size
  replace Rc_xs := Lib.hid (Row.below Rc_xs.out hs)
  clear hb hs HB18
  have hcQ0 := Q0.out.facts.1
  have hzQ0 := Q0.out.lt
  have hcQ1 := Q1.out.facts.1
  have hzQ1 := Q1.out.lt
  have hcQ2 := Q2.out.facts.1
  have hzQ2 := Q2.out.lt
  have hcQ3 := Q3.out.facts.1
  have hzQ3 := Q3.out.lt
  go_wp2_with fail
  clear hcQ0 hzQ0
  clear hcQ1 hzQ1
  clear hcQ2 hzQ2
  clear hcQ3 hzQ3
  refine (eqInt64S_same [] 0 rfl _ _ _ _ _ (fun i hi => absurd hi (Nat.not_lt_zero _)) (fun i hi => absurd hi (Nat.not_lt_zero _)) (by omega)).mono ?_
  rintro e w20 ⟨rfl, hb⟩
  have hs : Below w19.heap.size w19 w20 := Bel_next (by repeat (first | exact Below.refl _ _ | refine Below.drew ?_ | refine Bel_drewN ?_ _ | refine Below.alloc ?_ (by first | omega | (simp; done) | (simp; omega)) _ | refine Below.setCell ?_ (by first | omega | simp) _)) hb
  replace Q0 := Lib.hid (Whole.below Q0.out hs)
  replace Q1 := Lib.hid (Whole.below Q1.out hs)
  replace Q2 := Lib.hid (Whole.below Q2.out hs)
  replace Q3 := Lib.hid (Whole.below Q3.out hs)
  have HB20 : Hid (Below w.heap.size w w20) := Lib.hid (Bel_next HB19.out hs)
  have z20 : w19.heap.size ≤ w20.heap.size := hs.size
  replace Rc_xs := Lib.hid (Row.below Rc_xs.out hs)
  clear hb hs HB19
  have hcQ0 := Q0.out.facts.1
  have hzQ0 := Q0.out.lt
  have hcQ1 := Q1.out.facts.1
  have hzQ1 := Q1.out.lt
  have hcQ2 := Q2.out.facts.1
  have hzQ2 := Q2.out.lt
  have hcQ3 := Q3.out.facts.1
  have hzQ3 := Q3.out.lt
  go_wp2_with fail
  clear hcQ0 hzQ0
  clear hcQ1 hzQ1
  clear hcQ2 hzQ2
  clear hcQ3 hzQ3
  refine (heldInt64S_marks 1 0 _ _ _ (fun i hi => absurd hi (Nat.not_lt_zero _)) (by omega)).mono ?_
  rintro e w21 ⟨rfl, hb⟩
  have hs : Below w20.heap.size w20 w21 := Bel_next (by repeat (first | exact Below.refl _ _ | refine Below.drew ?_ | refine Bel_drewN ?_ _ | refine Below.alloc ?_ (by first | omega | (simp; done) | (simp; omega)) _ | refine Below.setCell ?_ (by first | omega | simp) _)) hb
  replace Q0 := Lib.hid (Whole.below Q0.out hs)
  replace Q1 := Lib.hid (Whole.below Q1.out hs)
  replace Q2 := Lib.hid (Whole.below Q2.out hs)
  replace Q3 := Lib.hid (Whole.below Q3.out hs)
  have HB21 : Hid (Below w.heap.size w w21) := Lib.hid (Bel_next HB20.out hs)
  have z21 : w20.heap.size ≤ w21.heap.size := hs.size
  replace Rc_xs := Lib.hid (Row.below Rc_xs.out hs)
  clear hb hs HB20
  go_wp2_with fail
  go_ret
  exact ⟨rfl, Bel_next HB21.out (by repeat (first | exact Below.refl _ _ | refine Below.drew ?_ | refine Bel_drewN ?_ _ | refine Below.alloc ?_ (by first | omega | (simp; done) | (simp; omega)) _ | refine Below.setCell ?_ (by first | omega | simp) _))⟩
end Go.Proofs.Ytnofikeeobahjab
