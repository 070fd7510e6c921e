/- The walk of the law FnExactPickSeed. -/
import Derived.Test.YtlipdegiihojfaaPs
namespace Go.Proofs.Ytlipdegiihojfaa
open Go Go.RowKit Fl
set_option linter.unusedVariables false

set_option maxRecDepth 100000 in
set_option maxHeartbeats 800000 in
theorem FnExactPickSeed_walk (k : Int) (a b : Nat) (h_k : (Lit.int .i64 k).wf = true) (h_a : a < 18446744073709551616) (h_b : b < 18446744073709551616) (xs : List Nat) (ao_xs : Option Addr) (c_xs : Nat) (w : World) (hx_xs : Holds w ao_xs (fl .f32 xs)) :
    Calls Try.prog 6 #[sd k a b, .slice ao_xs xs.length c_xs] w fun e w' => e = .returned (.bool true) ∧ Below w.heap.size w w' := by
  by_cases hl0 : 1048576 < xs.length
  · have hl : (1048576 : Int) < (xs.length : Int) := by omega
    clear hl0
    go_enter Try.func6, Try.ntmps6
    go_wp2
    go_ret
    exact ⟨rfl, by repeat (first | exact Below.refl _ _ | refine Below.drew ?_ | refine Bel_drewN ?_ _ | refine Below.alloc ?_ (by first | omega | (simp; done) | (simp; omega)) _ | refine Below.setCell ?_ (by first | omega | simp) _)⟩
  have hs0 : (xs.length : Int) ≤ 1048576 := by omega
  have hn0 : xs.length ≤ 1048576 := by omega
  clear hl0
  have HX_xs := Lib.hid hx_xs
  clear hx_xs
  by_cases hv0 : vSeed k a b = true ∧ picks xs
  · have HV := Lib.hid hv0
    clear hv0
    go_enter Try.func6, Try.ntmps6
    go_wp2_with fail
    refine (toSeed_ret k a b _).mono ?_
    rintro e w1 ⟨rfl, hb⟩
    have hs : Below w.heap.size w w1 := Bel_next (by repeat (first | exact Below.refl _ _ | refine Below.drew ?_ | refine Bel_drewN ?_ _ | refine Below.alloc ?_ (by first | omega | (simp; done) | (simp; omega)) _ | refine Below.setCell ?_ (by first | omega | simp) _)) hb
    have Q0 := Lib.hid ((Whole.made w 24 (sdC k a b)).below hb)
    have yQ0 := Q0.out.lt
    have HB1 : Hid (Below w.heap.size w w1) := Lib.hid hs
    have z1 : w.heap.size ≤ w1.heap.size := hs.size
    clear hb hs
    have hcQ0 := Q0.out.facts.1
    have hzQ0 := Q0.out.lt
    go_wp2_with fail
    clear hcQ0 hzQ0
    refine (toFloat32S_row xs _ _ _ (by exact Holds.below HX_xs.out (Bel_next HB1.out (by repeat (first | exact Below.refl _ _ | refine Below.drew ?_ | refine Bel_drewN ?_ _ | refine Below.alloc ?_ (by first | omega | (simp; done) | (simp; omega)) _ | refine Below.setCell ?_ (by first | omega | simp) _)))) hn0).mono ?_
    rintro e w2 ⟨_, rfl, row, hb⟩
    have hs : Below w1.heap.size w1 w2 := Bel_next (by repeat (first | exact Below.refl _ _ | refine Below.drew ?_ | refine Bel_drewN ?_ _ | refine Below.alloc ?_ (by first | omega | (simp; done) | (simp; omega)) _ | refine Below.setCell ?_ (by first | omega | simp) _)) hb
    replace Q0 := Lib.hid (Whole.below Q0.out hs)
    have HB2 : Hid (Below w.heap.size w w2) := Lib.hid (Bel_next HB1.out hs)
    have z2 : w1.heap.size ≤ w2.heap.size := hs.size
    have Ra_xs := Lib.hid (Row.wide row (lo' := w1.heap.size) (by first | exact Nat.le_refl _ | (simp; done) | (simp; omega)) (Nat.le_refl _))
    clear row
    clear hb hs HB1
    have hcQ0 := Q0.out.facts.1
    have hzQ0 := Q0.out.lt
    go_wp2_with fail
    clear hcQ0 hzQ0
    refine (specPick_yes k a b xs _ _ _ ⟨HV.out.1, h_a, h_b⟩ (by exact (Row.below Ra_xs.out (by repeat (first | exact Below.refl _ _ | refine Below.drew ?_ | refine Bel_drewN ?_ _ | refine Below.alloc ?_ (by first | omega | (simp; done) | (simp; omega)) _ | refine Below.setCell ?_ (by first | omega | simp) _))).holds) HV.out.2).mono ?_
    rintro e w3 ⟨rfl, hb⟩
    have hs : Below w2.heap.size w2 w3 := Bel_next (by repeat (first | exact Below.refl _ _ | refine Below.drew ?_ | refine Bel_drewN ?_ _ | refine Below.alloc ?_ (by first | omega | (simp; done) | (simp; omega)) _ | refine Below.setCell ?_ (by first | omega | simp) _)) hb
    replace Q0 := Lib.hid (Whole.below Q0.out hs)
    have HB3 : Hid (Below w.heap.size w w3) := Lib.hid (Bel_next HB2.out hs)
    have z3 : w2.heap.size ≤ w3.heap.size := hs.size
    replace Ra_xs := Lib.hid (Row.below Ra_xs.out hs)
    clear hb hs HB2
    clear Ra_xs
    have hcQ0 := Q0.out.facts.1
    have hzQ0 := Q0.out.lt
    go_wp2_with fail
    clear hcQ0 hzQ0
    refine (toFloat32S_row xs _ _ _ (by exact Holds.below HX_xs.out (Bel_next HB3.out (by repeat (first | exact Below.refl _ _ | refine Below.drew ?_ | refine Bel_drewN ?_ _ | refine Below.alloc ?_ (by first | omega | (simp; done) | (simp; omega)) _ | refine Below.setCell ?_ (by first | omega | simp) _)))) hn0).mono ?_
    rintro e w4 ⟨_, rfl, row, hb⟩
    have hs : Below w3.heap.size w3 w4 := Bel_next (by repeat (first | exact Below.refl _ _ | refine Below.drew ?_ | refine Bel_drewN ?_ _ | refine Below.alloc ?_ (by first | omega | (simp; done) | (simp; omega)) _ | refine Below.setCell ?_ (by first | omega | simp) _)) hb
    replace Q0 := Lib.hid (Whole.below Q0.out hs)
    have Q1 := Lib.hid ((Whole.made w3 26 (sdC k (nxA k a b) (nxB k a b))).below hb)
    have yQ1 := Q1.out.lt
    have HB4 : Hid (Below w.heap.size w w4) := Lib.hid (Bel_next HB3.out hs)
    have z4 : w3.heap.size ≤ w4.heap.size := hs.size
    have X_xs := Lib.hid (Row.wide row (lo' := w3.heap.size + 1) (by first | exact Nat.le_refl _ | (simp; done) | (simp; omega)) (Nat.le_refl _))
    clear row
    clear hb hs HB3
    have hcQ0 := Q0.out.facts.1
    have hzQ0 := Q0.out.lt
    have hcQ1 := Q1.out.facts.1
    have hzQ1 := Q1.out.lt
    go_wp2_with fail
    clear hcQ0 hzQ0
    clear hcQ1 hzQ1
    refine (toSeed_ret k a b _).mono ?_
    rintro e w5 ⟨rfl, hb⟩
    have hs : Below w4.heap.size w4 w5 := Bel_next (by repeat (first | exact Below.refl _ _ | refine Below.drew ?_ | refine Bel_drewN ?_ _ | refine Below.alloc ?_ (by first | omega | (simp; done) | (simp; omega)) _ | refine Below.setCell ?_ (by first | omega | simp) _)) hb
    replace Q0 := Lib.hid (Whole.below Q0.out hs)
    replace Q1 := Lib.hid (Whole.below Q1.out hs)
    have HB5 : Hid (Below w.heap.size w w5) := Lib.hid (Bel_next HB4.out hs)
    have z5 : w4.heap.size ≤ w5.heap.size := hs.size
    replace X_xs := Lib.hid (Row.below X_xs.out hs)
    clear hb hs HB4
    have hcQ0 := Q0.out.facts.1
    have hzQ0 := Q0.out.lt
    have hcQ1 := Q1.out.facts.1
    have hzQ1 := Q1.out.lt
    go_wp2_with fail
    clear hcQ0 hzQ0
    clear hcQ1 hzQ1
    refine (implPick_yes k a b xs _ _ _ ⟨HV.out.1, h_a, h_b⟩ (by exact (Row.below X_xs.out (by repeat (first | exact Below.refl _ _ | refine Below.drew ?_ | refine Bel_drewN ?_ _ | refine Below.alloc ?_ (by first | omega | (simp; done) | (simp; omega)) _ | refine Below.setCell ?_ (by first | omega | simp) _))).holds) HV.out.2).mono ?_
    rintro e w6 ⟨rfl, hb⟩
    have hs : Below w5.heap.size w5 w6 := Bel_next (by repeat (first | exact Below.refl _ _ | refine Below.drew ?_ | refine Bel_drewN ?_ _ | refine Below.alloc ?_ (by first | omega | (simp; done) | (simp; omega)) _ | refine Below.setCell ?_ (by first | omega | simp) _)) hb
    replace Q0 := Lib.hid (Whole.below Q0.out hs)
    replace Q1 := Lib.hid (Whole.below Q1.out hs)
    have HB6 : Hid (Below w.heap.size w w6) := Lib.hid (Bel_next HB5.out hs)
    have z6 : w5.heap.size ≤ w6.heap.size := hs.size
    replace X_xs := Lib.hid (Row.below X_xs.out hs)
    clear hb hs HB5
    have hcQ0 := Q0.out.facts.1
    have hzQ0 := Q0.out.lt
    have hcQ1 := Q1.out.facts.1
    have hzQ1 := Q1.out.lt
    go_wp2_with fail
    clear hcQ0 hzQ0
    clear hcQ1 hzQ1
    refine (eqSeed_same _ _ _ _).mono ?_
    rintro e w7 ⟨rfl, hb⟩
    have hs : Below w6.heap.size w6 w7 := Bel_next (by repeat (first | exact Below.refl _ _ | refine Below.drew ?_ | refine Bel_drewN ?_ _ | refine Below.alloc ?_ (by first | omega | (simp; done) | (simp; omega)) _ | refine Below.setCell ?_ (by first | omega | simp) _)) hb
    replace Q0 := Lib.hid (Whole.below Q0.out hs)
    replace Q1 := Lib.hid (Whole.below Q1.out hs)
    have Q2 := Lib.hid ((Whole.made w6 26 (sdC k (nxA k a b) (nxB k a b))).below hb)
    have yQ2 := Q2.out.lt
    have HB7 : Hid (Below w.heap.size w w7) := Lib.hid (Bel_next HB6.out hs)
    have z7 : w6.heap.size ≤ w7.heap.size := hs.size
    replace X_xs := Lib.hid (Row.below X_xs.out hs)
    clear hb hs HB6
    have hcQ0 := Q0.out.facts.1
    have hzQ0 := Q0.out.lt
    have hcQ1 := Q1.out.facts.1
    have hzQ1 := Q1.out.lt
    have hcQ2 := Q2.out.facts.1
    have hzQ2 := Q2.out.lt
    go_wp2_with fail
    clear hcQ0 hzQ0
    clear hcQ1 hzQ1
    clear hcQ2 hzQ2
    refine (toFloat32S_row xs _ _ _ (by exact Holds.below HX_xs.out (Bel_next HB7.out (by repeat (first | exact Below.refl _ _ | refine Below.drew ?_ | refine Bel_drewN ?_ _ | refine Below.alloc ?_ (by first | omega | (simp; done) | (simp; omega)) _ | refine Below.setCell ?_ (by first | omega | simp) _)))) hn0).mono ?_
    rintro e w8 ⟨_, rfl, row, hb⟩
    have hs : Below w7.heap.size w7 w8 := Bel_next (by repeat (first | exact Below.refl _ _ | refine Below.drew ?_ | refine Bel_drewN ?_ _ | refine Below.alloc ?_ (by first | omega | (simp; done) | (simp; omega)) _ | refine Below.setCell ?_ (by first | omega | simp) _)) hb
    replace Q0 := Lib.hid (Whole.below Q0.out hs)
    replace Q1 := Lib.hid (Whole.below Q1.out hs)
    replace Q2 := Lib.hid (Whole.below Q2.out hs)
    have HB8 : Hid (Below w.heap.size w w8) := Lib.hid (Bel_next HB7.out hs)
    have z8 : w7.heap.size ≤ w8.heap.size := hs.size
    replace X_xs := Lib.hid (Row.below X_xs.out hs)
    have Y_xs := Lib.hid (Row.wide row (lo' := w7.heap.size) (by first | exact Nat.le_refl _ | (simp; done) | (simp; omega)) (Nat.le_refl _))
    clear row
    clear hb hs HB7
    have hcQ0 := Q0.out.facts.1
    have hzQ0 := Q0.out.lt
    have hcQ1 := Q1.out.facts.1
    have hzQ1 := Q1.out.lt
    have hcQ2 := Q2.out.facts.1
    have hzQ2 := Q2.out.lt
    go_wp2_with fail
    clear hcQ0 hzQ0
    clear hcQ1 hzQ1
    clear hcQ2 hzQ2
    refine (eqFloat32S_same xs _ rfl _ _ _ _ _ (by exact (Row.below X_xs.out (by repeat (first | exact Below.refl _ _ | refine Below.drew ?_ | refine Bel_drewN ?_ _ | refine Below.alloc ?_ (by first | omega | (simp; done) | (simp; omega)) _ | refine Below.setCell ?_ (by first | omega | simp) _))).holds) (by exact (Row.below Y_xs.out (by repeat (first | exact Below.refl _ _ | refine Below.drew ?_ | refine Bel_drewN ?_ _ | refine Below.alloc ?_ (by first | omega | (simp; done) | (simp; omega)) _ | refine Below.setCell ?_ (by first | omega | simp) _))).holds) (by omega)).mono ?_
    rintro e w9 ⟨rfl, hb⟩
    have hs : Below w8.heap.size w8 w9 := Bel_next (by repeat (first | exact Below.refl _ _ | refine Below.drew ?_ | refine Bel_drewN ?_ _ | refine Below.alloc ?_ (by first | omega | (simp; done) | (simp; omega)) _ | refine Below.setCell ?_ (by first | omega | simp) _)) hb
    replace Q0 := Lib.hid (Whole.below Q0.out hs)
    replace Q1 := Lib.hid (Whole.below Q1.out hs)
    replace Q2 := Lib.hid (Whole.below Q2.out hs)
    have HB9 : Hid (Below w.heap.size w w9) := Lib.hid (Bel_next HB8.out hs)
    have z9 : w8.heap.size ≤ w9.heap.size := hs.size
    replace X_xs := Lib.hid (Row.below X_xs.out hs)
    replace Y_xs := Lib.hid (Row.below Y_xs.out hs)
    clear hb hs HB8
    clear Y_xs
    go_wp2_with fail
    go_ret
    exact ⟨rfl, Bel_next HB9.out (by repeat (first | exact Below.refl _ _ | refine Below.drew ?_ | refine Bel_drewN ?_ _ | refine Below.alloc ?_ (by first | omega | (simp; done) | (simp; omega)) _ | refine Below.setCell ?_ (by first | omega | simp) _))⟩
  have HV := Lib.hid hv0
  clear hv0
  go_enter Try.func6, Try.ntmps6
  go_wp2_with fail
  refine (toSeed_ret k a b _).mono ?_
  rintro e w1 ⟨rfl, hb⟩
  have hs : Below w.heap.size w w1 := Bel_next (by repeat (first | exact Below.refl _ _ | refine Below.drew ?_ | refine Bel_drewN ?_ _ | refine Below.alloc ?_ (by first | omega | (simp; done) | (simp; omega)) _ | refine Below.setCell ?_ (by first | omega | simp) _)) hb
  have Q0 := Lib.hid ((Whole.made w 24 (sdC k a b)).below hb)
  have yQ0 := Q0.out.lt
  have HB1 : Hid (Below w.heap.size w w1) := Lib.hid hs
  have z1 : w.heap.size ≤ w1.heap.size := hs.size
  clear hb hs
  have hcQ0 := Q0.out.facts.1
  have hzQ0 := Q0.out.lt
  go_wp2_with fail
  clear hcQ0 hzQ0
  refine (toFloat32S_row xs _ _ _ (by exact Holds.below HX_xs.out (Bel_next HB1.out (by repeat (first | exact Below.refl _ _ | refine Below.drew ?_ | refine Bel_drewN ?_ _ | refine Below.alloc ?_ (by first | omega | (simp; done) | (simp; omega)) _ | refine Below.setCell ?_ (by first | omega | simp) _)))) hn0).mono ?_
  rintro e w2 ⟨_, rfl, row, hb⟩
  have hs : Below w1.heap.size w1 w2 := Bel_next (by repeat (first | exact Below.refl _ _ | refine Below.drew ?_ | refine Bel_drewN ?_ _ | refine Below.alloc ?_ (by first | omega | (simp; done) | (simp; omega)) _ | refine Below.setCell ?_ (by first | omega | simp) _)) hb
  replace Q0 := Lib.hid (Whole.below Q0.out hs)
  have HB2 : Hid (Below w.heap.size w w2) := Lib.hid (Bel_next HB1.out hs)
  have z2 : w1.heap.size ≤ w2.heap.size := hs.size
  have Ra_xs := Lib.hid (Row.wide row (lo' := w1.heap.size) (by first | exact Nat.le_refl _ | (simp; done) | (simp; omega)) (Nat.le_refl _))
  clear row
  clear hb hs HB1
  have hcQ0 := Q0.out.facts.1
  have hzQ0 := Q0.out.lt
  go_wp2_with fail
  clear hcQ0 hzQ0
  refine (specPick_no k a b xs _ _ _ (by exact (Row.below Ra_xs.out (by repeat (first | exact Below.refl _ _ | refine Below.drew ?_ | refine Bel_drewN ?_ _ | refine Below.alloc ?_ (by first | omega | (simp; done) | (simp; omega)) _ | refine Below.setCell ?_ (by first | omega | simp) _))).holds) hn0 HV.out).mono ?_
  rintro e w3 ⟨rfl, hb⟩
  have hs : Below w2.heap.size w2 w3 := Bel_next (by repeat (first | exact Below.refl _ _ | refine Below.drew ?_ | refine Bel_drewN ?_ _ | refine Below.alloc ?_ (by first | omega | (simp; done) | (simp; omega)) _ | refine Below.setCell ?_ (by first | omega | simp) _)) hb
  replace Q0 := Lib.hid (Whole.below Q0.out hs)
  have HB3 : Hid (Below w.heap.size w w3) := Lib.hid (Bel_next HB2.out hs)
  have z3 : w2.heap.size ≤ w3.heap.size := hs.size
  replace Ra_xs := Lib.hid (Row.below Ra_xs.out hs)
  clear hb hs HB2
  clear Ra_xs
  have hcQ0 := Q0.out.facts.1
  have hzQ0 := Q0.out.lt
  go_wp2_with fail
  clear hcQ0 hzQ0
  refine (toFloat32S_row xs _ _ _ (by exact Holds.below HX_xs.out (Bel_next HB3.out (by repeat (first | exact Below.refl _ _ | refine Below.drew ?_ | refine Bel_drewN ?_ _ | refine Below.alloc ?_ (by first | omega | (simp; done) | (simp; omega)) _ | refine Below.setCell ?_ (by first | omega | simp) _)))) hn0).mono ?_
  rintro e w4 ⟨_, rfl, row, hb⟩
  have hs : Below w3.heap.size w3 w4 := Bel_next (by repeat (first | exact Below.refl _ _ | refine Below.drew ?_ | refine Bel_drewN ?_ _ | refine Below.alloc ?_ (by first | omega | (simp; done) | (simp; omega)) _ | refine Below.setCell ?_ (by first | omega | simp) _)) hb
  replace Q0 := Lib.hid (Whole.below Q0.out hs)
  have Q1 := Lib.hid ((Whole.made w3 26 (sdC 0 0 0)).below hb)
  have yQ1 := Q1.out.lt
  have HB4 : Hid (Below w.heap.size w w4) := Lib.hid (Bel_next HB3.out hs)
  have z4 : w3.heap.size ≤ w4.heap.size := hs.size
  have X_xs := Lib.hid (Row.wide row (lo' := w3.heap.size + 1) (by first | exact Nat.le_refl _ | (simp; done) | (simp; omega)) (Nat.le_refl _))
  clear row
  clear hb hs HB3
  have hcQ0 := Q0.out.facts.1
  have hzQ0 := Q0.out.lt
  have hcQ1 := Q1.out.facts.1
  have hzQ1 := Q1.out.lt
  go_wp2_with fail
  clear hcQ0 hzQ0
  clear hcQ1 hzQ1
  refine (toSeed_ret k a b _).mono ?_
  rintro e w5 ⟨rfl, hb⟩
  have hs : Below w4.heap.size w4 w5 := Bel_next (by repeat (first | exact Below.refl _ _ | refine Below.drew ?_ | refine Bel_drewN ?_ _ | refine Below.alloc ?_ (by first | omega | (simp; done) | (simp; omega)) _ | refine Below.setCell ?_ (by first | omega | simp) _)) hb
  replace Q0 := Lib.hid (Whole.below Q0.out hs)
  replace Q1 := Lib.hid (Whole.below Q1.out hs)
  have HB5 : Hid (Below w.heap.size w w5) := Lib.hid (Bel_next HB4.out hs)
  have z5 : w4.heap.size ≤ w5.heap.size := hs.size
  replace X_xs := Lib.hid (Row.below X_xs.out hs)
  clear hb hs HB4
  have hcQ0 := Q0.out.facts.1
  have hzQ0 := Q0.out.lt
  have hcQ1 := Q1.out.facts.1
  have hzQ1 := Q1.out.lt
  go_wp2_with fail
  clear hcQ0 hzQ0
  clear hcQ1 hzQ1
  refine (implPick_no k a b xs _ _ _ (by exact (Row.below X_xs.out (by repeat (first | exact Below.refl _ _ | refine Below.drew ?_ | refine Bel_drewN ?_ _ | refine Below.alloc ?_ (by first | omega | (simp; done) | (simp; omega)) _ | refine Below.setCell ?_ (by first | omega | simp) _))).holds) hn0 HV.out).mono ?_
  rintro e w6 ⟨rfl, hb⟩
  have hs : Below w5.heap.size w5 w6 := Bel_next (by repeat (first | exact Below.refl _ _ | refine Below.drew ?_ | refine Bel_drewN ?_ _ | refine Below.alloc ?_ (by first | omega | (simp; done) | (simp; omega)) _ | refine Below.setCell ?_ (by first | omega | simp) _)) hb
  replace Q0 := Lib.hid (Whole.below Q0.out hs)
  replace Q1 := Lib.hid (Whole.below Q1.out hs)
  have HB6 : Hid (Below w.heap.size w w6) := Lib.hid (Bel_next HB5.out hs)
  have z6 : w5.heap.size ≤ w6.heap.size := hs.size
  replace X_xs := Lib.hid (Row.below X_xs.out hs)
  clear hb hs HB5
  have hcQ0 := Q0.out.facts.1
  have hzQ0 := Q0.out.lt
  have hcQ1 := Q1.out.facts.1
  have hzQ1 := Q1.out.lt
  go_wp2_with fail
  clear hcQ0 hzQ0
  clear hcQ1 hzQ1
  refine (eqSeed_same _ _ _ _).mono ?_
  rintro e w7 ⟨rfl, hb⟩
  have hs : Below w6.heap.size w6 w7 := Bel_next (by repeat (first | exact Below.refl _ _ | refine Below.drew ?_ | refine Bel_drewN ?_ _ | refine Below.alloc ?_ (by first | omega | (simp; done) | (simp; omega)) _ | refine Below.setCell ?_ (by first | omega | simp) _)) hb
  replace Q0 := Lib.hid (Whole.below Q0.out hs)
  replace Q1 := Lib.hid (Whole.below Q1.out hs)
  have Q2 := Lib.hid ((Whole.made w6 26 (sdC 0 0 0)).below hb)
  have yQ2 := Q2.out.lt
  have HB7 : Hid (Below w.heap.size w w7) := Lib.hid (Bel_next HB6.out hs)
  have z7 : w6.heap.size ≤ w7.heap.size := hs.size
  replace X_xs := Lib.hid (Row.below X_xs.out hs)
  clear hb hs HB6
  have hcQ0 := Q0.out.facts.1
  have hzQ0 := Q0.out.lt
  have hcQ1 := Q1.out.facts.1
  have hzQ1 := Q1.out.lt
  have hcQ2 := Q2.out.facts.1
  have hzQ2 := Q2.out.lt
  go_wp2_with fail
  clear hcQ0 hzQ0
  clear hcQ1 hzQ1
  clear hcQ2 hzQ2
  refine (toFloat32S_row xs _ _ _ (by exact Holds.below HX_xs.out (Bel_next HB7.out (by repeat (first | exact Below.refl _ _ | refine Below.drew ?_ | refine Bel_drewN ?_ _ | refine Below.alloc ?_ (by first | omega | (simp; done) | (simp; omega)) _ | refine Below.setCell ?_ (by first | omega | simp) _)))) hn0).mono ?_
  rintro e w8 ⟨_, rfl, row, hb⟩
  have hs : Below w7.heap.size w7 w8 := Bel_next (by repeat (first | exact Below.refl _ _ | refine Below.drew ?_ | refine Bel_drewN ?_ _ | refine Below.alloc ?_ (by first | omega | (simp; done) | (simp; omega)) _ | refine Below.setCell ?_ (by first | omega | simp) _)) hb
  replace Q0 := Lib.hid (Whole.below Q0.out hs)
  replace Q1 := Lib.hid (Whole.below Q1.out hs)
  replace Q2 := Lib.hid (Whole.below Q2.out hs)
  have HB8 : Hid (Below w.heap.size w w8) := Lib.hid (Bel_next HB7.out hs)
  have z8 : w7.heap.size ≤ w8.heap.size := hs.size
  replace X_xs := Lib.hid (Row.below X_xs.out hs)
  have Y_xs := Lib.hid (Row.wide row (lo' := w7.heap.size) (by first | exact Nat.le_refl _ | (simp; done) | (simp; omega)) (Nat.le_refl _))
  clear row
  clear hb hs HB7
  have hcQ0 := Q0.out.facts.1
  have hzQ0 := Q0.out.lt
  have hcQ1 := Q1.out.facts.1
  have hzQ1 := Q1.out.lt
  have hcQ2 := Q2.out.facts.1
  have hzQ2 := Q2.out.lt
  go_wp2_with fail
  clear hcQ0 hzQ0
  clear hcQ1 hzQ1
  clear hcQ2 hzQ2
  refine (eqFloat32S_same xs _ rfl _ _ _ _ _ (by exact (Row.below X_xs.out (by repeat (first | exact Below.refl _ _ | refine Below.drew ?_ | refine Bel_drewN ?_ _ | refine Below.alloc ?_ (by first | omega | (simp; done) | (simp; omega)) _ | refine Below.setCell ?_ (by first | omega | simp) _))).holds) (by exact (Row.below Y_xs.out (by repeat (first | exact Below.refl _ _ | refine Below.drew ?_ | refine Bel_drewN ?_ _ | refine Below.alloc ?_ (by first | omega | (simp; done) | (simp; omega)) _ | refine Below.setCell ?_ (by first | omega | simp) _))).holds) (by omega)).mono ?_
  rintro e w9 ⟨rfl, hb⟩
  have hs : Below w8.heap.size w8 w9 := Bel_next (by repeat (first | exact Below.refl _ _ | refine Below.drew ?_ | refine Bel_drewN ?_ _ | refine Below.alloc ?_ (by first | omega | (simp; done) | (simp; omega)) _ | refine Below.setCell ?_ (by first | omega | simp) _)) hb
  replace Q0 := Lib.hid (Whole.below Q0.out hs)
  replace Q1 := Lib.hid (Whole.below Q1.out hs)
  replace Q2 := Lib.hid (Whole.below Q2.out hs)
  have HB9 : Hid (Below w.heap.size w w9) := Lib.hid (Bel_next HB8.out hs)
  have z9 : w8.heap.size ≤ w9.heap.size := hs.size
  replace X_xs := Lib.hid (Row.below X_xs.out hs)
  replace Y_xs := Lib.hid (Row.below Y_xs.out hs)
  clear hb hs HB8
  clear Y_xs
  go_wp2_with fail
  go_ret
  exact ⟨rfl, Bel_next HB9.out (by repeat (first | exact Below.refl _ _ | refine Below.drew ?_ | refine Bel_drewN ?_ _ | refine Below.alloc ?_ (by first | omega | (simp; done) | (simp; omega)) _ | refine Below.setCell ?_ (by first | omega | simp) _))⟩
end Go.Proofs.Ytlipdegiihojfaa
