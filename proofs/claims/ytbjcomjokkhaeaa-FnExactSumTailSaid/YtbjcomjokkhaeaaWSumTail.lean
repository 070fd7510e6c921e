/- The walk of the law FnExactSumTail. -/
import Derived.Test.YtbjcomjokkhaeaaSut
namespace Go.Proofs.Ytbjcomjokkhaeaa
open Go Go.RowKit
set_option linter.unusedVariables false

set_option maxRecDepth 100000 in
set_option maxHeartbeats 800000 in
theorem FnExactSumTail_walk (xs : List Int) (ao_xs : Option Addr) (c_xs : Nat) (h_xs : ∀ x ∈ xs, -9223372036854775808 ≤ x ∧ x ≤ 9223372036854775807) (ys : List Int) (ao_ys : Option Addr) (c_ys : Nat) (h_ys : ∀ x ∈ ys, -9223372036854775808 ≤ x ∧ x ≤ 9223372036854775807) (w : World) (hx_xs : Holds w ao_xs (il xs)) (hx_ys : Holds w ao_ys (il ys)) :
    Calls Try.prog 5 #[.slice ao_xs xs.length c_xs, .slice ao_ys ys.length c_ys] w fun e w' => e = .returned (.bool true) ∧ Below w.heap.size w w' := by
  by_cases hl0 : 1048576 < xs.length
  · have hl : (1048576 : Int) < (xs.length : Int) := by omega
    clear hl0
    go_enter Try.func5, Try.ntmps5
    go_wp2
    go_ret
    exact ⟨rfl, by repeat (first | exact Below.refl _ _ | refine Below.drew ?_ | refine Bel_drewN ?_ _ | refine Below.alloc ?_ (by first | omega | (simp; done) | (simp; omega)) _ | refine Below.setCell ?_ (by first | omega | simp) _)⟩
  have hs0 : (xs.length : Int) ≤ 1048576 := by omega
  have hn0 : xs.length ≤ 1048576 := by omega
  clear hl0
  by_cases hl1 : 1048576 < ys.length
  · have hl : (1048576 : Int) < (ys.length : Int) := by omega
    clear hl1
    go_enter Try.func5, Try.ntmps5
    go_wp2
    go_ret
    exact ⟨rfl, by repeat (first | exact Below.refl _ _ | refine Below.drew ?_ | refine Bel_drewN ?_ _ | refine Below.alloc ?_ (by first | omega | (simp; done) | (simp; omega)) _ | refine Below.setCell ?_ (by first | omega | simp) _)⟩
  have hs1 : (ys.length : Int) ≤ 1048576 := by omega
  have hn1 : ys.length ≤ 1048576 := by omega
  clear hl1
  have HX_xs := Lib.hid hx_xs
  clear hx_xs
  have HX_ys := Lib.hid hx_ys
  clear hx_ys
  by_cases hv0 : sumC xs ys
  · have HV := Lib.hid hv0
    clear hv0
    go_enter Try.func5, Try.ntmps5
    go_wp2_with fail
    refine (toInt64S_any xs _ _ _ (by exact Holds.below HX_xs.out (by repeat (first | exact Below.refl _ _ | refine Below.drew ?_ | refine Bel_drewN ?_ _ | refine Below.alloc ?_ (by first | omega | (simp; done) | (simp; omega)) _ | refine Below.setCell ?_ (by first | omega | simp) _))) hn0).mono ?_
    rintro e w1 ⟨_, rfl, row, hb⟩
    have hs : Below w.heap.size w w1 := Bel_next (by repeat (first | exact Below.refl _ _ | refine Below.drew ?_ | refine Bel_drewN ?_ _ | refine Below.alloc ?_ (by first | omega | (simp; done) | (simp; omega)) _ | refine Below.setCell ?_ (by first | omega | simp) _)) hb
    have HB1 : Hid (Below w.heap.size w w1) := Lib.hid hs
    have z1 : w.heap.size ≤ w1.heap.size := hs.size
    have Ra_xs := Lib.hid (Row.wide row (lo' := w.heap.size) (by first | exact Nat.le_refl _ | (simp; done) | (simp; omega)) (Nat.le_refl _))
    clear row
    clear hb hs
    go_wp2_with fail
    refine (toInt64S_any ys _ _ _ (by exact Holds.below HX_ys.out (Bel_next HB1.out (by repeat (first | exact Below.refl _ _ | refine Below.drew ?_ | refine Bel_drewN ?_ _ | refine Below.alloc ?_ (by first | omega | (simp; done) | (simp; omega)) _ | refine Below.setCell ?_ (by first | omega | simp) _)))) hn1).mono ?_
    rintro e w2 ⟨_, rfl, row, hb⟩
    have hs : Below w1.heap.size w1 w2 := Bel_next (by repeat (first | exact Below.refl _ _ | refine Below.drew ?_ | refine Bel_drewN ?_ _ | refine Below.alloc ?_ (by first | omega | (simp; done) | (simp; omega)) _ | refine Below.setCell ?_ (by first | omega | simp) _)) hb
    have HB2 : Hid (Below w.heap.size w w2) := Lib.hid (Bel_next HB1.out hs)
    have z2 : w1.heap.size ≤ w2.heap.size := hs.size
    replace Ra_xs := Lib.hid (Row.below Ra_xs.out hs)
    have Ra_ys := Lib.hid (Row.wide row (lo' := w1.heap.size) (by first | exact Nat.le_refl _ | (simp; done) | (simp; omega)) (Nat.le_refl _))
    clear row
    clear hb hs HB1
    go_wp2_with fail
    refine (specSumTail_yes xs ys _ _ _ _ _ HV.out (by exact (Row.below Ra_xs.out (by repeat (first | exact Below.refl _ _ | refine Below.drew ?_ | refine Bel_drewN ?_ _ | refine Below.alloc ?_ (by first | omega | (simp; done) | (simp; omega)) _ | refine Below.setCell ?_ (by first | omega | simp) _))).holds) (by exact (Row.below Ra_ys.out (by repeat (first | exact Below.refl _ _ | refine Below.drew ?_ | refine Bel_drewN ?_ _ | refine Below.alloc ?_ (by first | omega | (simp; done) | (simp; omega)) _ | refine Below.setCell ?_ (by first | omega | simp) _))).holds)).mono ?_
    rintro e w3 ⟨rfl, hb⟩
    have hs : Below w2.heap.size w2 w3 := Bel_next (by repeat (first | exact Below.refl _ _ | refine Below.drew ?_ | refine Bel_drewN ?_ _ | refine Below.alloc ?_ (by first | omega | (simp; done) | (simp; omega)) _ | refine Below.setCell ?_ (by first | omega | simp) _)) hb
    have HB3 : Hid (Below w.heap.size w w3) := Lib.hid (Bel_next HB2.out hs)
    have z3 : w2.heap.size ≤ w3.heap.size := hs.size
    replace Ra_xs := Lib.hid (Row.below Ra_xs.out hs)
    replace Ra_ys := Lib.hid (Row.below Ra_ys.out hs)
    clear hb hs HB2
    clear Ra_xs
    clear Ra_ys
    go_wp2_with fail
    refine (toInt64S_any xs _ _ _ (by exact Holds.below HX_xs.out (Bel_next HB3.out (by repeat (first | exact Below.refl _ _ | refine Below.drew ?_ | refine Bel_drewN ?_ _ | refine Below.alloc ?_ (by first | omega | (simp; done) | (simp; omega)) _ | refine Below.setCell ?_ (by first | omega | simp) _)))) hn0).mono ?_
    rintro e w4 ⟨_, rfl, row, hb⟩
    have hs : Below w3.heap.size w3 w4 := Bel_next (by repeat (first | exact Below.refl _ _ | refine Below.drew ?_ | refine Bel_drewN ?_ _ | refine Below.alloc ?_ (by first | omega | (simp; done) | (simp; omega)) _ | refine Below.setCell ?_ (by first | omega | simp) _)) hb
    have HB4 : Hid (Below w.heap.size w w4) := Lib.hid (Bel_next HB3.out hs)
    have z4 : w3.heap.size ≤ w4.heap.size := hs.size
    have X_xs := Lib.hid (Row.wide row (lo' := w3.heap.size) (by first | exact Nat.le_refl _ | (simp; done) | (simp; omega)) (Nat.le_refl _))
    clear row
    clear hb hs HB3
    go_wp2_with fail
    refine (toInt64S_any ys _ _ _ (by exact Holds.below HX_ys.out (Bel_next HB4.out (by repeat (first | exact Below.refl _ _ | refine Below.drew ?_ | refine Bel_drewN ?_ _ | refine Below.alloc ?_ (by first | omega | (simp; done) | (simp; omega)) _ | refine Below.setCell ?_ (by first | omega | simp) _)))) hn1).mono ?_
    rintro e w5 ⟨_, rfl, row, hb⟩
    have hs : Below w4.heap.size w4 w5 := Bel_next (by repeat (first | exact Below.refl _ _ | refine Below.drew ?_ | refine Bel_drewN ?_ _ | refine Below.alloc ?_ (by first | omega | (simp; done) | (simp; omega)) _ | refine Below.setCell ?_ (by first | omega | simp) _)) hb
    have HB5 : Hid (Below w.heap.size w w5) := Lib.hid (Bel_next HB4.out hs)
    have z5 : w4.heap.size ≤ w5.heap.size := hs.size
    replace X_xs := Lib.hid (Row.below X_xs.out hs)
    have X_ys := Lib.hid (Row.wide row (lo' := w4.heap.size) (by first | exact Nat.le_refl _ | (simp; done) | (simp; omega)) (Nat.le_refl _))
    clear row
    clear hb hs HB4
    go_wp2_with fail
    refine (implSumTail_yes xs ys _ _ _ _ _ HV.out (by exact (Row.below X_xs.out (by repeat (first | exact Below.refl _ _ | refine Below.drew ?_ | refine Bel_drewN ?_ _ | refine Below.alloc ?_ (by first | omega | (simp; done) | (simp; omega)) _ | refine Below.setCell ?_ (by first | omega | simp) _))).holds) (by exact (Row.below X_ys.out (by repeat (first | exact Below.refl _ _ | refine Below.drew ?_ | refine Bel_drewN ?_ _ | refine Below.alloc ?_ (by first | omega | (simp; done) | (simp; omega)) _ | refine Below.setCell ?_ (by first | omega | simp) _))).holds)).mono ?_
    rintro e w6 ⟨rfl, hb⟩
    have hs : Below w5.heap.size w5 w6 := Bel_next (by repeat (first | exact Below.refl _ _ | refine Below.drew ?_ | refine Bel_drewN ?_ _ | refine Below.alloc ?_ (by first | omega | (simp; done) | (simp; omega)) _ | refine Below.setCell ?_ (by first | omega | simp) _)) hb
    have HB6 : Hid (Below w.heap.size w w6) := Lib.hid (Bel_next HB5.out hs)
    have z6 : w5.heap.size ≤ w6.heap.size := hs.size
    replace X_xs := Lib.hid (Row.below X_xs.out hs)
    replace X_ys := Lib.hid (Row.below X_ys.out hs)
    clear hb hs HB5
    go_wp2_with fail
    refine (toInt64S_any xs _ _ _ (by exact Holds.below HX_xs.out (Bel_next HB6.out (by repeat (first | exact Below.refl _ _ | refine Below.drew ?_ | refine Bel_drewN ?_ _ | refine Below.alloc ?_ (by first | omega | (simp; done) | (simp; omega)) _ | refine Below.setCell ?_ (by first | omega | simp) _)))) hn0).mono ?_
    rintro e w7 ⟨_, rfl, row, hb⟩
    have hs : Below w6.heap.size w6 w7 := Bel_next (by repeat (first | exact Below.refl _ _ | refine Below.drew ?_ | refine Bel_drewN ?_ _ | refine Below.alloc ?_ (by first | omega | (simp; done) | (simp; omega)) _ | refine Below.setCell ?_ (by first | omega | simp) _)) hb
    have HB7 : Hid (Below w.heap.size w w7) := Lib.hid (Bel_next HB6.out hs)
    have z7 : w6.heap.size ≤ w7.heap.size := hs.size
    replace X_xs := Lib.hid (Row.below X_xs.out hs)
    replace X_ys := Lib.hid (Row.below X_ys.out hs)
    have Y_xs := Lib.hid (Row.wide row (lo' := w6.heap.size) (by first | exact Nat.le_refl _ | (simp; done) | (simp; omega)) (Nat.le_refl _))
    clear row
    clear hb hs HB6
    go_wp2_with fail
    refine (eqInt64S_same xs _ rfl _ _ _ _ _ (by exact (Row.below X_xs.out (by repeat (first | exact Below.refl _ _ | refine Below.drew ?_ | refine Bel_drewN ?_ _ | refine Below.alloc ?_ (by first | omega | (simp; done) | (simp; omega)) _ | refine Below.setCell ?_ (by first | omega | simp) _))).holds) (by exact (Row.below Y_xs.out (by repeat (first | exact Below.refl _ _ | refine Below.drew ?_ | refine Bel_drewN ?_ _ | refine Below.alloc ?_ (by first | omega | (simp; done) | (simp; omega)) _ | refine Below.setCell ?_ (by first | omega | simp) _))).holds) (by omega)).mono ?_
    rintro e w8 ⟨rfl, hb⟩
    have hs : Below w7.heap.size w7 w8 := Bel_next (by repeat (first | exact Below.refl _ _ | refine Below.drew ?_ | refine Bel_drewN ?_ _ | refine Below.alloc ?_ (by first | omega | (simp; done) | (simp; omega)) _ | refine Below.setCell ?_ (by first | omega | simp) _)) hb
    have HB8 : Hid (Below w.heap.size w w8) := Lib.hid (Bel_next HB7.out hs)
    have z8 : w7.heap.size ≤ w8.heap.size := hs.size
    replace X_xs := Lib.hid (Row.below X_xs.out hs)
    replace X_ys := Lib.hid (Row.below X_ys.out hs)
    replace Y_xs := Lib.hid (Row.below Y_xs.out hs)
    clear hb hs HB7
    clear Y_xs
    go_wp2_with fail
    refine (toInt64S_any ys _ _ _ (by exact Holds.below HX_ys.out (Bel_next HB8.out (by repeat (first | exact Below.refl _ _ | refine Below.drew ?_ | refine Bel_drewN ?_ _ | refine Below.alloc ?_ (by first | omega | (simp; done) | (simp; omega)) _ | refine Below.setCell ?_ (by first | omega | simp) _)))) hn1).mono ?_
    rintro e w9 ⟨_, rfl, row, hb⟩
    have hs : Below w8.heap.size w8 w9 := Bel_next (by repeat (first | exact Below.refl _ _ | refine Below.drew ?_ | refine Bel_drewN ?_ _ | refine Below.alloc ?_ (by first | omega | (simp; done) | (simp; omega)) _ | refine Below.setCell ?_ (by first | omega | simp) _)) hb
    have HB9 : Hid (Below w.heap.size w w9) := Lib.hid (Bel_next HB8.out hs)
    have z9 : w8.heap.size ≤ w9.heap.size := hs.size
    replace X_xs := Lib.hid (Row.below X_xs.out hs)
    replace X_ys := Lib.hid (Row.below X_ys.out hs)
    have Y_ys := Lib.hid (Row.wide row (lo' := w8.heap.size) (by first | exact Nat.le_refl _ | (simp; done) | (simp; omega)) (Nat.le_refl _))
    clear row
    clear hb hs HB8
    go_wp2_with fail
    refine (eqInt64S_same ys _ rfl _ _ _ _ _ (by exact (Row.below X_ys.out (by repeat (first | exact Below.refl _ _ | refine Below.drew ?_ | refine Bel_drewN ?_ _ | refine Below.alloc ?_ (by first | omega | (simp; done) | (simp; omega)) _ | refine Below.setCell ?_ (by first | omega | simp) _))).holds) (by exact (Row.below Y_ys.out (by repeat (first | exact Below.refl _ _ | refine Below.drew ?_ | refine Bel_drewN ?_ _ | refine Below.alloc ?_ (by first | omega | (simp; done) | (simp; omega)) _ | refine Below.setCell ?_ (by first | omega | simp) _))).holds) (by omega)).mono ?_
    rintro e w10 ⟨rfl, hb⟩
    have hs : Below w9.heap.size w9 w10 := Bel_next (by repeat (first | exact Below.refl _ _ | refine Below.drew ?_ | refine Bel_drewN ?_ _ | refine Below.alloc ?_ (by first | omega | (simp; done) | (simp; omega)) _ | refine Below.setCell ?_ (by first | omega | simp) _)) hb
    have HB10 : Hid (Below w.heap.size w w10) := Lib.hid (Bel_next HB9.out hs)
    have z10 : w9.heap.size ≤ w10.heap.size := hs.size
    replace X_xs := Lib.hid (Row.below X_xs.out hs)
    replace X_ys := Lib.hid (Row.below X_ys.out hs)
    replace Y_ys := Lib.hid (Row.below Y_ys.out hs)
    clear hb hs HB9
    clear Y_ys
    go_wp2_with fail
    go_ret
    exact ⟨rfl, Bel_next HB10.out (by repeat (first | exact Below.refl _ _ | refine Below.drew ?_ | refine Bel_drewN ?_ _ | refine Below.alloc ?_ (by first | omega | (simp; done) | (simp; omega)) _ | refine Below.setCell ?_ (by first | omega | simp) _))⟩
  have HV := Lib.hid hv0
  clear hv0
  go_enter Try.func5, Try.ntmps5
  go_wp2_with fail
  refine (toInt64S_any xs _ _ _ (by exact Holds.below HX_xs.out (by repeat (first | exact Below.refl _ _ | refine Below.drew ?_ | refine Bel_drewN ?_ _ | refine Below.alloc ?_ (by first | omega | (simp; done) | (simp; omega)) _ | refine Below.setCell ?_ (by first | omega | simp) _))) hn0).mono ?_
  rintro e w1 ⟨_, rfl, row, hb⟩
  have hs : Below w.heap.size w w1 := Bel_next (by repeat (first | exact Below.refl _ _ | refine Below.drew ?_ | refine Bel_drewN ?_ _ | refine Below.alloc ?_ (by first | omega | (simp; done) | (simp; omega)) _ | refine Below.setCell ?_ (by first | omega | simp) _)) hb
  have HB1 : Hid (Below w.heap.size w w1) := Lib.hid hs
  have z1 : w.heap.size ≤ w1.heap.size := hs.size
  have Ra_xs := Lib.hid (Row.wide row (lo' := w.heap.size) (by first | exact Nat.le_refl _ | (simp; done) | (simp; omega)) (Nat.le_refl _))
  clear row
  clear hb hs
  go_wp2_with fail
  refine (toInt64S_any ys _ _ _ (by exact Holds.below HX_ys.out (Bel_next HB1.out (by repeat (first | exact Below.refl _ _ | refine Below.drew ?_ | refine Bel_drewN ?_ _ | refine Below.alloc ?_ (by first | omega | (simp; done) | (simp; omega)) _ | refine Below.setCell ?_ (by first | omega | simp) _)))) hn1).mono ?_
  rintro e w2 ⟨_, rfl, row, hb⟩
  have hs : Below w1.heap.size w1 w2 := Bel_next (by repeat (first | exact Below.refl _ _ | refine Below.drew ?_ | refine Bel_drewN ?_ _ | refine Below.alloc ?_ (by first | omega | (simp; done) | (simp; omega)) _ | refine Below.setCell ?_ (by first | omega | simp) _)) hb
  have HB2 : Hid (Below w.heap.size w w2) := Lib.hid (Bel_next HB1.out hs)
  have z2 : w1.heap.size ≤ w2.heap.size := hs.size
  replace Ra_xs := Lib.hid (Row.below Ra_xs.out hs)
  have Ra_ys := Lib.hid (Row.wide row (lo' := w1.heap.size) (by first | exact Nat.le_refl _ | (simp; done) | (simp; omega)) (Nat.le_refl _))
  clear row
  clear hb hs HB1
  go_wp2_with fail
  refine (specSumTail_no xs ys _ _ _ _ _ HV.out (by exact (Row.below Ra_xs.out (by repeat (first | exact Below.refl _ _ | refine Below.drew ?_ | refine Bel_drewN ?_ _ | refine Below.alloc ?_ (by first | omega | (simp; done) | (simp; omega)) _ | refine Below.setCell ?_ (by first | omega | simp) _))).holds) (by exact (Row.below Ra_ys.out (by repeat (first | exact Below.refl _ _ | refine Below.drew ?_ | refine Bel_drewN ?_ _ | refine Below.alloc ?_ (by first | omega | (simp; done) | (simp; omega)) _ | refine Below.setCell ?_ (by first | omega | simp) _))).holds) hn0 hn1).mono ?_
  rintro e w3 ⟨rfl, hb⟩
  have hs : Below w2.heap.size w2 w3 := Bel_next (by repeat (first | exact Below.refl _ _ | refine Below.drew ?_ | refine Bel_drewN ?_ _ | refine Below.alloc ?_ (by first | omega | (simp; done) | (simp; omega)) _ | refine Below.setCell ?_ (by first | omega | simp) _)) hb
  have HB3 : Hid (Below w.heap.size w w3) := Lib.hid (Bel_next HB2.out hs)
  have z3 : w2.heap.size ≤ w3.heap.size := hs.size
  replace Ra_xs := Lib.hid (Row.below Ra_xs.out hs)
  replace Ra_ys := Lib.hid (Row.below Ra_ys.out hs)
  clear hb hs HB2
  clear Ra_xs
  clear Ra_ys
  go_wp2_with fail
  refine (toInt64S_any xs _ _ _ (by exact Holds.below HX_xs.out (Bel_next HB3.out (by repeat (first | exact Below.refl _ _ | refine Below.drew ?_ | refine Bel_drewN ?_ _ | refine Below.alloc ?_ (by first | omega | (simp; done) | (simp; omega)) _ | refine Below.setCell ?_ (by first | omega | simp) _)))) hn0).mono ?_
  rintro e w4 ⟨_, rfl, row, hb⟩
  have hs : Below w3.heap.size w3 w4 := Bel_next (by repeat (first | exact Below.refl _ _ | refine Below.drew ?_ | refine Bel_drewN ?_ _ | refine Below.alloc ?_ (by first | omega | (simp; done) | (simp; omega)) _ | refine Below.setCell ?_ (by first | omega | simp) _)) hb
  have HB4 : Hid (Below w.heap.size w w4) := Lib.hid (Bel_next HB3.out hs)
  have z4 : w3.heap.size ≤ w4.heap.size := hs.size
  have X_xs := Lib.hid (Row.wide row (lo' := w3.heap.size) (by first | exact Nat.le_refl _ | (simp; done) | (simp; omega)) (Nat.le_refl _))
  clear row
  clear hb hs HB3
  go_wp2_with fail
  refine (toInt64S_any ys _ _ _ (by exact Holds.below HX_ys.out (Bel_next HB4.out (by repeat (first | exact Below.refl _ _ | refine Below.drew ?_ | refine Bel_drewN ?_ _ | refine Below.alloc ?_ (by first | omega | (simp; done) | (simp; omega)) _ | refine Below.setCell ?_ (by first | omega | simp) _)))) hn1).mono ?_
  rintro e w5 ⟨_, rfl, row, hb⟩
  have hs : Below w4.heap.size w4 w5 := Bel_next (by repeat (first | exact Below.refl _ _ | refine Below.drew ?_ | refine Bel_drewN ?_ _ | refine Below.alloc ?_ (by first | omega | (simp; done) | (simp; omega)) _ | refine Below.setCell ?_ (by first | omega | simp) _)) hb
  have HB5 : Hid (Below w.heap.size w w5) := Lib.hid (Bel_next HB4.out hs)
  have z5 : w4.heap.size ≤ w5.heap.size := hs.size
  replace X_xs := Lib.hid (Row.below X_xs.out hs)
  have X_ys := Lib.hid (Row.wide row (lo' := w4.heap.size) (by first | exact Nat.le_refl _ | (simp; done) | (simp; omega)) (Nat.le_refl _))
  clear row
  clear hb hs HB4
  go_wp2_with fail
  refine (implSumTail_no xs ys _ _ _ _ _ HV.out (by exact (Row.below X_xs.out (by repeat (first | exact Below.refl _ _ | refine Below.drew ?_ | refine Bel_drewN ?_ _ | refine Below.alloc ?_ (by first | omega | (simp; done) | (simp; omega)) _ | refine Below.setCell ?_ (by first | omega | simp) _))).holds) (by exact (Row.below X_ys.out (by repeat (first | exact Below.refl _ _ | refine Below.drew ?_ | refine Bel_drewN ?_ _ | refine Below.alloc ?_ (by first | omega | (simp; done) | (simp; omega)) _ | refine Below.setCell ?_ (by first | omega | simp) _))).holds) hn0 hn1).mono ?_
  rintro e w6 ⟨rfl, hb⟩
  have hs : Below w5.heap.size w5 w6 := Bel_next (by repeat (first | exact Below.refl _ _ | refine Below.drew ?_ | refine Bel_drewN ?_ _ | refine Below.alloc ?_ (by first | omega | (simp; done) | (simp; omega)) _ | refine Below.setCell ?_ (by first | omega | simp) _)) hb
  have HB6 : Hid (Below w.heap.size w w6) := Lib.hid (Bel_next HB5.out hs)
  have z6 : w5.heap.size ≤ w6.heap.size := hs.size
  replace X_xs := Lib.hid (Row.below X_xs.out hs)
  replace X_ys := Lib.hid (Row.below X_ys.out hs)
  clear hb hs HB5
  go_wp2_with fail
  refine (toInt64S_any xs _ _ _ (by exact Holds.below HX_xs.out (Bel_next HB6.out (by repeat (first | exact Below.refl _ _ | refine Below.drew ?_ | refine Bel_drewN ?_ _ | refine Below.alloc ?_ (by first | omega | (simp; done) | (simp; omega)) _ | refine Below.setCell ?_ (by first | omega | simp) _)))) hn0).mono ?_
  rintro e w7 ⟨_, rfl, row, hb⟩
  have hs : Below w6.heap.size w6 w7 := Bel_next (by repeat (first | exact Below.refl _ _ | refine Below.drew ?_ | refine Bel_drewN ?_ _ | refine Below.alloc ?_ (by first | omega | (simp; done) | (simp; omega)) _ | refine Below.setCell ?_ (by first | omega | simp) _)) hb
  have HB7 : Hid (Below w.heap.size w w7) := Lib.hid (Bel_next HB6.out hs)
  have z7 : w6.heap.size ≤ w7.heap.size := hs.size
  replace X_xs := Lib.hid (Row.below X_xs.out hs)
  replace X_ys := Lib.hid (Row.below X_ys.out hs)
  have Y_xs := Lib.hid (Row.wide row (lo' := w6.heap.size) (by first | exact Nat.le_refl _ | (simp; done) | (simp; omega)) (Nat.le_refl _))
  clear row
  clear hb hs HB6
  go_wp2_with fail
  refine (eqInt64S_same xs _ rfl _ _ _ _ _ (by exact (Row.below X_xs.out (by repeat (first | exact Below.refl _ _ | refine Below.drew ?_ | refine Bel_drewN ?_ _ | refine Below.alloc ?_ (by first | omega | (simp; done) | (simp; omega)) _ | refine Below.setCell ?_ (by first | omega | simp) _))).holds) (by exact (Row.below Y_xs.out (by repeat (first | exact Below.refl _ _ | refine Below.drew ?_ | refine Bel_drewN ?_ _ | refine Below.alloc ?_ (by first | omega | (simp; done) | (simp; omega)) _ | refine Below.setCell ?_ (by first | omega | simp) _))).holds) (by omega)).mono ?_
  rintro e w8 ⟨rfl, hb⟩
  have hs : Below w7.heap.size w7 w8 := Bel_next (by repeat (first | exact Below.refl _ _ | refine Below.drew ?_ | refine Bel_drewN ?_ _ | refine Below.alloc ?_ (by first | omega | (simp; done) | (simp; omega)) _ | refine Below.setCell ?_ (by first | omega | simp) _)) hb
  have HB8 : Hid (Below w.heap.size w w8) := Lib.hid (Bel_next HB7.out hs)
  have z8 : w7.heap.size ≤ w8.heap.size := hs.size
  replace X_xs := Lib.hid (Row.below X_xs.out hs)
  replace X_ys := Lib.hid (Row.below X_ys.out hs)
  replace Y_xs := Lib.hid (Row.below Y_xs.out hs)
  clear hb hs HB7
  clear Y_xs
  go_wp2_with fail
  refine (toInt64S_any ys _ _ _ (by exact Holds.below HX_ys.out (Bel_next HB8.out (by repeat (first | exact Below.refl _ _ | refine Below.drew ?_ | refine Bel_drewN ?_ _ | refine Below.alloc ?_ (by first | omega | (simp; done) | (simp; omega)) _ | refine Below.setCell ?_ (by first | omega | simp) _)))) hn1).mono ?_
  rintro e w9 ⟨_, rfl, row, hb⟩
  have hs : Below w8.heap.size w8 w9 := Bel_next (by repeat (first | exact Below.refl _ _ | refine Below.drew ?_ | refine Bel_drewN ?_ _ | refine Below.alloc ?_ (by first | omega | (simp; done) | (simp; omega)) _ | refine Below.setCell ?_ (by first | omega | simp) _)) hb
  have HB9 : Hid (Below w.heap.size w w9) := Lib.hid (Bel_next HB8.out hs)
  have z9 : w8.heap.size ≤ w9.heap.size := hs.size
  replace X_xs := Lib.hid (Row.below X_xs.out hs)
  replace X_ys := Lib.hid (Row.below X_ys.out hs)
  have Y_ys := Lib.hid (Row.wide row (lo' := w8.heap.size) (by first | exact Nat.le_refl _ | (simp; done) | (simp; omega)) (Nat.le_refl _))
  clear row
  clear hb hs HB8
  go_wp2_with fail
  refine (eqInt64S_same ys _ rfl _ _ _ _ _ (by exact (Row.below X_ys.out (by repeat (first | exact Below.refl _ _ | refine Below.drew ?_ | refine Bel_drewN ?_ _ | refine Below.alloc ?_ (by first | omega | (simp; done) | (simp; omega)) _ | refine Below.setCell ?_ (by first | omega | simp) _))).holds) (by exact (Row.below Y_ys.out (by repeat (first | exact Below.refl _ _ | refine Below.drew ?_ | refine Bel_drewN ?_ _ | refine Below.alloc ?_ (by first | omega | (simp; done) | (simp; omega)) _ | refine Below.setCell ?_ (by first | omega | simp) _))).holds) (by omega)).mono ?_
  rintro e w10 ⟨rfl, hb⟩
  have hs : Below w9.heap.size w9 w10 := Bel_next (by repeat (first | exact Below.refl _ _ | refine Below.drew ?_ | refine Bel_drewN ?_ _ | refine Below.alloc ?_ (by first | omega | (simp; done) | (simp; omega)) _ | refine Below.setCell ?_ (by first | omega | simp) _)) hb
  have HB10 : Hid (Below w.heap.size w w10) := Lib.hid (Bel_next HB9.out hs)
  have z10 : w9.heap.size ≤ w10.heap.size := hs.size
  replace X_xs := Lib.hid (Row.below X_xs.out hs)
  replace X_ys := Lib.hid (Row.below X_ys.out hs)
  replace Y_ys := Lib.hid (Row.below Y_ys.out hs)
  clear hb hs HB9
  clear Y_ys
  go_wp2_with fail
  go_ret
  exact ⟨rfl, Bel_next HB10.out (by repeat (first | exact Below.refl _ _ | refine Below.drew ?_ | refine Bel_drewN ?_ _ | refine Below.alloc ?_ (by first | omega | (simp; done) | (simp; omega)) _ | refine Below.setCell ?_ (by first | omega | simp) _))⟩
end Go.Proofs.Ytbjcomjokkhaeaa
