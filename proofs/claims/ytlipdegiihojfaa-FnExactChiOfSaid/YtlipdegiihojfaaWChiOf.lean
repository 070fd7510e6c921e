/- The walk of the law FnExactChiOf. -/
import Derived.Test.YtlipdegiihojfaaCh
namespace Go.Proofs.Ytlipdegiihojfaa
open Go Go.RowKit Fl
set_option linter.unusedVariables false

set_option maxRecDepth 100000 in
set_option maxHeartbeats 800000 in
theorem FnExactChiOf_walk (cs : List Int) (ao_cs : Option Addr) (c_cs : Nat) (h_cs : ∀ x ∈ cs, -9223372036854775808 ≤ x ∧ x ≤ 9223372036854775807) (xs : List Nat) (ao_xs : Option Addr) (c_xs : Nat) (w : World) (hx_cs : Holds w ao_cs (il cs)) (hx_xs : Holds w ao_xs (fl .f32 xs)) :
    Calls Try.prog 12 #[.slice ao_cs cs.length c_cs, .slice ao_xs xs.length c_xs] w fun e w' => e = .returned (.bool true) ∧ Below w.heap.size w w' := by
  by_cases hl0 : 1048576 < cs.length
  · have hl : (1048576 : Int) < (cs.length : Int) := by omega
    clear hl0
    go_enter Try.func12, Try.ntmps12
    go_wp2
    go_ret
    exact ⟨rfl, by repeat (first | exact Below.refl _ _ | refine Below.drew ?_ | refine Bel_drewN ?_ _ | refine Below.alloc ?_ (by first | omega | (simp; done) | (simp; omega)) _ | refine Below.setCell ?_ (by first | omega | simp) _)⟩
  have hs0 : (cs.length : Int) ≤ 1048576 := by omega
  have hn0 : cs.length ≤ 1048576 := by omega
  clear hl0
  by_cases hl1 : 1048576 < xs.length
  · have hl : (1048576 : Int) < (xs.length : Int) := by omega
    clear hl1
    go_enter Try.func12, Try.ntmps12
    go_wp2
    go_ret
    exact ⟨rfl, by repeat (first | exact Below.refl _ _ | refine Below.drew ?_ | refine Bel_drewN ?_ _ | refine Below.alloc ?_ (by first | omega | (simp; done) | (simp; omega)) _ | refine Below.setCell ?_ (by first | omega | simp) _)⟩
  have hs1 : (xs.length : Int) ≤ 1048576 := by omega
  have hn1 : xs.length ≤ 1048576 := by omega
  clear hl1
  have HX_cs := Lib.hid hx_cs
  clear hx_cs
  have HX_xs := Lib.hid hx_xs
  clear hx_xs
  by_cases hv0 : chiC cs xs
  · have HV := Lib.hid hv0
    clear hv0
    go_enter Try.func12, Try.ntmps12
    go_wp2_with fail
    refine (toInt64S_any cs _ _ _ (by exact Holds.below HX_cs.out (by repeat (first | exact Below.refl _ _ | refine Below.drew ?_ | refine Bel_drewN ?_ _ | refine Below.alloc ?_ (by first | omega | (simp; done) | (simp; omega)) _ | refine Below.setCell ?_ (by first | omega | simp) _))) hn0).mono ?_
    rintro e w1 ⟨_, rfl, row, hb⟩
    have hs : Below w.heap.size w w1 := Bel_next (by repeat (first | exact Below.refl _ _ | refine Below.drew ?_ | refine Bel_drewN ?_ _ | refine Below.alloc ?_ (by first | omega | (simp; done) | (simp; omega)) _ | refine Below.setCell ?_ (by first | omega | simp) _)) hb
    have HB1 : Hid (Below w.heap.size w w1) := Lib.hid hs
    have z1 : w.heap.size ≤ w1.heap.size := hs.size
    have Ra_cs := Lib.hid (Row.wide row (lo' := w.heap.size) (by first | exact Nat.le_refl _ | (simp; done) | (simp; omega)) (Nat.le_refl _))
    clear row
    clear hb hs
    go_wp2_with fail
    refine (toFloat32S_row xs _ _ _ (by exact Holds.below HX_xs.out (Bel_next HB1.out (by repeat (first | exact Below.refl _ _ | refine Below.drew ?_ | refine Bel_drewN ?_ _ | refine Below.alloc ?_ (by first | omega | (simp; done) | (simp; omega)) _ | refine Below.setCell ?_ (by first | omega | simp) _)))) hn1).mono ?_
    rintro e w2 ⟨_, rfl, row, hb⟩
    have hs : Below w1.heap.size w1 w2 := Bel_next (by repeat (first | exact Below.refl _ _ | refine Below.drew ?_ | refine Bel_drewN ?_ _ | refine Below.alloc ?_ (by first | omega | (simp; done) | (simp; omega)) _ | refine Below.setCell ?_ (by first | omega | simp) _)) hb
    have HB2 : Hid (Below w.heap.size w w2) := Lib.hid (Bel_next HB1.out hs)
    have z2 : w1.heap.size ≤ w2.heap.size := hs.size
    replace Ra_cs := Lib.hid (Row.below Ra_cs.out hs)
    have Ra_xs := Lib.hid (Row.wide row (lo' := w1.heap.size) (by first | exact Nat.le_refl _ | (simp; done) | (simp; omega)) (Nat.le_refl _))
    clear row
    clear hb hs HB1
    go_wp2_with fail
    refine ((specChi_any cs xs _ _ _ _ _ (by exact (Row.below Ra_cs.out (by repeat (first | exact Below.refl _ _ | refine Below.drew ?_ | refine Bel_drewN ?_ _ | refine Below.alloc ?_ (by first | omega | (simp; done) | (simp; omega)) _ | refine Below.setCell ?_ (by first | omega | simp) _))).holds) (by exact (Row.below Ra_xs.out (by repeat (first | exact Below.refl _ _ | refine Below.drew ?_ | refine Bel_drewN ?_ _ | refine Below.alloc ?_ (by first | omega | (simp; done) | (simp; omega)) _ | refine Below.setCell ?_ (by first | omega | simp) _))).holds) hn0 hn1).mono fun e w1 h => ChiP.out1 HV.out h).mono ?_
    rintro e w3 ⟨rs, rfl, hrs, hb⟩
    have hs : Below w2.heap.size w2 w3 := Bel_next (by repeat (first | exact Below.refl _ _ | refine Below.drew ?_ | refine Bel_drewN ?_ _ | refine Below.alloc ?_ (by first | omega | (simp; done) | (simp; omega)) _ | refine Below.setCell ?_ (by first | omega | simp) _)) hb
    have HB3 : Hid (Below w.heap.size w w3) := Lib.hid (Bel_next HB2.out hs)
    have z3 : w2.heap.size ≤ w3.heap.size := hs.size
    replace Ra_cs := Lib.hid (Row.below Ra_cs.out hs)
    replace Ra_xs := Lib.hid (Row.below Ra_xs.out hs)
    clear hb hs HB2
    have HRs := Lib.hid hrs
    clear hrs
    clear Ra_cs
    clear Ra_xs
    go_wp2_with fail
    refine (toInt64S_any cs _ _ _ (by exact Holds.below HX_cs.out (Bel_next HB3.out (by repeat (first | exact Below.refl _ _ | refine Below.drew ?_ | refine Bel_drewN ?_ _ | refine Below.alloc ?_ (by first | omega | (simp; done) | (simp; omega)) _ | refine Below.setCell ?_ (by first | omega | simp) _)))) hn0).mono ?_
    rintro e w4 ⟨_, rfl, row, hb⟩
    have hs : Below w3.heap.size w3 w4 := Bel_next (by repeat (first | exact Below.refl _ _ | refine Below.drew ?_ | refine Bel_drewN ?_ _ | refine Below.alloc ?_ (by first | omega | (simp; done) | (simp; omega)) _ | refine Below.setCell ?_ (by first | omega | simp) _)) hb
    have HB4 : Hid (Below w.heap.size w w4) := Lib.hid (Bel_next HB3.out hs)
    have z4 : w3.heap.size ≤ w4.heap.size := hs.size
    have X_cs := Lib.hid (Row.wide row (lo' := w3.heap.size) (by first | exact Nat.le_refl _ | (simp; done) | (simp; omega)) (Nat.le_refl _))
    clear row
    clear hb hs HB3
    go_wp2_with fail
    refine (toFloat32S_row xs _ _ _ (by exact Holds.below HX_xs.out (Bel_next HB4.out (by repeat (first | exact Below.refl _ _ | refine Below.drew ?_ | refine Bel_drewN ?_ _ | refine Below.alloc ?_ (by first | omega | (simp; done) | (simp; omega)) _ | refine Below.setCell ?_ (by first | omega | simp) _)))) hn1).mono ?_
    rintro e w5 ⟨_, rfl, row, hb⟩
    have hs : Below w4.heap.size w4 w5 := Bel_next (by repeat (first | exact Below.refl _ _ | refine Below.drew ?_ | refine Bel_drewN ?_ _ | refine Below.alloc ?_ (by first | omega | (simp; done) | (simp; omega)) _ | refine Below.setCell ?_ (by first | omega | simp) _)) hb
    have HB5 : Hid (Below w.heap.size w w5) := Lib.hid (Bel_next HB4.out hs)
    have z5 : w4.heap.size ≤ w5.heap.size := hs.size
    replace X_cs := Lib.hid (Row.below X_cs.out hs)
    have X_xs := Lib.hid (Row.wide row (lo' := w4.heap.size) (by first | exact Nat.le_refl _ | (simp; done) | (simp; omega)) (Nat.le_refl _))
    clear row
    clear hb hs HB4
    go_wp2_with fail
    refine ((implChi_any cs xs _ _ _ _ _ (by exact (Row.below X_cs.out (by repeat (first | exact Below.refl _ _ | refine Below.drew ?_ | refine Bel_drewN ?_ _ | refine Below.alloc ?_ (by first | omega | (simp; done) | (simp; omega)) _ | refine Below.setCell ?_ (by first | omega | simp) _))).holds) (by exact (Row.below X_xs.out (by repeat (first | exact Below.refl _ _ | refine Below.drew ?_ | refine Bel_drewN ?_ _ | refine Below.alloc ?_ (by first | omega | (simp; done) | (simp; omega)) _ | refine Below.setCell ?_ (by first | omega | simp) _))).holds) hn0 hn1).mono fun e w1 h => ChiP.out1 HV.out h).mono ?_
    rintro e w6 ⟨rg, rfl, hrg, hb⟩
    have hs : Below w5.heap.size w5 w6 := Bel_next (by repeat (first | exact Below.refl _ _ | refine Below.drew ?_ | refine Bel_drewN ?_ _ | refine Below.alloc ?_ (by first | omega | (simp; done) | (simp; omega)) _ | refine Below.setCell ?_ (by first | omega | simp) _)) hb
    have HB6 : Hid (Below w.heap.size w w6) := Lib.hid (Bel_next HB5.out hs)
    have z6 : w5.heap.size ≤ w6.heap.size := hs.size
    replace X_cs := Lib.hid (Row.below X_cs.out hs)
    replace X_xs := Lib.hid (Row.below X_xs.out hs)
    clear hb hs HB5
    have HRg := Lib.hid hrg
    clear hrg
    go_wp2_with (first | (refine wpList_widen_g _ _ _ _ rfl Try.underlying25 Try.underlying61 rfl ?_; intro r n hr) | (go_at_call 46; fail))
    refine (sameFloat_any _ _ (widen (chiV cs xs (floatOfInt .f32 (cntS cs cs.length)) cs.length)) (by rw [← HRg.out.2]; assumption) (by rw [← HRs.out.2]; assumption) _).mono ?_
    rintro e w' ⟨n3, rfl, rfl⟩
    go_wp2_with fail
    refine (toInt64S_any cs _ _ _ (by exact Holds.below HX_cs.out (Bel_next HB6.out (by repeat (first | exact Below.refl _ _ | refine Below.drew ?_ | refine Bel_drewN ?_ _ | refine Below.alloc ?_ (by first | omega | (simp; done) | (simp; omega)) _ | refine Below.setCell ?_ (by first | omega | simp) _)))) hn0).mono ?_
    rintro e w7 ⟨_, rfl, row, hb⟩
    have hs : Below w6.heap.size w6 w7 := Bel_next (by repeat (first | exact Below.refl _ _ | refine Below.drew ?_ | refine Bel_drewN ?_ _ | refine Below.alloc ?_ (by first | omega | (simp; done) | (simp; omega)) _ | refine Below.setCell ?_ (by first | omega | simp) _)) hb
    have HB7 : Hid (Below w.heap.size w w7) := Lib.hid (Bel_next HB6.out hs)
    have z7 : w6.heap.size ≤ w7.heap.size := hs.size
    replace X_cs := Lib.hid (Row.below X_cs.out hs)
    replace X_xs := Lib.hid (Row.below X_xs.out hs)
    have Y_cs := Lib.hid (Row.wide row (lo' := w6.heap.size) (by first | exact Nat.le_refl _ | (simp; done) | (simp; omega)) (Nat.le_refl _))
    clear row
    clear hb hs HB6
    go_wp2_with fail
    refine (eqInt64S_same cs _ rfl _ _ _ _ _ (by exact (Row.below X_cs.out (by repeat (first | exact Below.refl _ _ | refine Below.drew ?_ | refine Bel_drewN ?_ _ | refine Below.alloc ?_ (by first | omega | (simp; done) | (simp; omega)) _ | refine Below.setCell ?_ (by first | omega | simp) _))).holds) (by exact (Row.below Y_cs.out (by repeat (first | exact Below.refl _ _ | refine Below.drew ?_ | refine Bel_drewN ?_ _ | refine Below.alloc ?_ (by first | omega | (simp; done) | (simp; omega)) _ | refine Below.setCell ?_ (by first | omega | simp) _))).holds) (by omega)).mono ?_
    rintro e w8 ⟨rfl, hb⟩
    have hs : Below w7.heap.size w7 w8 := Bel_next (by repeat (first | exact Below.refl _ _ | refine Below.drew ?_ | refine Bel_drewN ?_ _ | refine Below.alloc ?_ (by first | omega | (simp; done) | (simp; omega)) _ | refine Below.setCell ?_ (by first | omega | simp) _)) hb
    have HB8 : Hid (Below w.heap.size w w8) := Lib.hid (Bel_next HB7.out hs)
    have z8 : w7.heap.size ≤ w8.heap.size := hs.size
    replace X_cs := Lib.hid (Row.below X_cs.out hs)
    replace X_xs := Lib.hid (Row.below X_xs.out hs)
    replace Y_cs := Lib.hid (Row.below Y_cs.out hs)
    clear hb hs HB7
    clear Y_cs
    go_wp2_with fail
    refine (toFloat32S_row xs _ _ _ (by exact Holds.below HX_xs.out (Bel_next HB8.out (by repeat (first | exact Below.refl _ _ | refine Below.drew ?_ | refine Bel_drewN ?_ _ | refine Below.alloc ?_ (by first | omega | (simp; done) | (simp; omega)) _ | refine Below.setCell ?_ (by first | omega | simp) _)))) hn1).mono ?_
    rintro e w9 ⟨_, rfl, row, hb⟩
    have hs : Below w8.heap.size w8 w9 := Bel_next (by repeat (first | exact Below.refl _ _ | refine Below.drew ?_ | refine Bel_drewN ?_ _ | refine Below.alloc ?_ (by first | omega | (simp; done) | (simp; omega)) _ | refine Below.setCell ?_ (by first | omega | simp) _)) hb
    have HB9 : Hid (Below w.heap.size w w9) := Lib.hid (Bel_next HB8.out hs)
    have z9 : w8.heap.size ≤ w9.heap.size := hs.size
    replace X_cs := Lib.hid (Row.below X_cs.out hs)
    replace X_xs := Lib.hid (Row.below X_xs.out hs)
    have Y_xs := Lib.hid (Row.wide row (lo' := w8.heap.size) (by first | exact Nat.le_refl _ | (simp; done) | (simp; omega)) (Nat.le_refl _))
    clear row
    clear hb hs HB8
    go_wp2_with fail
    refine (eqFloat32S_same xs _ rfl _ _ _ _ _ (by exact (Row.below X_xs.out (by repeat (first | exact Below.refl _ _ | refine Below.drew ?_ | refine Bel_drewN ?_ _ | refine Below.alloc ?_ (by first | omega | (simp; done) | (simp; omega)) _ | refine Below.setCell ?_ (by first | omega | simp) _))).holds) (by exact (Row.below Y_xs.out (by repeat (first | exact Below.refl _ _ | refine Below.drew ?_ | refine Bel_drewN ?_ _ | refine Below.alloc ?_ (by first | omega | (simp; done) | (simp; omega)) _ | refine Below.setCell ?_ (by first | omega | simp) _))).holds) (by omega)).mono ?_
    rintro e w10 ⟨rfl, hb⟩
    have hs : Below w9.heap.size w9 w10 := Bel_next (by repeat (first | exact Below.refl _ _ | refine Below.drew ?_ | refine Bel_drewN ?_ _ | refine Below.alloc ?_ (by first | omega | (simp; done) | (simp; omega)) _ | refine Below.setCell ?_ (by first | omega | simp) _)) hb
    have HB10 : Hid (Below w.heap.size w w10) := Lib.hid (Bel_next HB9.out hs)
    have z10 : w9.heap.size ≤ w10.heap.size := hs.size
    replace X_cs := Lib.hid (Row.below X_cs.out hs)
    replace X_xs := Lib.hid (Row.below X_xs.out hs)
    replace Y_xs := Lib.hid (Row.below Y_xs.out hs)
    clear hb hs HB9
    clear Y_xs
    go_wp2_with fail
    go_ret
    exact ⟨rfl, Bel_next HB10.out (by repeat (first | exact Below.refl _ _ | refine Below.drew ?_ | refine Bel_drewN ?_ _ | refine Below.alloc ?_ (by first | omega | (simp; done) | (simp; omega)) _ | refine Below.setCell ?_ (by first | omega | simp) _))⟩
  have HV := Lib.hid hv0
  clear hv0
  go_enter Try.func12, Try.ntmps12
  go_wp2_with fail
  refine (toInt64S_any cs _ _ _ (by exact Holds.below HX_cs.out (by repeat (first | exact Below.refl _ _ | refine Below.drew ?_ | refine Bel_drewN ?_ _ | refine Below.alloc ?_ (by first | omega | (simp; done) | (simp; omega)) _ | refine Below.setCell ?_ (by first | omega | simp) _))) hn0).mono ?_
  rintro e w1 ⟨_, rfl, row, hb⟩
  have hs : Below w.heap.size w w1 := Bel_next (by repeat (first | exact Below.refl _ _ | refine Below.drew ?_ | refine Bel_drewN ?_ _ | refine Below.alloc ?_ (by first | omega | (simp; done) | (simp; omega)) _ | refine Below.setCell ?_ (by first | omega | simp) _)) hb
  have HB1 : Hid (Below w.heap.size w w1) := Lib.hid hs
  have z1 : w.heap.size ≤ w1.heap.size := hs.size
  have Ra_cs := Lib.hid (Row.wide row (lo' := w.heap.size) (by first | exact Nat.le_refl _ | (simp; done) | (simp; omega)) (Nat.le_refl _))
  clear row
  clear hb hs
  go_wp2_with fail
  refine (toFloat32S_row xs _ _ _ (by exact Holds.below HX_xs.out (Bel_next HB1.out (by repeat (first | exact Below.refl _ _ | refine Below.drew ?_ | refine Bel_drewN ?_ _ | refine Below.alloc ?_ (by first | omega | (simp; done) | (simp; omega)) _ | refine Below.setCell ?_ (by first | omega | simp) _)))) hn1).mono ?_
  rintro e w2 ⟨_, rfl, row, hb⟩
  have hs : Below w1.heap.size w1 w2 := Bel_next (by repeat (first | exact Below.refl _ _ | refine Below.drew ?_ | refine Bel_drewN ?_ _ | refine Below.alloc ?_ (by first | omega | (simp; done) | (simp; omega)) _ | refine Below.setCell ?_ (by first | omega | simp) _)) hb
  have HB2 : Hid (Below w.heap.size w w2) := Lib.hid (Bel_next HB1.out hs)
  have z2 : w1.heap.size ≤ w2.heap.size := hs.size
  replace Ra_cs := Lib.hid (Row.below Ra_cs.out hs)
  have Ra_xs := Lib.hid (Row.wide row (lo' := w1.heap.size) (by first | exact Nat.le_refl _ | (simp; done) | (simp; omega)) (Nat.le_refl _))
  clear row
  clear hb hs HB1
  go_wp2_with fail
  refine ((specChi_any cs xs _ _ _ _ _ (by exact (Row.below Ra_cs.out (by repeat (first | exact Below.refl _ _ | refine Below.drew ?_ | refine Bel_drewN ?_ _ | refine Below.alloc ?_ (by first | omega | (simp; done) | (simp; omega)) _ | refine Below.setCell ?_ (by first | omega | simp) _))).holds) (by exact (Row.below Ra_xs.out (by repeat (first | exact Below.refl _ _ | refine Below.drew ?_ | refine Bel_drewN ?_ _ | refine Below.alloc ?_ (by first | omega | (simp; done) | (simp; omega)) _ | refine Below.setCell ?_ (by first | omega | simp) _))).holds) hn0 hn1).mono fun e w1 h => ChiP.out0 HV.out h).mono ?_
  rintro e w3 ⟨rs, rfl, hrs, hb⟩
  have hs : Below w2.heap.size w2 w3 := Bel_next (by repeat (first | exact Below.refl _ _ | refine Below.drew ?_ | refine Bel_drewN ?_ _ | refine Below.alloc ?_ (by first | omega | (simp; done) | (simp; omega)) _ | refine Below.setCell ?_ (by first | omega | simp) _)) hb
  have HB3 : Hid (Below w.heap.size w w3) := Lib.hid (Bel_next HB2.out hs)
  have z3 : w2.heap.size ≤ w3.heap.size := hs.size
  replace Ra_cs := Lib.hid (Row.below Ra_cs.out hs)
  replace Ra_xs := Lib.hid (Row.below Ra_xs.out hs)
  clear hb hs HB2
  have HRs := Lib.hid hrs
  clear hrs
  clear Ra_cs
  clear Ra_xs
  go_wp2_with fail
  refine (toInt64S_any cs _ _ _ (by exact Holds.below HX_cs.out (Bel_next HB3.out (by repeat (first | exact Below.refl _ _ | refine Below.drew ?_ | refine Bel_drewN ?_ _ | refine Below.alloc ?_ (by first | omega | (simp; done) | (simp; omega)) _ | refine Below.setCell ?_ (by first | omega | simp) _)))) hn0).mono ?_
  rintro e w4 ⟨_, rfl, row, hb⟩
  have hs : Below w3.heap.size w3 w4 := Bel_next (by repeat (first | exact Below.refl _ _ | refine Below.drew ?_ | refine Bel_drewN ?_ _ | refine Below.alloc ?_ (by first | omega | (simp; done) | (simp; omega)) _ | refine Below.setCell ?_ (by first | omega | simp) _)) hb
  have HB4 : Hid (Below w.heap.size w w4) := Lib.hid (Bel_next HB3.out hs)
  have z4 : w3.heap.size ≤ w4.heap.size := hs.size
  have X_cs := Lib.hid (Row.wide row (lo' := w3.heap.size) (by first | exact Nat.le_refl _ | (simp; done) | (simp; omega)) (Nat.le_refl _))
  clear row
  clear hb hs HB3
  go_wp2_with fail
  refine (toFloat32S_row xs _ _ _ (by exact Holds.below HX_xs.out (Bel_next HB4.out (by repeat (first | exact Below.refl _ _ | refine Below.drew ?_ | refine Bel_drewN ?_ _ | refine Below.alloc ?_ (by first | omega | (simp; done) | (simp; omega)) _ | refine Below.setCell ?_ (by first | omega | simp) _)))) hn1).mono ?_
  rintro e w5 ⟨_, rfl, row, hb⟩
  have hs : Below w4.heap.size w4 w5 := Bel_next (by repeat (first | exact Below.refl _ _ | refine Below.drew ?_ | refine Bel_drewN ?_ _ | refine Below.alloc ?_ (by first | omega | (simp; done) | (simp; omega)) _ | refine Below.setCell ?_ (by first | omega | simp) _)) hb
  have HB5 : Hid (Below w.heap.size w w5) := Lib.hid (Bel_next HB4.out hs)
  have z5 : w4.heap.size ≤ w5.heap.size := hs.size
  replace X_cs := Lib.hid (Row.below X_cs.out hs)
  have X_xs := Lib.hid (Row.wide row (lo' := w4.heap.size) (by first | exact Nat.le_refl _ | (simp; done) | (simp; omega)) (Nat.le_refl _))
  clear row
  clear hb hs HB4
  go_wp2_with fail
  refine ((implChi_any cs xs _ _ _ _ _ (by exact (Row.below X_cs.out (by repeat (first | exact Below.refl _ _ | refine Below.drew ?_ | refine Bel_drewN ?_ _ | refine Below.alloc ?_ (by first | omega | (simp; done) | (simp; omega)) _ | refine Below.setCell ?_ (by first | omega | simp) _))).holds) (by exact (Row.below X_xs.out (by repeat (first | exact Below.refl _ _ | refine Below.drew ?_ | refine Bel_drewN ?_ _ | refine Below.alloc ?_ (by first | omega | (simp; done) | (simp; omega)) _ | refine Below.setCell ?_ (by first | omega | simp) _))).holds) hn0 hn1).mono fun e w1 h => ChiP.out0 HV.out h).mono ?_
  rintro e w6 ⟨rg, rfl, hrg, hb⟩
  have hs : Below w5.heap.size w5 w6 := Bel_next (by repeat (first | exact Below.refl _ _ | refine Below.drew ?_ | refine Bel_drewN ?_ _ | refine Below.alloc ?_ (by first | omega | (simp; done) | (simp; omega)) _ | refine Below.setCell ?_ (by first | omega | simp) _)) hb
  have HB6 : Hid (Below w.heap.size w w6) := Lib.hid (Bel_next HB5.out hs)
  have z6 : w5.heap.size ≤ w6.heap.size := hs.size
  replace X_cs := Lib.hid (Row.below X_cs.out hs)
  replace X_xs := Lib.hid (Row.below X_xs.out hs)
  clear hb hs HB5
  have HRg := Lib.hid hrg
  clear hrg
  go_wp2_with (first | (refine wpList_widen_g _ _ _ _ rfl Try.underlying25 Try.underlying61 rfl ?_; intro r n hr) | (go_at_call 46; fail))
  refine (sameFloat_any _ _ (widen (av .f32 0)) (by rw [← HRg.out.2]; assumption) (by rw [← HRs.out.2]; assumption) _).mono ?_
  rintro e w' ⟨n3, rfl, rfl⟩
  go_wp2_with fail
  refine (toInt64S_any cs _ _ _ (by exact Holds.below HX_cs.out (Bel_next HB6.out (by repeat (first | exact Below.refl _ _ | refine Below.drew ?_ | refine Bel_drewN ?_ _ | refine Below.alloc ?_ (by first | omega | (simp; done) | (simp; omega)) _ | refine Below.setCell ?_ (by first | omega | simp) _)))) hn0).mono ?_
  rintro e w7 ⟨_, rfl, row, hb⟩
  have hs : Below w6.heap.size w6 w7 := Bel_next (by repeat (first | exact Below.refl _ _ | refine Below.drew ?_ | refine Bel_drewN ?_ _ | refine Below.alloc ?_ (by first | omega | (simp; done) | (simp; omega)) _ | refine Below.setCell ?_ (by first | omega | simp) _)) hb
  have HB7 : Hid (Below w.heap.size w w7) := Lib.hid (Bel_next HB6.out hs)
  have z7 : w6.heap.size ≤ w7.heap.size := hs.size
  replace X_cs := Lib.hid (Row.below X_cs.out hs)
  replace X_xs := Lib.hid (Row.below X_xs.out hs)
  have Y_cs := Lib.hid (Row.wide row (lo' := w6.heap.size) (by first | exact Nat.le_refl _ | (simp; done) | (simp; omega)) (Nat.le_refl _))
  clear row
  clear hb hs HB6
  go_wp2_with fail
  refine (eqInt64S_same cs _ rfl _ _ _ _ _ (by exact (Row.below X_cs.out (by repeat (first | exact Below.refl _ _ | refine Below.drew ?_ | refine Bel_drewN ?_ _ | refine Below.alloc ?_ (by first | omega | (simp; done) | (simp; omega)) _ | refine Below.setCell ?_ (by first | omega | simp) _))).holds) (by exact (Row.below Y_cs.out (by repeat (first | exact Below.refl _ _ | refine Below.drew ?_ | refine Bel_drewN ?_ _ | refine Below.alloc ?_ (by first | omega | (simp; done) | (simp; omega)) _ | refine Below.setCell ?_ (by first | omega | simp) _))).holds) (by omega)).mono ?_
  rintro e w8 ⟨rfl, hb⟩
  have hs : Below w7.heap.size w7 w8 := Bel_next (by repeat (first | exact Below.refl _ _ | refine Below.drew ?_ | refine Bel_drewN ?_ _ | refine Below.alloc ?_ (by first | omega | (simp; done) | (simp; omega)) _ | refine Below.setCell ?_ (by first | omega | simp) _)) hb
  have HB8 : Hid (Below w.heap.size w w8) := Lib.hid (Bel_next HB7.out hs)
  have z8 : w7.heap.size ≤ w8.heap.size := hs.size
  replace X_cs := Lib.hid (Row.below X_cs.out hs)
  replace X_xs := Lib.hid (Row.below X_xs.out hs)
  replace Y_cs := Lib.hid (Row.below Y_cs.out hs)
  clear hb hs HB7
  clear Y_cs
  go_wp2_with fail
  refine (toFloat32S_row xs _ _ _ (by exact Holds.below HX_xs.out (Bel_next HB8.out (by repeat (first | exact Below.refl _ _ | refine Below.drew ?_ | refine Bel_drewN ?_ _ | refine Below.alloc ?_ (by first | omega | (simp; done) | (simp; omega)) _ | refine Below.setCell ?_ (by first | omega | simp) _)))) hn1).mono ?_
  rintro e w9 ⟨_, rfl, row, hb⟩
  have hs : Below w8.heap.size w8 w9 := Bel_next (by repeat (first | exact Below.refl _ _ | refine Below.drew ?_ | refine Bel_drewN ?_ _ | refine Below.alloc ?_ (by first | omega | (simp; done) | (simp; omega)) _ | refine Below.setCell ?_ (by first | omega | simp) _)) hb
  have HB9 : Hid (Below w.heap.size w w9) := Lib.hid (Bel_next HB8.out hs)
  have z9 : w8.heap.size ≤ w9.heap.size := hs.size
  replace X_cs := Lib.hid (Row.below X_cs.out hs)
  replace X_xs := Lib.hid (Row.below X_xs.out hs)
  have Y_xs := Lib.hid (Row.wide row (lo' := w8.heap.size) (by first | exact Nat.le_refl _ | (simp; done) | (simp; omega)) (Nat.le_refl _))
  clear row
  clear hb hs HB8
  go_wp2_with fail
  refine (eqFloat32S_same xs _ rfl _ _ _ _ _ (by exact (Row.below X_xs.out (by repeat (first | exact Below.refl _ _ | refine Below.drew ?_ | refine Bel_drewN ?_ _ | refine Below.alloc ?_ (by first | omega | (simp; done) | (simp; omega)) _ | refine Below.setCell ?_ (by first | omega | simp) _))).holds) (by exact (Row.below Y_xs.out (by repeat (first | exact Below.refl _ _ | refine Below.drew ?_ | refine Bel_drewN ?_ _ | refine Below.alloc ?_ (by first | omega | (simp; done) | (simp; omega)) _ | refine Below.setCell ?_ (by first | omega | simp) _))).holds) (by omega)).mono ?_
  rintro e w10 ⟨rfl, hb⟩
  have hs : Below w9.heap.size w9 w10 := Bel_next (by repeat (first | exact Below.refl _ _ | refine Below.drew ?_ | refine Bel_drewN ?_ _ | refine Below.alloc ?_ (by first | omega | (simp; done) | (simp; omega)) _ | refine Below.setCell ?_ (by first | omega | simp) _)) hb
  have HB10 : Hid (Below w.heap.size w w10) := Lib.hid (Bel_next HB9.out hs)
  have z10 : w9.heap.size ≤ w10.heap.size := hs.size
  replace X_cs := Lib.hid (Row.below X_cs.out hs)
  replace X_xs := Lib.hid (Row.below X_xs.out hs)
  replace Y_xs := Lib.hid (Row.below Y_xs.out hs)
  clear hb hs HB9
  clear Y_xs
  go_wp2_with fail
  go_ret
  exact ⟨rfl, Bel_next HB10.out (by repeat (first | exact Below.refl _ _ | refine Below.drew ?_ | refine Bel_drewN ?_ _ | refine Below.alloc ?_ (by first | omega | (simp; done) | (simp; omega)) _ | refine Below.setCell ?_ (by first | omega | simp) _))⟩
end Go.Proofs.Ytlipdegiihojfaa
