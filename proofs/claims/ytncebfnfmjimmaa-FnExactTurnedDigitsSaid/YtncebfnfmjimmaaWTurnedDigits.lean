/- The walk of the law FnExactTurnedDigits. -/
import Derived.Test.YtncebfnfmjimmaaTd
namespace Go.Proofs.Ytncebfnfmjimmaa
open Go Go.RowKit Fl
set_option linter.unusedVariables false

set_option maxRecDepth 100000 in
set_option maxHeartbeats 800000 in
theorem FnExactTurnedDigits_walk (tn : Int) (h_tn : (Lit.int .i64 tn).wf = true) (tb : Int) (h_tb : (Lit.int .i64 tb).wf = true) (ds : List Int) (ao_ds : Option Addr) (c_ds : Nat) (h_ds : ∀ x ∈ ds, -9223372036854775808 ≤ x ∧ x ≤ 9223372036854775807) (w : World) (hx_ds : Holds w ao_ds (il ds)) :
    Calls Try.prog 8 #[.int .i64 tn, .int .i64 tb, .slice ao_ds ds.length c_ds] w fun e w' => e = .returned (.bool true) ∧ Below w.heap.size w w' := by
  by_cases hl0 : 1048576 < ds.length
  · have hl : (1048576 : Int) < (ds.length : Int) := by omega
    clear hl0
    go_enter Try.func8, Try.ntmps8
    go_wp2
    go_ret
    exact ⟨rfl, by repeat (first | exact Below.refl _ _ | refine Below.drew ?_ | refine Bel_drewN ?_ _ | refine Below.alloc ?_ (by first | omega | (simp; done) | (simp; omega)) _ | refine Below.setCell ?_ (by first | omega | simp) _)⟩
  have hs0 : (ds.length : Int) ≤ 1048576 := by omega
  have hn0 : ds.length ≤ 1048576 := by omega
  clear hl0
  have HX_ds := Lib.hid hx_ds
  clear hx_ds
  by_cases hv0 : trnC tn tb ds
  · have HV := Lib.hid hv0
    clear hv0
    go_enter Try.func8, Try.ntmps8
    go_wp2_with fail
    refine (toInt64S_any ds _ _ _ (by exact Holds.below HX_ds.out (by repeat (first | exact Below.refl _ _ | refine Below.drew ?_ | refine Bel_drewN ?_ _ | refine Below.alloc ?_ (by first | omega | (simp; done) | (simp; omega)) _ | refine Below.setCell ?_ (by first | omega | simp) _))) hn0).mono ?_
    rintro e w1 ⟨_, rfl, row, hb⟩
    have hs : Below w.heap.size w w1 := Bel_next (by repeat (first | exact Below.refl _ _ | refine Below.drew ?_ | refine Bel_drewN ?_ _ | refine Below.alloc ?_ (by first | omega | (simp; done) | (simp; omega)) _ | refine Below.setCell ?_ (by first | omega | simp) _)) hb
    have HB1 : Hid (Below w.heap.size w w1) := Lib.hid hs
    have z1 : w.heap.size ≤ w1.heap.size := hs.size
    have Ra_ds := Lib.hid (Row.wide row (lo' := w.heap.size) (by first | exact Nat.le_refl _ | (simp; done) | (simp; omega)) (Nat.le_refl _))
    clear row
    clear hb hs
    go_wp2_with fail
    refine (specTurned_yes tn tb ds _ _ _ HV.out (by exact (Row.below Ra_ds.out (by repeat (first | exact Below.refl _ _ | refine Below.drew ?_ | refine Bel_drewN ?_ _ | refine Below.alloc ?_ (by first | omega | (simp; done) | (simp; omega)) _ | refine Below.setCell ?_ (by first | omega | simp) _))).holds)).mono ?_
    rintro e w2 ⟨rs, rfl, hrs, hb⟩
    have hs : Below w1.heap.size w1 w2 := Bel_next (by repeat (first | exact Below.refl _ _ | refine Below.drew ?_ | refine Bel_drewN ?_ _ | refine Below.alloc ?_ (by first | omega | (simp; done) | (simp; omega)) _ | refine Below.setCell ?_ (by first | omega | simp) _)) hb
    have HB2 : Hid (Below w.heap.size w w2) := Lib.hid (Bel_next HB1.out hs)
    have z2 : w1.heap.size ≤ w2.heap.size := hs.size
    replace Ra_ds := Lib.hid (Row.below Ra_ds.out hs)
    clear hb hs HB1
    have HRs := Lib.hid hrs
    clear hrs
    clear Ra_ds
    go_wp2_with fail
    refine (toInt64S_any ds _ _ _ (by exact Holds.below HX_ds.out (Bel_next HB2.out (by repeat (first | exact Below.refl _ _ | refine Below.drew ?_ | refine Bel_drewN ?_ _ | refine Below.alloc ?_ (by first | omega | (simp; done) | (simp; omega)) _ | refine Below.setCell ?_ (by first | omega | simp) _)))) hn0).mono ?_
    rintro e w3 ⟨_, rfl, row, hb⟩
    have hs : Below w2.heap.size w2 w3 := Bel_next (by repeat (first | exact Below.refl _ _ | refine Below.drew ?_ | refine Bel_drewN ?_ _ | refine Below.alloc ?_ (by first | omega | (simp; done) | (simp; omega)) _ | refine Below.setCell ?_ (by first | omega | simp) _)) hb
    have HB3 : Hid (Below w.heap.size w w3) := Lib.hid (Bel_next HB2.out hs)
    have z3 : w2.heap.size ≤ w3.heap.size := hs.size
    have X_ds := Lib.hid (Row.wide row (lo' := w2.heap.size) (by first | exact Nat.le_refl _ | (simp; done) | (simp; omega)) (Nat.le_refl _))
    clear row
    clear hb hs HB2
    go_wp2_with fail
    refine (implTurned_yes tn tb ds _ _ _ HV.out (by exact (Row.below X_ds.out (by repeat (first | exact Below.refl _ _ | refine Below.drew ?_ | refine Bel_drewN ?_ _ | refine Below.alloc ?_ (by first | omega | (simp; done) | (simp; omega)) _ | refine Below.setCell ?_ (by first | omega | simp) _))).holds)).mono ?_
    rintro e w4 ⟨rg, rfl, hrg, hb⟩
    have hs : Below w3.heap.size w3 w4 := Bel_next (by repeat (first | exact Below.refl _ _ | refine Below.drew ?_ | refine Bel_drewN ?_ _ | refine Below.alloc ?_ (by first | omega | (simp; done) | (simp; omega)) _ | refine Below.setCell ?_ (by first | omega | simp) _)) hb
    have HB4 : Hid (Below w.heap.size w w4) := Lib.hid (Bel_next HB3.out hs)
    have z4 : w3.heap.size ≤ w4.heap.size := hs.size
    replace X_ds := Lib.hid (Row.below X_ds.out hs)
    clear hb hs HB3
    have HRg := Lib.hid hrg
    clear hrg
    go_wp2_with (first | (refine wpList_widen_g _ _ _ _ rfl Try.underlying33 Try.underlying37 rfl ?_; intro r n hr) | (go_at_call 31; fail))
    refine (sameFloat_any _ _ (widen (trnV ds ds.length tn.toNat)) (by rw [← HRg.out.2]; assumption) (by rw [← HRs.out.2]; assumption) _).mono ?_
    rintro e w' ⟨n3, rfl, rfl⟩
    go_wp2_with fail
    refine (toInt64S_any ds _ _ _ (by exact Holds.below HX_ds.out (Bel_next HB4.out (by repeat (first | exact Below.refl _ _ | refine Below.drew ?_ | refine Bel_drewN ?_ _ | refine Below.alloc ?_ (by first | omega | (simp; done) | (simp; omega)) _ | refine Below.setCell ?_ (by first | omega | simp) _)))) hn0).mono ?_
    rintro e w5 ⟨_, rfl, row, hb⟩
    have hs : Below w4.heap.size w4 w5 := Bel_next (by repeat (first | exact Below.refl _ _ | refine Below.drew ?_ | refine Bel_drewN ?_ _ | refine Below.alloc ?_ (by first | omega | (simp; done) | (simp; omega)) _ | refine Below.setCell ?_ (by first | omega | simp) _)) hb
    have HB5 : Hid (Below w.heap.size w w5) := Lib.hid (Bel_next HB4.out hs)
    have z5 : w4.heap.size ≤ w5.heap.size := hs.size
    replace X_ds := Lib.hid (Row.below X_ds.out hs)
    have Y_ds := Lib.hid (Row.wide row (lo' := w4.heap.size) (by first | exact Nat.le_refl _ | (simp; done) | (simp; omega)) (Nat.le_refl _))
    clear row
    clear hb hs HB4
    go_wp2_with fail
    refine (eqInt64S_same ds _ rfl _ _ _ _ _ (by exact (Row.below X_ds.out (by repeat (first | exact Below.refl _ _ | refine Below.drew ?_ | refine Bel_drewN ?_ _ | refine Below.alloc ?_ (by first | omega | (simp; done) | (simp; omega)) _ | refine Below.setCell ?_ (by first | omega | simp) _))).holds) (by exact (Row.below Y_ds.out (by repeat (first | exact Below.refl _ _ | refine Below.drew ?_ | refine Bel_drewN ?_ _ | refine Below.alloc ?_ (by first | omega | (simp; done) | (simp; omega)) _ | refine Below.setCell ?_ (by first | omega | simp) _))).holds) (by omega)).mono ?_
    rintro e w6 ⟨rfl, hb⟩
    have hs : Below w5.heap.size w5 w6 := Bel_next (by repeat (first | exact Below.refl _ _ | refine Below.drew ?_ | refine Bel_drewN ?_ _ | refine Below.alloc ?_ (by first | omega | (simp; done) | (simp; omega)) _ | refine Below.setCell ?_ (by first | omega | simp) _)) hb
    have HB6 : Hid (Below w.heap.size w w6) := Lib.hid (Bel_next HB5.out hs)
    have z6 : w5.heap.size ≤ w6.heap.size := hs.size
    replace X_ds := Lib.hid (Row.below X_ds.out hs)
    replace Y_ds := Lib.hid (Row.below Y_ds.out hs)
    clear hb hs HB5
    clear Y_ds
    go_wp2_with fail
    go_ret
    exact ⟨rfl, Bel_next HB6.out (by repeat (first | exact Below.refl _ _ | refine Below.drew ?_ | refine Bel_drewN ?_ _ | refine Below.alloc ?_ (by first | omega | (simp; done) | (simp; omega)) _ | refine Below.setCell ?_ (by first | omega | simp) _))⟩
  have HV := Lib.hid hv0
  clear hv0
  go_enter Try.func8, Try.ntmps8
  go_wp2_with fail
  refine (toInt64S_any ds _ _ _ (by exact Holds.below HX_ds.out (by repeat (first | exact Below.refl _ _ | refine Below.drew ?_ | refine Bel_drewN ?_ _ | refine Below.alloc ?_ (by first | omega | (simp; done) | (simp; omega)) _ | refine Below.setCell ?_ (by first | omega | simp) _))) hn0).mono ?_
  rintro e w1 ⟨_, rfl, row, hb⟩
  have hs : Below w.heap.size w w1 := Bel_next (by repeat (first | exact Below.refl _ _ | refine Below.drew ?_ | refine Bel_drewN ?_ _ | refine Below.alloc ?_ (by first | omega | (simp; done) | (simp; omega)) _ | refine Below.setCell ?_ (by first | omega | simp) _)) hb
  have HB1 : Hid (Below w.heap.size w w1) := Lib.hid hs
  have z1 : w.heap.size ≤ w1.heap.size := hs.size
  have Ra_ds := Lib.hid (Row.wide row (lo' := w.heap.size) (by first | exact Nat.le_refl _ | (simp; done) | (simp; omega)) (Nat.le_refl _))
  clear row
  clear hb hs
  go_wp2_with fail
  refine (specTurned_no tn tb ds _ _ _ HV.out (by exact (Row.below Ra_ds.out (by repeat (first | exact Below.refl _ _ | refine Below.drew ?_ | refine Bel_drewN ?_ _ | refine Below.alloc ?_ (by first | omega | (simp; done) | (simp; omega)) _ | refine Below.setCell ?_ (by first | omega | simp) _))).holds) hn0).mono ?_
  rintro e w2 ⟨rs, rfl, hrs, hb⟩
  have hs : Below w1.heap.size w1 w2 := Bel_next (by repeat (first | exact Below.refl _ _ | refine Below.drew ?_ | refine Bel_drewN ?_ _ | refine Below.alloc ?_ (by first | omega | (simp; done) | (simp; omega)) _ | refine Below.setCell ?_ (by first | omega | simp) _)) hb
  have HB2 : Hid (Below w.heap.size w w2) := Lib.hid (Bel_next HB1.out hs)
  have z2 : w1.heap.size ≤ w2.heap.size := hs.size
  replace Ra_ds := Lib.hid (Row.below Ra_ds.out hs)
  clear hb hs HB1
  have HRs := Lib.hid hrs
  clear hrs
  clear Ra_ds
  go_wp2_with fail
  refine (toInt64S_any ds _ _ _ (by exact Holds.below HX_ds.out (Bel_next HB2.out (by repeat (first | exact Below.refl _ _ | refine Below.drew ?_ | refine Bel_drewN ?_ _ | refine Below.alloc ?_ (by first | omega | (simp; done) | (simp; omega)) _ | refine Below.setCell ?_ (by first | omega | simp) _)))) hn0).mono ?_
  rintro e w3 ⟨_, rfl, row, hb⟩
  have hs : Below w2.heap.size w2 w3 := Bel_next (by repeat (first | exact Below.refl _ _ | refine Below.drew ?_ | refine Bel_drewN ?_ _ | refine Below.alloc ?_ (by first | omega | (simp; done) | (simp; omega)) _ | refine Below.setCell ?_ (by first | omega | simp) _)) hb
  have HB3 : Hid (Below w.heap.size w w3) := Lib.hid (Bel_next HB2.out hs)
  have z3 : w2.heap.size ≤ w3.heap.size := hs.size
  have X_ds := Lib.hid (Row.wide row (lo' := w2.heap.size) (by first | exact Nat.le_refl _ | (simp; done) | (simp; omega)) (Nat.le_refl _))
  clear row
  clear hb hs HB2
  go_wp2_with fail
  refine (implTurned_no tn tb ds _ _ _ HV.out (by exact (Row.below X_ds.out (by repeat (first | exact Below.refl _ _ | refine Below.drew ?_ | refine Bel_drewN ?_ _ | refine Below.alloc ?_ (by first | omega | (simp; done) | (simp; omega)) _ | refine Below.setCell ?_ (by first | omega | simp) _))).holds) hn0).mono ?_
  rintro e w4 ⟨rg, rfl, hrg, hb⟩
  have hs : Below w3.heap.size w3 w4 := Bel_next (by repeat (first | exact Below.refl _ _ | refine Below.drew ?_ | refine Bel_drewN ?_ _ | refine Below.alloc ?_ (by first | omega | (simp; done) | (simp; omega)) _ | refine Below.setCell ?_ (by first | omega | simp) _)) hb
  have HB4 : Hid (Below w.heap.size w w4) := Lib.hid (Bel_next HB3.out hs)
  have z4 : w3.heap.size ≤ w4.heap.size := hs.size
  replace X_ds := Lib.hid (Row.below X_ds.out hs)
  clear hb hs HB3
  have HRg := Lib.hid hrg
  clear hrg
  go_wp2_with (first | (refine wpList_widen_g _ _ _ _ rfl Try.underlying33 Try.underlying37 rfl ?_; intro r n hr) | (go_at_call 31; fail))
  refine (sameFloat_any _ _ (widen (av .f32 0)) (by rw [← HRg.out.2]; assumption) (by rw [← HRs.out.2]; assumption) _).mono ?_
  rintro e w' ⟨n3, rfl, rfl⟩
  go_wp2_with fail
  refine (toInt64S_any ds _ _ _ (by exact Holds.below HX_ds.out (Bel_next HB4.out (by repeat (first | exact Below.refl _ _ | refine Below.drew ?_ | refine Bel_drewN ?_ _ | refine Below.alloc ?_ (by first | omega | (simp; done) | (simp; omega)) _ | refine Below.setCell ?_ (by first | omega | simp) _)))) hn0).mono ?_
  rintro e w5 ⟨_, rfl, row, hb⟩
  have hs : Below w4.heap.size w4 w5 := Bel_next (by repeat (first | exact Below.refl _ _ | refine Below.drew ?_ | refine Bel_drewN ?_ _ | refine Below.alloc ?_ (by first | omega | (simp; done) | (simp; omega)) _ | refine Below.setCell ?_ (by first | omega | simp) _)) hb
  have HB5 : Hid (Below w.heap.size w w5) := Lib.hid (Bel_next HB4.out hs)
  have z5 : w4.heap.size ≤ w5.heap.size := hs.size
  replace X_ds := Lib.hid (Row.below X_ds.out hs)
  have Y_ds := Lib.hid (Row.wide row (lo' := w4.heap.size) (by first | exact Nat.le_refl _ | (simp; done) | (simp; omega)) (Nat.le_refl _))
  clear row
  clear hb hs HB4
  go_wp2_with fail
  refine (eqInt64S_same ds _ rfl _ _ _ _ _ (by exact (Row.below X_ds.out (by repeat (first | exact Below.refl _ _ | refine Below.drew ?_ | refine Bel_drewN ?_ _ | refine Below.alloc ?_ (by first | omega | (simp; done) | (simp; omega)) _ | refine Below.setCell ?_ (by first | omega | simp) _))).holds) (by exact (Row.below Y_ds.out (by repeat (first | exact Below.refl _ _ | refine Below.drew ?_ | refine Bel_drewN ?_ _ | refine Below.alloc ?_ (by first | omega | (simp; done) | (simp; omega)) _ | refine Below.setCell ?_ (by first | omega | simp) _))).holds) (by omega)).mono ?_
  rintro e w6 ⟨rfl, hb⟩
  have hs : Below w5.heap.size w5 w6 := Bel_next (by repeat (first | exact Below.refl _ _ | refine Below.drew ?_ | refine Bel_drewN ?_ _ | refine Below.alloc ?_ (by first | omega | (simp; done) | (simp; omega)) _ | refine Below.setCell ?_ (by first | omega | simp) _)) hb
  have HB6 : Hid (Below w.heap.size w w6) := Lib.hid (Bel_next HB5.out hs)
  have z6 : w5.heap.size ≤ w6.heap.size := hs.size
  replace X_ds := Lib.hid (Row.below X_ds.out hs)
  replace Y_ds := Lib.hid (Row.below Y_ds.out hs)
  clear hb hs HB5
  clear Y_ds
  go_wp2_with fail
  go_ret
  exact ⟨rfl, Bel_next HB6.out (by repeat (first | exact Below.refl _ _ | refine Below.drew ?_ | refine Bel_drewN ?_ _ | refine Below.alloc ?_ (by first | omega | (simp; done) | (simp; omega)) _ | refine Below.setCell ?_ (by first | omega | simp) _))⟩
end Go.Proofs.Ytncebfnfmjimmaa
