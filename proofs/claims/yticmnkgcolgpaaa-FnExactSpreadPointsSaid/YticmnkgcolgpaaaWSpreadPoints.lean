/- The walk of the law FnExactSpreadPoints. -/
import Derived.Test.YticmnkgcolgpaaaSpr
namespace Go.Proofs.Yticmnkgcolgpaaa
open Go Go.RowKit Fl
set_option linter.unusedVariables false

set_option maxRecDepth 100000 in
set_option maxHeartbeats 800000 in
theorem FnExactSpreadPoints_walk (f : Int) (h_f : (Lit.int .i64 f).wf = true) (c : Int) (h_c : (Lit.int .i64 c).wf = true) (w : World)  :
    Calls Try.prog 9 #[.int .i64 f, .int .i64 c] w fun e w' => e = .returned (.bool true) ∧ Below w.heap.size w w' := by
  by_cases hv0 : (0 ≤ f ∧ f ≤ 65000) ∧ 0 ≤ c ∧ c ≤ 256
  · have HV := Lib.hid hv0
    clear hv0
    obtain ⟨F, rfl⟩ : ∃ F : Nat, f = F := ⟨f.toNat, by have := HV.out; omega⟩
    obtain ⟨C, rfl⟩ : ∃ C : Nat, c = C := ⟨c.toNat, by have := HV.out; omega⟩
    have hF : F ≤ 65000 := by have := HV.out; omega
    have hC : C ≤ 256 := by have := HV.out; omega
    go_enter Try.func9, Try.ntmps9
    go_wp2_with fail
    refine (specSpread_yes F C hF hC _).mono ?_
    rintro e w1 ⟨dss, _, _, rfl, hls, row, hb⟩
    have hs : Below w.heap.size w w1 := Bel_next (by repeat (first | exact Below.refl _ _ | refine Below.drew ?_ | refine Bel_drewN ?_ _ | refine Below.alloc ?_ (by first | omega | (simp; done) | (simp; omega)) _ | refine Below.setCell ?_ (by first | omega | simp) _)) hb
    have HB1 : Hid (Below w.heap.size w w1) := Lib.hid hs
    have z1 : w.heap.size ≤ w1.heap.size := hs.size
    have Gs := Lib.hid (Row.wide row (lo' := w.heap.size) (by first | exact Nat.le_refl _ | (simp; done) | (simp; omega)) (Nat.le_refl _))
    clear row
    clear hb hs
    have HLs := Lib.hid hls
    clear hls
    go_wp2_with fail
    refine (implSpread_yes F C hF hC _).mono ?_
    rintro e w2 ⟨dsg, _, _, rfl, hlg, row, hb⟩
    have hs : Below w1.heap.size w1 w2 := Bel_next (by repeat (first | exact Below.refl _ _ | refine Below.drew ?_ | refine Bel_drewN ?_ _ | refine Below.alloc ?_ (by first | omega | (simp; done) | (simp; omega)) _ | refine Below.setCell ?_ (by first | omega | simp) _)) hb
    have HB2 : Hid (Below w.heap.size w w2) := Lib.hid (Bel_next HB1.out hs)
    have z2 : w1.heap.size ≤ w2.heap.size := hs.size
    replace Gs := Lib.hid (Row.below Gs.out hs)
    have Gg := Lib.hid (Row.wide row (lo' := w1.heap.size) (by first | exact Nat.le_refl _ | (simp; done) | (simp; omega)) (Nat.le_refl _))
    clear row
    clear hb hs HB1
    have HLg := Lib.hid hlg
    clear hlg
    go_wp2_with fail
    refine (eqComplex64S_like HLg.out HLs.out _ _ _ _ _ (by exact (Row.below Gg.out (by repeat (first | exact Below.refl _ _ | refine Below.drew ?_ | refine Bel_drewN ?_ _ | refine Below.alloc ?_ (by first | omega | (simp; done) | (simp; omega)) _ | refine Below.setCell ?_ (by first | omega | simp) _))).holds) (by exact (Row.below Gs.out (by repeat (first | exact Below.refl _ _ | refine Below.drew ?_ | refine Bel_drewN ?_ _ | refine Below.alloc ?_ (by first | omega | (simp; done) | (simp; omega)) _ | refine Below.setCell ?_ (by first | omega | simp) _))).holds) (by omega)).mono ?_
    rintro e w3 ⟨rfl, hb⟩
    have hs : Below w2.heap.size w2 w3 := Bel_next (by repeat (first | exact Below.refl _ _ | refine Below.drew ?_ | refine Bel_drewN ?_ _ | refine Below.alloc ?_ (by first | omega | (simp; done) | (simp; omega)) _ | refine Below.setCell ?_ (by first | omega | simp) _)) hb
    have HB3 : Hid (Below w.heap.size w w3) := Lib.hid (Bel_next HB2.out hs)
    have z3 : w2.heap.size ≤ w3.heap.size := hs.size
    replace Gs := Lib.hid (Row.below Gs.out hs)
    replace Gg := Lib.hid (Row.below Gg.out hs)
    clear hb hs HB2
    go_wp2_with fail
    refine (markComplex64S_row (C) _ 1 _ _ _ _ _ (by exact Row.below Gg.out (by repeat (first | exact Below.refl _ _ | refine Below.drew ?_ | refine Bel_drewN ?_ _ | refine Below.alloc ?_ (by first | omega | (simp; done) | (simp; omega)) _ | refine Below.setCell ?_ (by first | omega | simp) _))) ((cl_len _).trans (HLg.out.1)) (by omega)).mono ?_
    rintro e w4 ⟨rfl, row, bt⟩
    have HB4 : Hid (Below w.heap.size w w4) := Lib.hid (bt.bel (Bel_next HB3.out (by repeat (first | exact Below.refl _ _ | refine Below.drew ?_ | refine Bel_drewN ?_ _ | refine Below.alloc ?_ (by first | omega | (simp; done) | (simp; omega)) _ | refine Below.setCell ?_ (by first | omega | simp) _))) (by omega))
    have z4 : w3.heap.size ≤ w4.heap.size := by first | exact bt.size | (have := bt.size; simp at this; omega)
    replace Gs := Lib.hid ((Row.below Gs.out (by repeat (first | exact Below.refl _ _ | refine Below.drew ?_ | refine Bel_drewN ?_ _ | refine Below.alloc ?_ (by first | omega | (simp; done) | (simp; omega)) _ | refine Below.setCell ?_ (by first | omega | simp) _))).but bt (by omega))
    clear Gg bt HB3
    have Gg := Lib.hid row
    clear row
    go_wp2_with fail
    refine (heldComplex64S_cmarks 1 (C) _ _ _ (by exact (Row.below Gg.out (by repeat (first | exact Below.refl _ _ | refine Below.drew ?_ | refine Bel_drewN ?_ _ | refine Below.alloc ?_ (by first | omega | (simp; done) | (simp; omega)) _ | refine Below.setCell ?_ (by first | omega | simp) _))).holds) (by omega)).mono ?_
    rintro e w5 ⟨rfl, hb⟩
    have hs : Below w4.heap.size w4 w5 := Bel_next (by repeat (first | exact Below.refl _ _ | refine Below.drew ?_ | refine Bel_drewN ?_ _ | refine Below.alloc ?_ (by first | omega | (simp; done) | (simp; omega)) _ | refine Below.setCell ?_ (by first | omega | simp) _)) hb
    have HB5 : Hid (Below w.heap.size w w5) := Lib.hid (Bel_next HB4.out hs)
    have z5 : w4.heap.size ≤ w5.heap.size := hs.size
    replace Gs := Lib.hid (Row.below Gs.out hs)
    replace Gg := Lib.hid (Row.below Gg.out hs)
    clear hb hs HB4
    go_wp2_with fail
    refine (implSpread_yes F C hF hC _).mono ?_
    rintro e w6 ⟨dsh, _, _, rfl, hlh, row, hb⟩
    have hs : Below w5.heap.size w5 w6 := Bel_next (by repeat (first | exact Below.refl _ _ | refine Below.drew ?_ | refine Bel_drewN ?_ _ | refine Below.alloc ?_ (by first | omega | (simp; done) | (simp; omega)) _ | refine Below.setCell ?_ (by first | omega | simp) _)) hb
    have HB6 : Hid (Below w.heap.size w w6) := Lib.hid (Bel_next HB5.out hs)
    have z6 : w5.heap.size ≤ w6.heap.size := hs.size
    replace Gs := Lib.hid (Row.below Gs.out hs)
    replace Gg := Lib.hid (Row.below Gg.out hs)
    have Gh := Lib.hid (Row.wide row (lo' := w5.heap.size) (by first | exact Nat.le_refl _ | (simp; done) | (simp; omega)) (Nat.le_refl _))
    clear row
    clear hb hs HB5
    have HLh := Lib.hid hlh
    clear hlh
    go_wp2_with fail
    refine (eqComplex64S_like HLh.out HLs.out _ _ _ _ _ (by exact (Row.below Gh.out (by repeat (first | exact Below.refl _ _ | refine Below.drew ?_ | refine Bel_drewN ?_ _ | refine Below.alloc ?_ (by first | omega | (simp; done) | (simp; omega)) _ | refine Below.setCell ?_ (by first | omega | simp) _))).holds) (by exact (Row.below Gs.out (by repeat (first | exact Below.refl _ _ | refine Below.drew ?_ | refine Bel_drewN ?_ _ | refine Below.alloc ?_ (by first | omega | (simp; done) | (simp; omega)) _ | refine Below.setCell ?_ (by first | omega | simp) _))).holds) (by omega)).mono ?_
    rintro e w7 ⟨rfl, hb⟩
    have hs : Below w6.heap.size w6 w7 := Bel_next (by repeat (first | exact Below.refl _ _ | refine Below.drew ?_ | refine Bel_drewN ?_ _ | refine Below.alloc ?_ (by first | omega | (simp; done) | (simp; omega)) _ | refine Below.setCell ?_ (by first | omega | simp) _)) hb
    have HB7 : Hid (Below w.heap.size w w7) := Lib.hid (Bel_next HB6.out hs)
    have z7 : w6.heap.size ≤ w7.heap.size := hs.size
    replace Gs := Lib.hid (Row.below Gs.out hs)
    replace Gg := Lib.hid (Row.below Gg.out hs)
    replace Gh := Lib.hid (Row.below Gh.out hs)
    clear hb hs HB6
    go_wp2_with fail
    refine (heldComplex64S_cmarks 1 (C) _ _ _ (by exact (Row.below Gg.out (by repeat (first | exact Below.refl _ _ | refine Below.drew ?_ | refine Bel_drewN ?_ _ | refine Below.alloc ?_ (by first | omega | (simp; done) | (simp; omega)) _ | refine Below.setCell ?_ (by first | omega | simp) _))).holds) (by omega)).mono ?_
    rintro e w8 ⟨rfl, hb⟩
    have hs : Below w7.heap.size w7 w8 := Bel_next (by repeat (first | exact Below.refl _ _ | refine Below.drew ?_ | refine Bel_drewN ?_ _ | refine Below.alloc ?_ (by first | omega | (simp; done) | (simp; omega)) _ | refine Below.setCell ?_ (by first | omega | simp) _)) hb
    have HB8 : Hid (Below w.heap.size w w8) := Lib.hid (Bel_next HB7.out hs)
    have z8 : w7.heap.size ≤ w8.heap.size := hs.size
    replace Gs := Lib.hid (Row.below Gs.out hs)
    replace Gg := Lib.hid (Row.below Gg.out hs)
    replace Gh := Lib.hid (Row.below Gh.out hs)
    clear hb hs HB7
    go_wp2_with fail
    go_ret
    exact ⟨rfl, Bel_next HB8.out (by repeat (first | exact Below.refl _ _ | refine Below.drew ?_ | refine Bel_drewN ?_ _ | refine Below.alloc ?_ (by first | omega | (simp; done) | (simp; omega)) _ | refine Below.setCell ?_ (by first | omega | simp) _))⟩
  have HV := Lib.hid hv0
  clear hv0
  go_enter Try.func9, Try.ntmps9
  go_wp2_with fail
  refine (specSpread_no f c HV.out _).mono ?_
  rintro e w1 ⟨rfl, hb⟩
  have hs : Below w.heap.size w w1 := Bel_next (by repeat (first | exact Below.refl _ _ | refine Below.drew ?_ | refine Bel_drewN ?_ _ | refine Below.alloc ?_ (by first | omega | (simp; done) | (simp; omega)) _ | refine Below.setCell ?_ (by first | omega | simp) _)) hb
  have HB1 : Hid (Below w.heap.size w w1) := Lib.hid hs
  have z1 : w.heap.size ≤ w1.heap.size := hs.size
  clear hb hs
  go_wp2_with fail
  refine (implSpread_no f c HV.out _).mono ?_
  rintro e w2 ⟨rfl, hb⟩
  have hs : Below w1.heap.size w1 w2 := Bel_next (by repeat (first | exact Below.refl _ _ | refine Below.drew ?_ | refine Bel_drewN ?_ _ | refine Below.alloc ?_ (by first | omega | (simp; done) | (simp; omega)) _ | refine Below.setCell ?_ (by first | omega | simp) _)) hb
  have HB2 : Hid (Below w.heap.size w w2) := Lib.hid (Bel_next HB1.out hs)
  have z2 : w1.heap.size ≤ w2.heap.size := hs.size
  clear hb hs HB1
  go_wp2_with fail
  refine (eqComplex64S_nil _ _ _ _ _).mono ?_
  rintro e w3 ⟨rfl, hb⟩
  have hs : Below w2.heap.size w2 w3 := Bel_next (by repeat (first | exact Below.refl _ _ | refine Below.drew ?_ | refine Bel_drewN ?_ _ | refine Below.alloc ?_ (by first | omega | (simp; done) | (simp; omega)) _ | refine Below.setCell ?_ (by first | omega | simp) _)) hb
  have HB3 : Hid (Below w.heap.size w w3) := Lib.hid (Bel_next HB2.out hs)
  have z3 : w2.heap.size ≤ w3.heap.size := hs.size
  clear hb hs HB2
  go_wp2_with fail
  refine (markComplex64S_zero 1 _ _ _).mono ?_
  rintro e w4 ⟨rfl, hb⟩
  have hs : Below w3.heap.size w3 w4 := Bel_next (by repeat (first | exact Below.refl _ _ | refine Below.drew ?_ | refine Bel_drewN ?_ _ | refine Below.alloc ?_ (by first | omega | (simp; done) | (simp; omega)) _ | refine Below.setCell ?_ (by first | omega | simp) _)) hb
  have HB4 : Hid (Below w.heap.size w w4) := Lib.hid (Bel_next HB3.out hs)
  have z4 : w3.heap.size ≤ w4.heap.size := hs.size
  clear hb hs HB3
  go_wp2_with fail
  refine (heldComplex64S_cmarks 1 0 _ _ _ (fun i hi => absurd hi (Nat.not_lt_zero _)) (by omega)).mono ?_
  rintro e w5 ⟨rfl, hb⟩
  have hs : Below w4.heap.size w4 w5 := Bel_next (by repeat (first | exact Below.refl _ _ | refine Below.drew ?_ | refine Bel_drewN ?_ _ | refine Below.alloc ?_ (by first | omega | (simp; done) | (simp; omega)) _ | refine Below.setCell ?_ (by first | omega | simp) _)) hb
  have HB5 : Hid (Below w.heap.size w w5) := Lib.hid (Bel_next HB4.out hs)
  have z5 : w4.heap.size ≤ w5.heap.size := hs.size
  clear hb hs HB4
  go_wp2_with fail
  refine (implSpread_no f c HV.out _).mono ?_
  rintro e w6 ⟨rfl, hb⟩
  have hs : Below w5.heap.size w5 w6 := Bel_next (by repeat (first | exact Below.refl _ _ | refine Below.drew ?_ | refine Bel_drewN ?_ _ | refine Below.alloc ?_ (by first | omega | (simp; done) | (simp; omega)) _ | refine Below.setCell ?_ (by first | omega | simp) _)) hb
  have HB6 : Hid (Below w.heap.size w w6) := Lib.hid (Bel_next HB5.out hs)
  have z6 : w5.heap.size ≤ w6.heap.size := hs.size
  clear hb hs HB5
  go_wp2_with fail
  refine (eqComplex64S_nil _ _ _ _ _).mono ?_
  rintro e w7 ⟨rfl, hb⟩
  have hs : Below w6.heap.size w6 w7 := Bel_next (by repeat (first | exact Below.refl _ _ | refine Below.drew ?_ | refine Bel_drewN ?_ _ | refine Below.alloc ?_ (by first | omega | (simp; done) | (simp; omega)) _ | refine Below.setCell ?_ (by first | omega | simp) _)) hb
  have HB7 : Hid (Below w.heap.size w w7) := Lib.hid (Bel_next HB6.out hs)
  have z7 : w6.heap.size ≤ w7.heap.size := hs.size
  clear hb hs HB6
  go_wp2_with fail
  refine (heldComplex64S_cmarks 1 0 _ _ _ (fun i hi => absurd hi (Nat.not_lt_zero _)) (by omega)).mono ?_
  rintro e w8 ⟨rfl, hb⟩
  have hs : Below w7.heap.size w7 w8 := Bel_next (by repeat (first | exact Below.refl _ _ | refine Below.drew ?_ | refine Bel_drewN ?_ _ | refine Below.alloc ?_ (by first | omega | (simp; done) | (simp; omega)) _ | refine Below.setCell ?_ (by first | omega | simp) _)) hb
  have HB8 : Hid (Below w.heap.size w w8) := Lib.hid (Bel_next HB7.out hs)
  have z8 : w7.heap.size ≤ w8.heap.size := hs.size
  clear hb hs HB7
  go_wp2_with fail
  go_ret
  exact ⟨rfl, Bel_next HB8.out (by repeat (first | exact Below.refl _ _ | refine Below.drew ?_ | refine Bel_drewN ?_ _ | refine Below.alloc ?_ (by first | omega | (simp; done) | (simp; omega)) _ | refine Below.setCell ?_ (by first | omega | simp) _))⟩
end Go.Proofs.Yticmnkgcolgpaaa
