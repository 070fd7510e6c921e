/- The walk of the law FnExactIsRow. -/
import Derived.Test.YtfbllggnndodoaaIsr
import Derived.Test.YtfbllggnndodoaaFq
import Derived.Deep.RegionHeld3
import Derived.Deep.DeepCutAuto
namespace Go.Proofs.Ytfbllggnndodoaa
open Go Go.RowKit Fl
set_option linter.unusedVariables false

set_option maxRecDepth 100000 in
set_option maxHeartbeats 20000000 in
theorem FnExactIsRow_walk (xs : List Nat) (ao_xs : Option Addr) (c_xs : Nat) (w : World) (hx_xs : Holds w ao_xs (fl .f32 xs)) :
    Calls Try.prog 6 #[.slice ao_xs xs.length c_xs] w fun e w' => e = .returned (.bool true) ∧ Below w.heap.size w w' := by
  by_cases hl0 : 1048576 < xs.length
  case pos =>
    have hl : (1048576 : Int) < (xs.length : Int) := by omega
    clear hl0
    go_enter Try.func6, Try.ntmps6
    have HS0 : Hid (Below w.heap.size w w) := Lib.hid (Below.refl _ _)
    go_wp2
    go_ret
    exact ⟨rfl, (by repeat (first | with_reducible exact Below.refl _ _ | with_reducible refine Below.drew ?_ | with_reducible refine Bel_drewN ?_ _ | with_reducible refine Below.alloc ?_ (by first | omega | (simp; done) | (simp; omega)) _ | with_reducible refine Below.setCell ?_ (by first | omega | (simp; done) | (simp; omega)) _))⟩
  have hs0 : (xs.length : Int) ≤ 1048576 := by omega
  have hn_xs : xs.length ≤ 1048576 := by omega
  clear hl0
  have HX_xs := Lib.hid hx_xs
  clear hx_xs
  go_enter Try.func6, Try.ntmps6
  have HS0 : Hid (Below w.heap.size w w) := Lib.hid (Below.refl _ _)
  go_wp2_with fail
  refine (toFloat32S_row xs _ _ _ (Holds.below HX_xs.out HS0.out) hn_xs).mono ?_
  rintro e w1 ⟨aosc_xs, rfl, rowsc_xs, hb⟩
  have z1 : w.heap.size ≤ w1.heap.size := hb.size
  have HS1 : Hid (Row w1 w.heap.size w1.heap.size aosc_xs (fl .f32 xs) ∧ Below w.heap.size w w1) := Lib.hid ⟨rowsc_xs, Bel_next HS0.out hb⟩
  clear HS0 hb rowsc_xs
  go_wp2_with fail
  refine (specIsRow_any xs _ rfl _ _ _ (HS1.out.1).holds hn_xs).mono ?_
  rintro e w2 ⟨rfl, hb⟩
  have z2 : w1.heap.size ≤ w2.heap.size := hb.size
  have HS2 : Hid (Row w2 w.heap.size w1.heap.size aosc_xs (fl .f32 xs) ∧ Below w.heap.size w w2) := Lib.hid ⟨HS1.out.1.below hb, Bel_next HS1.out.2 hb⟩
  clear HS1 hb
  have HSn : Hid (Below w.heap.size w w2) := Lib.hid (HS2.out.2)
  clear HS2
  have HS2 := HSn
  clear HSn
  go_wp2_with fail
  refine (toFloat32S_row xs _ _ _ (Holds.below HX_xs.out HS2.out) hn_xs).mono ?_
  rintro e w3 ⟨aoX_xs, rfl, rowX_xs, hb⟩
  have z3 : w2.heap.size ≤ w3.heap.size := hb.size
  have HS3 : Hid (Row w3 w2.heap.size w3.heap.size aoX_xs (fl .f32 xs) ∧ Below w.heap.size w w3) := Lib.hid ⟨rowX_xs, Bel_next HS2.out hb⟩
  clear HS2 hb rowX_xs
  go_wp2_with fail
  refine (implIsRow_any xs _ rfl _ _ _ (HS3.out.1).holds hn_xs).mono ?_
  rintro e w4 ⟨rfl, hb⟩
  have z4 : w3.heap.size ≤ w4.heap.size := hb.size
  have HS4 : Hid (Row w4 w2.heap.size w3.heap.size aoX_xs (fl .f32 xs) ∧ Below w.heap.size w w4) := Lib.hid ⟨HS3.out.1.below hb, Bel_next HS3.out.2 hb⟩
  clear HS3 hb
  have HSn : Hid (Row w4 w2.heap.size w3.heap.size aoX_xs (fl .f32 xs) ∧ Below w.heap.size w w4) := Lib.hid ⟨HS4.out.1, HS4.out.2⟩
  clear HS4
  have HS4 := HSn
  clear HSn
  go_wp2_with fail
  refine (toFloat32S_row xs _ _ _ (Holds.below HX_xs.out HS4.out.2) hn_xs).mono ?_
  rintro e w5 ⟨aoY_xs, rfl, rowY_xs, hb⟩
  have z5 : w4.heap.size ≤ w5.heap.size := hb.size
  have HS5 : Hid (Row w5 w2.heap.size w3.heap.size aoX_xs (fl .f32 xs) ∧ Row w5 w4.heap.size w5.heap.size aoY_xs (fl .f32 xs) ∧ Below w.heap.size w w5) := Lib.hid ⟨HS4.out.1.below hb, rowY_xs, Bel_next HS4.out.2 hb⟩
  clear HS4 hb rowY_xs
  go_wp2_with fail
  refine (eqFloat32S_same xs _ rfl _ _ _ _ _ HS5.out.1.holds HS5.out.2.1.holds hn_xs).mono ?_
  rintro e w6 ⟨rfl, hb⟩
  have z6 : w5.heap.size ≤ w6.heap.size := hb.size
  have HS6 : Hid (Row w6 w2.heap.size w3.heap.size aoX_xs (fl .f32 xs) ∧ Row w6 w4.heap.size w5.heap.size aoY_xs (fl .f32 xs) ∧ Below w.heap.size w w6) := Lib.hid ⟨HS5.out.1.below hb, HS5.out.2.1.below hb, Bel_next HS5.out.2.2 hb⟩
  clear HS5 hb
  have HSn : Hid (Row w6 w2.heap.size w3.heap.size aoX_xs (fl .f32 xs) ∧ Below w.heap.size w w6) := Lib.hid ⟨HS6.out.1, HS6.out.2.2⟩
  clear HS6
  have HS6 := HSn
  clear HSn
  go_wp2_with fail
  go_ret
  exact ⟨rfl, Bel_next HS6.out.2 (by repeat (first | with_reducible exact Below.refl _ _ | with_reducible refine Below.drew ?_ | with_reducible refine Bel_drewN ?_ _ | with_reducible refine Below.alloc ?_ (by first | omega | (simp; done) | (simp; omega)) _ | with_reducible refine Below.setCell ?_ (by first | omega | (simp; done) | (simp; omega)) _))⟩
end Go.Proofs.Ytfbllggnndodoaa
