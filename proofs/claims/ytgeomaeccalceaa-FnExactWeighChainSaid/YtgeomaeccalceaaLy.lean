/- The logarithm of any 32-bit number, narrowed: both sides. -/
import Derived.Test.YtgeomaeccalceaaLx
import Derived.Test.YtgeomaeccalceaaGd
namespace Go.Proofs.Ytgeomaeccalceaa
open Go Go.RowKit Fl
set_option linter.unusedVariables false

def Num32 (v : Option Nat) (w : World) (e : Ending) (w' : World) : Prop := ∃ r n, e = .returned (.float .f32 r) ∧ Fv .f32 v r ∧ w' = w.drewN n
theorem narrow_nan : narrow none = none := rfl
theorem narrow_mi : narrow (some 18442240474082181120) = some 4286578688 := by decide +kernel
theorem P2_R127 {B : Nat} {v : Option Nat} (h : P2 B v) (hB : B ≤ 127) : In .f64 R127 v := by
  obtain ⟨x, rfl, hx⟩ := h
  exact ⟨x, rfl, Nat.le_trans hx (Nat.mul_le_mul_right _ (by omega))⟩
theorem ok_of {v : Option Nat} {r : Nat} (hr : Fv .f64 v r) (h : v = none ∨ In .f64 R127 v ∨ ∃ b, v = some b ∧ (Ieee.double.read b).isInfinity = true) :
    av .f64 r = none ∨ In .f64 R127 (av .f64 r) ∨ (Ieee.double.read r).isInfinity = true := narrow_of hr h
theorem lg_ok {L K J1 J2 : Nat} (hN : Near L K J1 J2) : In .f64 R127 (lgA (nb (L - J1 + J2) K) ((J1 : Int) - J2)) :=
  P2_R127 (lgA_in _ K _ hN.k1 hN.k2 (by have := hN.lo; have := hN.hi; omega) (by have := hN.j1; have := hN.j2; omega)) (by decide)

theorem ord64_0 {a r : Nat} (hr : Fv .f64 (widen (av .f32 a)) r) : FloatKind.f64.format.order r 0 = FloatKind.f32.format.order a 0 := by
  rw [aord_order .f64, aord_order .f32, hr.2, ← aord_widen' a 0]
  rfl
theorem av64_of {a r c : Nat} (hr : Fv .f64 (widen (av .f32 a)) r) (h : av .f32 a = some c) : ∃ d, av .f64 r = some d := by rw [hr.2, h]; exact ⟨_, rfl⟩
end Go.Proofs.Ytgeomaeccalceaa
