/- Angles: the polynomial, the bounds, the code's steepTurns. -/
import Derived.Test.YticmnkgcolgpaaaAta
import Derived.Test.YticmnkgcolgpaaaSineW
namespace Go.Proofs.Yticmnkgcolgpaaa.Fl
open Go Go.RowKit Ieee
set_option linter.unusedVariables false
def EIGHTW : Nat := 4620693217682128896
/-- The tangent halved k times; the polynomial; the angle. -/
def redV (v : Option Nat) : Nat → Option Nat
  | 0 => v
  | k + 1 => aop .quo .f64 (redV v k) (aop .add .f64 (some ONEW) (asqrt (aop .add .f64 (some ONEW) (aop .mul .f64 (redV v k) (redV v k)))))
def polB (u : Option Nat) : Nat → Option Nat
  | 0 => some 0
  | j + 1 => aop .sub .f64 (aop .quo .f64 (some ONEW) (some (floatOfInt .f64 (15 - 2 * (j : Int))))) (aop .mul .f64 u (polB u j))
def stV (v : Option Nat) : Option Nat := aop .quo .f64 (aop .mul .f64 (some EIGHTW) (aop .mul .f64 (redV v 3) (polB (aop .mul .f64 (redV v 3) (redV v 3)) 8))) (some 4618760256179416344)
theorem R2_mono {a b : Nat} (h : a ≤ b) : R2 a ≤ R2 b := Nat.mul_le_mul_right _ (by omega)
theorem redV_in {v : Option Nat} (h : Pz 0 v) : ∀ k, Pz 0 (redV v k)
  | 0 => h
  | k + 1 => by
    have ih := redV_in h k
    have hq := Pz.mul ih ih (by omega)
    obtain ⟨d1, e1, l1, b1⟩ := Pz.succ hq (by omega)
    have h1 : Pz 1 (aop .add .f64 (some ONEW) (aop .mul .f64 (redV v k) (redV v k))) := ⟨d1, e1, b1⟩
    obtain ⟨d2, e2, l2, b2⟩ := Pz.succ (Pz.sqrt h1) (by omega)
    show Pz 0 (aop .quo .f64 (redV v k) _)
    rw [e2]
    obtain ⟨r, e3, hr⟩ := ih
    rw [e3]
    have hri : r < double.infRung := Nat.lt_of_le_of_lt hr (R2_inf (by omega))
    refine Pz.quo hri b2 (by omega) (mag_pos l2) ?_
    refine Nat.le_trans (vr_lt hr) ?_
    have h3 := vr_lt l2
    rw [vr_onew] at h3
    rw [vr_R2, Nat.zero_add]
    exact h3
theorem div_in (j : Nat) (hj : j < 8) : P2 0 (aop .quo .f64 (some ONEW) (some (floatOfInt .f64 (15 - 2 * (j : Int))))) := by
  have : j = 0 ∨ j = 1 ∨ j = 2 ∨ j = 3 ∨ j = 4 ∨ j = 5 ∨ j = 6 ∨ j = 7 := by omega
  rcases this with rfl | rfl | rfl | rfl | rfl | rfl | rfl | rfl <;> exact ⟨_, rfl, by decide +kernel⟩
theorem polB_in {u : Option Nat} (hu : P2 0 u) : ∀ j, j ≤ 8 → P2 j (polB u j)
  | 0, _ => ⟨_, rfl, by decide +kernel⟩
  | j + 1, h => P2.sub (c := j) (div_in j (by omega)) (P2.mono (P2.mul hu (polB_in hu j (by omega)) (by omega)) (by omega)) (Nat.zero_le _) (Nat.le_refl _) (by omega)
theorem stV_in {v : Option Nat} (h : Pz 0 v) : P2 11 (stV v) := by
  have h3 := redV_in h 3
  have hu := (Pz.mul h3 h3 (by omega)).p2 (by omega)
  have hp := polB_in hu 8 (Nat.le_refl _)
  have ht := P2.mul (h3.p2 (by omega)) hp (by omega)
  have h8 : P2 3 (some EIGHTW) := ⟨_, rfl, by decide +kernel⟩
  have hm := P2.mul h8 ht (by omega)
  exact P2.quo (n := 7074237752028440) (d := 50) (s := false) (P2.mono hm (by omega)) (by omega) (by decide +kernel) (by decide) (by decide)
end Go.Proofs.Yticmnkgcolgpaaa.Fl
