/- Phasors: the quarters of a fraction of turns. -/
import Derived.Test.YticmnkgcolgpaaaAte
namespace Go.Proofs.Yticmnkgcolgpaaa.Fl
open Go Go.RowKit Ieee
set_option linter.unusedVariables false
/-- The rung of so many quarters. -/
def qR : Nat → Nat
  | 0 => 0
  | 1 => 4598175219545276416
  | 2 => 4602678819172646912
  | 3 => 4604930618986332160
  | 4 => 4607182418800017408
  | 5 => 4608308318706860032
  | 6 => 4609434218613702656
  | 7 => 4610560118520545280
  | _ => 4611686018427387904
theorem qR_vr : ∀ k, k ≤ 8 → vr double (qR k) * 4 = k * 2 ^ K0 := by decide +kernel
theorem qR_inf : ∀ k, k ≤ 8 → qR k < double.infRung := by decide
theorem qR_mono : ∀ k, k ≤ 8 → qR k ≤ R2 1 := by decide
theorem vr_strict {a b : Nat} (h : vr double a < vr double b) : a < b := by
  rcases Nat.lt_or_ge a b with h1 | h1
  · exact h1
  · have := vr_lt h1; omega
/-- So many quarters at most, and a quarter at least: a quarter less. -/
theorem quarter_less {k r : Nat} (hk : k + 1 ≤ 8) (hr : r ≤ qR (k + 1)) (h : qR 1 ≤ r) : ∃ r', aop .sub .f64 (some (double.word false r)) (some QUART) = some (double.word false r') ∧ r' ≤ qR k := by
  have hri : r < double.infRung := Nat.lt_of_le_of_lt hr (qR_inf _ hk)
  obtain ⟨p, hpl⟩ : ∃ p, placeOf double r = p := ⟨_, rfl⟩
  obtain ⟨m, hm⟩ : ∃ m, magOf double r = m := ⟨_, rfl⟩
  have hq : (double.read QUART).opposite = .number true 4503599627370496 (-1074 + ((1020 : Nat) : Int)) := by decide +kernel
  have hvq : vr double (qR 1) = 4503599627370496 * 2 ^ (1020 + lp double) := by decide +kernel
  have hge := vr_lt h
  have hle := vr_lt hr
  have e0 : aop .sub .f64 (some (double.word false r)) (some QUART) = ((double.read (double.word false r)).sum (double.read QUART).opposite).map double.write := rfl
  have q1 : (Datum.number false m (-1074 + (p : Int))).sum (Datum.number true 4503599627370496 (-1074 + ((1020 : Nat) : Int))) = some (.number (if signed false m (-1074 + (p : Int) - min (-1074 + (p : Int)) (-1074 + ((1020 : Nat) : Int))).toNat + signed true 4503599627370496 (-1074 + ((1020 : Nat) : Int) - min (-1074 + (p : Int)) (-1074 + ((1020 : Nat) : Int))).toNat = 0 then false && true else decide (signed false m (-1074 + (p : Int) - min (-1074 + (p : Int)) (-1074 + ((1020 : Nat) : Int))).toNat + signed true 4503599627370496 (-1074 + ((1020 : Nat) : Int) - min (-1074 + (p : Int)) (-1074 + ((1020 : Nat) : Int))).toNat < 0)) (signed false m (-1074 + (p : Int) - min (-1074 + (p : Int)) (-1074 + ((1020 : Nat) : Int))).toNat + signed true 4503599627370496 (-1074 + ((1020 : Nat) : Int) - min (-1074 + (p : Int)) (-1074 + ((1020 : Nat) : Int))).toNat).natAbs (min (-1074 + (p : Int)) (-1074 + ((1020 : Nat) : Int)))) := rfl
  have g1 : ∀ m z : Nat, signed false m z = ((m * 2 ^ z : Nat) : Int) := fun m z => by unfold signed; rw [Nat.shiftLeft_eq]; rfl
  have g2 : ∀ m z : Nat, signed true m z = -((m * 2 ^ z : Nat) : Int) := fun m z => by unfold signed; rw [Nat.shiftLeft_eq]; rfl
  rw [e0, word_read hri, hm, hpl, hq, q1, g1, g2, show min (-1074 + (p : Int)) (-1074 + ((1020 : Nat) : Int)) = -1074 + ((min p 1020 : Nat) : Int) by omega, show (-1074 + (p : Int) - (-1074 + ((min p 1020 : Nat) : Int))).toNat = p - min p 1020 by omega, show (-1074 + ((1020 : Nat) : Int) - (-1074 + ((min p 1020 : Nat) : Int))).toNat = 1020 - min p 1020 by omega]
  have v1 : vr double r = m * 2 ^ (p - min p 1020) * 2 ^ (min p 1020 + lp double) := by unfold vr; rw [hpl, hm, Nat.mul_assoc, ← Nat.pow_add, show p - min p 1020 + (min p 1020 + lp double) = p + lp double by omega]
  have v2 : vr double (qR 1) = 4503599627370496 * 2 ^ (1020 - min p 1020) * 2 ^ (min p 1020 + lp double) := by rw [hvq, Nat.mul_assoc, ← Nat.pow_add, show 1020 - min p 1020 + (min p 1020 + lp double) = 1020 + lp double by omega]
  obtain ⟨A, hA⟩ : ∃ A, m * 2 ^ (p - min p 1020) = A := ⟨_, rfl⟩
  obtain ⟨B, hB⟩ : ∃ B, 4503599627370496 * 2 ^ (1020 - min p 1020) = B := ⟨_, rfl⟩
  rw [hA] at v1
  rw [hB] at v2
  rw [hA, hB]
  have hpos : 0 < 2 ^ (min p 1020 + lp double) := Nat.two_pow_pos _
  have hBA : B ≤ A := by
    rw [v1, v2] at hge
    exact Nat.le_of_mul_le_mul_right hge hpos
  obtain ⟨T, rfl⟩ : ∃ T, A = B + T := ⟨A - B, by omega⟩
  have hz : (if ((B + T : Nat) : Int) + -((B : Nat) : Int) = 0 then false && true else decide (((B + T : Nat) : Int) + -((B : Nat) : Int) < 0)) = false := by
    split
    · rfl
    · exact decide_eq_false (by omega)
  rw [hz, show (((B + T : Nat) : Int) + -((B : Nat) : Int)).natAbs = T by omega]
  have hK := K0_eq
  have hval : val T (-1074 + ((min p 1020 : Nat) : Int)) = T * 2 ^ (min p 1020 + lp double) := by
    unfold val
    have hl : lp double = 8926 := by decide
    have e9 : (-1074 + ((min p 1020 : Nat) : Int) + (K0 : Int)).toNat = min p 1020 + lp double := by rw [hl]; omega
    rw [e9]
  have hT : T * 2 ^ (min p 1020 + lp double) ≤ vr double (qR k) := by
    have h1 := qR_vr (k + 1) hk
    have h2 := qR_vr k (by omega)
    have h3 := qR_vr 1 (by omega)
    rw [Nat.add_mul] at v1
    rw [Nat.add_mul, Nat.one_mul] at h1
    rw [Nat.one_mul] at h3
    omega
  obtain ⟨r', h1, h2, h3⟩ := pos_word (m := T) (i := -1074 + ((min p 1020 : Nat) : Int)) (by omega)
  refine ⟨r', congrArg some h2, ?_⟩
  have h4 : In .f64 (qR k) (some (double.write (.number false T (-1074 + ((min p 1020 : Nat) : Int))))) := write_in (k := .f64) (by omega) (qR_inf k (by omega)) (by rw [hval]; exact hT)
  obtain ⟨b, e5, hb⟩ := h4
  rw [h2] at e5
  cases e5
  rwa [show FloatKind.f64.format = double from rfl, (read_word_sign double false (Nat.lt_of_le_of_lt h1 inf_d)).1] at hb
end Go.Proofs.Yticmnkgcolgpaaa.Fl
