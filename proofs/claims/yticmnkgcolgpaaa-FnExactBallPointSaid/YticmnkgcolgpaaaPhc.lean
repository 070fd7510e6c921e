/- Phasors: how many quarters there are. -/
import Derived.Test.YticmnkgcolgpaaaPhb
namespace Go.Proofs.Yticmnkgcolgpaaa.Fl
open Go Go.RowKit Ieee
set_option linter.unusedVariables false
theorem order_ge {a b : Nat} (ha : a < double.infRung) (hb : b < double.infRung) : (FloatKind.f64.format.order a b == some Ordering.gt || FloatKind.f64.format.order a b == some Ordering.eq) = decide (vr double b ≤ vr double a) := by
  have h1 := word_read ha
  have h2 := word_read hb
  rw [word_f] at h1 h2
  show (double.order a b == some Ordering.gt || double.order a b == some Ordering.eq) = _
  unfold Format.order
  rw [h1, h2]
  obtain ⟨p, hp⟩ : ∃ p, placeOf double a = p := ⟨_, rfl⟩
  obtain ⟨q, hq⟩ : ∃ q, placeOf double b = q := ⟨_, rfl⟩
  obtain ⟨m, hm⟩ : ∃ m, magOf double a = m := ⟨_, rfl⟩
  obtain ⟨n, hn⟩ : ∃ n, magOf double b = n := ⟨_, rfl⟩
  rw [hp, hq, hm, hn]
  obtain ⟨cc, hcc⟩ : ∃ cc, (compare (signed false m (-1074 + (p : Int) - min (-1074 + (p : Int)) (-1074 + (q : Int))).toNat) (signed false n (-1074 + (q : Int) - min (-1074 + (p : Int)) (-1074 + (q : Int))).toNat)) = cc := ⟨_, rfl⟩
  have e0 : (Datum.number false m (-1074 + (p : Int))).order (Datum.number false n (-1074 + (q : Int))) = some cc := by rw [← hcc]; rfl
  rw [e0]
  have g1 : ∀ m z : Nat, signed false m z = ((m * 2 ^ z : Nat) : Int) := fun m z => by unfold signed; rw [Nat.shiftLeft_eq]; rfl
  rw [g1, g1, show (-1074 + (p : Int) - min (-1074 + (p : Int)) (-1074 + (q : Int))).toNat = p - min p q by omega, show (-1074 + (q : Int) - min (-1074 + (p : Int)) (-1074 + (q : Int))).toNat = q - min p q by omega] at hcc
  have e1 : vr double a = m * 2 ^ (p - min p q) * 2 ^ (min p q + lp double) := by unfold vr; rw [hp, hm, Nat.mul_assoc, ← Nat.pow_add, show p - min p q + (min p q + lp double) = p + lp double by omega]
  have e2 : vr double b = n * 2 ^ (q - min p q) * 2 ^ (min p q + lp double) := by unfold vr; rw [hq, hn, Nat.mul_assoc, ← Nat.pow_add, show q - min p q + (min p q + lp double) = q + lp double by omega]
  rw [e1, e2]
  have hpos : 0 < 2 ^ (min p q + lp double) := Nat.two_pow_pos _
  generalize 2 ^ (min p q + lp double) = E at hpos
  generalize m * 2 ^ (p - min p q) = A at hcc ⊢
  generalize n * 2 ^ (q - min p q) = B at hcc ⊢
  have hiff : B * E ≤ A * E ↔ B ≤ A := ⟨fun h => Nat.le_of_mul_le_mul_right h hpos, fun h => Nat.mul_le_mul_right _ h⟩
  rw [Bool.eq_iff_iff, decide_eq_true_iff, hiff]
  rcases Nat.lt_trichotomy A B with h | h | h
  · have hc : compare (A : Int) (B : Int) = .lt := by simp only [compare, compareOfLessAndEq]; rw [if_pos (by omega)]
    rw [hc] at hcc; subst hcc; simp; omega
  · have hc : compare (A : Int) (B : Int) = .eq := by simp only [compare, compareOfLessAndEq]; rw [if_neg (by omega), if_pos (by omega)]
    rw [hc] at hcc; subst hcc; simp; omega
  · have hc : compare (A : Int) (B : Int) = .gt := by simp only [compare, compareOfLessAndEq]; rw [if_neg (by omega), if_neg (by omega)]
    rw [hc] at hcc; subst hcc; simp; omega
/-- Quarters taken off. -/
def gF (v : Option Nat) : Nat → Option Nat
  | 0 => v
  | k + 1 => aop .sub .f64 (gF v k) (some QUART)
theorem gF_more (v : Option Nat) : ∀ k, gF v (k + 1) = gF (aop .sub .f64 v (some QUART)) k
  | 0 => rfl
  | k + 1 => by show aop .sub .f64 (gF v (k + 1)) _ = aop .sub .f64 (gF _ k) _; rw [gF_more v k]
theorem quart_word : QUART = double.word false (qR 1) := by decide
theorem quarters : ∀ {k r : Nat}, k ≤ 8 → r ≤ qR k → ∃ q g, q ≤ k ∧ gF (some (double.word false r)) q = some (double.word false g) ∧ g < qR 1 ∧ ∀ j, j < q → ∃ rj, gF (some (double.word false r)) j = some (double.word false rj) ∧ qR 1 ≤ rj ∧ rj ≤ R2 1
  | 0, r, _, hr => ⟨0, r, Nat.le_refl _, rfl, Nat.lt_of_le_of_lt hr (by decide), fun j hj => absurd hj (Nat.not_lt_zero _)⟩
  | k + 1, r, hk, hr => by
    rcases Nat.lt_or_ge r (qR 1) with h | h
    · exact ⟨0, r, Nat.zero_le _, rfl, h, fun j hj => absurd hj (Nat.not_lt_zero _)⟩
    · obtain ⟨r', e, hr'⟩ := quarter_less hk hr h
      obtain ⟨q, g, h1, h2, h3, h4⟩ := quarters (k := k) (r := r') (by omega) hr'
      refine ⟨q + 1, g, by omega, by rw [gF_more, e]; exact h2, h3, fun j hj => ?_⟩
      cases j with
      | zero => exact ⟨r, rfl, h, Nat.le_trans hr (qR_mono _ hk)⟩
      | succ j =>
        obtain ⟨rj, g1, g2, g3⟩ := h4 j (by omega)
        exact ⟨rj, by rw [gF_more, e]; exact g1, g2, g3⟩
/-- The test of the loop. -/
theorem quart_test {r : Nat} (h : r ≤ R2 1) : (FloatKind.f64.format.order (double.word false r) QUART == some Ordering.gt || FloatKind.f64.format.order (double.word false r) QUART == some Ordering.eq) = decide (qR 1 ≤ r) := by
  have hr : r < double.infRung := Nat.lt_of_le_of_lt h (R2_inf (by omega))
  have hq : qR 1 < double.infRung := qR_inf 1 (by omega)
  have e : QUART = qR 1 := rfl
  rw [word_f, e, order_ge hr hq, Bool.eq_iff_iff, decide_eq_true_iff, decide_eq_true_iff]
  refine ⟨fun h1 => ?_, fun h1 => vr_lt h1⟩
  rcases Nat.lt_or_ge r (qR 1) with h2 | h2
  · exfalso
    have h3 := vr_lt (Nat.le_sub_one_of_lt h2)
    have h4 : vr double (qR 1 - 1) < vr double (qR 1) := by decide +kernel
    omega
  · exact h2
end Go.Proofs.Yticmnkgcolgpaaa.Fl
