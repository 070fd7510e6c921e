/- Angles: the quotient of two magnitudes. -/
import Derived.Test.YticmnkgcolgpaaaAtc
namespace Go.Proofs.Yticmnkgcolgpaaa.Fl
open Go Go.RowKit Ieee
set_option linter.unusedVariables false
theorem word_f (a : Nat) : double.word false a = a := by unfold Format.word; simp
theorem order_vr {a b : Nat} (ha : a < double.infRung) (hb : b < double.infRung) : (FloatKind.f64.format.order a b == some Ordering.gt) = decide (vr double b < vr double a) := by
  have h1 := word_read ha
  have h2 := word_read hb
  rw [word_f] at h1 h2
  show (double.order a b == some Ordering.gt) = _
  unfold Format.order
  rw [h1, h2]
  obtain ⟨p, hp⟩ : ∃ p, placeOf double a = p := ⟨_, rfl⟩
  obtain ⟨q, hq⟩ : ∃ q, placeOf double b = q := ⟨_, rfl⟩
  obtain ⟨m, hm⟩ : ∃ m, magOf double a = m := ⟨_, rfl⟩
  obtain ⟨n, hn⟩ : ∃ n, magOf double b = n := ⟨_, rfl⟩
  rw [hp, hq, hm, hn]
  show (some (compare (signed false m (-1074 + (p : Int) - min (-1074 + (p : Int)) (-1074 + (q : Int))).toNat) (signed false n (-1074 + (q : Int) - min (-1074 + (p : Int)) (-1074 + (q : Int))).toNat)) == some Ordering.gt) = _
  have g1 : ∀ m z : Nat, signed false m z = ((m * 2 ^ z : Nat) : Int) := fun m z => by unfold signed; rw [Nat.shiftLeft_eq]; rfl
  rw [g1, g1, show (-1074 + (p : Int) - min (-1074 + (p : Int)) (-1074 + (q : Int))).toNat = p - min p q by omega, show (-1074 + (q : Int) - min (-1074 + (p : Int)) (-1074 + (q : Int))).toNat = q - min p q by omega]
  have e1 : vr double a = m * 2 ^ (p - min p q) * 2 ^ (min p q + lp double) := by unfold vr; rw [hp, hm, Nat.mul_assoc, ← Nat.pow_add, show p - min p q + (min p q + lp double) = p + lp double by omega]
  have e2 : vr double b = n * 2 ^ (q - min p q) * 2 ^ (min p q + lp double) := by unfold vr; rw [hq, hn, Nat.mul_assoc, ← Nat.pow_add, show q - min p q + (min p q + lp double) = q + lp double by omega]
  rw [e1, e2]
  have hpos : 0 < 2 ^ (min p q + lp double) := Nat.two_pow_pos _
  generalize 2 ^ (min p q + lp double) = E at hpos
  generalize m * 2 ^ (p - min p q) = A
  generalize n * 2 ^ (q - min p q) = B
  have hiff : B * E < A * E ↔ B < A := ⟨fun h => Nat.lt_of_mul_lt_mul_right h, fun h => Nat.mul_lt_mul_of_pos_right h hpos⟩
  rw [Bool.eq_iff_iff, decide_eq_true_iff, hiff]
  rcases Nat.lt_trichotomy A B with h | h | h
  · have hc : compare (A : Int) (B : Int) = .lt := by simp only [compare, compareOfLessAndEq]; rw [if_pos (by omega)]
    rw [hc]; simp; omega
  · have hc : compare (A : Int) (B : Int) = .eq := by simp only [compare, compareOfLessAndEq]; rw [if_neg (by omega), if_pos (by omega)]
    rw [hc]; simp; omega
  · have hc : compare (A : Int) (B : Int) = .gt := by simp only [compare, compareOfLessAndEq]; rw [if_neg (by omega), if_neg (by omega)]
    rw [hc]; simp; omega
theorem mag_pos0 {d : Nat} (h : 0 < d) : 0 < magOf double d := by
  rcases Nat.eq_zero_or_pos (magOf double d) with e | e
  · exfalso
    have h1 := rung_of double d
    have hb : double.binade = 4503599627370496 := by decide
    unfold magOf at e
    unfold placeOf magOf at h1
    rw [hb] at e h1
    split at e <;> omega
  · exact e
/-- The lesser magnitude by the greater one. -/
def lessQ (a b : Nat) : Option Nat := if (FloatKind.f64.format.order a b == some Ordering.gt) = true then aop .quo .f64 (some b) (some a) else aop .quo .f64 (some a) (some b)
theorem lessQ_in {a b : Nat} (ha : a ≤ R2 128) (hb : b ≤ R2 128) (h0 : 0 < a ∨ 0 < b) : Pz 0 (lessQ a b) := by
  have hai : a < double.infRung := Nat.lt_of_le_of_lt ha (R2_inf (by omega))
  have hbi : b < double.infRung := Nat.lt_of_le_of_lt hb (R2_inf (by omega))
  unfold lessQ
  rw [order_vr hai hbi]
  have hz : vr double 0 = 0 := by decide +kernel
  by_cases h : vr double b < vr double a
  · rw [if_pos (decide_eq_true h)]
    have ha0 : 0 < a := by
      rcases Nat.eq_zero_or_pos a with e | e
      · rw [e, hz] at h; omega
      · exact e
    have := Pz.quo (r := b) (d := a) (B := 128) hbi ha (by omega) (mag_pos0 ha0) (Nat.le_of_lt h)
    rwa [word_f, word_f] at this
  · rw [if_neg (by rw [decide_eq_false h]; decide)]
    have hb0 : 0 < b := by
      rcases Nat.eq_zero_or_pos b with e | e
      · exfalso
        rw [e, hz] at h
        have ha0 : 0 < a := by omega
        have h1 : 0 < vr double a := by unfold vr; exact Nat.mul_pos (mag_pos0 ha0) (Nat.two_pow_pos _)
        omega
      · exact e
    have := Pz.quo (r := a) (d := b) (B := 128) hai hb (by omega) (mag_pos0 hb0) (Nat.le_of_not_lt h)
    rwa [word_f, word_f] at this
/-- The angle of magnitudes and signs. -/
def angV (a b : Nat) (xn yn : Bool) : Option Nat :=
  let st := stV (lessQ a b)
  let v1 := if (FloatKind.f64.format.order a b == some Ordering.gt) = true then aop .sub .f64 (some QUART) st else st
  let v2 := if xn = true then aop .sub .f64 (some HALF) v1 else v1
  if yn = true then negA .f64 v2 else v2
end Go.Proofs.Yticmnkgcolgpaaa.Fl
