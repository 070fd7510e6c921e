/- Phasors: what is left of turns without whole ones. -/
import Derived.Test.YticmnkgcolgpaaaPhc
import Derived.Test.YticmnkgcolgpaaaAtg
namespace Go.Proofs.Yticmnkgcolgpaaa.Fl
open Go Go.RowKit Ieee
set_option linter.unusedVariables false
theorem word_of {c : Nat} (h : c < 18446744073709551616) : ∃ s, c = double.word s (c % 9223372036854775808) := by
  have hsw : double.signWeight = 9223372036854775808 := by decide
  rcases Nat.lt_or_ge c 9223372036854775808 with h1 | h1
  · exact ⟨false, by rw [word_f, Nat.mod_eq_of_lt h1]⟩
  · refine ⟨true, ?_⟩
    unfold Format.word
    rw [hsw]
    simp
    omega
theorem read_wordS {r : Nat} (s : Bool) (h : r < double.infRung) : double.read (double.word s r) = .number s (magOf double r) (-1074 + placeOf double r) := by
  obtain ⟨e1, e2⟩ := read_word_sign double s (Nat.lt_trans h inf_d)
  have h1 := read_rung .f64 (double.word s r) (by show double.word s r % double.signWeight < _; rw [e1]; exact h)
  have h2 : double.read (double.word s r) = .number (double.word s r / double.signWeight % 2 == 1) (magOf double (double.word s r % double.signWeight)) (double.leastPlace + placeOf double (double.word s r % double.signWeight)) := h1
  rw [h2, e1, e2, double_least]
theorem lt_zero_word {s : Bool} {r : Nat} (h : r < double.infRung) : (double.order (double.word s r) 0 == some Ordering.lt) = (s && decide (0 < r)) := by
  have h0 : double.read 0 = .number false 0 (-1074 + ((0 : Nat) : Int)) := by decide +kernel
  unfold Format.order
  rw [read_wordS s h, h0]
  obtain ⟨p, hp⟩ : ∃ p, placeOf double r = p := ⟨_, rfl⟩
  obtain ⟨m, hm⟩ : ∃ m, magOf double r = m := ⟨_, rfl⟩
  rw [hp, hm]
  obtain ⟨cc, hcc⟩ : ∃ cc, (compare (signed s m (-1074 + (p : Int) - min (-1074 + (p : Int)) (-1074 + ((0 : Nat) : Int))).toNat) (signed false 0 (-1074 + ((0 : Nat) : Int) - min (-1074 + (p : Int)) (-1074 + ((0 : Nat) : Int))).toNat)) = cc := ⟨_, rfl⟩
  have e0 : (Datum.number s m (-1074 + (p : Int))).order (Datum.number false 0 (-1074 + ((0 : Nat) : Int))) = some cc := by rw [← hcc]; rfl
  rw [e0]
  have g1 : ∀ m z : Nat, signed false m z = ((m * 2 ^ z : Nat) : Int) := fun m z => by unfold signed; rw [Nat.shiftLeft_eq]; rfl
  have g2 : ∀ m z : Nat, signed true m z = -((m * 2 ^ z : Nat) : Int) := fun m z => by unfold signed; rw [Nat.shiftLeft_eq]; rfl
  generalize (-1074 + (p : Int) - min (-1074 + (p : Int)) (-1074 + ((0 : Nat) : Int))).toNat = z at hcc
  rw [g1 0, Nat.zero_mul] at hcc
  have hmr : 0 < m ↔ 0 < r := by
    refine ⟨fun h => ?_, fun h => by rw [← hm]; exact mag_pos0 h⟩
    rcases Nat.eq_zero_or_pos r with e | e
    · exfalso
      rw [e] at hm
      have : magOf double 0 = 0 := by decide
      omega
    · exact e
  have hpz : 0 < 2 ^ z := Nat.two_pow_pos _
  have hmz : 0 < m * 2 ^ z ↔ 0 < m := ⟨fun h => Nat.pos_of_mul_pos_right h, fun h => Nat.mul_pos h hpz⟩
  cases s with
  | false =>
    rw [g1] at hcc
    generalize m * 2 ^ z = A at hcc hmz
    have : cc ≠ .lt := by
      rw [← hcc]
      simp only [compare, compareOfLessAndEq]
      split
      · omega
      · split <;> simp
    cases cc <;> simp at this ⊢
  | true =>
    rw [g2] at hcc
    generalize m * 2 ^ z = A at hcc hmz
    rw [Bool.true_and]
    by_cases hr : 0 < r
    · have hA : 0 < A := hmz.2 (hmr.2 hr)
      have : cc = .lt := by
        rw [← hcc]
        simp only [compare, compareOfLessAndEq]
        rw [if_pos (by omega)]
      rw [this, decide_eq_true hr]; rfl
    · have hA : A = 0 := by
        rcases Nat.eq_zero_or_pos A with e | e
        · exact e
        · exact absurd (hmr.1 (hmz.1 e)) hr
      have : cc = .eq := by
        rw [← hcc, hA]
        simp [compare, compareOfLessAndEq]
      rw [this, decide_eq_false hr]; rfl
theorem up_one {r : Nat} (hr : r ≤ R2 0) : ∃ r', aop .add .f64 (some (double.word true r)) (some ONE) = some (double.word false r') ∧ r' ≤ double.infRung := by
  have hri : r < double.infRung := Nat.lt_of_le_of_lt hr (R2_inf (by omega))
  obtain ⟨p, hpl⟩ : ∃ p, placeOf double r = p := ⟨_, rfl⟩
  obtain ⟨m, hm⟩ : ∃ m, magOf double r = m := ⟨_, rfl⟩
  have hq : double.read ONE = .number false 4503599627370496 (-1074 + ((1022 : Nat) : Int)) := by decide +kernel
  have hvq : vr double (R2 0) = 4503599627370496 * 2 ^ (1022 + lp double) := by decide +kernel
  have hge := vr_lt hr
  have e0 : aop .add .f64 (some (double.word true r)) (some ONE) = ((double.read (double.word true r)).sum (double.read ONE)).map double.write := rfl
  have q1 : (Datum.number true m (-1074 + (p : Int))).sum (Datum.number false 4503599627370496 (-1074 + ((1022 : Nat) : Int))) = some (.number (if signed true m (-1074 + (p : Int) - min (-1074 + (p : Int)) (-1074 + ((1022 : Nat) : Int))).toNat + signed false 4503599627370496 (-1074 + ((1022 : Nat) : Int) - min (-1074 + (p : Int)) (-1074 + ((1022 : Nat) : Int))).toNat = 0 then true && false else decide (signed true m (-1074 + (p : Int) - min (-1074 + (p : Int)) (-1074 + ((1022 : Nat) : Int))).toNat + signed false 4503599627370496 (-1074 + ((1022 : Nat) : Int) - min (-1074 + (p : Int)) (-1074 + ((1022 : Nat) : Int))).toNat < 0)) (signed true m (-1074 + (p : Int) - min (-1074 + (p : Int)) (-1074 + ((1022 : Nat) : Int))).toNat + signed false 4503599627370496 (-1074 + ((1022 : Nat) : Int) - min (-1074 + (p : Int)) (-1074 + ((1022 : Nat) : Int))).toNat).natAbs (min (-1074 + (p : Int)) (-1074 + ((1022 : Nat) : Int)))) := rfl
  have g1 : ∀ m z : Nat, signed false m z = ((m * 2 ^ z : Nat) : Int) := fun m z => by unfold signed; rw [Nat.shiftLeft_eq]; rfl
  have g2 : ∀ m z : Nat, signed true m z = -((m * 2 ^ z : Nat) : Int) := fun m z => by unfold signed; rw [Nat.shiftLeft_eq]; rfl
  rw [e0, read_wordS true hri, hm, hpl, hq, q1, g1, g2, show min (-1074 + (p : Int)) (-1074 + ((1022 : Nat) : Int)) = -1074 + ((min p 1022 : Nat) : Int) by omega, show (-1074 + (p : Int) - (-1074 + ((min p 1022 : Nat) : Int))).toNat = p - min p 1022 by omega, show (-1074 + ((1022 : Nat) : Int) - (-1074 + ((min p 1022 : Nat) : Int))).toNat = 1022 - min p 1022 by omega]
  have v1 : vr double r = m * 2 ^ (p - min p 1022) * 2 ^ (min p 1022 + lp double) := by unfold vr; rw [hpl, hm, Nat.mul_assoc, ← Nat.pow_add, show p - min p 1022 + (min p 1022 + lp double) = p + lp double by omega]
  have v2 : vr double (R2 0) = 4503599627370496 * 2 ^ (1022 - min p 1022) * 2 ^ (min p 1022 + lp double) := by rw [hvq, Nat.mul_assoc, ← Nat.pow_add, show 1022 - min p 1022 + (min p 1022 + lp double) = 1022 + lp double by omega]
  generalize hA : m * 2 ^ (p - min p 1022) = A at v1 ⊢
  generalize hB : 4503599627370496 * 2 ^ (1022 - min p 1022) = B at v2 ⊢
  have hpos : 0 < 2 ^ (min p 1022 + lp double) := Nat.two_pow_pos _
  have hBA : A ≤ B := by
    rw [v1, v2] at hge
    exact Nat.le_of_mul_le_mul_right hge hpos
  clear v1 v2 hge hvq hA hB
  obtain ⟨T, rfl⟩ : ∃ T, B = A + T := ⟨B - A, by omega⟩
  have hz : (if -((A : Nat) : Int) + ((A + T : Nat) : Int) = 0 then true && false else decide (-((A : Nat) : Int) + ((A + T : Nat) : Int) < 0)) = false := by
    split
    · rfl
    · exact decide_eq_false (by omega)
  rw [hz, show (-((A : Nat) : Int) + ((A + T : Nat) : Int)).natAbs = T by omega]
  obtain ⟨r', h1, h2, _⟩ := pos_word (m := T) (i := -1074 + ((min p 1022 : Nat) : Int)) (by omega)
  exact ⟨r', congrArg some h2, h1⟩
/-- What is left of turns: -0, or no less than 0 and at most 2. -/
theorem frac_form {c : Nat} (hc : av .f64 c = some c) (hlt : c < 18446744073709551616) (h : P2 0 (some c)) : ∃ c0, fr1 (some c) = some c0 ∧ av .f64 c0 = some c0 ∧ (c0 = double.word true 0 ∨ ∃ r, c0 = double.word false r ∧ r ≤ R2 1) := by
  obtain ⟨s, hs⟩ := word_of hlt
  obtain ⟨b, e, hb⟩ := h
  cases e
  have hsw : FloatKind.f64.format.signWeight = 9223372036854775808 := by decide
  rw [hsw] at hb
  obtain ⟨r, hr⟩ : ∃ r, c % 9223372036854775808 = r := ⟨_, rfl⟩
  rw [hr] at hs hb
  have hri : r < double.infRung := Nat.lt_of_le_of_lt hb (R2_inf (by omega))
  have hord : (aord .f64 (some c) (some 0) == some Ordering.lt) = (s && decide (0 < r)) := by
    have h1 := aord_order .f64 c 0
    rw [hc, av_zero .f64] at h1
    rw [← h1, hs]
    exact lt_zero_word hri
  unfold fr1
  rw [hord]
  cases s with
  | false => exact ⟨c, rfl, hc, .inr ⟨r, hs, Nat.le_trans hb (R2_mono (by omega))⟩⟩
  | true =>
    by_cases h0 : 0 < r
    · rw [Bool.true_and, if_pos (decide_eq_true h0)]
      have hp := P2.add (c := 0) (show P2 0 (some c) from ⟨c, rfl, by rw [hsw, hr]; exact hb⟩) P2_one (Nat.le_refl _) (Nat.le_refl _) (by omega)
      obtain ⟨r', e', hinf⟩ := up_one hb
      rw [← hs] at e'
      rw [e'] at hp ⊢
      have hav := aop_av e'
      refine ⟨_, rfl, hav, .inr ⟨r', rfl, ?_⟩⟩
      obtain ⟨z, e2, hz⟩ := hp
      cases e2
      rwa [show FloatKind.f64.format = double from rfl, (read_word_sign double false (Nat.lt_of_le_of_lt hinf inf_d)).1] at hz
    · rw [Bool.true_and, if_neg (by rw [decide_eq_false h0]; decide)]
      obtain rfl : r = 0 := by omega
      exact ⟨c, rfl, hc, .inl hs⟩
end Go.Proofs.Yticmnkgcolgpaaa.Fl
