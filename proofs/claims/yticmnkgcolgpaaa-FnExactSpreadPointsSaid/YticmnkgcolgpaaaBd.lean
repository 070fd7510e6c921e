/- Bounds: a number that is written does not pass a word that it did not pass before. -/
import Derived.Test.YticmnkgcolgpaaaFl
namespace Go.Proofs.Yticmnkgcolgpaaa.Fl
open Go Ieee

/-- What is cut does not pass a whole number that it did not pass before. -/
theorem cut_le (neg : Bool) (n d T : Nat) (h : n ≤ T * 2 ^ d) : Toward.even.cut neg n d ≤ T := by
  unfold Toward.cut
  simp only []
  by_cases hd : d ≤ n.log2 + 2
  · have hg : 1 <<< min d (n.log2 + 2) = 2 ^ d := by rw [Nat.min_eq_left hd, Nat.shiftLeft_eq, Nat.one_mul]
    rw [hg]
    have hp : 0 < 2 ^ d := Nat.two_pow_pos _
    have hlow : n / 2 ^ d ≤ T := Nat.div_le_of_le_mul (by rw [Nat.mul_comm]; exact h)
    by_cases he : n / 2 ^ d = T
    · have hr : n % 2 ^ d = 0 := by
        have := Nat.div_add_mod n (2 ^ d)
        rw [he, Nat.mul_comm] at this
        omega
      rw [hr, he]
      have : ¬ (2 ^ d < 2 * 0) := by omega
      have h2 : (2 ^ d == 2 * 0) = false := by rw [beq_eq_false_iff_ne]; omega
      simp [h2]
    · have h1 : (decide (2 ^ d < 2 * (n % 2 ^ d)) || 2 ^ d == 2 * (n % 2 ^ d) && n / 2 ^ d % 2 == 1).toNat ≤ 1 := Bool.toNat_le _
      omega
  · have hg : 1 <<< min d (n.log2 + 2) = 2 ^ (n.log2 + 2) := by rw [Nat.min_eq_right (by omega), Nat.shiftLeft_eq, Nat.one_mul]
    rw [hg]
    have hn : n < 2 ^ (n.log2 + 1) := Nat.lt_log2_self
    have hp : 2 ^ (n.log2 + 2) = 2 * 2 ^ (n.log2 + 1) := by rw [Nat.pow_succ 2 (n.log2 + 1), Nat.mul_comm]
    rw [hp]
    rw [Nat.div_eq_of_lt (by omega), Nat.mod_eq_of_lt (by omega)]
    have h2 : (2 * 2 ^ (n.log2 + 1) == 2 * n) = false := by rw [beq_eq_false_iff_ne]; omega
    have h3 : decide (2 * 2 ^ (n.log2 + 1) < 2 * n) = false := by rw [decide_eq_false_iff_not]; omega
    rw [h2, h3]; simp

theorem cut_ge (neg : Bool) (n d T : Nat) (h : T * 2 ^ d ≤ n) : T ≤ Toward.even.cut neg n d := by
  unfold Toward.cut
  simp only []
  by_cases hd : d ≤ n.log2 + 2
  · have hg : 1 <<< min d (n.log2 + 2) = 2 ^ d := by rw [Nat.min_eq_left hd, Nat.shiftLeft_eq, Nat.one_mul]
    rw [hg]
    have hlow : T ≤ n / 2 ^ d := (Nat.le_div_iff_mul_le (Nat.two_pow_pos _)).2 h
    omega
  · have hn : n < 2 ^ (n.log2 + 1) := Nat.lt_log2_self
    have hp : 2 ^ (n.log2 + 1) ≤ 2 ^ d := Nat.pow_le_pow_right (by omega) (by omega)
    have : T = 0 := by
      rcases Nat.eq_zero_or_pos T with h0 | h0
      · exact h0
      · have h1 : 1 * 2 ^ d ≤ T * 2 ^ d := Nat.mul_le_mul_right _ h0
        rw [Nat.one_mul] at h1
        exact absurd (Nat.lt_of_lt_of_le hn (Nat.le_trans hp (Nat.le_trans h1 h))) (Nat.lt_irrefl _)
    rw [this]; exact Nat.zero_le _

/-- The magnitude and the place of a rung. -/
def magOf (f : Format) (R : Nat) : Nat := if R < f.binade then R else f.binade + R % f.binade
def placeOf (f : Format) (R : Nat) : Nat := if R < f.binade then 0 else R / f.binade - 1

theorem rung_of (f : Format) (R : Nat) : placeOf f R * f.binade + magOf f R = R := by
  have hb : 0 < f.binade := Nat.two_pow_pos _
  unfold placeOf magOf
  split
  · omega
  · rename_i h
    have h1 : 1 ≤ R / f.binade := (Nat.le_div_iff_mul_le hb).2 (by omega)
    have := Nat.div_add_mod R f.binade
    rw [Nat.mul_comm] at this
    rw [Nat.sub_mul]
    have h2 : f.binade ≤ R / f.binade * f.binade := by simpa using Nat.mul_le_mul_right f.binade h1
    omega

theorem mag_lt (f : Format) (R : Nat) : magOf f R < 2 ^ (f.fractionBits + 1) := by
  have hb : 0 < f.binade := Nat.two_pow_pos _
  have e : 2 ^ (f.fractionBits + 1) = 2 * f.binade := by unfold Format.binade; rw [Nat.pow_succ, Nat.mul_comm]
  rw [e]
  unfold magOf
  split
  · omega
  · have := Nat.mod_lt R hb; omega

theorem mag_ge (f : Format) (R : Nat) (h : 0 < placeOf f R) : 2 ^ f.fractionBits ≤ magOf f R := by
  unfold placeOf at h
  unfold magOf
  split at h
  · omega
  · rename_i h1; rw [if_neg h1]; exact Nat.le_add_right _ _

theorem shift_le {m T P L : Nat} (h : m * 2 ^ P ≤ T * 2 ^ L) : m <<< (P - L) ≤ T * 2 ^ (L - P) := by
  rw [Nat.shiftLeft_eq]
  rcases Nat.le_total L P with hlp | hlp
  · obtain ⟨d, rfl⟩ := Nat.exists_eq_add_of_le hlp
    rw [Nat.add_sub_cancel_left, show L - (L + d) = 0 by omega, Nat.pow_zero, Nat.mul_one]
    rw [Nat.pow_add, Nat.mul_comm (2 ^ L), ← Nat.mul_assoc] at h
    exact Nat.le_of_mul_le_mul_right h (Nat.two_pow_pos _)
  · obtain ⟨d, rfl⟩ := Nat.exists_eq_add_of_le hlp
    rw [Nat.add_sub_cancel_left, show P - (P + d) = 0 by omega, Nat.pow_zero, Nat.mul_one]
    rw [Nat.pow_add, Nat.mul_comm (2 ^ P), ← Nat.mul_assoc] at h
    exact Nat.le_of_mul_le_mul_right h (Nat.two_pow_pos _)
theorem shift_ge {m T P L : Nat} (h : T * 2 ^ L ≤ m * 2 ^ P) : T * 2 ^ (L - P) ≤ m <<< (P - L) := by
  rw [Nat.shiftLeft_eq]
  rcases Nat.le_total L P with hlp | hlp
  · obtain ⟨d, rfl⟩ := Nat.exists_eq_add_of_le hlp
    rw [Nat.add_sub_cancel_left, show L - (L + d) = 0 by omega, Nat.pow_zero, Nat.mul_one]
    rw [Nat.pow_add, Nat.mul_comm (2 ^ L), ← Nat.mul_assoc] at h
    exact Nat.le_of_mul_le_mul_right h (Nat.two_pow_pos _)
  · obtain ⟨d, rfl⟩ := Nat.exists_eq_add_of_le hlp
    rw [Nat.add_sub_cancel_left, show P - (P + d) = 0 by omega, Nat.pow_zero, Nat.mul_one]
    rw [Nat.pow_add, Nat.mul_comm (2 ^ P), ← Nat.mul_assoc] at h
    exact Nat.le_of_mul_le_mul_right h (Nat.two_pow_pos _)

/-- The rung that 'nearest' finds; all places counted from 'b'. -/
theorem nearest_rung (f : Format) (neg : Bool) (m : Nat) (b : Int) (P Le : Nat) (hm : m ≠ 0) (hle : f.leastPlace = b + Le) :
    ∃ La, La = max (P + m.log2 - f.fractionBits) Le ∧ f.nearest neg m (b + P) = f.word neg (min ((La - Le) * f.binade + Toward.even.cut neg (m <<< (P - La)) (La - P)) f.infRung) ∨ f.fractionBits > P + m.log2 := by
  by_cases hf : f.fractionBits > P + m.log2
  · exact ⟨0, .inr hf⟩
  · refine ⟨max (P + m.log2 - f.fractionBits) Le, .inl ⟨rfl, ?_⟩⟩
    unfold Format.nearest
    rw [if_neg hm]
    simp only [hle]
    have e : max (b + (P : Int) + (m.log2 : Int) - (f.fractionBits : Int)) (b + (Le : Int)) = b + ((max (P + m.log2 - f.fractionBits) Le : Nat) : Int) := by omega
    rw [e]
    generalize max (P + m.log2 - f.fractionBits) Le = La
    have e1 : (b + (P : Int) - (b + (La : Int))).toNat = P - La := by omega
    have e2 : (b + (La : Int) - (b + (P : Int))).toNat = La - P := by omega
    have e3 : (b + (La : Int) - (b + (Le : Int))).toNat = La - Le := by omega
    rw [e1, e2, e3]

theorem pow_log_le (m P : Nat) (hm : m ≠ 0) : 2 ^ (m.log2 + P) ≤ m * 2 ^ P := by
  rw [Nat.pow_add]; exact Nat.mul_le_mul_right _ (Nat.log2_self_le hm)
theorem lt_pow_log (m P : Nat) : m * 2 ^ P < 2 ^ (m.log2 + 1 + P) := by
  rw [Nat.pow_add]; exact Nat.mul_lt_mul_of_pos_right Nat.lt_log2_self (Nat.two_pow_pos _)

/-- WHAT IS WRITTEN DOES NOT PASS A WORD THAT IT DID NOT PASS. -/
theorem nearest_le (f : Format) (neg : Bool) (m : Nat) (b : Int) (P Le R : Nat) (hle : f.leastPlace = b + Le) (hP : f.fractionBits ≤ P)
    (h : m * 2 ^ P ≤ magOf f R * 2 ^ (placeOf f R + Le)) : ∃ r, r ≤ R ∧ f.nearest neg m (b + P) = f.word neg r := by
  by_cases hm : m = 0
  · subst hm
    exact ⟨0, Nat.zero_le _, by simp [Format.nearest]⟩
  obtain ⟨La, hLa⟩ := nearest_rung f neg m b P Le hm hle
  rcases hLa with h0 | h0
  rotate_left
  · omega
  obtain ⟨hLa, e⟩ := h0
  refine ⟨_, ?_, e⟩
  refine Nat.le_trans (Nat.min_le_left _ _) ?_
  have hb : 0 < f.binade := Nat.two_pow_pos _
  have hr := rung_of f R
  have hlo := pow_log_le m P hm
  have hhi := lt_pow_log m P
  rcases Nat.lt_trichotomy La (placeOf f R + Le) with h1 | h1 | h1
  · -- the last place lies below
    have hk : Toward.even.cut neg (m <<< (P - La)) (La - P) ≤ 2 * f.binade := by
      refine cut_le _ _ _ _ (shift_le ?_)
      have e2 : 2 * f.binade * 2 ^ La = 2 ^ (f.fractionBits + 1 + La) := by unfold Format.binade; rw [Nat.pow_add, Nat.pow_succ, Nat.mul_comm 2]
      rw [e2]
      exact Nat.le_trans (Nat.le_of_lt hhi) (Nat.pow_le_pow_right (by omega) (by omega))
    have hq : 0 < placeOf f R := by omega
    have hg := mag_ge f R hq
    have e3 : (La - Le) * f.binade + 2 * f.binade = (La - Le + 2) * f.binade := by rw [Nat.add_mul]
    have e4 : (La - Le + 2) * f.binade ≤ (placeOf f R + 1) * f.binade := Nat.mul_le_mul_right _ (by omega)
    rw [Nat.add_mul (placeOf f R) 1, Nat.one_mul] at e4
    have : f.binade ≤ magOf f R := hg
    omega
  · -- the same place
    have hk : Toward.even.cut neg (m <<< (P - La)) (La - P) ≤ magOf f R := cut_le _ _ _ _ (shift_le (by rw [h1]; exact h))
    have e5 : La - Le = placeOf f R := by omega
    rw [e5]
    omega
  · -- above: then it did pass
    exfalso
    have hm' := mag_lt f R
    have h2 : magOf f R * 2 ^ (placeOf f R + Le) < 2 ^ (f.fractionBits + 1 + (placeOf f R + Le)) := by
      rw [Nat.pow_add 2 (f.fractionBits + 1)]
      exact Nat.mul_lt_mul_of_pos_right hm' (Nat.two_pow_pos _)
    have h3 : 2 ^ (f.fractionBits + 1 + (placeOf f R + Le)) ≤ 2 ^ (m.log2 + P) := Nat.pow_le_pow_right (by omega) (by omega)
    omega

theorem nearest_ge (f : Format) (neg : Bool) (m : Nat) (b : Int) (P Le R : Nat) (hle : f.leastPlace = b + Le) (hP : f.fractionBits ≤ P) (hR : R ≤ f.infRung)
    (h : magOf f R * 2 ^ (placeOf f R + Le) ≤ m * 2 ^ P) : ∃ r, R ≤ r ∧ r ≤ f.infRung ∧ f.nearest neg m (b + P) = f.word neg r := by
  by_cases hm : m = 0
  · subst hm
    have h0 : magOf f R = 0 := by
      have hp : 0 < 2 ^ (placeOf f R + Le) := Nat.two_pow_pos _
      rw [Nat.zero_mul] at h
      rcases Nat.eq_zero_or_pos (magOf f R) with h1 | h1
      · exact h1
      · have := Nat.mul_pos h1 hp; omega
    have hr := rung_of f R
    have : placeOf f R = 0 := by
      rcases Nat.eq_zero_or_pos (placeOf f R) with h1 | h1
      · exact h1
      · have := mag_ge f R h1; have := Nat.two_pow_pos f.fractionBits; omega
    rw [this, h0] at hr
    exact ⟨0, by omega, Nat.zero_le _, by simp [Format.nearest]⟩
  obtain ⟨La, hLa⟩ := nearest_rung f neg m b P Le hm hle
  rcases hLa with h0 | h0
  rotate_left
  · omega
  obtain ⟨hLa, e⟩ := h0
  refine ⟨_, ?_, Nat.min_le_right _ _, e⟩
  refine Nat.le_min.2 ⟨?_, hR⟩
  have hb : 0 < f.binade := Nat.two_pow_pos _
  have hr := rung_of f R
  have hlo := pow_log_le m P hm
  have hhi := lt_pow_log m P
  rcases Nat.lt_trichotomy La (placeOf f R + Le) with h1 | h1 | h1
  · exfalso
    have hq : 0 < placeOf f R := by omega
    have hg := mag_ge f R hq
    have h2 : 2 ^ (f.fractionBits + (placeOf f R + Le)) ≤ magOf f R * 2 ^ (placeOf f R + Le) := by
      rw [Nat.pow_add]; exact Nat.mul_le_mul_right _ hg
    have h3 : 2 ^ (m.log2 + 1 + P) ≤ 2 ^ (f.fractionBits + (placeOf f R + Le)) := Nat.pow_le_pow_right (by omega) (by omega)
    omega
  · have hk : magOf f R ≤ Toward.even.cut neg (m <<< (P - La)) (La - P) := cut_ge _ _ _ _ (shift_ge (by rw [h1]; exact h))
    have e5 : La - Le = placeOf f R := by omega
    rw [e5]
    omega
  · have hk : f.binade ≤ Toward.even.cut neg (m <<< (P - La)) (La - P) := by
      refine cut_ge _ _ _ _ (shift_ge ?_)
      have e2 : f.binade * 2 ^ La = 2 ^ (f.fractionBits + La) := by unfold Format.binade; rw [Nat.pow_add]
      rw [e2]
      exact Nat.le_trans (Nat.pow_le_pow_right (by omega) (by omega)) hlo
    have hm' : magOf f R < 2 * f.binade := by
      have := mag_lt f R
      have e : 2 ^ (f.fractionBits + 1) = 2 * f.binade := by unfold Format.binade; rw [Nat.pow_succ, Nat.mul_comm]
      omega
    have e4 : (placeOf f R + 1) * f.binade ≤ (La - Le) * f.binade := Nat.mul_le_mul_right _ (by omega)
    rw [Nat.add_mul, Nat.one_mul] at e4
    omega

end Go.Proofs.Yticmnkgcolgpaaa.Fl
