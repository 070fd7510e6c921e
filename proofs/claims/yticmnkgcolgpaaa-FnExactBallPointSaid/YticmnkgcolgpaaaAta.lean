/- Angles: numbers with no sign, their quotients, the halved tangent. -/
import Derived.Test.YticmnkgcolgpaaaSine
import Derived.Test.YticmnkgcolgpaaaRoot
namespace Go.Proofs.Yticmnkgcolgpaaa.Fl
open Go Go.RowKit Ieee
set_option linter.unusedVariables false
def ONEW : Nat := 4607182418800017408
theorem vr_onew : vr double ONEW = 2 ^ K0 := by decide +kernel
theorem inf_d : double.infRung < double.signWeight := double.infRung_lt
theorem pos_word {m : Nat} {i : Int} (hi : -9900 ≤ i) : ∃ r, r ≤ double.infRung ∧ double.write (.number false m i) = double.word false r ∧ ∀ Q, Q ≤ double.infRung → vr double Q ≤ val m i → Q ≤ r := by
  have hK := K0_eq
  have e : i = -(K0 : Int) + ((i + (K0 : Int)).toNat : Int) := by omega
  have hf : double.fractionBits ≤ (i + (K0 : Int)).toNat := by
    have : double.fractionBits = 52 := by decide
    omega
  have key : ∀ Q, Q ≤ double.infRung → vr double Q ≤ val m i → ∃ r, Q ≤ r ∧ r ≤ double.infRung ∧ double.write (.number false m i) = double.word false r := fun Q hQ h => by
    have h2 := nearest_ge double false m (-(K0 : Int)) (i + (K0 : Int)).toNat (lp double) Q (lp_least .f64) hf hQ h
    rw [← e] at h2
    exact h2
  obtain ⟨r, _, h1, h2⟩ := key 0 (Nat.zero_le _) (by
    have : vr double 0 = 0 := by decide +kernel
    rw [this]; exact Nat.zero_le _)
  refine ⟨r, h1, h2, fun Q hQ h => ?_⟩
  obtain ⟨r', g1, g2, g3⟩ := key Q hQ h
  have e1 := (read_word_sign double false (Nat.lt_of_le_of_lt h1 inf_d)).1
  have e2 := (read_word_sign double false (Nat.lt_of_le_of_lt g2 inf_d)).1
  rw [← h2, g3, e2] at e1
  omega
/-- A number with no sign that is at most 2 to the power of B. -/
def Pz (B : Nat) (v : Option Nat) : Prop := ∃ r, v = some (double.word false r) ∧ r ≤ R2 B
theorem R2_inf {B : Nat} (hB : B ≤ 1000) : R2 B < double.infRung := R2_lt B hB
theorem Pz.p2 {B : Nat} {v : Option Nat} (h : Pz B v) (hB : B ≤ 1000) : P2 B v := by
  obtain ⟨r, rfl, hr⟩ := h
  have e := (read_word_sign double false (Nat.lt_trans (Nat.lt_of_le_of_lt hr (R2_inf hB)) inf_d)).1
  exact ⟨_, rfl, by show double.word false r % double.signWeight ≤ _; rw [e]; exact hr⟩
theorem word_read {r : Nat} (h : r < double.infRung) : double.read (double.word false r) = .number false (magOf double r) (-1074 + placeOf double r) := by
  obtain ⟨e1, e2⟩ := read_word_sign double false (Nat.lt_trans h inf_d)
  have h1 := read_rung .f64 (double.word false r) (by show double.word false r % double.signWeight < _; rw [e1]; exact h)
  have h2 : double.read (double.word false r) = .number (double.word false r / double.signWeight % 2 == 1) (magOf double (double.word false r % double.signWeight)) (double.leastPlace + placeOf double (double.word false r % double.signWeight)) := h1
  rw [h2, e1, e2, double_least]
theorem val_word (r : Nat) : val (magOf double r) (-1074 + placeOf double r) = vr double r := by
  have := val_rung .f64 r
  rw [← double_least]; exact this
theorem Pz.of {B m : Nat} {i : Int} (hi : -9900 ≤ i) (hB : B ≤ 1000) (h : P2 B (some (double.write (.number false m i)))) : Pz B (some (double.write (.number false m i))) := by
  obtain ⟨r, h1, h2, _⟩ := pos_word (m := m) hi
  obtain ⟨b, e, hb⟩ := h
  rw [h2] at e ⊢
  cases e
  rw [show FloatKind.f64.format = double from rfl, (read_word_sign double false (Nat.lt_of_le_of_lt h1 inf_d)).1] at hb
  exact ⟨r, rfl, hb⟩
theorem mag_log (r : Nat) : (magOf double r).log2 ≤ 52 := by
  rcases Nat.eq_zero_or_pos (magOf double r) with h0 | h0
  · rw [h0]; decide
  · have h1 : magOf double r < 2 ^ 53 := mag_lt double r
    have := (Nat.log2_lt (by omega) (k := 53)).2 h1
    omega
theorem Pz.mul {a b : Nat} {u v : Option Nat} (hu : Pz a u) (hv : Pz b v) (h : a + b ≤ 1000) : Pz (a + b) (aop .mul .f64 u v) := by
  have hp := P2.mul (hu.p2 (by omega)) (hv.p2 (by omega)) h
  obtain ⟨r, rfl, hr⟩ := hu
  obtain ⟨q, rfl, hq⟩ := hv
  have e : aop .mul .f64 (some (double.word false r)) (some (double.word false q)) = some (double.write (.number false (magOf double r * magOf double q) (-1074 + (placeOf double r : Int) + (-1074 + (placeOf double q : Int))))) := by
    show double.mul _ _ = _
    unfold Format.mul
    rw [word_read (Nat.lt_of_le_of_lt hr (R2_inf (by omega))), word_read (Nat.lt_of_le_of_lt hq (R2_inf (by omega)))]
    rfl
  rw [e] at hp ⊢
  exact Pz.of (by omega) h hp
/-- A quotient by what is not less is at most 1. -/
theorem Pz.quo {B r d : Nat} (hr : r < double.infRung) (hd : d ≤ R2 B) (hB : B ≤ 1000) (h0 : 0 < magOf double d) (h : vr double r ≤ vr double d) : Pz 0 (aop .quo .f64 (some (double.word false r)) (some (double.word false d))) := by
  have hK := K0_eq
  have hdi : d < double.infRung := Nat.lt_of_le_of_lt hd (R2_inf hB)
  obtain ⟨m, hm⟩ : ∃ m, magOf double r = m := ⟨_, rfl⟩
  obtain ⟨n, hn⟩ : ∃ n, magOf double d = n := ⟨_, rfl⟩
  obtain ⟨p, hp⟩ : ∃ p, placeOf double r = p := ⟨_, rfl⟩
  obtain ⟨q, hq⟩ : ∃ q, placeOf double d = q := ⟨_, rfl⟩
  have hml := mag_log r
  have hnl := mag_log d
  have hpp : p ≤ 3000 := by
    have hb : double.binade = 4503599627370496 := by decide
    have hi : double.infRung = 9218868437227405312 := by decide
    rw [hi] at hr
    rw [← hp]; unfold placeOf; rw [hb]; split
    · omega
    · omega
  have hqq : q ≤ 3000 := by
    have hb : double.binade = 4503599627370496 := by decide
    have hi : double.infRung = 9218868437227405312 := by decide
    rw [hi] at hdi
    rw [← hq]; unfold placeOf; rw [hb]; split
    · omega
    · omega
  rw [← val_word, ← val_word, hm, hn, hp, hq] at h
  rw [hm] at hml
  rw [hn] at hnl h0
  obtain ⟨more, hmore⟩ : ∃ x, 54 + n.log2 - m.log2 = x := ⟨_, rfl⟩
  have e : aop .quo .f64 (some (double.word false r)) (some (double.word false d)) = some (double.write (.number false (2 * ((m <<< more) / n) + ((m <<< more) % n != 0).toNat) (-1074 + (p : Int) - (-1074 + (q : Int)) - (more : Int) - 1))) := by
    show double.div _ _ = _
    unfold Format.div
    rw [word_read hr, word_read hdi, hm, hn, hp, hq]
    simp only [Datum.quotient]
    rw [if_neg (by omega)]
    rw [show double.fractionBits + 2 = 54 from rfl, hmore]
    rfl
  rw [e]
  refine Pz.of (by omega) (by omega) ?_
  refine write_in (k := .f64) (by omega) (R2_lt _ (by omega)) ?_
  show _ ≤ vr double (R2 0)
  rw [vr_R2]
  unfold val at h ⊢
  by_cases hm0 : m = 0
  · subst hm0; simp
  obtain ⟨E, hE⟩ : ∃ E, E + 1074 = K0 := ⟨8926, by decide⟩
  have e1 : (-1074 + (p : Int) + (K0 : Int)).toNat = p + E := by omega
  have e2 : (-1074 + (q : Int) + (K0 : Int)).toNat = q + E := by omega
  rw [e1, e2, Nat.pow_add, Nat.pow_add, ← Nat.mul_assoc, ← Nat.mul_assoc] at h
  have h' : m * 2 ^ p ≤ n * 2 ^ q := Nat.le_of_mul_le_mul_right h (Nat.two_pow_pos _)
  have he : (-1074 + (p : Int) - (-1074 + (q : Int)) - (more : Int) - 1 + (K0 : Int)).toNat = (p + K0 - q - more) - 1 := by omega
  rw [he]
  refine quo_bound _ _ _ _ ?_ ?_ (by omega)
  · rw [Nat.shiftLeft_eq, Nat.mul_assoc, ← Nat.pow_add]
    have e3 : more + (p + K0 - q - more) = p + K0 - q := by omega
    rw [e3]
    refine Nat.le_of_mul_le_mul_right (c := 2 ^ q) ?_ (Nat.two_pow_pos _)
    rw [Nat.mul_assoc, ← Nat.pow_add, show p + K0 - q + q = p + K0 by omega, Nat.pow_add, ← Nat.mul_assoc, Nat.zero_add, Nat.mul_comm (2 ^ K0) n, Nat.mul_right_comm n]
    exact Nat.mul_le_mul_right _ h'
  · refine Nat.pow_dvd_pow 2 ?_
    have h3 : 2 ^ (m.log2 + p) ≤ m * 2 ^ p := pow_log_le m p hm0
    have h4 : n * 2 ^ q < 2 ^ (n.log2 + 1 + q) := lt_pow_log n q
    have h5 : 2 ^ (m.log2 + p) < 2 ^ (n.log2 + 1 + q) := Nat.lt_of_le_of_lt (Nat.le_trans h3 h') h4
    have h6 := (Nat.pow_lt_pow_iff_right (a := 2) (by omega)).1 h5
    omega
theorem vr_lt {a b : Nat} (h : a ≤ b) : vr double a ≤ vr double b := vr_mono _ h
theorem mag_onew : ONEW ≤ double.infRung ∧ double.word false ONEW = ONEW := by decide
theorem mag_pos {d : Nat} (h : ONEW ≤ d) : 0 < magOf double d := by
  have h1 := vr_lt h
  rw [vr_onew] at h1
  have h2 : 0 < vr double d := Nat.lt_of_lt_of_le (Nat.two_pow_pos _) h1
  unfold vr at h2
  exact Nat.pos_of_mul_pos_right h2
/-- 1 and what has no sign. -/
theorem Pz.succ {B : Nat} {v : Option Nat} (hv : Pz B v) (hB : B + 1 ≤ 1000) : ∃ d, aop .add .f64 (some ONEW) v = some (double.word false d) ∧ ONEW ≤ d ∧ d ≤ R2 (B + 1) := by
  have hone : P2 0 (some ONEW) := ⟨_, rfl, by decide +kernel⟩
  have hp := P2.add (c := B) hone (hv.p2 (by omega)) (by omega) (Nat.le_refl _) hB
  obtain ⟨r, rfl, hr⟩ := hv
  obtain ⟨p, hpl⟩ : ∃ p, placeOf double r = p := ⟨_, rfl⟩
  obtain ⟨m, hm⟩ : ∃ m, magOf double r = m := ⟨_, rfl⟩
  have hone2 : double.read ONEW = .number false 4503599627370496 (-1074 + ((1022 : Nat) : Int)) := by decide +kernel
  have q1 : (Datum.number false 4503599627370496 (-1074 + ((1022 : Nat) : Int))).sum (Datum.number false m (-1074 + (p : Int))) = some (.number (if signed false 4503599627370496 (-1074 + ((1022 : Nat) : Int) - min (-1074 + ((1022 : Nat) : Int)) (-1074 + (p : Int))).toNat + signed false m (-1074 + (p : Int) - min (-1074 + ((1022 : Nat) : Int)) (-1074 + (p : Int))).toNat = 0 then false && false else decide (signed false 4503599627370496 (-1074 + ((1022 : Nat) : Int) - min (-1074 + ((1022 : Nat) : Int)) (-1074 + (p : Int))).toNat + signed false m (-1074 + (p : Int) - min (-1074 + ((1022 : Nat) : Int)) (-1074 + (p : Int))).toNat < 0)) (signed false 4503599627370496 (-1074 + ((1022 : Nat) : Int) - min (-1074 + ((1022 : Nat) : Int)) (-1074 + (p : Int))).toNat + signed false m (-1074 + (p : Int) - min (-1074 + ((1022 : Nat) : Int)) (-1074 + (p : Int))).toNat).natAbs (min (-1074 + ((1022 : Nat) : Int)) (-1074 + (p : Int)))) := rfl
  have g1 : ∀ m z : Nat, signed false m z = ((m * 2 ^ z : Nat) : Int) := fun m z => by unfold signed; rw [Nat.shiftLeft_eq]; rfl
  have e : ∃ T : Nat, 4503599627370496 * 2 ^ (1022 - min 1022 p) ≤ T ∧ aop .add .f64 (some ONEW) (some (double.word false r)) = some (double.write (.number false T (-1074 + ((min 1022 p : Nat) : Int)))) := by
    refine ⟨4503599627370496 * 2 ^ (1022 - min 1022 p) + m * 2 ^ (p - min 1022 p), Nat.le_add_right _ _, ?_⟩
    have e1 : aop .add .f64 (some ONEW) (some (double.word false r)) = ((double.read ONEW).sum (double.read (double.word false r))).map double.write := rfl
    rw [e1, hone2, word_read (Nat.lt_of_le_of_lt hr (R2_inf (by omega))), hm, hpl, q1, g1, g1, show min (-1074 + ((1022 : Nat) : Int)) (-1074 + (p : Int)) = -1074 + ((min 1022 p : Nat) : Int) by omega, show (-1074 + ((1022 : Nat) : Int) - (-1074 + ((min 1022 p : Nat) : Int))).toNat = 1022 - min 1022 p by omega, show (-1074 + (p : Int) - (-1074 + ((min 1022 p : Nat) : Int))).toNat = p - min 1022 p by omega]
    generalize 4503599627370496 * 2 ^ (1022 - min 1022 p) = a
    generalize m * 2 ^ (p - min 1022 p) = b
    have hz : (if ((a : Nat) : Int) + ((b : Nat) : Int) = 0 then false && false else decide (((a : Nat) : Int) + ((b : Nat) : Int) < 0)) = false := by
      split
      · rfl
      · exact decide_eq_false (by omega)
    rw [hz, show (((a : Nat) : Int) + ((b : Nat) : Int)).natAbs = a + b by omega]
    rfl
  obtain ⟨T, hT, e⟩ := e
  rw [e] at hp ⊢
  have hK := K0_eq
  obtain ⟨d, h1, h2, h3⟩ := pos_word (m := T) (i := -1074 + ((min 1022 p : Nat) : Int)) (by omega)
  refine ⟨d, by rw [h2], h3 ONEW mag_onew.1 ?_, ?_⟩
  · rw [vr_onew]
    unfold val
    obtain ⟨E, hE⟩ : ∃ E, E + 1074 = K0 := ⟨8926, by decide⟩
    have e1 : (-1074 + ((min 1022 p : Nat) : Int) + (K0 : Int)).toNat = min 1022 p + E := by omega
    rw [e1]
    refine Nat.le_trans ?_ (Nat.mul_le_mul_right _ hT)
    rw [show (4503599627370496 : Nat) = 2 ^ 52 by rfl, ← Nat.pow_add, ← Nat.pow_add]
    exact Nat.pow_le_pow_right (by omega) (by omega)
  · obtain ⟨b, e5, hb⟩ := hp
    rw [h2] at e5
    cases e5
    rwa [show FloatKind.f64.format = double from rfl, (read_word_sign double false (Nat.lt_of_le_of_lt h1 inf_d)).1] at hb
theorem Pz.sqrt {v : Option Nat} (hv : Pz 1 v) : Pz 1 (asqrt v) := by
  obtain ⟨r, rfl, hr⟩ := hv
  have hri : r < double.infRung := Nat.lt_of_le_of_lt hr (R2_inf (by omega))
  show Pz 1 (double.sqrt (double.word false r))
  unfold Format.sqrt
  rw [word_read hri]
  obtain ⟨d, hd, hin⟩ := root_in (X := R2 1) (R := R2 1) (E := 2) (m := magOf double r) (i := -1074 + (placeOf double r : Int)) (by omega) (mag_log r) (by rw [val_word]; exact vr_lt hr) (by rw [vr_R2]; exact Nat.pow_lt_pow_right (by omega) (by omega)) (R2_inf (by omega)) (by rw [vr_R2, ← Nat.pow_add, ← Nat.pow_add]; exact Nat.pow_le_pow_right (by omega) (by omega)) (by decide +kernel)
  rw [show double.fractionBits + 2 = 54 from rfl, hd]
  have hsg : ∃ M I, d = .number false M I ∧ -9900 ≤ I := by
    simp only [Datum.root] at hd
    split at hd
    · cases hd; exact ⟨_, _, rfl, by omega⟩
    · simp only [Bool.false_eq_true, if_false, Option.some.injEq] at hd
      subst hd
      refine ⟨_, _, rfl, ?_⟩
      have := mag_log r
      omega
  obtain ⟨M, I, rfl, hI⟩ := hsg
  exact Pz.of hI (by omega) hin
end Go.Proofs.Yticmnkgcolgpaaa.Fl
