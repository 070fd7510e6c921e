/- The logarithm, plain facts: the sum and its bounds. -/
import Derived.Test.YticmnkgcolgpaaaLg
import Derived.Laws.Cover2
namespace Go.Proofs.Yticmnkgcolgpaaa.Fl
open Go Ieee

theorem read_one : double.read 4607182418800017408 = .number false 4503599627370496 (-52) := by decide +kernel
theorem av_1 : av .f64 4607182418800017408 = some 4607182418800017408 := by decide +kernel
theorem av_2 : av .f64 4611686018427387904 = some 4611686018427387904 := by decide +kernel
theorem av_ln2 : av .f64 4604418534313441775 = some 4604418534313441775 := by decide +kernel
theorem P2_1 : P2 0 (some 4607182418800017408) := ⟨_, rfl, by decide +kernel⟩
theorem P2_2 : P2 1 (some 4611686018427387904) := ⟨_, rfl, by decide +kernel⟩
theorem P2_ln2 : P2 0 (some 4604418534313441775) := ⟨_, rfl, by decide +kernel⟩
theorem P2_0 : P2 0 (some 0) := ⟨_, rfl, by decide +kernel⟩

/-- What is written of a number from 1 to 4. -/
theorem near_1_4 (M : Nat) (p : Int) (hp : -9000 ≤ p) (h1 : 2 ^ K0 ≤ val M p) (h2 : val M p ≤ 2 ^ (2 + K0)) :
    ∃ n d : Nat, double.read (double.nearest false M p) = .number false n (-(d : Int)) ∧ 2 ^ d ≤ n ∧ n.log2 ≤ 52 ∧ P2 2 (some (double.nearest false M p)) := by
  have hK := K0_eq
  have e : p = -(K0 : Int) + ((p + (K0 : Int)).toNat : Int) := by omega
  have hf : double.fractionBits ≤ (p + (K0 : Int)).toNat := by have : double.fractionBits = 52 := rfl; omega
  have v0 := vr_R2 0
  have v2 := vr_R2 2
  rw [Nat.zero_add] at v0
  obtain ⟨r, hr, hr', hw⟩ := nearest_ge double false M (-(K0 : Int)) (p + (K0 : Int)).toNat (lp double) (R2 0) (lp_least .f64) hf (by decide) (by show vr double (R2 0) ≤ val M p; rw [v0]; exact h1)
  obtain ⟨t, ht, hw'⟩ := nearest_le double false M (-(K0 : Int)) (p + (K0 : Int)).toNat (lp double) (R2 2) (lp_least .f64) hf (by show val M p ≤ vr double (R2 2); rw [v2]; exact h2)
  rw [← e] at hw hw'
  have ert : r = t := by rw [hw] at hw'; exact hw'
  subst ert
  have hr1 : R2 0 = 4607182418800017408 := by decide
  have hr2 : R2 2 = 4616189618054758400 := by decide
  have hbin : double.binade = 4503599627370496 := by decide
  rw [hr1] at hr; rw [hr2] at ht
  have hmod : r % 9223372036854775808 = r := Nat.mod_eq_of_lt (by omega)
  have hread := read_rung .f64 r (by show r % double.signWeight < double.infRung; rw [double_sw, double_inf]; omega)
  rw [hw, word_pos]
  have e1 : (r / FloatKind.f64.format.signWeight % 2 == 1) = false := by
    have : FloatKind.f64.format.signWeight = 9223372036854775808 := double_sw
    rw [this, Nat.div_eq_of_lt (by omega)]; rfl
  have e2 : r % FloatKind.f64.format.signWeight = r := by
    have : FloatKind.f64.format.signWeight = 9223372036854775808 := double_sw
    rw [this]; exact hmod
  rw [e1, e2] at hread
  have hpl : placeOf FloatKind.f64.format r = r / 4503599627370496 - 1 := by
    unfold placeOf; rw [if_neg (by show ¬ r < double.binade; rw [hbin]; omega)]; show r / double.binade - 1 = _; rw [hbin]
  have hmg : magOf FloatKind.f64.format r = 4503599627370496 + r % 4503599627370496 := by
    unfold magOf; rw [if_neg (by show ¬ r < double.binade; rw [hbin]; omega)]; show double.binade + r % double.binade = _; rw [hbin]
  have hlp : FloatKind.f64.format.leastPlace = -1074 := double_least
  rw [hpl, hmg, hlp] at hread
  refine ⟨4503599627370496 + r % 4503599627370496, 1074 - (r / 4503599627370496 - 1), ?_, ?_, ?_, ⟨r, rfl, ?_⟩⟩
  · show FloatKind.f64.format.read r = _
    have e5 : (-1074 : Int) + ((r / 4503599627370496 - 1 : Nat) : Int) = -((1074 - (r / 4503599627370496 - 1) : Nat) : Int) := by omega
    rw [hread, e5]
  · have : 2 ^ (1074 - (r / 4503599627370496 - 1)) ≤ 2 ^ 52 := Nat.pow_le_pow_right (by omega) (by omega)
    omega
  · have := (Nat.log2_lt (n := 4503599627370496 + r % 4503599627370496) (by omega) (k := 53)).2 (by omega)
    omega
  · show r % double.signWeight ≤ R2 2
    rw [double_sw, hmod, hr2]; exact ht

theorem pow_K0 (a : Nat) (h : a ≤ 100) : 2 ^ a * 2 ^ (K0 - a) = 2 ^ K0 := by
  have hK := K0_eq
  rw [← Nat.pow_add]; congr 1; omega

/-- A number from 1/2 to 2, less 1. -/
theorem near_sub (L K : Nat) (h1 : 4503599627370496 ≤ K) (h2 : K < 9007199254740992) (hL : L = 1021 ∨ L = 1022) : P2 0 (aop .sub .f64 (some (nb L K)) (some 4607182418800017408)) := by
  have hK := K0_eq
  show In .f64 (R2 0) (((double.read (nb L K)).sum (double.read 4607182418800017408).opposite).map double.write)
  rw [read_nb L K h1 h2 (by omega), read_one]
  unfold Datum.opposite Datum.sum
  simp only [Option.map_some]
  rcases hL with rfl | rfl
  · refine write_in (k := .f64) (by omega) (by decide) ?_
    show val _ _ ≤ vr double (R2 0)
    rw [vr_R2, Nat.zero_add, ← pow_K0 53 (by omega)]
    have hm : min (((1021 : Nat) : Int) - 1074) (-52) = -53 := by omega
    rw [hm]
    unfold val
    rw [show ((-53 : Int) + (K0 : Int)).toNat = K0 - 53 by omega]
    refine Nat.mul_le_mul_right _ ?_
    simp [signed, Nat.shiftLeft_eq]
    omega
  · refine write_in (k := .f64) (by omega) (by decide) ?_
    show val _ _ ≤ vr double (R2 0)
    rw [vr_R2, Nat.zero_add, ← pow_K0 52 (by omega)]
    have hm : min (((1022 : Nat) : Int) - 1074) (-52) = -52 := by omega
    rw [hm]
    unfold val
    rw [show ((-52 : Int) + (K0 : Int)).toNat = K0 - 52 by omega]
    refine Nat.mul_le_mul_right _ ?_
    simp [signed, Nat.shiftLeft_eq]
    omega
/-- The same and 1. -/
theorem near_add (L K : Nat) (h1 : 4503599627370496 ≤ K) (h2 : K < 9007199254740992) (hL : L = 1021 ∨ L = 1022) :
    ∃ c n d : Nat, aop .add .f64 (some (nb L K)) (some 4607182418800017408) = some c ∧ double.read c = .number false n (-(d : Int)) ∧ 2 ^ d ≤ n ∧ n.log2 ≤ 52 ∧ P2 2 (some c) := by
  have hK := K0_eq
  have e : aop .add .f64 (some (nb L K)) (some 4607182418800017408) = ((double.read (nb L K)).sum (double.read 4607182418800017408)).map double.write := rfl
  rw [e, read_nb L K h1 h2 (by omega), read_one]
  rcases hL with rfl | rfl
  · have hs : (Datum.number false K (((1021 : Nat) : Int) - 1074)).sum (.number false 4503599627370496 (-52)) = some (.number false (K + 9007199254740992) (-53)) := by
      unfold Datum.sum
      have hm : min (((1021 : Nat) : Int) - 1074) (-52) = -53 := by omega
      simp only [hm]
      have ht : signed false K (((1021 : Nat) : Int) - 1074 - -53).toNat + signed false 4503599627370496 ((-52 : Int) - -53).toNat = ((K + 9007199254740992 : Nat) : Int) := by
        simp [signed, Nat.shiftLeft_eq]
      rw [ht, if_neg (by omega), decide_eq_false (by omega), Int.natAbs_natCast]
    rw [hs]
    have hv : val (K + 9007199254740992) (-53) = (K + 9007199254740992) * 2 ^ (K0 - 53) := by unfold val; rw [show ((-53 : Int) + (K0 : Int)).toNat = K0 - 53 by omega]
    obtain ⟨n, d, a1, a2, a3, a4⟩ := near_1_4 (K + 9007199254740992) (-53) (by omega) (by rw [hv, ← pow_K0 53 (by omega)]; exact Nat.mul_le_mul_right _ (by omega)) (by
      rw [hv, Nat.pow_add, ← pow_K0 53 (by omega), ← Nat.mul_assoc]; exact Nat.mul_le_mul_right _ (by omega))
    exact ⟨_, n, d, rfl, a1, a2, a3, a4⟩
  · have hs : (Datum.number false K (((1022 : Nat) : Int) - 1074)).sum (.number false 4503599627370496 (-52)) = some (.number false (K + 4503599627370496) (-52)) := by
      unfold Datum.sum
      have hm : min (((1022 : Nat) : Int) - 1074) (-52) = -52 := by omega
      simp only [hm]
      have ht : signed false K (((1022 : Nat) : Int) - 1074 - -52).toNat + signed false 4503599627370496 ((-52 : Int) - -52).toNat = ((K + 4503599627370496 : Nat) : Int) := by
        simp [signed, Nat.shiftLeft_eq]
      rw [ht, if_neg (by omega), decide_eq_false (by omega), Int.natAbs_natCast]
    rw [hs]
    have hv : val (K + 4503599627370496) (-52) = (K + 4503599627370496) * 2 ^ (K0 - 52) := by unfold val; rw [show ((-52 : Int) + (K0 : Int)).toNat = K0 - 52 by omega]
    obtain ⟨n, d, a1, a2, a3, a4⟩ := near_1_4 (K + 4503599627370496) (-52) (by omega) (by rw [hv, ← pow_K0 52 (by omega)]; exact Nat.mul_le_mul_right _ (by omega)) (by
      rw [hv, Nat.pow_add, ← pow_K0 52 (by omega), ← Nat.mul_assoc]; exact Nat.mul_le_mul_right _ (by omega))
    exact ⟨_, n, d, rfl, a1, a2, a3, a4⟩

/-- The sum of odd powers. -/
def lgQ (u : Option Nat) : Nat → Option Nat
  | 0 => some 0
  | j + 1 => aop .add .f64 (aop .quo .f64 (some 4607182418800017408) (av .f64 (floatOfInt .f64 (25 - 2 * (j : Int))))) (aop .mul .f64 u (lgQ u j))
def lgS (r : Nat) : Option Nat := aop .quo .f64 (aop .sub .f64 (some r) (some 4607182418800017408)) (aop .add .f64 (some r) (some 4607182418800017408))
/-- The logarithm of r * 2^e. -/
def lgA (r : Nat) (e : Int) : Option Nat :=
  aop .add .f64 (aop .mul .f64 (some 4611686018427387904) (aop .mul .f64 (lgS r) (lgQ (aop .mul .f64 (lgS r) (lgS r)) 13))) (aop .mul .f64 (av .f64 (floatOfInt .f64 e)) (some 4604418534313441775))

theorem odd_const (j : Nat) (hj : j < 13) : ∃ n d, av .f64 (floatOfInt .f64 (25 - 2 * (j : Int))) = some (floatOfInt .f64 (25 - 2 * (j : Int))) ∧
    double.read (floatOfInt .f64 (25 - 2 * (j : Int))) = .number false n (-((d : Nat) : Int)) ∧ 2 ^ d ≤ n ∧ n.log2 ≤ 52 := by
  have : j = 0 ∨ j = 1 ∨ j = 2 ∨ j = 3 ∨ j = 4 ∨ j = 5 ∨ j = 6 ∨ j = 7 ∨ j = 8 ∨ j = 9 ∨ j = 10 ∨ j = 11 ∨ j = 12 := by omega
  rcases this with rfl | rfl | rfl | rfl | rfl | rfl | rfl | rfl | rfl | rfl | rfl | rfl | rfl
  · exact ⟨25 <<< 48, 48, by decide +kernel, by decide +kernel, by decide +kernel, by decide +kernel⟩
  · exact ⟨23 <<< 48, 48, by decide +kernel, by decide +kernel, by decide +kernel, by decide +kernel⟩
  · exact ⟨21 <<< 48, 48, by decide +kernel, by decide +kernel, by decide +kernel, by decide +kernel⟩
  · exact ⟨19 <<< 48, 48, by decide +kernel, by decide +kernel, by decide +kernel, by decide +kernel⟩
  · exact ⟨17 <<< 48, 48, by decide +kernel, by decide +kernel, by decide +kernel, by decide +kernel⟩
  · exact ⟨15 <<< 49, 49, by decide +kernel, by decide +kernel, by decide +kernel, by decide +kernel⟩
  · exact ⟨13 <<< 49, 49, by decide +kernel, by decide +kernel, by decide +kernel, by decide +kernel⟩
  · exact ⟨11 <<< 49, 49, by decide +kernel, by decide +kernel, by decide +kernel, by decide +kernel⟩
  · exact ⟨9 <<< 49, 49, by decide +kernel, by decide +kernel, by decide +kernel, by decide +kernel⟩
  · exact ⟨7 <<< 50, 50, by decide +kernel, by decide +kernel, by decide +kernel, by decide +kernel⟩
  · exact ⟨5 <<< 50, 50, by decide +kernel, by decide +kernel, by decide +kernel, by decide +kernel⟩
  · exact ⟨3 <<< 51, 51, by decide +kernel, by decide +kernel, by decide +kernel, by decide +kernel⟩
  · exact ⟨1 <<< 52, 52, by decide +kernel, by decide +kernel, by decide +kernel, by decide +kernel⟩
theorem lgQ_in {u : Option Nat} (hu : P2 0 u) : ∀ j, j ≤ 13 → P2 j (lgQ u j) := by
  intro j
  induction j with
  | zero => intro _; exact P2_0
  | succ j ih =>
    intro hj
    obtain ⟨n, d, e1, e2, e3, e4⟩ := odd_const j (by omega)
    have h1 := (hu.mul (ih (by omega)) (by omega)).mono (show 0 + j ≤ j by omega)
    have h2 := P2_1.quo (by omega) e2 e3 e4
    show P2 _ (aop .add .f64 (aop .quo .f64 _ (av .f64 _)) _)
    rw [e1]
    exact h2.add h1 (by omega) (Nat.le_refl _) (by omega)
theorem lgS_in (L K : Nat) (h1 : 4503599627370496 ≤ K) (h2 : K < 9007199254740992) (hL : L = 1021 ∨ L = 1022) : P2 0 (lgS (nb L K)) := by
  obtain ⟨c, n, d, a1, a2, a3, a4, _⟩ := near_add L K h1 h2 hL
  unfold lgS
  rw [a1]
  exact (near_sub L K h1 h2 hL).quo (by omega) a2 a3 a4
theorem floatOfInt_in (e : Int) (h : e.natAbs ≤ 1024) : P2 10 (some (floatOfInt .f64 e)) ∧ av .f64 (floatOfInt .f64 e) = some (floatOfInt .f64 e) := by
  have hK := K0_eq
  constructor
  · refine write_in (k := .f64) (s := decide (e < 0)) (m := e.natAbs) (i := 0) (by omega) (by decide) ?_
    show val _ _ ≤ vr double (R2 10)
    rw [vr_R2, Nat.pow_add]
    unfold val
    rw [show ((0 : Int) + (K0 : Int)).toNat = K0 by omega]
    exact Nat.mul_le_mul_right _ h
  · refine av_some (k := .f64) ?_
    show (double.read (double.write (.number (decide (e < 0)) e.natAbs 0))).isNaN = false
    exact read_write double _ rfl
theorem P2.two_sq {s q f : Option Nat} (hs : P2 0 s) (hq : P2 13 q) (hf : P2 10 f) :
    P2 15 (aop .add .f64 (aop .mul .f64 (some 4611686018427387904) (aop .mul .f64 s q)) (aop .mul .f64 f (some 4604418534313441775))) := by
  have m1 : P2 13 (aop .mul .f64 s q) := P2.mono (P2.mul hs hq (Nat.le_of_ble_eq_true rfl)) (Nat.le_refl 13)
  have a : P2 14 (aop .mul .f64 (some 4611686018427387904) (aop .mul .f64 s q)) := P2.mono (P2.mul P2_2 m1 (Nat.le_of_ble_eq_true rfl)) (Nat.le_refl 14)
  have b : P2 14 (aop .mul .f64 f (some 4604418534313441775)) := P2.mono (P2.mul hf P2_ln2 (Nat.le_of_ble_eq_true rfl)) (Nat.le_of_ble_eq_true rfl)
  exact P2.add a b (Nat.le_refl 14) (Nat.le_refl 14) (Nat.le_of_ble_eq_true rfl)
theorem lgA_in (L K : Nat) (e : Int) (h1 : 4503599627370496 ≤ K) (h2 : K < 9007199254740992) (hL : L = 1021 ∨ L = 1022) (he : e.natAbs ≤ 1024) : P2 15 (lgA (nb L K) e) := by
  have s := lgS_in L K h1 h2 hL
  have u0 := P2.mul s s (Nat.le_of_ble_eq_true rfl)
  have u := P2.mono u0 (Nat.le_refl 0)
  obtain ⟨f1, f2⟩ := floatOfInt_in e he
  unfold lgA
  rw [f2]
  exact P2.two_sq s (lgQ_in u 13 (Nat.le_refl _)) f1
end Go.Proofs.Yticmnkgcolgpaaa.Fl
