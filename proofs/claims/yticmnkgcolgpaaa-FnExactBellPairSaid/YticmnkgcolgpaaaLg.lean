/- The logarithm, plain facts: halving and doubling are exact; the steps of the sum; bounds. -/
import Derived.Test.YticmnkgcolgpaaaFs
import Derived.Test.YticmnkgcolgpaaaSine
namespace Go.Proofs.Yticmnkgcolgpaaa.Fl
open Go Ieee

/-- The bits of K * 2^(L - 1074), K of 53 digits. -/
def nb (L K : Nat) : Nat := L * 4503599627370496 + K
theorem word_pos (r : Nat) : double.word false r = r := rfl
set_option maxRecDepth 100000 in
theorem read_nb (L K : Nat) (h1 : 4503599627370496 ≤ K) (h2 : K < 9007199254740992) (hL : L ≤ 2045) : double.read (nb L K) = .number false K ((L : Int) - 1074) := by
  have hbin : double.binade = 4503599627370496 := by decide
  have hinf : double.infRung = 9218868437227405312 := by decide
  have hsw : double.signWeight = 9223372036854775808 := by decide
  unfold Format.read nb
  simp only [hbin, hinf, hsw, double_least]
  have e1 : (L * 4503599627370496 + K) % 9223372036854775808 = L * 4503599627370496 + K := by omega
  have e2 : (L * 4503599627370496 + K) / 9223372036854775808 = 0 := by omega
  rw [e1, e2, if_neg (by omega), if_pos (by omega)]
  have g1 : (L * 4503599627370496 + K) % 4503599627370496 = K - 4503599627370496 := by omega
  have g2 : (L * 4503599627370496 + K) / 4503599627370496 = L + 1 := by omega
  have g4 : 4503599627370496 + (K - 4503599627370496) = K := by omega
  have g5 : (-1074 : Int) + ((L + 1 - 1 : Nat) : Int) = (L : Int) - 1074 := by omega
  rw [g1, g2, g4, g5]
  rfl
theorem log2_53 {K : Nat} (h1 : 4503599627370496 ≤ K) (h2 : K < 9007199254740992) : K.log2 = 52 :=
  (Nat.log2_eq_iff (by omega)).2 ⟨h1, h2⟩
theorem nearest_nb (K : Nat) (L : Nat) (p : Int) (h1 : 4503599627370496 ≤ K) (h2 : K < 9007199254740992) (hL : L ≤ 2045) (hp : p = (L : Int) - 1074) : double.nearest false K p = nb L K := by
  have hl := log2_53 h1 h2
  rw [nearest_exact false K p (by omega) (by omega) (by omega) (by omega), hl, word_pos]
  unfold nb
  rw [show (p + ((52 : Nat) : Int) - 52 + 1074).toNat = L by omega, Nat.sub_self, Nat.shiftLeft_zero]
theorem half_nb (L K : Nat) (h1 : 4503599627370496 ≤ K) (h2 : K < 9007199254740992) (h0 : 1 ≤ L) (hL : L ≤ 2045) : double.div (nb L K) 4611686018427387904 = some (nb (L - 1) K) := by
  unfold Format.div
  rw [read_nb L K h1 h2 hL, show double.read 4611686018427387904 = .number false 4503599627370496 (-51) by decide +kernel]
  have h54 : double.fractionBits + 2 = 54 := rfl
  have hl2 : Nat.log2 4503599627370496 = 52 := by decide +kernel
  rw [h54, quo_pos _ _ _ _ _ (by omega), Option.map_some, write_pos, log2_53 h1 h2, hl2]
  have hq : K <<< (54 + 52 - 52) / 4503599627370496 = 4 * K := by rw [Nat.shiftLeft_eq]; omega
  have hr : K <<< (54 + 52 - 52) % 4503599627370496 = 0 := by rw [Nat.shiftLeft_eq]; omega
  rw [hq, hr]
  have e : 2 * (4 * K) + ((0 : Nat) != 0).toNat = K <<< 3 := by rw [Nat.shiftLeft_eq]; simp; omega
  rw [e, nearest_scale _ _ _ _ _ (by omega), nearest_nb K (L - 1) _ h1 h2 (by omega) (by omega)]
theorem twice_nb (L K : Nat) (h1 : 4503599627370496 ≤ K) (h2 : K < 9007199254740992) (hL : L ≤ 2044) : double.mul (nb L K) 4611686018427387904 = some (nb (L + 1) K) := by
  unfold Format.mul
  rw [read_nb L K h1 h2 (by omega), show double.read 4611686018427387904 = .number false 4503599627370496 (-51) by decide +kernel, prod_pos, Option.map_some, write_pos]
  have e : K * 4503599627370496 = K <<< 52 := by rw [Nat.shiftLeft_eq]
  rw [e, nearest_scale _ _ _ _ _ (by omega), nearest_nb K (L + 1) _ h1 h2 (by omega) (by omega)]
theorem av_nb (L K : Nat) (h1 : 4503599627370496 ≤ K) (h2 : K < 9007199254740992) (hL : L ≤ 2045) : av .f64 (nb L K) = some (nb L K) :=
  av_some (k := .f64) (by show (double.read _).isNaN = false; rw [read_nb L K h1 h2 hL]; rfl)
theorem nb_lt (L K : Nat) (h2 : K < 9007199254740992) (hL : L ≤ 2045) : nb L K < 18446744073709551616 := by unfold nb; omega

theorem order_nb (L K c : Nat) (p : Nat) (h1 : 4503599627370496 ≤ K) (h2 : K < 9007199254740992) (hL : L ≤ 2045) (C : Nat) (hc : double.read C = .number false c ((p : Int) - 1074)) :
    double.order (nb L K) C = some (compare ((K * 2 ^ L : Nat) : Int) ((c * 2 ^ p : Nat) : Int)) := by
  unfold Format.order
  rw [read_nb L K h1 h2 hL, hc, order_number false false K c _ _ (-1074) (by omega) (by omega)]
  simp only [signed, Bool.false_eq_true, if_false, Nat.shiftLeft_eq]
  rw [show ((L : Int) - 1074 - -1074).toNat = L by omega, show ((p : Int) - 1074 - -1074).toNat = p by omega]
theorem r15 : double.read 4609434218613702656 = .number false 6755399441055744 ((1022 : Nat) - 1074 : Int) := by decide +kernel
theorem r75 : double.read 4604930618986332160 = .number false 6755399441055744 ((1021 : Nat) - 1074 : Int) := by decide +kernel
/-- At least 1.5; less than 0.75. -/
def ge15 (r : Nat) : Bool := double.order r 4609434218613702656 == some Ordering.gt || double.order r 4609434218613702656 == some Ordering.eq
def lt75 (r : Nat) : Bool := double.order r 4604930618986332160 == some Ordering.lt
theorem pow_step {K c L p : Nat} (hc : c < 2 ^ 53) (hK : 2 ^ 52 ≤ K) (h : p + 1 ≤ L) : c * 2 ^ p < K * 2 ^ L := by
  have h3 : 0 < 2 ^ p := Nat.two_pow_pos _
  have h1 : c * 2 ^ p < 2 ^ 53 * 2 ^ p := Nat.mul_lt_mul_of_pos_right hc h3
  have h2 : 2 ^ 52 * 2 ^ (p + 1) ≤ K * 2 ^ L := Nat.mul_le_mul hK (Nat.pow_le_pow_right (by omega) h)
  rw [← Nat.pow_add] at h1 h2
  rw [show 52 + (p + 1) = 53 + p by omega] at h2
  omega
theorem ge15_no (L K : Nat) (h1 : 4503599627370496 ≤ K) (h2 : K < 9007199254740992) (hL : L ≤ 1021) : ge15 (nb L K) = false := by
  unfold ge15
  rw [order_nb L K _ 1022 h1 h2 (by omega) _ r15]
  have := pow_step (K := 6755399441055744) (c := K) (L := 1022) (p := L) h2 (by omega) (by omega)
  rw [cmp_gt, cmp_eq]
  generalize K * 2 ^ L = x at *
  generalize 6755399441055744 * 2 ^ 1022 = y at *
  simp; omega
theorem ge15_yes (L K : Nat) (h1 : 4503599627370496 ≤ K) (h2 : K < 9007199254740992) (hL : L ≤ 2045) (h3 : 1023 ≤ L) : ge15 (nb L K) = true := by
  unfold ge15
  rw [order_nb L K _ 1022 h1 h2 (by omega) _ r15]
  have := pow_step (K := K) (c := 6755399441055744) (L := L) (p := 1022) (by omega) h1 (by omega)
  rw [cmp_gt, cmp_eq]
  generalize K * 2 ^ L = x at *
  generalize 6755399441055744 * 2 ^ 1022 = y at *
  simp; omega
theorem lt75_no (L K : Nat) (h1 : 4503599627370496 ≤ K) (h2 : K < 9007199254740992) (hL : L ≤ 2045) (h3 : 1022 ≤ L) : lt75 (nb L K) = false := by
  unfold lt75
  rw [order_nb L K _ 1021 h1 h2 (by omega) _ r75]
  have := pow_step (K := K) (c := 6755399441055744) (L := L) (p := 1021) (by omega) h1 (by omega)
  rw [cmp_lt]
  generalize K * 2 ^ L = x at *
  generalize 6755399441055744 * 2 ^ 1021 = y at *
  simp; omega
theorem lt75_yes (L K : Nat) (h1 : 4503599627370496 ≤ K) (h2 : K < 9007199254740992) (hL : L ≤ 1020) : lt75 (nb L K) = true := by
  unfold lt75
  rw [order_nb L K _ 1021 h1 h2 (by omega) _ r75]
  have := pow_step (K := 6755399441055744) (c := K) (L := 1021) (p := L) h2 (by omega) (by omega)
  rw [cmp_lt]
  generalize K * 2 ^ L = x at *
  generalize 6755399441055744 * 2 ^ 1021 = y at *
  simp; omega

theorem first_of (p : Nat → Bool) (N : Nat) (h : p N = true) : ∃ J, J ≤ N ∧ p J = true ∧ ∀ i, i < J → p i = false := by
  induction N using Nat.strongRecOn with
  | ind N ih =>
    by_cases hx : ∃ i, i < N ∧ p i = true
    · obtain ⟨i, hi, hp⟩ := hx
      obtain ⟨J, hJ, h1, h2⟩ := ih i hi hp
      exact ⟨J, by omega, h1, h2⟩
    · exact ⟨N, Nat.le_refl _, h, fun i hi => by
        cases hp : p i with
        | false => rfl
        | true => exact absurd ⟨i, hi, hp⟩ hx⟩

/-- How often it is halved, and how often it is doubled then. -/
structure Near (L K J1 J2 : Nat) : Prop where
  k1 : 4503599627370496 ≤ K
  k2 : K < 9007199254740992
  l1 : 800 ≤ L
  l2 : L ≤ 1200
  down : ∀ j, j < J1 → ge15 (nb (L - j) K) = true
  stop : ge15 (nb (L - J1) K) = false
  up : ∀ j, j < J2 → lt75 (nb (L - J1 + j) K) = true
  done : lt75 (nb (L - J1 + J2) K) = false
  j1 : J1 ≤ 200
  j2 : J2 ≤ 300
  lo : 1021 ≤ L - J1 + J2
  hi : L - J1 + J2 ≤ 1022
theorem near_of (L K : Nat) (h1 : 4503599627370496 ≤ K) (h2 : K < 9007199254740992) (hL : 800 ≤ L) (hL2 : L ≤ 1200) : ∃ J1 J2, Near L K J1 J2 := by
  obtain ⟨J1, a1, a2, a3⟩ := first_of (fun j => !ge15 (nb (L - j) K)) (L - 1021) (by simp [ge15_no (L - (L - 1021)) K h1 h2 (by omega)])
  have b : L - J1 ≤ 1022 := by
    rcases Nat.lt_or_ge 1022 (L - J1) with h | h
    · rw [ge15_yes (L - J1) K h1 h2 (by omega) (by omega)] at a2; cases a2
    · exact h
  obtain ⟨J2, c1, c2, c3⟩ := first_of (fun j => !lt75 (nb (L - J1 + j) K)) (1022 - (L - J1)) (by simp [lt75_no (L - J1 + (1022 - (L - J1))) K h1 h2 (by omega) (by omega)])
  have d : 1021 ≤ L - J1 + J2 := by
    rcases Nat.lt_or_ge (L - J1 + J2) 1021 with h | h
    · rw [lt75_yes (L - J1 + J2) K h1 h2 (by omega)] at c2; cases c2
    · exact h
  exact ⟨J1, J2, h1, h2, hL, hL2, fun j hj => by simpa using a3 j hj, by simpa using a2, fun j hj => by simpa using c3 j hj, by simpa using c2, by omega, by omega, d, by omega⟩

/-- A finite 32-bit number greater than 0, wide. -/
theorem widen_nb (m : Nat) (i : Int) (h0 : m ≠ 0) (hl : m.log2 ≤ 23) (hi : -149 ≤ i) (hi2 : i ≤ 104) : ∃ L K, double.nearest false m i = nb L K ∧ 4503599627370496 ≤ K ∧ K < 9007199254740992 ∧ 800 ≤ L ∧ L ≤ 1200 := by
  have a1 := shl_log_hi m 52 (by omega)
  have a2 := shl_log_lo m h0 52 (by omega)
  refine ⟨(i + m.log2 - 52 + 1074).toNat, m <<< (52 - m.log2), ?_, a2, a1, by omega, by omega⟩
  rw [nearest_exact false m i h0 (by omega) (by omega) (by omega), word_pos]; rfl
end Go.Proofs.Yticmnkgcolgpaaa.Fl
