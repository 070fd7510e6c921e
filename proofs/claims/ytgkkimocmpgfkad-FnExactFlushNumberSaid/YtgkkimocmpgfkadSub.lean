/- Subnormal numbers: what the code and its model return. -/
import Derived.Test.YtgkkimocmpgfkadNum
namespace Go.Proofs.Ytgkkimocmpgfkad
open Go Go.RowKit Fl Ieee

theorem and_mask (b : Nat) : b &&& 2139095040 = (b / 8388608 % 256) * 8388608 := by
  have e1 : (2139095040 : Nat) = 255 <<< 23 := rfl
  have e2 : b / 8388608 % 256 * 8388608 = ((b >>> 23) &&& 255) <<< 23 := by
    have := Nat.and_two_pow_sub_one_eq_mod (b >>> 23) 8
    rw [show (255 : Nat) = 2 ^ 8 - 1 from rfl, this, Nat.shiftLeft_eq, Nat.shiftRight_eq_div_pow]
  rw [e1, e2]
  apply Nat.eq_of_testBit_eq
  intro i
  simp only [Nat.testBit_and, Nat.testBit_shiftLeft, Nat.testBit_shiftRight]
  by_cases h : 23 ≤ i
  · simp [h]
  · simp [h]

/-- Not zero, and nearer to 0 than the least normal number. -/
def subA (a : Nat) : Bool := a % 2147483648 != 0 && decide (a % 2147483648 < 8388608)

theorem signed_lt_pos (s : Bool) (m n u v : Nat) (h : m * 2 ^ u < n * 2 ^ v) : signed s m u < signed false n v := by
  unfold signed
  have : ((m <<< u : Nat) : Int) < ((n <<< v : Nat) : Int) := by rw [Nat.shiftLeft_eq, Nat.shiftLeft_eq]; exact_mod_cast h
  cases s <;> simp only [Bool.false_eq_true, if_false, if_true] <;> omega

theorem read_single_cases (a : Nat) : single.read a = (if a % 2147483648 < 8388608 then .number (a / 2147483648 % 2 == 1) (a % 2147483648) (-149)
    else if a % 2147483648 < 2139095040 then .number (a / 2147483648 % 2 == 1) (8388608 + a % 2147483648 % 8388608) (-149 + (a % 2147483648 / 8388608 - 1 : Nat))
    else if a % 2147483648 = 2139095040 then .infinity (a / 2147483648 % 2 == 1) else .nan (a / 2147483648 % 2 == 1) (a % 2147483648 - 2139095040)) := by
  have hsw : single.signWeight = 2147483648 := by decide
  have hbin : single.binade = 8388608 := by decide
  have hinf : single.infRung = 2139095040 := by decide
  unfold Format.read
  simp only [hsw, hbin, hinf, single_least]

theorem bitsA_lt {v : Option Nat} {a : Nat} (h : Fv .f32 v a) : bitsA v < 9223372036854775808 := by
  have hl : a < 4294967296 := h.1
  cases v with
  | none => decide
  | some c => obtain rfl := av_eq h.2; show a < _; omega
theorem and_eq_zero {n : Nat} (h : bits .and .i64 (n : Int) ((2139095040 : Nat) : Int) = ((n &&& 2139095040 : Nat) : Int)) : (bits .and .i64 (n : Int) 2139095040 == 0) = ((n &&& 2139095040 : Nat) == 0) := by
  have e : ((2139095040 : Nat) : Int) = 2139095040 := rfl
  rw [e] at h
  rw [h, Bool.eq_iff_iff]; simp

theorem read_least : single.read 8388608 = .number false 8388608 (-149) := by decide
theorem read_least_neg : single.read 2155872256 = .number true 8388608 (-149) := by decide

theorem order_zero (a : Nat) : (single.order a 0 != some Ordering.eq) = (a % 2147483648 != 0) := by
  unfold Format.order
  rw [show single.read 0 = .number false 0 (-149) from by decide, read_single_cases a]
  unfold bne
  split
  · rename_i h
    rw [order_number _ _ _ _ _ _ (-149) (by omega) (by omega), cmp_eq]
    congr 1
    rw [Bool.eq_iff_iff]
    cases (a / 2147483648 % 2 == 1) <;> simp [signed] <;> omega
  · split
    · rename_i h1 h2
      have h3 : a % 2147483648 ≠ 0 := by omega
      rw [order_number _ _ _ _ _ _ (-149) (by omega) (by omega), cmp_eq]
      have hp : 0 < 2 ^ (-149 + ((a % 2147483648 / 8388608 - 1 : Nat) : Int) - -149).toNat := Nat.two_pow_pos _
      have hq : 0 < (8388608 + a % 2147483648 % 8388608) * 2 ^ (-149 + ((a % 2147483648 / 8388608 - 1 : Nat) : Int) - -149).toNat := Nat.mul_pos (by omega) hp
      simp only [signed, Nat.shiftLeft_eq]
      generalize (8388608 + a % 2147483648 % 8388608) * 2 ^ (-149 + ((a % 2147483648 / 8388608 - 1 : Nat) : Int) - -149).toNat = Z at *
      congr 1
      rw [beq_eq_false_iff_ne.2 h3, decide_eq_false]
      cases (a / 2147483648 % 2 == 1) <;> simp <;> omega
    · have h3 : a % 2147483648 ≠ 0 := by omega
      rw [beq_eq_false_iff_ne.2 h3]
      split
      · cases (a / 2147483648 % 2 == 1) <;> rfl
      · rfl

theorem sub_impl (a : Nat) : ((single.order a 2155872256 == some Ordering.gt) && (single.order a 8388608 == some Ordering.lt)) = decide (a % 2147483648 < 8388608) := by
  unfold Format.order
  rw [read_least, read_least_neg, read_single_cases a]
  split
  · rename_i h
    rw [order_number _ _ _ _ _ _ (-149) (by omega) (by omega), order_number _ _ _ _ _ _ (-149) (by omega) (by omega), cmp_gt, cmp_lt]
    rw [Bool.eq_iff_iff]
    cases (a / 2147483648 % 2 == 1) <;> simp [signed] <;> omega
  · rename_i h
    rw [decide_eq_false h]
    split
    · rename_i h2
      rw [order_number _ _ _ _ _ _ (-149) (by omega) (by omega), order_number _ _ _ _ _ _ (-149) (by omega) (by omega), cmp_gt, cmp_lt]
      have hp : 0 < 2 ^ (-149 + ((a % 2147483648 / 8388608 - 1 : Nat) : Int) - -149).toNat := Nat.two_pow_pos _
      have hq : 8388608 * 1 ≤ (8388608 + a % 2147483648 % 8388608) * 2 ^ (-149 + ((a % 2147483648 / 8388608 - 1 : Nat) : Int) - -149).toNat := Nat.mul_le_mul (by omega) hp
      simp only [signed, Nat.shiftLeft_eq]
      generalize (8388608 + a % 2147483648 % 8388608) * 2 ^ (-149 + ((a % 2147483648 / 8388608 - 1 : Nat) : Int) - -149).toNat = Z at *
      rw [Bool.eq_iff_iff]
      cases (a / 2147483648 % 2 == 1) <;> simp <;> omega
    · split
      · cases (a / 2147483648 % 2 == 1) <;> rfl
      · rfl

theorem sub_spec (a : Nat) (v : Option Nat) (ha : Fv .f32 v a) : ((bitsA v &&& 2139095040 : Nat) == 0) = decide (a % 2147483648 < 8388608) := by
  have hl : a < 4294967296 := ha.1
  cases v with
  | some c =>
    obtain rfl := av_eq ha.2
    show ((a &&& 2139095040 : Nat) == 0) = _
    rw [and_mask, Bool.eq_iff_iff]
    simp
    omega
  | none =>
    have hn : (single.read a).isNaN = true := by
      have := ha.2; unfold av at this; split at this
      · assumption
      · cases this
    rw [read_single_cases a] at hn
    have : ¬ a % 2147483648 < 8388608 := by
      intro h; rw [if_pos h] at hn; simp [Datum.isNaN] at hn
    rw [decide_eq_false this]
    decide

theorem implIsSubnormal_any (a : Nat) (w : World) :
    Calls Try.prog 28 #[.float .f32 a] w (fun e w' => e = .returned (.bool (subA a)) ∧ w = w') := by
  have hz : (FloatKind.f32.format.order a 0 != some Ordering.eq) = (a % 2147483648 != 0) := order_zero a
  have hs : ((FloatKind.f32.format.order a 2155872256 == some Ordering.gt) && (FloatKind.f32.format.order a 8388608 == some Ordering.lt)) = decide (a % 2147483648 < 8388608) := sub_impl a
  unfold subA
  rw [← hz, ← hs]
  clear hz hs
  cases h1 : (FloatKind.f32.format.order a 0 != some Ordering.eq) <;> cases h2 : (FloatKind.f32.format.order a 2155872256 == some Ordering.gt) <;> cases h3 : (FloatKind.f32.format.order a 8388608 == some Ordering.lt)
  all_goals
    go_enter Try.func28, Try.ntmps28
    go_wp2
    go_ret
    exact ⟨rfl, rfl⟩
end Go.Proofs.Ytgkkimocmpgfkad
