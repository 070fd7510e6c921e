/- Stairs: in how many orders things come with no gap that is too great; rows of numbers (no text of the project). -/
import Derived.Lib.Hide
namespace Go.Proofs.Ytekfnpaiflfmiaa
set_option linter.unusedVariables false

/-- How far the stairs are apart, and whether this is too far. -/
def stH (m n i k : Nat) : Int := max ((n : Int) * i - m * k) (-((n : Int) * i - m * k))
def stO (m n : Nat) (gap : Int) (i k : Nat) : Bool := decide (gap ≤ stH m n i k)
/-- The same, but never at the beginning. -/
def stO' (m n : Nat) (gap : Int) (i k : Nat) : Bool := decide (0 < i ∨ 0 < k) && stO m n gap i k
def stRow (out : Nat → Bool) (P : Nat → Nat) : Nat → Nat
  | 0 => if out 0 = true then 0 else P 0
  | k + 1 => if out (k + 1) = true then 0 else P (k + 1) + stRow out P k
def stP (out : Nat → Nat → Bool) : Nat → Nat → Nat
  | 0 => fun t => if t = 0 then 1 else 0
  | i + 1 => stRow (out i) (stP out i)
theorem stRow_le (out : Nat → Bool) (P : Nat → Nat) (i : Nat) (h : ∀ t, P t ≤ 2 ^ (i + t)) : ∀ k, stRow out P k ≤ 2 ^ (i + 1 + k) := by
  intro k
  induction k with
  | zero =>
    have h0 := h 0
    have : 2 ^ (i + 1 + 0) = 2 ^ (i + 0) * 2 := by simp [Nat.pow_succ]
    unfold stRow; split <;> omega
  | succ k ih =>
    have h0 := h (k + 1)
    have e : 2 ^ (i + 1 + (k + 1)) = 2 ^ (i + (k + 1)) * 2 := by rw [show i + 1 + (k + 1) = i + (k + 1) + 1 by omega, Nat.pow_succ]
    have e2 : 2 ^ (i + 1 + k) = 2 ^ (i + (k + 1)) := by rw [show i + 1 + k = i + (k + 1) by omega]
    unfold stRow; split
    · exact Nat.zero_le _
    · omega
theorem stP_le (out : Nat → Nat → Bool) : ∀ i k, stP out i k ≤ 2 ^ (i + k) := by
  intro i
  induction i with
  | zero => intro k; simp only [stP]; have : 0 < 2 ^ (0 + k) := Nat.pow_pos (by omega); split <;> omega
  | succ i ih => exact fun k => stRow_le _ _ i ih k
theorem stP_fits (out : Nat → Nat → Bool) (i k : Nat) (h : i + k ≤ 61) : stP out i k ≤ 2305843009213693952 := Nat.le_trans (stP_le out i k) (Nat.le_trans (Nat.pow_le_pow_right (by omega) h) (by decide))
theorem stRow_fits (out : Nat → Nat → Bool) (i k : Nat) (h : i + 1 + k ≤ 61) : stRow (out i) (stP out i) k ≤ 2305843009213693952 := stP_fits out (i + 1) k h
theorem stH_nn (m n i k : Nat) : 0 ≤ stH m n i k := by unfold stH; omega
theorem stP_same (m n : Nat) (gap : Int) (hm : 1 ≤ m) (hn : 1 ≤ n) : stP (stO m n gap) (m + 1) n = stP (stO' m n gap) (m + 1) n := by
  by_cases hg : gap ≤ 0
  · have h : stO m n gap m n = true := by unfold stO; have := stH_nn m n m n; simp; omega
    have h' : stO' m n gap m n = true := by unfold stO'; rw [h]; simp; omega
    obtain ⟨q, rfl⟩ : ∃ q, n = q + 1 := ⟨n - 1, by omega⟩
    show stRow _ _ (q + 1) = stRow _ _ (q + 1)
    unfold stRow
    rw [if_pos h, if_pos h']
  · have : stO m n gap = stO' m n gap := by
      funext i k
      unfold stO'
      by_cases h0 : 0 < i ∨ 0 < k
      · simp [h0]
      · have hi : i = 0 := by omega
        have hk : k = 0 := by omega
        subst hi hk
        unfold stO stH
        simp; omega
    rw [this]
end Go.Proofs.Ytekfnpaiflfmiaa
