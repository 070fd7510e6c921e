/- In how many ways k of n can be taken: rows of Pascal's triangle, their products and their bounds. -/
import Derived.Lib.Hide
import Derived.KernelRfl
namespace Go.Proofs.Ytbjcomjokkhaeaa
set_option linter.unusedVariables false

def bin : Nat → Nat → Nat
  | _, 0 => 1
  | 0, _ + 1 => 0
  | n + 1, k + 1 => bin n k + bin n (k + 1)
theorem bin_zero (n : Nat) : bin n 0 = 1 := by cases n <;> rfl
theorem bin_none (k : Nat) : bin 0 (k + 1) = 0 := rfl
theorem bin_next (n k : Nat) : bin (n + 1) (k + 1) = bin n k + bin n (k + 1) := rfl
theorem bin_mul (n : Nat) : ∀ k, bin n (k + 1) * (k + 1) + bin n k * k = bin n k * n := by
  induction n with
  | zero => intro k; cases k <;> simp [bin]
  | succ n ih =>
    intro k
    cases k with
    | zero =>
      have h := ih 0
      simp only [bin_next, bin_zero] at *
      omega
    | succ k =>
      have h1 := ih k
      have h2 := ih (k + 1)
      simp only [bin_next, Nat.mul_add, Nat.add_mul, Nat.mul_one] at *
      omega
theorem bin_up (n k : Nat) (h : k ≤ n) : bin n k * (n - k) = bin n (k + 1) * (k + 1) := by
  have h1 := bin_mul n k
  have h2 : bin n k * n = bin n k * (n - k) + bin n k * k := by rw [← Nat.mul_add]; congr 1; omega
  omega
/-- A row of the triangle. -/
def pasN : Nat → List Nat → List Nat
  | p, [] => [p]
  | p, x :: l => (p + x) :: pasN x l
def pasR : Nat → List Nat
  | 0 => [1]
  | n + 1 => match pasR n with
    | [] => []
    | x :: l => x :: pasN x l
theorem pasN_get (n : Nat) : ∀ (l : List Nat) (k p : Nat), p = bin n k → (∀ i, l[i]?.getD 0 = bin n (k + 1 + i)) → ∀ i, (pasN p l)[i]?.getD 0 = bin (n + 1) (k + 1 + i) := by
  intro l
  induction l with
  | nil =>
    intro k p hp hl i
    have h0 := hl 0
    cases i with
    | zero => simp [pasN, bin_next] at *; omega
    | succ i =>
      have h1 := hl i
      have h2 := hl (i + 1)
      rw [show k + 1 + (i + 1) = (k + 1 + i) + 1 by omega, bin_next]
      simp [pasN] at *
      rw [show k + 1 + (i + 1) = (k + 1 + i) + 1 by omega] at h2
      omega
  | cons x l ih =>
    intro k p hp hl i
    have h0 := hl 0
    cases i with
    | zero => simp [pasN, bin_next] at *; omega
    | succ i =>
      have := ih (k + 1) x (by simpa using h0) (fun j => by have := hl (j + 1); simp at this; rw [this]; congr 1; omega) i
      rw [show k + 1 + (i + 1) = k + 1 + 1 + i by omega]
      simpa [pasN] using this
theorem pasR_get (n : Nat) : ∀ i, (pasR n)[i]?.getD 0 = bin n i := by
  induction n with
  | zero => intro i; cases i <;> simp [pasR, bin]
  | succ n ih =>
    intro i
    cases h : pasR n with
    | nil => have := ih 0; rw [h, bin_zero] at this; simp at this
    | cons x l =>
      have h0 := ih 0
      rw [h] at h0
      simp only [pasR, h]
      cases i with
      | zero => simpa [bin_zero] using h0
      | succ i =>
        have := pasN_get n l 0 x (by simpa using h0) (fun j => by have := ih (j + 1); rw [h] at this; simp at this; rw [this]; congr 1; omega) i
        rw [show i + 1 = 0 + 1 + i by omega, ← this]
        rw [show 0 + 1 + i = i + 1 by omega, List.getElem?_cons_succ]
def pasOk : Bool := (List.range 61).all fun n => (List.range (n + 1)).all fun k => Nat.ble ((pasR n)[k]?.getD 0 * (n - k)) 4611686018427387904
theorem pasOk_true : pasOk = true := by decide +kernel
theorem bin_small (n k : Nat) (hn : n ≤ 60) (hk : k ≤ n) : bin n k * (n - k) ≤ 4611686018427387904 := by
  have h := pasOk_true
  unfold pasOk at h
  rw [List.all_eq_true] at h
  have h1 := h n (by simp; omega)
  rw [List.all_eq_true] at h1
  have h2 := h1 k (by simp; omega)
  rw [pasR_get] at h2
  exact Nat.le_of_ble_eq_true h2
theorem bin_over (n : Nat) : ∀ k, n < k → bin n k = 0 := by
  induction n with
  | zero => intro k h; cases k with
    | zero => omega
    | succ k => rfl
  | succ n ih => intro k h; cases k with
    | zero => omega
    | succ k => rw [bin_next, ih k (by omega), ih (k + 1) (by omega)]
/-- The sum of the first r. -/
def binS (n : Nat) : Nat → Nat
  | 0 => 0
  | r + 1 => binS n r + bin n r
theorem binS_next (n : Nat) : ∀ r, binS (n + 1) (r + 1) = binS n r + binS n (r + 1) := by
  intro r
  induction r with
  | zero => simp [binS, bin_zero]
  | succ r ih =>
    have e : binS (n + 1) (r + 1 + 1) = binS (n + 1) (r + 1) + bin (n + 1) (r + 1) := rfl
    have e1 : binS n (r + 1) = binS n r + bin n r := rfl
    have e2 : binS n (r + 1 + 1) = binS n (r + 1) + bin n (r + 1) := rfl
    have e3 := bin_next n r
    omega
theorem binS_le (n : Nat) : ∀ r, binS n r ≤ 2 ^ n := by
  induction n with
  | zero =>
    intro r
    have : ∀ r, binS 0 (r + 1) = 1 := fun r => by
      induction r with
      | zero => rfl
      | succ r ih => show binS 0 (r + 1) + bin 0 (r + 1) = 1; rw [ih]; rfl
    cases r with
    | zero => simp [binS]
    | succ r => simp [this]
  | succ n ih =>
    intro r
    cases r with
    | zero => simp [binS]
    | succ r => rw [binS_next, Nat.pow_succ]; have := ih r; have := ih (r + 1); omega
theorem bin_le (n k : Nat) : bin n k ≤ 2 ^ n := by
  have h : binS n (k + 1) = binS n k + bin n k := rfl
  have := binS_le n (k + 1)
  omega
theorem pow60 (n : Nat) (h : n ≤ 60) : 2 ^ n ≤ 1152921504606846976 := Nat.le_trans (Nat.pow_le_pow_right (by omega) h) (by decide)
theorem bin_fits (n k : Nat) (h : n ≤ 60) : bin n k ≤ 1152921504606846976 := Nat.le_trans (bin_le n k) (pow60 n h)
end Go.Proofs.Ytbjcomjokkhaeaa
