/- In how many ways k of the first i numbers can be chosen so that their sum is s (no text of the project). -/
import Derived.Lib.Hide
namespace Go.Proofs.Ytbjcomjokkhaeaa
set_option linter.unusedVariables false

def cw (r : Nat → Nat) : Nat → Nat → Nat → Nat
  | 0, k, s => if k = 0 ∧ s = 0 then 1 else 0
  | i + 1, 0, s => cw r i 0 s
  | i + 1, k + 1, s => cw r i (k + 1) s + (if r i ≤ s then cw r i k (s - r i) else 0)
theorem cw_next (r : Nat → Nat) (i k s : Nat) : cw r (i + 1) (k + 1) s = cw r i (k + 1) s + (if r i ≤ s then cw r i k (s - r i) else 0) := rfl
theorem cw_none (r : Nat → Nat) (i s : Nat) : cw r (i + 1) 0 s = cw r i 0 s := rfl
theorem cw_le (r : Nat → Nat) : ∀ i k s, cw r i k s ≤ 2 ^ i := by
  intro i
  induction i with
  | zero => intro k s; simp only [cw]; split <;> simp
  | succ i ih =>
    intro k s
    rw [Nat.pow_succ]
    cases k with
    | zero => rw [cw_none]; have := ih 0 s; omega
    | succ k =>
      rw [cw_next]
      have h1 := ih (k + 1) s
      have h2 := ih k (s - r i)
      split <;> omega
theorem cw_over (r : Nat → Nat) : ∀ i k s, i < k → cw r i k s = 0 := by
  intro i
  induction i with
  | zero => intro k s h; simp only [cw]; rw [if_neg (by omega)]
  | succ i ih =>
    intro k s h
    cases k with
    | zero => omega
    | succ k => rw [cw_next, ih (k + 1) s (by omega), ih k _ (by omega)]; simp
theorem cw_fits (r : Nat → Nat) (i k s : Nat) (h : i ≤ 40) : cw r i k s ≤ 1099511627776 := Nat.le_trans (cw_le r i k s) (Nat.le_trans (Nat.pow_le_pow_right (by omega) h) (by decide))
/-- The row k of what there is while row k is made, from the least sum on: sums below s are made. -/
def cwU (r : Nat → Nat) (i k s t : Nat) : Nat := if t < s then cw r (i + 1) k t else cw r i k t
theorem cwU_start (r : Nat → Nat) (i k t : Nat) : cwU r i (k + 1) (r i) t = cw r i (k + 1) t := by
  unfold cwU
  split
  · rw [cw_next, if_neg (by omega)]; rfl
  · rfl
theorem cwU_put (r : Nat → Nat) (i k s t : Nat) (h : r i ≤ s) : (if t = s then cw r i (k + 1) s + cw r i k (s - r i) else cwU r i (k + 1) s t) = cwU r i (k + 1) (s + 1) t := by
  unfold cwU
  by_cases e : t = s
  · subst e; rw [if_pos rfl, if_pos (by omega), cw_next, if_pos h]
  · rw [if_neg e]
    by_cases h1 : t < s
    · rw [if_pos h1, if_pos (by omega)]
    · rw [if_neg h1, if_neg (by omega)]
/-- The same, from the greatest sum on: sums from s on are made. -/
def cwD (r : Nat → Nat) (i k s t : Nat) : Nat := if s ≤ t then cw r (i + 1) k t else cw r i k t
theorem cwD_end (r : Nat → Nat) (i k t : Nat) : cwD r i (k + 1) (r i) t = cw r (i + 1) (k + 1) t := by
  unfold cwD
  split
  · rfl
  · rw [cw_next, if_neg (by omega)]; rfl
theorem cwD_put (r : Nat → Nat) (i k s t : Nat) (h : r i ≤ s) : (if t = s then cw r i (k + 1) s + cw r i k (s - r i) else cwD r i (k + 1) (s + 1) t) = cwD r i (k + 1) s t := by
  unfold cwD
  by_cases e : t = s
  · subst e; rw [if_pos rfl, if_pos (by omega), cw_next, if_pos h]
  · rw [if_neg e]
    by_cases h1 : s + 1 ≤ t
    · rw [if_pos h1, if_pos (by omega)]
    · rw [if_neg h1, if_neg (by omega)]
/-- The ways whatever the number of those chosen. -/
def c1 (r : Nat → Nat) : Nat → Nat → Nat
  | 0, s => if s = 0 then 1 else 0
  | i + 1, s => c1 r i s + (if r i ≤ s then c1 r i (s - r i) else 0)
theorem c1_le (r : Nat → Nat) : ∀ i s, c1 r i s ≤ 2 ^ i := by
  intro i
  induction i with
  | zero => intro s; simp only [c1]; split <;> simp
  | succ i ih =>
    intro s
    rw [Nat.pow_succ]
    have h1 := ih s
    have h2 := ih (s - r i)
    show c1 r i s + _ ≤ _
    split <;> omega
theorem c1_fits (r : Nat → Nat) (i s : Nat) (h : i ≤ 40) : c1 r i s ≤ 1099511627776 := Nat.le_trans (c1_le r i s) (Nat.le_trans (Nat.pow_le_pow_right (by omega) h) (by decide))
def c1D (r : Nat → Nat) (i s t : Nat) : Nat := if s ≤ t then c1 r (i + 1) t else c1 r i t
theorem c1D_end (r : Nat → Nat) (i t : Nat) : c1D r i (r i) t = c1 r (i + 1) t := by
  unfold c1D
  split
  · rfl
  · show _ = c1 r i t + _; rw [if_neg (by omega)]; rfl
theorem c1D_put (r : Nat → Nat) (i s t : Nat) (h : r i ≤ s) : (if t = s then c1 r i s + c1 r i (s - r i) else c1D r i (s + 1) t) = c1D r i s t := by
  unfold c1D
  by_cases e : t = s
  · subst e; rw [if_pos rfl, if_pos (by omega)]; show _ = c1 r i t + _; rw [if_pos h]
  · rw [if_neg e]
    by_cases h1 : s + 1 ≤ t
    · rw [if_pos h1, if_pos (by omega)]
    · rw [if_neg h1, if_neg (by omega)]
/-- Sums of the first n of a sequence. -/
def sq (f : Nat → Nat) : Nat → Nat
  | 0 => 0
  | n + 1 => sq f n + f n
theorem sq_ext {f g : Nat → Nat} {n : Nat} (h : ∀ i, i < n → f i = g i) : sq f n = sq g n := by
  induction n with
  | zero => rfl
  | succ n ih => show sq f n + f n = sq g n + g n; rw [ih (fun i hi => h i (by omega)), h n (by omega)]
theorem sq_add (f g : Nat → Nat) (n : Nat) : sq (fun i => f i + g i) n = sq f n + sq g n := by
  induction n with
  | zero => rfl
  | succ n ih => show sq _ n + (f n + g n) = (sq f n + f n) + (sq g n + g n); rw [ih]; omega
theorem sq_zero (n : Nat) : sq (fun _ => 0) n = 0 := by
  induction n with
  | zero => rfl
  | succ n ih => show sq _ n + 0 = 0; rw [ih]
theorem sq_swap (f : Nat → Nat → Nat) (m n : Nat) : sq (fun i => sq (fun k => f i k) n) m = sq (fun k => sq (fun i => f i k) m) n := by
  induction m with
  | zero => exact (sq_zero n).symm
  | succ m ih =>
    show sq _ m + sq (fun k => f m k) n = _
    rw [ih, ← sq_add]
    exact sq_ext (fun k _ => rfl)
theorem sq_first (f : Nat → Nat) (n : Nat) : sq f (n + 1) = f 0 + sq (fun i => f (i + 1)) n := by
  induction n with
  | zero => show 0 + f 0 = f 0 + 0; omega
  | succ n ih => show sq f (n + 1) + f (n + 1) = f 0 + (sq (fun i => f (i + 1)) n + f (n + 1)); rw [ih]; omega
theorem sq_le {f : Nat → Nat} {b : Nat} (h : ∀ i, f i ≤ b) (n : Nat) : sq f n ≤ b * n := by
  induction n with
  | zero => exact Nat.zero_le _
  | succ n ih => show sq f n + f n ≤ _; rw [Nat.mul_succ]; have := h n; omega
theorem cw_sum (r : Nat → Nat) : ∀ i K s, i ≤ K → sq (fun k => cw r i k s) (K + 1) = c1 r i s := by
  intro i
  induction i with
  | zero =>
    intro K s h
    rw [sq_first]
    have : sq (fun k => cw r 0 (k + 1) s) K = 0 := by rw [sq_ext (g := fun _ => 0) (fun k _ => cw_over r 0 _ s (by omega))]; exact sq_zero K
    show cw r 0 0 s + _ = _
    rw [this]
    simp [cw, c1]
  | succ i ih =>
    intro K s h
    obtain ⟨L, rfl⟩ : ∃ L, K = L + 1 := ⟨K - 1, by omega⟩
    rw [sq_first]
    show cw r (i + 1) 0 s + sq (fun k => cw r (i + 1) (k + 1) s) (L + 1) = _
    have e : sq (fun k => cw r (i + 1) (k + 1) s) (L + 1) = sq (fun k => cw r i (k + 1) s) (L + 1) + (if r i ≤ s then sq (fun k => cw r i k (s - r i)) (L + 1) else 0) := by
      by_cases h1 : r i ≤ s
      · rw [if_pos h1, ← sq_add]; exact sq_ext (fun k _ => by rw [cw_next, if_pos h1])
      · rw [if_neg h1]; exact sq_ext (fun k _ => by rw [cw_next, if_neg h1]; rfl)
    rw [e, cw_none]
    have e2 := ih (L + 1) s (by omega)
    rw [sq_first] at e2
    have e2' : cw r i 0 s + sq (fun k => cw r i (k + 1) s) (L + 1) = c1 r i s := e2
    show _ = c1 r i s + _
    rw [← e2']
    by_cases h1 : r i ≤ s
    · rw [if_pos h1, if_pos h1, ih L (s - r i) (by omega)]; omega
    · rw [if_neg h1, if_neg h1]; omega
end Go.Proofs.Ytbjcomjokkhaeaa
