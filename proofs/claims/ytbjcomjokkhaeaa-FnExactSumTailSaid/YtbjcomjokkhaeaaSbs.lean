/- Choices of some of n numbers as bits: how many there are, and of which sums (no text of the project). -/
import Derived.Test.YtbjcomjokkhaeaaWy
import Derived.Test.YtbjcomjokkhaeaaBc
namespace Go.Proofs.Ytbjcomjokkhaeaa
set_option linter.unusedVariables false

def bt (m i : Nat) : Nat := m / 2 ^ i % 2
theorem bt_le (m i : Nat) : bt m i ≤ 1 := by unfold bt; omega
theorem bt_lo {m n : Nat} (h : m < 2 ^ n) : bt m n = 0 := by unfold bt; rw [Nat.div_eq_of_lt h]
theorem bt_hi {m n : Nat} (h : m < 2 ^ n) : bt (2 ^ n + m) n = 1 := by
  unfold bt; rw [Nat.add_div_left _ (Nat.two_pow_pos n), Nat.div_eq_of_lt h]
theorem bt_same {m n i : Nat} (h : i < n) : bt (2 ^ n + m) i = bt m i := by
  unfold bt
  obtain ⟨d, rfl⟩ : ∃ d, n = i + 1 + d := ⟨n - i - 1, by omega⟩
  rw [Nat.pow_add, Nat.pow_succ, Nat.mul_assoc, Nat.mul_add_div (Nat.two_pow_pos i), Nat.mul_add_mod]
def cM (m : Nat) : Nat → Nat
  | 0 => 0
  | i + 1 => cM m i + bt m i
def lM (r : Nat → Nat) (m : Nat) : Nat → Nat
  | 0 => 0
  | i + 1 => lM r m i + bt m i * r i
theorem cM_same {m n : Nat} : ∀ i, i ≤ n → cM (2 ^ n + m) i = cM m i := by
  intro i
  induction i with
  | zero => intro _; rfl
  | succ i ih => intro h; show cM _ i + bt _ i = cM m i + bt m i; rw [ih (by omega), bt_same (by omega)]
theorem lM_same {r : Nat → Nat} {m n : Nat} : ∀ i, i ≤ n → lM r (2 ^ n + m) i = lM r m i := by
  intro i
  induction i with
  | zero => intro _; rfl
  | succ i ih => intro h; show lM r _ i + bt _ i * r i = lM r m i + bt m i * r i; rw [ih (by omega), bt_same (by omega)]
theorem cM_le (m : Nat) : ∀ i, cM m i ≤ i := by
  intro i
  induction i with
  | zero => exact Nat.le_refl _
  | succ i ih => show cM m i + bt m i ≤ _; have := bt_le m i; omega
/-- A sum over all choices. -/
def tot (r : Nat → Nat) (f : Nat → Nat → Nat) (n : Nat) : Nat := sq (fun m => f (cM m n) (lM r m n)) (2 ^ n)
theorem sq_two (f : Nat → Nat) (a b : Nat) : sq f (a + b) = sq f a + sq (fun i => f (a + i)) b := by
  induction b with
  | zero => rfl
  | succ b ih => show sq f (a + b) + f (a + b) = _ + (sq _ b + f (a + b)); rw [ih]; omega
theorem tot_next (r : Nat → Nat) (f : Nat → Nat → Nat) (n : Nat) : tot r f (n + 1) = tot r f n + tot r (fun c l => f (c + 1) (l + r n)) n := by
  unfold tot
  rw [Nat.pow_succ, Nat.mul_two, sq_two]
  congr 1
  · exact sq_ext (fun m hm => by show f (cM m n + bt m n) (lM r m n + bt m n * r n) = _; rw [bt_lo hm, Nat.zero_mul]; rfl)
  · exact sq_ext (fun m hm => by
      show f (cM (2 ^ n + m) n + bt (2 ^ n + m) n) (lM r (2 ^ n + m) n + bt (2 ^ n + m) n * r n) = _
      rw [bt_hi hm, Nat.one_mul, cM_same _ (Nat.le_refl _), lM_same _ (Nat.le_refl _)])
theorem tot_ext {r : Nat → Nat} {f g : Nat → Nat → Nat} {n : Nat} (h : ∀ c l, f c l = g c l) : tot r f n = tot r g n := sq_ext (fun m _ => h _ _)
theorem tot_zero (r : Nat → Nat) (n : Nat) : tot r (fun _ _ => 0) n = 0 := sq_zero _
theorem tot_bin (r : Nat → Nat) : ∀ n k, tot r (fun c _ => if c = k then 1 else 0) n = bin n k := by
  intro n
  induction n with
  | zero =>
    intro k
    cases k with
    | zero => rfl
    | succ k => rfl
  | succ n ih =>
    intro k
    rw [tot_next, ih k]
    cases k with
    | zero =>
      rw [tot_ext (g := fun _ _ => 0) (fun c l => by rw [if_neg (by omega)]), tot_zero, bin_zero, bin_zero]
    | succ k =>
      rw [tot_ext (g := fun c _ => if c = k then 1 else 0) (fun c l => by by_cases h : c = k <;> simp [h]), ih k, bin_next]
      omega
theorem tot_cw (r : Nat → Nat) : ∀ n k s, tot r (fun c l => if c = k ∧ l = s then 1 else 0) n = cw r n k s := by
  intro n
  induction n with
  | zero => intro k s; show 0 + (if 0 = k ∧ 0 = s then 1 else 0) = (if k = 0 ∧ s = 0 then 1 else 0); rw [Nat.zero_add]; by_cases h : k = 0 ∧ s = 0
            · rw [if_pos h, if_pos ⟨h.1.symm, h.2.symm⟩]
            · rw [if_neg h, if_neg (fun e => h ⟨e.1.symm, e.2.symm⟩)]
  | succ n ih =>
    intro k s
    rw [tot_next, ih k s]
    cases k with
    | zero => rw [tot_ext (g := fun _ _ => 0) (fun c l => by rw [if_neg (by omega)]), tot_zero, cw_none]; rfl
    | succ k =>
      rw [cw_next]
      congr 1
      by_cases h : r n ≤ s
      · rw [if_pos h, ← ih k (s - r n)]
        refine tot_ext (fun c l => ?_)
        by_cases e : c = k ∧ l = s - r n
        · rw [if_pos e, if_pos (by omega)]
        · rw [if_neg e, if_neg (by omega)]
      · rw [if_neg h, tot_ext (g := fun _ _ => 0) (fun c l => by rw [if_neg (by omega)]), tot_zero]
theorem tot_part (r : Nat → Nat) (n k most : Nat) : tot r (fun c l => if c = k ∧ l ≤ most then 1 else 0) n = sq (fun s => cw r n k s) (most + 1) := by
  induction most with
  | zero =>
    show _ = 0 + cw r n k 0
    rw [← tot_cw, Nat.zero_add]
    exact tot_ext (fun c l => by by_cases e : c = k ∧ l = 0
                                 · rw [if_pos e, if_pos (by omega)]
                                 · rw [if_neg e, if_neg (by omega)])
  | succ t ih =>
    show _ = sq _ (t + 1) + cw r n k (t + 1)
    rw [← ih, ← tot_cw]
    unfold tot
    rw [← sq_add]
    refine sq_ext (fun m _ => ?_)
    show (if cM m n = k ∧ lM r m n ≤ t + 1 then 1 else 0) = (if cM m n = k ∧ lM r m n ≤ t then 1 else 0) + (if cM m n = k ∧ lM r m n = t + 1 then 1 else 0)
    by_cases h1 : cM m n = k ∧ lM r m n = t + 1
    · rw [if_pos (by omega), if_neg (by omega), if_pos h1]
    · by_cases h2 : cM m n = k ∧ lM r m n ≤ t
      · rw [if_pos (by omega), if_pos h2, if_neg h1]
      · rw [if_neg (by omega), if_neg h2, if_neg h1]
end Go.Proofs.Ytbjcomjokkhaeaa
