/- The kinds of hands: two ways to tell them, the same for all digits. No project text. -/
import Derived.RowKit
namespace Go.Proofs.Ytdmbhnllebipjab

def b1 (a x : Nat) : Nat := cond (Nat.beq a x) 1 0
theorem b1_eq (a x : Nat) : b1 a x = if a = x then 1 else 0 := by
  unfold b1
  by_cases h : a = x
  · subst h; simp
  · rw [if_neg h, show Nat.beq a x = false by rw [← Bool.not_eq_true]; intro hh; exact h (Nat.eq_of_beq_eq_true hh)]; rfl
theorem b1_le (a x : Nat) : b1 a x ≤ 1 := by rw [b1_eq]; split <;> omega
def cx (a b c d e x : Nat) : Nat := b1 a x + b1 b x + b1 c x + b1 d x + b1 e x
def st (v : Nat) (s : Nat × Nat) : Nat × Nat := (cond (Nat.ble s.1 v) v s.1, cond (Nat.beq v 2) (s.2 + 1) s.2)
/-- The greatest count of k digits, and how many of the counts are 2. -/
def mp (f : Nat → Nat) : Nat → Nat × Nat
  | 0 => (0, 0)
  | k + 1 => st (f k) (mp f k)
def handS (m p : Nat) : Nat := cond (Nat.beq m 5) 6 (cond (Nat.beq m 4) 5 (cond (Nat.beq m 3) (cond (Nat.beq p 1) 4 3) p))
def eqs (a b c d e : Nat) : Nat := b1 b a + b1 c a + b1 c b + b1 d a + b1 d b + b1 d c + b1 e a + b1 e b + b1 e c + b1 e d
def handI (q : Nat) : Nat := cond (Nat.beq q 6) 5 (cond (Nat.beq q 10) 6 q)
def all10 (p : Nat → Bool) : Bool := p 0 && (p 1 && (p 2 && (p 3 && (p 4 && (p 5 && (p 6 && (p 7 && (p 8 && p 9))))))))
theorem all10_at {p : Nat → Bool} (h : all10 p = true) (x : Nat) (hx : x < 10) : p x = true := by
  simp only [all10, Bool.and_eq_true] at h
  obtain ⟨h0, h1, h2, h3, h4, h5, h6, h7, h8, h9⟩ := h
  rcases (by omega : x = 0 ∨ x = 1 ∨ x = 2 ∨ x = 3 ∨ x = 4 ∨ x = 5 ∨ x = 6 ∨ x = 7 ∨ x = 8 ∨ x = 9) with rfl | rfl | rfl | rfl | rfl | rfl | rfl | rfl | rfl | rfl <;> assumption
def ten (f : Nat → Nat) : Nat × Nat := st (f 9) (st (f 8) (st (f 7) (st (f 6) (st (f 5) (st (f 4) (st (f 3) (st (f 2) (st (f 1) (st (f 0) (0, 0))))))))))
theorem ten_mp (f : Nat → Nat) : mp f 10 = ten f := rfl
def chk (a : Nat) : Bool := all10 fun b => all10 fun c => all10 fun d => all10 fun e =>
  Nat.ble (handI (eqs a b c d e)) 6 && Nat.beq (handI (eqs a b c d e)) ((fun s : Nat × Nat => handS s.1 s.2) (ten (cx a b c d e)))
theorem chk0 : chk 0 = true := by decide +kernel
theorem chk1 : chk 1 = true := by decide +kernel
theorem chk2 : chk 2 = true := by decide +kernel
theorem chk3 : chk 3 = true := by decide +kernel
theorem chk4 : chk 4 = true := by decide +kernel
theorem chk5 : chk 5 = true := by decide +kernel
theorem chk6 : chk 6 = true := by decide +kernel
theorem chk7 : chk 7 = true := by decide +kernel
theorem chk8 : chk 8 = true := by decide +kernel
theorem chk9 : chk 9 = true := by decide +kernel
theorem hand_all (a b c d e : Nat) (ha : a < 10) (hb : b < 10) (hc : c < 10) (hd : d < 10) (he : e < 10) :
    handI (eqs a b c d e) ≤ 6 ∧ handI (eqs a b c d e) = handS (mp (cx a b c d e) 10).1 (mp (cx a b c d e) 10).2 := by
  have h : chk a = true := by
    rcases (by omega : a = 0 ∨ a = 1 ∨ a = 2 ∨ a = 3 ∨ a = 4 ∨ a = 5 ∨ a = 6 ∨ a = 7 ∨ a = 8 ∨ a = 9) with rfl | rfl | rfl | rfl | rfl | rfl | rfl | rfl | rfl | rfl
    · exact chk0
    · exact chk1
    · exact chk2
    · exact chk3
    · exact chk4
    · exact chk5
    · exact chk6
    · exact chk7
    · exact chk8
    · exact chk9
  have h2 := all10_at (all10_at (all10_at (all10_at h b hb) c hc) d hd) e he
  have h3 := Bool.and_eq_true_iff.1 h2
  exact ⟨Nat.le_of_ble_eq_true h3.1, Nat.eq_of_beq_eq_true h3.2⟩
theorem mp_le (f : Nat → Nat) (hf : ∀ x, f x ≤ 5) (k : Nat) : (mp f k).1 ≤ 5 ∧ (mp f k).2 ≤ k := by
  induction k with
  | zero => exact ⟨Nat.zero_le _, Nat.zero_le _⟩
  | succ k ih =>
    have := hf k
    refine ⟨?_, ?_⟩
    · show cond _ _ _ ≤ 5; cases Nat.ble (mp f k).1 (f k) <;> simp <;> omega
    · show cond _ _ _ ≤ k + 1; cases Nat.beq (f k) 2 <;> simp <;> omega
theorem mp_max (f : Nat → Nat) (k : Nat) : (mp f (k + 1)).1 = if (mp f k).1 ≤ f k then f k else (mp f k).1 := by
  show cond (Nat.ble (mp f k).1 (f k)) (f k) (mp f k).1 = _
  by_cases h : (mp f k).1 ≤ f k
  · rw [if_pos h, show Nat.ble (mp f k).1 (f k) = true from Nat.ble_eq_true_of_le h]; rfl
  · rw [if_neg h, show Nat.ble (mp f k).1 (f k) = false by rw [← Bool.not_eq_true]; intro hh; exact h (Nat.le_of_ble_eq_true hh)]; rfl
theorem mp_two (f : Nat → Nat) (k : Nat) : (mp f (k + 1)).2 = if f k = 2 then (mp f k).2 + 1 else (mp f k).2 := by
  show cond (Nat.beq (f k) 2) ((mp f k).2 + 1) (mp f k).2 = _
  by_cases h : f k = 2
  · rw [if_pos h, show Nat.beq (f k) 2 = true by rw [h]; rfl]; rfl
  · rw [if_neg h, show Nat.beq (f k) 2 = false by rw [← Bool.not_eq_true]; intro hh; exact h (Nat.eq_of_beq_eq_true hh)]; rfl
/-- The count of x among the first k. -/
def cntK (L : List Nat) : Nat → Nat → Nat
  | 0, _ => 0
  | k + 1, x => cntK L k x + b1 (L[k]?.getD 0) x
theorem cntK_le (L : List Nat) (k x : Nat) : cntK L k x ≤ k := by
  induction k with
  | zero => exact Nat.le_refl _
  | succ k ih => have := b1_le (L[k]?.getD 0) x; show cntK L k x + _ ≤ _; omega
theorem cntK_five (a b c d e : Nat) : cntK [a, b, c, d, e] 5 = cx a b c d e := by
  funext x; simp [cntK, cx]
/-- The pairs (i, j), j less than i, that are equal: of the i given and the j to k; of all i to k. -/
def eqK (L : List Nat) (i : Nat) : Nat → Nat
  | 0 => 0
  | j + 1 => eqK L i j + b1 (L[i]?.getD 0) (L[j]?.getD 0)
def eqT (L : List Nat) : Nat → Nat
  | 0 => 0
  | i + 1 => eqT L i + eqK L i i
theorem eqK_le (L : List Nat) (i j : Nat) : eqK L i j ≤ j := by
  induction j with
  | zero => exact Nat.le_refl _
  | succ j ih => have := b1_le (L[i]?.getD 0) (L[j]?.getD 0); show eqK L i j + _ ≤ _; omega
theorem eqT_five (a b c d e : Nat) : eqT [a, b, c, d, e] 5 = eqs a b c d e := by
  simp [eqT, eqK, eqs]; omega
/-- Of five digits. -/
theorem five_all (L : List Nat) (hn : L.length = 5) (hL : ∀ i : Nat, L[i]?.getD 0 < 10) :
    handI (eqT L 5) ≤ 6 ∧ handI (eqT L 5) = handS (mp (cntK L 5) 10).1 (mp (cntK L 5) 10).2 := by
  match L, hn with
  | [a, b, c, d, e], _ =>
    rw [eqT_five, cntK_five]
    exact hand_all a b c d e (by simpa using hL 0) (by simpa using hL 1) (by simpa using hL 2) (by simpa using hL 3) (by simpa using hL 4)
end Go.Proofs.Ytdmbhnllebipjab
