/- Trees of sums: plain facts. -/
import Derived.WalkKit
namespace Go.Proofs.Ythalameadedbmaa
open Go
set_option linter.unusedVariables false

/-- The greatest power of 2 that divides i, for i from 1 to 64. -/
def lowN (i : Nat) : Nat := if i % 2 = 1 then 1 else if i % 4 = 2 then 2 else if i % 8 = 4 then 4 else if i % 16 = 8 then 8 else if i % 32 = 16 then 16 else if i % 64 = 32 then 32 else 64
def ltb (a b : Nat) : Bool := Nat.ble (a + 1) b
theorem ltb_t {a b : Nat} (h : a < b) : ltb a b = true := by unfold ltb; rw [Nat.ble_eq]; omega
theorem ltb_f {a b : Nat} (h : ¬ a < b) : ltb a b = false := by unfold ltb; rw [Bool.eq_false_iff, ne_eq, Nat.ble_eq]; omega
/-- The sum number at (from 1) has the weight x (from 0). -/
def covB (at_ x : Nat) : Bool := Nat.ble (at_ - lowN at_) x && ltb x at_
def chkUp : Bool := (List.range 65).all fun a => (List.range 64).all fun x => !(ltb 0 a && covB a x) || (ltb 64 (a + lowN a) || covB (a + lowN a) x)
def chkGap : Bool := (List.range 65).all fun a => (List.range 64).all fun x => !(ltb 0 a && covB a x) || (List.range 65).all fun b => !(ltb a b && ltb b (a + lowN a)) || !covB b x
theorem chkUp_ok : chkUp = true := by decide +kernel
theorem chkGap_ok : chkGap = true := by decide +kernel
theorem low_pos (i : Nat) : 1 ≤ lowN i := by unfold lowN; (repeat' split) <;> omega
theorem low_le (i : Nat) (h : 1 ≤ i) (h2 : i ≤ 64) : lowN i ≤ i := by unfold lowN; (repeat' split) <;> omega
theorem low_64 (i : Nat) : lowN i ≤ 64 := by unfold lowN; (repeat' split) <;> omega
theorem up_cov {a x : Nat} (ha : 1 ≤ a) (ha2 : a ≤ 64) (hx : x < 64) (hc : covB a x = true) (hu : a + lowN a ≤ 64) : covB (a + lowN a) x = true := by
  have h := chkUp_ok
  unfold chkUp at h
  rw [List.all_eq_true] at h
  have h := h a (by simp; omega)
  rw [List.all_eq_true] at h
  have h := h x (by simpa using hx)
  have e1 : ltb 0 a = true := ltb_t (by omega)
  have e2 : ltb 64 (a + lowN a) = false := ltb_f (by omega)
  rw [e1, hc, e2] at h
  simpa using h
theorem up_gap {a x b : Nat} (ha : 1 ≤ a) (ha2 : a ≤ 64) (hx : x < 64) (hc : covB a x = true) (h1 : a < b) (h2 : b < a + lowN a) (hb : b ≤ 64) : covB b x = false := by
  have h := chkGap_ok
  unfold chkGap at h
  rw [List.all_eq_true] at h
  have h := h a (by simp; omega)
  rw [List.all_eq_true] at h
  have h := h x (by simpa using hx)
  have e1 : ltb 0 a = true := ltb_t (by omega)
  rw [e1, hc] at h
  simp only [Bool.and_self, Bool.not_true, Bool.false_or] at h
  rw [List.all_eq_true] at h
  have h := h b (by simp; omega)
  have e2 : ltb a b = true := ltb_t (by omega)
  have e3 : ltb b (a + lowN a) = true := ltb_t (by omega)
  rw [e2, e3] at h
  simpa using h
theorem cov_iff (a x : Nat) : covB a x = true ↔ a - lowN a ≤ x ∧ x < a := by
  unfold covB
  rw [Bool.and_eq_true, Nat.ble_eq, ltb, Nat.ble_eq]
  omega
theorem cov_self (i : Nat) : covB (i + 1) i = true := by rw [cov_iff]; have := low_pos (i + 1); omega
theorem cov_less {a x : Nat} (h : a ≤ x) : covB a x = false := by
  cases hc : covB a x with
  | false => rfl
  | true => rw [cov_iff] at hc; omega

/-- The sum of the first i weights that p picks. -/
def sumP (ws : List Int) (p : Nat → Bool) : Nat → Int
  | 0 => 0
  | i + 1 => sumP ws p i + if p i = true then ws[i]?.getD 0 else 0
def treeV (ws : List Int) (i a : Nat) : Int := sumP ws (covB a) i
def treeL (ws : List Int) : List Int := (List.range ws.length).map fun j => treeV ws ws.length (j + 1)
theorem treeL_len (ws : List Int) : (treeL ws).length = ws.length := by simp [treeL]
theorem treeL_get (ws : List Int) (j : Nat) (h : j < ws.length) : (treeL ws)[j]?.getD 0 = treeV ws ws.length (j + 1) := by simp [treeL, h]
/-- All weights from 0 to 1000000. -/
def leafs (ws : List Int) : Prop := ∀ x : Nat, 0 ≤ ws[x]?.getD 0 ∧ ws[x]?.getD 0 ≤ 1000000
theorem sumP_bd {ws : List Int} (h : leafs ws) (p : Nat → Bool) (i : Nat) : 0 ≤ sumP ws p i ∧ sumP ws p i ≤ 1000000 * (i : Int) := by
  induction i with
  | zero => exact ⟨Int.le_refl _, by simp [sumP]⟩
  | succ i ih =>
    have := h i
    unfold sumP
    split <;> omega
/-- The sum of the weights from lo on, d of them. -/
def sumR (ws : List Int) (lo : Nat) : Nat → Int
  | 0 => 0
  | d + 1 => sumR ws lo d + ws[lo + d]?.getD 0
theorem sumR_next (ws : List Int) (lo d : Nat) : sumR ws lo (d + 1) = sumR ws lo d + ws[lo + d]?.getD 0 := rfl
theorem sumR_bd {ws : List Int} (h : leafs ws) (lo d : Nat) : 0 ≤ sumR ws lo d ∧ sumR ws lo d ≤ 1000000 * (d : Int) := by
  induction d with
  | zero => exact ⟨Int.le_refl _, by simp [sumR]⟩
  | succ d ih => have := h (lo + d); unfold sumR; omega
theorem sumP_range (ws : List Int) (a : Nat) (ha : lowN a ≤ a) (n : Nat) : sumP ws (covB a) n = sumR ws (a - lowN a) (min n a - (a - lowN a)) := by
  induction n with
  | zero => rw [Nat.zero_min, Nat.zero_sub]; rfl
  | succ n ih =>
    unfold sumP
    rw [ih]
    by_cases hc : covB a n = true
    · rw [if_pos hc]
      have := (cov_iff a n).1 hc
      rw [show min (n + 1) a - (a - lowN a) = (min n a - (a - lowN a)) + 1 by omega]
      rw [sumR_next, show a - lowN a + (min n a - (a - lowN a)) = n by omega]
    · rw [if_neg hc]
      have h : ¬(a - lowN a ≤ n ∧ n < a) := fun h => hc ((cov_iff a n).2 h)
      rw [show min (n + 1) a - (a - lowN a) = min n a - (a - lowN a) by omega]; omega
theorem treeV_range (ws : List Int) (a n : Nat) (ha : 1 ≤ a) (h64 : a ≤ 64) (hn : a ≤ n) : treeV ws n a = sumR ws (a - lowN a) (lowN a) := by
  have hl := low_le a ha h64
  unfold treeV
  rw [sumP_range ws a hl n]
  congr 1
  omega
theorem treeV_next (ws : List Int) (i a : Nat) : treeV ws (i + 1) a = treeV ws i a + if covB a i = true then ws[i]?.getD 0 else 0 := rfl
theorem treeV_skip (ws : List Int) (i a : Nat) (h : covB a i = false) : treeV ws (i + 1) a = treeV ws i a := by rw [treeV_next, if_neg (by rw [h]; exact Bool.false_ne_true)]; omega
theorem treeV_take (ws : List Int) (i a : Nat) (h : covB a i = true) : treeV ws (i + 1) a = treeV ws i a + ws[i]?.getD 0 := by rw [treeV_next, if_pos h]
/-- The tree while the weight i is being put in, at the sum a: those before have it, those from a on have it not. -/
def treeM (ws : List Int) (n i a : Nat) : List Int := (List.range n).map fun j => if j + 1 < a then treeV ws (i + 1) (j + 1) else treeV ws i (j + 1)
theorem treeM_len (ws : List Int) (n i a : Nat) : (treeM ws n i a).length = n := by simp [treeM]
theorem treeM_zero (ws : List Int) (n : Nat) : treeM ws n 0 1 = List.replicate n 0 := by
  apply List.ext_getElem
  · simp [treeM]
  · intro j h1 h2
    simp only [treeM, List.getElem_map, List.getElem_range, List.getElem_replicate]
    rw [if_neg (by omega)]; rfl
theorem treeM_start (ws : List Int) (n i : Nat) : treeM ws n i 1 = treeM ws n i (i + 1) := by
  apply List.ext_getElem
  · simp [treeM]
  · intro j h1 h2
    simp only [treeM, List.getElem_map, List.getElem_range]
    rw [if_neg (by omega)]
    split
    · rw [treeV_skip ws i (j + 1) (cov_less (by omega))]
    · rfl
theorem treeM_end (ws : List Int) (n i a : Nat) (h : n < a) : treeM ws n i a = treeM ws n (i + 1) 1 := by
  apply List.ext_getElem
  · simp [treeM]
  · intro j h1 h2
    have hj : j < n := by simpa [treeM] using h1
    simp only [treeM, List.getElem_map, List.getElem_range]
    rw [if_pos (by omega), if_neg (by omega)]
theorem treeM_get (ws : List Int) (n i a : Nat) (h1 : 1 ≤ a) (h : a ≤ n) : (treeM ws n i a)[a - 1]?.getD 0 = treeV ws i a := by
  simp only [treeM, List.getElem?_map]
  rw [List.getElem?_range (by omega)]
  simp only [Option.map_some, Option.getD_some]
  rw [if_neg (by omega), Nat.sub_add_cancel h1]
theorem treeM_put (ws : List Int) (n i a : Nat) (h1 : 1 ≤ a) (h : a ≤ n) (h64 : n ≤ 64) (hi : i < 64) (hc : covB a i = true) :
    (treeM ws n i a).set (a - 1) (treeV ws i a + ws[i]?.getD 0) = treeM ws n i (a + lowN a) := by
  apply List.ext_getElem
  · simp [treeM]
  · intro j h3 h4
    have hj : j < n := by simpa [treeM] using h4
    have hl := low_pos a
    rw [List.getElem_set]
    simp only [treeM, List.getElem_map, List.getElem_range]
    by_cases e : a - 1 = j
    · rw [if_pos e, if_pos (by omega), show j + 1 = a by omega, treeV_take ws i a hc]
    · rw [if_neg e]
      by_cases hlt : j + 1 < a
      · rw [if_pos hlt, if_pos (by omega)]
      · rw [if_neg hlt]
        split
        · rw [treeV_skip ws i (j + 1) (up_gap h1 (by omega) hi hc (by omega) (by omega) (by omega))]
        · rfl
theorem treeM_all (ws : List Int) : treeM ws ws.length ws.length 1 = treeL ws := by
  apply List.ext_getElem
  · simp [treeM, treeL]
  · intro j h1 h2
    simp only [treeM, treeL, List.getElem_map, List.getElem_range]
    rw [if_neg (by omega)]
end Go.Proofs.Ythalameadedbmaa
