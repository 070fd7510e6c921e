/- Orders out of cycles: what is said of both sides (no code yet). -/
import Derived.Test.YtdnelmmbiccjcaaLj
import Derived.Test.YtdnelmmbiccjcaaOr
namespace Go.Proofs.Ytdnelmmbiccjcaa
open Go Go.RowKit
set_option linter.unusedVariables false

/-- The numbers of the first k lists. -/
def flatL (xss : List (List Int)) : Nat → List Int
  | 0 => []
  | k + 1 => flatL xss k ++ nthL xss k
theorem flatL_len (xss : List (List Int)) (k : Nat) : (flatL xss k).length = preL xss k := by
  induction k with
  | zero => rfl
  | succ k ih => rw [flatL, List.length_append, ih]; rfl
theorem flatL_get (xss : List (List Int)) (k i j : Nat) (hi : i < k) (hj : j < (nthL xss i).length) : (flatL xss k)[preL xss i + j]? = (nthL xss i)[j]? := by
  induction k with
  | zero => omega
  | succ k ih =>
    rw [flatL]
    by_cases e : i = k
    · subst e
      rw [List.getElem?_append_right (by rw [flatL_len]; omega), flatL_len]
      congr 1; omega
    · have h1 := preL_le xss (i + 1) k (by omega)
      have h2 : preL xss (i + 1) = preL xss i + (nthL xss i).length := rfl
      rw [List.getElem?_append_left (by rw [flatL_len]; omega)]
      exact ih (by omega)
/-- The j-th number of the i-th cycle, and the one that follows it. -/
def cyA (xss : List (List Int)) (i j : Nat) : Int := (nthL xss i)[j]?.getD 0
def cyN (xss : List (List Int)) (i j : Nat) : Int := cyA xss i ((j + 1) % (nthL xss i).length)
/-- There is a j-th number of the i-th cycle. -/
def cyI (xss : List (List Int)) (i j : Nat) : Prop := i < xss.length ∧ j < (nthL xss i).length
/-- The cycles of an order of n numbers. -/
def ocC (xss : List (List Int)) (n : Int) : Prop := (∀ i, i < xss.length → nthL xss i ≠ []) ∧ (totL xss : Int) = n ∧ isOrd (flatL xss xss.length)
theorem flat_at {xss : List (List Int)} {i j : Nat} (h : cyI xss i j) : (flatL xss xss.length)[preL xss i + j]?.getD 0 = cyA xss i j ∧ preL xss i + j < (flatL xss xss.length).length := by
  refine ⟨by rw [flatL_get _ _ _ _ h.1 h.2]; rfl, ?_⟩
  rw [flatL_len]
  have h1 := preL_le xss (i + 1) xss.length h.1
  have h2 : preL xss (i + 1) = preL xss i + (nthL xss i).length := rfl
  have := h.2
  omega
theorem cy_at {xss : List (List Int)} {n : Int} {i j : Nat} (hc : ocC xss n) (h : cyI xss i j) : ∃ y : Nat, cyA xss i j = (y : Int) ∧ (y : Int) < n ∧ y < totL xss := by
  obtain ⟨h1, h2⟩ := flat_at h
  obtain ⟨h3, h4⟩ := (hc.2.2.2 _ h2).1
  rw [h1, flatL_len] at h4
  rw [h1] at h3
  have h5 := hc.2.1
  have h6 : (preL xss xss.length : Int) = n := h5
  exact ⟨(cyA xss i j).toNat, by omega, by omega, by unfold totL; omega⟩
theorem cy_inj {xss : List (List Int)} {n : Int} {i j k l : Nat} (hc : ocC xss n) (h : cyI xss i j) (h' : cyI xss k l) (e : cyA xss i j = cyA xss k l) : i = k ∧ j = l := by
  obtain ⟨a1, a2⟩ := flat_at h
  obtain ⟨b1, b2⟩ := flat_at h'
  have hs : preL xss i + j = preL xss k + l := by
    rcases Nat.lt_trichotomy (preL xss i + j) (preL xss k + l) with hl | hl | hl
    · exact absurd (by rw [a1, b1, e]) ((hc.2.2.2 _ b2).2 _ hl)
    · exact hl
    · exact absurd (by rw [a1, b1, e]) ((hc.2.2.2 _ a2).2 _ hl)
  have p1 : preL xss (i + 1) = preL xss i + (nthL xss i).length := rfl
  have p2 : preL xss (k + 1) = preL xss k + (nthL xss k).length := rfl
  have q1 := h.2
  have q2 := h'.2
  have hik : i = k := by
    rcases Nat.lt_trichotomy i k with hl | hl | hl
    · have := preL_le xss (i + 1) k hl; omega
    · exact hl
    · have := preL_le xss (k + 1) i hl; omega
  subst hik
  exact ⟨rfl, by omega⟩
/-- What lies in memory once S has been written. -/
def Wrote (xss : List (List Int)) (S : Nat → Nat → Prop) (V : List Int) : Prop :=
  (∀ i j, cyI xss i j → S i j → ∀ y : Nat, cyA xss i j = y → V[y]?.getD 0 = cyN xss i j) ∧ ∀ y : Nat, (∀ i j, cyI xss i j → S i j → cyA xss i j ≠ y) → V[y]?.getD 0 = 0
theorem wrote_none (xss : List (List Int)) (n : Nat) : Wrote xss (fun _ _ => False) (List.replicate n 0) := by
  refine ⟨fun i j _ h => h.elim, fun y _ => ?_⟩
  by_cases h : y < n <;> simp [h]
theorem wrote_next {xss : List (List Int)} {n : Int} {S S' : Nat → Nat → Prop} {V : List Int} {a b y : Nat} (hc : ocC xss n) (h : Wrote xss S V) (hi : cyI xss a b) (hy : cyA xss a b = y) (hv : y < V.length)
    (hS : ∀ i j, cyI xss i j → (S' i j ↔ S i j ∨ (i = a ∧ j = b))) : Wrote xss S' (V.set y (cyN xss a b)) := by
  refine ⟨fun i j hij hs z hz => ?_, fun z hz => ?_⟩
  · by_cases e : y = z
    · subst e
      obtain ⟨rfl, rfl⟩ := cy_inj hc hij hi (hz.trans hy.symm)
      simp [hv]
    · rw [List.getElem?_set_ne e]
      refine h.1 i j hij ?_ z hz
      rcases (hS i j hij).1 hs with h1 | ⟨rfl, rfl⟩
      · exact h1
      · exact absurd (by rw [hy] at hz; omega) e
  · have e : y ≠ z := fun e => hz a b hi ((hS a b hi).2 (.inr ⟨rfl, rfl⟩)) (by rw [hy, e])
    rw [List.getElem?_set_ne e]
    exact h.2 z fun i j hij hs => hz i j hij ((hS i j hij).2 (.inl hs))
open Classical in
/-- The order of cycles. -/
noncomputable def ocV (xss : List (List Int)) (y : Nat) : Int := if h : ∃ p : Nat × Nat, cyI xss p.1 p.2 ∧ cyA xss p.1 p.2 = y then cyN xss (Classical.choose h).1 (Classical.choose h).2 else 0
noncomputable def ocL (xss : List (List Int)) : List Int := (List.range (totL xss)).map (ocV xss)
theorem ocL_len (xss : List (List Int)) : (ocL xss).length = totL xss := by simp [ocL]
theorem wrote_all {xss : List (List Int)} {S : Nat → Nat → Prop} {V : List Int} (h : Wrote xss S V) (hS : ∀ i j, cyI xss i j → S i j) (hl : V.length = totL xss) : V = ocL xss := by
  apply List.ext_getElem
  · rw [hl, ocL_len]
  · intro y h1 h2
    have hg : V[y]?.getD 0 = V[y] := by simp [h1]
    rw [← hg]
    simp only [ocL, List.getElem_map, List.getElem_range]
    unfold ocV
    by_cases hx : ∃ p : Nat × Nat, cyI xss p.1 p.2 ∧ cyA xss p.1 p.2 = y
    · rw [dif_pos hx]
      obtain ⟨c1, c2⟩ := Classical.choose_spec hx
      exact h.1 _ _ c1 (hS _ _ c1) y c2
    · rw [dif_neg hx]
      exact h.2 y fun i j hij _ e => hx ⟨(i, j), hij, e⟩
end Go.Proofs.Ytdnelmmbiccjcaa
