/- Orders, samples, numbers that come again: plain facts on the steps. -/
import Derived.Test.YticmnkgcolgpaaaBw
import Derived.Test.YticmnkgcolgpaaaRa
namespace Go.Proofs.Yticmnkgcolgpaaa
open Go Go.RowKit
set_option linter.unusedVariables false

def idL (n : Nat) : List Int := (List.range n).map fun (i : Nat) => (i : Int)
theorem idL_len (n : Nat) : (idL n).length = n := by simp [idL]
theorem idL_next (n : Nat) : idL (n + 1) = idL n ++ [(n : Int)] := by simp [idL, List.range_succ]
theorem idL_of (n : Nat) (cs : List Int) (hl : cs.length = n) (h : ∀ x : Nat, x < n → cs[x]?.getD 0 = (x : Int)) : cs = idL n := by
  apply List.ext_getElem
  · rw [hl, idL_len]
  · intro x h1 h2
    have := h x (by omega)
    rw [List.getElem?_eq_getElem h1] at this
    simp [idL] at this ⊢
    exact this
def swapL (cs : List Int) (i j : Nat) : List Int := (cs.set i (cs[j]?.getD 0)).set j (cs[i]?.getD 0)
theorem swapL_len (cs : List Int) (i j : Nat) : (swapL cs i j).length = cs.length := by simp [swapL]

/-- One card is drawn and put to its place. -/
noncomputable def cardStep (k : Int) (n j : Nat) (s : Nat × Nat × List Int) : Option (Nat × Nat × List Int) :=
  match belowO k s.1 s.2.1 (n - 1 - j + 1) with
  | some (A, B, x) => some (A, B, swapL s.2.2 (n - 1 - j) x)
  | none => none
noncomputable def cardsK (k : Int) (a b n : Nat) (j : Nat) : Option (Nat × Nat × List Int) := chainO (cardStep k n) (a, b, idL n) j
open Classical in
noncomputable def cardsF (k : Int) (a b : Nat) (n : Int) : Option (Nat × Nat × List Int) := if vSeed k a b = true ∧ 1 ≤ n ∧ n ≤ 64 then cardsK k a b n.toNat (n.toNat - 1) else none
theorem cardsK_inv {k : Int} {a b n : Nat} (hs : sOk k a b) {j A B : Nat} {cs : List Int} (h : cardsK k a b n j = some (A, B, cs)) : sOk k A B ∧ cs.length = n := by
  refine chainO_inv (fun _ s => sOk k s.1 s.2.1 ∧ s.2.2.length = n) ⟨hs, idL_len n⟩ j ?_ j (A, B, cs) (Nat.le_refl _) h
  rintro i ⟨A, B, cs⟩ ⟨A', B', cs'⟩ _ ⟨h1, h2⟩ h3
  unfold cardStep at h3
  simp only at h3
  split at h3
  · rename_i A1 B1 x he
    cases h3
    exact ⟨(belowO_ok he h1 (by omega)).1, by rw [swapL_len]; exact h2⟩
  · cases h3
theorem cardsF_len {k : Int} {a b A B : Nat} {n : Int} {cs : List Int} (h : cardsF k a b n = some (A, B, cs)) : cs.length ≤ 256 := by
  unfold cardsF at h
  split at h
  · rename_i hc
    have : ∀ j s, j ≤ n.toNat - 1 → chainO (cardStep k n.toNat) (a, b, idL n.toNat) j = some s → s.2.2.length = n.toNat := by
      intro j s hj hs
      refine chainO_inv (fun _ s => s.2.2.length = n.toNat) (idL_len _) (n.toNat - 1) ?_ j s hj hs
      rintro i ⟨A, B, cs⟩ ⟨A', B', cs'⟩ _ h2 h3
      unfold cardStep at h3
      simp only at h3
      split at h3
      · cases h3; rw [swapL_len]; exact h2
      · cases h3
    have := this _ _ (Nat.le_refl _) h
    simp only at this
    omega
  · cases h
theorem cardsK_step {k : Int} {a b n j A B A' B' x : Nat} {cs : List Int} (h : cardsK k a b n j = some (A, B, cs)) (hb : belowO k A B (n - 1 - j + 1) = some (A', B', x)) : cardsK k a b n (j + 1) = some (A', B', swapL cs (n - 1 - j) x) := by
  unfold cardsK at *
  rw [chainO_next h]
  unfold cardStep
  simp only [hb]
theorem cardsK_stop {k : Int} {a b n j m A B : Nat} {cs : List Int} (h : cardsK k a b n j = some (A, B, cs)) (hb : belowO k A B (n - 1 - j + 1) = none) (hm : j < m) : cardsK k a b n m = none := by
  refine chainO_none (j := j + 1) ?_ hm
  unfold cardsK at h
  rw [chainO_next h]
  unfold cardStep
  simp only [hb]
theorem cardsF_yes {k : Int} {a b n : Nat} (hv : vSeed k a b = true) (h1 : 1 ≤ n) (h2 : n ≤ 64) : cardsF k a b n = cardsK k a b n (n - 1) := by
  unfold cardsF; rw [if_pos ⟨hv, by omega, by omega⟩]; simp
theorem cardsF_not {k : Int} {a b : Nat} {n : Int} (h : ¬(vSeed k a b = true ∧ 1 ≤ n ∧ n ≤ 64)) : cardsF k a b n = none := by unfold cardsF; rw [if_neg h]

/-! ### Numbers that come again -/
noncomputable def retStep (k : Int) (n : Nat) (j : Nat) (s : Nat × Nat × List Int) : Option (Nat × Nat × List Int) :=
  match belowO k s.1 s.2.1 n with
  | some (A, B, x) => some (A, B, s.2.2 ++ [(x : Int)])
  | none => none
noncomputable def retK (k : Int) (a b n : Nat) (j : Nat) : Option (Nat × Nat × List Int) := chainO (retStep k n) (a, b, []) j
open Classical in
noncomputable def returnF (k : Int) (a b : Nat) (n m : Int) : Option (Nat × Nat × List Int) := if vSeed k a b = true ∧ (1 ≤ n ∧ n ≤ 64) ∧ 0 ≤ m ∧ m ≤ 64 then retK k a b n.toNat m.toNat else none
theorem retK_len {k : Int} {a b n j A B : Nat} {cs : List Int} (h : retK k a b n j = some (A, B, cs)) : cs.length = j := by
  refine chainO_inv (fun i s => s.2.2.length = i) rfl j ?_ j (A, B, cs) (Nat.le_refl _) h
  rintro i ⟨A, B, cs⟩ ⟨A', B', cs'⟩ _ h2 h3
  unfold retStep at h3
  simp only at h3 h2
  split at h3
  · cases h3; simp [h2]
  · cases h3
theorem retK_inv {k : Int} {a b n : Nat} (hs : sOk k a b) (hn : 1 ≤ n) {j A B : Nat} {cs : List Int} (h : retK k a b n j = some (A, B, cs)) : sOk k A B := by
  refine chainO_inv (fun i s => sOk k s.1 s.2.1) hs j ?_ j (A, B, cs) (Nat.le_refl _) h
  rintro i ⟨A, B, cs⟩ ⟨A', B', cs'⟩ _ h2 h3
  unfold retStep at h3
  simp only at h3 h2
  split at h3
  · rename_i he; cases h3; exact (belowO_ok he h2 hn).1
  · cases h3
theorem returnF_len {k : Int} {a b A B : Nat} {n m : Int} {cs : List Int} (h : returnF k a b n m = some (A, B, cs)) : cs.length ≤ 256 := by
  unfold returnF at h
  split at h
  · have := retK_len h; omega
  · cases h
theorem retK_step {k : Int} {a b n j A B A' B' x : Nat} {cs : List Int} (h : retK k a b n j = some (A, B, cs)) (hb : belowO k A B n = some (A', B', x)) : retK k a b n (j + 1) = some (A', B', cs ++ [(x : Int)]) := by
  unfold retK at *
  rw [chainO_next h]
  unfold retStep
  simp only [hb]
theorem retK_stop {k : Int} {a b n j m A B : Nat} {cs : List Int} (h : retK k a b n j = some (A, B, cs)) (hb : belowO k A B n = none) (hm : j < m) : retK k a b n m = none := by
  refine chainO_none (j := j + 1) ?_ hm
  unfold retK at h
  rw [chainO_next h]
  unfold retStep
  simp only [hb]
theorem returnF_yes {k : Int} {a b n m : Nat} (hv : vSeed k a b = true) (h1 : 1 ≤ n) (h2 : n ≤ 64) (h3 : m ≤ 64) : returnF k a b n m = retK k a b n m := by
  unfold returnF; rw [if_pos ⟨hv, ⟨by omega, by omega⟩, by omega, by omega⟩]; simp
theorem returnF_not {k : Int} {a b : Nat} {n m : Int} (h : ¬(vSeed k a b = true ∧ (1 ≤ n ∧ n ≤ 64) ∧ 0 ≤ m ∧ m ≤ 64)) : returnF k a b n m = none := by unfold returnF; rw [if_neg h]

/-! ### Samples -/
noncomputable def samStep (k : Int) (n m : Nat) (j : Nat) (s : Nat × Nat × List Bool) : Option (Nat × Nat × List Bool) :=
  match belowO k s.1 s.2.1 (n - m + j + 1) with
  | some (A, B, x) => some (A, B, s.2.2.set (if s.2.2[x]?.getD false = true then n - m + j else x) true)
  | none => none
noncomputable def samK (k : Int) (a b n m : Nat) (j : Nat) : Option (Nat × Nat × List Bool) := chainO (samStep k n m) (a, b, List.replicate n false) j
def idxL (tk : List Bool) : Nat → List Int
  | 0 => []
  | i + 1 => if tk[i]?.getD false = true then idxL tk i ++ [(i : Int)] else idxL tk i
theorem idxL_le (tk : List Bool) (i : Nat) : (idxL tk i).length ≤ i := by
  induction i with
  | zero => exact Nat.le_refl _
  | succ i ih =>
    unfold idxL
    split
    · rw [List.length_append]; simp; omega
    · omega
open Classical in
noncomputable def sampleF (k : Int) (a b : Nat) (n m : Int) : Option (Nat × Nat × List Int) :=
  if vSeed k a b = true ∧ (1 ≤ n ∧ n ≤ 64) ∧ 0 ≤ m ∧ m ≤ n then (samK k a b n.toNat m.toNat m.toNat).map (fun s => (s.1, s.2.1, idxL s.2.2 n.toNat)) else none
theorem samK_inv {k : Int} {a b n m : Nat} (hs : sOk k a b) {j A B : Nat} {tk : List Bool} (h : samK k a b n m j = some (A, B, tk)) : sOk k A B ∧ tk.length = n := by
  refine chainO_inv (fun i s => sOk k s.1 s.2.1 ∧ s.2.2.length = n) ⟨hs, by simp⟩ j ?_ j (A, B, tk) (Nat.le_refl _) h
  rintro i ⟨A, B, cs⟩ ⟨A', B', cs'⟩ _ ⟨h1, h2⟩ h3
  unfold samStep at h3
  simp only at h3 h2
  split at h3
  · rename_i he; cases h3; exact ⟨(belowO_ok he h1 (by omega)).1, by simpa using h2⟩
  · cases h3
theorem sampleF_len {k : Int} {a b A B : Nat} {n m : Int} {cs : List Int} (h : sampleF k a b n m = some (A, B, cs)) : cs.length ≤ 256 := by
  unfold sampleF at h
  split at h
  · rename_i hc
    cases hk : samK k a b n.toNat m.toNat m.toNat with
    | none => rw [hk] at h; cases h
    | some s =>
      rw [hk] at h
      cases h
      have := idxL_le s.2.2 n.toNat
      omega
  · cases h
theorem samK_step {k : Int} {a b n m j A B A' B' x : Nat} {tk : List Bool} (h : samK k a b n m j = some (A, B, tk)) (hb : belowO k A B (n - m + j + 1) = some (A', B', x)) :
    samK k a b n m (j + 1) = some (A', B', tk.set (if tk[x]?.getD false = true then n - m + j else x) true) := by
  unfold samK at *
  rw [chainO_next h]
  unfold samStep
  simp only [hb]
theorem samK_stop {k : Int} {a b n m j i A B : Nat} {tk : List Bool} (h : samK k a b n m j = some (A, B, tk)) (hb : belowO k A B (n - m + j + 1) = none) (hm : j < i) : samK k a b n m i = none := by
  refine chainO_none (j := j + 1) ?_ hm
  unfold samK at h
  rw [chainO_next h]
  unfold samStep
  simp only [hb]
theorem sampleF_yes {k : Int} {a b n m : Nat} (hv : vSeed k a b = true) (h1 : 1 ≤ n) (h2 : n ≤ 64) (h3 : m ≤ n) : sampleF k a b n m = (samK k a b n m m).map (fun s => (s.1, s.2.1, idxL s.2.2 n)) := by
  unfold sampleF; rw [if_pos ⟨hv, ⟨by omega, by omega⟩, by omega, by omega⟩]; simp
theorem sampleF_not {k : Int} {a b : Nat} {n m : Int} (h : ¬(vSeed k a b = true ∧ (1 ≤ n ∧ n ≤ 64) ∧ 0 ≤ m ∧ m ≤ n)) : sampleF k a b n m = none := by unfold sampleF; rw [if_neg h]
end Go.Proofs.Yticmnkgcolgpaaa
