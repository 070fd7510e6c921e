/- Insertion: what each swap leaves. No project text. -/
import Derived.RowKit
namespace Go.Proofs.Ytdmbhnllebipjab

def swp (L : List Int) (k : Nat) : List Int := (L.set k (L[k - 1]?.getD 0)).set (k - 1) (L[k]?.getD 0)
theorem swp_len (L : List Int) (k : Nat) : (swp L k).length = L.length := by simp [swp]
theorem swp_perm (L : List Int) (k : Nat) (h0 : 0 < k) (h : k < L.length) : (swp L k).Perm L := by
  have h1 : k - 1 < L.length := by omega
  have := Array.swap_perm (xs := L.toArray) (i := k) (j := k - 1) (by simpa using h) (by simpa using h1)
  have e : (L.toArray.swap k (k - 1) (by simpa using h) (by simpa using h1)).toList = swp L k := by
    simp [Array.swap, swp, h, h1]
  have p := Array.perm_iff_toList_perm.1 this
  rw [e] at p
  simpa using p
theorem swp_get (L : List Int) (k a : Nat) (h0 : 0 < k) (h : k < L.length) : (swp L k)[a]?.getD 0 = if a = k - 1 then L[k]?.getD 0 else if a = k then L[k - 1]?.getD 0 else L[a]?.getD 0 := by
  unfold swp
  rw [List.getElem?_set, List.getElem?_set]
  by_cases e : k - 1 = a
  · subst e
    rw [if_pos rfl, if_pos (by simp; omega)]; simp
  · have e' : ¬ a = k - 1 := fun h => e h.symm
    rw [if_neg e, if_neg e']
    by_cases e2 : k = a
    · subst e2
      rw [if_pos rfl, if_pos h]; simp
    · have e2' : ¬ a = k := fun h => e2 h.symm
      rw [if_neg e2, if_neg e2']
def Srt (L : List Int) (i : Nat) : Prop := ∀ a b : Nat, a < b → b < i → L[a]?.getD 0 ≤ L[b]?.getD 0
def Ins (L : List Int) (i k : Nat) : Prop := (∀ a b : Nat, a < b → b ≤ i → a ≠ k → b ≠ k → L[a]?.getD 0 ≤ L[b]?.getD 0) ∧ ∀ b : Nat, k < b → b ≤ i → L[k]?.getD 0 ≤ L[b]?.getD 0
theorem Ins.start {L : List Int} {i : Nat} (h : Srt L i) : Ins L i i := ⟨fun a b h1 h2 h3 h4 => h a b h1 (by omega), fun b h1 h2 => by omega⟩
theorem Ins.step {L : List Int} {i k : Nat} (h : Ins L i k) (h0 : 0 < k) (hk : k ≤ i) (hl : i < L.length) (hc : L[k]?.getD 0 < L[k - 1]?.getD 0) : Ins (swp L k) i (k - 1) := by
  obtain ⟨h1, h2⟩ := h
  refine ⟨fun a b hab hb ha hb' => ?_, fun b hb hbi => ?_⟩
  · rw [swp_get L k a h0 (by omega), swp_get L k b h0 (by omega), if_neg ha, if_neg hb']
    by_cases ea : a = k
    · rw [if_pos ea, if_neg (by omega)]
      exact h1 (k - 1) b (by omega) hb (by omega) (by omega)
    · rw [if_neg ea]
      by_cases eb : b = k
      · rw [if_pos eb]
        exact h1 a (k - 1) (by omega) (by omega) ea (by omega)
      · rw [if_neg eb]; exact h1 a b hab hb ea eb
  · rw [swp_get L k (k - 1) h0 (by omega), swp_get L k b h0 (by omega), if_pos rfl, if_neg (by omega)]
    by_cases eb : b = k
    · rw [if_pos eb]; omega
    · rw [if_neg eb]; exact h2 b (by omega) hbi
theorem Ins.done {L : List Int} {i k : Nat} (h : Ins L i k) (hk : k ≤ i) (hc : k = 0 ∨ L[k - 1]?.getD 0 ≤ L[k]?.getD 0) : Srt L (i + 1) := fun a b hab hb => by
  obtain ⟨h1, h2⟩ := h
  by_cases ea : a = k
  · subst ea; exact h2 b hab (by omega)
  · by_cases eb : b = k
    · subst eb
      rcases hc with h0 | h0
      · omega
      · by_cases e : a = b - 1
        · subst e; exact h0
        · exact Int.le_trans (h1 a (b - 1) (by omega) (by omega) ea (by omega)) h0
    · exact h1 a b hab (by omega) ea eb
theorem Srt.le {L : List Int} (h : Srt L L.length) : ∀ i j : Nat, i ≤ j → j < L.length → L[i]?.getD 0 ≤ L[j]?.getD 0 := fun i j hij hj => by
  by_cases e : i = j
  · subst e; exact Int.le_refl _
  · exact h i j (by omega) hj
end Go.Proofs.Ytdmbhnllebipjab
