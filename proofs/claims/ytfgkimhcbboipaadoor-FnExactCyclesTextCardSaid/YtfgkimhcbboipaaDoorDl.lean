/- Taking a value out of a row: append within a row, clear, slices.Delete; the first orders. -/
import Derived.Test.YtfgkimhcbboipaaDoorCp
import Derived.Test.YtfgkimhcbboipaaDoorOr
import Derived.Deep.RegionLaw
import Derived.Lib.SliceRun
namespace Go.Proofs.YtfgkimhcbboipaaDoor
open Go Go.RowKit
set_option linter.unusedVariables false

/-- A row with other values laid over it from place o on. -/
def layL (cs : List Int) (o : Nat) : List Int → List Int
  | [] => cs
  | n :: ns => layL (cs.set o n) (o + 1) ns
theorem layL_len (ns : List Int) : ∀ (cs : List Int) (o : Nat), (layL cs o ns).length = cs.length := by
  induction ns with
  | nil => intro cs o; rfl
  | cons n ns ih => intro cs o; rw [layL, ih]; simp
theorem layL_out (ns : List Int) : ∀ (cs : List Int) (o x : Nat), (x < o ∨ o + ns.length ≤ x) → (layL cs o ns)[x]? = cs[x]? := by
  induction ns with
  | nil => intro cs o x h; rfl
  | cons n ns ih =>
    intro cs o x h
    simp at h
    rw [layL, ih _ _ _ (by omega), List.getElem?_set_ne (by omega)]
theorem layL_in (ns : List Int) : ∀ (cs : List Int) (o x : Nat), o ≤ x → x < o + ns.length → x < cs.length → (layL cs o ns)[x]? = ns[x - o]? := by
  induction ns with
  | nil => intro cs o x h1 h2; simp at h2; omega
  | cons n ns ih =>
    intro cs o x h1 h2 h3
    simp at h2
    by_cases e : x = o
    · subst e
      rw [layL, layL_out _ _ _ _ (by omega), List.getElem?_set_self h3]; simp
    · rw [layL, ih _ _ _ (by omega) (by omega) (by simpa using h3), show x - o = x - (o + 1) + 1 by omega]; simp
theorem layL_erase (cs : List Int) (i : Nat) (hi : i < cs.length) : (layL cs i (cs.drop (i + 1))).take (cs.length - 1) = cs.eraseIdx i := by
  apply List.ext_getElem?
  intro x
  have hd : (cs.drop (i + 1)).length = cs.length - (i + 1) := by simp
  by_cases hx : x < cs.length - 1
  · rw [List.getElem?_take_of_lt hx, List.getElem?_eraseIdx]
    by_cases h : x < i
    · rw [layL_out _ _ _ _ (by omega), if_pos h]
    · rw [layL_in _ _ _ _ (by omega) (by omega) (by omega), if_neg h, List.getElem?_drop]
      congr 1; omega
  · rw [List.getElem?_eq_none (by simp [layL_len]; omega), List.getElem?_eq_none (by rw [List.length_eraseIdx, if_pos hi]; omega)]
section
variable {w w' : World} {g : Nat} {t : TypeId} {cs : List Int}
theorem RowAt.lay (ns : List Int) : ∀ {w : World} {cs : List Int}, RowAt w g t cs → ∀ o, RowAt (w.setCells g o (il ns)) g t (layL cs o ns) := by
  induction ns with
  | nil => intro w cs h o; exact h
  | cons n ns ih => intro w cs h o; exact ih (h.put o n) (o + 1)
theorem grown_cells (vs : List Value) : ∀ {w w' : World}, w.grownBy w' (some g) → ∀ o, w.grownBy (w'.setCells g o vs) (some g) := by
  induction vs with
  | nil => intro w w' h o; exact h
  | cons v vs ih => intro w w' h o; exact ih (grown_put h o v) (o + 1)
end
theorem eraseIdx_len (cs : List Int) (i : Nat) (hi : i < cs.length) : (cs.eraseIdx i).length = cs.length - 1 := by rw [List.length_eraseIdx, if_pos hi]
theorem RowAt.of_own2 {w : World} {t : TypeId} {cs : List Int} {base : Nat} {v : Value} {n : Nat} (h : w.ownsRow base t 1 v n (il cs)) (hn : 0 < n) : ∃ g cap, v = .slice (some ⟨g, 0, none⟩) n cap ∧ base ≤ g ∧ RowAt w g t cs ∧ n ≤ cap ∧ cap ≤ maxLen := by
  obtain ⟨hl, h⟩ := h
  rcases h with ⟨_, h0⟩ | ⟨g, cap, cur, hv, hg, hh, hn', hcm, hsz, ht⟩
  · omega
  · refine ⟨g, cap, hv, hg, ⟨cur, hh, fun i hi => ?_⟩, hn', hcm⟩
    have hil : (il cs).length = cs.length := il_len cs
    have hc : i < cur.size := by omega
    have hin : i < n * 1 := by omega
    have e : (il cs)[i]? = some cur[i] := by rw [← ht, List.getElem?_take_of_lt hin, Array.getElem?_toList, Array.getElem?_eq_getElem hc]
    rw [show cur[i]? = some cur[i] from Array.getElem?_eq_getElem hc, ← e]
    simp [il, hi]
/-- The first k numbers, and zeros. -/
def fstK (k : Nat) : List Int := (List.range 64).map fun i => if i < k then (i : Int) else 0
theorem fstK_zero : fstK 0 = List.replicate 64 0 := by decide
theorem fstK_next (k : Nat) : (fstK k).set k (k : Int) = fstK (k + 1) := by
  apply List.ext_getElem
  · simp [fstK]
  · intro i h1 h2
    rw [List.getElem_set]
    by_cases e : k = i
    · subst e; simp [fstK]
    · rw [if_neg e]
      simp only [fstK, List.getElem_map, List.getElem_range]
      by_cases hi : i < k
      · rw [if_pos hi, if_pos (by omega)]
      · rw [if_neg hi, if_neg (by omega)]
theorem fstK_all (n : Nat) (h : n ≤ 64) : (fstK 64).take n = idL n := by
  apply List.ext_getElem
  · simp [fstK, idL]; omega
  · intro i h1 h2
    have : i < 64 := by simp [idL] at h2; omega
    simp [fstK, idL, this]
end Go.Proofs.YtfgkimhcbboipaaDoor
