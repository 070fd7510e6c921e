/- A number below a number: one contract for both ways out. -/
import Derived.Test.YticmnkgcolgpaaaBs
import Derived.Test.YticmnkgcolgpaaaSv
namespace Go.Proofs.Yticmnkgcolgpaaa
open Go Go.RowKit
set_option linter.unusedVariables false

open Classical in
/-- The seed behind, and the number; none if all words are too great. -/
noncomputable def belowO (k : Int) (a b n : Nat) : Option (Nat × Nat × Nat) :=
  if h : ∃ J, firstB k a b n J then some ((sdK k a b (Classical.choose h + 1)).1, (sdK k a b (Classical.choose h + 1)).2, wdK k a b (Classical.choose h) % n) else none
theorem belowO_cases (k : Int) (a b n : Nat) : (∃ J, firstB k a b n J ∧ belowO k a b n = some ((sdK k a b (J + 1)).1, (sdK k a b (J + 1)).2, wdK k a b J % n)) ∨ (noneB k a b n ∧ belowO k a b n = none) := by
  by_cases h : ∃ J, firstB k a b n J
  · exact .inl ⟨Classical.choose h, Classical.choose_spec h, by unfold belowO; rw [dif_pos h]⟩
  · refine .inr ⟨?_, by unfold belowO; rw [dif_neg h]⟩
    rcases first_or_none k a b n with h1 | h1
    · exact absurd h1 h
    · exact h1
theorem belowO_ok {k : Int} {a b n A B x : Nat} (h : belowO k a b n = some (A, B, x)) (hs : sOk k a b) (hn : 1 ≤ n) : sOk k A B ∧ x < n := by
  rcases belowO_cases k a b n with ⟨J, hJ, e⟩ | ⟨_, e⟩
  · rw [e] at h
    injection h with h
    injection h with h1 h2
    injection h2 with h2 h3
    subst h1 h2 h3
    exact ⟨hs.sdK (J + 1), Nat.mod_lt _ (by omega)⟩
  · rw [e] at h; cases h

end Go.Proofs.Yticmnkgcolgpaaa
