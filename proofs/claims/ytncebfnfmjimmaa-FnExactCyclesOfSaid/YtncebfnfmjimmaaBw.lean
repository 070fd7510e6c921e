/- A number below a number: one contract for both ways out. -/
import Derived.Test.YtncebfnfmjimmaaBs
import Derived.Test.YtncebfnfmjimmaaSv
namespace Go.Proofs.Ytncebfnfmjimmaa
open Go Go.RowKit
set_option linter.unusedVariables false

open Classical in
/-- The seed behind, and the number; none if all words are too great. -/
noncomputable def belowO (k : Int) (a b n : Nat) : Option (Nat × Nat × Nat) :=
  if h : ∃ J, firstB k a b n J then some ((sdK k a b (Classical.choose h + 1)).1, (sdK k a b (Classical.choose h + 1)).2, wdK k a b (Classical.choose h) % n) else none
theorem belowO_cases (k : Int) (a b n : Nat) : (∃ J, firstB k a b n J ∧ belowO k a b n = some ((sdK k a b (J + 1)).1, (sdK k a b (J + 1)).2, wdK k a b J % n)) ∨ (noneB k a b n ∧ belowO k a b n = none) := by
  by_cases h : ∃ J, firstB k a b n J
  · exact .inl ⟨Classical.choose h, Classical.choose_spec h, by unfold belowO; rw [dif_pos h]⟩
  · refine .inr ⟨?_, by unfold belowO; rw [dif_neg h]⟩
    rcases first_or_none k a b n with h1 | h1
    · exact absurd h1 h
    · exact h1
theorem belowO_ok {k : Int} {a b n A B x : Nat} (h : belowO k a b n = some (A, B, x)) (hs : sOk k a b) (hn : 1 ≤ n) : sOk k A B ∧ x < n := by
  rcases belowO_cases k a b n with ⟨J, hJ, e⟩ | ⟨_, e⟩
  · rw [e] at h
    injection h with h
    injection h with h1 h2
    injection h2 with h2 h3
    subst h1 h2 h3
    exact ⟨hs.sdK (J + 1), Nat.mod_lt _ (by omega)⟩
  · rw [e] at h; cases h

theorem implBelow_some (k : Int) (a b n A B x : Nat) (w : World) (hs : sOk k a b) (hn : 1 ≤ n ∧ n ≤ 4294967296) (h : belowO k a b n = some (A, B, x)) :
    Calls Try.prog 73 #[sd k a b, .int .i64 n] w (RetB (.tuple #[sd k A B, .int .i64 (x : Int), .bool true]) w) := by
  rcases belowO_cases k a b n with ⟨J, hJ, e⟩ | ⟨_, e⟩
  · rw [e] at h
    injection h with h
    injection h with h1 h2
    injection h2 with h2 h3
    subst h1 h2 h3
    exact implBelow_yes k a b n w hs.1 hs.2.1 hs.2.2 hn J hJ
  · rw [e] at h; cases h
theorem implBelow_nil (k : Int) (a b n : Nat) (w : World) (hs : sOk k a b) (hn : 1 ≤ n ∧ n ≤ 4294967296) (h : belowO k a b n = none) :
    Calls Try.prog 73 #[sd k a b, .int .i64 n] w (RetB (.tuple #[sd 0 0 0, .int .i64 0, .bool false]) w) := by
  rcases belowO_cases k a b n with ⟨J, hJ, e⟩ | ⟨hJ, e⟩
  · rw [e] at h; cases h
  · exact implBelow_none k a b n w hs.1 hs.2.1 hs.2.2 hn hJ
theorem implBelow_some1 (k : Int) (a b n A B x : Nat) (w : World) (hs : sOk k a b) (hn : n ≤ 4294967295) (h : belowO k a b (n + 1) = some (A, B, x)) :
    Calls Try.prog 73 #[sd k a b, .int .i64 ((n : Int) + 1)] w (RetB (.tuple #[sd k A B, .int .i64 (x : Int), .bool true]) w) := implBelow_some k a b (n + 1) A B x w hs (by omega) h
theorem implBelow_nil1 (k : Int) (a b n : Nat) (w : World) (hs : sOk k a b) (hn : n ≤ 4294967295) (h : belowO k a b (n + 1) = none) :
    Calls Try.prog 73 #[sd k a b, .int .i64 ((n : Int) + 1)] w (RetB (.tuple #[sd 0 0 0, .int .i64 0, .bool false]) w) := implBelow_nil k a b (n + 1) w hs (by omega) h
/-- A number, and the seed behind a pointer turned to the one then. -/
def TriedS (g : Nat) (k : Int) (A B x : Nat) (w : World) (e : Ending) (w' : World) : Prop :=
  e = .returned (.tuple #[.int .i64 (x : Int), .bool true]) ∧ Whole w' g 42 (sdC k A B) ∧ w.grownBy w' (some g)
theorem l02Tried_some (g : Nat) (k : Int) (a b n A B x : Nat) (w : World) (hs : sOk k a b) (hn : 1 ≤ n ∧ n ≤ 4294967296) (h : belowO k a b n = some (A, B, x)) (hw : Whole w g 42 (sdC k a b)) :
    Calls Try.prog 76 #[.pointer (some ⟨g, 0, none⟩), .int .i64 n] w (TriedS g k A B x w) := by
  rcases belowO_cases k a b n with ⟨J, hJ, e⟩ | ⟨_, e⟩
  · rw [e] at h
    injection h with h
    injection h with h1 h2
    injection h2 with h2 h3
    subst h1 h2 h3
    exact l02Tried_yes g k a b n w hs.kind hs.2.1 hs.2.2 hn J hJ hw
  · rw [e] at h; cases h
theorem l02Tried_nil (g : Nat) (k : Int) (a b n : Nat) (w : World) (hs : sOk k a b) (hn : 1 ≤ n ∧ n ≤ 4294967296) (h : belowO k a b n = none) (hw : Whole w g 42 (sdC k a b)) :
    Calls Try.prog 76 #[.pointer (some ⟨g, 0, none⟩), .int .i64 n] w (TriedN g w) := by
  rcases belowO_cases k a b n with ⟨J, hJ, e⟩ | ⟨hJ, e⟩
  · rw [e] at h; cases h
  · exact l02Tried_no g k a b n w hs.kind hs.2.1 hs.2.2 hn hJ hw
theorem l02Tried_some1 (g : Nat) (k : Int) (a b n A B x : Nat) (w : World) (hs : sOk k a b) (hn : n ≤ 4294967295) (h : belowO k a b (n + 1) = some (A, B, x)) (hw : Whole w g 42 (sdC k a b)) :
    Calls Try.prog 76 #[.pointer (some ⟨g, 0, none⟩), .int .i64 ((n : Int) + 1)] w (TriedS g k A B x w) := l02Tried_some g k a b (n + 1) A B x w hs (by omega) h hw
theorem l02Tried_nil1 (g : Nat) (k : Int) (a b n : Nat) (w : World) (hs : sOk k a b) (hn : n ≤ 4294967295) (h : belowO k a b (n + 1) = none) (hw : Whole w g 42 (sdC k a b)) :
    Calls Try.prog 76 #[.pointer (some ⟨g, 0, none⟩), .int .i64 ((n : Int) + 1)] w (TriedN g w) := l02Tried_nil g k a b (n + 1) w hs (by omega) h hw
end Go.Proofs.Ytncebfnfmjimmaa
