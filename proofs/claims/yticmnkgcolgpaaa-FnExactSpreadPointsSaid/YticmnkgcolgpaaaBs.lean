/- Numbers below a number, drawn of a seed. -/
import Derived.Test.YticmnkgcolgpaaaWf
import Derived.Test.YticmnkgcolgpaaaSe
import Derived.Test.YticmnkgcolgpaaaIn0
namespace Go.Proofs.Yticmnkgcolgpaaa
open Go Go.RowKit
set_option linter.unusedVariables false

/-- The greatest multiple of n that is at most 2^32. -/
def mulN (n : Nat) : Nat := 4294967296 - 4294967296 % n
theorem mulN_is (n : Nat) : 4294967296 / n * n = mulN n := by
  unfold mulN; have := Nat.div_add_mod 4294967296 n; rw [Nat.mul_comm] at this; omega
theorem mulN_sub (n : Nat) : (4294967296 : Int) - 4294967296 % (n : Int) = (mulN n : Nat) := by
  have h : 4294967296 % n ≤ 4294967296 := Nat.mod_le _ _
  unfold mulN
  rw [show ((4294967296 : Int) % n) = ((4294967296 % n : Nat) : Int) from rfl]
  generalize 4294967296 % n = r at *
  omega
/-- The word number J is the first one that is less. -/
def firstB (k : Int) (a b n J : Nat) : Prop := J < 64 ∧ (∀ i, i < J → ¬ wdK k a b i < mulN n) ∧ wdK k a b J < mulN n
def noneB (k : Int) (a b n : Nat) : Prop := ∀ i, i < 64 → ¬ wdK k a b i < mulN n
theorem first_or_none (k : Int) (a b n : Nat) : (∃ J, firstB k a b n J) ∨ noneB k a b n := by
  suffices H : ∀ m, m ≤ 64 → (∃ J, firstB k a b n J) ∨ ∀ i, i < m → ¬ wdK k a b i < mulN n from H 64 (Nat.le_refl _)
  intro m
  induction m with
  | zero => intro _; right; intro i hi; omega
  | succ m ih =>
    intro hm
    rcases ih (by omega) with h | h
    · exact .inl h
    · by_cases hw : wdK k a b m < mulN n
      · exact .inl ⟨m, by omega, h, hw⟩
      · right; intro i hi
        by_cases e : i = m
        · rw [e]; exact hw
        · exact h i (by omega)

end Go.Proofs.Yticmnkgcolgpaaa
