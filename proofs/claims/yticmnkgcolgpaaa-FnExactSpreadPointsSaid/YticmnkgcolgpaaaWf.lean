/- Words of a seed. -/
import Derived.Test.YticmnkgcolgpaaaSd
import Derived.Test.YticmnkgcolgpaaaTl
namespace Go.Proofs.Yticmnkgcolgpaaa
open Go Go.RowKit
set_option linter.unusedVariables false

/-- The numbers of the seed behind i words. -/
def sdK (k : Int) (a b : Nat) : Nat → Nat × Nat
  | 0 => (a, b)
  | i + 1 => (nxA k (sdK k a b i).1 (sdK k a b i).2, nxB k (sdK k a b i).1 (sdK k a b i).2)
/-- The word number i. -/
def wdK (k : Int) (a b i : Nat) : Nat := nxW k (sdK k a b i).1 (sdK k a b i).2
def wordsL (k : Int) (a b n : Nat) : List Int := (List.range n).map fun i => (wdK k a b i : Int)
theorem wordsL_len (k : Int) (a b n : Nat) : (wordsL k a b n).length = n := by simp [wordsL]
theorem wordsL_next (k : Int) (a b n : Nat) : wordsL k a b (n + 1) = wordsL k a b n ++ [(wdK k a b n : Int)] := by simp [wordsL, List.range_succ]
theorem sdK_lt (k : Int) (a b i : Nat) (hk : 0 ≤ k ∧ k ≤ 3) (ha : a < 18446744073709551616) (hb : b < 18446744073709551616) : (sdK k a b i).1 < 18446744073709551616 ∧ (sdK k a b i).2 < 18446744073709551616 := by
  induction i with
  | zero => exact ⟨ha, hb⟩
  | succ i ih => exact ⟨nxA_lt _ _ _ hk ih.1 ih.2, nxB_lt _ _ _ hk ih.1 ih.2⟩
theorem wdK_lt (k : Int) (a b i : Nat) (hk : 0 ≤ k ∧ k ≤ 3) : wdK k a b i < 4294967296 := nxW_lt _ _ _ hk

end Go.Proofs.Yticmnkgcolgpaaa
