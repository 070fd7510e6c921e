/- A valid seed is followed by a valid seed. -/
import Derived.Test.YticmnkgcolgpaaaWf
namespace Go.Proofs.Yticmnkgcolgpaaa
open Go Go.RowKit
set_option linter.unusedVariables false

theorem xor_zero_eq {a b : Nat} (h : a ^^^ b = 0) : a = b := by
  have e : (a ^^^ b) ^^^ b = a := by rw [Nat.xor_assoc, Nat.xor_self, Nat.xor_zero]
  rw [h, Nat.zero_xor] at e
  exact e.symm
theorem sh1_ne (a : Nat) (h0 : a ≠ 0) (ha : a < 18446744073709551616) : sh1 a ≠ 0 := by
  intro h
  unfold sh1 at h
  have hx : a ^^^ a * 8192 % 18446744073709551616 < 18446744073709551616 := xor_lt ha (mod_lt64 _)
  have hx0 : a ^^^ a * 8192 % 18446744073709551616 ≠ 0 := fun h => by have := xor_zero_eq h; omega
  generalize a ^^^ a * 8192 % 18446744073709551616 = x at *
  have hy : x ^^^ x / 128 < 18446744073709551616 := xor_lt hx (div_lt hx _)
  have hy0 : x ^^^ x / 128 ≠ 0 := fun h => by have := xor_zero_eq h; omega
  simp only [] at h
  generalize x ^^^ x / 128 = y at *
  have := xor_zero_eq h
  omega
theorem or_zero {a b : Nat} (h : a ||| b = 0) : a = 0 ∧ b = 0 := by
  constructor
  · have : a ≤ a ||| b := Nat.left_le_or; omega
  · have : b ≤ a ||| b := Nat.right_le_or; omega
theorem rot24_ne (x : Nat) (h : rotN x 16777216 1099511627776 = 0) (hx : x < 18446744073709551616) : x = 0 := by
  unfold rotN at h; have := or_zero h; omega
theorem rot37_ne (x : Nat) (h : rotN x 137438953472 134217728 = 0) (hx : x < 18446744073709551616) : x = 0 := by
  unfold rotN at h; have := or_zero h; omega
theorem vSeed_next (k : Int) (a b : Nat) (hv : vSeed k a b = true) (ha : a < 18446744073709551616) (hb : b < 18446744073709551616) : vSeed k (nxA k a b) (nxB k a b) = true := by
  have hk : k = 0 ∨ k = 1 ∨ k = 2 ∨ k = 3 := by
    unfold vSeed at hv
    by_cases h0 : k = 0
    · exact .inl h0
    · by_cases h1 : k = 1
      · exact .inr (.inl h1)
      · by_cases h2 : k = 2
        · exact .inr (.inr (.inl h2))
        · by_cases h3 : k = 3
          · exact .inr (.inr (.inr h3))
          · rw [if_neg h0, if_neg h1, if_neg h2, if_neg h3] at hv; cases hv
  obtain rfl | rfl | rfl | rfl := hk
  · exact hv
  · have h0 : a ≠ 0 := by simpa [vSeed] using hv
    have := sh1_ne a h0 ha
    show vSeed 1 (sh1 a) b = true
    simpa [vSeed] using this
  · rfl
  · have h0 : a ≠ 0 ∨ b ≠ 0 := by simpa [vSeed] using hv
    suffices h : nxA 3 a b ≠ 0 ∨ nxB 3 a b ≠ 0 by simpa [vSeed] using h
    by_cases hB : nxB 3 a b = 0
    · left
      intro hA
      have hx : a ^^^ b = 0 := rot37_ne _ hB (xor_lt ha hb)
      have hA' : rotN a 16777216 1099511627776 ^^^ (a ^^^ b) ^^^ (a ^^^ b) * 65536 % 18446744073709551616 = 0 := hA
      rw [hx] at hA'
      simp only [Nat.zero_mul, Nat.zero_mod, Nat.xor_zero] at hA'
      have e1 := rot24_ne a hA' ha
      have e2 := xor_zero_eq hx
      omega
    · exact .inr hB
theorem vSeed_sdK (k : Int) (a b i : Nat) (hv : vSeed k a b = true) (hk : 0 ≤ k ∧ k ≤ 3) (ha : a < 18446744073709551616) (hb : b < 18446744073709551616) : vSeed k (sdK k a b i).1 (sdK k a b i).2 = true := by
  induction i with
  | zero => exact hv
  | succ i ih => exact vSeed_next _ _ _ ih (sdK_lt k a b i hk ha hb).1 (sdK_lt k a b i hk ha hb).2
/-- A seed that is valid and whose numbers have 64 bits. -/
def sOk (k : Int) (a b : Nat) : Prop := vSeed k a b = true ∧ a < 18446744073709551616 ∧ b < 18446744073709551616
theorem sOk.kind {k : Int} {a b : Nat} (h : sOk k a b) : 0 ≤ k ∧ k ≤ 3 := by
  have h := h.1
  unfold vSeed at h
  split at h
  · omega
  · split at h
    · omega
    · split at h
      · omega
      · split at h
        · omega
        · cases h
theorem sOk.next {k : Int} {a b : Nat} (h : sOk k a b) : sOk k (nxA k a b) (nxB k a b) :=
  ⟨vSeed_next _ _ _ h.1 h.2.1 h.2.2, nxA_lt _ _ _ h.kind h.2.1 h.2.2, nxB_lt _ _ _ h.kind h.2.1 h.2.2⟩
theorem sOk.sdK {k : Int} {a b : Nat} (h : sOk k a b) (i : Nat) : sOk k (sdK k a b i).1 (sdK k a b i).2 := by
  induction i with
  | zero => exact h
  | succ i ih => exact ih.next
end Go.Proofs.Yticmnkgcolgpaaa
