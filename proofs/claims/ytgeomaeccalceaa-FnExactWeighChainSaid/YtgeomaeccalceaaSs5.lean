/- Shares that are the same. -/
import Derived.Test.YtgeomaeccalceaaShr
namespace Go.Proofs.Ytgeomaeccalceaa
open Go Go.RowKit Fl Vag
set_option linter.unusedVariables false

/-- Lists of numbers that are the same, one after another. -/
def sameL (xs us : List Nat) : Prop := xs.length = us.length ∧ ∀ i, i < xs.length → bitsA (av .f32 (xs[i]?.getD 0)) = bitsA (av .f32 (us[i]?.getD 0))
def BoS (p : Prop) (w : World) (e : Ending) (w' : World) : Prop := ∃ b, e = .returned (.bool b) ∧ (b = true ↔ p) ∧ w = w'
theorem BoS.mk {p : Prop} {w : World} (b : Bool) (h : b = true ↔ p) : BoS p w (.returned (.bool b)) w := ⟨b, rfl, h, rfl⟩
def wfl (xs : List Nat) : Prop := ∀ x ∈ xs, (Lit.float .f32 x).wf = true
theorem wfl_at {xs : List Nat} (h : wfl xs) {i : Nat} (hi : i < xs.length) : Fv .f32 (av .f32 (xs[i]?.getD 0)) (xs[i]?.getD 0) := by
  have hm : xs[i]?.getD 0 ∈ xs := by simp [hi]
  have := h _ hm
  have h2 : xs[i]?.getD 0 < 2 ^ 32 := by simpa [Lit.wf] using this
  exact ⟨h2, rfl⟩
theorem beq_bits (u v : Option Nat) : ((bitsA u : Int) == (bitsA v : Int)) = decide (bitsA u = bitsA v) := by
  by_cases h : bitsA u = bitsA v
  · rw [decide_eq_true h, h]; simp
  · rw [decide_eq_false h]; simp; omega
/-- Two shares that are the same. -/
def same2 (xs ys us vs : List Nat) : Prop := sameL xs us ∧ sameL ys vs
end Go.Proofs.Ytgeomaeccalceaa
