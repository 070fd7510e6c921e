/- Moments of shares. -/
import Derived.Test.YtlnhobikejbkkaaMn
import Derived.Test.YtlnhobikejbkkaaIn0
namespace Go.Proofs.Ytlnhobikejbkkaa
open Go Go.RowKit Fl Vag
set_option linter.unusedVariables false

/-- A term, times something again and again. -/
def momT (v d : Option Nat) : Nat → Option Nat
  | 0 => v
  | j + 1 => aop .mul .f32 (momT v d j) d
def momA (vs cs : List Nat) (mean : Option Nat) (n : Nat) : Nat → Option Nat
  | 0 => some 0
  | k + 1 => aop .add .f32 (momA vs cs mean n k) (momT (av .f32 (cs[k]?.getD 0)) (aop .sub .f32 (av .f32 (vs[k]?.getD 0)) mean) n)
def momV (vs cs : List Nat) (n : Nat) : Option Nat := momA vs cs (dotA .f32 vs cs) n vs.length
/-- A number if it is finite, and whether it is. -/
def Given (v : Option Nat) (w : World) (e : Ending) (w' : World) : Prop :=
  (finA .f32 v = true ∧ RetF (fun r => .tuple #[.float .f32 r, .bool true]) v w e w') ∨ (finA .f32 v = false ∧ RetB (.tuple #[.float .f32 0, .bool false]) w e w')
theorem Given.yes {v : Option Nat} {w w' : World} {e : Ending} (h : finA .f32 v = true) (hg : Given v w e w') : RetF (fun r => .tuple #[.float .f32 r, .bool true]) v w e w' := by
  rcases hg with h' | h'
  · exact h'.2
  · rw [h] at h'; exact absurd h'.1 (by simp)
theorem Given.no {v : Option Nat} {w w' : World} {e : Ending} (h : finA .f32 v = false) (hg : Given v w e w') : RetB (.tuple #[.float .f32 0, .bool false]) w e w' := by
  rcases hg with h' | h'
  · rw [h] at h'; exact absurd h'.1 (by simp)
  · exact h'.2
theorem l02Number_any {v : Option Nat} {x : Nat} (h : Fv .f32 v x) (w : World) : Calls Try.prog 87 #[.float .f32 x] w (fun e w' => ∃ n, w' = w.drewN n ∧ ((finA .f32 v = true ∧ e = .returned (.tuple #[.float .f32 x, .bool true])) ∨ (finA .f32 v = false ∧ e = .returned (.tuple #[.float .f32 0, .bool false])))) := by
  cases hf : finA .f32 v with
  | true =>
    refine (l02Number_fin x (by rw [Fv_fin h, hf]) w).mono ?_
    rintro e w' ⟨n, rfl, rfl⟩
    exact ⟨n, rfl, .inl ⟨rfl, rfl⟩⟩
  | false =>
    refine (l02Number_not x (by rw [Fv_fin h, hf]) w).mono ?_
    rintro e w' ⟨n, rfl, rfl⟩
    exact ⟨n, rfl, .inr ⟨rfl, rfl⟩⟩
def momC (vs cs : List Nat) (n : Int) : Prop := ((isShr vs cs ∧ finA .f32 (dotA .f32 vs cs) = true) ∧ 0 ≤ n ∧ n ≤ 8) ∧ finA .f32 (momV vs cs n.toNat) = true
end Go.Proofs.Ytlnhobikejbkkaa
