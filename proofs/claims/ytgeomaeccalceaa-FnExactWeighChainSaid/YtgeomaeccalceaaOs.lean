/- How arguments that are structs with lists are opened. -/
import Derived.Test.YtgeomaeccalceaaOi
import Derived.Test.YtgeomaeccalceaaOpen
namespace Go.Proofs.Ytgeomaeccalceaa
open Go Go.RowKit Fl Go.ChangeShapes Go.WideShapes Go.ChangeAt Go.Deep Go.Joins
set_option linter.unusedVariables false

section
variable {H : Type} {enc : TypeId × Value → H} {P : Program} {W : World} {base : Nat} {spare : Nat → Bool} {held : Bool}
theorem floats_of {t e : TypeId} {k : FloatKind} {v : Value} {n : Nat} {y : DataW H × List MemPlace} (ht : P.underlying t = some (.slice e)) (he : P.underlying e = some (.float k)) (hc : P.cellsOf e = 1)
    (h : DataW.trod enc P W base spare held n t [v] = some y) :
    ∃ ao cap, ∃ xs : List Nat, v = .slice ao xs.length cap ∧ Holds W ao (fl k xs) ∧ (∀ x ∈ xs, (Lit.float k x).wf = true) ∧ xs.length ≤ 9223372036854775807 := by
  obtain ⟨ao, len, cap, V, rfl, hle, hV⟩ := row_of ht hc h
  have each : ∀ i, i < len → ∃ b, V i = .float k b ∧ (Lit.float k b).wf = true := fun i hi => by
    obtain ⟨_, _, _, _, n, y, hy⟩ := hV i hi
    cases n with
    | zero => simp [DataW.trod] at hy
    | succ n =>
      simp only [DataW.trod, he] at hy
      split at hy <;> simp_all
  refine ⟨ao, cap, (List.range len).map fun i => match V i with | .float _ b => b | _ => 0, by simp, fun i hi => ?_, fun x hx => ?_, by simpa using hle⟩
  · have hi' : i < len := by simpa [fl] using hi
    obtain ⟨b, o, e1, h1, _⟩ := hV i hi'
    obtain ⟨x, hx, _⟩ := each i hi'
    refine ⟨b, o, e1, ?_⟩
    rw [h1, hx]
    simp [fl, List.getD, hi', hx]
  · obtain ⟨i, hi, rfl⟩ := List.mem_map.1 hx
    obtain ⟨b, hb, hw⟩ := each i (by simpa using hi)
    rw [hb]; exact hw
end
end Go.Proofs.Ytgeomaeccalceaa
