/- How arguments that are structs with lists of integers are opened. -/
import Derived.Test.YtfgkimhcbboipaaDoorOp
namespace Go.Proofs.YtfgkimhcbboipaaDoor
open Go Go.RowKit Go.ChangeShapes Go.WideShapes Go.ChangeAt Go.Deep Go.Joins
set_option linter.unusedVariables false

section
variable {H : Type} {enc : TypeId × Value → H} {P : Program} {W : World} {base : Nat} {spare : Nat → Bool} {held : Bool}
theorem row_of {t e : TypeId} {v : Value} {n : Nat} {y : DataW H × List MemPlace} (ht : P.underlying t = some (.slice e)) (hc : P.cellsOf e = 1) (h : DataW.trod enc P W base spare held n t [v] = some y) :
    ∃ ao len cap, ∃ V : Nat → Value, v = .slice ao len cap ∧ len ≤ 9223372036854775807 ∧ ∀ i, i < len → ∃ b o, ao = some ⟨b, o, none⟩ ∧ W.cell? ⟨b, o + i, none⟩ = some (V i) ∧ ∃ n y, DataW.trod enc P W base spare held n e [V i] = some y := by
  rcases open_slice1 ht hc h with ⟨hcs, _⟩ | ⟨a, l, c, m, n, V, D, Pl, hcs, _, hl, hm, hmm, _, hx⟩
  · simp at hcs
    exact ⟨none, 0, 0, fun _ => undef, hcs, Nat.zero_le _, fun i hi => absurd hi (Nat.not_lt_zero _)⟩
  · simp at hcs
    refine ⟨_, l, c, V, hcs, ?_, fun i hi => ?_⟩
    · have : maxLen = 9223372036854775807 := by decide
      omega
    have hi' : i < m := by rw [hmm]; split <;> omega
    obtain ⟨h1, h2⟩ := hx i hi'
    have e1 := addr_of_cell0 (hx 0 (by omega)).1
    rw [e1, Addr.add_lit] at h1
    exact ⟨a.block, a.off, congrArg some e1, h1, n, _, h2⟩
theorem ints_of {t e : TypeId} {v : Value} {n : Nat} {y : DataW H × List MemPlace} (ht : P.underlying t = some (.slice e)) (he : P.underlying e = some (.int .i64)) (hc : P.cellsOf e = 1)
    (h : DataW.trod enc P W base spare held n t [v] = some y) :
    ∃ ao cap, ∃ xs : List Int, v = .slice ao xs.length cap ∧ Holds W ao (xs.map (Value.int .i64)) ∧ (∀ x ∈ xs, -9223372036854775808 ≤ x ∧ x ≤ 9223372036854775807) ∧ xs.length ≤ 9223372036854775807 := by
  obtain ⟨ao, len, cap, V, rfl, hle, hV⟩ := row_of ht hc h
  have each : ∀ i, i < len → ∃ b, V i = .int .i64 b ∧ -9223372036854775808 ≤ b ∧ b ≤ 9223372036854775807 := fun i hi => by
    obtain ⟨_, _, _, _, n, y, hy⟩ := hV i hi
    obtain ⟨b, hb, _, hw⟩ := DataW.trod_int he hy
    simp at hb
    have h' : IntKind.i64.min ≤ b ∧ b ≤ IntKind.i64.max := by simpa [Lit.wf] using hw
    have e1 : IntKind.i64.min = -9223372036854775808 := by decide
    have e2 : IntKind.i64.max = 9223372036854775807 := by decide
    rw [e1, e2] at h'
    exact ⟨b, hb, h'⟩
  refine ⟨ao, cap, (List.range len).map fun i => match V i with | .int _ b => b | _ => 0, by simp, fun i hi => ?_, fun x hx => ?_, by simpa using hle⟩
  · have hi' : i < len := by simpa using hi
    obtain ⟨b, o, e1, h1, _⟩ := hV i hi'
    obtain ⟨x, hx, _⟩ := each i hi'
    refine ⟨b, o, e1, ?_⟩
    rw [h1, hx]
    simp [List.getD, hi', hx]
  · obtain ⟨i, hi, rfl⟩ := List.mem_map.1 hx
    obtain ⟨b, hb, hw⟩ := each i (by simpa using hi)
    rw [hb]; exact hw
theorem int_of {t : TypeId} {v : Value} {n : Nat} {y : DataW H × List MemPlace} (ht : P.underlying t = some (.int .i64)) (h : DataW.trod enc P W base spare held n t [v] = some y) :
    ∃ x : Int, v = .int .i64 x ∧ (Lit.int .i64 x).wf = true := by
  obtain ⟨x, q, _, wx⟩ := DataW.trod_int ht h
  simp at q
  exact ⟨x, q, wx⟩
end
end Go.Proofs.YtfgkimhcbboipaaDoor
