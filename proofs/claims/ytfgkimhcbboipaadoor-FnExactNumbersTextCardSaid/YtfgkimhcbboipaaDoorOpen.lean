/- How an argument that is a slice of numbers is opened: the list that it holds, in memory. -/
import Derived.Test.YtfgkimhcbboipaaDoorLst
import Derived.Deep.Slices
import Derived.ProofKit
import Derived.Laws.Cover2
namespace Go.Proofs.YtfgkimhcbboipaaDoor
open Go Go.RowKit Fl Go.ChangeShapes Go.WideShapes Go.ChangeAt Go.Deep

theorem addr_of_cell {w : World} {a : Addr} {v : Value} (h : w.cell? (a.add 0) = some v) : a = ⟨a.block, a.off, none⟩ := by
  obtain ⟨b, o, s⟩ := a
  cases s with
  | none => rfl
  | some x => simp [World.cell?, Addr.add] at h; split at h <;> simp_all

section
variable {H : Type} {enc : TypeId × Value → H} {P : Program} {W : World} {base : Nat} {spare : Nat → Bool} {held : Bool}

theorem open_row {t e : TypeId} {v : Value} {d : DataW H} {p : List MemPlace} {b0 : Nat} {r : Reach} (ht : P.underlying t = some (.slice e)) (hc : P.cellsOf e = 1) (hval : Value.okWide P W r b0 t v) (hd : DataW.Trod enc P W base spare held t v d p) :
    ∃ ao len cap, ∃ V : Nat → Value, v = .slice ao len cap ∧ ∀ i, i < len → ∃ b o, ao = some ⟨b, o, none⟩ ∧ W.cell? ⟨b, o + i, none⟩ = some (V i) ∧ ∃ n y, DataW.trod enc P W base spare held n e [V i] = some y := by
  obtain ⟨ao, len, cap, rfl⟩ := okWide_slice ht hval
  obtain ⟨fuel, hf⟩ := hd
  rcases open_slice1 ht hc hf with ⟨hcs, _⟩ | ⟨a, l, c, m, n, V, D, Pl, hcs, _, hl, hm, hmm, _, hx⟩
  · simp [Value.cells] at hcs
    obtain ⟨rfl, rfl, rfl⟩ := hcs
    exact ⟨none, 0, 0, fun _ => undef, rfl, fun i hi => absurd hi (Nat.not_lt_zero _)⟩
  · simp [Value.cells] at hcs
    obtain ⟨rfl, rfl, rfl⟩ := hcs
    refine ⟨_, len, cap, V, rfl, fun i hi => ?_⟩
    have hi' : i < m := by rw [hmm]; split <;> omega
    obtain ⟨h1, h2⟩ := hx i hi'
    have e1 := addr_of_cell (hx 0 (by omega)).1
    rw [e1, Addr.add_lit] at h1
    exact ⟨a.block, a.off, congrArg some e1, h1, n, _, h2⟩

theorem open_floats {t e : TypeId} {k : FloatKind} {v : Value} {d : DataW H} {p : List MemPlace} {b0 : Nat} {r : Reach} (ht : P.underlying t = some (.slice e)) (he : P.underlying e = some (.float k)) (hc : P.cellsOf e = 1)
    (hval : Value.okWide P W r b0 t v) (hd : DataW.Trod enc P W base spare held t v d p) :
    ∃ ao cap, ∃ xs : List Nat, v = .slice ao xs.length cap ∧ Holds W ao (fl k xs) ∧ ∀ x ∈ xs, (Lit.float k x).wf = true := by
  obtain ⟨ao, len, cap, V, rfl, hV⟩ := open_row ht hc hval hd
  have each : ∀ i, i < len → ∃ b, V i = .float k b ∧ (Lit.float k b).wf = true := fun i hi => by
    obtain ⟨_, _, _, _, n, y, hy⟩ := hV i hi
    cases n with
    | zero => simp [DataW.trod] at hy
    | succ n =>
      simp only [DataW.trod, he] at hy
      split at hy <;> simp_all
  refine ⟨ao, cap, (List.range len).map fun i => match V i with | .float _ b => b | _ => 0, by simp, fun i hi => ?_, fun x hx => ?_⟩
  · have hi' : i < len := by simpa [fl] using hi
    obtain ⟨b, o, e1, h1, _⟩ := hV i hi'
    obtain ⟨x, hx, _⟩ := each i hi'
    refine ⟨b, o, e1, ?_⟩
    rw [h1, hx]
    simp [fl, List.getD, hi', hx]
  · obtain ⟨i, hi, rfl⟩ := List.mem_map.1 hx
    obtain ⟨b, hb, hw⟩ := each i (by simpa using hi)
    rw [hb]; exact hw
end
end Go.Proofs.YtfgkimhcbboipaaDoor
