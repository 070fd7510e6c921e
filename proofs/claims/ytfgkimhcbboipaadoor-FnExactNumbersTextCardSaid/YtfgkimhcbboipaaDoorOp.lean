/- How arguments are opened: seeds, lists of integers and of bools. -/
import Derived.Test.YtfgkimhcbboipaaDoorMm
import Derived.Deep.Slices
import Derived.ProofKit
import Derived.Laws.Cover2
import Derived.Lib.SmallJoins
namespace Go.Proofs.YtfgkimhcbboipaaDoor
open Go Go.RowKit Go.ChangeShapes Go.WideShapes Go.ChangeAt Go.Deep Go.Joins
set_option linter.unusedVariables false

section
variable {H : Type} {enc : TypeId × Value → H} {P : Program} {W : World} {base : Nat} {spare : Nat → Bool} {held : Bool}

theorem wf_u64 {n : Int} (h : (Lit.int .u64 n).wf = true) : ∃ a : Nat, n = a ∧ a < 18446744073709551616 := by
  have h' : IntKind.u64.min ≤ n ∧ n ≤ IntKind.u64.max := by simpa [Lit.wf] using h
  have e1 : IntKind.u64.min = 0 := by decide
  have e2 : IntKind.u64.max = 18446744073709551615 := by decide
  rw [e1, e2] at h'
  exact ⟨n.toNat, by omega, by omega⟩

theorem open_u64 {r : Reach} {b0 : Nat} {t : TypeId} {v : Value} {d : DataW H} {p : List MemPlace} (ht : P.underlying t = some (.int .u64)) (hval : Value.okWide P W r b0 t v) (hd : DataW.Trod enc P W base spare held t v d p) :
    ∃ a : Nat, v = .int .u64 (a : Int) ∧ a < 18446744073709551616 := by
  obtain ⟨n, rfl, _, _, w⟩ := open_int ht hval hd
  obtain ⟨a, rfl, ha⟩ := wf_u64 w
  exact ⟨a, rfl, ha⟩

theorem open_seed {r : Reach} {b0 : Nat} {t ti tu : TypeId} {f0 f1 f2 : Field} {v : Value} {d : DataW H} {p : List MemPlace} (hs : P.underlying t = some (.struct #[f0, f1, f2])) (hi : P.underlying ti = some (.int .i64)) (hu : P.underlying tu = some (.int .u64))
    (hone : (oneCellFields P #[f0, f1, f2] && f0.type == ti && f1.type == tu && f2.type == tu) = true) (hC : P.cellsOf t = 3) (hval : Value.okWide P W r b0 t v) (hd : DataW.Trod enc P W base spare held t v d p) :
    ∃ (k : Int) (a b : Nat), v = .agg #[.int .i64 k, .int .u64 a, .int .u64 b] ∧ (Lit.int .i64 k).wf = true ∧ a < 18446744073709551616 ∧ b < 18446744073709551616 := by
  simp only [Bool.and_eq_true, beq_iff_eq] at hone
  obtain ⟨⟨⟨ho, e0⟩, e1⟩, e2⟩ := hone
  obtain ⟨c0, c1, c2, y0, y1, y2, m, rfl, rfl, rfl, hy0, hy1, hy2⟩ := open_agg3 hs ho hC hval hd
  rw [e0] at hy0; rw [e1] at hy1; rw [e2] at hy2
  obtain ⟨x, q0, rfl, wx⟩ := DataW.trod_int hi hy0
  obtain ⟨y, q1, rfl, wy⟩ := DataW.trod_int hu hy1
  obtain ⟨z, q2, rfl, wz⟩ := DataW.trod_int hu hy2
  simp at q0 q1 q2
  subst q0 q1 q2
  obtain ⟨a, rfl, ha⟩ := wf_u64 wy
  obtain ⟨b, rfl, hb⟩ := wf_u64 wz
  exact ⟨x, a, b, rfl, wx, ha, hb⟩

theorem addr_of_cell0 {w : World} {a : Addr} {v : Value} (h : w.cell? (a.add 0) = some v) : a = ⟨a.block, a.off, none⟩ := by
  obtain ⟨b, o, s⟩ := a
  cases s with
  | none => rfl
  | some x => simp [World.cell?, Addr.add] at h; split at h <;> simp_all

theorem open_row1 {t e : TypeId} {v : Value} {d : DataW H} {p : List MemPlace} {b0 : Nat} {r : Reach} (ht : P.underlying t = some (.slice e)) (hc : P.cellsOf e = 1) (hval : Value.okWide P W r b0 t v) (hd : DataW.Trod enc P W base spare held t v d p) :
    ∃ ao len cap, ∃ V : Nat → Value, v = .slice ao len cap ∧ ∀ i, i < len → ∃ b o, ao = some ⟨b, o, none⟩ ∧ W.cell? ⟨b, o + i, none⟩ = some (V i) ∧ ∃ n y, DataW.trod enc P W base spare held n e [V i] = some y := by
  obtain ⟨ao, len, cap, rfl⟩ := okWide_slice ht hval
  obtain ⟨fuel, hf⟩ := hd
  rcases open_slice1 ht hc hf with ⟨hcs, _⟩ | ⟨a, l, c, m, n, V, D, Pl, hcs, _, hl, hm, hmm, _, hx⟩
  · simp [Value.cells] at hcs
    obtain ⟨rfl, rfl, rfl⟩ := hcs
    exact ⟨none, 0, 0, fun _ => undef, rfl, fun i hi => absurd hi (Nat.not_lt_zero _)⟩
  · simp [Value.cells] at hcs
    obtain ⟨rfl, rfl, rfl⟩ := hcs
    refine ⟨_, len, cap, V, rfl, fun i hi => ?_⟩
    have hi' : i < m := by rw [hmm]; split <;> omega
    obtain ⟨h1, h2⟩ := hx i hi'
    have e1 := addr_of_cell0 (hx 0 (by omega)).1
    rw [e1, Addr.add_lit] at h1
    exact ⟨a.block, a.off, congrArg some e1, h1, n, _, h2⟩

theorem open_ints64 {t e : TypeId} {v : Value} {d : DataW H} {p : List MemPlace} {b0 : Nat} {r : Reach} (ht : P.underlying t = some (.slice e)) (he : P.underlying e = some (.int .i64)) (hc : P.cellsOf e = 1)
    (hval : Value.okWide P W r b0 t v) (hd : DataW.Trod enc P W base spare held t v d p) :
    ∃ ao cap, ∃ xs : List Int, v = .slice ao xs.length cap ∧ Holds W ao (xs.map (Value.int .i64)) ∧ ∀ x ∈ xs, -9223372036854775808 ≤ x ∧ x ≤ 9223372036854775807 := by
  obtain ⟨ao, len, cap, V, rfl, hV⟩ := open_row1 ht hc hval hd
  have each : ∀ i, i < len → ∃ b, V i = .int .i64 b ∧ -9223372036854775808 ≤ b ∧ b ≤ 9223372036854775807 := fun i hi => by
    obtain ⟨_, _, _, _, n, y, hy⟩ := hV i hi
    obtain ⟨b, hb, _, hw⟩ := DataW.trod_int he hy
    simp at hb
    have h' : IntKind.i64.min ≤ b ∧ b ≤ IntKind.i64.max := by simpa [Lit.wf] using hw
    have e1 : IntKind.i64.min = -9223372036854775808 := by decide
    have e2 : IntKind.i64.max = 9223372036854775807 := by decide
    rw [e1, e2] at h'
    exact ⟨b, hb, h'⟩
  refine ⟨ao, cap, (List.range len).map fun i => match V i with | .int _ b => b | _ => 0, by simp, fun i hi => ?_, fun x hx => ?_⟩
  · have hi' : i < len := by simpa using hi
    obtain ⟨b, o, e1, h1, _⟩ := hV i hi'
    obtain ⟨x, hx, _⟩ := each i hi'
    refine ⟨b, o, e1, ?_⟩
    rw [h1, hx]
    simp [List.getD, hi', hx]
  · obtain ⟨i, hi, rfl⟩ := List.mem_map.1 hx
    obtain ⟨b, hb, hw⟩ := each i (by simpa using hi)
    rw [hb]; exact hw

theorem open_bools {t e : TypeId} {v : Value} {d : DataW H} {p : List MemPlace} {b0 : Nat} {r : Reach} (ht : P.underlying t = some (.slice e)) (he : P.underlying e = some .bool) (hc : P.cellsOf e = 1)
    (hval : Value.okWide P W r b0 t v) (hd : DataW.Trod enc P W base spare held t v d p) :
    ∃ ao cap, ∃ xs : List Bool, v = .slice ao xs.length cap ∧ Holds W ao (xs.map Value.bool) ∧ True := by
  obtain ⟨ao, len, cap, V, rfl, hV⟩ := open_row1 ht hc hval hd
  have each : ∀ i, i < len → ∃ b, V i = .bool b := fun i hi => by
    obtain ⟨_, _, _, _, n, y, hy⟩ := hV i hi
    cases n with
    | zero => simp [DataW.trod] at hy
    | succ n =>
      simp only [DataW.trod, he] at hy
      split at hy <;> simp_all
  refine ⟨ao, cap, (List.range len).map fun i => match V i with | .bool b => b | _ => false, by simp, fun i hi => ?_, trivial⟩
  have hi' : i < len := by simpa using hi
  obtain ⟨b, o, e1, h1, _⟩ := hV i hi'
  obtain ⟨x, hx⟩ := each i hi'
  refine ⟨b, o, e1, ?_⟩
  rw [h1, hx]
  simp [List.getD, hi', hx]
end
end Go.Proofs.YtfgkimhcbboipaaDoor
