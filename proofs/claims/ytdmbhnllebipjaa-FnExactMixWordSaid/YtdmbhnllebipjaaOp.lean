/- How arguments are opened: seeds, lists of integers and of bools. -/
import Derived.Test.YtdmbhnllebipjaaU
import Derived.Deep.Slices
import Derived.ProofKit
import Derived.Laws.Cover2
import Derived.Lib.SmallJoins
namespace Go.Proofs.Ytdmbhnllebipjaa
open Go Go.RowKit Go.ChangeShapes Go.WideShapes Go.ChangeAt Go.Deep Go.Joins
set_option linter.unusedVariables false

section
variable {H : Type} {enc : TypeId × Value → H} {P : Program} {W : World} {base : Nat} {spare : Nat → Bool} {held : Bool}

theorem wf_u64 {n : Int} (h : (Lit.int .u64 n).wf = true) : ∃ a : Nat, n = a ∧ a < 18446744073709551616 := by
  have h' : IntKind.u64.min ≤ n ∧ n ≤ IntKind.u64.max := by simpa [Lit.wf] using h
  have e1 : IntKind.u64.min = 0 := by decide
  have e2 : IntKind.u64.max = 18446744073709551615 := by decide
  rw [e1, e2] at h'
  exact ⟨n.toNat, by omega, by omega⟩

theorem open_u64 {r : Reach} {b0 : Nat} {t : TypeId} {v : Value} {d : DataW H} {p : List MemPlace} (ht : P.underlying t = some (.int .u64)) (hval : Value.okWide P W r b0 t v) (hd : DataW.Trod enc P W base spare held t v d p) :
    ∃ a : Nat, v = .int .u64 (a : Int) ∧ a < 18446744073709551616 := by
  obtain ⟨n, rfl, _, _, w⟩ := open_int ht hval hd
  obtain ⟨a, rfl, ha⟩ := wf_u64 w
  exact ⟨a, rfl, ha⟩

theorem open_seed {r : Reach} {b0 : Nat} {t ti tu : TypeId} {f0 f1 f2 : Field} {v : Value} {d : DataW H} {p : List MemPlace} (hs : P.underlying t = some (.struct #[f0, f1, f2])) (hi : P.underlying ti = some (.int .i64)) (hu : P.underlying tu = some (.int .u64))
    (hone : (oneCellFields P #[f0, f1, f2] && f0.type == ti && f1.type == tu && f2.type == tu) = true) (hC : P.cellsOf t = 3) (hval : Value.okWide P W r b0 t v) (hd : DataW.Trod enc P W base spare held t v d p) :
    ∃ (k : Int) (a b : Nat), v = .agg #[.int .i64 k, .int .u64 a, .int .u64 b] ∧ (Lit.int .i64 k).wf = true ∧ a < 18446744073709551616 ∧ b < 18446744073709551616 := by
  simp only [Bool.and_eq_true, beq_iff_eq] at hone
  obtain ⟨⟨⟨ho, e0⟩, e1⟩, e2⟩ := hone
  obtain ⟨c0, c1, c2, y0, y1, y2, m, rfl, rfl, rfl, hy0, hy1, hy2⟩ := open_agg3 hs ho hC hval hd
  rw [e0] at hy0; rw [e1] at hy1; rw [e2] at hy2
  obtain ⟨x, q0, rfl, wx⟩ := DataW.trod_int hi hy0
  obtain ⟨y, q1, rfl, wy⟩ := DataW.trod_int hu hy1
  obtain ⟨z, q2, rfl, wz⟩ := DataW.trod_int hu hy2
  simp at q0 q1 q2
  subst q0 q1 q2
  obtain ⟨a, rfl, ha⟩ := wf_u64 wy
  obtain ⟨b, rfl, hb⟩ := wf_u64 wz
  exact ⟨x, a, b, rfl, wx, ha, hb⟩
end
end Go.Proofs.Ytdmbhnllebipjaa
