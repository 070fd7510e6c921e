/- The two errors of strconv, as a row's condition lays them; they stay as they are. -/
import Derived.Test.YtfgkimhcbboipaaDoorLtb
import Derived.Stop.LaidErr
namespace Go.Proofs.YtfgkimhcbboipaaDoor
open Go Go.RowKit
set_option linter.unusedVariables false
/-- Both variables hold an error. -/
def ErrV (w : World) : Prop := ∃ t1 p1 t2 p2, w.var? Tryd.prog "strconv.ErrSyntax" = some #[.iface t1 p1] ∧ w.var? Tryd.prog "strconv.ErrRange" = some #[.iface t2 p2]
theorem syn_typed : ((Tryd.prog.globalNamed "strconv.ErrSyntax").bind fun g => (Tryd.prog.globals[g]?).map (·.type)) = some 72 := by kernel_rfl
theorem rng_typed : ((Tryd.prog.globalNamed "strconv.ErrRange").bind fun g => (Tryd.prog.globals[g]?).map (·.type)) = some 72 := by kernel_rfl
theorem es_cells : Tryd.prog.cellsOf 195 = 1 := by kernel_rfl
theorem str_cells : Tryd.prog.cellsOf 9 = 1 := by kernel_rfl
theorem es_star : "*" ++ "errors.errorString" = "*errors.errorString" := by decide
theorem es_row (u : TypeId) (h : Tryd.prog.typeName? 3 u = some "*errors.errorString") : u = 193 :=
  typeName_ptr_named (nm := "errors.errorString") (by rw [es_star]; kernel_rfl) (by kernel_rfl) (by decide) u (by rw [es_star]; exact h)
theorem global_of {n : String} {t : TypeId} (h : ((Tryd.prog.globalNamed n).bind fun g => (Tryd.prog.globals[g]?).map (·.type)) = some t) : ∃ g, Tryd.prog.globalNamed n = some g ∧ (Tryd.prog.globals[g]?).map (·.type) = some t := by
  cases hg : Tryd.prog.globalNamed n with
  | none => rw [hg] at h; cases h
  | some g => rw [hg] at h; exact ⟨g, rfl, h⟩
theorem errs_of_laid {text1 text2 : List UInt8} {r : List (String × DataW Unit)} {W : World}
    (h : laidMet Tryd.prog (("strconv.ErrRange", .iface "*errors.errorString" (.ptr (.agg [.lit (.string text1)]))) :: ("strconv.ErrSyntax", .iface "*errors.errorString" (.ptr (.agg [.lit (.string text2)]))) :: r) W) : ErrV W := by
  obtain ⟨g1, hg1, ht1⟩ := global_of rng_typed
  obtain ⟨g2, hg2, ht2⟩ := global_of syn_typed
  obtain ⟨a1, s1, hv1, -, -, -⟩ := laid_sentinel h hg1 ht1 Tryd.underlying72 es_row Tryd.underlying193 Tryd.underlying195 rfl rfl Tryd.underlying9 es_cells str_cells
  obtain ⟨a2, s2, hv2, -, -, -⟩ := laid_sentinel h.tail hg2 ht2 Tryd.underlying72 es_row Tryd.underlying193 Tryd.underlying195 rfl rfl Tryd.underlying9 es_cells str_cells
  exact ⟨_, _, _, _, hv2, hv1⟩
theorem var_below {n : String} {cs : Array Value} {w w' : World} (h : w.var? Tryd.prog n = some cs) (hb : Below w.heap.size w w') : w'.var? Tryd.prog n = some cs := by
  unfold World.var? at h ⊢
  cases hg : Tryd.prog.globalNamed n with
  | none => rw [hg] at h; cases h
  | some g =>
    rw [hg] at h
    have h' : (match w.heap[g]? with | some (.cells cs _ _) => some cs | _ => none) = some cs := h
    have hlt : g < w.heap.size := by
      rcases Nat.lt_or_ge g w.heap.size with h1 | h1
      · exact h1
      · rw [Array.getElem?_eq_none h1] at h'; cases h'
    show (match w'.heap[g]? with | some (.cells cs _ _) => some cs | _ => none) = _
    rw [hb.block g hlt]
    exact h'
theorem ErrV.below {w w' : World} (h : ErrV w) (hb : Below w.heap.size w w') : ErrV w' := by
  obtain ⟨t1, p1, t2, p2, h1, h2⟩ := h
  exact ⟨t1, p1, t2, p2, var_below h1 hb, var_below h2 hb⟩
end Go.Proofs.YtfgkimhcbboipaaDoor
