/- chainOf of the code, a copy for each closure (written by chgen.py). -/
import Derived.Test.YtfbllggnndodoaaCno
import Derived.Deep.RegionLaw
import Derived.Deep.AppendLies
namespace Go.Proofs.Ytfbllggnndodoaa
open Go Go.RowKit Fl Vag
set_option linter.unusedVariables false
/-- A call of a Go function at a step of a region that draws its order: for go_region_law. -/
theorem step_calls {P : Program} {ops : Array Oper} {o : Oper} {a : Act} {w : World} {K : Act → World → Prop} {Q : Exit → Act → World → Prop} {E : Prop} (hgd : o.guard = none) (f : FuncId) (args : Array Value)
    (hr : (execOp a.eval o).run P w = .ok (.enter f args) w) {R : Value → World → Prop} (hc : Calls P f args w fun e w' => ∃ v, e = .returned v ∧ R v w')
    (h : ∀ v w', R v w' → K (a.put o.dst v) w') : if Region.wanted o (yielded ops a.tmps) = true then Oper.wp P o a w K Q else E := by
  have hw : Region.wanted o (yielded ops a.tmps) = true := by simp [Region.wanted, hgd]
  rw [if_pos hw]
  unfold Oper.wp
  rw [hr]
  refine hc.mono ?_
  rintro e w' ⟨v, rfl, hR⟩
  exact h v w' hR
/-- What a closure tells: a number of the told value, in memory that grows alone. -/
def CloR (G : Option Nat) (w : World) (e : Ending) (w' : World) : Prop := ∃ r, e = .returned (.float .f32 r) ∧ av .f32 r = G ∧ Below w.heap.size w w'
theorem sq_pos {i n k : Nat} (hi : i < n) (hk : k < n) : i * n + k < n * n := by have := row_in hi; omega
end Go.Proofs.Ytfbllggnndodoaa
