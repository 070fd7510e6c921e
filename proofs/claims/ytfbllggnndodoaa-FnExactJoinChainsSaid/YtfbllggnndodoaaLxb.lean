/- Regions that draw their order and only read and call: the walk, operation by operation, in the class of all worlds in which what lay below is as it was. (As XVag's for draws alone.) -/
import Derived.Test.YtfbllggnndodoaaVag
import Derived.Test.YtfbllggnndodoaaMm
namespace Go.Proofs.Ytfbllggnndodoaa
open Go Go.RowKit Fl Vag
set_option linter.unusedVariables false
def CB (w w' : World) : Prop := Below w.heap.size w w'
theorem CB.drew (w : World) : CB w w.drew := (Below.refl _ _).drew
section
variable {P : Program} {ops : Array Oper} {Q : Act → Prop} {rest : List Oper} {a : Act} {w : World} {o : Oper}
theorem lexB_nil (h : Q a) : Lex P (CB w) ops Q [] a := h
theorem lexB_some (hg : o.guard = none) (V : Value → Prop) (hv : ∀ w', CB w w' → ∃ u m, (execOp a.eval o).run P w' = .ok (.value u) (w'.drewN m) ∧ V u) (h : ∀ u, V u → Lex P (CB w) ops Q rest (a.put o.dst u)) : Lex P (CB w) ops Q (o :: rest) a := by
  have hwn : Region.wanted o (yielded ops a.tmps) = true := by simp [Region.wanted, hg]
  refine ⟨fun _ w' hw' => ?_, fun u hu => ?_⟩
  · obtain ⟨u, m, hm, _⟩ := hv w' hw'
    exact ⟨u, by unfold Yat; rw [hm]; exact ⟨Bel_drewN hw' m, rfl⟩⟩
  · rcases hu with ⟨_, w', hw', hy⟩ | ⟨h0, _⟩
    · obtain ⟨u', m, hm, hV⟩ := hv w' hw'
      unfold Yat at hy
      rw [hm] at hy
      obtain ⟨_, rfl⟩ := hy
      exact h _ hV
    · rw [hwn] at h0; cases h0
theorem lexB_pure (hg : o.guard = none) {v : Value} {a' : Act} (hv : ∀ w', CB w w' → (execOp a.eval o).run P w' = .ok (.value v) w') (he : a.put o.dst v = a') (h : Lex P (CB w) ops Q rest a') : Lex P (CB w) ops Q (o :: rest) a :=
  lexB_some hg (fun u => u = v) (fun w' hw' => ⟨v, 0, by rw [World.drewN_zero]; exact hv w' hw', rfl⟩) (fun u hu => by subst hu; rw [he]; exact h)
theorem lexB_move (hg : o.guard = none) {x : Operand} {a' : Act} (hx : o.op = .move x ∨ o.op = .assign x) (he : a.put o.dst (a.eval x) = a') (h : Lex P (CB w) ops Q rest a') : Lex P (CB w) ops Q (o :: rest) a :=
  lexB_pure hg (fun w' _ => by rcases hx with hx | hx <;> simp [execOp, hx]) he h
/-- A call whose value is known but for what is drawn, in whatever of these worlds. -/
theorem lexB_calls (hg : o.guard = none) (f : FuncId) (args : Array Value) (V : Value → Prop) (hi : P.inits.idxOf? f = none) (hr : ∀ w', CB w w' → (execOp a.eval o).run P w' = .ok (.enter f args) w')
    (hc : ∀ w', CB w w' → ∃ v, V v ∧ Calls P f args w' fun e w'' => e = .returned v ∧ CB w w'') (h : ∀ v, V v → Lex P (CB w) ops Q rest (a.put o.dst v)) : Lex P (CB w) ops Q (o :: rest) a := by
  have hwn : Region.wanted o (yielded ops a.tmps) = true := by simp [Region.wanted, hg]
  refine ⟨fun _ w' hw' => ?_, fun u hu => ?_⟩
  · obtain ⟨v, _, hv⟩ := hc w' hw'
    exact ⟨v, by unfold Yat; rw [hr w' hw']; exact ⟨rfl, hi, hv⟩⟩
  · rcases hu with ⟨_, w', hw', hy⟩ | ⟨h0, _⟩
    · unfold Yat at hy
      rw [hr w' hw'] at hy
      obtain ⟨_, _, h2⟩ := hy
      obtain ⟨v, hV, hv⟩ := hc w' hw'
      rw [calls_one hi h2 hv]
      exact h v hV
    · rw [hwn] at h0; cases h0
theorem lexB_fn {dst : Option Tmp} {ty : TypeId} {pos : String} {af : Array Edge} {f : FuncId} {xs : Array Operand} {ts : Array TypeId} {args : Array Value} (v : Value) (hi : P.inits.idxOf? f = none)
    (hr : ∀ w', CB w w' → (execOp a.eval (⟨dst, .call { callee := .value (.func f), args := xs, argTypes := ts }, ty, pos, af, none⟩ : Oper)).run P w' = .ok (.enter f args) w')
    (hc : ∀ w', CB w w' → Calls P f args w' fun e w'' => e = .returned v ∧ CB w w'') {a' : Act} (he : a.put dst v = a') (h : Lex P (CB w) ops Q rest a') :
    Lex P (CB w) ops Q (⟨dst, .call { callee := .value (.func f), args := xs, argTypes := ts }, ty, pos, af, none⟩ :: rest) a :=
  lexB_calls rfl f args (fun u => u = v) hi hr (fun w' hw' => ⟨v, rfl, hc w' hw'⟩) (fun u hu => by subst hu; show Lex P (CB w) ops Q rest (a.put dst _); rw [he]; exact h)
theorem lexB_farith {dst : Option Tmp} {ty : TypeId} {pos : String} {af : Array Edge} (op : BinOp) (t : TypeId) (x y : Operand) (z : TypeId) (k : FloatKind) (bx by_ : Nat) (hx : a.eval x = .float k bx) (hy : a.eval y = .float k by_) (hop : Fl.isArith op = true)
    {f : Nat → Act} (he : ∀ r, a.put dst (.float k r) = f r) (h : ∀ r, Fl.Fv k (Fl.aop op k (Fl.av k bx) (Fl.av k by_)) r → Lex P (CB w) ops Q rest (f r)) :
    Lex P (CB w) ops Q (⟨dst, .binOp op t x y z, ty, pos, af, none⟩ :: rest) a := by
  refine lexB_some rfl (fun u => ∃ r, u = .float k r ∧ Fl.Fv k (Fl.aop op k (Fl.av k bx) (Fl.av k by_)) r) (fun w' _ => ?_) (fun u ⟨r, hu, hr⟩ => by subst hu; show Lex P (CB w) ops Q rest (a.put dst _); rw [he]; exact h r hr)
  obtain ⟨r, m, hrun, hr⟩ := Fl.run_farith (P := P) op k bx by_ w' hop
  refine ⟨.float k r, m, ?_, r, rfl, hr⟩
  have hb : binOp op t (.float k bx) (.float k by_) = Op.floatArith op k bx by_ := by
    cases op <;> simp [Fl.isArith] at hop <;> simp [binOp]
  have hg : ∀ w, (eqGuard op t x y (.float k bx) (.float k by_)).run P w = .ok () w := by
    intro w; cases op <;> simp [Fl.isArith] at hop <;> rfl
  simp [execOp, hx, hy, hb, hg, hrun]
end
/-- A cell of what lay below, in whatever of these worlds. -/
theorem CB.cell {w w' : World} (h : CB w w') {p : Addr} {v : Value} (hc : w.cell? p = some v) : w'.cell? p = some v := by
  rw [Below.cell h (World.block_lt_of_cell? _ _ hc)]; exact hc
theorem CB.cells {w w' : World} (h : CB w w') {g : Nat} {t : TypeId} {cs : Array Value} (hw : Whole w g t cs) : (∀ o, w'.cell? ⟨g, o, none⟩ = cs[o]?) ∧ (∀ o, w'.frozen? ⟨g, o, none⟩ = false) := (hw.below h).facts
end Go.Proofs.Ytfbllggnndodoaa
