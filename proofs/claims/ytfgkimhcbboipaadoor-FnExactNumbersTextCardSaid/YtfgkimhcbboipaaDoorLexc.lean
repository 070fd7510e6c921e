/- As XVag, without floats: regions that draw their order, in a class of worlds of one's own choice: loads of cells that stay, next to calls that make memory. One walk of the order of the text serves every order. -/
import Derived.Deep.QuietTactic
import Derived.BigQuiet
namespace Go.Proofs.YtfgkimhcbboipaaDoor.Lexc
open Go

section
variable {P : Program} {ops : Array Oper} {md : Region.Mode} {C : World → Prop}

/-- What one operation, carried out in 'w', may yield: 'v', and a world of the class. -/
def Yd (P : Program) (C : World → Prop) (w : World) (v : Value) : Result Next → Prop
  | .ok (.value u) w' => C w' ∧ u = v
  | .ok .skip w' => C w' ∧ v = undef
  | .ok (.enter f args) w' => w' = w ∧ P.inits.idxOf? f = none ∧ Calls P f args w (fun e w'' => e = .returned v ∧ C w'')
  | _ => False

def Yat (P : Program) (C : World → Prop) (o : Oper) (a : Act) (w : World) (v : Value) : Prop := Yd P C w v ((execOp a.eval o).run P w)

/-- In every world of the class it yields something. -/
def Able (P : Program) (C : World → Prop) (ops : Array Oper) (o : Oper) (a : Act) : Prop :=
  Region.wanted o (yielded ops a.tmps) = true → ∀ w, C w → ∃ v, Yat P C o a w v

/-- What it may yield in some world of the class. -/
def May (P : Program) (C : World → Prop) (ops : Array Oper) (o : Oper) (a : Act) (v : Value) : Prop :=
  (Region.wanted o (yielded ops a.tmps) = true ∧ ∃ w, C w ∧ Yat P C o a w v) ∨ (Region.wanted o (yielded ops a.tmps) = false ∧ v = undef)

def One (P : Program) (C : World → Prop) (ops : Array Oper) (o : Oper) (K : Act → Prop) (a : Act) : Prop :=
  Able P C ops o a ∧ ∀ v, May P C ops o a v → K (a.put o.dst v)

def At (P : Program) (C : World → Prop) (ops : Array Oper) (i : Nat) (K : Act → Prop) (a : Act) : Prop :=
  match ops[i]? with
  | none => K a
  | some o => One P C ops o K a

/-- The walk in the order of the text. -/
def Lex (P : Program) (C : World → Prop) (ops : Array Oper) (Q : Act → Prop) : List Oper → Act → Prop
  | [], a => Q a
  | o :: rest, a => One P C ops o (Lex P C ops Q rest) a

/-- Whatever order is picked. -/
def Any (P : Program) (C : World → Prop) (md : Region.Mode) (ops : Array Oper) (Q : Act → Prop) : Nat → Array Bool → Act → Prop
  | 0, listed, a => Region.ready md ops listed = [] ∧ Q a
  | fuel + 1, listed, a =>
    (Region.ready md ops listed = [] → Q a) ∧
    ∀ i ∈ Region.ready md ops listed, At P C ops i (Any P C md ops Q fuel (listed.setIfInBounds i true)) a

theorem One.mono {o : Oper} {K K' : Act → Prop} {a : Act} (h : ∀ a, K a → K' a) (hh : One P C ops o K a) : One P C ops o K' a :=
  ⟨hh.1, fun v hv => h _ (hh.2 v hv)⟩

theorem At.mono {i : Nat} {K K' : Act → Prop} {a : Act} (h : ∀ a, K a → K' a) (hh : At P C ops i K a) : At P C ops i K' a := by
  unfold At at *
  split
  · rename_i ho; simp only [ho] at hh; exact h _ hh
  · rename_i o ho; simp only [ho] at hh; exact hh.mono h

theorem wpOp_of_At {i : Nat} {a : Act} {K : Act → Prop} {K' : Act → World → Prop} {Q' : Exit → Act → World → Prop} {w : World} (hC : C w)
    (h : ∀ a w', C w' → K a → K' a w') (hh : At P C ops i K a) : wpOp P ops Q' i K' a w := by
  unfold At at hh
  unfold wpOp
  split
  · rename_i ho; simp only [ho] at hh; exact h _ _ hC hh
  · rename_i o ho
    simp only [ho] at hh
    split
    · rename_i hw
      obtain ⟨v, hy⟩ := hh.1 hw w hC
      have hk := hh.2 v (.inl ⟨hw, w, hC, hy⟩)
      refine .inl ?_
      unfold Yat at hy
      unfold Oper.wp
      generalize (execOp a.eval o).run P w = r at *
      cases r with
      | ok n w' =>
        cases n <;> simp only [Yd] at hy <;> simp only [Oper.upon]
        case value u => obtain ⟨h1, h2⟩ := hy; subst h2; exact h _ _ h1 hk
        case skip => obtain ⟨h1, h2⟩ := hy; subst h2; exact h _ _ h1 hk
        case enter f args =>
          obtain ⟨h1, _, h2⟩ := hy
          subst h1
          exact h2.mono fun e w'' ⟨he, hw''⟩ => by subst he; exact h _ _ hw'' hk
      | halt x w' => simp only [Yd] at hy
    · rename_i hw
      exact h _ _ hC (hh.2 undef (.inr ⟨by simpa using hw, rfl⟩))

theorem wpAny_of {Q : Act → Prop} {Q' : Exit → Act → World → Prop} (hQ : ∀ a w, C w → Q a → Q' .normal a w) : ∀ (fuel : Nat) (listed : Array Bool) (a : Act) (w : World), C w →
    Any P C md ops Q fuel listed a → wpAny P md ops Q' fuel listed a w
  | 0, _, _, _, hw, h => ⟨h.1, hQ _ _ hw h.2⟩
  | fuel + 1, _, _, _, hw, h => ⟨fun h0 => hQ _ _ hw (h.1 h0), fun i hi => wpOp_of_At hw (fun a' w' hw' => wpAny_of hQ fuel _ a' w' hw') (h.2 i hi)⟩

theorem Able.same {o : Oper} {a a' : Act} (he : execOp a'.eval o = execOp a.eval o) (hw : Region.wanted o (yielded ops a'.tmps) = Region.wanted o (yielded ops a.tmps)) :
    Able P C ops o a' ↔ Able P C ops o a := by unfold Able Yat; rw [he, hw]
theorem May.same {o : Oper} {a a' : Act} {v : Value} (he : execOp a'.eval o = execOp a.eval o) (hw : Region.wanted o (yielded ops a'.tmps) = Region.wanted o (yielded ops a.tmps)) :
    May P C ops o a' v ↔ May P C ops o a v := by unfold May Yat; rw [he, hw]

theorem may_some {o : Oper} {a : Act} (hC : ∃ w, C w) (h : Able P C ops o a) : ∃ v, May P C ops o a v := by
  cases hw : Region.wanted o (yielded ops a.tmps) with
  | true => obtain ⟨w, hc⟩ := hC; obtain ⟨v, hy⟩ := h hw w hc; exact ⟨v, .inl ⟨hw, w, hc, hy⟩⟩
  | false => exact ⟨undef, .inr ⟨hw, rfl⟩⟩

/-- One that stands apart may come ahead. -/
theorem One.swap {oi oj : Oper} {K : Act → Prop} {a : Act} (hC : ∃ w, C w) (hap : oi.apart ops oj = true) (hsi : ∀ cs b, oi.op ≠ .select cs b) (hsj : ∀ cs b, oj.op ≠ .select cs b)
    (hi : Able P C ops oi a) (h : ∀ v, May P C ops oi a v → One P C ops oj K (a.put oi.dst v)) :
    One P C ops oj (fun a' => Able P C ops oi a' ∧ ∀ v, May P C ops oi a' v → K (a'.put oi.dst v)) a := by
  obtain ⟨h1, h2, h3⟩ := Oper.apart_spec hap
  have ej : ∀ v, execOp (a.put oi.dst v).eval oj = execOp a.eval oj := fun v => execOp_put oj hsj a oi.dst v h1
  have wj : ∀ v, Region.wanted oj (yielded ops (a.put oi.dst v).tmps) = Region.wanted oj (yielded ops a.tmps) := fun v => wanted_put oj a oi.dst v h1
  have ei : ∀ u, execOp (a.put oj.dst u).eval oi = execOp a.eval oi := fun u => execOp_put oi hsi a oj.dst u h3
  have wi : ∀ u, Region.wanted oi (yielded ops (a.put oj.dst u).tmps) = Region.wanted oi (yielded ops a.tmps) := fun u => wanted_put oi a oj.dst u h3
  obtain ⟨v0, hv0⟩ := may_some hC hi
  refine ⟨(Able.same (ej v0) (wj v0)).1 (h v0 hv0).1, fun u hu => ⟨(Able.same (ei u) (wi u)).2 hi, fun v hv => ?_⟩⟩
  have hv' := (May.same (ei u) (wi u)).1 hv
  rw [← Act.put_comm a v u h2]
  exact (h v hv').2 u ((May.same (ej v) (wj v)).2 hu)

theorem Any.first {Q : Act → Prop} {i : Nat} {oi : Oper} (hC : ∃ w, C w) (hi : ops[i]? = some oi) (hsel : ∀ (j : Nat) (o : Oper) cs b, ops[j]? = some o → o.op ≠ .select cs b) :
    ∀ (fuel : Nat) (listed : Array Bool) (a : Act),
      (∀ j oj, ops[j]? = some oj → j ≠ i → listed.getD j true = false → (∀ e ∈ oj.after, Region.binds md e = true → e.on ≠ i) → oi.apart ops oj = true) →
      i ∈ Region.ready md ops listed → Able P C ops oi a →
      (∀ v, May P C ops oi a v → Any P C md ops Q fuel (listed.setIfInBounds i true) (a.put oi.dst v)) → Any P C md ops Q (fuel + 1) listed a := by
  intro fuel
  induction fuel with
  | zero =>
    intro listed a _ hr hy H
    refine ⟨fun h => (by rw [h] at hr; cases hr), fun j hj => ?_⟩
    by_cases hji : j = i
    · subst hji; unfold At; rw [hi]; exact ⟨hy, H⟩
    · have := ready_mono hj hji
      obtain ⟨v, hv⟩ := may_some hC hy
      rw [(H v hv).1] at this
      cases this
  | succ fuel ih =>
    intro listed a hfree hr hy H
    refine ⟨fun h => (by rw [h] at hr; cases hr), fun j hj => ?_⟩
    by_cases hji : j = i
    · subst hji; unfold At; rw [hi]; exact ⟨hy, H⟩
    · obtain ⟨hjun, oj, hoj, hall⟩ := mem_ready.1 hj
      have hnot : ∀ e ∈ oj.after, Region.binds md e = true → e.on ≠ i := fun e he hb heq => by
        have h1 := hall e he hb
        have h0 := (mem_ready.1 hr).1
        rw [heq] at h1
        rcases Nat.lt_or_ge i listed.size with h' | h'
        · simp [h'] at h0 h1; rw [h0] at h1; cases h1
        · simp [Array.getElem?_eq_none h'] at h1
      have h1 : ∀ v, May P C ops oi a v → One P C ops oj (Any P C md ops Q fuel ((listed.setIfInBounds i true).setIfInBounds j true)) (a.put oi.dst v) := fun v hv => by
        have := (H v hv).2 j (ready_mono hj hji)
        unfold At at this
        rw [hoj] at this
        exact this
      have h2 := One.swap hC (hfree j oj hoj hji hjun hnot) (fun cs b => hsel i oi cs b hi) (fun cs b => hsel j oj cs b hoj) hy h1
      have hfree' : ∀ k ok, ops[k]? = some ok → k ≠ i → (listed.setIfInBounds j true).getD k true = false →
          (∀ e ∈ ok.after, Region.binds md e = true → e.on ≠ i) → oi.apart ops ok = true := fun k ok hk hki hun hno => by
        refine hfree k ok hk hki ?_ hno
        by_cases hjk : j = k
        · subst hjk; exact hjun
        · rw [getD_set_ne true hjk] at hun; exact hun
      unfold At
      rw [hoj]
      refine One.mono (fun a' h3 => ih (listed.setIfInBounds j true) a' hfree' (ready_mono hr (Ne.symm hji)) h3.1 fun v hv => ?_) h2
      rw [Array.setIfInBounds_comm _ _ hji]
      exact h3.2 v hv

theorem Any.lex {Q : Act → Prop} (hC : ∃ w, C w) (hs : Region.noSelect ops = true) : ∀ (l : List Oper) (k : Nat) (listed : Array Bool) (a : Act), (∀ j, l[j]? = ops[k + j]?) →
    Region.lexFrom md ops l.length k listed = true → Lex P C ops Q l a → Any P C md ops Q l.length listed a
  | [], _, _, _, _, hB, h => ⟨by simpa [Region.lexFrom] using hB, h⟩
  | o :: l, k, listed, a, hl, hB, h => by
    have h0 : ops[k]? = some o := by simpa using (hl 0).symm
    simp only [List.length_cons, Region.lexFrom, Bool.and_eq_true] at hB
    obtain ⟨⟨hr, hf⟩, hB'⟩ := hB
    exact Any.first hC h0 (Region.noSelect_spec hs) l.length listed a (Region.free_spec h0 hf) (by simpa using hr) h.1
      fun v hv => Any.lex hC hs l (k + 1) _ _ (fun j => by have := hl (j + 1); simpa [Nat.add_assoc, Nat.add_comm 1 j] using this) hB' (h.2 v hv)

theorem wp_region_lex {id : Nat} {Q : Exit → Act → World → Prop} {a : Act} {w : World} {l : List Oper} (hm : P.follows .mixedOrders = true) (hB : Region.lexB .any l.toArray = true) (hC : C w.drew)
    (h : Lex P C l.toArray (fun a' => ∀ w', C w' → Q .normal a' w') l a) : (Code.region id l.toArray true).wp P Q a w := by
  simp only [Region.lexB, Bool.and_eq_true] at hB
  refine wp_region_any hm (wpAny_of (Q := fun a' => ∀ w', C w' → Q .normal a' w') (fun _ w' hw' h => h w' hw') _ _ _ _ hC ?_)
  have := Any.lex (P := P) (md := .any) ⟨_, hC⟩ hB.1 l 0 (Array.replicate l.toArray.size false) a (by simp) (by simpa using hB.2) h
  simpa using this

/-! ### A call hands back one value -/

theorem calls_one {f : FuncId} {args : Array Value} {w : World} {v1 v2 : Value} {R1 R2 : World → Prop} (hi : P.inits.idxOf? f = none)
    (h1 : Calls P f args w fun e w' => e = .returned v1 ∧ R1 w') (h2 : Calls P f args w fun e w' => e = .returned v2 ∧ R2 w') : v1 = v2 := by
  obtain ⟨e1, w1, fr1, ⟨rfl, _⟩, c1, f1, l1⟩ := h1 []
  obtain ⟨e2, w2, fr2, ⟨rfl, _⟩, c2, f2, l2⟩ := h2 []
  obtain ⟨n1, c1⟩ : Steps P _ _ := c1
  obtain ⟨n2, c2⟩ : Steps P _ _ := c2
  have s1 := step_leave_done l1 (by rw [f1]; exact hi)
  have s2 := step_leave_done l2 (by rw [f2]; exact hi)
  rcases Nat.le_total n1 n2 with h | h
  · obtain ⟨d, rfl⟩ := Nat.exists_eq_add_of_le h
    rw [runN_add, c1] at c2
    cases d with
    | zero => simp only [runN, Stepped.next.injEq] at c2; rw [c2, s2] at s1; cases s1; rfl
    | succ d => simp only [runN, s1] at c2; cases c2
  · obtain ⟨d, rfl⟩ := Nat.exists_eq_add_of_le h
    rw [runN_add, c2] at c1
    cases d with
    | zero => simp only [runN, Stepped.next.injEq] at c1; rw [c1, s1] at s2; cases s2; rfl
    | succ d => simp only [runN, s2] at c1; cases c1
end


section
variable {P : Program} {C : World → Prop} {ops : Array Oper} {Q : Act → Prop} {rest : List Oper} {a : Act} {o : Oper}
theorem lexC_nil (h : Q a) : Lex P C ops Q [] a := h
/-- An operation that turns nothing and yields one value in each world of the class. -/
theorem lexC_pure (hg : o.guard = none) {v : Value} {a' : Act} (hv : ∀ w, C w → (execOp a.eval o).run P w = .ok (.value v) w) (he : a.put o.dst v = a') (h : Lex P C ops Q rest a'): Lex P C ops Q (o :: rest) a := by
  have hwn : Region.wanted o (yielded ops a.tmps) = true := by simp [Region.wanted, hg]
  have key : ∀ w' u, C w' → (Yat P C o a w' u ↔ u = v) := by
    intro w' u hc
    unfold Yat
    rw [hv w' hc]
    simp only [Yd]
    exact ⟨fun h => h.2.symm, fun h => ⟨hc, h.symm⟩⟩
  refine ⟨fun _ w' hw' => ⟨v, (key w' v hw').2 rfl⟩, fun u hu => ?_⟩
  rcases hu with ⟨_, w', hw', hy⟩ | ⟨h0, _⟩
  · rw [(key w' u hw').1 hy, he]; exact h
  · rw [hwn] at h0; cases h0
theorem lexC_move (hg : o.guard = none) {x : Operand} {a' : Act} (hx : o.op = .move x ∨ o.op = .assign x) (he : a.put o.dst (a.eval x) = a') (h : Lex P C ops Q rest a'): Lex P C ops Q (o :: rest) a :=
  lexC_pure hg (fun w _ => by rcases hx with hx | hx <;> simp [execOp, hx]) he h
/-- A call that hands back one value in each world of the class, and leaves a world of the class. -/
theorem lexC_fn {dst : Option Tmp} {ty : TypeId} {pos : String} {af : Array Edge} {f : FuncId} {xs : Array Operand} {ts : Array TypeId} {args : Array Value} (v : Value) (hi : P.inits.idxOf? f = none)
    (hr : ∀ w, (execOp a.eval (⟨dst, .call { callee := .value (.func f), args := xs, argTypes := ts }, ty, pos, af, none⟩ : Oper)).run P w = .ok (.enter f args) w)
    (hc : ∀ w, C w → Calls P f args w fun e w' => e = .returned v ∧ C w') {a' : Act} (he : a.put dst v = a') (h : Lex P C ops Q rest a') :
    Lex P C ops Q (⟨dst, .call { callee := .value (.func f), args := xs, argTypes := ts }, ty, pos, af, none⟩ :: rest) a := by
  have hwn : Region.wanted (⟨dst, .call { callee := .value (.func f), args := xs, argTypes := ts }, ty, pos, af, none⟩ : Oper) (yielded ops a.tmps) = true := by simp [Region.wanted]
  refine ⟨fun _ w' hw' => ⟨v, by unfold Yat; rw [hr w']; exact ⟨rfl, hi, hc w' hw'⟩⟩, fun u hu => ?_⟩
  rcases hu with ⟨_, w', hw', hy⟩ | ⟨h0, _⟩
  · unfold Yat at hy
    rw [hr w'] at hy
    obtain ⟨_, _, h2⟩ := hy
    rw [calls_one hi h2 (hc w' hw'), he]
    exact h
  · rw [hwn] at h0; cases h0
end
end Go.Proofs.YtfgkimhcbboipaaDoor.Lexc
