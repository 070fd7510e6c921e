/- Merged by merge.py: Lxb Cof CofWeighChain Wei Wem Wec Wes. -/
import Derived.Test.YtgeomaeccalceaaVag
import Derived.Test.YtgeomaeccalceaaMm
import Derived.Test.YtgeomaeccalceaaCno
import Derived.Deep.RegionLaw
import Derived.Deep.AppendLies
import Derived.Test.YtgeomaeccalceaaFit
import Derived.Test.YtgeomaeccalceaaBmx
/- Regions that draw their order and only read and call: the walk, operation by operation, in the class of all worlds in which what lay below is as it was. (As XVag's for draws alone.) -/
namespace Go.Proofs.Ytgeomaeccalceaa
open Go Go.RowKit Fl Vag
set_option linter.unusedVariables false
def CB (w w' : World) : Prop := Below w.heap.size w w'
theorem CB.drew (w : World) : CB w w.drew := (Below.refl _ _).drew
section
variable {P : Program} {ops : Array Oper} {Q : Act → Prop} {rest : List Oper} {a : Act} {w : World} {o : Oper}
theorem lexB_nil (h : Q a) : Lex P (CB w) ops Q [] a := h
theorem lexB_some (hg : o.guard = none) (V : Value → Prop) (hv : ∀ w', CB w w' → ∃ u m, (execOp a.eval o).run P w' = .ok (.value u) (w'.drewN m) ∧ V u) (h : ∀ u, V u → Lex P (CB w) ops Q rest (a.put o.dst u)) : Lex P (CB w) ops Q (o :: rest) a := by
  have hwn : Region.wanted o (yielded ops a.tmps) = true := by simp [Region.wanted, hg]
  refine ⟨fun _ w' hw' => ?_, fun u hu => ?_⟩
  · obtain ⟨u, m, hm, _⟩ := hv w' hw'
    exact ⟨u, by unfold Yat; rw [hm]; exact ⟨Bel_drewN hw' m, rfl⟩⟩
  · rcases hu with ⟨_, w', hw', hy⟩ | ⟨h0, _⟩
    · obtain ⟨u', m, hm, hV⟩ := hv w' hw'
      unfold Yat at hy
      rw [hm] at hy
      obtain ⟨_, rfl⟩ := hy
      exact h _ hV
    · rw [hwn] at h0; cases h0
theorem lexB_pure (hg : o.guard = none) {v : Value} {a' : Act} (hv : ∀ w', CB w w' → (execOp a.eval o).run P w' = .ok (.value v) w') (he : a.put o.dst v = a') (h : Lex P (CB w) ops Q rest a') : Lex P (CB w) ops Q (o :: rest) a :=
  lexB_some hg (fun u => u = v) (fun w' hw' => ⟨v, 0, by rw [World.drewN_zero]; exact hv w' hw', rfl⟩) (fun u hu => by subst hu; rw [he]; exact h)
theorem lexB_move (hg : o.guard = none) {x : Operand} {a' : Act} (hx : o.op = .move x ∨ o.op = .assign x) (he : a.put o.dst (a.eval x) = a') (h : Lex P (CB w) ops Q rest a') : Lex P (CB w) ops Q (o :: rest) a :=
  lexB_pure hg (fun w' _ => by rcases hx with hx | hx <;> simp [execOp, hx]) he h
/-- A call whose value is known but for what is drawn, in whatever of these worlds. -/
theorem lexB_calls (hg : o.guard = none) (f : FuncId) (args : Array Value) (V : Value → Prop) (hi : P.inits.idxOf? f = none) (hr : ∀ w', CB w w' → (execOp a.eval o).run P w' = .ok (.enter f args) w')
    (hc : ∀ w', CB w w' → ∃ v, V v ∧ Calls P f args w' fun e w'' => e = .returned v ∧ CB w w'') (h : ∀ v, V v → Lex P (CB w) ops Q rest (a.put o.dst v)) : Lex P (CB w) ops Q (o :: rest) a := by
  have hwn : Region.wanted o (yielded ops a.tmps) = true := by simp [Region.wanted, hg]
  refine ⟨fun _ w' hw' => ?_, fun u hu => ?_⟩
  · obtain ⟨v, _, hv⟩ := hc w' hw'
    exact ⟨v, by unfold Yat; rw [hr w' hw']; exact ⟨rfl, hi, hv⟩⟩
  · rcases hu with ⟨_, w', hw', hy⟩ | ⟨h0, _⟩
    · unfold Yat at hy
      rw [hr w' hw'] at hy
      obtain ⟨_, _, h2⟩ := hy
      obtain ⟨v, hV, hv⟩ := hc w' hw'
      rw [calls_one hi h2 hv]
      exact h v hV
    · rw [hwn] at h0; cases h0
theorem lexB_fn {dst : Option Tmp} {ty : TypeId} {pos : String} {af : Array Edge} {f : FuncId} {xs : Array Operand} {ts : Array TypeId} {args : Array Value} (v : Value) (hi : P.inits.idxOf? f = none)
    (hr : ∀ w', CB w w' → (execOp a.eval (⟨dst, .call { callee := .value (.func f), args := xs, argTypes := ts }, ty, pos, af, none⟩ : Oper)).run P w' = .ok (.enter f args) w')
    (hc : ∀ w', CB w w' → Calls P f args w' fun e w'' => e = .returned v ∧ CB w w'') {a' : Act} (he : a.put dst v = a') (h : Lex P (CB w) ops Q rest a') :
    Lex P (CB w) ops Q (⟨dst, .call { callee := .value (.func f), args := xs, argTypes := ts }, ty, pos, af, none⟩ :: rest) a :=
  lexB_calls rfl f args (fun u => u = v) hi hr (fun w' hw' => ⟨v, rfl, hc w' hw'⟩) (fun u hu => by subst hu; show Lex P (CB w) ops Q rest (a.put dst _); rw [he]; exact h)
theorem lexB_farith {dst : Option Tmp} {ty : TypeId} {pos : String} {af : Array Edge} (op : BinOp) (t : TypeId) (x y : Operand) (z : TypeId) (k : FloatKind) (bx by_ : Nat) (hx : a.eval x = .float k bx) (hy : a.eval y = .float k by_) (hop : Fl.isArith op = true)
    {f : Nat → Act} (he : ∀ r, a.put dst (.float k r) = f r) (h : ∀ r, Fl.Fv k (Fl.aop op k (Fl.av k bx) (Fl.av k by_)) r → Lex P (CB w) ops Q rest (f r)) :
    Lex P (CB w) ops Q (⟨dst, .binOp op t x y z, ty, pos, af, none⟩ :: rest) a := by
  refine lexB_some rfl (fun u => ∃ r, u = .float k r ∧ Fl.Fv k (Fl.aop op k (Fl.av k bx) (Fl.av k by_)) r) (fun w' _ => ?_) (fun u ⟨r, hu, hr⟩ => by subst hu; show Lex P (CB w) ops Q rest (a.put dst _); rw [he]; exact h r hr)
  obtain ⟨r, m, hrun, hr⟩ := Fl.run_farith (P := P) op k bx by_ w' hop
  refine ⟨.float k r, m, ?_, r, rfl, hr⟩
  have hb : binOp op t (.float k bx) (.float k by_) = Op.floatArith op k bx by_ := by
    cases op <;> simp [Fl.isArith] at hop <;> simp [binOp]
  have hg : ∀ w, (eqGuard op t x y (.float k bx) (.float k by_)).run P w = .ok () w := by
    intro w; cases op <;> simp [Fl.isArith] at hop <;> rfl
  simp [execOp, hx, hy, hb, hg, hrun]
end
/-- A cell of what lay below, in whatever of these worlds. -/
theorem CB.cell {w w' : World} (h : CB w w') {p : Addr} {v : Value} (hc : w.cell? p = some v) : w'.cell? p = some v := by
  rw [Below.cell h (World.block_lt_of_cell? _ _ hc)]; exact hc
theorem CB.cells {w w' : World} (h : CB w w') {g : Nat} {t : TypeId} {cs : Array Value} (hw : Whole w g t cs) : (∀ o, w'.cell? ⟨g, o, none⟩ = cs[o]?) ∧ (∀ o, w'.frozen? ⟨g, o, none⟩ = false) := (hw.below h).facts
end Go.Proofs.Ytgeomaeccalceaa
/- chainOf of the code, a copy for each closure (written by chgen.py). -/
namespace Go.Proofs.Ytgeomaeccalceaa
open Go Go.RowKit Fl Vag
set_option linter.unusedVariables false
/-- A call of a Go function at a step of a region that draws its order: for go_region_law. -/
theorem step_calls {P : Program} {ops : Array Oper} {o : Oper} {a : Act} {w : World} {K : Act → World → Prop} {Q : Exit → Act → World → Prop} {E : Prop} (hgd : o.guard = none) (f : FuncId) (args : Array Value)
    (hr : (execOp a.eval o).run P w = .ok (.enter f args) w) {R : Value → World → Prop} (hc : Calls P f args w fun e w' => ∃ v, e = .returned v ∧ R v w')
    (h : ∀ v w', R v w' → K (a.put o.dst v) w') : if Region.wanted o (yielded ops a.tmps) = true then Oper.wp P o a w K Q else E := by
  have hw : Region.wanted o (yielded ops a.tmps) = true := by simp [Region.wanted, hgd]
  rw [if_pos hw]
  unfold Oper.wp
  rw [hr]
  refine hc.mono ?_
  rintro e w' ⟨v, rfl, hR⟩
  exact h v w' hR
/-- What a closure tells: a number of the told value, in memory that grows alone. -/
def CloR (G : Option Nat) (w : World) (e : Ending) (w' : World) : Prop := ∃ r, e = .returned (.float .f32 r) ∧ av .f32 r = G ∧ Below w.heap.size w w'
theorem sq_pos {i n k : Nat} (hi : i < n) (hk : k < n) : i * n + k < n * n := by have := row_in hi; omega
end Go.Proofs.Ytgeomaeccalceaa
/- chainOf of the code with the closure WeighChain$1 (written by chgen.py). -/
namespace Go.Proofs.Ytgeomaeccalceaa
open Go Go.RowKit Fl Vag
set_option linter.unusedVariables false
set_option maxRecDepth 100000 in
set_option maxHeartbeats 4000000 in
theorem chainOf_WeighChain (n : Nat) (G : Nat → Option Nat) (g0 g1 : Nat) (w : World) (hn1 : 1 ≤ n) (hn : n ≤ 12)
    (hG : ∀ i k, i < n → k < n → ∀ v, Below w.heap.size w v → Calls Try.prog 97 #[.int .i64 i, .int .i64 k, .pointer (some ⟨g0, 0, none⟩), .pointer (some ⟨g1, 0, none⟩)] v (CloR (G (i * n + k)) v)) :
    Calls Try.prog 96 #[.int .i64 n, .func (.func 97) #[] #[.pointer (some ⟨g0, 0, none⟩), .pointer (some ⟨g1, 0, none⟩)]] w (ChR n (n * n) G w) := by
  have HG := Lib.hid hG
  have hn12 : (n : Int) ≤ 12 := by omega
  obtain ⟨i8, hi8, hi1, hi2, hi3⟩ := info_parts (show (Try.prog.info? 47).map (fun i => (i.zero, i.size, i.bytes)) = some (some (.float .f32 0), 1, 4) by kernel_rfl)
  have HI := Lib.hid (And.intro hi8 (And.intro hi1 (And.intro hi2 hi3)))
  clear hi8 hi1 hi2 hi3 hG
  go_enter Try.func96, Try.ntmps96
  go_wp2_with fail
  generalize hW : World.alloc (World.alloc _ _) _ = w0
  have H0 : Hid (Whole w0 w.heap.size 34 #[.int .i64 0, .slice none 0 0] ∧ Whole w0 (w.heap.size + 1) 34 #[.int .i64 n, .slice none 0 0] ∧ Below w.heap.size w w0 ∧ w0.heap.size = w.heap.size + 2) := Lib.hid (by rw [← hW]; exact ⟨(Whole.made _ _ _).alloc _, Whole.made2 _ _ _ _, (by repeat (first | with_reducible exact Below.refl _ _ | with_reducible exact HBL | with_reducible refine Below.drew ?_ | with_reducible refine Bel_drewN ?_ _ | with_reducible refine Below.alloc ?_ (by first | omega | (simp; done) | (simp; omega)) _ | with_reducible refine Below.setCell ?_ (by first | omega | (simp; done) | (simp; omega)) _)), by simp⟩)
  clear hW
  go_loopw [12] (fun i wr => ∃ (k : Nat) (v : Value) (ds : List Nat), k ≤ n ∧ i = .int .i64 k ∧ ds.length = k * n ∧ (∀ j, j < k * n → av .f32 (ds[j]?.getD 0) = G j) ∧ wr.ownsRow (w.heap.size + 2) 47 1 v (k * n) (fl .f32 ds) ∧ Whole wr w.heap.size 34 #[.int .i64 0, .slice none 0 0] ∧ Whole wr (w.heap.size + 1) 34 #[.int .i64 n, v] ∧ Below w.heap.size w wr) (fun i _ => n - (intOf i).toNat)
  case atStart => exact ⟨0, _, [], Nat.zero_le _, rfl, by simp, fun j hj => absurd hj (by simp), by rw [Nat.zero_mul]; exact World.ownsRow_nil _ _ _ _, H0.out.1, H0.out.2.1, H0.out.2.2.1⟩
  case round =>
    obtain ⟨k, v, ds, hk, rfl, hdl, hds, hown, q0, q1, hbel⟩ := hrel
    have H := Lib.hid (And.intro hdl (And.intro hds (And.intro hown (And.intro q0 (And.intro q1 hbel)))))
    have hkn : (k : Int) ≤ n := by omega
    have hz := q1.lt
    clear hdl hds hown hbel H0
    by_cases hlt : k < n
    · have hlt' : (k : Int) < n := by omega
      clear q0 q1
      go_wp2_with fail
      rename World => wa
      go_loopw [16] (fun i wr => ∃ (j : Nat) (v : Value) (ds : List Nat), j ≤ n ∧ i = .int .i64 j ∧ ds.length = k * n + j ∧ (∀ t, t < k * n + j → av .f32 (ds[t]?.getD 0) = G t) ∧ wr.ownsRow (w.heap.size + 2) 47 1 v (k * n + j) (fl .f32 ds) ∧ Whole wr w.heap.size 34 #[.int .i64 0, .slice none 0 0] ∧ Whole wr (w.heap.size + 1) 34 #[.int .i64 n, v] ∧ Below w.heap.size w wr) (fun i _ => n - (intOf i).toNat)
      case atStart => exact ⟨0, v, ds, Nat.zero_le _, rfl, H.out⟩
      case round =>
        obtain ⟨j, v2, es, hj, rfl, hdl, hds, hown, q0, q1, hbel⟩ := hrel
        have H2 := Lib.hid (And.intro hdl (And.intro hds (And.intro hown (And.intro q0 (And.intro q1 hbel)))))
        have hjn : (j : Int) ≤ n := by omega
        have hz2 := q1.lt
        clear hz H hbel hown hdl hds
        by_cases hlt2 : j < n
        · have hlt2' : (j : Int) < n := by omega
          obtain ⟨hc1, hf1⟩ := q1.facts
          have HC : Hid (∀ v, Below wr.heap.size wr v → Calls Try.prog 97 #[.int .i64 k, .int .i64 j, .pointer (some ⟨g0, 0, none⟩), .pointer (some ⟨g1, 0, none⟩)] v (fun e w' => ∃ u, e = .returned u ∧ ∃ r, u = .float .f32 r ∧ av .f32 r = G (k * n + j) ∧ Below wr.heap.size wr w')) := Lib.hid (fun v hv => (HG.out k j hlt hlt2 v (Bel_next H2.out.2.2.2.2.2 hv)).mono fun e w' ⟨r, he, hr, hb⟩ => ⟨_, he, r, rfl, hr, Bel_next hv hb⟩)
          have hkj : k * n + j < 144 := by have h1 := sq_pos hlt hlt2; have h2 := sq_le hn; omega
          have HA : Hid (∀ (v : World) (r : Nat), Below wr.heap.size wr v → (v.alloc (.cells #[.float .f32 r] 47)).ownsRow (w.heap.size + 2) 47 1 v2 (k * n + j) (fl .f32 es) ∧ (∀ (j : Nat) (u : Value), [Value.float .f32 r][j]? = some u → (v.alloc (.cells #[.float .f32 r] 47)).cell? ((⟨v.heap.size, 0, none⟩ : Addr).add j) = some u) ∧ (∀ u ∈ [Value.float .f32 r], u.oneCell' = true) ∧ w.heap.size + 2 ≤ (v.alloc (.cells #[.float .f32 r] 47)).heap.size ∧ (v.alloc (.cells #[.float .f32 r] 47)).heap.size = v.heap.size + 1) := Lib.hid (fun v r hv => ⟨(H2.out.2.2.1.kept (grown_below (row := none) hv) (by cases v2.ownBlock <;> simp)).alloc _, World.news_of_block (Whole.made v 47 #[.float .f32 r]), (by intro u hu; rw [List.mem_singleton] at hu; subst hu; rfl), (by have := hv.size; simp; omega), (by simp)⟩)
          obtain ⟨q, hq⟩ : ∃ q, q = k * n + j := ⟨_, rfl⟩
          rw [← hq] at HA HC hkj
          have HQ := Lib.hid hq
          have hq1 : q + 1 ≤ maxLen := by unfold maxLen; omega
          have hq2 : (q + 1) * 4 ≤ 140737488355328 := by omega
          clear hq
          go_wp2_with fail
          go_region_law (first
            | (refine step_calls rfl 97 #[.int .i64 k, .int .i64 j, .pointer (some ⟨g0, 0, none⟩), .pointer (some ⟨g1, 0, none⟩)] (by first | (go_simp; done) | (go_simp; rfl)) (HC.out _ ((Below.refl _ _).drew)) ?_; rintro u5 w5 ⟨r, rfl, hr5, hb5⟩; have hA5 := HA.out w5 r hb5; obtain ⟨hc5, hf5⟩ := (q1.below hb5).facts; have hz5 := hb5.size; obtain ⟨hc6, hf6⟩ := ((q1.below hb5).alloc (.cells #[.float .f32 r] 47)).facts)
            | (refine step_append_lies (w5.alloc (.cells #[.float .f32 r] 47)) rfl (.tmp 20) (.tmp 25) 25 rfl (w.heap.size + 2) 47 i8 (.float .f32 0) 1 4 Try.underlying25 HI.out.1 HI.out.2.1 HI.out.2.2.1 HI.out.2.2.2 rfl (by decide) v2 q (fl .f32 es) (by simp [Act.eval]) hA5.1 ⟨w5.heap.size, 0, none⟩ 1 1 [.float .f32 r] (by simp [Act.eval]) rfl hA5.2.1 hA5.2.2.1 (by decide) hq1 hq2 hA5.2.2.2.1 (w5.heap.size + 1) hA5.2.2.2.2 ?_; intro g cap w' hown' hgr' hv' hlt'; obtain ⟨hc7, hf7⟩ := (((q1.below hb5).alloc (.cells #[.float .f32 r] 47)).grown hgr' (own_ne' (H2.out.2.2.1) (by omega))).facts))
          all_goals
            have q7 := ((q1.below hb5).alloc (.cells #[.float .f32 r] 47)).grown hgr' (own_ne' (H2.out.2.2.1) (by omega))
            have q6 := ((q0.below hb5).alloc (.cells #[.float .f32 r] 47)).grown hgr' (own_ne' (H2.out.2.2.1) (by omega))
            have b7 : Below w.heap.size w w' := by
              have h0 := H2.out.2.2.2.2.2.size
              have h1 : Below w.heap.size w (w5.alloc (.cells #[.float .f32 r] 47)) := (Bel_next H2.out.2.2.2.2.2 hb5).alloc (by omega) _
              exact h1.grown hgr' (by simp; omega) (fun i hi => by have := own_ge H2.out.2.2.1 i hi; omega)
            have o7 : w'.ownsRow (w.heap.size + 2) 47 1 (.slice (some ⟨g, 0, none⟩) (q + 1) cap) (q + 1) (fl .f32 (es ++ [r])) := by rw [fl, List.map_append]; exact hown'
            have o8 := o7.kept (grown_set w' (w.heap.size + 1) 1 (.slice (some ⟨g, 0, none⟩) (q + 1) cap)) (own_ne o7 (by omega))
            have h7 : w.heap.size + 1 < w'.heap.size := q7.lt
            have H8 := Lib.hid (And.intro o8 (And.intro (q6.far (p := ⟨w.heap.size + 1, 1, none⟩) (by simp) (.slice (some ⟨g, 0, none⟩) (q + 1) cap)) (And.intro (q7.put 1 (.slice (some ⟨g, 0, none⟩) (q + 1) cap)) (b7.setCell (p := ⟨w.heap.size + 1, 1, none⟩) (by simp) (.slice (some ⟨g, 0, none⟩) (q + 1) cap)))))
            have HR := Lib.hid hr5
            clear q7 q6 b7 o7 o8 hc7 hf7 hv' hlt' hgr' hown' hc6 hf6 hc5 hf5 hA5 hb5 hr5 hz5 h7
            go_wp2_with fail
            go_roundw
            case rel =>
              refine ⟨j + 1, .slice (some ⟨g, 0, none⟩) (q + 1) cap, es ++ [r], by omega, by go_num, by rw [List.length_append, H2.out.1]; rfl, fun t ht => ?_, by rw [← Nat.add_assoc, ← HQ.out]; exact H8.out.1, H8.out.2.1, H8.out.2.2.1, H8.out.2.2.2⟩
              by_cases e : t = k * n + j
              · subst e
                rw [List.getElem?_append_right (by rw [H2.out.1]; exact Nat.le_refl _), H2.out.1, Nat.sub_self, ← HQ.out]
                exact HR.out
              · rw [List.getElem?_append_left (by rw [H2.out.1]; omega)]
                exact H2.out.2.1 t (by omega)
            case measure => simp [intOf]; omega
        · obtain rfl : j = n := by omega
          clear q0 q1
          go_wp2_with fail
          go_roundw
          case rel => exact ⟨k + 1, v2, es, by omega, by go_num, by rw [Nat.succ_mul]; exact H2.out.1, by rw [Nat.succ_mul]; exact H2.out.2.1, by rw [Nat.succ_mul]; exact H2.out.2.2.1, H2.out.2.2.2⟩
          case measure => simp [intOf]; omega
    · obtain rfl : k = n := by omega
      obtain ⟨m, hm⟩ : ∃ m, m = k * k := ⟨_, rfl⟩
      obtain ⟨hdl, hds, hown, _, _, hbel⟩ := H.out
      rw [← hm] at hdl hds hown
      have hml : m ≤ 1048576 := by have := sq_le hn; omega
      obtain ⟨ao', cc', rfl⟩ := own_form hown
      have hcap := own_cap hown
      have HD := Lib.hid (And.intro hdl (And.intro hds (And.intro (Row.of_own hown) hbel)))
      have HAL := Lib.hid (canL_of hdl hds)
      obtain ⟨hc1, hf1⟩ := q1.facts
      rw [← hm]
      have HM := Lib.hid hm
      have Q0 := Lib.hid (And.intro q0 q1)
      clear hdl hds hown hbel H hm q0 q1
      go_wp2_with (first | (go_at_call 68; fail))
      refine (implValidChain_any k ds m HD.out.1 ao' cc' _ HD.out.2.2.1.holds hml hcap).mono ?_
      rintro e w5 ⟨bf, rfl, hbf, hb5⟩
      have HB := Lib.hid hbf
      have r0 := Q0.out.1.below hb5
      have r1 := Q0.out.2.below hb5
      obtain ⟨hc5, hf5⟩ := r0.facts
      obtain ⟨hc6, hf6⟩ := r1.facts
      have HBL := Bel_next HD.out.2.2.2 hb5
      have HRW := Lib.hid (HD.out.2.2.1.below hb5)
      have hz5 := hb5.size
      have hz6 := r0.lt
      clear hbf hc1 hf1 hb5
      cases bf with
      | true =>
        have hk := HB.out.1 rfl
        have HE := Lib.hid (And.intro (HAL.out.chain hk) (HAL.out.eq hk))
        clear hk
        go_wp2_with fail
        obtain rfl := HM.out
        refine bodyPost_ret (v := .tuple #[.agg #[.int .i64 k, .slice ao' (k * k) cc'], .bool true]) (by simp [results, Try.results96, go_sem, hc5]) rfl (.inl ⟨HE.out.1, ao', cc', rfl, ?_, (by repeat (first | with_reducible exact Below.refl _ _ | with_reducible exact HBL | with_reducible refine Below.drew ?_ | with_reducible refine Bel_drewN ?_ _ | with_reducible refine Below.alloc ?_ (by first | omega | (simp; done) | (simp; omega)) _ | with_reducible refine Below.setCell ?_ (by first | omega | (simp; done) | (simp; omega)) _))⟩)
        rw [← HE.out.2]
        exact ((((HRW.out.far (.inl (by simp)) _).far (.inl (by simp)) _)).wide (by omega) (by simp; omega))
      | false =>
        have HE := Lib.hid (show ¬ isChain k (canL m G) from fun h => by have := HB.out.2 (HAL.out.symm.chain h); cases this)
        go_wp2_with fail
        obtain rfl := HM.out
        exact bodyPost_ret (v := .tuple #[.agg #[.int .i64 0, .slice none 0 0], .bool false]) (by simp [results, Try.results96, go_sem, hc5]) rfl (.inr ⟨HE.out, rfl, (by repeat (first | with_reducible exact Below.refl _ _ | with_reducible exact HBL | with_reducible refine Below.drew ?_ | with_reducible refine Bel_drewN ?_ _ | with_reducible refine Below.alloc ?_ (by first | omega | (simp; done) | (simp; omega)) _ | with_reducible refine Below.setCell ?_ (by first | omega | (simp; done) | (simp; omega)) _))⟩)
end Go.Proofs.Ytgeomaeccalceaa
/- Rows of numbers greater than 0: both sides. -/
namespace Go.Proofs.Ytgeomaeccalceaa
open Go Go.RowKit Fl Vag
set_option linter.unusedVariables false

/-- The lesser one of two numbers. -/
def minF (x y : Nat) : Nat := if fK x < fK y then x else if fK y < fK x then y else if (Ieee.single.read x).neg then x else y
theorem minF_run {P : Program} {x y : Nat} (hx : av .f32 x = some x) (hy : av .f32 y = some y) (ts : Array TypeId) (t : TypeId) (w : World) : (Builtin.min_ ts t #[.float .f32 x, .float .f32 y]).run P w = .ok (.float .f32 (minF x y)) w := by
  have ho := order_K hx hy
  unfold minF
  rcases Int.lt_trichotomy (fK x) (fK y) with e | e | e
  · rw [if_pos e]
    have ho' : FloatKind.f32.format.order x y = some .lt := by rw [ho, compare_int, if_pos e]
    simp [Builtin.min_, Builtin.min2, ho']
  · rw [if_neg (by omega), if_neg (by omega)]
    have ho' : FloatKind.f32.format.order x y = some .eq := by rw [ho, compare_int, if_neg (by omega), if_pos e]
    have hd : (FloatKind.f32.decode x).neg = (Ieee.single.read x).neg := rfl
    cases hn : (Ieee.single.read x).neg with
    | true => rw [hn] at hd; simp [Builtin.min_, Builtin.min2, ho', hd]
    | false => rw [hn] at hd; simp [Builtin.min_, Builtin.min2, ho', hd]
  · rw [if_neg (by omega), if_pos e]
    have ho' : FloatKind.f32.format.order x y = some .gt := by rw [ho, compare_int, if_neg (by omega), if_neg (by omega)]
    simp [Builtin.min_, Builtin.min2, ho']
theorem minF_or (x y : Nat) : (minF x y = x ∧ fK x ≤ fK y) ∨ (minF x y = y ∧ fK y ≤ fK x) := by
  unfold minF
  split
  · exact .inl ⟨rfl, by omega⟩
  · split
    · exact .inr ⟨rfl, by omega⟩
    · split
      · exact .inl ⟨rfl, by omega⟩
      · exact .inr ⟨rfl, by omega⟩
theorem av_zero32 : av .f32 0 = some 0 := by decide +kernel
theorem gt0_K {x : Nat} (hx : av .f32 x = some x) : gtB x 0 = decide (fK 0 < fK x) := gtB_K hx av_zero32
theorem minF_gt {x y : Nat} (hx : av .f32 x = some x) (hy : av .f32 y = some y) : gtB (minF x y) 0 = true ↔ gtB x 0 = true ∧ gtB y 0 = true := by
  rcases minF_or x y with ⟨e, h⟩ | ⟨e, h⟩
  · rw [e, gt0_K hx, gt0_K hy]; simp; omega
  · rw [e, gt0_K hx, gt0_K hy]; simp; omega
def gts (xs : List Nat) (k : Nat) : Prop := ∀ i, i < k → gtB (xs[i]?.getD 0) 0 = true
theorem gts_next {xs : List Nat} {k : Nat} : gts xs (k + 1) ↔ gts xs k ∧ gtB (xs[k]?.getD 0) 0 = true := by
  refine ⟨fun h => ⟨fun i hi => h i (by omega), h k (by omega)⟩, fun h i hi => ?_⟩
  by_cases e : i = k
  · subst e; exact h.2
  · exact h.1 i (by omega)
/-- The chain is valid, and the row one of weights for it. -/
def weighed (s : Int) (ss xs : List Nat) : Prop := fits s ss xs ∧ gts xs xs.length
set_option maxRecDepth 100000 in
set_option maxHeartbeats 1000000 in
theorem minOf_any (xs : List Nat) (n : Nat) (hn : xs.length = n) (ao : Option Addr) (c : Nat) (w : World) (hx : Holds w ao (fl .f32 xs)) (h1 : 1 ≤ n) (hlen : n ≤ 1048576) (hf : fins xs) :
    Calls Try.prog 128 #[.slice ao n c] w (fun e w' => ∃ r, e = .returned (.float .f32 r) ∧ (gtB r 0 = true ↔ gts xs n) ∧ w = w') := by
  obtain ⟨b, o, rfl⟩ := hx.at (by rw [fl_len32]; omega)
  have HX := Lib.hid (And.intro hx (And.intro hn hf))
  obtain ⟨b', o', e', hc0⟩ := hx 0 (by rw [fl_len32]; omega)
  cases e'
  rw [fl_get _ _ _ (by omega)] at hc0
  rw [Nat.add_zero] at hc0
  have H0 : Hid (av .f32 (xs[0]?.getD 0) = some (xs[0]?.getD 0) ∧ (gtB (xs[0]?.getD 0) 0 = true ↔ gts xs 1)) := Lib.hid ⟨fin_self (hf 0 (by omega)), ⟨fun h i hi => (by obtain rfl : i = 0 := (by omega); exact h), fun h => h 0 (by omega)⟩⟩
  generalize xs[0]?.getD 0 = x0 at hc0 H0
  have h1' : (1 : Int) ≤ n := by omega
  clear hx hn hf
  go_enter Try.func128, Try.ntmps128
  go_wp2_with fail
  go_loopw [3, 4] (fun v i wr => ∃ (k m : Nat), 1 ≤ k ∧ k ≤ n ∧ i = .int .i64 k ∧ v = .float .f32 m ∧ av .f32 m = some m ∧ (gtB m 0 = true ↔ gts xs k) ∧ wr = w) (fun _ i _ => n - (intOf i).toNat)
  case atStart => exact ⟨1, x0, Nat.le_refl _, h1, rfl, rfl, H0.out.1, H0.out.2, rfl⟩
  case round =>
    obtain ⟨k, m, hk1, hk, rfl, rfl, hav, hgt, rfl⟩ := hrel
    have HM := Lib.hid (And.intro hav hgt)
    have hkn : (k : Int) ≤ n := by omega
    clear hav hgt hc0 H0
    by_cases hlt : k < n
    · have hlt' : (k : Int) < n := by omega
      obtain ⟨b', o', e', hc⟩ := HX.out.1 k (by rw [fl_len32, HX.out.2.1]; exact hlt)
      cases e'
      rw [fl_get _ _ _ (by rw [HX.out.2.1]; exact hlt)] at hc
      have HV := Lib.hid (show av .f32 (xs[k]?.getD 0) = some (xs[k]?.getD 0) from fin_self (HX.out.2.2 k (by rw [HX.out.2.1]; exact hlt)))
      have HG : Hid (gts xs (k + 1) ↔ gts xs k ∧ gtB (xs[k]?.getD 0) 0 = true) := Lib.hid gts_next
      generalize xs[k]?.getD 0 = x at hc HV HG
      have hmin : ∀ ts t w, (Builtin.min_ ts t #[.float .f32 m, .float .f32 x]).run Try.prog w = .ok (.float .f32 (minF m x)) w := fun ts t w => minF_run HM.out.1 HV.out ts t w
      have HR : Hid (av .f32 (minF m x) = some (minF m x) ∧ (gtB (minF m x) 0 = true ↔ gts xs (k + 1))) := Lib.hid ⟨by
        rcases minF_or m x with ⟨e, _⟩ | ⟨e, _⟩
        · rw [e]; exact HM.out.1
        · rw [e]; exact HV.out, by rw [minF_gt HM.out.1 HV.out, HG.out, HM.out.2]⟩
      generalize minF m x = r at hmin HR
      go_wp2_with fail
      go_roundw
      case rel => exact ⟨k + 1, r, by omega, by omega, by go_num, rfl, HR.out.1, HR.out.2, trivial⟩
      case measure => simp [intOf]; omega
    · obtain rfl : k = n := by omega
      go_wp2_with fail
      go_ret
      exact ⟨m, rfl, HM.out.2, rfl⟩
set_option maxRecDepth 100000 in
set_option maxHeartbeats 1000000 in
theorem isWeighed_any (s : Int) (ss xs : List Nat) (m k : Nat) (hm : ss.length = m) (hk : xs.length = k) (ao bo : Option Addr) (c d : Nat) (w : World) (hs : Holds w ao (fl .f32 ss)) (hx : Holds w bo (fl .f32 xs)) (hlen : m ≤ 1048576) (hlk : k ≤ 1048576) (hc : m ≤ c) :
    Calls Try.prog 95 #[.agg #[.int .i64 s, .slice ao m c], .slice bo k d] w (Bo (weighed s ss xs) w) := by
  have HX := Lib.hid (And.intro hs (And.intro hx (And.intro hm hk)))
  have hc0 : Whole (w.alloc (.cells #[.int .i64 s, .slice ao m c] 34)) w.heap.size 34 #[.int .i64 s, .slice ao m c] := Whole.made _ _ _
  have H0 : Hid (ChBox w (w.alloc (.cells #[.int .i64 s, .slice ao m c] 34)) s ao m c) := Lib.hid ⟨hc0, (by repeat (first | with_reducible exact Below.refl _ _ | with_reducible exact HBL | with_reducible refine Below.drew ?_ | with_reducible refine Bel_drewN ?_ _ | with_reducible refine Below.alloc ?_ (by first | omega | (simp; done) | (simp; omega)) _ | with_reducible refine Below.setCell ?_ (by first | omega | (simp; done) | (simp; omega)) _))⟩
  clear hs hx hm hk hc0
  go_enter Try.func95, Try.ntmps95
  go_wp2_with (first | (go_at_call 85; fail))
  refine (isChainWith_any s ss xs m k HX.out.2.2.1 HX.out.2.2.2 ao bo c d _ (HX.out.1.below H0.out.2) (HX.out.2.1.below H0.out.2) hlen hlk hc).mono ?_
  rintro e w1 ⟨b, rfl, hb, hw1⟩
  have H1 := Lib.hid (And.intro hb (Bel_next H0.out.2 hw1))
  clear hb hw1 H0
  cases b with
  | false =>
    go_wp2_with (first | (go_at_call 128; fail))
    go_ret
    exact Bo.mk _ (falseIs fun h => by have := H1.out.1.2 h.1; cases this) H1.out.2
  | true =>
    have hfit := H1.out.1.1 rfl
    have HF := Lib.hid hfit
    have hk1 : 1 ≤ k := by have := hfit.2.1.1.1; have := HX.out.2.2.2; omega
    clear hfit
    go_wp2_with (first | (go_at_call 128; fail))
    refine (minOf_any xs k HX.out.2.2.2 bo d _ (HX.out.2.1.below H1.out.2) hk1 hlk (least_fins HF.out.2.1.2)).mono ?_
    rintro e w' ⟨r, rfl, hr, rfl⟩
    have HR := Lib.hid hr
    clear hr
    cases hg : gtB r 0 with
    | true =>
      have hg' := gt_factB hg
      have HG := Lib.hid (HR.out.1 hg)
      clear hg
      go_wp2_with fail
      go_ret
      exact Bo.mk _ ⟨fun _ => ⟨HF.out, by rw [HX.out.2.2.2]; exact HG.out⟩, fun _ => rfl⟩ H1.out.2
    | false =>
      have hg' := gt_factB hg
      have HG := Lib.hid (show ¬ gts xs k from fun h => by have := HR.out.2 h; rw [hg] at this; cases this)
      clear hg
      go_wp2_with fail
      go_ret
      exact Bo.mk _ (falseIs fun h => HG.out (by have := h.2; rw [HX.out.2.2.2] at this; exact this)) H1.out.2
set_option maxRecDepth 100000 in
theorem l07Above_any (xs : List Nat) (n : Nat) (hn : xs.length = n) (ao : Option Addr) (c : Nat) (w : World) (hx : Holds w ao (fl .f32 xs)) (hlen : n ≤ 1048576) :
    Calls Try.prog 93 #[.slice ao n c] w (BoS (gts xs xs.length) w) := by
  subst hn
  have HX := Lib.hid hx
  clear hx
  go_enter Try.func93, Try.ntmps93
  go_wp2
  go_loopw [6] (fun i wr => ∃ k : Nat, k ≤ xs.length ∧ i = .int .i64 k ∧ gts xs k ∧ wr = w) (fun i _ => xs.length - (intOf i).toNat)
  case atStart => exact ⟨0, Nat.zero_le _, rfl, fun j hj => absurd hj (Nat.not_lt_zero _), rfl⟩
  case round =>
    obtain ⟨k, hk, rfl, hall, rfl⟩ := hrel
    have HA := Lib.hid hall
    clear hall
    by_cases hlt : k < xs.length
    · obtain ⟨b, o, rfl, hc⟩ := HX.out k (by simpa [fl] using hlt)
      rw [fl_get _ _ _ hlt] at hc
      obtain ⟨x, hx⟩ : ∃ x, x = xs[k]?.getD 0 := ⟨_, rfl⟩
      rw [← hx] at hc
      have HE := Lib.hid hx
      clear hx
      cases hf : gtB x 0 with
      | true =>
        have HF := Lib.hid hf
        have hf' := gt_factB hf
        clear hf
        go_wp2
        go_roundw
        case rel => exact ⟨k + 1, by omega, by go_num, gts_next.2 ⟨HA.out, by rw [← HE.out]; exact HF.out⟩, trivial⟩
        case measure => simp [intOf]; omega
      | false =>
        have HF := Lib.hid hf
        have hf' := gt_factB hf
        clear hf
        go_wp2
        go_ret
        refine BoS.mk _ (falseIs fun h => ?_)
        have := h k hlt
        rw [← HE.out, HF.out] at this
        cases this
    · obtain rfl : k = xs.length := by omega
      go_wp2
      go_ret
      exact BoS.mk _ ⟨fun _ => HA.out, fun _ => rfl⟩
end Go.Proofs.Ytgeomaeccalceaa
/- WeighChain: its numbers; sums that are never -0. -/
namespace Go.Proofs.Ytgeomaeccalceaa
open Go Go.RowKit Fl Vag
set_option linter.unusedVariables false
/-- None, or a word that is not -0. -/
def good (v : Option Nat) : Prop := ∀ b, v = some b → ∃ s r, b = Ieee.single.word s r ∧ r ≤ Ieee.single.infRung ∧ (s = true → r ≠ 0)
theorem good_none : good none := fun b h => by cases h
theorem good_zero : good (some 0) := fun b h => by cases h; exact ⟨false, 0, by decide +kernel, by decide, fun h => by cases h⟩
theorem vk_oneR : vk 1 = 1 ∧ vk 0 = 0 := by decide +kernel
theorem write_good (z : Bool) (m e : Nat) (hz : m = 0 → z = false) : ∃ s r, Ieee.single.nearest z m (-149 + (e : Int)) = Ieee.single.word s r ∧ r ≤ Ieee.single.infRung ∧ (s = true → r ≠ 0) := by
  have hlp : (-149 : Int) = -(K0 : Int) + (lp Ieee.single : Int) := single_least.symm.trans (show Ieee.single.leastPlace = -(K0 : Int) + (lp Ieee.single : Int) from lp_least .f32)
  by_cases h0 : m = 0
  · rw [h0, hz h0]
    exact ⟨false, 0, by unfold Ieee.Format.nearest; rw [if_pos rfl], by decide, fun h => by cases h⟩
  · have hf2 : Ieee.single.fractionBits ≤ e + lp Ieee.single := by have : Ieee.single.fractionBits ≤ lp Ieee.single := by decide
                                                                   omega
    obtain ⟨b, e3, e4, e5⟩ := nearest_ge Ieee.single z m (-(K0 : Int)) (e + lp Ieee.single) (lp Ieee.single) 1 (lp_least .f32) hf2 (by decide) (by
      have h1 : magOf Ieee.single 1 * 2 ^ (placeOf Ieee.single 1 + lp Ieee.single) = vk 1 * 2 ^ lp Ieee.single := by unfold vk; rw [Nat.pow_add, Nat.mul_assoc]
      rw [h1, vk_oneR.1, Nat.one_mul, Nat.pow_add, ← Nat.mul_assoc]
      exact Nat.le_mul_of_pos_left _ (Nat.mul_pos (by omega) (Nat.two_pow_pos _)))
    have hb : -149 + (e : Int) = -(K0 : Int) + ((e + lp Ieee.single : Nat) : Int) := by rw [hlp]; omega
    exact ⟨z, b, by rw [hb]; exact e5, e4, fun _ => Nat.ne_of_gt e3⟩
theorem signed_false (m u : Nat) : Ieee.signed false m u = ((m * 2 ^ u : Nat) : Int) := by unfold Ieee.signed; rw [Nat.shiftLeft_eq]; rfl
theorem signed_true (m u : Nat) : Ieee.signed true m u = -((m * 2 ^ u : Nat) : Int) := by unfold Ieee.signed; rw [Nat.shiftLeft_eq]; rfl
theorem signed_zero {s : Bool} {m u : Nat} (h : Ieee.signed s m u = 0) : m = 0 := by
  have : m * 2 ^ u = 0 := by
    cases s with
    | true => rw [signed_true] at h; omega
    | false => rw [signed_false] at h; omega
  rcases Nat.mul_eq_zero.1 this with h1 | h1
  · exact h1
  · exact absurd h1 (Nat.ne_of_gt (Nat.two_pow_pos _))
theorem signed_le {m u : Nat} : Ieee.signed true m u ≤ 0 := by rw [signed_true]; omega
theorem sum_good {s t : Bool} {m k : Nat} {p q : Nat} (h : s = true → t = true → m ≠ 0 ∨ k ≠ 0) : ∃ z r, ((Ieee.Datum.number s m (-149 + (p : Int))).sum (Ieee.Datum.number t k (-149 + (q : Int)))).map Ieee.single.write = some (Ieee.single.word z r) ∧ r ≤ Ieee.single.infRung ∧ (z = true → r ≠ 0) := by
  have q1 : (Ieee.Datum.number s m (-149 + (p : Int))).sum (Ieee.Datum.number t k (-149 + (q : Int))) = some (.number (if Ieee.signed s m (-149 + (p : Int) - min (-149 + (p : Int)) (-149 + (q : Int))).toNat + Ieee.signed t k (-149 + (q : Int) - min (-149 + (p : Int)) (-149 + (q : Int))).toNat = 0 then s && t else decide (Ieee.signed s m (-149 + (p : Int) - min (-149 + (p : Int)) (-149 + (q : Int))).toNat + Ieee.signed t k (-149 + (q : Int) - min (-149 + (p : Int)) (-149 + (q : Int))).toNat < 0)) (Ieee.signed s m (-149 + (p : Int) - min (-149 + (p : Int)) (-149 + (q : Int))).toNat + Ieee.signed t k (-149 + (q : Int) - min (-149 + (p : Int)) (-149 + (q : Int))).toNat).natAbs (min (-149 + (p : Int)) (-149 + (q : Int)))) := rfl
  rw [q1, show min (-149 + (p : Int)) (-149 + (q : Int)) = -149 + ((min p q : Nat) : Int) by omega]
  generalize (-149 + (p : Int) - (-149 + ((min p q : Nat) : Int))).toNat = a
  generalize (-149 + (q : Int) - (-149 + ((min p q : Nat) : Int))).toNat = b
  obtain ⟨z, r, h1, h2, h3⟩ := write_good (if Ieee.signed s m a + Ieee.signed t k b = 0 then s && t else decide (Ieee.signed s m a + Ieee.signed t k b < 0)) (Ieee.signed s m a + Ieee.signed t k b).natAbs (min p q) (fun h0 => by
    rw [if_pos (by omega)]
    cases s with
    | false => rfl
    | true =>
      cases t with
      | false => rfl
      | true =>
        exfalso
        have g1 := signed_le (m := m) (u := a)
        have g2 := signed_le (m := k) (u := b)
        rcases h rfl rfl with e | e
        · exact e (signed_zero (s := true) (u := a) (by omega))
        · exact e (signed_zero (s := true) (u := b) (by omega)))
  exact ⟨z, r, congrArg some h1, h2, h3⟩
theorem read_wordI (s : Bool) : Ieee.single.read (Ieee.single.word s Ieee.single.infRung) = .infinity s := by cases s <;> decide +kernel
theorem inf_good (s : Bool) : ∃ z r, Ieee.single.write (.infinity s) = Ieee.single.word z r ∧ r ≤ Ieee.single.infRung ∧ (z = true → r ≠ 0) := ⟨s, Ieee.single.infRung, rfl, Nat.le_refl _, fun _ => by decide⟩
theorem mag_zero {r : Nat} (h : magOf Ieee.single r = 0) : r = 0 := by
  rcases Nat.eq_zero_or_pos r with e | e
  · exact e
  · have := vk_pos e
    unfold vk at this
    rw [h, Nat.zero_mul] at this
    omega
theorem add_good {v u : Option Nat} (hv : good v) : good (aop .add .f32 v u) := by
  intro c hc
  cases v with
  | none => cases u <;> cases hc
  | some b =>
    obtain ⟨s, r, rfl, hr, hs⟩ := hv b rfl
    cases u with
    | none => cases hc
    | some y =>
      have e1 : aop .add .f32 (some (Ieee.single.word s r)) (some y) = ((Ieee.single.read (Ieee.single.word s r)).sum (Ieee.single.read y)).map Ieee.single.write := rfl
      rw [e1] at hc
      rcases Nat.lt_or_ge r Ieee.single.infRung with h | h
      · rw [read_word32 s r h] at hc
        rcases read_all y with ⟨t, m, i, hy, _, hi, _⟩ | ⟨t, hy⟩ | ⟨t, f, hy⟩
        · obtain ⟨q, rfl⟩ : ∃ q : Nat, i = -149 + (q : Int) := ⟨(i + 149).toNat, by omega⟩
          have hy' : Ieee.single.read y = .number t m (-149 + (q : Int)) := hy
          rw [hy'] at hc
          obtain ⟨z, r', h1, h2, h3⟩ := sum_good (s := s) (t := t) (m := magOf Ieee.single r) (k := m) (p := placeOf Ieee.single r) (q := q) (fun e _ => .inl fun e2 => hs e (mag_zero e2))
          rw [h1] at hc
          cases hc
          exact ⟨z, r', rfl, h2, h3⟩
        · have hy' : Ieee.single.read y = .infinity t := hy
          rw [hy'] at hc
          obtain ⟨z, r', h1, h2, h3⟩ := inf_good t
          have e3 : some (Ieee.single.write (.infinity t)) = some c := hc
          rw [h1] at e3
          cases e3
          exact ⟨z, r', rfl, h2, h3⟩
        · have hy' : Ieee.single.read y = .nan t f := hy
          rw [hy'] at hc
          cases hc
      · obtain rfl : r = Ieee.single.infRung := by omega
        rw [read_wordI] at hc
        rcases read_all y with ⟨t, m, i, hy, _⟩ | ⟨t, hy⟩ | ⟨t, f, hy⟩
        · have hy' : Ieee.single.read y = .number t m i := hy
          rw [hy'] at hc
          obtain ⟨z, r', h1, h2, h3⟩ := inf_good s
          have e3 : some (Ieee.single.write (.infinity s)) = some c := hc
          rw [h1] at e3
          cases e3
          exact ⟨z, r', rfl, h2, h3⟩
        · have hy' : Ieee.single.read y = .infinity t := hy
          rw [hy'] at hc
          obtain ⟨z, r', h1, h2, h3⟩ := inf_good s
          simp only [Ieee.Datum.sum] at hc
          split at hc
          · have e3 : some (Ieee.single.write (.infinity s)) = some c := hc
            rw [h1] at e3
            cases e3
            exact ⟨z, r', rfl, h2, h3⟩
          · cases hc
        · have hy' : Ieee.single.read y = .nan t f := hy
          rw [hy'] at hc
          cases hc
theorem read_oneW : Ieee.single.read 1065353216 = .number false 8388608 (-149 + ((126 : Nat) : Int)) := by decide +kernel
theorem sub_good (v : Option Nat) : good (aop .sub .f32 (some 1065353216) v) := by
  intro c hc
  cases v with
  | none => cases hc
  | some y =>
    have e1 : aop .sub .f32 (some 1065353216) (some y) = ((Ieee.single.read 1065353216).sum (Ieee.single.read y).opposite).map Ieee.single.write := rfl
    rw [e1, read_oneW] at hc
    rcases read_all y with ⟨t, m, i, hy, _, hi, _⟩ | ⟨t, hy⟩ | ⟨t, f, hy⟩
    · obtain ⟨q, rfl⟩ : ∃ q : Nat, i = -149 + (q : Int) := ⟨(i + 149).toNat, by omega⟩
      have hy' : (Ieee.single.read y).opposite = .number (!t) m (-149 + (q : Int)) := by rw [show Ieee.single.read y = .number t m (-149 + (q : Int)) from hy]; rfl
      rw [hy'] at hc
      obtain ⟨z, r', h1, h2, h3⟩ := sum_good (s := false) (t := !t) (m := 8388608) (k := m) (p := 126) (q := q) (fun e _ => by cases e)
      rw [h1] at hc
      cases hc
      exact ⟨z, r', rfl, h2, h3⟩
    · have hy' : (Ieee.single.read y).opposite = .infinity (!t) := by rw [show Ieee.single.read y = .infinity t from hy]; rfl
      rw [hy'] at hc
      obtain ⟨z, r', h1, h2, h3⟩ := inf_good (!t)
      have e3 : some (Ieee.single.write (.infinity (!t))) = some c := hc
      rw [h1] at e3
      cases e3
      exact ⟨z, r', rfl, h2, h3⟩
    · have hy' : (Ieee.single.read y).opposite = (Ieee.Datum.nan t f).opposite := by rw [show Ieee.single.read y = .nan t f from hy]
      rw [hy'] at hc
      cases hc
theorem write_back32 (s : Bool) {r : Nat} (h : r < Ieee.single.infRung) : Ieee.single.nearest s (vk r) (-149 + ((0 : Nat) : Int)) = Ieee.single.word s r := by
  have hlp : (-149 : Int) = -(K0 : Int) + (lp Ieee.single : Int) := single_least.symm.trans (show Ieee.single.leastPlace = -(K0 : Int) + (lp Ieee.single : Int) from lp_least .f32)
  have hf : Ieee.single.fractionBits ≤ lp Ieee.single := by decide
  have hp : magOf Ieee.single r * 2 ^ (placeOf Ieee.single r + lp Ieee.single) = vk r * 2 ^ lp Ieee.single := by unfold vk; rw [Nat.pow_add, Nat.mul_assoc]
  obtain ⟨a, e1, e2⟩ := nearest_le Ieee.single s (vk r) (-(K0 : Int)) (lp Ieee.single) (lp Ieee.single) r (lp_least .f32) hf (by rw [hp]; exact Nat.le_refl _)
  obtain ⟨b, e3, e4, e5⟩ := nearest_ge Ieee.single s (vk r) (-(K0 : Int)) (lp Ieee.single) (lp Ieee.single) r (lp_least .f32) hf (Nat.le_of_lt h) (by rw [hp]; exact Nat.le_refl _)
  have h6 : Ieee.single.word s a = Ieee.single.word s b := by rw [← e2, ← e5]
  have h7 := (word_parts s (r := a) (by omega)).1
  rw [h6, (word_parts s e4).1] at h7
  have h8 : b = r := by omega
  have hb : -149 + ((0 : Nat) : Int) = -(K0 : Int) + ((lp Ieee.single : Nat) : Int) := by rw [hlp]; omega
  rw [hb, e5, h8]
/-- Adding 0 to what is not -0 changes nothing. -/
theorem add_zero32 {v : Option Nat} (hv : good v) : aop .add .f32 v (some 0) = v := by
  cases v with
  | none => rfl
  | some b =>
    obtain ⟨s, r, rfl, hr, hs⟩ := hv b rfl
    have e1 : aop .add .f32 (some (Ieee.single.word s r)) (some 0) = ((Ieee.single.read (Ieee.single.word s r)).sum (Ieee.single.read 0)).map Ieee.single.write := rfl
    have e0 : Ieee.single.read 0 = .number false 0 (-149 + ((0 : Nat) : Int)) := by decide +kernel
    rw [e1, e0]
    rcases Nat.lt_or_ge r Ieee.single.infRung with h | h
    · rw [read_word32 s r h]
      obtain ⟨i, hi⟩ : ∃ i, placeOf Ieee.single r = i := ⟨_, rfl⟩
      rw [hi]
      have q1 : (Ieee.Datum.number s (magOf Ieee.single r) (-149 + (i : Int))).sum (Ieee.Datum.number false 0 (-149 + ((0 : Nat) : Int))) = some (.number (if Ieee.signed s (magOf Ieee.single r) (-149 + (i : Int) - min (-149 + (i : Int)) (-149 + ((0 : Nat) : Int))).toNat + Ieee.signed false 0 (-149 + ((0 : Nat) : Int) - min (-149 + (i : Int)) (-149 + ((0 : Nat) : Int))).toNat = 0 then s && false else decide (Ieee.signed s (magOf Ieee.single r) (-149 + (i : Int) - min (-149 + (i : Int)) (-149 + ((0 : Nat) : Int))).toNat + Ieee.signed false 0 (-149 + ((0 : Nat) : Int) - min (-149 + (i : Int)) (-149 + ((0 : Nat) : Int))).toNat < 0)) (Ieee.signed s (magOf Ieee.single r) (-149 + (i : Int) - min (-149 + (i : Int)) (-149 + ((0 : Nat) : Int))).toNat + Ieee.signed false 0 (-149 + ((0 : Nat) : Int) - min (-149 + (i : Int)) (-149 + ((0 : Nat) : Int))).toNat).natAbs (min (-149 + (i : Int)) (-149 + ((0 : Nat) : Int)))) := rfl
      rw [q1, show min (-149 + (i : Int)) (-149 + ((0 : Nat) : Int)) = -149 + ((0 : Nat) : Int) by omega, show (-149 + (i : Int) - (-149 + ((0 : Nat) : Int))).toNat = i by omega]
      have hvk : magOf Ieee.single r * 2 ^ i = vk r := by unfold vk; rw [hi]
      rw [signed_false 0, Nat.zero_mul]
      have key : (Ieee.Datum.number (if Ieee.signed s (magOf Ieee.single r) i + ((0 : Nat) : Int) = 0 then s && false else decide (Ieee.signed s (magOf Ieee.single r) i + ((0 : Nat) : Int) < 0)) (Ieee.signed s (magOf Ieee.single r) i + ((0 : Nat) : Int)).natAbs (-149 + ((0 : Nat) : Int))) = .number s (vk r) (-149 + ((0 : Nat) : Int)) := by
        cases s with
        | false =>
          rw [signed_false, hvk]
          have h1 : (((vk r : Nat) : Int) + ((0 : Nat) : Int)).natAbs = vk r := by omega
          rw [h1]
          split
          · rfl
          · rw [decide_eq_false (by omega)]
        | true =>
          have hp := vk_pos (Nat.pos_of_ne_zero (hs rfl))
          rw [signed_true, hvk]
          have h1 : (-((vk r : Nat) : Int) + ((0 : Nat) : Int)).natAbs = vk r := by omega
          rw [h1, if_neg (by omega), decide_eq_true (by omega)]
      rw [key]
      exact congrArg some (write_back32 s h)
    · obtain rfl : r = Ieee.single.infRung := by omega
      rw [read_wordI]
      rfl
/-- The lesser one of a value and 1; the greater one of a value and 0. -/
def minA (v : Option Nat) : Option Nat := v.map fun b => minF b 1065353216
def maxA (v : Option Nat) : Option Nat := v.map fun b => maxF b 0
theorem wK_one : wK 1065353216 = fK 1065353216 := by decide +kernel
theorem wK_inj {r q : Nat} (hr : r ≤ Ieee.single.infRung) (hq : q ≤ Ieee.single.infRung) (h : wK r = wK q) : r = q := by
  rcases Nat.lt_trichotomy r q with e | e | e
  · have := wK_lt e hq; omega
  · exact e
  · have := wK_lt e hr; omega
theorem min_gt {b : Nat} (hb : b < 4294967296) (ha : av .f32 b = some b) : minF b 1065353216 = if gtB b 1065353216 then 1065353216 else b := by
  rw [gtB_K ha av_one.1]
  unfold minF
  rcases Int.lt_trichotomy (fK b) (fK 1065353216) with e | e | e
  · rw [if_pos e, decide_eq_false (by omega)]; rfl
  · rw [if_neg (by omega), if_neg (by omega), decide_eq_false (by omega)]
    have hf : finA .f32 (av .f32 b) = true := by
      rw [ha]
      rcases read_all b with ⟨s, m, i, hr, _⟩ | ⟨s, hr⟩ | ⟨s, f, hr⟩
      · show (!(Ieee.single.read b).isInfinity) = true; rw [show Ieee.single.read b = _ from hr]; rfl
      · exfalso
        have hb : fK 1065353216 < big := by decide +kernel
        have hp := big_pos
        have : fK b = if s then -big else big := by unfold fK; rw [hr]; cases s <;> rfl
        have h1 : 0 < fK 1065353216 := by decide +kernel
        cases s <;> simp at this <;> omega
      · have := num_of ha; rw [hr] at this; cases this
    obtain ⟨s, r, rfl, hr⟩ := fin_word hb hf
    have h1 : (0 : Int) < fK 1065353216 := by decide +kernel
    rw [fK_word s r hr] at e
    cases s with
    | true => simp at e; omega
    | false =>
      have h2 : wK r = wK 1065353216 := by rw [wK_one, ← e]; unfold wK; rw [if_pos hr]; rfl
      have h3 := wK_inj (Nat.le_of_lt hr) (by decide) h2
      subst h3
      split
      · rfl
      · decide +kernel
  · rw [if_neg (by omega), if_pos e, decide_eq_true e]; rfl
theorem max_lt {b : Nat} (hb : good (some b)) : maxF b 0 = if ltB b 0 then 0 else b := by
  obtain ⟨s, r, rfl, hr, hs⟩ := hb b rfl
  have ha := av_wordM s hr
  rw [ltB_K ha av_zero32]
  have h0 : fK 0 = 0 := by decide +kernel
  have hw := wK_ge r
  unfold maxF
  rw [fK_wordM s hr, h0]
  cases s with
  | true =>
    have := wK_pos (hs rfl) hr
    rw [if_pos rfl, if_neg (by omega), if_pos (by omega), decide_eq_true (by omega)]; rfl
  | false =>
    have hn := neg_word hr
    simp only [Bool.false_eq_true, if_false]
    rw [decide_eq_false (by omega)]
    by_cases e : (0 : Int) < wK r
    · rw [if_pos e]; rfl
    · rw [if_neg e, if_neg (by omega), hn]
      first | done | rfl
/-- Is it 0, of whatever sign? -/
def zB (x : Nat) : Bool := FloatKind.f32.format.order x 0 == some .eq
/-- A Step to another state: x and y are the weights there and here, z the Step back, t the Step. -/
def weiQ (x z y t : Nat) : Option Nat := aop .quo .f32 (aop .mul .f32 (av .f32 x) (av .f32 z)) (aop .mul .f32 (av .f32 y) (av .f32 t))
def weiP (x z y t : Nat) : Option Nat := if zB t then some 0 else aop .mul .f32 (av .f32 t) (minA (weiQ x z y t))
def weiE (n : Nat) (ss xs : List Nat) (i k : Nat) : Option Nat := weiP (xs[k]?.getD 0) (ss[k * n + i]?.getD 0) (xs[i]?.getD 0) (ss[i * n + k]?.getD 0)
/-- The sum of the first Steps to other states. -/
def weiS (n : Nat) (ss xs : List Nat) (i : Nat) : Nat → Option Nat
  | 0 => some 0
  | k + 1 => if k = i then weiS n ss xs i k else aop .add .f32 (weiS n ss xs i k) (weiE n ss xs i k)
theorem weiS_good (n : Nat) (ss xs : List Nat) (i : Nat) : ∀ k, good (weiS n ss xs i k)
  | 0 => good_zero
  | k + 1 => by
    show good (if k = i then _ else _)
    split
    · exact weiS_good n ss xs i k
    · exact add_good (weiS_good n ss xs i k)
theorem weiS_own {n : Nat} {ss xs : List Nat} {i : Nat} : weiS n ss xs i (i + 1) = weiS n ss xs i i := if_pos rfl
theorem weiS_other {n : Nat} {ss xs : List Nat} {i k : Nat} (h : k ≠ i) : weiS n ss xs i (k + 1) = aop .add .f32 (weiS n ss xs i k) (weiE n ss xs i k) := if_neg h
theorem weiS_skip {n : Nat} {ss xs : List Nat} {i k : Nat} (h : k ≠ i) (hz : zB (ss[i * n + k]?.getD 0) = true) : weiS n ss xs i (k + 1) = weiS n ss xs i k := by
  rw [weiS_other h]
  have : weiE n ss xs i k = some 0 := by unfold weiE weiP; rw [if_pos hz]
  rw [this, add_zero32 (weiS_good n ss xs i k)]
def weiL (v : Option Nat) : Option Nat := maxA (aop .sub .f32 (some 1065353216) v)
def weiG (n : Nat) (ss xs : List Nat) (j : Nat) : Option Nat := if j / n = j % n then weiL (weiS n ss xs (j / n) n) else weiE n ss xs (j / n) (j % n)
theorem weiG_at {n : Nat} {ss xs : List Nat} {i k : Nat} (hk : k < n) : weiG n ss xs (i * n + k) = if i = k then weiL (weiS n ss xs i n) else weiE n ss xs i k := by
  have hn : 0 < n := by omega
  have h1 : (i * n + k) / n = i := by rw [Nat.mul_comm, Nat.mul_add_div hn, Nat.div_eq_of_lt hk, Nat.add_zero]
  have h2 : (i * n + k) % n = k := by rw [Nat.mul_comm, Nat.mul_add_mod]; exact Nat.mod_eq_of_lt hk
  unfold weiG
  rw [h1, h2]
theorem ord_nan {r y : Nat} (h : av .f32 r = none) : FloatKind.f32.format.order r y = none := by
  cases ho : FloatKind.f32.format.order r y with
  | none => rfl
  | some o => have := order_some ho; rw [h] at this; cases this
/-- A quotient that is told: what the model makes of it. -/
theorem minA_of {u v : Option Nat} {r : Nat} (hr : av .f32 r = aop .quo .f32 u v) : minA (aop .quo .f32 u v) = av .f32 (if gtB r 1065353216 then 1065353216 else r) := by
  cases hq : aop .quo .f32 u v with
  | none =>
    rw [hq] at hr
    have : gtB r 1065353216 = false := by unfold gtB; rw [ord_nan hr]; rfl
    rw [this]
    exact hr.symm
  | some b =>
    rw [hq] at hr
    obtain rfl := av_of_is hr
    have hb : r < 4294967296 := by
      cases u with
      | none => cases v <;> cases hq
      | some x =>
        cases v with
        | none => cases hq
        | some y => exact bop_lt (op := .quo) (k := .f32) (x := x) (y := y) hq
    show some (minF r 1065353216) = _
    rw [min_gt hb hr]
    split
    · exact av_one.1.symm
    · exact hr.symm
theorem maxA_of {v : Option Nat} {r : Nat} (hr : av .f32 r = aop .sub .f32 (some 1065353216) v) : weiL v = av .f32 (if ltB r 0 then 0 else r) := by
  have hg := sub_good v
  unfold weiL
  cases hq : aop .sub .f32 (some 1065353216) v with
  | none =>
    rw [hq] at hr
    have : ltB r 0 = false := by unfold ltB; rw [ord_nan hr]; rfl
    rw [this]
    exact hr.symm
  | some b =>
    rw [hq] at hr hg
    obtain rfl := av_of_is hr
    show some (maxF r 0) = _
    rw [max_lt hg]
    split
    · exact av_zero32.symm
    · exact hr.symm
end Go.Proofs.Ytgeomaeccalceaa
/- WeighChain of the code: weighedStep, the closure. -/
namespace Go.Proofs.Ytgeomaeccalceaa
open Go Go.RowKit Fl Vag
set_option linter.unusedVariables false
theorem run_minA {P : Program} (r : Nat) (w : World) : ∃ q m, (∀ ts t, (Builtin.min_ ts t #[.float .f32 r, .float .f32 1065353216]).run P w = .ok (.float .f32 q) (w.drewN m)) ∧ av .f32 q = minA (av .f32 r) := by
  rcases av_self_or r with h | h
  · refine ⟨minF r 1065353216, 0, fun ts t => ?_, ?_⟩
    · rw [World.drewN_zero]; exact minF_run h av_one.1 ts t w
    · rw [h]
      rcases minF_or r 1065353216 with ⟨e, _⟩ | ⟨e, _⟩
      · show _ = some (minF r _); rw [e]; exact h
      · show _ = some (minF r _); rw [e]; exact av_one.1
  · refine ⟨(Question.nanMinMax .f32 false r 1065353216).cut (w.tape w.drawn (.nanMinMax .f32 false r 1065353216)), 1, fun ts t => ?_, ?_⟩
    · have ho := ord_nan (y := 1065353216) h
      simp [Builtin.min_, Builtin.min2, ho, Go.choose, Sem.run, Question.forced, World.drew_is_drewN]
    · rw [h]; exact (nanBits_nan .f32 r 1065353216 (w.tape w.drawn (.nanMinMax .f32 false r 1065353216))).2
theorem run_maxA {P : Program} (r : Nat) (w : World) : ∃ q m, (∀ ts t, (Builtin.max_ ts t #[.float .f32 r, .float .f32 0]).run P w = .ok (.float .f32 q) (w.drewN m)) ∧ av .f32 q = maxA (av .f32 r) := by
  rcases av_self_or r with h | h
  · refine ⟨maxF r 0, 0, fun ts t => ?_, ?_⟩
    · rw [World.drewN_zero]; exact maxF_run h av_zero32 ts t w
    · rw [h]
      show _ = some (maxF r 0)
      unfold maxF
      split
      · exact h
      · split
        · exact av_zero32
        · split
          · exact av_zero32
          · exact h
  · refine ⟨(Question.nanMinMax .f32 true r 0).cut (w.tape w.drawn (.nanMinMax .f32 true r 0)), 1, fun ts t => ?_, ?_⟩
    · have ho := ord_nan (y := 0) h
      simp [Builtin.max_, Builtin.max2, ho, Go.choose, Sem.run, Question.forced, World.drew_is_drewN]
    · rw [h]; exact (nanBits_nan .f32 r 0 (w.tape w.drawn (.nanMinMax .f32 true r 0))).2
theorem lexB_min {P : Program} {ops : Array Oper} {Q : Act → Prop} {rest : List Oper} {a : Act} {w : World} {dst : Option Tmp} {ty : TypeId} {pos : String} {af : Array Edge} (x : Operand) (ts : Array TypeId) (r : Nat) (hx : a.eval x = .float .f32 r)
    {f : Nat → Act} (he : ∀ q, a.put dst (.float .f32 q) = f q) (h : ∀ q, av .f32 q = minA (av .f32 r) → Lex P (CB w) ops Q rest (f q)) :
    Lex P (CB w) ops Q (⟨dst, .call { callee := .builtin .min, args := #[x, .const (.float .f32 1065353216)], argTypes := ts }, ty, pos, af, none⟩ :: rest) a := by
  refine lexB_some rfl (fun u => ∃ q, u = .float .f32 q ∧ av .f32 q = minA (av .f32 r)) (fun w' _ => ?_) (fun u ⟨q, hu, hq⟩ => by subst hu; show Lex P (CB w) ops Q rest (a.put dst _); rw [he]; exact h q hq)
  obtain ⟨q, m, hrun, hq⟩ := run_minA (P := P) r w'
  refine ⟨.float .f32 q, m, ?_, q, rfl, hq⟩
  have hc : a.eval (.const (.float .f32 1065353216)) = .float .f32 1065353216 := rfl
  simp [execOp, resolve, invoke, builtin, hx, hc, hrun, Result.andThen]
theorem wpList_maxA {P : Program} {ops : Array Oper} {Q : Exit → Act → World → Prop} {rest : List Oper} {a : Act} {w : World} {dst : Option Tmp} {ty : TypeId} {pos : String} {af : Array Edge} (x : Operand) (ts : Array TypeId) (r : Nat) (hx : a.eval x = .float .f32 r)
    (hK : ∀ q n, av .f32 q = maxA (av .f32 r) → wpList P ops Q rest (a.put dst (.float .f32 q)) (w.drewN n)) :
    wpList P ops Q (⟨dst, .call { callee := .builtin .max, args := #[x, .const (.float .f32 0)], argTypes := ts }, ty, pos, af, none⟩ :: rest) a w := by
  refine wpList_plain rfl fun K hK' => ?_
  obtain ⟨q, m, hrun, hq⟩ := run_maxA (P := P) r w
  have hc : a.eval (.const (.float .f32 0)) = .float .f32 0 := rfl
  unfold Oper.wp
  simp [execOp, resolve, invoke, builtin, hx, hc, hrun, Result.andThen]
  exact hK' _ _ (hK q m hq)
theorem zB_fact {x : Nat} {b : Bool} (h : zB x = b) : (FloatKind.f32.format.order x 0 == some Ordering.eq) = b := h
set_option maxRecDepth 100000 in
set_option maxHeartbeats 1000000 in
theorem weiStep_any (ss xs : List Nat) (n i k b o m c b' o' d : Nat) (w : World) (hs : Holds w (some ⟨b, o, none⟩) (fl .f32 ss)) (hx : Holds w (some ⟨b', o', none⟩) (fl .f32 xs)) (hi : i < n) (hk : k < n) (hn : n ≤ 12) (hm : m = n * n) (hl : ss.length = m) (hl' : xs.length = n) :
    Calls Try.prog 98 #[.agg #[.int .i64 n, .slice (some ⟨b, o, none⟩) m c], .slice (some ⟨b', o', none⟩) n d, .int .i64 i, .int .i64 k] w (CloR (weiE n ss xs i k) w) := by
  have HST1 : Hid (∀ v, Below w.heap.size w v → Calls Try.prog 86 #[.agg #[.int .i64 n, .slice (some ⟨b, o, none⟩) m c], .int .i64 i, .int .i64 k] v (fun e w' => e = .returned (.float .f32 (ss[i * n + k]?.getD 0)) ∧ CB v w')) := Lib.hid (fun v hv => (step_any ss n i k b o m c v (hs.below hv) hi hk hn hm hl).mono fun e w' ⟨he, hw⟩ => ⟨he, by rw [hw]; exact Below.alloc (Below.refl _ _) (Nat.le_refl _) _⟩)
  have HST2 : Hid (∀ v, Below w.heap.size w v → Calls Try.prog 86 #[.agg #[.int .i64 n, .slice (some ⟨b, o, none⟩) m c], .int .i64 k, .int .i64 i] v (fun e w' => e = .returned (.float .f32 (ss[k * n + i]?.getD 0)) ∧ CB v w')) := Lib.hid (fun v hv => (step_any ss n k i b o m c v (hs.below hv) hk hi hn hm hl).mono fun e w' ⟨he, hw⟩ => ⟨he, by rw [hw]; exact Below.alloc (Below.refl _ _) (Nat.le_refl _) _⟩)
  obtain ⟨b2, o2, e2, hck⟩ := hx k (by rw [fl_len32, hl']; exact hk)
  cases e2
  rw [fl_get _ _ _ (by rw [hl']; exact hk)] at hck
  obtain ⟨b2, o2, e2, hci⟩ := hx i (by rw [fl_len32, hl']; exact hi)
  cases e2
  rw [fl_get _ _ _ (by rw [hl']; exact hi)] at hci
  have HCK : Hid (∀ v, Below w.heap.size w v → v.cell? ⟨b', o' + k, none⟩ = some (.float .f32 (xs[k]?.getD 0)) ∧ v.cell? ⟨b', o' + i, none⟩ = some (.float .f32 (xs[i]?.getD 0))) := Lib.hid (fun v hv => ⟨CB.cell hv hck, CB.cell hv hci⟩)
  have HG : Hid (weiE n ss xs i k = weiP (xs[k]?.getD 0) (ss[k * n + i]?.getD 0) (xs[i]?.getD 0) (ss[i * n + k]?.getD 0)) := Lib.hid rfl
  generalize ss[k * n + i]?.getD 0 = z at HST2 HG
  generalize ss[i * n + k]?.getD 0 = t at HST1 HG
  generalize xs[k]?.getD 0 = x at HCK HG
  generalize xs[i]?.getD 0 = y at HCK HG
  have i1 : (i : Int) < n := by omega
  have i2 : (k : Int) < n := by omega
  have i3 : (n : Int) ≤ 12 := by omega
  have H0 : Hid (Whole (w.alloc (.cells #[.int .i64 n, .slice (some ⟨b, o, none⟩) m c] 34)) w.heap.size 34 #[.int .i64 n, .slice (some ⟨b, o, none⟩) m c] ∧ Below w.heap.size w (w.alloc (.cells #[.int .i64 n, .slice (some ⟨b, o, none⟩) m c] 34))) := Lib.hid ⟨Whole.made _ _ _, (by repeat (first | with_reducible exact Below.refl _ _ | with_reducible exact HBL | with_reducible refine Below.drew ?_ | with_reducible refine Bel_drewN ?_ _ | with_reducible refine Below.alloc ?_ (by first | omega | (simp; done) | (simp; omega)) _ | with_reducible refine Below.setCell ?_ (by first | omega | (simp; done) | (simp; omega)) _))⟩
  clear hs hx hm hl hl' hck hci
  go_enter Try.func98, Try.ntmps98
  go_wp2_with fail
  generalize hW : World.alloc _ _ = w0 at H0
  clear hW
  refine wp_region_lex (C := CB w0) (by kernel_rfl) (by kernel_rfl) (CB.drew w0) ?_
  repeat (first
    | (apply lexB_move rfl (.inl rfl); (focus (simp [go_sem]; rfl)))
    | (apply lexB_pure rfl; (focus (intro v hv; obtain ⟨hq0, _⟩ := CB.cells hv H0.out.1; go_simp; rfl)); (focus (simp [go_sem]; rfl))))
  apply lexB_fn (.float .f32 t); (focus kernel_rfl); (focus (intro v hv; go_simp; rfl)); (focus (intro v hv; exact (HST1.out v (Bel_next H0.out.2 hv)).mono fun e w' h => ⟨h.1, Bel_next hv h.2⟩)); (focus (simp [go_sem]; rfl))
  repeat (first
    | (apply lexB_move rfl (.inl rfl); (focus (simp [go_sem]; rfl)))
    | (apply lexB_pure rfl; (focus (intro v hv; obtain ⟨hq0, _⟩ := CB.cells hv H0.out.1; go_simp; rfl)); (focus (simp [go_sem]; rfl))))
  apply lexB_fn (.float .f32 z); (focus kernel_rfl); (focus (intro v hv; go_simp; rfl)); (focus (intro v hv; exact (HST2.out v (Bel_next H0.out.2 hv)).mono fun e w' h => ⟨h.1, Bel_next hv h.2⟩)); (focus (simp [go_sem]; rfl))
  apply lexB_move rfl (.inr rfl); (focus (simp [go_sem]; rfl))
  apply lexB_move rfl (.inr rfl); (focus (simp [go_sem]; rfl))
  refine lexB_nil ?_
  rintro w5 hw5
  have H5 := Lib.hid (show Below w.heap.size w w5 from Bel_next H0.out.2 hw5)
  clear hw5 H0
  cases hz : zB t with
  | true =>
    have HZ := Lib.hid hz
    have hz2 := zB_fact hz
    clear hz
    go_wp2_with fail
    go_ret
    exact ⟨0, rfl, by rw [HG.out]; unfold weiP; rw [if_pos HZ.out]; exact av_zero32, H5.out⟩
  | false =>
    have HZ := Lib.hid hz
    have hz2 := zB_fact hz
    clear hz
    go_wp2_with fail
    refine wp_region_lex (C := CB w5) (by kernel_rfl) (by kernel_rfl) (CB.drew w5) ?_
    apply lexB_move rfl (.inl rfl); (focus (simp [go_sem]; rfl))
    apply lexB_move rfl (.inl rfl); (focus (simp [go_sem]; rfl))
    apply lexB_pure rfl; (focus (intro v hv; obtain ⟨hq2, hq3⟩ := HCK.out v (Bel_next H5.out hv); go_simp; rfl)); (focus (simp [go_sem]; rfl))
    apply lexB_pure rfl; (focus (intro v hv; obtain ⟨hq2, hq3⟩ := HCK.out v (Bel_next H5.out hv); go_simp; rfl)); (focus (simp [go_sem]; rfl))
    apply lexB_move rfl (.inl rfl); (focus (simp [go_sem]; rfl))
    apply lexB_farith .mul _ _ _ _ .f32 _ _ rfl rfl rfl; (focus (intro r; simp [go_sem]; rfl)); intro r1 hr1
    apply lexB_move rfl (.inl rfl); (focus (simp [go_sem]; rfl))
    apply lexB_move rfl (.inl rfl); (focus (simp [go_sem]; rfl))
    apply lexB_pure rfl; (focus (intro v hv; obtain ⟨hq2, hq3⟩ := HCK.out v (Bel_next H5.out hv); go_simp; rfl)); (focus (simp [go_sem]; rfl))
    apply lexB_pure rfl; (focus (intro v hv; obtain ⟨hq2, hq3⟩ := HCK.out v (Bel_next H5.out hv); go_simp; rfl)); (focus (simp [go_sem]; rfl))
    apply lexB_move rfl (.inl rfl); (focus (simp [go_sem]; rfl))
    apply lexB_farith .mul _ _ _ _ .f32 _ _ rfl rfl rfl; (focus (intro r; simp [go_sem]; rfl)); intro r2 hr2
    apply lexB_farith .quo _ _ _ _ .f32 _ _ rfl rfl rfl; (focus (intro r; simp [go_sem]; rfl)); intro r3 hr3
    apply lexB_min _ _ r3 rfl; (focus (intro r; simp [go_sem]; rfl)); intro r4 hr4
    apply lexB_move rfl (.inr rfl); (focus (simp [go_sem]; rfl))
    refine lexB_nil ?_
    rintro w6 hw6
    have H6 := Lib.hid (show Below w.heap.size w w6 from Bel_next H5.out hw6)
    have HV : Hid (av .f32 r4 = minA (weiQ x z y t)) := Lib.hid (by rw [hr4, hr3.2, hr2.2, hr1.2]; rfl)
    clear hr1 hr2 hr3 hr4 hw6 H5
    go_wp2_with (refine wpList_farith _ _ _ _ _ .f32 _ _ rfl rfl rfl ?_; intro r5 n5 hr5)
    go_ret
    exact ⟨r5, rfl, by rw [HG.out]; unfold weiP; rw [if_neg (by rw [HZ.out]; decide), ← HV.out]; exact hr5.2, Bel_drewN H6.out n5⟩
set_option maxRecDepth 100000 in
set_option maxHeartbeats 2000000 in
theorem weiClo (ss xs : List Nat) (n i k b o m c b' o' d g0 g1 : Nat) (T : TypeId) (w : World) (h0 : Whole w g0 34 #[.int .i64 n, .slice (some ⟨b, o, none⟩) m c]) (h1 : Whole w g1 T #[.slice (some ⟨b', o', none⟩) n d]) (hs : Holds w (some ⟨b, o, none⟩) (fl .f32 ss)) (hx : Holds w (some ⟨b', o', none⟩) (fl .f32 xs)) (hi : i < n) (hk : k < n) (hn : n ≤ 12) (hm : m = n * n) (hl : ss.length = m) (hl' : xs.length = n) :
    Calls Try.prog 97 #[.int .i64 i, .int .i64 k, .pointer (some ⟨g0, 0, none⟩), .pointer (some ⟨g1, 0, none⟩)] w (CloR (weiG n ss xs (i * n + k)) w) := by
  have HST : Hid (∀ q, q < n → ∀ v, Below w.heap.size w v → Calls Try.prog 98 #[.agg #[.int .i64 n, .slice (some ⟨b, o, none⟩) m c], .slice (some ⟨b', o', none⟩) n d, .int .i64 i, .int .i64 q] v (CloR (weiE n ss xs i q) v)) := Lib.hid (fun q hq v hv => weiStep_any ss xs n i q b o m c b' o' d v (hs.below hv) (hx.below hv) hi hq hn hm hl hl')
  have HB := Lib.hid (And.intro h0 h1)
  have HG := Lib.hid (weiG_at (i := i) (ss := ss) (xs := xs) hk)
  have i1 : (i : Int) < n := by omega
  have i2 : (k : Int) < n := by omega
  have i3 : (n : Int) ≤ 12 := by omega
  obtain ⟨hc0, hf0⟩ := h0.facts
  obtain ⟨hc1, hf1⟩ := h1.facts
  clear h0 h1 hs hx hm hl hl'
  by_cases hik : i = k
  · have HIK := Lib.hid hik
    have hik' : (i : Int) = k := by omega
    clear hik
    go_enter Try.func97, Try.ntmps97
    go_wp2_with fail
    clear hc0 hf0 hc1 hf1 hik'
    go_loopw [7, 19] (fun s j wr => ∃ (q r : Nat), q ≤ n ∧ j = .int .i64 q ∧ s = .float .f32 r ∧ av .f32 r = weiS n ss xs i q ∧ Below w.heap.size w wr) (fun _ j _ => n - (intOf j).toNat)
    case atStart => exact ⟨0, 0, Nat.zero_le _, rfl, rfl, av_zero32, Below.refl _ _⟩
    case round =>
      obtain ⟨q, r, hq, rfl, rfl, hr, hbel⟩ := hrel
      have H := Lib.hid (And.intro hr hbel)
      have hqn : (q : Int) ≤ n := by omega
      obtain ⟨hc0, hf0⟩ := (HB.out.1.below hbel).facts
      obtain ⟨hc1, hf1⟩ := (HB.out.2.below hbel).facts
      clear hr hbel
      by_cases hlt : q < n
      · have hlt' : (q : Int) < n := by omega
        by_cases hqi : q = i
        · have hqi' : (q : Int) = i := by omega
          have HQI := Lib.hid hqi
          clear hqi
          go_wp2_with fail
          go_roundw
          case rel => exact ⟨q + 1, r, by omega, by go_num, rfl, by rw [HQI.out, weiS_own, ← HQI.out]; have := H.out.1; rwa [HQI.out] at this ⊢, H.out.2⟩
          case measure => simp [intOf]; omega
        · have hqi' : ¬(q : Int) = i := by omega
          have HQI := Lib.hid hqi
          clear hqi
          go_wp2_with (first | (go_at_call 98; fail))
          clear hc0 hf0 hc1 hf1
          refine (HST.out q hlt _ H.out.2).mono ?_
          rintro e w1 ⟨r1, rfl, hr1, hw1⟩
          have H1 := Lib.hid (And.intro hr1 (Bel_next H.out.2 hw1))
          clear hr1 hw1
          go_wp2_with (refine wpList_farith _ _ _ _ _ .f32 _ _ rfl rfl rfl ?_; intro r2 n2 hr2)
          have HR : Hid (av .f32 r2 = weiS n ss xs i (q + 1)) := Lib.hid (by rw [weiS_other HQI.out, ← H.out.1, ← H1.out.1]; exact hr2.2)
          clear hr2
          go_roundw
          case rel => exact ⟨q + 1, r2, by omega, by go_num, rfl, HR.out, Bel_drewN H1.out.2 n2⟩
          case measure => simp [intOf]; omega
      · obtain rfl : q = n := by omega
        go_wp2_with (first | (refine wpList_farith _ _ _ _ _ .f32 _ _ rfl rfl rfl ?_; intro r2 n2 hr2) | (refine wpList_maxA _ _ _ rfl ?_; intro r3 n3 hr3))
        go_ret
        exact ⟨r3, rfl, by rw [HG.out, if_pos HIK.out, hr3, hr2.2, H.out.1]; rfl, by first | exact Bel_drewN (Bel_drewN H.out.2 n2) n3 | exact Bel_drewN H.out.2 _⟩
  · have HIK := Lib.hid hik
    have hik' : ¬(i : Int) = k := by omega
    clear hik
    go_enter Try.func97, Try.ntmps97
    go_wp2_with (first | (go_at_call 98; fail))
    clear hc0 hf0 hc1 hf1
    refine (HST.out k hk _ (Below.refl _ _)).mono ?_
    rintro e w1 ⟨r1, rfl, hr1, hw1⟩
    have H1 := Lib.hid (And.intro hr1 hw1)
    clear hr1 hw1
    go_wp2_with fail
    go_ret
    exact ⟨r1, rfl, by rw [HG.out, if_neg HIK.out]; exact H1.out.1, H1.out.2⟩
set_option maxRecDepth 100000 in
set_option maxHeartbeats 1000000 in
theorem implWei_yes (s : Int) (ss xs : List Nat) (m k : Nat) (hm : ss.length = m) (hk : xs.length = k) (ao bo : Option Addr) (c d : Nat) (w : World) (hs : Holds w ao (fl .f32 ss)) (hx : Holds w bo (fl .f32 xs)) (hlen : m ≤ 1048576) (hlk : k ≤ 1048576) (hc : m ≤ c) (hC : weighed s ss xs) :
    ∃ n : Nat, s = n ∧ m = n * n ∧ Calls Try.prog 43 #[.agg #[.int .i64 s, .slice ao m c], .slice bo k d] w (ChR n (n * n) (weiG n ss xs) w) := by
  obtain ⟨n, rfl, n1, n2, n3, n4, n5, n6⟩ := hC.1.nat
  obtain rfl : k = n := by omega
  obtain ⟨b, o, rfl⟩ := hs.at (by rw [fl_len32, n3]; exact Nat.mul_pos n1 n1)
  obtain ⟨b', o', rfl⟩ := hx.at (by rw [fl_len32]; omega)
  refine ⟨k, rfl, by rw [← hm]; exact n3, ?_⟩
  have HX := Lib.hid (And.intro hs (And.intro hx (And.intro hm (And.intro hk (And.intro n3 hC)))))
  clear hs hx hm hk n3 n4 n5 n6 hC
  go_enter Try.func43, Try.ntmps43
  go_wp2_with (first | (go_at_call 95; fail))
  generalize hW : World.alloc (World.alloc (World.alloc _ _) _) _ = w0
  have H0 : Hid (Whole w0 w.heap.size 34 #[.int .i64 k, .slice (some ⟨b, o, none⟩) m c] ∧ Whole w0 (w.heap.size + 1) 25 #[.slice (some ⟨b', o', none⟩) k d] ∧ Whole w0 (w.heap.size + 2) 34 #[.int .i64 0, .slice none 0 0] ∧ Below w.heap.size w w0) := Lib.hid (by rw [← hW]; exact ⟨((Whole.made _ _ _).alloc _).alloc _, (Whole.made2 _ _ _ _).alloc _, by simpa using Whole.made2 (w.alloc _) _ _ _, (by repeat (first | with_reducible exact Below.refl _ _ | with_reducible exact HBL | with_reducible refine Below.drew ?_ | with_reducible refine Bel_drewN ?_ _ | with_reducible refine Below.alloc ?_ (by first | omega | (simp; done) | (simp; omega)) _ | with_reducible refine Below.setCell ?_ (by first | omega | (simp; done) | (simp; omega)) _))⟩)
  clear hW
  refine ((isWeighed_any k ss xs m k HX.out.2.2.1 HX.out.2.2.2.1 _ _ c d _ (HX.out.1.below H0.out.2.2.2) (HX.out.2.1.below H0.out.2.2.2) hlen hlk hc).mono fun e w1 h => Bo.yes HX.out.2.2.2.2.2 h).mono ?_
  rintro e w1 ⟨rfl, hw1⟩
  have H1 := Lib.hid (And.intro (H0.out.1.below hw1) (And.intro (H0.out.2.1.below hw1) (And.intro (H0.out.2.2.1.below hw1) (Bel_next H0.out.2.2.2 hw1))))
  clear hw1 H0
  obtain ⟨hc0, hf0⟩ := H1.out.1.facts
  go_wp2_with (first | (go_at_call 96; fail))
  clear hc0 hf0
  refine (chainOf_WeighChain k (weiG k ss xs) w.heap.size (w.heap.size + 1) _ n1 n2 (fun i j hi hj v hv => weiClo ss xs k i j b o m c b' o' d w.heap.size (w.heap.size + 1) _ v (H1.out.1.below hv) (H1.out.2.1.below hv) (HX.out.1.below (Bel_next H1.out.2.2.2 hv)) (HX.out.2.1.below (Bel_next H1.out.2.2.2 hv)) hi hj n2 (by rw [← HX.out.2.2.1]; exact HX.out.2.2.2.2.1) HX.out.2.2.1 HX.out.2.2.2.1)).mono ?_
  intro e w3 h
  rcases h with ⟨hf, ao2, c2, rfl, hrow, hw2⟩ | ⟨hf, rfl, hw2⟩
  · have q2 := H1.out.2.2.1.below hw2
    have HBL := Bel_next H1.out.2.2.2 hw2
    have HR := Lib.hid (And.intro hf hrow)
    have hz1 := H1.out.2.2.2.size
    have hz2 := HBL.size
    have hz3 := H1.out.2.2.1.lt
    obtain ⟨hc2, hf2⟩ := q2.facts
    clear hf hrow hw2 q2
    go_wp2_with fail
    refine bodyPost_ret (v := .tuple #[.agg #[.int .i64 k, .slice ao2 (k * k) c2], .bool true]) (by simp [results, Try.results43, go_sem, hc2]) rfl (.inl ⟨HR.out.1, ao2, c2, rfl, ?_, (by repeat (first | with_reducible exact Below.refl _ _ | with_reducible exact HBL | with_reducible refine Below.drew ?_ | with_reducible refine Bel_drewN ?_ _ | with_reducible refine Below.alloc ?_ (by first | omega | (simp; done) | (simp; omega)) _ | with_reducible refine Below.setCell ?_ (by first | omega | (simp; done) | (simp; omega)) _))⟩)
    exact ((((HR.out.2.far (.inl (by simp; omega)) _).far (.inl (by simp; omega)) _)).wide (by omega) (by simp))
  · have q2 := H1.out.2.2.1.below hw2
    have HBL := Bel_next H1.out.2.2.2 hw2
    have HR := Lib.hid hf
    obtain ⟨hc2, hf2⟩ := q2.facts
    clear hf hw2 q2
    go_wp2_with fail
    exact bodyPost_ret (v := .tuple #[.agg #[.int .i64 0, .slice none 0 0], .bool false]) (by simp [results, Try.results43, go_sem, hc2]) rfl (.inr ⟨HR.out, rfl, (by repeat (first | with_reducible exact Below.refl _ _ | with_reducible exact HBL | with_reducible refine Below.drew ?_ | with_reducible refine Bel_drewN ?_ _ | with_reducible refine Below.alloc ?_ (by first | omega | (simp; done) | (simp; omega)) _ | with_reducible refine Below.setCell ?_ (by first | omega | (simp; done) | (simp; omega)) _))⟩)
set_option maxRecDepth 100000 in
set_option maxHeartbeats 1000000 in
theorem implWei_no (s : Int) (ss xs : List Nat) (m k : Nat) (hm : ss.length = m) (hk : xs.length = k) (ao bo : Option Addr) (c d : Nat) (w : World) (hs : Holds w ao (fl .f32 ss)) (hx : Holds w bo (fl .f32 xs)) (hlen : m ≤ 1048576) (hlk : k ≤ 1048576) (hc : m ≤ c) (hC : ¬ weighed s ss xs) :
    Calls Try.prog 43 #[.agg #[.int .i64 s, .slice ao m c], .slice bo k d] w (RetB (.tuple #[.agg #[.int .i64 0, .slice none 0 0], .bool false]) w) := by
  have HX := Lib.hid (And.intro hs (And.intro hx (And.intro hm (And.intro hk hC))))
  clear hs hx hm hk hC
  go_enter Try.func43, Try.ntmps43
  go_wp2_with (first | (go_at_call 95; fail))
  generalize hW : World.alloc (World.alloc (World.alloc _ _) _) _ = w0
  have H0 : Hid (Whole w0 (w.heap.size + 2) 34 #[.int .i64 0, .slice none 0 0] ∧ Below w.heap.size w w0) := Lib.hid (by rw [← hW]; exact ⟨by simpa using Whole.made2 (w.alloc _) _ _ _, (by repeat (first | with_reducible exact Below.refl _ _ | with_reducible exact HBL | with_reducible refine Below.drew ?_ | with_reducible refine Bel_drewN ?_ _ | with_reducible refine Below.alloc ?_ (by first | omega | (simp; done) | (simp; omega)) _ | with_reducible refine Below.setCell ?_ (by first | omega | (simp; done) | (simp; omega)) _))⟩)
  clear hW
  refine ((isWeighed_any s ss xs m k HX.out.2.2.1 HX.out.2.2.2.1 _ _ c d _ (HX.out.1.below H0.out.2) (HX.out.2.1.below H0.out.2) hlen hlk hc).mono fun e w1 h => Bo.no HX.out.2.2.2.2 h).mono ?_
  rintro e w1 ⟨rfl, hw1⟩
  have q2 := H0.out.1.below hw1
  have HBL := Bel_next H0.out.2 hw1
  obtain ⟨hc2, hf2⟩ := q2.facts
  clear hw1 q2 H0
  go_wp2_with fail
  exact bodyPost_ret (v := .tuple #[.agg #[.int .i64 0, .slice none 0 0], .bool false]) (by simp [results, Try.results43, go_sem, hc2]) rfl ⟨rfl, (by repeat (first | with_reducible exact Below.refl _ _ | with_reducible exact HBL | with_reducible refine Below.drew ?_ | with_reducible refine Bel_drewN ?_ _ | with_reducible refine Below.alloc ?_ (by first | omega | (simp; done) | (simp; omega)) _ | with_reducible refine Below.setCell ?_ (by first | omega | (simp; done) | (simp; omega)) _))⟩
end Go.Proofs.Ytgeomaeccalceaa
/- WeighChain of the model, and both as the law asks them. -/
namespace Go.Proofs.Ytgeomaeccalceaa
open Go Go.RowKit Fl Vag
set_option linter.unusedVariables false
/-- Which numbers have been told, in the row i up to the place k. -/
def weiW (n i k j : Nat) : Prop := j / n < i ∨ (j / n = i ∧ j % n < k ∧ j % n ≠ i)
open Classical in
structure WeiD (n : Nat) (ss xs : List Nat) (i k : Nat) (ds : List Nat) : Prop where
  len : ds.length = n * n
  val : ∀ j, j < n * n → av .f32 (ds[j]?.getD 0) = if weiW n i k j then weiG n ss xs j else some 0
theorem at_div {n i k : Nat} (hk : k < n) : (i * n + k) / n = i ∧ (i * n + k) % n = k := by
  have hn : 0 < n := by omega
  exact ⟨by rw [Nat.mul_comm, Nat.mul_add_div hn, Nat.div_eq_of_lt hk, Nat.add_zero], by rw [Nat.mul_comm, Nat.mul_add_mod]; exact Nat.mod_eq_of_lt hk⟩
theorem div_back {n j i k : Nat} (h1 : j / n = i) (h2 : j % n = k) : j = i * n + k := by rw [← h1, ← h2, Nat.mul_comm]; exact (Nat.div_add_mod j n).symm
theorem WeiD.start (n : Nat) (ss xs : List Nat) : WeiD n ss xs 0 0 (List.replicate (n * n) 0) := by
  refine ⟨by simp, fun j hj => ?_⟩
  rw [if_neg (fun h => by rcases h with h | ⟨_, h, _⟩ <;> exact absurd h (Nat.not_lt_zero _)), List.getElem?_replicate, if_pos hj]
  exact av_zero32
theorem WeiD.own {n : Nat} {ss xs ds : List Nat} {i : Nat} (h : WeiD n ss xs i i ds) : WeiD n ss xs i (i + 1) ds := by
  refine ⟨h.len, fun j hj => ?_⟩
  rw [h.val j hj]
  have e : weiW n i i j ↔ weiW n i (i + 1) j := by unfold weiW; omega
  by_cases hw : weiW n i i j
  · rw [if_pos hw, if_pos (e.1 hw)]
  · rw [if_neg hw, if_neg (fun h => hw (e.2 h))]
theorem WeiD.skip {n : Nat} {ss xs ds : List Nat} {i k : Nat} (h : WeiD n ss xs i k ds) (hk : k < n) (hki : k ≠ i) (hz : zB (ss[i * n + k]?.getD 0) = true) : WeiD n ss xs i (k + 1) ds := by
  refine ⟨h.len, fun j hj => ?_⟩
  rw [h.val j hj]
  by_cases hw : weiW n i k j
  · rw [if_pos hw, if_pos (by unfold weiW at hw ⊢; omega)]
  · rw [if_neg hw]
    by_cases hw2 : weiW n i (k + 1) j
    · rw [if_pos hw2]
      obtain ⟨e1, e2⟩ : j / n = i ∧ j % n = k := by unfold weiW at hw hw2; omega
      rw [div_back e1 e2, weiG_at hk, if_neg (Ne.symm hki)]
      unfold weiE weiP
      rw [if_pos hz]
    · rw [if_neg hw2]
theorem WeiD.put {n : Nat} {ss xs ds : List Nat} {i k r : Nat} (h : WeiD n ss xs i k ds) (hi : i < n) (hk : k < n) (hki : k ≠ i) (hr : av .f32 r = weiE n ss xs i k) : WeiD n ss xs i (k + 1) (ds.set (i * n + k) r) := by
  have hl := h.len
  have hf : i * n + k < n * n := by have := row_in hi; omega
  obtain ⟨d1, d2⟩ := at_div (i := i) hk
  refine ⟨by rw [List.length_set, hl], fun j hj => ?_⟩
  by_cases e : j = i * n + k
  · rw [e, List.getElem?_set_self (by omega), if_pos (by unfold weiW; rw [d1, d2]; omega), weiG_at hk, if_neg (Ne.symm hki)]
    exact hr
  · rw [List.getElem?_set_ne (fun h => e h.symm), h.val j hj]
    have e2 : weiW n i k j ↔ weiW n i (k + 1) j := by
      have : ¬(j / n = i ∧ j % n = k) := fun ⟨a, b⟩ => e (div_back a b)
      unfold weiW; omega
    by_cases hw : weiW n i k j
    · rw [if_pos hw, if_pos (e2.1 hw)]
    · rw [if_neg hw, if_neg (fun h => hw (e2.2 h))]
theorem WeiD.diag {n : Nat} {ss xs ds : List Nat} {i r : Nat} (h : WeiD n ss xs i n ds) (hi : i < n) (hr : av .f32 r = weiL (weiS n ss xs i n)) : WeiD n ss xs (i + 1) 0 (ds.set (i * n + i) r) := by
  have hl := h.len
  have hf : i * n + i < n * n := by have := row_in hi; omega
  obtain ⟨d1, d2⟩ := at_div (i := i) hi
  refine ⟨by rw [List.length_set, hl], fun j hj => ?_⟩
  by_cases e : j = i * n + i
  · rw [e, List.getElem?_set_self (by omega), if_pos (by unfold weiW; rw [d1]; omega), weiG_at hi, if_pos rfl]
    exact hr
  · rw [List.getElem?_set_ne (fun h => e h.symm), h.val j hj]
    have hm : j % n < n := Nat.mod_lt _ (by omega)
    have e2 : weiW n i n j ↔ weiW n (i + 1) 0 j := by
      have : ¬(j / n = i ∧ j % n = i) := fun ⟨a, b⟩ => e (div_back a b)
      unfold weiW; omega
    by_cases hw : weiW n i n j
    · rw [if_pos hw, if_pos (e2.1 hw)]
    · rw [if_neg hw, if_neg (fun h => hw (e2.2 h))]
theorem WeiD.done {n : Nat} {ss xs ds : List Nat} (h : WeiD n ss xs n 0 ds) : alikeL ds (canL (n * n) (weiG n ss xs)) :=
  canL_of h.len fun j hj => by
    have : j / n < n := Nat.div_lt_of_lt_mul hj
    rw [h.val j hj, if_pos (.inl this)]
theorem run_farithB {P : Program} (op : BinOp) (hop : isArith op = true) (x y : Nat) (w : World) : ∃ r n, (∀ t, (binOp op t (.float .f32 x) (.float .f32 y)).run P w = .ok (.float .f32 r) (w.drewN n)) ∧ av .f32 r = aop op .f32 (av .f32 x) (av .f32 y) := by
  obtain ⟨r, n, hrun, hr⟩ := run_farith (P := P) op .f32 x y w hop
  refine ⟨r, n, fun t => ?_, hr.2⟩
  have hb : binOp op t (.float .f32 x) (.float .f32 y) = Op.floatArith op .f32 x y := by
    cases op <;> simp [isArith] at hop <;> simp [binOp]
  rw [hb]; exact hrun
/-- What lies in memory while it is made. -/
structure WMem (w wr : World) (n b o m c : Nat) (ds : List Nat) : Prop where
  c0 : Whole wr w.heap.size 34 #[.int .i64 n, .slice (some ⟨b, o, none⟩) m c]
  c1 : Whole wr (w.heap.size + 1) 34 #[.int .i64 0, .slice none 0 0]
  row : Whole wr (w.heap.size + 2) 47 (fl .f32 ds).toArray
  c3 : Whole wr (w.heap.size + 2 + 1) 34 #[.int .i64 n, .slice (some ⟨w.heap.size + 2, 0, none⟩) m m]
  bel : Below w.heap.size w wr
theorem WMem.below {w wr w' : World} {n b o m c : Nat} {ds : List Nat} (h : WMem w wr n b o m c ds) (hb : Below wr.heap.size wr w') : WMem w w' n b o m c ds := ⟨h.c0.below hb, h.c1.below hb, h.row.below hb, h.c3.below hb, Bel_next h.bel hb⟩
theorem WMem.drewN {w wr : World} {n b o m c : Nat} {ds : List Nat} (h : WMem w wr n b o m c ds) (q : Nat) : WMem w (wr.drewN q) n b o m c ds := ⟨h.c0.drewN q, h.c1.drewN q, h.row.drewN q, h.c3.drewN q, Bel_drewN h.bel q⟩
theorem WMem.put {w wr : World} {n b o m c : Nat} {ds : List Nat} (h : WMem w wr n b o m c ds) (f r : Nat) : WMem w (wr.setCell ⟨w.heap.size + 2, f, none⟩ (.float .f32 r)) n b o m c (ds.set f r) :=
  ⟨h.c0.far (p := ⟨w.heap.size + 2, f, none⟩) (by simp) _, h.c1.far (p := ⟨w.heap.size + 2, f, none⟩) (by simp) _, fl_put h.row f r, h.c3.far (p := ⟨w.heap.size + 2, f, none⟩) (by simp) _, h.bel.setCell (p := ⟨w.heap.size + 2, f, none⟩) (by simp) _⟩
set_option maxRecDepth 100000 in
set_option maxHeartbeats 4000000 in
theorem specWei_yes (s : Int) (ss xs : List Nat) (m k : Nat) (hm : ss.length = m) (hk : xs.length = k) (ao bo : Option Addr) (c d : Nat) (w : World) (hs : Holds w ao (fl .f32 ss)) (hx : Holds w bo (fl .f32 xs)) (hlen : m ≤ 1048576) (hlk : k ≤ 1048576) (hC : weighed s ss xs) :
    ∃ n : Nat, s = n ∧ m = n * n ∧ Calls Try.prog 42 #[.agg #[.int .i64 s, .slice ao m c], .slice bo k d] w (ChR n (n * n) (weiG n ss xs) w) := by
  obtain ⟨n, rfl, n1, n2, n3, n4, n5, n6⟩ := hC.1.nat
  obtain rfl : k = n := by omega
  obtain ⟨b, o, rfl⟩ := hs.at (by rw [fl_len32, n3]; exact Nat.mul_pos n1 n1)
  obtain ⟨b', o', rfl⟩ := hx.at (by rw [fl_len32]; omega)
  refine ⟨k, rfl, by rw [← hm]; exact n3, ?_⟩
  have HX := Lib.hid (And.intro hs (And.intro hx (And.intro hm (And.intro hk (And.intro n3 hC)))))
  have hn12 : (k : Int) ≤ 12 := by omega
  have hm144 : m ≤ 144 := by have := sq_le n2; omega
  have hm144' : (m : Int) ≤ 144 := by omega
  have hkk : m = k * k := by omega
  have hww : IntKind.i64.wrap ((k : Int) * (k : Int)) = (m : Int) := by rw [← Int.natCast_mul, ← hkk, IntKind.wrap_i64]; omega
  have hmk := fun w : World => run_mk (P := Try.prog) w 25 47 (.float .f32 0) 4 m Try.underlying25 (by kernel_rfl) rfl (by omega) (by omega)
  have HKK := Lib.hid hkk
  clear hs hx hm hk n3 n4 n5 n6 hC hkk
  go_enter Try.func42, Try.ntmps42
  go_wp2_with (first | (go_at_call 83; fail))
  generalize hW : World.alloc (World.alloc _ _) _ = w0
  have H0 : Hid (Whole w0 w.heap.size 34 #[.int .i64 k, .slice (some ⟨b, o, none⟩) m c] ∧ Whole w0 (w.heap.size + 1) 34 #[.int .i64 0, .slice none 0 0] ∧ Below w.heap.size w w0 ∧ w0.heap.size = w.heap.size + 2) := Lib.hid (by rw [← hW]; exact ⟨(Whole.made _ _ _).alloc _, Whole.made2 _ _ _ _, (by repeat (first | with_reducible exact Below.refl _ _ | with_reducible exact HBL | with_reducible refine Below.drew ?_ | with_reducible refine Bel_drewN ?_ _ | with_reducible refine Below.alloc ?_ (by first | omega | (simp; done) | (simp; omega)) _ | with_reducible refine Below.setCell ?_ (by first | omega | (simp; done) | (simp; omega)) _)), by simp⟩)
  clear hW
  refine ((l07Fits_any k ss xs m k HX.out.2.2.1 HX.out.2.2.2.1 _ _ c d _ _ H0.out.1 (HX.out.1.below H0.out.2.2.1) (HX.out.2.1.below H0.out.2.2.1) hlen hlk).mono fun e w1 h => BoD.yes HX.out.2.2.2.2.2.1 h).mono ?_
  rintro e w1 ⟨q, rfl, rfl⟩
  go_wp2_with (first | (go_at_call 93; fail))
  refine (l07Above_any xs k HX.out.2.2.2.1 _ d _ (HX.out.2.1.below (Bel_drewN H0.out.2.2.1 q)) hlk).mono ?_
  rintro e w' ⟨b2, rfl, hb2, rfl⟩
  obtain rfl : b2 = true := hb2.2 HX.out.2.2.2.2.2.2
  clear hb2
  obtain ⟨wq, hwq⟩ : ∃ wq, wq = w0.drewN q := ⟨_, rfl⟩
  have H1 := Lib.hid (show Whole wq w.heap.size 34 #[.int .i64 k, .slice (some ⟨b, o, none⟩) m c] ∧ Whole wq (w.heap.size + 1) 34 #[.int .i64 0, .slice none 0 0] ∧ Below w.heap.size w wq ∧ wq.heap.size = w.heap.size + 2 from by rw [hwq]; exact ⟨H0.out.1.drewN q, H0.out.2.1.drewN q, Bel_drewN H0.out.2.2.1 q, H0.out.2.2.2⟩)
  rw [← hwq]
  obtain ⟨hc0, hf0⟩ := H1.out.1.facts
  have hz1 := H1.out.2.1.lt
  clear hwq H0
  go_wp2_with fail
  clear hc0 hf0 hz1 hmk
  have hsz := H1.out.2.2.2
  rw [hsz]
  clear hsz
  generalize hW : World.alloc (World.alloc _ _) _ = w5
  have H5 : Hid (WMem w w5 k b o m c (List.replicate (k * k) 0)) := Lib.hid (by
    rw [← hW]
    have h := Whole.made wq 47 (Array.replicate m (.float .f32 0))
    have h3 := Whole.made2 wq (.cells (Array.replicate m (.float .f32 0)) 47) 34 #[.int .i64 k, .slice (some ⟨w.heap.size + 2, 0, none⟩) m m]
    rw [H1.out.2.2.2] at h h3
    have e : (fl .f32 (List.replicate (k * k) 0)).toArray = Array.replicate m (Value.float .f32 0) := by rw [← HKK.out]; simp [fl]
    exact ⟨(H1.out.1.alloc _).alloc _, (H1.out.2.1.alloc _).alloc _, by rw [e]; exact h.alloc _, h3, ((H1.out.2.2.1.alloc (by have := H1.out.2.2.2; omega) _).alloc (by have := H1.out.2.2.2; simp; omega) _)⟩)
  clear hW H1
  go_loopw [8] (fun i wr => ∃ (a : Nat) (ds : List Nat), a ≤ k ∧ i = .int .i64 a ∧ WeiD k ss xs a 0 ds ∧ WMem w wr k b o m c ds) (fun i _ => k - (intOf i).toNat)
  case atStart => exact ⟨0, _, Nat.zero_le _, rfl, WeiD.start k ss xs, H5.out⟩
  case round =>
    obtain ⟨a, ds, ha, rfl, hD, hM⟩ := hrel
    have H := Lib.hid (And.intro hD hM)
    have han : (a : Int) ≤ k := by omega
    clear hD hM H5
    by_cases hlt : a < k
    · have hlt' : (a : Int) < k := by omega
      go_wp2_with fail
      rename World => wa
      go_loopw [9, 10] (fun s x wr => ∃ (e r : Nat) (ds : List Nat), e ≤ k ∧ x = .int .i64 e ∧ s = .float .f32 r ∧ av .f32 r = weiS k ss xs a e ∧ WeiD k ss xs a e ds ∧ WMem w wr k b o m c ds) (fun _ x _ => k - (intOf x).toNat)
      case atStart => exact ⟨0, 0, ds, Nat.zero_le _, rfl, rfl, av_zero32, H.out⟩
      case round =>
        obtain ⟨e, r, es, he, rfl, rfl, hr, hD, hM⟩ := hrel
        have H2 := Lib.hid (And.intro hr (And.intro hD hM))
        have hen : (e : Int) ≤ k := by omega
        have hz2 := hM.c3.lt
        obtain ⟨hc0, hf0⟩ := hM.c0.facts
        obtain ⟨hc3, hf3⟩ := hM.c3.facts
        clear hr hD H
        by_cases hlt2 : e < k
        · have hlt2' : (e : Int) < k := by omega
          have hin1 := row_in hlt
          have hin2 := row_in hlt2
          obtain ⟨ak, hak⟩ : ∃ z, a * k = z := ⟨_, rfl⟩
          obtain ⟨g, hg⟩ : ∃ f, ak + e = f := ⟨_, rfl⟩
          have hgm : g < m := by have := HKK.out; omega
          have hw3 : IntKind.i64.wrap ((a : Int) * (k : Int)) = (ak : Int) := by rw [← Int.natCast_mul, hak, IntKind.wrap_i64]; omega
          have hw4 : IntKind.i64.wrap ((ak : Int) + (e : Int)) = (g : Int) := by rw [IntKind.wrap_i64]; omega
          have g2 : (g : Int) < (m : Int) := by omega
          have g3 : (0 : Int) ≤ (g : Int) := by omega
          obtain ⟨b2, o2, e', hcg⟩ := (HX.out.1.below hM.bel) g (by rw [fl_len32, HX.out.2.2.1]; exact hgm)
          cases e'
          rw [fl_get _ _ _ (by rw [HX.out.2.2.1]; exact hgm)] at hcg
          have HGI := Lib.hid (show a * k + e = g by omega)
          by_cases hea : e = a
          · subst hea
            clear hM
            go_wp2_with fail
            go_roundw
            case rel => exact ⟨e + 1, r, es, by omega, by go_num, rfl, by rw [weiS_own]; exact H2.out.1, H2.out.2.1.own, H2.out.2.2⟩
            case measure => simp [intOf]; omega
          · have HEA := Lib.hid hea
            have hea' : ¬(e : Int) = a := by omega
            clear hea
            cases hz : zB (ss[g]?.getD 0) with
            | true =>
              have HZ := Lib.hid (show zB (ss[a * k + e]?.getD 0) = true from by rw [HGI.out]; exact hz)
              have hz3 := zB_fact hz
              clear hz hM
              go_wp2_with fail
              go_roundw
              case rel => exact ⟨e + 1, r, es, by omega, by go_num, rfl, by rw [weiS_skip HEA.out HZ.out]; exact H2.out.1, H2.out.2.1.skip hlt2 HEA.out HZ.out, H2.out.2.2⟩
              case measure => simp [intOf]; omega
            | false =>
              have hz3 := zB_fact hz
              have HT := Lib.hid (show ss[a * k + e]?.getD 0 = ss[g]?.getD 0 from by rw [HGI.out])
              have HZ := Lib.hid hz
              obtain ⟨ek, hek⟩ : ∃ z, e * k = z := ⟨_, rfl⟩
              obtain ⟨f, hf⟩ : ∃ f, ek + a = f := ⟨_, rfl⟩
              have hfm : f < m := by have := HKK.out; omega
              have hw1 : IntKind.i64.wrap ((e : Int) * (k : Int)) = (ek : Int) := by rw [← Int.natCast_mul, hek, IntKind.wrap_i64]; omega
              have hw2 : IntKind.i64.wrap ((ek : Int) + (a : Int)) = (f : Int) := by rw [IntKind.wrap_i64]; omega
              have g1 : (f : Int) < (m : Int) := by omega
              have g4 : (0 : Int) ≤ (f : Int) := by omega
              obtain ⟨b2, o2, e', hcs⟩ := (HX.out.1.below hM.bel) f (by rw [fl_len32, HX.out.2.2.1]; exact hfm)
              cases e'
              rw [fl_get _ _ _ (by rw [HX.out.2.2.1]; exact hfm)] at hcs
              obtain ⟨b2, o2, e', hce⟩ := (HX.out.2.1.below hM.bel) e (by rw [fl_len32, HX.out.2.2.2.1]; exact hlt2)
              cases e'
              rw [fl_get _ _ _ (by rw [HX.out.2.2.2.1]; exact hlt2)] at hce
              obtain ⟨b2, o2, e', hca⟩ := (HX.out.2.1.below hM.bel) a (by rw [fl_len32, HX.out.2.2.2.1]; exact hlt)
              cases e'
              rw [fl_get _ _ _ (by rw [HX.out.2.2.2.1]; exact hlt)] at hca
              have HE : Hid (weiE k ss xs a e = weiP (xs[e]?.getD 0) (ss[f]?.getD 0) (xs[a]?.getD 0) (ss[g]?.getD 0)) := Lib.hid (by unfold weiE; rw [HGI.out, hek, hf])
              generalize ss[f]?.getD 0 = z at hcs HE
              generalize ss[g]?.getD 0 = t at hcg HE HT HZ hz3
              generalize xs[e]?.getD 0 = x at hce HE
              generalize xs[a]?.getD 0 = y at hca HE
              have HC : Hid (∀ v, CB wr v → v.cell? ⟨b, o + f, none⟩ = some (.float .f32 z) ∧ v.cell? ⟨b', o' + e, none⟩ = some (.float .f32 x) ∧ v.cell? ⟨b', o' + a, none⟩ = some (.float .f32 y)) := Lib.hid fun v hv => ⟨hv.cell hcs, hv.cell hce, hv.cell hca⟩
              clear hz hek hf hfm hin1 hin2 hak hg hgm hcs hce hca
              go_wp2_with fail
              clear hcg hz3
              refine wp_region_lex (C := CB wr) (by kernel_rfl) (by kernel_rfl) (CB.drew wr) ?_
              apply lexB_move rfl (.inl rfl); (focus (simp [go_sem]; rfl))
              apply lexB_move rfl (.inl rfl); (focus (simp [go_sem]; rfl))
              apply lexB_pure rfl; (focus (intro v hv; obtain ⟨hq0, _⟩ := CB.cells hv hM.c0; obtain ⟨hq1, hq2, hq3⟩ := HC.out v hv; go_simp; rfl)); (focus (simp [go_sem]; rfl))
              apply lexB_pure rfl; (focus (intro v hv; obtain ⟨hq0, _⟩ := CB.cells hv hM.c0; obtain ⟨hq1, hq2, hq3⟩ := HC.out v hv; go_simp; rfl)); (focus (simp [go_sem]; rfl))
              apply lexB_pure rfl; (focus (intro v hv; obtain ⟨hq0, _⟩ := CB.cells hv hM.c0; obtain ⟨hq1, hq2, hq3⟩ := HC.out v hv; go_simp; rfl)); (focus (simp [go_sem]; rfl))
              apply lexB_pure rfl; (focus (intro v hv; obtain ⟨hq0, _⟩ := CB.cells hv hM.c0; obtain ⟨hq1, hq2, hq3⟩ := HC.out v hv; go_simp; rfl)); (focus (simp [go_sem]; rfl))
              apply lexB_move rfl (.inl rfl); (focus (simp [go_sem]; rfl))
              apply lexB_move rfl (.inl rfl); (focus (simp [go_sem]; rfl))
              apply lexB_pure rfl; (focus (intro v hv; obtain ⟨hq0, _⟩ := CB.cells hv hM.c0; obtain ⟨hq1, hq2, hq3⟩ := HC.out v hv; go_simp; rfl)); (focus (simp [go_sem]; rfl))
              apply lexB_move rfl (.inl rfl); (focus (simp [go_sem]; rfl))
              apply lexB_pure rfl; (focus (intro v hv; obtain ⟨hq0, _⟩ := CB.cells hv hM.c0; obtain ⟨hq1, hq2, hq3⟩ := HC.out v hv; go_simp; rfl)); (focus (simp [go_sem]; rfl))
              apply lexB_pure rfl; (focus (intro v hv; obtain ⟨hq0, _⟩ := CB.cells hv hM.c0; obtain ⟨hq1, hq2, hq3⟩ := HC.out v hv; go_simp; rfl)); (focus (simp [go_sem]; rfl))
              apply lexB_pure rfl; (focus (intro v hv; obtain ⟨hq0, _⟩ := CB.cells hv hM.c0; obtain ⟨hq1, hq2, hq3⟩ := HC.out v hv; go_simp; rfl)); (focus (simp [go_sem]; rfl))
              apply lexB_farith .mul _ _ _ _ .f32 _ _ rfl rfl rfl; (focus (intro r; simp [go_sem]; rfl)); intro r1 hr1
              apply lexB_move rfl (.inl rfl); (focus (simp [go_sem]; rfl))
              apply lexB_move rfl (.inl rfl); (focus (simp [go_sem]; rfl))
              apply lexB_pure rfl; (focus (intro v hv; obtain ⟨hq0, _⟩ := CB.cells hv hM.c0; obtain ⟨hq1, hq2, hq3⟩ := HC.out v hv; go_simp; rfl)); (focus (simp [go_sem]; rfl))
              apply lexB_pure rfl; (focus (intro v hv; obtain ⟨hq0, _⟩ := CB.cells hv hM.c0; obtain ⟨hq1, hq2, hq3⟩ := HC.out v hv; go_simp; rfl)); (focus (simp [go_sem]; rfl))
              apply lexB_move rfl (.inl rfl); (focus (simp [go_sem]; rfl))
              apply lexB_farith .mul _ _ _ _ .f32 _ _ rfl rfl rfl; (focus (intro r; simp [go_sem]; rfl)); intro r2 hr2
              apply lexB_farith .quo _ _ _ _ .f32 _ _ rfl rfl rfl; (focus (intro r; simp [go_sem]; rfl)); intro r3 hr3
              apply lexB_move rfl (.inr rfl); (focus (simp [go_sem]; rfl))
              refine lexB_nil ?_
              rintro w6 hw6
              have H6 := Lib.hid (hM.below (show Below wr.heap.size wr w6 from hw6))
              have HV : Hid (minA (weiQ x z y t) = av .f32 (if gtB r3 1065353216 then 1065353216 else r3)) := Lib.hid (by
                have h := minA_of (u := av .f32 r1) (v := av .f32 r2) (r := r3) hr3.2
                rw [← h, hr1.2, hr2.2]; rfl)
              have hgl : g < es.length := by rw [H2.out.2.1.len, ← HKK.out]; omega
              have hold := fl_cell H6.out.row g hgl
              have hfz := H6.out.row.frozen g
              obtain ⟨hc3b, hf3b⟩ := H6.out.c3.facts
              clear hr1 hr2 hr3 hw6 hM hw1 hw2 g1 g4 hc0 hf0 hc3 hf3 HC
              have hflag : True := trivial
              cases hgt : gtB r3 1065353216 with
              | true =>
                have hg2 := gt_factB hgt
                have HM2 : Hid (minA (weiQ x z y t) = av .f32 (1065353216)) := Lib.hid (by have h := HV.out; rw [hgt] at h; exact h)
                clear hgt
                go_wp2_with (first
                  | (clear hflag; refine wpList_farith _ _ _ _ _ .f32 _ _ rfl rfl rfl ?_; intro r4 n4 hr4; have HP := Lib.hid ((H6.out.drewN n4).put g r4); obtain ⟨hcA, hfA⟩ := HP.out.c3.facts; have hcB := fl_cell HP.out.row g (by rw [List.length_set]; exact hgl))
                  | (refine wpList_farith _ _ _ _ _ .f32 _ _ rfl rfl rfl ?_; intro r5 n5 hr5))
                have HR4 : Hid (av .f32 r4 = weiE k ss xs a e) := Lib.hid (by rw [HE.out]; unfold weiP; rw [if_neg (by rw [HZ.out]; decide), HM2.out]; exact hr4.2)
                have HR5 : Hid (av .f32 r5 = weiS k ss xs a (e + 1)) := Lib.hid (by rw [weiS_other HEA.out, ← H2.out.1, ← HR4.out]; first | exact hr5.2 | (have h5 := hr5.2; rwa [List.getElem?_set_self hgl] at h5))
                have H7 := Lib.hid (HP.out.drewN n5)
                clear hr4 hr5 hcA hfA hcB hold hfz hc3b hf3b hg2
                exact ⟨⟨e + 1, r5, es.set g r4, by omega, by go_num, rfl, HR5.out, by have h := H2.out.2.1.put hlt hlt2 HEA.out HR4.out; rwa [HGI.out] at h, H7.out⟩, by simp [intOf]; omega⟩
              | false =>
                have hg2 := gt_factB hgt
                have HM2 : Hid (minA (weiQ x z y t) = av .f32 (r3)) := Lib.hid (by have h := HV.out; rw [hgt] at h; exact h)
                clear hgt
                go_wp2_with (first
                  | (clear hflag; refine wpList_farith _ _ _ _ _ .f32 _ _ rfl rfl rfl ?_; intro r4 n4 hr4; have HP := Lib.hid ((H6.out.drewN n4).put g r4); obtain ⟨hcA, hfA⟩ := HP.out.c3.facts; have hcB := fl_cell HP.out.row g (by rw [List.length_set]; exact hgl))
                  | (refine wpList_farith _ _ _ _ _ .f32 _ _ rfl rfl rfl ?_; intro r5 n5 hr5))
                have HR4 : Hid (av .f32 r4 = weiE k ss xs a e) := Lib.hid (by rw [HE.out]; unfold weiP; rw [if_neg (by rw [HZ.out]; decide), HM2.out]; exact hr4.2)
                have HR5 : Hid (av .f32 r5 = weiS k ss xs a (e + 1)) := Lib.hid (by rw [weiS_other HEA.out, ← H2.out.1, ← HR4.out]; first | exact hr5.2 | (have h5 := hr5.2; rwa [List.getElem?_set_self hgl] at h5))
                have H7 := Lib.hid (HP.out.drewN n5)
                clear hr4 hr5 hcA hfA hcB hold hfz hc3b hf3b hg2
                exact ⟨⟨e + 1, r5, es.set g r4, by omega, by go_num, rfl, HR5.out, by have h := H2.out.2.1.put hlt hlt2 HEA.out HR4.out; rwa [HGI.out] at h, H7.out⟩, by simp [intOf]; omega⟩
        · obtain rfl : e = k := by omega
          obtain ⟨r6, n6, hsub, hr6⟩ := run_farithB (P := Try.prog) .sub rfl 1065353216 r wr
          have HL : Hid (weiL (weiS e ss xs a e) = av .f32 (if ltB r6 0 then 0 else r6)) := Lib.hid (maxA_of (by rw [← H2.out.1, hr6, av_one.1]))
          have hin1 := row_in hlt
          obtain ⟨ak, hak⟩ : ∃ z, a * e = z := ⟨_, rfl⟩
          obtain ⟨g, hg⟩ : ∃ f, ak + a = f := ⟨_, rfl⟩
          have hgm : g < m := by have := HKK.out; omega
          have hw3 : IntKind.i64.wrap ((a : Int) * (e : Int)) = (ak : Int) := by rw [← Int.natCast_mul, hak, IntKind.wrap_i64]; omega
          have hw4 : IntKind.i64.wrap ((ak : Int) + (a : Int)) = (g : Int) := by rw [IntKind.wrap_i64]; omega
          have g2 : (g : Int) < (m : Int) := by omega
          have g3 : (0 : Int) ≤ (g : Int) := by omega
          have HGI := Lib.hid (show a * e + a = g by omega)
          have H6 := Lib.hid (hM.drewN n6)
          have hgl : g < es.length := by rw [H2.out.2.1.len, ← HKK.out]; omega
          have hold := fl_cell H6.out.row g hgl
          have hfz := H6.out.row.frozen g
          obtain ⟨hc3b, hf3b⟩ := H6.out.c3.facts
          clear hc0 hf0 hc3 hf3 hM hr6 hin1 hak hg hgm
          cases hl0 : ltB r6 0 with
          | true =>
            have hl2 := lt_factB hl0
            have HV : Hid (av .f32 0 = weiL (weiS e ss xs a e)) := Lib.hid (by have h := HL.out; rw [hl0] at h; exact h.symm)
            have H7 := Lib.hid (H6.out.put g 0)
            clear hl0
            go_wp2_with fail
            clear hold hfz hc3b hf3b hsub hl2
            go_roundw
            case rel => exact ⟨a + 1, es.set g 0, by omega, by go_num, by have h := H2.out.2.1.diag hlt HV.out; rwa [HGI.out] at h, H7.out⟩
            case measure => simp [intOf]; omega
          | false =>
            have hl2 := lt_factB hl0
            have HV : Hid (av .f32 r6 = weiL (weiS e ss xs a e)) := Lib.hid (by have h := HL.out; rw [hl0] at h; exact h.symm)
            have H7 := Lib.hid (H6.out.put g r6)
            clear hl0
            go_wp2_with fail
            clear hold hfz hc3b hf3b hsub hl2
            go_roundw
            case rel => exact ⟨a + 1, es.set g r6, by omega, by go_num, by have h := H2.out.2.1.diag hlt HV.out; rwa [HGI.out] at h, H7.out⟩
            case measure => simp [intOf]; omega
    · obtain rfl : a = k := by omega
      obtain ⟨z, hz⟩ : ∃ z, z = a * a := ⟨_, rfl⟩
      have hmz : m = z := by rw [hz]; exact HKK.out
      have hzl : z ≤ 1048576 := by omega
      have HR := Lib.hid (And.intro H.out.1.done (And.intro (show Row wr (w.heap.size + 2) wr.heap.size (some ⟨w.heap.size + 2, 0, none⟩) (fl .f32 ds) from fl_row H.out.2.row (Nat.le_refl _) H.out.2.row.lt) (show ds.length = z by rw [hz]; exact H.out.1.len)))
      obtain ⟨hc4, hf4⟩ := H.out.2.c3.facts
      have Q := Lib.hid (And.intro H.out.2.c1 H.out.2.bel)
      have HMZ := Lib.hid (And.intro hz hmz)
      clear hz hmz H
      go_wp2_with (first | (go_at_call 94; fail))
      refine (l07Give_any a ds m (w.heap.size + 2) (by rw [HMZ.out.2]; exact HR.out.2.2) _ _ _ HR.out.2.1 hlen).mono ?_
      rintro e w6 ⟨hw6, hd⟩
      have r1 := Q.out.1.below hw6
      obtain ⟨hc6, hf6⟩ := r1.facts
      have HBL := Bel_next Q.out.2 hw6
      have HRW := Lib.hid (HR.out.2.1.below hw6)
      have hz6 := r1.lt
      have hz5 := hw6.size
      clear hc4 hf4 r1 hw6
      rcases hd with ⟨hk, rfl⟩ | ⟨hk, rfl⟩
      · have HE := Lib.hid (And.intro (HR.out.1.chain hk) (HR.out.1.eq hk))
        clear hk
        go_wp2_with fail
        obtain rfl := HMZ.out.2
        obtain rfl := HMZ.out.1
        refine bodyPost_ret (v := .tuple #[.agg #[.int .i64 a, .slice (some ⟨w.heap.size + 2, 0, none⟩) (a * a) (a * a)], .bool true]) (by simp [results, Try.results42, go_sem, hc6]) rfl (.inl ⟨HE.out.1, _, _, rfl, ?_, (by repeat (first | with_reducible exact Below.refl _ _ | with_reducible exact HBL | with_reducible refine Below.drew ?_ | with_reducible refine Bel_drewN ?_ _ | with_reducible refine Below.alloc ?_ (by first | omega | (simp; done) | (simp; omega)) _ | with_reducible refine Below.setCell ?_ (by first | omega | (simp; done) | (simp; omega)) _))⟩)
        rw [← HE.out.2]
        exact ((((HRW.out.far (.inl (by simp)) _).far (.inl (by simp)) _)).wide (by omega) (by simp; omega))
      · have HE := Lib.hid (show ¬ isChain a (canL (a * a) (weiG a ss xs)) from fun h => hk (HR.out.1.symm.chain h))
        clear hk
        go_wp2_with fail
        exact bodyPost_ret (v := .tuple #[.agg #[.int .i64 0, .slice none 0 0], .bool false]) (by simp [results, Try.results42, go_sem, hc6]) rfl (.inr ⟨HE.out, rfl, (by repeat (first | with_reducible exact Below.refl _ _ | with_reducible exact HBL | with_reducible refine Below.drew ?_ | with_reducible refine Bel_drewN ?_ _ | with_reducible refine Below.alloc ?_ (by first | omega | (simp; done) | (simp; omega)) _ | with_reducible refine Below.setCell ?_ (by first | omega | (simp; done) | (simp; omega)) _))⟩)
set_option maxRecDepth 100000 in
set_option maxHeartbeats 1000000 in
theorem specWei_no (s : Int) (ss xs : List Nat) (m k : Nat) (hm : ss.length = m) (hk : xs.length = k) (ao bo : Option Addr) (c d : Nat) (w : World) (hs : Holds w ao (fl .f32 ss)) (hx : Holds w bo (fl .f32 xs)) (hlen : m ≤ 1048576) (hlk : k ≤ 1048576) (hC : ¬ weighed s ss xs) :
    Calls Try.prog 42 #[.agg #[.int .i64 s, .slice ao m c], .slice bo k d] w (RetB (.tuple #[.agg #[.int .i64 0, .slice none 0 0], .bool false]) w) := by
  have HX := Lib.hid (And.intro hs (And.intro hx (And.intro hm (And.intro hk hC))))
  clear hs hx hm hk hC
  go_enter Try.func42, Try.ntmps42
  go_wp2_with (first | (go_at_call 83; fail))
  generalize hW : World.alloc (World.alloc _ _) _ = w0
  have H0 : Hid (Whole w0 w.heap.size 34 #[.int .i64 s, .slice ao m c] ∧ Whole w0 (w.heap.size + 1) 34 #[.int .i64 0, .slice none 0 0] ∧ Below w.heap.size w w0) := Lib.hid (by rw [← hW]; exact ⟨(Whole.made _ _ _).alloc _, Whole.made2 _ _ _ _, (by repeat (first | with_reducible exact Below.refl _ _ | with_reducible exact HBL | with_reducible refine Below.drew ?_ | with_reducible refine Bel_drewN ?_ _ | with_reducible refine Below.alloc ?_ (by first | omega | (simp; done) | (simp; omega)) _ | with_reducible refine Below.setCell ?_ (by first | omega | (simp; done) | (simp; omega)) _))⟩)
  clear hW
  refine (l07Fits_any s ss xs m k HX.out.2.2.1 HX.out.2.2.2.1 _ bo c d _ _ H0.out.1 (HX.out.1.below H0.out.2.2) (HX.out.2.1.below H0.out.2.2) hlen hlk).mono ?_
  rintro e w1 ⟨bf, q, rfl, hbf, rfl⟩
  have HB := Lib.hid hbf
  have r1 := H0.out.2.1.drewN q
  obtain ⟨hc2, hf2⟩ := r1.facts
  have HBL := Bel_drewN H0.out.2.2 q
  clear hbf r1
  cases bf with
  | false =>
    go_wp2_with (first | (go_at_call 93; fail))
    exact bodyPost_ret (v := .tuple #[.agg #[.int .i64 0, .slice none 0 0], .bool false]) (by simp [results, Try.results42, go_sem, hc2]) rfl ⟨rfl, (by repeat (first | with_reducible exact Below.refl _ _ | with_reducible exact HBL | with_reducible refine Below.drew ?_ | with_reducible refine Bel_drewN ?_ _ | with_reducible refine Below.alloc ?_ (by first | omega | (simp; done) | (simp; omega)) _ | with_reducible refine Below.setCell ?_ (by first | omega | (simp; done) | (simp; omega)) _))⟩
  | true =>
    go_wp2_with (first | (go_at_call 93; fail))
    refine (l07Above_any xs k HX.out.2.2.2.1 bo d _ (HX.out.2.1.below HBL) hlk).mono ?_
    rintro e w' ⟨b2, rfl, hb2, rfl⟩
    have hb3 : b2 = false := by
      cases b2 with
      | false => rfl
      | true => exact absurd ⟨HB.out.1 (by simp), hb2.1 rfl⟩ HX.out.2.2.2.2
    subst hb3
    clear hb2
    go_wp2_with fail
    exact bodyPost_ret (v := .tuple #[.agg #[.int .i64 0, .slice none 0 0], .bool false]) (by simp [results, Try.results42, go_sem, hc2]) rfl ⟨rfl, (by repeat (first | with_reducible exact Below.refl _ _ | with_reducible exact HBL | with_reducible refine Below.drew ?_ | with_reducible refine Bel_drewN ?_ _ | with_reducible refine Below.alloc ?_ (by first | omega | (simp; done) | (simp; omega)) _ | with_reducible refine Below.setCell ?_ (by first | omega | (simp; done) | (simp; omega)) _))⟩
theorem specWei_is (s : Int) (ss xs : List Nat) (m k : Nat) (hm : ss.length = m) (hk : xs.length = k) (ao bo : Option Addr) (c d : Nat) (w : World) (hs : Holds w ao (fl .f32 ss)) (hx : Holds w bo (fl .f32 xs)) (hlen : m ≤ 1048576) (hlk : k ≤ 1048576) (hF : weighed s ss xs ∧ isChain s (canL m (weiG s.toNat ss xs))) :
    Calls Try.prog 42 #[.agg #[.int .i64 s, .slice ao m c], .slice bo k d] w (RetL m (fl .f32 (canL m (weiG s.toNat ss xs))) (fun x => .tuple #[.agg #[.int .i64 s, x], .bool true]) w) := by
  obtain ⟨n, rfl, hmn, h⟩ := specWei_yes s ss xs m k hm hk ao bo c d w hs hx hlen hlk hF.1
  have h2 := hF.2
  simp only [Int.toNat_natCast] at h2 ⊢
  rw [hmn] at h2 ⊢
  rw [hmn] at h
  exact h.mono fun e w1 hh => ChR.yes h2 hh
theorem specWei_not (s : Int) (ss xs : List Nat) (m k : Nat) (hm : ss.length = m) (hk : xs.length = k) (ao bo : Option Addr) (c d : Nat) (w : World) (hs : Holds w ao (fl .f32 ss)) (hx : Holds w bo (fl .f32 xs)) (hlen : m ≤ 1048576) (hlk : k ≤ 1048576) (hN : ¬(weighed s ss xs ∧ isChain s (canL m (weiG s.toNat ss xs)))) :
    Calls Try.prog 42 #[.agg #[.int .i64 s, .slice ao m c], .slice bo k d] w (RetB (.tuple #[.agg #[.int .i64 0, .slice none 0 0], .bool false]) w) := by
  by_cases hC : weighed s ss xs
  · obtain ⟨n, rfl, hmn, h⟩ := specWei_yes s ss xs m k hm hk ao bo c d w hs hx hlen hlk hC
    have h2 : ¬ isChain n (canL (n * n) (weiG n ss xs)) := fun k => hN ⟨hC, by simp only [Int.toNat_natCast]; rw [hmn]; exact k⟩
    exact h.mono fun e w1 hh => ChR.no h2 hh
  · exact specWei_no s ss xs m k hm hk ao bo c d w hs hx hlen hlk hC
theorem implWei_is (s : Int) (ss xs : List Nat) (m k : Nat) (hm : ss.length = m) (hk : xs.length = k) (ao bo : Option Addr) (c d : Nat) (w : World) (hs : Holds w ao (fl .f32 ss)) (hx : Holds w bo (fl .f32 xs)) (hlen : m ≤ 1048576) (hlk : k ≤ 1048576) (hc : m ≤ c) (hF : weighed s ss xs ∧ isChain s (canL m (weiG s.toNat ss xs))) :
    Calls Try.prog 43 #[.agg #[.int .i64 s, .slice ao m c], .slice bo k d] w (RetL m (fl .f32 (canL m (weiG s.toNat ss xs))) (fun x => .tuple #[.agg #[.int .i64 s, x], .bool true]) w) := by
  obtain ⟨n, rfl, hmn, h⟩ := implWei_yes s ss xs m k hm hk ao bo c d w hs hx hlen hlk hc hF.1
  have h2 := hF.2
  simp only [Int.toNat_natCast] at h2 ⊢
  rw [hmn] at h2 ⊢
  rw [hmn] at h
  exact h.mono fun e w1 hh => ChR.yes h2 hh
theorem implWei_not (s : Int) (ss xs : List Nat) (m k : Nat) (hm : ss.length = m) (hk : xs.length = k) (ao bo : Option Addr) (c d : Nat) (w : World) (hs : Holds w ao (fl .f32 ss)) (hx : Holds w bo (fl .f32 xs)) (hlen : m ≤ 1048576) (hlk : k ≤ 1048576) (hc : m ≤ c) (hN : ¬(weighed s ss xs ∧ isChain s (canL m (weiG s.toNat ss xs)))) :
    Calls Try.prog 43 #[.agg #[.int .i64 s, .slice ao m c], .slice bo k d] w (RetB (.tuple #[.agg #[.int .i64 0, .slice none 0 0], .bool false]) w) := by
  by_cases hC : weighed s ss xs
  · obtain ⟨n, rfl, hmn, h⟩ := implWei_yes s ss xs m k hm hk ao bo c d w hs hx hlen hlk hc hC
    have h2 : ¬ isChain n (canL (n * n) (weiG n ss xs)) := fun k => hN ⟨hC, by simp only [Int.toNat_natCast]; rw [hmn]; exact k⟩
    exact h.mono fun e w1 hh => ChR.no h2 hh
  · exact implWei_no s ss xs m k hm hk ao bo c d w hs hx hlen hlk hc hC
end Go.Proofs.Ytgeomaeccalceaa
