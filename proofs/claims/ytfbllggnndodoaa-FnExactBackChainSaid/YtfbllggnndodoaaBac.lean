/- BackChain: its numbers, the closure, the code. -/
import Derived.Test.YtfbllggnndodoaaCofBackChain
import Derived.Test.YtfbllggnndodoaaVag
import Derived.Test.YtfbllggnndodoaaSrx
import Derived.Test.YtfbllggnndodoaaWei
namespace Go.Proofs.Ytfbllggnndodoaa
open Go Go.RowKit Fl Vag
set_option linter.unusedVariables false
/- XLxb's laws (a copy: a claim has at most 60 texts). -/
def CB (w w' : World) : Prop := Below w.heap.size w w'
theorem CB.drew (w : World) : CB w w.drew := (Below.refl _ _).drew
section
variable {P : Program} {ops : Array Oper} {Q : Act → Prop} {rest : List Oper} {a : Act} {w : World} {o : Oper}
theorem lexB_nil (h : Q a) : Lex P (CB w) ops Q [] a := h
theorem lexB_some (hg : o.guard = none) (V : Value → Prop) (hv : ∀ w', CB w w' → ∃ u m, (execOp a.eval o).run P w' = .ok (.value u) (w'.drewN m) ∧ V u) (h : ∀ u, V u → Lex P (CB w) ops Q rest (a.put o.dst u)) : Lex P (CB w) ops Q (o :: rest) a := by
  have hwn : Region.wanted o (yielded ops a.tmps) = true := by simp [Region.wanted, hg]
  refine ⟨fun _ w' hw' => ?_, fun u hu => ?_⟩
  · obtain ⟨u, m, hm, _⟩ := hv w' hw'
    exact ⟨u, by unfold Yat; rw [hm]; exact ⟨Bel_drewN hw' m, rfl⟩⟩
  · rcases hu with ⟨_, w', hw', hy⟩ | ⟨h0, _⟩
    · obtain ⟨u', m, hm, hV⟩ := hv w' hw'
      unfold Yat at hy
      rw [hm] at hy
      obtain ⟨_, rfl⟩ := hy
      exact h _ hV
    · rw [hwn] at h0; cases h0
theorem lexB_pure (hg : o.guard = none) {v : Value} {a' : Act} (hv : ∀ w', CB w w' → (execOp a.eval o).run P w' = .ok (.value v) w') (he : a.put o.dst v = a') (h : Lex P (CB w) ops Q rest a') : Lex P (CB w) ops Q (o :: rest) a :=
  lexB_some hg (fun u => u = v) (fun w' hw' => ⟨v, 0, by rw [World.drewN_zero]; exact hv w' hw', rfl⟩) (fun u hu => by subst hu; rw [he]; exact h)
theorem lexB_move (hg : o.guard = none) {x : Operand} {a' : Act} (hx : o.op = .move x ∨ o.op = .assign x) (he : a.put o.dst (a.eval x) = a') (h : Lex P (CB w) ops Q rest a') : Lex P (CB w) ops Q (o :: rest) a :=
  lexB_pure hg (fun w' _ => by rcases hx with hx | hx <;> simp [execOp, hx]) he h
/-- A call whose value is known but for what is drawn, in whatever of these worlds. -/
theorem lexB_calls (hg : o.guard = none) (f : FuncId) (args : Array Value) (V : Value → Prop) (hi : P.inits.idxOf? f = none) (hr : ∀ w', CB w w' → (execOp a.eval o).run P w' = .ok (.enter f args) w')
    (hc : ∀ w', CB w w' → ∃ v, V v ∧ Calls P f args w' fun e w'' => e = .returned v ∧ CB w w'') (h : ∀ v, V v → Lex P (CB w) ops Q rest (a.put o.dst v)) : Lex P (CB w) ops Q (o :: rest) a := by
  have hwn : Region.wanted o (yielded ops a.tmps) = true := by simp [Region.wanted, hg]
  refine ⟨fun _ w' hw' => ?_, fun u hu => ?_⟩
  · obtain ⟨v, _, hv⟩ := hc w' hw'
    exact ⟨v, by unfold Yat; rw [hr w' hw']; exact ⟨rfl, hi, hv⟩⟩
  · rcases hu with ⟨_, w', hw', hy⟩ | ⟨h0, _⟩
    · unfold Yat at hy
      rw [hr w' hw'] at hy
      obtain ⟨_, _, h2⟩ := hy
      obtain ⟨v, hV, hv⟩ := hc w' hw'
      rw [calls_one hi h2 hv]
      exact h v hV
    · rw [hwn] at h0; cases h0
theorem lexB_fn {dst : Option Tmp} {ty : TypeId} {pos : String} {af : Array Edge} {f : FuncId} {xs : Array Operand} {ts : Array TypeId} {args : Array Value} (v : Value) (hi : P.inits.idxOf? f = none)
    (hr : ∀ w', CB w w' → (execOp a.eval (⟨dst, .call { callee := .value (.func f), args := xs, argTypes := ts }, ty, pos, af, none⟩ : Oper)).run P w' = .ok (.enter f args) w')
    (hc : ∀ w', CB w w' → Calls P f args w' fun e w'' => e = .returned v ∧ CB w w'') {a' : Act} (he : a.put dst v = a') (h : Lex P (CB w) ops Q rest a') :
    Lex P (CB w) ops Q (⟨dst, .call { callee := .value (.func f), args := xs, argTypes := ts }, ty, pos, af, none⟩ :: rest) a :=
  lexB_calls rfl f args (fun u => u = v) hi hr (fun w' hw' => ⟨v, rfl, hc w' hw'⟩) (fun u hu => by subst hu; show Lex P (CB w) ops Q rest (a.put dst _); rw [he]; exact h)
theorem lexB_farith {dst : Option Tmp} {ty : TypeId} {pos : String} {af : Array Edge} (op : BinOp) (t : TypeId) (x y : Operand) (z : TypeId) (k : FloatKind) (bx by_ : Nat) (hx : a.eval x = .float k bx) (hy : a.eval y = .float k by_) (hop : Fl.isArith op = true)
    {f : Nat → Act} (he : ∀ r, a.put dst (.float k r) = f r) (h : ∀ r, Fl.Fv k (Fl.aop op k (Fl.av k bx) (Fl.av k by_)) r → Lex P (CB w) ops Q rest (f r)) :
    Lex P (CB w) ops Q (⟨dst, .binOp op t x y z, ty, pos, af, none⟩ :: rest) a := by
  refine lexB_some rfl (fun u => ∃ r, u = .float k r ∧ Fl.Fv k (Fl.aop op k (Fl.av k bx) (Fl.av k by_)) r) (fun w' _ => ?_) (fun u ⟨r, hu, hr⟩ => by subst hu; show Lex P (CB w) ops Q rest (a.put dst _); rw [he]; exact h r hr)
  obtain ⟨r, m, hrun, hr⟩ := Fl.run_farith (P := P) op k bx by_ w' hop
  refine ⟨.float k r, m, ?_, r, rfl, hr⟩
  have hb : binOp op t (.float k bx) (.float k by_) = Op.floatArith op k bx by_ := by
    cases op <;> simp [Fl.isArith] at hop <;> simp [binOp]
  have hg : ∀ w, (eqGuard op t x y (.float k bx) (.float k by_)).run P w = .ok () w := by
    intro w; cases op <;> simp [Fl.isArith] at hop <;> rfl
  simp [execOp, hx, hy, hb, hg, hrun]
end
/-- A cell of what lay below, in whatever of these worlds. -/
theorem CB.cell {w w' : World} (h : CB w w') {p : Addr} {v : Value} (hc : w.cell? p = some v) : w'.cell? p = some v := by
  rw [Below.cell h (World.block_lt_of_cell? _ _ hc)]; exact hc
theorem CB.cells {w w' : World} (h : CB w w') {g : Nat} {t : TypeId} {cs : Array Value} (hw : Whole w g t cs) : (∀ o, w'.cell? ⟨g, o, none⟩ = cs[o]?) ∧ (∀ o, w'.frozen? ⟨g, o, none⟩ = false) := (hw.below h).facts
theorem div_at {n i k : Nat} (hk : k < n) : (i * n + k) / n = i ∧ (i * n + k) % n = k := by
  have hn : 0 < n := by omega
  refine ⟨?_, ?_⟩
  · rw [Nat.mul_comm, Nat.mul_add_div hn, Nat.div_eq_of_lt hk, Nat.add_zero]
  · rw [Nat.mul_comm, Nat.mul_add_mod]; exact Nat.mod_eq_of_lt hk

def bacP (x z y : Nat) : Option Nat := aop .quo .f32 (aop .mul .f32 (av .f32 x) (av .f32 z)) (av .f32 y)
def bacG (n : Nat) (ss xs : List Nat) (j : Nat) : Option Nat := bacP (xs[j % n]?.getD 0) (ss[j % n * n + j / n]?.getD 0) (xs[j / n]?.getD 0)
set_option maxRecDepth 100000 in
set_option maxHeartbeats 4000000 in
theorem bacClo (ss xs : List Nat) (n i k b o m c b' o' d g0 g1 : Nat) (T : TypeId) (w : World) (h0 : Whole w g0 T #[.slice (some ⟨b', o', none⟩) n d]) (h1 : Whole w g1 27 #[.int .i64 n, .slice (some ⟨b, o, none⟩) m c]) (hs : Holds w (some ⟨b, o, none⟩) (fl .f32 ss)) (hx : Holds w (some ⟨b', o', none⟩) (fl .f32 xs)) (hi : i < n) (hk : k < n) (hn : n ≤ 12) (hm : m = n * n) (hl : ss.length = m) (hl' : xs.length = n) :
    Calls Try.prog 83 #[.int .i64 i, .int .i64 k, .pointer (some ⟨g0, 0, none⟩), .pointer (some ⟨g1, 0, none⟩)] w (CloR (bacG n ss xs (i * n + k)) w) := by
  have HST : Hid (∀ v, CB w v → Calls Try.prog 78 #[.agg #[.int .i64 n, .slice (some ⟨b, o, none⟩) m c], .int .i64 k, .int .i64 i] v (fun e w' => e = .returned (.float .f32 (ss[k * n + i]?.getD 0)) ∧ CB w w')) := Lib.hid (fun v hv => (step_any ss n k i b o m c v (hs.below hv) hk hi hn hm hl).mono fun e w' ⟨he, hw⟩ => ⟨he, by rw [hw]; exact Below.alloc hv (Below.size hv) _⟩)
  have HB := Lib.hid (And.intro h0 h1)
  obtain ⟨d1, d2⟩ := div_at (i := i) hk
  have HG : Hid (bacG n ss xs (i * n + k) = bacP (xs[k]?.getD 0) (ss[k * n + i]?.getD 0) (xs[i]?.getD 0)) := Lib.hid (by unfold bacG; rw [d1, d2])
  obtain ⟨b2, o2, e2, hck⟩ := hx k (by rw [fl_len32, hl']; exact hk)
  cases e2
  rw [fl_get _ _ _ (by rw [hl']; exact hk)] at hck
  obtain ⟨b2, o2, e2, hci⟩ := hx i (by rw [fl_len32, hl']; exact hi)
  cases e2
  rw [fl_get _ _ _ (by rw [hl']; exact hi)] at hci
  have HCK : Hid (∀ v, CB w v → v.cell? ⟨b', o' + k, none⟩ = some (.float .f32 (xs[k]?.getD 0)) ∧ v.cell? ⟨b', o' + i, none⟩ = some (.float .f32 (xs[i]?.getD 0))) := Lib.hid (fun v hv => ⟨hv.cell hck, hv.cell hci⟩)
  generalize ss[k * n + i]?.getD 0 = z at HST HG
  generalize xs[k]?.getD 0 = x at HCK HG
  generalize xs[i]?.getD 0 = y at HCK HG
  have i1 : (i : Int) < n := by omega
  have i2 : (k : Int) < n := by omega
  have i3 : (n : Int) ≤ 12 := by omega
  clear d1 d2 h0 h1 hs hx hm hl hl' hck hci
  go_enter Try.func83, Try.ntmps83
  go_wp2_with fail
  refine wp_region_lex (C := CB w) (by kernel_rfl) (by kernel_rfl) (CB.drew w) ?_
  repeat (first
    | (apply lexB_move rfl (.inl rfl); (focus (simp [go_sem]; rfl)))
    | (apply lexB_move rfl (.inr rfl); (focus (simp [go_sem]; rfl)))
    | (apply lexB_farith .mul _ _ _ _ .f32 _ _ rfl rfl rfl; (focus (intro r; simp [go_sem]; rfl)); intro r1 hr1)
    | (apply lexB_farith .quo _ _ _ _ .f32 _ _ rfl rfl rfl; (focus (intro r; simp [go_sem]; rfl)); intro r2 hr2)
    | (apply lexB_fn (.float .f32 z); (focus kernel_rfl); (focus (intro v hv; go_simp; rfl)); (focus (intro v hv; exact HST.out v hv)); (focus (simp [go_sem]; rfl)))
    | (apply lexB_pure rfl; (focus (intro v hv; obtain ⟨hq0, _⟩ := CB.cells hv HB.out.1; obtain ⟨hq1, _⟩ := CB.cells hv HB.out.2; obtain ⟨hq2, hq3⟩ := HCK.out v hv; go_simp; rfl)); (focus (simp [go_sem]; rfl))))
  refine lexB_nil ?_
  rintro w5 hw5
  have HV : Hid (av .f32 r2 = bacP x z y) := Lib.hid (by unfold bacP; rw [← hr1.2]; exact hr2.2)
  have H5 := Lib.hid (show Below w.heap.size w w5 from hw5)
  clear hr1 hr2 hw5
  go_wp2_with fail
  go_ret
  exact ⟨r2, rfl, by rw [HG.out]; exact HV.out, H5.out⟩
set_option maxRecDepth 100000 in
set_option maxHeartbeats 1000000 in
theorem implBac_yes (s : Int) (ss xs : List Nat) (m k : Nat) (hm : ss.length = m) (hk : xs.length = k) (ao bo : Option Addr) (c d : Nat) (w : World) (hs : Holds w ao (fl .f32 ss)) (hx : Holds w bo (fl .f32 xs)) (hlen : m ≤ 1048576) (hlk : k ≤ 1048576) (hc : m ≤ c) (hC : weighed s ss xs) :
    ∃ n : Nat, s = n ∧ m = n * n ∧ Calls Try.prog 46 #[.agg #[.int .i64 s, .slice ao m c], .slice bo k d] w (ChR n (n * n) (bacG n ss xs) w) := by
  obtain ⟨n, rfl, n1, n2, n3, n4, n5, n6⟩ := hC.1.nat
  obtain rfl : k = n := by omega
  obtain ⟨b, o, rfl⟩ := hs.at (by rw [fl_len32, n3]; exact Nat.mul_pos n1 n1)
  obtain ⟨b', o', rfl⟩ := hx.at (by rw [fl_len32]; omega)
  refine ⟨k, rfl, by rw [← hm]; exact n3, ?_⟩
  have HX := Lib.hid (And.intro hs (And.intro hx (And.intro hm (And.intro hk (And.intro n3 hC)))))
  clear hs hx hm hk n3 n4 n5 n6 hC
  go_enter Try.func46, Try.ntmps46
  go_wp2_with (first | (go_at_call 82; fail))
  generalize hW : World.alloc (World.alloc (World.alloc _ _) _) _ = w0
  have H0 : Hid (Whole w0 w.heap.size 27 #[.int .i64 k, .slice (some ⟨b, o, none⟩) m c] ∧ Whole w0 (w.heap.size + 1) 22 #[.slice (some ⟨b', o', none⟩) k d] ∧ Whole w0 (w.heap.size + 2) 27 #[.int .i64 0, .slice none 0 0] ∧ Below w.heap.size w w0) := Lib.hid (by rw [← hW]; exact ⟨((Whole.made _ _ _).alloc _).alloc _, (Whole.made2 _ _ _ _).alloc _, by simpa using Whole.made2 (w.alloc _) _ _ _, (by repeat (first | with_reducible exact Below.refl _ _ | with_reducible exact HBL | with_reducible refine Below.drew ?_ | with_reducible refine Bel_drewN ?_ _ | with_reducible refine Below.alloc ?_ (by first | omega | (simp; done) | (simp; omega)) _ | with_reducible refine Below.setCell ?_ (by first | omega | (simp; done) | (simp; omega)) _))⟩)
  clear hW
  refine ((isWeighed_any k ss xs m k HX.out.2.2.1 HX.out.2.2.2.1 _ _ c d _ (HX.out.1.below H0.out.2.2.2) (HX.out.2.1.below H0.out.2.2.2) hlen hlk hc).mono fun e w1 h => Bo.yes HX.out.2.2.2.2.2 h).mono ?_
  rintro e w1 ⟨rfl, hw1⟩
  have H1 := Lib.hid (And.intro (H0.out.1.below hw1) (And.intro (H0.out.2.1.below hw1) (And.intro (H0.out.2.2.1.below hw1) (Bel_next H0.out.2.2.2 hw1))))
  clear hw1 H0
  obtain ⟨hc0, hf0⟩ := H1.out.1.facts
  go_wp2_with (first | (go_at_call 60; fail))
  clear hc0 hf0
  refine (chainOf_BackChain k (bacG k ss xs) (w.heap.size + 1) (w.heap.size + 0) _ n1 n2 (fun i j hi hj v hv => bacClo ss xs k i j b o m c b' o' d (w.heap.size + 1) w.heap.size _ v (H1.out.2.1.below hv) (H1.out.1.below hv) (HX.out.1.below (Bel_next H1.out.2.2.2 hv)) (HX.out.2.1.below (Bel_next H1.out.2.2.2 hv)) hi hj n2 (by rw [← HX.out.2.2.1]; exact HX.out.2.2.2.2.1) HX.out.2.2.1 HX.out.2.2.2.1)).mono ?_
  intro e w3 h
  rcases h with ⟨hf, ao2, c2, rfl, hrow, hw2⟩ | ⟨hf, rfl, hw2⟩
  · have q2 := H1.out.2.2.1.below hw2
    have HBL := Bel_next H1.out.2.2.2 hw2
    have HR := Lib.hid (And.intro hf hrow)
    have hz1 := H1.out.2.2.2.size
    have hz2 := HBL.size
    have hz3 := H1.out.2.2.1.lt
    obtain ⟨hc2, hf2⟩ := q2.facts
    clear hf hrow hw2 q2
    go_wp2_with fail
    refine bodyPost_ret (v := .tuple #[.agg #[.int .i64 k, .slice ao2 (k * k) c2], .bool true]) (by simp [results, Try.results46, go_sem, hc2]) rfl (.inl ⟨HR.out.1, ao2, c2, rfl, ?_, (by repeat (first | with_reducible exact Below.refl _ _ | with_reducible exact HBL | with_reducible refine Below.drew ?_ | with_reducible refine Bel_drewN ?_ _ | with_reducible refine Below.alloc ?_ (by first | omega | (simp; done) | (simp; omega)) _ | with_reducible refine Below.setCell ?_ (by first | omega | (simp; done) | (simp; omega)) _))⟩)
    exact ((((HR.out.2.far (.inl (by simp; omega)) _).far (.inl (by simp; omega)) _)).wide (by omega) (by simp))
  · have q2 := H1.out.2.2.1.below hw2
    have HBL := Bel_next H1.out.2.2.2 hw2
    have HR := Lib.hid hf
    obtain ⟨hc2, hf2⟩ := q2.facts
    clear hf hw2 q2
    go_wp2_with fail
    exact bodyPost_ret (v := .tuple #[.agg #[.int .i64 0, .slice none 0 0], .bool false]) (by simp [results, Try.results46, go_sem, hc2]) rfl (.inr ⟨HR.out, rfl, (by repeat (first | with_reducible exact Below.refl _ _ | with_reducible exact HBL | with_reducible refine Below.drew ?_ | with_reducible refine Bel_drewN ?_ _ | with_reducible refine Below.alloc ?_ (by first | omega | (simp; done) | (simp; omega)) _ | with_reducible refine Below.setCell ?_ (by first | omega | (simp; done) | (simp; omega)) _))⟩)
set_option maxRecDepth 100000 in
set_option maxHeartbeats 1000000 in
theorem implBac_no (s : Int) (ss xs : List Nat) (m k : Nat) (hm : ss.length = m) (hk : xs.length = k) (ao bo : Option Addr) (c d : Nat) (w : World) (hs : Holds w ao (fl .f32 ss)) (hx : Holds w bo (fl .f32 xs)) (hlen : m ≤ 1048576) (hlk : k ≤ 1048576) (hc : m ≤ c) (hC : ¬ weighed s ss xs) :
    Calls Try.prog 46 #[.agg #[.int .i64 s, .slice ao m c], .slice bo k d] w (RetB (.tuple #[.agg #[.int .i64 0, .slice none 0 0], .bool false]) w) := by
  have HX := Lib.hid (And.intro hs (And.intro hx (And.intro hm (And.intro hk hC))))
  clear hs hx hm hk hC
  go_enter Try.func46, Try.ntmps46
  go_wp2_with (first | (go_at_call 82; fail))
  generalize hW : World.alloc (World.alloc (World.alloc _ _) _) _ = w0
  have H0 : Hid (Whole w0 (w.heap.size + 2) 27 #[.int .i64 0, .slice none 0 0] ∧ Below w.heap.size w w0) := Lib.hid (by rw [← hW]; exact ⟨by simpa using Whole.made2 (w.alloc _) _ _ _, (by repeat (first | with_reducible exact Below.refl _ _ | with_reducible exact HBL | with_reducible refine Below.drew ?_ | with_reducible refine Bel_drewN ?_ _ | with_reducible refine Below.alloc ?_ (by first | omega | (simp; done) | (simp; omega)) _ | with_reducible refine Below.setCell ?_ (by first | omega | (simp; done) | (simp; omega)) _))⟩)
  clear hW
  refine ((isWeighed_any s ss xs m k HX.out.2.2.1 HX.out.2.2.2.1 _ _ c d _ (HX.out.1.below H0.out.2) (HX.out.2.1.below H0.out.2) hlen hlk hc).mono fun e w1 h => Bo.no HX.out.2.2.2.2 h).mono ?_
  rintro e w1 ⟨rfl, hw1⟩
  have q2 := H0.out.1.below hw1
  have HBL := Bel_next H0.out.2 hw1
  obtain ⟨hc2, hf2⟩ := q2.facts
  clear hw1 q2 H0
  go_wp2_with fail
  exact bodyPost_ret (v := .tuple #[.agg #[.int .i64 0, .slice none 0 0], .bool false]) (by simp [results, Try.results46, go_sem, hc2]) rfl ⟨rfl, (by repeat (first | with_reducible exact Below.refl _ _ | with_reducible exact HBL | with_reducible refine Below.drew ?_ | with_reducible refine Bel_drewN ?_ _ | with_reducible refine Below.alloc ?_ (by first | omega | (simp; done) | (simp; omega)) _ | with_reducible refine Below.setCell ?_ (by first | omega | (simp; done) | (simp; omega)) _))⟩
end Go.Proofs.Ytfbllggnndodoaa
