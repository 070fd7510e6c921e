/- Lists of complex64 in the laws, known but for not-a-numbers' bits: sameness and marks. -/
import Derived.Test.YticmnkgcolgpaaaFq
import Derived.Test.YticmnkgcolgpaaaSine
import Derived.Laws.Cover3
namespace Go.Proofs.Yticmnkgcolgpaaa
open Go Go.RowKit Fl Vag Ieee
set_option linter.unusedVariables false
def cl (ps : List (Nat × Nat)) : List Value := ps.map fun p => .complex .f32 p.1 p.2
theorem cl_len (ps : List (Nat × Nat)) : (cl ps).length = ps.length := by simp [cl]
theorem cl_get (ps : List (Nat × Nat)) (i : Nat) (h : i < ps.length) : (cl ps).getD i undef = .complex .f32 (ps[i]?.getD (0, 0)).1 (ps[i]?.getD (0, 0)).2 := by
  simp [cl, List.getD, h]
theorem cl_snoc (ps : List (Nat × Nat)) (r t : Nat) : cl (ps ++ [(r, t)]) = cl ps ++ [.complex .f32 r t] := by simp [cl]
/-- A list of so many complex numbers, each part known but for a not-a-number's bits. -/
def LikeC (n : Nat) (f : Nat → Option Nat × Option Nat) (ps : List (Nat × Nat)) : Prop := ps.length = n ∧ ∀ i, i < n → Fv .f32 (f i).1 (ps[i]?.getD (0, 0)).1 ∧ Fv .f32 (f i).2 (ps[i]?.getD (0, 0)).2
theorem LikeC.nil (f : Nat → Option Nat × Option Nat) : LikeC 0 f [] := ⟨rfl, fun i hi => absurd hi (Nat.not_lt_zero _)⟩
theorem LikeC.snoc {j : Nat} {f : Nat → Option Nat × Option Nat} {ps : List (Nat × Nat)} {r t : Nat} (h : LikeC j f ps) (hr : Fv .f32 (f j).1 r) (ht : Fv .f32 (f j).2 t) : LikeC (j + 1) f (ps ++ [(r, t)]) := by
  refine ⟨by simp [h.1], fun i hi => ?_⟩
  by_cases e : i = j
  · subst e
    rw [List.getElem?_append_right (by rw [h.1]; exact Nat.le_refl _), h.1, Nat.sub_self]
    exact ⟨hr, ht⟩
  · rw [List.getElem?_append_left (by rw [h.1]; omega)]
    exact h.2 i (by omega)
/-- It returns a list of complex numbers in memory of its own among other results, and has turned only memory of its own. -/
def RetLC (n : Nat) (f : Nat → Option Nat × Option Nat) (F : Value → Value) (w : World) (e : Ending) (w' : World) : Prop :=
  ∃ ps ao c, e = .returned (F (.slice ao n c)) ∧ LikeC n f ps ∧ Row w' w.heap.size w'.heap.size ao (cl ps) ∧ Below w.heap.size w w'
theorem run_wideC {P : Program} (a b : Nat) (w : World) : ∃ r s n, (Conv.complexToComplex .f32 a b .f64).run P w = .ok (.complex .f64 r s) (w.drewN n) ∧ Fv .f64 (widen (av .f32 a)) r ∧ Fv .f64 (widen (av .f32 b)) s := by
  obtain ⟨r, n, h1, h2⟩ := run_widen (P := P) a w
  obtain ⟨s, m, h3, h4⟩ := run_widen (P := P) b (w.drewN n)
  refine ⟨r, s, n + m, ?_, h2, h4⟩
  unfold Conv.complexToComplex
  simp [h1, h3, World.drewN_drewN]
set_option maxRecDepth 100000 in
theorem sameC_any (a b c d : Nat) (u v : Option Nat) (ha : Fv .f64 u a) (hb : Fv .f64 v b) (hc : Fv .f64 u c) (hd : Fv .f64 v d) (w : World) : Calls Try.prog 16 #[.complex .f64 a b, .complex .f64 c d] w (fun e w' => ∃ n, e = .returned (.bool true) ∧ w' = w.drewN n) := by
  have HA := Lib.hid (And.intro ha (And.intro hb (And.intro hc hd)))
  clear ha hb hc hd
  go_enter Try.func16, Try.ntmps16
  go_wp2_with (first | (go_at_call 40; fail))
  refine (sameFloat_any a c u HA.out.1 HA.out.2.2.1 _).mono ?_
  rintro e w' ⟨n, rfl, rfl⟩
  go_wp2_with (first | (go_at_call 40; fail))
  refine (sameFloat_any b d v HA.out.2.1 HA.out.2.2.2 _).mono ?_
  rintro e w' ⟨n2, rfl, rfl⟩
  go_wp2_with fail
  go_ret
  exact ⟨_, rfl, rfl⟩
section
variable {P : Program} {ops : Array Oper} {Q : Act → Prop} {rest : List Oper} {a : Act} {w : World} {o : Oper}
theorem lex_widenC {dst : Option Tmp} {ty : TypeId} {pos : String} {af : Array Edge} (src dt : TypeId) (x : Operand) (b c : Nat) (hx : a.eval x = .complex .f32 b c) (hs : P.underlying src = some (.complex .f32)) (hd : P.underlying dt = some (.complex .f64))
    {f : Nat → Nat → Act} (he : ∀ r t, a.put dst (.complex .f64 r t) = f r t) (h : ∀ r t, Fv .f64 (widen (av .f32 b)) r → Fv .f64 (widen (av .f32 c)) t → Lex P (Cw w) ops Q rest (f r t)) :
    Lex P (Cw w) ops Q (⟨dst, .convert src dt x, ty, pos, af, none⟩ :: rest) a := by
  refine lex_some rfl (fun u => ∃ r t, u = .complex .f64 r t ∧ Fv .f64 (widen (av .f32 b)) r ∧ Fv .f64 (widen (av .f32 c)) t) (fun n => ?_) (fun u ⟨r, t, hu, hr, ht⟩ => by subst hu; show Lex P (Cw w) ops Q rest (a.put dst _); rw [he]; exact h r t hr ht)
  obtain ⟨r, t, m, hrun, hr, ht⟩ := run_wideC (P := P) b c (w.drewN n)
  refine ⟨.complex .f64 r t, m, ?_, r, t, rfl, hr, ht⟩
  simp [execOp, hx, convert, run_underlying hs, run_underlying hd, hrun]
end
set_option maxRecDepth 100000 in
set_option maxHeartbeats 800000 in
theorem eqComplex64S_like {n : Nat} {f : Nat → Option Nat × Option Nat} {xs ys : List (Nat × Nat)} (hx1 : LikeC n f xs) (hy1 : LikeC n f ys) (ao bo : Option Addr) (ca cb : Nat) (w : World) (hx : Holds w ao (cl xs)) (hy : Holds w bo (cl ys)) (hlen : n ≤ 1048576) :
    Calls Try.prog 34 #[.slice ao n ca, .slice bo n cb] w (RetB (.bool true) w) := by
  have HX := Lib.hid hx
  have HY := Lib.hid hy
  have H1 := Lib.hid (And.intro hx1 hy1)
  clear hx hy hx1 hy1
  go_enter Try.func34, Try.ntmps34
  go_wp2
  go_loopw [5] (fun i wr => ∃ k : Nat, k ≤ n ∧ i = .int .i64 k ∧ ∃ m, wr = w.drewN m) (fun i _ => n - (intOf i).toNat)
  case atStart => exact ⟨0, Nat.zero_le _, rfl, 0, rfl⟩
  case round =>
    obtain ⟨k, hk, rfl, m, rfl⟩ := hrel
    by_cases hlt : k < n
    · obtain ⟨b, o, rfl, hc⟩ := HX.out k (by rw [cl_len, H1.out.1.1]; exact hlt)
      obtain ⟨b', o', rfl, hc'⟩ := HY.out k (by rw [cl_len, H1.out.2.1]; exact hlt)
      rw [cl_get _ _ (by rw [H1.out.1.1]; exact hlt)] at hc
      rw [cl_get _ _ (by rw [H1.out.2.1]; exact hlt)] at hc'
      have h1 := H1.out.1.2 k hlt
      have h2 := H1.out.2.2 k hlt
      generalize xs[k]?.getD (0, 0) = x at hc h1
      generalize ys[k]?.getD (0, 0) = y at hc' h2
      obtain ⟨x1, x2⟩ := x
      obtain ⟨y1, y2⟩ := y
      have HAk : Hid (av .f32 x1 = av .f32 y1 ∧ av .f32 x2 = av .f32 y2) := Lib.hid ⟨h1.1.2.trans h2.1.2.symm, h1.2.2.trans h2.2.2.symm⟩
      clear h1 h2
      go_wp2
      refine wp_region_lex (C := Cw (w.drewN m)) (by kernel_rfl) (by kernel_rfl) ⟨1, rfl⟩ ?_
      repeat (first
        | (apply lex_move rfl (.inl rfl); (focus (simp [go_sem]; rfl)))
        | (apply lex_widenC _ _ _ _ _ rfl Try.underlying23 Try.underlying26; (focus (intro r t; simp [go_sem]; rfl)); intro r t hr ht)
        | (apply lex_fn (.bool true); (focus kernel_rfl); (focus (intro m; go_simp; rfl)); (focus (intro m; refine Calls.mono (sameC_any _ _ _ _ (widen (av .f32 x1)) (widen (av .f32 x2)) ?_ ?_ ?_ ?_ _) ?_; (focus assumption); (focus assumption); (focus (rw [HAk.out.1]; assumption)); (focus (rw [HAk.out.2]; assumption)); rintro e w' ⟨q, rfl, rfl⟩; exact ⟨rfl, m + q, by simp [Nat.add_assoc]⟩)); (focus (simp [go_sem]; rfl)))
        | (apply lex_pure rfl; (focus (intro m; go_simp; rfl)); (focus (simp [go_sem]; rfl))))
      refine lex_nil ?_
      rintro _ ⟨m, rfl⟩
      go_wp2
      go_roundw
      case rel => exact ⟨k + 1, by omega, by go_num, _, rfl⟩
      case measure => simp [intOf]; omega
    · go_wp2
      go_ret
      exact ⟨rfl, Bel_drewN (Below.refl _ _) _⟩
theorem eqComplex64S_nil (ao bo : Option Addr) (ca cb : Nat) (w : World) : Calls Try.prog 34 #[.slice ao 0 ca, .slice bo 0 cb] w (RetB (.bool true) w) :=
  eqComplex64S_like (LikeC.nil fun _ => (none, none)) (LikeC.nil _) ao bo ca cb w (fun i hi => absurd hi (Nat.not_lt_zero _)) (fun i hi => absurd hi (Nat.not_lt_zero _)) (by omega)
/-- Marks in a list of complex64. -/
def cmark (k : Nat) : Nat := single.write (double.read (floatOfInt .f64 (k : Int)))
def cmarks (k n : Nat) : List (Nat × Nat) := (List.range n).map fun i => (cmark (k + i), 1065353216)
theorem cmarks_len (k n : Nat) : (cmarks k n).length = n := by simp [cmarks]
theorem lim_31 : 2147483648 * 2 ^ K0 ≤ vr single ((127 + 127) * 8388608) := by decide +kernel
theorem one_run {P : Program} (w : World) : (Conv.floatToFloat .f64 4607182418800017408 .f32).run P w = .ok (.float .f32 1065353216) w := by
  have h1 : double.read 4607182418800017408 = .number false 4503599627370496 (-52) := by decide +kernel
  have h2 : single.write (.number false 4503599627370496 (-52)) = 1065353216 := by decide +kernel
  have h3 : (single.read 1065353216).isInfinity = false := by decide +kernel
  simp [Conv.floatToFloat, FloatKind.decode, FloatKind.encode, FloatKind.format, h1, h2, h3]
theorem cmark_run {P : Program} {src dst : TypeId} (hs : P.underlying src = some (.complex .f64)) (hd : P.underlying dst = some (.complex .f32)) (k : Nat) (hk : k ≤ 2147483648) (w : World) :
    (convert src dst (.complex .f64 (floatOfInt .f64 (k : Int)) 4607182418800017408)).run P w = .ok (.complex .f32 (cmark k) 1065353216) w := by
  obtain ⟨M, I, e1, e2, e3⟩ := read_floatOfInt (k : Int) (by omega)
  have hin : In .f32 ((127 + 127) * 8388608) (some (single.write (.number (decide ((k : Int) < 0)) M I))) := write_in (k := .f32) (by omega) (by decide) (by
    rw [e2]; exact Nat.le_trans (Nat.mul_le_mul_right _ (by omega)) lim_31)
  obtain ⟨b2, s2, m2, i2, f1, f2, _, _⟩ := hin.read (by decide)
  cases f1
  have hni : (single.read (single.write (.number (decide ((k : Int) < 0)) M I))).isInfinity = false := by
    rw [show single.read (single.write (.number (decide ((k : Int) < 0)) M I)) = FloatKind.f32.format.read (single.write (.number (decide ((k : Int) < 0)) M I)) from rfl, f2]; rfl
  have h1 : (Conv.floatToFloat .f64 (floatOfInt .f64 (k : Int)) .f32).run P w = .ok (.float .f32 (cmark k)) w := by
    unfold cmark
    rw [e1]
    simp only [Conv.floatToFloat, FloatKind.decode, FloatKind.encode, FloatKind.format, e1, hni]
    rfl
  simp [convert, run_underlying hs, run_underlying hd, Conv.complexToComplex, h1, one_run w]
theorem cmark_eq (k : Nat) (hk : k ≤ 2147483648) : (FloatKind.f32.format.order (cmark k) (cmark k) == some Ordering.eq) = true := by
  obtain ⟨M, I, e1, e2, e3⟩ := read_floatOfInt (k : Int) (by omega)
  have h : av .f32 (cmark k) = some (cmark k) := av_some (k := .f32) (by unfold cmark; rw [e1]; exact read_write Ieee.single _ rfl)
  rw [order_self .f32 _ (av_notNaN h)]; rfl
theorem one_eq : (FloatKind.f32.format.order 1065353216 1065353216 == some Ordering.eq) = true := by decide +kernel
@[go_sem] theorem run_store_complex {P : Program} (w : World) (a : Addr) (k : FloatKind) (r t : Nat) (m : Mode) : (store a (.complex k r t) m).run P w = stored P w a (.complex k r t) m := run_store P w a _ m rfl
/-- What the marking leaves: the next mark, and the marks in the row. -/
def MarkedC (k n lo hi : Nat) (ao : Option Addr) (w : World) (e : Ending) (w' : World) : Prop :=
  e = .returned (.int .i64 ((k + n : Nat) : Int)) ∧ Row w' lo hi ao (cl (cmarks k n)) ∧ But lo hi w w'
theorem markComplex64S_nil (k c : Nat) (ao : Option Addr) (lo hi : Nat) (w : World) :
    Calls Try.prog 35 #[.slice ao 0 c, .int .i64 k] w (MarkedC k 0 lo hi ao w) := by
  go_enter Try.func35, Try.ntmps35
  go_wp2
  go_loopw [5, 1] (fun i m wr => i = .int .i64 0 ∧ m = .int .i64 k ∧ wr = w) (fun _ _ _ => 0)
  case atStart => exact ⟨rfl, rfl, rfl⟩
  case round =>
    obtain ⟨rfl, rfl, rfl⟩ := hrel
    go_wp2
    go_ret
    exact ⟨rfl, .inl (by simp [cmarks, cl]), But.refl _ _ _⟩
theorem markComplex64S_zero (k c : Nat) (ao : Option Addr) (w : World) :
    Calls Try.prog 35 #[.slice ao 0 c, .int .i64 k] w (RetB (.int .i64 ((k + 0 : Nat) : Int)) w) :=
  (markComplex64S_nil k c ao 0 0 w).mono fun e w' ⟨he, _, bt⟩ => ⟨he, bt.os, bt.tape, bt.output, bt.size, fun i hi => bt.block i hi (by omega)⟩
set_option maxHeartbeats 800000 in
theorem markComplex64S_some (k c n lo hi g : Nat) (cs : Array Value) (t : TypeId) (w : World) (h1 : lo ≤ g) (h2 : g < hi) (hw : Whole w g t cs) (hn : n ≤ cs.size) (hk : k + n ≤ 1073741824) :
    Calls Try.prog 35 #[.slice (some ⟨g, 0, none⟩) n c, .int .i64 k] w (MarkedC k n lo hi (some ⟨g, 0, none⟩) w) := by
  have HW := Lib.hid hw
  clear hw
  go_enter Try.func35, Try.ntmps35
  go_wp2
  go_loopw [5, 1] (fun i m wr => ∃ j : Nat, j ≤ n ∧ i = .int .i64 j ∧ m = .int .i64 ((k + j : Nat) : Int) ∧ w.grownBy wr (some g) ∧ ∃ ds : Array Value, Whole wr g t ds ∧ n ≤ ds.size ∧ ∀ i, i < j → ds[i]? = some (.complex .f32 (cmark (k + i)) 1065353216)) (fun i _ _ => n - (intOf i).toNat)
  case atStart => exact ⟨0, Nat.zero_le _, rfl, rfl, grown_refl _ _, cs, HW.out, hn, fun i hi => absurd hi (Nat.not_lt_zero _)⟩
  case round =>
    obtain ⟨j, hj, rfl, rfl, hg, ds, hd, hs, hm⟩ := hrel
    by_cases hlt : j < n
    · obtain ⟨u, hcell⟩ : ∃ u, wr.cell? ⟨g, j, none⟩ = some u := ⟨ds[j], by rw [hd.cell]; exact Array.getElem?_eq_getElem (by omega)⟩
      have hfr := hd.frozen j
      have hcv : ∀ w : World, (convert 26 23 (.complex .f64 (floatOfInt .f64 ((k : Int) + (j : Int))) 4607182418800017408)).run Try.prog w = .ok (.complex .f32 (cmark (k + j)) 1065353216) w := fun w => by
        have := cmark_run (P := Try.prog) Try.underlying26 Try.underlying23 (k + j) (by omega) w
        rwa [Int.natCast_add] at this
      have H := Lib.hid (And.intro hg (And.intro hd (And.intro hs hm)))
      clear hg hd hs hm
      go_wp2
      go_roundw
      case rel =>
        obtain ⟨hg, hd, hs, hm⟩ := H.out
        refine ⟨j + 1, by omega, by go_num, by simp; omega, grown_put hg _ _, _, hd.put j _, by simpa using hs, fun i hi => ?_⟩
        by_cases e : i = j
        · subst e; rw [Array.getElem?_setIfInBounds_self_of_lt (by omega)]
        · rw [Array.getElem?_setIfInBounds_ne (by omega)]; exact hm i (by omega)
      case measure => simp [intOf]; omega
    · have e : j = n := by omega
      have H := Lib.hid (And.intro hg (And.intro hd hm))
      clear hg hd hm
      go_wp2
      go_ret
      obtain ⟨hg, hd, hm⟩ := H.out
      refine ⟨by rw [← e]; rfl, .inr ⟨g, ds, t, rfl, h1, h2, hd, fun i hi => ?_⟩, But.grown hg h1 h2⟩
      have hi' : i < n := by simpa [cl, cmarks] using hi
      rw [hm i (by omega)]
      simp [cl, cmarks, List.getD, hi']
theorem markComplex64S_row (n : Nat) (vs : List Value) (k c lo hi : Nat) (ao : Option Addr) (w : World) (h : Row w lo hi ao vs) (hn : vs.length = n) (hk : k + n ≤ 1073741824) :
    Calls Try.prog 35 #[.slice ao n c, .int .i64 k] w (MarkedC k n lo hi ao w) := by
  subst hn
  rcases h with rfl | ⟨g, cs, t, rfl, h1, h2, hw, hc⟩
  · exact markComplex64S_nil _ _ _ _ _ _
  · rcases Nat.eq_zero_or_pos vs.length with h0 | h0
    · rw [h0]; exact markComplex64S_nil _ _ _ _ _ _
    · refine markComplex64S_some k c vs.length lo hi g cs t w h1 h2 hw ?_ hk
      have := hc (vs.length - 1) (by omega)
      have := (Array.getElem?_eq_some_iff.1 this).1
      omega
set_option maxHeartbeats 800000 in
theorem heldComplex64S_cmarks (k n c : Nat) (ao : Option Addr) (w : World) (hx : Holds w ao (cl (cmarks k n))) (hk : k + n ≤ 1073741824) :
    Calls Try.prog 36 #[.slice ao n c, .int .i64 k] w (RetB (.int .i64 ((k + n : Nat) : Int)) w) := by
  have HX := Lib.hid hx
  clear hx
  go_enter Try.func36, Try.ntmps36
  go_wp2
  go_loop [5, 1] (fun i m => ∃ j : Nat, j ≤ n ∧ i = .int .i64 j ∧ m = .int .i64 ((k + j : Nat) : Int)) (fun i _ => n - (intOf i).toNat)
  case atStart => exact ⟨0, Nat.zero_le _, rfl, rfl⟩
  case round =>
    obtain ⟨j, hj, rfl, rfl⟩ := hrel
    by_cases hlt : j < n
    · obtain ⟨b, o, rfl, hc⟩ := HX.out j (by simpa [cl, cmarks] using hlt)
      rw [cl_get _ _ (by simpa [cmarks] using hlt), show (cmarks k n)[j]?.getD (0, 0) = (cmark (k + j), 1065353216) by simp [cmarks, hlt]] at hc
      have hcv : ∀ w : World, (convert 26 23 (.complex .f64 (floatOfInt .f64 ((k : Int) + (j : Int))) 4607182418800017408)).run Try.prog w = .ok (.complex .f32 (cmark (k + j)) 1065353216) w := fun w => by
        have := cmark_run (P := Try.prog) Try.underlying26 Try.underlying23 (k + j) (by omega) w
        rwa [Int.natCast_add] at this
      have ho1 := cmark_eq (k + j) (by omega)
      have ho2 := one_eq
      generalize cmark (k + j) = q at *
      go_wp2
      go_round
      case rel => exact ⟨j + 1, by omega, by go_num, by simp; omega⟩
      case measure => simp [intOf]; omega
    · have E : Hid (j = n) := Lib.hid (by omega)
      go_wp2
      go_ret
      exact ⟨by rw [← E.out]; rfl, Below.refl _ _⟩
end Go.Proofs.Yticmnkgcolgpaaa
