/- RingChain of the model: the walk. -/
import Derived.Test.YtfbllggnndodoaaRiy
import Derived.Deep.Cut
namespace Go.Proofs.Ytfbllggnndodoaa
open Go Go.RowKit Fl Vag
set_option linter.unusedVariables false
set_option maxRecDepth 100000 in
set_option maxHeartbeats 4000000 in
theorem specRin_build (n st ri l : Nat) (w : World) (hn3 : 3 ≤ n) (hn : n ≤ 12) (h0 : partB st = true) (h1 : partB ri = true) (hl : lefV st ri = some l) (hg : geB l 0 = true) :
    Calls Try.prog 22 #[.int .i64 n, .float .f32 st, .float .f32 ri] w (ChR n (n * n) (rinG n st ri) w) := by
  obtain ⟨s1, e1, e2⟩ := lef_parts hl
  have R1 : Hid (∀ w, (binOp .sub 32 (.float .f32 1065353216) (.float .f32 st)).run Try.prog w = .ok (.float .f32 s1) w) := Lib.hid (fun w => run_num rfl e1 w)
  have R2 : Hid (∀ w, (binOp .sub 32 (.float .f32 s1) (.float .f32 ri)).run Try.prog w = .ok (.float .f32 l) w) := Lib.hid (fun w => run_num rfl e2 w)
  have HL := Lib.hid (show av .f32 l = lefV st ri from by rw [hl]; exact av_some (k := .f32) (bop_notNaN e2))
  have HP := Lib.hid (And.intro h0 h1)
  have hge := ge_factB hg
  have b1 : (n : Int) ≤ 12 := by omega
  have b2 : (3 : Int) ≤ n := by omega
  have hsq := sq_le hn
  obtain ⟨m, hm⟩ : ∃ m, n * n = m := ⟨_, rfl⟩
  have hmi : (n : Int) * (n : Int) = (m : Int) := by rw [← hm]; simp
  rw [hm] at hsq
  have b3 : (m : Int) ≤ 144 := by omega
  have HM := Lib.hid hm
  have hmk : ∀ w : World, (Instr.makeSlice 22 (.int .i64 m) (.int .i64 m)).run Try.prog w = .ok (.slice (some ⟨w.heap.size, 0, none⟩) m m) (w.alloc (.cells (Array.replicate m (.float .f32 0)) 32)) := fun w => run_mk (P := Try.prog) w 22 32 (.float .f32 0) 4 m Try.underlying22 (by kernel_rfl) rfl (by omega) (by omega)
  have r1 := R1.out
  have r2 := R2.out
  clear hl hg e1 e2 h0 h1 hm
  go_enter Try.func22, Try.ntmps22
  go_wp2_with (first | (go_at_call 57; refine (l00In_yes _ _ _ b2 b1 _).mono ?_; rintro e w' ⟨rfl, rfl⟩) | (go_at_call 58; fail))
  refine (l02Part_v _ _ HP.out.1 _).mono ?_
  rintro e w' ⟨rfl, rfl⟩
  go_wp2_with (first | (go_at_call 58; fail))
  refine (l02Part_v _ _ HP.out.2 _).mono ?_
  rintro e w' ⟨rfl, rfl⟩
  go_wp2_with fail
  clear hmk
  generalize hW : World.alloc (World.alloc (World.alloc _ _) _) _ = w0
  have H0 : Hid (Whole w0 w.heap.size 27 #[.int .i64 0, .slice none 0 0] ∧ Whole w0 (w.heap.size + 1) 32 (fl .f32 (List.replicate m 0)).toArray ∧ Whole w0 (w.heap.size + 2) 27 #[.int .i64 n, .slice (some ⟨w.heap.size + 1, 0, none⟩) m m] ∧ Below w.heap.size w w0) := Lib.hid (by
    rw [← hW]
    refine ⟨((Whole.made _ _ _).alloc _).alloc _, ?_, by simpa using Whole.made2 (w.alloc _) _ _ _, (by repeat (first | with_reducible exact Below.refl _ _ | with_reducible exact HBL | with_reducible refine Below.drew ?_ | with_reducible refine Bel_drewN ?_ _ | with_reducible refine Below.alloc ?_ (by first | omega | (simp; done) | (simp; omega)) _ | with_reducible refine Below.setCell ?_ (by first | omega | (simp; done) | (simp; omega)) _))⟩
    rw [show (fl .f32 (List.replicate m 0)).toArray = Array.replicate m (Value.float .f32 0) by simp [fl]]
    exact (Whole.made2 _ _ _ _).alloc _)
  clear hW
  go_loopw [9] (fun i wr => ∃ (a : Nat) (cs : List Nat), a ≤ n ∧ i = .int .i64 a ∧ rinTo n st ri l a cs ∧ Whole wr w.heap.size 27 #[.int .i64 0, .slice none 0 0] ∧ Whole wr (w.heap.size + 1) 32 (fl .f32 cs).toArray ∧ Whole wr (w.heap.size + 2) 27 #[.int .i64 n, .slice (some ⟨w.heap.size + 1, 0, none⟩) m m] ∧ Below w.heap.size w wr) (fun i _ => n - (intOf i).toNat)
  case atStart => exact ⟨0, _, Nat.zero_le _, rfl, by have h := rinTo_zero n st ri l; rw [HM.out] at h; exact h, H0.out⟩
  case round =>
    obtain ⟨a, cs, ha, rfl, hto, q0, q1, q2, hbel⟩ := hrel
    have H := Lib.hid (And.intro hto (And.intro q0 (And.intro q1 (And.intro q2 hbel))))
    have han : (a : Int) ≤ n := by omega
    have hz := q2.lt
    obtain ⟨hc2, hf2⟩ := q2.facts
    have hcl : cs.length = m := by rw [hto.1, HM.out]
    clear H0
    by_cases hlt : a < n
    · have hlt' : (a : Int) < n := by omega
      have hin := row_in hlt
      rw [HM.out] at hin
      obtain ⟨an, han2⟩ : ∃ z, a * n = z := ⟨_, rfl⟩
      obtain ⟨c1, hc1⟩ : ∃ z, (a + 1) % n = z := ⟨_, rfl⟩
      obtain ⟨c2, hcc2⟩ : ∃ z, (a + n - 1) % n = z := ⟨_, rfl⟩
      have l1 : c1 < n := by rw [← hc1]; exact Nat.mod_lt _ (by omega)
      have l2 : c2 < n := by rw [← hcc2]; exact Nat.mod_lt _ (by omega)
      obtain ⟨f0, hf0⟩ : ∃ z, an + a = z := ⟨_, rfl⟩
      obtain ⟨f1, hf1⟩ : ∃ z, an + c1 = z := ⟨_, rfl⟩
      obtain ⟨f3, hf3⟩ : ∃ z, an + c2 = z := ⟨_, rfl⟩
      rw [han2] at hin
      have g0 : f0 < m := by omega
      have g1 : f1 < m := by omega
      have g3 : f3 < m := by omega
      have i0 : (f0 : Int) < m := by omega
      have i1 : (f1 : Int) < m := by omega
      have i3 : (f3 : Int) < m := by omega
      have e1 : IntKind.i64.wrap ((a : Int) * (n : Int)) = (an : Int) := by rw [← Int.natCast_mul, han2, IntKind.wrap_i64]; omega
      have e2 : IntKind.i64.wrap ((an : Int) + (a : Int)) = (f0 : Int) := by rw [IntKind.wrap_i64]; omega
      have e3 : (((a : Int) + 1) % (n : Int)) = (c1 : Int) := by rw [← hc1]; simp
      have e4 : IntKind.i64.wrap ((an : Int) + (c1 : Int)) = (f1 : Int) := by rw [IntKind.wrap_i64]; omega
      obtain ⟨p, hp⟩ : ∃ z, a + n = z := ⟨_, rfl⟩
      obtain ⟨q, hq⟩ : ∃ z, p - 1 = z := ⟨_, rfl⟩
      have e5 : IntKind.i64.wrap ((a : Int) + (n : Int)) = (p : Int) := by rw [IntKind.wrap_i64]; omega
      have e6 : IntKind.i64.wrap ((p : Int) - 1) = (q : Int) := by rw [IntKind.wrap_i64]; omega
      have e7 : (q : Int) % (n : Int) = (c2 : Int) := by rw [← hcc2, hp, hq]; simp
      have e8 : IntKind.i64.wrap ((an : Int) + (c2 : Int)) = (f3 : Int) := by rw [IntKind.wrap_i64]; omega
      have e9 : ((n : Int) == 0) = false := by simp; omega
      have e11 : (a : Int) + (n : Int) = (p : Int) := by omega
      have e12 : (p : Int) - 1 = (q : Int) := by omega
      have b5 : (p : Int) ≤ 24 := by omega
      have b6 : (q : Int) ≤ 24 := by omega
      have e10 : IntKind.i64.wrap ((a : Int) + 1) = (a : Int) + 1 := by rw [IntKind.wrap_i64]; omega
      have s0 := fl_cell q1 f0 (by omega)
      have t0 := q1.frozen f0
      have HN := Lib.hid (rinTo_next hto hn3 hn hlt)
      rw [hc1, hcc2, han2, hf0, hf1, hf3] at HN
      have p1 := q1.lt
      clear hto q0 q1 q2 hbel hin han2 hc1 hcc2 hf0 hf1 hf3 hp hq l1 l2
      go_wp2_with fail
      generalize hW : World.setCell _ _ _ = wa
      have HA : Hid (Whole wa w.heap.size 27 #[.int .i64 0, .slice none 0 0] ∧ Whole wa (w.heap.size + 1) 32 (fl .f32 (cs.set f0 st)).toArray ∧ Whole wa (w.heap.size + 2) 27 #[.int .i64 n, .slice (some ⟨w.heap.size + 1, 0, none⟩) m m] ∧ Below w.heap.size w wa) := Lib.hid (by
        rw [← hW]
        exact ⟨H.out.2.1.far (by simp) _, fl_put H.out.2.2.1 f0 st, H.out.2.2.2.1.far (by simp) _, H.out.2.2.2.2.setCell (by simp) _⟩)
      clear hW hc2 hf2 s0 t0 hz p1
      obtain ⟨hc2, hf2⟩ := HA.out.2.2.1.facts
      have s1 := fl_cell HA.out.2.1 f1 (by simp; omega)
      have t1 := HA.out.2.1.frozen f1
      have hz := HA.out.2.2.1.lt
      go_region
      all_goals
        go_wp2_with fail
        generalize hW : World.drew (World.setCell _ _ _) = wb
        have HB : Hid (Whole wb w.heap.size 27 #[.int .i64 0, .slice none 0 0] ∧ Whole wb (w.heap.size + 1) 32 (fl .f32 ((cs.set f0 st).set f1 ri)).toArray ∧ Whole wb (w.heap.size + 2) 27 #[.int .i64 n, .slice (some ⟨w.heap.size + 1, 0, none⟩) m m] ∧ Below w.heap.size w wb) := Lib.hid (by
          rw [← hW]
          exact ⟨(HA.out.1.far (by simp) _).drew, (fl_put HA.out.2.1 f1 ri).drew, (HA.out.2.2.1.far (by simp) _).drew, (HA.out.2.2.2.setCell (by simp) _).drew⟩)
        clear hW hc2 hf2 s1 t1 hz
        obtain ⟨hc2, hf2⟩ := HB.out.2.2.1.facts
        have s1 := fl_cell HB.out.2.1 f3 (by simp; omega)
        have t1 := HB.out.2.1.frozen f3
        have hz := HB.out.2.2.1.lt
        go_region
        all_goals
          have HC : Hid (Whole (World.drew (World.setCell wb ⟨w.heap.size + 1, f3, none⟩ (.float .f32 l))) w.heap.size 27 #[.int .i64 0, .slice none 0 0] ∧ Whole (World.drew (World.setCell wb ⟨w.heap.size + 1, f3, none⟩ (.float .f32 l))) (w.heap.size + 1) 32 (fl .f32 (((cs.set f0 st).set f1 ri).set f3 l)).toArray ∧ Whole (World.drew (World.setCell wb ⟨w.heap.size + 1, f3, none⟩ (.float .f32 l))) (w.heap.size + 2) 27 #[.int .i64 n, .slice (some ⟨w.heap.size + 1, 0, none⟩) m m] ∧ Below w.heap.size w (World.drew (World.setCell wb ⟨w.heap.size + 1, f3, none⟩ (.float .f32 l)))) := Lib.hid ⟨(HB.out.1.far (by simp) _).drew, (fl_put HB.out.2.1 f3 l).drew, (HB.out.2.2.1.far (by simp) _).drew, (HB.out.2.2.2.setCell (by simp) _).drew⟩
          go_wp2_with fail
          go_roundw
          case rel => exact ⟨a + 1, _, by omega, by go_num, HN.out, HC.out⟩
          case measure => simp [intOf]; omega
    · obtain rfl : a = n := by omega
      have HS := Lib.hid (And.intro (canL_of (m := m) (G := rinG a st ri) hcl (fun j hj => rinTo_G hto hn3 HL.out j (by rw [HM.out]; exact hj))) (fl_row q1 (lo := w.heap.size + 1) (hi := wr.heap.size) (Nat.le_refl _) q1.lt))
      clear hto q0 q1 q2 hbel
      go_wp2_with (first | (go_at_call 59; fail))
      refine (l07Give_any a cs m (w.heap.size + 1) hcl _ m _ HS.out.2 (by omega)).mono ?_
      rintro e w6 ⟨hw6, hd⟩
      have r5 := H.out.2.1.below hw6
      obtain ⟨hc6, hf6⟩ := r5.facts
      have HBL := Bel_next H.out.2.2.2.2 hw6
      have HRW := Lib.hid (HS.out.2.below hw6)
      have hz6 := r5.lt
      have hz5 := hw6.size
      clear hc2 hf2 r5 hw6
      rcases hd with ⟨hk, rfl⟩ | ⟨hk, rfl⟩
      · have HE := Lib.hid (And.intro (HS.out.1.chain hk) (HS.out.1.eq hk))
        clear hk
        go_wp2_with fail
        obtain rfl := HM.out
        refine bodyPost_ret (v := .tuple #[.agg #[.int .i64 a, .slice (some ⟨w.heap.size + 1, 0, none⟩) (a * a) (a * a)], .bool true]) (by simp [results, Try.results22, go_sem, hc6]) rfl (.inl ⟨HE.out.1, _, _, rfl, ?_, (by repeat (first | with_reducible exact Below.refl _ _ | with_reducible exact HBL | with_reducible refine Below.drew ?_ | with_reducible refine Bel_drewN ?_ _ | with_reducible refine Below.alloc ?_ (by first | omega | (simp; done) | (simp; omega)) _ | with_reducible refine Below.setCell ?_ (by first | omega | (simp; done) | (simp; omega)) _))⟩)
        rw [← HE.out.2]
        exact ((((HRW.out.far (.inl (by simp)) _).far (.inl (by simp)) _)).wide (by omega) (by simp; omega))
      · have HE := Lib.hid (show ¬ isChain a (canL m (rinG a st ri)) from fun h => hk (HS.out.1.symm.chain h))
        clear hk
        go_wp2_with fail
        obtain rfl := HM.out
        exact bodyPost_ret (v := .tuple #[.agg #[.int .i64 0, .slice none 0 0], .bool false]) (by simp [results, Try.results22, go_sem, hc6]) rfl (.inr ⟨HE.out, rfl, (by repeat (first | with_reducible exact Below.refl _ _ | with_reducible exact HBL | with_reducible refine Below.drew ?_ | with_reducible refine Bel_drewN ?_ _ | with_reducible refine Below.alloc ?_ (by first | omega | (simp; done) | (simp; omega)) _ | with_reducible refine Below.setCell ?_ (by first | omega | (simp; done) | (simp; omega)) _))⟩)
set_option maxRecDepth 100000 in
set_option maxHeartbeats 1000000 in
theorem specRin_not (n st ri : Nat) (w : World) (hn3 : 3 ≤ n) (hn : n ≤ 12) (h : ¬(partB st = true ∧ partB ri = true ∧ ∃ l, lefV st ri = some l ∧ geB l 0 = true)) :
    Calls Try.prog 22 #[.int .i64 n, .float .f32 st, .float .f32 ri] w (RetB (.tuple #[.agg #[.int .i64 0, .slice none 0 0], .bool false]) w) := by
  have b1 : (n : Int) ≤ 12 := by omega
  have b2 : (3 : Int) ≤ n := by omega
  cases h0 : partB st with
  | false =>
    have HP := Lib.hid h0
    clear h h0
    go_enter Try.func22, Try.ntmps22
    go_wp2_with (first | (go_at_call 57; refine (l00In_yes _ _ _ b2 b1 _).mono ?_; rintro e w' ⟨rfl, rfl⟩) | (go_at_call 58; refine (l02Part_v _ _ HP.out _).mono ?_; rintro e w' ⟨rfl, rfl⟩))
    exact bodyPost_ret (v := .tuple #[.agg #[.int .i64 0, .slice none 0 0], .bool false]) (by simp [results, Try.results22, go_sem]) rfl ⟨rfl, (by repeat (first | with_reducible exact Below.refl _ _ | with_reducible exact HBL | with_reducible refine Below.drew ?_ | with_reducible refine Bel_drewN ?_ _ | with_reducible refine Below.alloc ?_ (by first | omega | (simp; done) | (simp; omega)) _ | with_reducible refine Below.setCell ?_ (by first | omega | (simp; done) | (simp; omega)) _))⟩
  | true =>
    cases h1 : partB ri with
    | false =>
      have HP := Lib.hid (And.intro h0 h1)
      clear h h0 h1
      go_enter Try.func22, Try.ntmps22
      go_wp2_with (first | (go_at_call 57; refine (l00In_yes _ _ _ b2 b1 _).mono ?_; rintro e w' ⟨rfl, rfl⟩) | (go_at_call 58; fail))
      refine (l02Part_v _ _ HP.out.1 _).mono ?_
      rintro e w' ⟨rfl, rfl⟩
      go_wp2_with (first | (go_at_call 58; fail))
      refine (l02Part_v _ _ HP.out.2 _).mono ?_
      rintro e w' ⟨rfl, rfl⟩
      go_wp2_with fail
      exact bodyPost_ret (v := .tuple #[.agg #[.int .i64 0, .slice none 0 0], .bool false]) (by simp [results, Try.results22, go_sem]) rfl ⟨rfl, (by repeat (first | with_reducible exact Below.refl _ _ | with_reducible exact HBL | with_reducible refine Below.drew ?_ | with_reducible refine Bel_drewN ?_ _ | with_reducible refine Below.alloc ?_ (by first | omega | (simp; done) | (simp; omega)) _ | with_reducible refine Below.setCell ?_ (by first | omega | (simp; done) | (simp; omega)) _))⟩
    | true =>
      have HP := Lib.hid (And.intro h0 h1)
      have HGE : Hid (∀ r, av .f32 r = lefV st ri → geB r 0 = false) := Lib.hid (fun r hr => by
        cases hg : geB r 0 with
        | false => rfl
        | true =>
          cases hl : lefV st ri with
          | none => rw [hl] at hr; rw [(nan_ord hr).1] at hg; cases hg
          | some l =>
            rw [hl] at hr
            rw [av_of_is hr] at hg
            exact absurd ⟨h0, h1, l, hl, hg⟩ h)
      clear h h0 h1
      go_enter Try.func22, Try.ntmps22
      go_wp2_with (first | (go_at_call 57; refine (l00In_yes _ _ _ b2 b1 _).mono ?_; rintro e w' ⟨rfl, rfl⟩) | (go_at_call 58; fail))
      refine (l02Part_v _ _ HP.out.1 _).mono ?_
      rintro e w' ⟨rfl, rfl⟩
      go_wp2_with (first | (go_at_call 58; fail))
      refine (l02Part_v _ _ HP.out.2 _).mono ?_
      rintro e w' ⟨rfl, rfl⟩
      go_wp2_with (first | (refine wpList_farith_g (dst := some 25) _ _ _ _ _ .f32 _ _ rfl rfl rfl rfl ?_; intro r1 n1 hr1) | (refine wpList_farith_g (dst := some 27) _ _ _ _ _ .f32 _ _ rfl rfl rfl rfl ?_; intro r2 n2 hr2; have hge' := ge_factB (HGE.out r2 (by unfold lefV; rw [← av_one32, ← hr1.2]; exact hr2.2))))
      exact bodyPost_ret (v := .tuple #[.agg #[.int .i64 0, .slice none 0 0], .bool false]) (by simp [results, Try.results22, go_sem]) rfl ⟨rfl, (by repeat (first | with_reducible exact Below.refl _ _ | with_reducible exact HBL | with_reducible refine Below.drew ?_ | with_reducible refine Bel_drewN ?_ _ | with_reducible refine Below.alloc ?_ (by first | omega | (simp; done) | (simp; omega)) _ | with_reducible refine Below.setCell ?_ (by first | omega | (simp; done) | (simp; omega)) _))⟩
theorem specRin_no (n : Int) (st ri : Nat) (w : World) (hn : ¬(3 ≤ n ∧ n ≤ 12)) :
    Calls Try.prog 22 #[.int .i64 n, .float .f32 st, .float .f32 ri] w (RetB (.tuple #[.agg #[.int .i64 0, .slice none 0 0], .bool false]) w) := by
  have HN : Hid (n < 3 ∨ 12 < n) := Lib.hid (by omega)
  clear hn
  go_enter Try.func22, Try.ntmps22
  go_wp2_with (first | (go_at_call 57; refine (l00In_no _ _ _ HN.out _).mono ?_; rintro e w' ⟨rfl, rfl⟩) | (go_at_call 58; fail))
  exact bodyPost_ret (v := .tuple #[.agg #[.int .i64 0, .slice none 0 0], .bool false]) (by simp [results, Try.results22, go_sem]) rfl ⟨rfl, (by repeat (first | with_reducible exact Below.refl _ _ | with_reducible exact HBL | with_reducible refine Below.drew ?_ | with_reducible refine Bel_drewN ?_ _ | with_reducible refine Below.alloc ?_ (by first | omega | (simp; done) | (simp; omega)) _ | with_reducible refine Below.setCell ?_ (by first | omega | (simp; done) | (simp; omega)) _))⟩
theorem specRin_yes (n st ri : Nat) (w : World) (hn3 : 3 ≤ n) (hn : n ≤ 12) :
    Calls Try.prog 22 #[.int .i64 n, .float .f32 st, .float .f32 ri] w (ChR n (n * n) (rinG n st ri) w) := by
  by_cases h : partB st = true ∧ partB ri = true ∧ ∃ l, lefV st ri = some l ∧ geB l 0 = true
  · obtain ⟨h0, h1, l, hl, hg⟩ := h
    exact specRin_build n st ri l w hn3 hn h0 h1 hl hg
  · refine (specRin_not n st ri w hn3 hn h).mono fun e w1 hr => .inr ⟨fun hc => h ?_, hr⟩
    obtain ⟨h0, h1, l, hl, hp⟩ := rin_needs hn3 hc
    exact ⟨h0, h1, l, hl, part_ge hp⟩
def rinC (n : Int) (st ri : Nat) : Prop := (3 ≤ n ∧ n ≤ 12) ∧ isChain n (canL (n.toNat * n.toNat) (rinG n.toNat st ri))
theorem specRin_is (n : Int) (mm st ri : Nat) (w : World) (hmm : mm = n.toNat * n.toNat) (hF : rinC n st ri) :
    Calls Try.prog 22 #[.int .i64 n, .float .f32 st, .float .f32 ri] w (RetL mm (fl .f32 (canL mm (rinG n.toNat st ri))) (fun x => .tuple #[.agg #[.int .i64 n, x], .bool true]) w) := by
  subst hmm
  obtain ⟨m, rfl⟩ : ∃ m : Nat, n = m := ⟨n.toNat, by have := hF.1; omega⟩
  have h2 := hF.2
  simp only [Int.toNat_natCast] at h2 ⊢
  exact (specRin_yes m st ri w (by have := hF.1; omega) (by have := hF.1; omega)).mono fun e w1 hh => ChR.yes h2 hh
theorem specRin_isnot (n : Int) (st ri : Nat) (w : World) (hN : ¬rinC n st ri) :
    Calls Try.prog 22 #[.int .i64 n, .float .f32 st, .float .f32 ri] w (RetB (.tuple #[.agg #[.int .i64 0, .slice none 0 0], .bool false]) w) := by
  by_cases hn : 3 ≤ n ∧ n ≤ 12
  · obtain ⟨m, rfl⟩ : ∃ m : Nat, n = m := ⟨n.toNat, by omega⟩
    have h2 : ¬ isChain m (canL (m * m) (rinG m st ri)) := fun k => hN ⟨hn, by simp only [Int.toNat_natCast]; exact k⟩
    exact (specRin_yes m st ri w (by omega) (by omega)).mono fun e w1 hh => ChR.no h2 hh
  · exact specRin_no n st ri w hn
theorem implRin_is (n : Int) (mm st ri : Nat) (w : World) (hmm : mm = n.toNat * n.toNat) (hF : rinC n st ri) :
    Calls Try.prog 23 #[.int .i64 n, .float .f32 st, .float .f32 ri] w (RetL mm (fl .f32 (canL mm (rinG n.toNat st ri))) (fun x => .tuple #[.agg #[.int .i64 n, x], .bool true]) w) := by
  subst hmm
  obtain ⟨m, rfl⟩ : ∃ m : Nat, n = m := ⟨n.toNat, by have := hF.1; omega⟩
  have h2 := hF.2
  simp only [Int.toNat_natCast] at h2 ⊢
  exact (implRin_yes m st ri w (by have := hF.1; omega) (by have := hF.1; omega)).mono fun e w1 hh => ChR.yes h2 hh
theorem implRin_isnot (n : Int) (st ri : Nat) (w : World) (hN : ¬rinC n st ri) :
    Calls Try.prog 23 #[.int .i64 n, .float .f32 st, .float .f32 ri] w (RetB (.tuple #[.agg #[.int .i64 0, .slice none 0 0], .bool false]) w) := by
  by_cases hn : 3 ≤ n ∧ n ≤ 12
  · obtain ⟨m, rfl⟩ : ∃ m : Nat, n = m := ⟨n.toNat, by omega⟩
    have h2 : ¬ isChain m (canL (m * m) (rinG m st ri)) := fun k => hN ⟨hn, by simp only [Int.toNat_natCast]; exact k⟩
    exact (implRin_yes m st ri w (by omega) (by omega)).mono fun e w1 hh => ChR.no h2 hh
  · exact implRin_no n st ri w hn
end Go.Proofs.Ytfbllggnndodoaa
