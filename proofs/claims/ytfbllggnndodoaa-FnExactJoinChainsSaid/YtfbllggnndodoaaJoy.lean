/- JoinChains of the model. -/
import Derived.Test.YtfbllggnndodoaaJoi
import Derived.Test.YtfbllggnndodoaaSry
import Derived.Deep.Cut
namespace Go.Proofs.Ytfbllggnndodoaa
open Go Go.RowKit Fl Vag
set_option linter.unusedVariables false
set_option maxRecDepth 100000 in
set_option maxHeartbeats 4000000 in
theorem specJoi_yes (s t : Int) (ss us : List Nat) (m k : Nat) (hm : ss.length = m) (hk : us.length = k) (ao bo : Option Addr) (c d : Nat) (w : World) (hs : Holds w ao (fl .f32 ss)) (hu : Holds w bo (fl .f32 us)) (hlen : m ≤ 1048576) (hlk : k ≤ 1048576) (hC : joiC s t ss us) :
    ∃ n : Nat, s = n ∧ m = n * n ∧ Calls Try.prog 38 #[.agg #[.int .i64 s, .slice ao m c], .agg #[.int .i64 t, .slice bo k d]] w (ChR n (n * n) (joiG n ss us) w) := by
  obtain ⟨n, rfl, n1, n2, n3, n4⟩ := hC.1.nat
  obtain rfl : t = n := hC.2.2.symm
  have n5 : us.length = n * n := by have := hC.2.1.len; rw [← Int.natCast_mul] at this; omega
  obtain ⟨b, o, rfl⟩ := hs.at (by rw [fl_len32, n3]; exact Nat.mul_pos n1 n1)
  obtain ⟨b', o', rfl⟩ := hu.at (by rw [fl_len32, n5]; exact Nat.mul_pos n1 n1)
  obtain rfl : k = m := by omega
  refine ⟨n, rfl, by rw [← hm]; exact n3, ?_⟩
  have HX := Lib.hid (And.intro hs (And.intro hu (And.intro hm (And.intro hk (And.intro n3 hC)))))
  have hn12 : (n : Int) ≤ 12 := by omega
  have hm144 : k ≤ 144 := by have := sq_le n2; omega
  clear hs hu hm hk n3 n4 n5 hC
  go_enter Try.func38, Try.ntmps38
  go_wp2_with (first | (go_at_call 50; fail))
  generalize hW : World.alloc (World.alloc (World.alloc _ _) _) _ = w0
  have H0 : Hid (Whole w0 w.heap.size 27 #[.int .i64 n, .slice (some ⟨b, o, none⟩) k c] ∧ Whole w0 (w.heap.size + 1) 27 #[.int .i64 n, .slice (some ⟨b', o', none⟩) k d] ∧ Whole w0 (w.heap.size + 2) 27 #[.int .i64 0, .slice none 0 0] ∧ Below w.heap.size w w0 ∧ w0.heap.size = w.heap.size + 3) := Lib.hid (by rw [← hW]; exact ⟨((Whole.made _ _ _).alloc _).alloc _, (Whole.made2 _ _ _ _).alloc _, by simpa using Whole.made2 (w.alloc _) _ _ _, (by repeat (first | with_reducible exact Below.refl _ _ | with_reducible exact HBL | with_reducible refine Below.drew ?_ | with_reducible refine Bel_drewN ?_ _ | with_reducible refine Below.alloc ?_ (by first | omega | (simp; done) | (simp; omega)) _ | with_reducible refine Below.setCell ?_ (by first | omega | (simp; done) | (simp; omega)) _)), by simp⟩)
  clear hW
  refine ((l07Is_any n ss k HX.out.2.2.1 _ c _ _ H0.out.1 (HX.out.1.below H0.out.2.2.2.1) hlen).mono fun e w1 h => BoD.yes HX.out.2.2.2.2.2.1 h).mono ?_
  rintro e w1 ⟨q, rfl, rfl⟩
  go_wp2_with (first | (go_at_call 50; fail))
  refine ((l07Is_any n us k HX.out.2.2.2.1 _ d _ _ (H0.out.2.1.drewN q) (HX.out.2.1.below (Bel_drewN H0.out.2.2.2.1 q)) hlen).mono fun e w1 h => BoD.yes HX.out.2.2.2.2.2.2.1 h).mono ?_
  rintro e w1 ⟨q2, rfl, rfl⟩
  obtain ⟨wq, hwq⟩ : ∃ wq, wq = w0.drewN (q + q2) := ⟨_, rfl⟩
  have H1 := Lib.hid (show Whole wq w.heap.size 27 #[.int .i64 n, .slice (some ⟨b, o, none⟩) k c] ∧ Whole wq (w.heap.size + 1) 27 #[.int .i64 n, .slice (some ⟨b', o', none⟩) k d] ∧ Whole wq (w.heap.size + 2) 27 #[.int .i64 0, .slice none 0 0] ∧ Below w.heap.size w wq ∧ wq.heap.size = w.heap.size + 3 from by rw [hwq]; exact ⟨H0.out.1.drewN _, H0.out.2.1.drewN _, H0.out.2.2.1.drewN _, Bel_drewN H0.out.2.2.2.1 _, H0.out.2.2.2.2⟩)
  try rw [World.drewN_drewN]
  rw [← hwq]
  obtain ⟨hc0, hf0⟩ := H1.out.1.facts
  obtain ⟨hc1, hf1⟩ := H1.out.2.1.facts
  have hz1 := H1.out.2.2.1.lt
  clear hwq H0
  go_wp2_with fail
  clear hc0 hf0 hc1 hf1 hz1
  have hsz := H1.out.2.2.2.2
  rw [hsz]
  clear hsz
  generalize hW : World.alloc _ _ = w5
  have H5 : Hid (Whole w5 w.heap.size 27 #[.int .i64 n, .slice (some ⟨b, o, none⟩) k c] ∧ Whole w5 (w.heap.size + 1) 27 #[.int .i64 n, .slice (some ⟨b', o', none⟩) k d] ∧ Whole w5 (w.heap.size + 2) 27 #[.int .i64 0, .slice none 0 0] ∧ Whole w5 (w.heap.size + 3) 27 #[.int .i64 n, .slice none 0 0] ∧ Below w.heap.size w w5) := Lib.hid (by
    rw [← hW]
    have h := Whole.made wq 27 #[.int .i64 n, .slice none 0 0]
    rw [H1.out.2.2.2.2] at h
    exact ⟨H1.out.1.alloc _, H1.out.2.1.alloc _, H1.out.2.2.1.alloc _, h, H1.out.2.2.2.1.alloc (by have := H1.out.2.2.2.2; omega) _⟩)
  clear hW H1
  go_loopw [8] (fun i wr => ∃ (a : Nat) (v : Value) (ds : List Nat), a ≤ n ∧ i = .int .i64 a ∧ ds.length = a * n ∧ (∀ t, t < a * n → av .f32 (ds[t]?.getD 0) = joiG n ss us t) ∧ wr.ownsRow (w.heap.size + 4) 32 1 v (a * n) (fl .f32 ds) ∧ Whole wr w.heap.size 27 #[.int .i64 n, .slice (some ⟨b, o, none⟩) k c] ∧ Whole wr (w.heap.size + 1) 27 #[.int .i64 n, .slice (some ⟨b', o', none⟩) k d] ∧ Whole wr (w.heap.size + 2) 27 #[.int .i64 0, .slice none 0 0] ∧ Whole wr (w.heap.size + 3) 27 #[.int .i64 n, v] ∧ Below w.heap.size w wr) (fun i _ => n - (intOf i).toNat)
  case atStart => exact ⟨0, _, [], Nat.zero_le _, rfl, by simp, fun j hj => absurd hj (by simp), by rw [Nat.zero_mul]; exact World.ownsRow_nil _ _ _ _, H5.out⟩
  case round =>
    obtain ⟨a, v, ds, ha, rfl, hdl, hds, hown, hrest⟩ := hrel
    have H := Lib.hid (And.intro hdl (And.intro hds (And.intro hown hrest)))
    have han : (a : Int) ≤ n := by omega
    clear hdl hds hown hrest H5
    by_cases hlt : a < n
    · have hlt' : (a : Int) < n := by omega
      go_wp2_with fail
      rename World => wa
      go_loopw [9] (fun x wr => ∃ (e : Nat) (v : Value) (ds : List Nat), e ≤ n ∧ x = .int .i64 e ∧ ds.length = a * n + e ∧ (∀ t, t < a * n + e → av .f32 (ds[t]?.getD 0) = joiG n ss us t) ∧ wr.ownsRow (w.heap.size + 4) 32 1 v (a * n + e) (fl .f32 ds) ∧ Whole wr w.heap.size 27 #[.int .i64 n, .slice (some ⟨b, o, none⟩) k c] ∧ Whole wr (w.heap.size + 1) 27 #[.int .i64 n, .slice (some ⟨b', o', none⟩) k d] ∧ Whole wr (w.heap.size + 2) 27 #[.int .i64 0, .slice none 0 0] ∧ Whole wr (w.heap.size + 3) 27 #[.int .i64 n, v] ∧ Below w.heap.size w wr) (fun x _ => n - (intOf x).toNat)
      case atStart => exact ⟨0, v, ds, Nat.zero_le _, rfl, H.out⟩
      case round =>
        obtain ⟨e, v2, es, he, rfl, hdl, hds, hown, q0, q1, q3, q4, hbel⟩ := hrel
        have H2 := Lib.hid (And.intro hdl (And.intro hds (And.intro hown (And.intro q0 (And.intro q1 (And.intro q3 (And.intro q4 hbel)))))))
        have hen : (e : Int) ≤ n := by omega
        clear hdl hds hown q0 q1 q3 q4 hbel H
        by_cases hlt2 : e < n
        · have hlt2' : (e : Int) < n := by omega
          obtain ⟨d1, d2⟩ := div_at (i := a) hlt2
          have HG : Hid (joiG n ss us (a * n + e) = accJ n ss us a e n) := Lib.hid (by unfold joiG; rw [d1, d2])
          clear d1 d2
          go_wp2_with fail
          rename World => wb
          go_loopw [10, 11] (fun s x wr => ∃ (j r q : Nat), j ≤ n ∧ x = .int .i64 j ∧ s = .float .f32 r ∧ av .f32 r = accJ n ss us a e j ∧ wr = wb.drewN q) (fun _ x _ => n - (intOf x).toNat)
          case atStart => exact ⟨0, 0, 0, Nat.zero_le _, rfl, rfl, av_zero .f32, rfl⟩
          case round =>
            obtain ⟨j, r, q, hj, rfl, rfl, hr, rfl⟩ := hrel
            have HR := Lib.hid hr
            have hjn : (j : Int) ≤ n := by omega
            obtain ⟨hc0, hf0⟩ := H2.out.2.2.2.1.facts
            obtain ⟨hc1, hf1⟩ := H2.out.2.2.2.2.1.facts
            clear hr
            by_cases hlt3 : j < n
            · have hlt3' : (j : Int) < n := by omega
              have hin := row_in hlt
              have hin2 := row_in hlt3
              obtain ⟨an, han2⟩ : ∃ z, a * n = z := ⟨_, rfl⟩
              obtain ⟨jn, hjn2⟩ : ∃ z, j * n = z := ⟨_, rfl⟩
              obtain ⟨f, hf⟩ : ∃ f, an + j = f := ⟨_, rfl⟩
              obtain ⟨f2, hf2⟩ : ∃ f, jn + e = f := ⟨_, rfl⟩
              have hfm : f < k := by have := HX.out.2.2.2.2.1; have := HX.out.2.2.1; omega
              have hfm2 : f2 < k := by have := HX.out.2.2.2.2.1; have := HX.out.2.2.1; omega
              have hw1 : IntKind.i64.wrap ((a : Int) * (n : Int)) = (an : Int) := by rw [← Int.natCast_mul, han2, IntKind.wrap_i64]; omega
              have hw2 : IntKind.i64.wrap ((an : Int) + (j : Int)) = (f : Int) := by rw [IntKind.wrap_i64]; omega
              have hw3 : IntKind.i64.wrap ((j : Int) * (n : Int)) = (jn : Int) := by rw [← Int.natCast_mul, hjn2, IntKind.wrap_i64]; omega
              have hw4 : IntKind.i64.wrap ((jn : Int) + (e : Int)) = (f2 : Int) := by rw [IntKind.wrap_i64]; omega
              obtain ⟨b2, o2, e', hcs⟩ := (HX.out.1.below H2.out.2.2.2.2.2.2.2) f (by rw [fl_len32, HX.out.2.2.1]; exact hfm)
              cases e'
              rw [fl_get _ _ _ (by rw [HX.out.2.2.1]; exact hfm)] at hcs
              obtain ⟨b3, o3, e', hcu⟩ := (HX.out.2.1.below H2.out.2.2.2.2.2.2.2) f2 (by rw [fl_len32, HX.out.2.2.2.1]; exact hfm2)
              cases e'
              rw [fl_get _ _ _ (by rw [HX.out.2.2.2.1]; exact hfm2)] at hcu
              have HC : Hid (accJ n ss us a e (j + 1) = aop .add .f32 (accJ n ss us a e j) (aop .mul .f32 (av .f32 (ss[f]?.getD 0)) (av .f32 (us[f2]?.getD 0)))) := Lib.hid (by rw [← hf, ← hf2, ← han2, ← hjn2]; rfl)
              generalize ss[f]?.getD 0 = x at hcs HC
              generalize us[f2]?.getD 0 = y at hcu HC
              have g0 : (0 : Int) ≤ (f : Int) := by omega
              have g1 : (f : Int) < (k : Int) := by omega
              have g2 : (0 : Int) ≤ (f2 : Int) := by omega
              have g3 : (f2 : Int) < (k : Int) := by omega
              clear hin hin2 hjn2 hf hf2 hfm hfm2 han2
              go_wp2_with fail
              refine wp_region_lex (C := Cw (wb.drewN q)) (by kernel_rfl) (by kernel_rfl) ⟨1, rfl⟩ ?_
              repeat (first
                | (apply lex_move rfl (.inl rfl); (focus (simp [go_sem]; rfl)))
                | (apply lex_move rfl (.inr rfl); (focus (simp [go_sem]; rfl)))
                | (apply lex_farith .mul _ _ _ _ .f32 _ _ rfl rfl rfl; (focus (intro r; simp [go_sem]; rfl)); intro r1 hr1)
                | (apply lex_farith .add _ _ _ _ .f32 _ _ rfl rfl rfl; (focus (intro r; simp [go_sem]; rfl)); intro r2 hr2)
                | (apply lex_pure rfl; (focus (intro m; go_simp; rfl)); (focus (simp [go_sem]; rfl))))
              refine lex_nil ?_
              rintro _ ⟨m2, rfl⟩
              have HV2 : Hid (av .f32 r2 = accJ n ss us a e (j + 1)) := Lib.hid (by rw [HC.out, ← HR.out, ← hr1.2]; exact hr2.2)
              clear hr1 hr2 hcs hcu HC hw1 hw2 hw3 hw4 g0 g1 g2 g3 hc0 hf0 hc1 hf1
              go_wp2
              go_roundw
              case rel => exact ⟨j + 1, r2, _, by omega, by go_num, rfl, HV2.out, rfl⟩
              case measure => simp [intOf]; omega
            · obtain rfl : j = n := by omega
              obtain ⟨wq, hwq⟩ : ∃ wq, wq = wb.drewN q := ⟨_, rfl⟩
              have H3 := Lib.hid (show Whole wq w.heap.size 27 #[.int .i64 j, .slice (some ⟨b, o, none⟩) k c] ∧ Whole wq (w.heap.size + 1) 27 #[.int .i64 j, .slice (some ⟨b', o', none⟩) k d] ∧ Whole wq (w.heap.size + 2) 27 #[.int .i64 0, .slice none 0 0] ∧ Whole wq (w.heap.size + 3) 27 #[.int .i64 j, v2] ∧ Below w.heap.size w wq ∧ wq.ownsRow (w.heap.size + 4) 32 1 v2 (a * j + e) (fl .f32 es) from by rw [hwq]; exact ⟨H2.out.2.2.2.1.drewN _, H2.out.2.2.2.2.1.drewN _, H2.out.2.2.2.2.2.1.drewN _, H2.out.2.2.2.2.2.2.1.drewN _, Bel_drewN H2.out.2.2.2.2.2.2.2 _, own_heap7 H2.out.2.2.1 rfl⟩)
              have hzq := H3.out.2.2.2.1.lt
              obtain ⟨hc5, hf5⟩ := H3.out.2.2.2.1.facts
              have hq144 : a * j + e < 144 := by have h1 := sq_pos hlt hlt2; have h2 := sq_le n2; omega
              rw [← hwq]
              clear hwq hc0 hf0 hc1 hf1
              go_wp2_with (at_builtin; refine wpList_app1 rfl _ _ 22 rfl (w.heap.size + 4) 32 (.float .f32 0) 4 Try.underlying22 (by kernel_rfl) rfl _ (a * j + e) _ rfl (H3.out.2.2.2.2.2.alloc _) _ _ (.float .f32 r) rfl ?_ rfl ⟨by omega, by omega⟩ ?_ ?_)
              · exact (Whole.made wq 32 #[.float .f32 r]).cell 0
              · simp; omega
              · intro v' w' hown' hgr'
                obtain ⟨aoV, cV, rfl⟩ := own_form hown'
                have hne : ∀ g, g < w.heap.size + 4 → some g ≠ v2.ownBlock := fun g hg => own_ne' H3.out.2.2.2.2.2 hg
                have p0 := (H3.out.1.alloc (.cells #[.float .f32 r] 32)).grown hgr' (hne _ (by omega))
                have p1 := (H3.out.2.1.alloc (.cells #[.float .f32 r] 32)).grown hgr' (hne _ (by omega))
                have p2 := (H3.out.2.2.1.alloc (.cells #[.float .f32 r] 32)).grown hgr' (hne _ (by omega))
                have p3 := (H3.out.2.2.2.1.alloc (.cells #[.float .f32 r] 32)).grown hgr' (hne _ (by omega))
                have pb : Below w.heap.size w w' := by
                  have h1 : Below w.heap.size w (wq.alloc (.cells #[.float .f32 r] 32)) := H3.out.2.2.2.2.1.alloc (by omega) _
                  exact h1.grown hgr' (by simp; omega) (fun i hi => by have := own_ge H3.out.2.2.2.2.2 i hi; omega)
                have ho3 : w'.ownsRow (w.heap.size + 4) 32 1 (.slice aoV (a * j + e + 1) cV) (a * j + e + 1) (fl .f32 (es ++ [r])) := by rw [fl, List.map_append]; exact hown'
                have ho4 := ho3.kept (grown_set w' (w.heap.size + 3) 1 (.slice aoV (a * j + e + 1) cV)) (own_ne ho3 (by omega))
                have H4 := Lib.hid (And.intro ho4 (And.intro (p0.far (p := ⟨w.heap.size + 3, 1, none⟩) (by simp) (.slice aoV (a * j + e + 1) cV)) (And.intro (p1.far (p := ⟨w.heap.size + 3, 1, none⟩) (by simp) (.slice aoV (a * j + e + 1) cV)) (And.intro (p2.far (p := ⟨w.heap.size + 3, 1, none⟩) (by simp) (.slice aoV (a * j + e + 1) cV)) (And.intro (p3.put 1 (.slice aoV (a * j + e + 1) cV)) (pb.setCell (p := ⟨w.heap.size + 3, 1, none⟩) (by simp) (.slice aoV (a * j + e + 1) cV)))))))
                obtain ⟨hc7, hf7⟩ := p3.facts
                have hz7 := p3.lt
                clear hown' hgr' p0 p1 p2 p3 pb ho3 ho4 hc5 hf5 hne
                go_wp2_with fail
                go_roundw
                case rel =>
                  refine ⟨e + 1, .slice aoV (a * j + e + 1) cV, es ++ [r], by omega, by go_num, by rw [List.length_append, H2.out.1]; rfl, fun t ht => ?_, H4.out⟩
                  by_cases e2 : t = a * j + e
                  · subst e2
                    rw [List.getElem?_append_right (by rw [H2.out.1]; exact Nat.le_refl _), H2.out.1, Nat.sub_self, HG.out]
                    exact HR.out
                  · rw [List.getElem?_append_left (by rw [H2.out.1]; omega)]
                    exact H2.out.2.1 t (by omega)
                case measure => simp [intOf]; omega
        · obtain rfl : e = n := by omega
          go_wp2_with fail
          go_roundw
          case rel => exact ⟨a + 1, v2, es, by omega, by go_num, by rw [Nat.succ_mul]; exact H2.out.1, by rw [Nat.succ_mul]; exact H2.out.2.1, by rw [Nat.succ_mul]; exact H2.out.2.2.1, H2.out.2.2.2⟩
          case measure => simp [intOf]; omega
    · obtain rfl : a = n := by omega
      obtain ⟨z, hz⟩ : ∃ z, z = a * a := ⟨_, rfl⟩
      obtain ⟨hdl, hds, hown, q0, q1, q3, q4, hbel⟩ := H.out
      rw [← hz] at hdl hds hown
      have hzl : z ≤ 1048576 := by have := sq_le n2; omega
      obtain ⟨ao', cc', rfl⟩ := own_form hown
      have HR := Lib.hid (And.intro (canL_of hdl hds) (And.intro (Row.of_own hown) hdl))
      obtain ⟨hc4, hf4⟩ := q4.facts
      have Q := Lib.hid (And.intro q3 hbel)
      have HM := Lib.hid hz
      rw [← hz]
      clear hdl hds hown q0 q1 q3 q4 hbel H hz
      go_wp2_with (first | (go_at_call 59; fail))
      refine (l07Give_any a ds z (w.heap.size + 4) HR.out.2.2 ao' cc' _ HR.out.2.1 hzl).mono ?_
      rintro e w6 ⟨hw6, hd⟩
      have r1 := Q.out.1.below hw6
      obtain ⟨hc6, hf6⟩ := r1.facts
      have HBL := Bel_next Q.out.2 hw6
      have HRW := Lib.hid (HR.out.2.1.below hw6)
      have hz6 := r1.lt
      have hz5 := hw6.size
      clear hc4 hf4 r1 hw6
      rcases hd with ⟨hk, rfl⟩ | ⟨hk, rfl⟩
      · have HE := Lib.hid (And.intro (HR.out.1.chain hk) (HR.out.1.eq hk))
        clear hk
        go_wp2_with fail
        obtain rfl := HM.out
        refine bodyPost_ret (v := .tuple #[.agg #[.int .i64 a, .slice ao' (a * a) cc'], .bool true]) (by simp [results, Try.results38, go_sem, hc6]) rfl (.inl ⟨HE.out.1, ao', cc', rfl, ?_, (by repeat (first | with_reducible exact Below.refl _ _ | with_reducible exact HBL | with_reducible refine Below.drew ?_ | with_reducible refine Bel_drewN ?_ _ | with_reducible refine Below.alloc ?_ (by first | omega | (simp; done) | (simp; omega)) _ | with_reducible refine Below.setCell ?_ (by first | omega | (simp; done) | (simp; omega)) _))⟩)
        rw [← HE.out.2]
        exact ((((HRW.out.far (.inl (by simp)) _).far (.inl (by simp)) _)).wide (by omega) (by simp; omega))
      · have HE := Lib.hid (show ¬ isChain a (canL z (joiG a ss us)) from fun h => hk (HR.out.1.symm.chain h))
        clear hk
        go_wp2_with fail
        obtain rfl := HM.out
        exact bodyPost_ret (v := .tuple #[.agg #[.int .i64 0, .slice none 0 0], .bool false]) (by simp [results, Try.results38, go_sem, hc6]) rfl (.inr ⟨HE.out, rfl, (by repeat (first | with_reducible exact Below.refl _ _ | with_reducible exact HBL | with_reducible refine Below.drew ?_ | with_reducible refine Bel_drewN ?_ _ | with_reducible refine Below.alloc ?_ (by first | omega | (simp; done) | (simp; omega)) _ | with_reducible refine Below.setCell ?_ (by first | omega | (simp; done) | (simp; omega)) _))⟩)
set_option maxRecDepth 100000 in
set_option maxHeartbeats 1000000 in
theorem specJoi_no (s t : Int) (ss us : List Nat) (m k : Nat) (hm : ss.length = m) (hk : us.length = k) (ao bo : Option Addr) (c d : Nat) (w : World) (hs : Holds w ao (fl .f32 ss)) (hu : Holds w bo (fl .f32 us)) (hlen : m ≤ 1048576) (hlk : k ≤ 1048576) (hC : ¬ joiC s t ss us) :
    Calls Try.prog 38 #[.agg #[.int .i64 s, .slice ao m c], .agg #[.int .i64 t, .slice bo k d]] w (RetB (.tuple #[.agg #[.int .i64 0, .slice none 0 0], .bool false]) w) := by
  have HX := Lib.hid (And.intro hs (And.intro hu (And.intro hm (And.intro hk hC))))
  clear hs hu hm hk hC
  go_enter Try.func38, Try.ntmps38
  go_wp2_with (first | (go_at_call 50; fail))
  generalize hW : World.alloc (World.alloc (World.alloc _ _) _) _ = w0
  have H0 : Hid (Whole w0 w.heap.size 27 #[.int .i64 s, .slice ao m c] ∧ Whole w0 (w.heap.size + 1) 27 #[.int .i64 t, .slice bo k d] ∧ Whole w0 (w.heap.size + 2) 27 #[.int .i64 0, .slice none 0 0] ∧ Below w.heap.size w w0) := Lib.hid (by rw [← hW]; exact ⟨((Whole.made _ _ _).alloc _).alloc _, (Whole.made2 _ _ _ _).alloc _, by simpa using Whole.made2 (w.alloc _) _ _ _, (by repeat (first | with_reducible exact Below.refl _ _ | with_reducible exact HBL | with_reducible refine Below.drew ?_ | with_reducible refine Bel_drewN ?_ _ | with_reducible refine Below.alloc ?_ (by first | omega | (simp; done) | (simp; omega)) _ | with_reducible refine Below.setCell ?_ (by first | omega | (simp; done) | (simp; omega)) _))⟩)
  clear hW
  refine (l07Is_any s ss m HX.out.2.2.1 _ c _ _ H0.out.1 (HX.out.1.below H0.out.2.2.2) hlen).mono ?_
  rintro e w1 ⟨bf, q, rfl, hbf, rfl⟩
  have HB := Lib.hid hbf
  obtain ⟨hc2, hf2⟩ := (H0.out.2.2.1.drewN q).facts
  have HBL := Bel_drewN H0.out.2.2.2 q
  clear hbf
  cases bf with
  | false =>
    go_wp2_with (first | (go_at_call 50; fail))
    exact bodyPost_ret (v := .tuple #[.agg #[.int .i64 0, .slice none 0 0], .bool false]) (by simp [results, Try.results38, go_sem, hc2]) rfl ⟨rfl, (by repeat (first | with_reducible exact Below.refl _ _ | with_reducible exact HBL | with_reducible refine Below.drew ?_ | with_reducible refine Bel_drewN ?_ _ | with_reducible refine Below.alloc ?_ (by first | omega | (simp; done) | (simp; omega)) _ | with_reducible refine Below.setCell ?_ (by first | omega | (simp; done) | (simp; omega)) _))⟩
  | true =>
    go_wp2_with (first | (go_at_call 50; fail))
    clear hc2 hf2 HBL
    refine (l07Is_any t us k HX.out.2.2.2.1 _ d _ _ (H0.out.2.1.drewN q) (HX.out.2.1.below (Bel_drewN H0.out.2.2.2 q)) hlk).mono ?_
    rintro e w2 ⟨bf, q2, rfl, hbf, rfl⟩
    have HB2 := Lib.hid hbf
    clear hbf
    try rw [World.drewN_drewN]
    obtain ⟨hc0, hf0⟩ := (H0.out.1.drewN (q + q2)).facts
    obtain ⟨hc1, hf1⟩ := (H0.out.2.1.drewN (q + q2)).facts
    obtain ⟨hc2, hf2⟩ := (H0.out.2.2.1.drewN (q + q2)).facts
    have HBL := Bel_drewN H0.out.2.2.2 (q + q2)
    cases bf with
    | false =>
      go_wp2_with fail
      exact bodyPost_ret (v := .tuple #[.agg #[.int .i64 0, .slice none 0 0], .bool false]) (by simp [results, Try.results38, go_sem, hc2]) rfl ⟨rfl, (by repeat (first | with_reducible exact Below.refl _ _ | with_reducible exact HBL | with_reducible refine Below.drew ?_ | with_reducible refine Bel_drewN ?_ _ | with_reducible refine Below.alloc ?_ (by first | omega | (simp; done) | (simp; omega)) _ | with_reducible refine Below.setCell ?_ (by first | omega | (simp; done) | (simp; omega)) _))⟩
    | true =>
      have hne : (s != t) = true := by
        have h1 := HB.out.1 (by first | exact rfl | exact trivial)
        have h2 := HB2.out.1 (by first | exact rfl | exact trivial)
        by_cases e : s = t
        · exact absurd ⟨h1, h2, e⟩ HX.out.2.2.2.2
        · simpa using e
      go_wp2_with fail
      exact bodyPost_ret (v := .tuple #[.agg #[.int .i64 0, .slice none 0 0], .bool false]) (by simp [results, Try.results38, go_sem, hc2]) rfl ⟨rfl, (by repeat (first | with_reducible exact Below.refl _ _ | with_reducible exact HBL | with_reducible refine Below.drew ?_ | with_reducible refine Bel_drewN ?_ _ | with_reducible refine Below.alloc ?_ (by first | omega | (simp; done) | (simp; omega)) _ | with_reducible refine Below.setCell ?_ (by first | omega | (simp; done) | (simp; omega)) _))⟩
theorem specJoi_is (s t : Int) (ss us : List Nat) (m k : Nat) (hm : ss.length = m) (hk : us.length = k) (ao bo : Option Addr) (c d : Nat) (w : World) (hs : Holds w ao (fl .f32 ss)) (hu : Holds w bo (fl .f32 us)) (hlen : m ≤ 1048576) (hlk : k ≤ 1048576) (hF : joiC s t ss us ∧ isChain s (canL m (joiG s.toNat ss us))) :
    Calls Try.prog 38 #[.agg #[.int .i64 s, .slice ao m c], .agg #[.int .i64 t, .slice bo k d]] w (RetL m (fl .f32 (canL m (joiG s.toNat ss us))) (fun x => .tuple #[.agg #[.int .i64 s, x], .bool true]) w) := by
  obtain ⟨n, rfl, hmn, h⟩ := specJoi_yes s t ss us m k hm hk ao bo c d w hs hu hlen hlk hF.1
  have h2 := hF.2
  simp only [Int.toNat_natCast] at h2 ⊢
  rw [hmn] at h2 ⊢
  rw [hmn] at h
  exact h.mono fun e w1 hh => ChR.yes h2 hh
theorem specJoi_not (s t : Int) (ss us : List Nat) (m k : Nat) (hm : ss.length = m) (hk : us.length = k) (ao bo : Option Addr) (c d : Nat) (w : World) (hs : Holds w ao (fl .f32 ss)) (hu : Holds w bo (fl .f32 us)) (hlen : m ≤ 1048576) (hlk : k ≤ 1048576) (hN : ¬(joiC s t ss us ∧ isChain s (canL m (joiG s.toNat ss us)))) :
    Calls Try.prog 38 #[.agg #[.int .i64 s, .slice ao m c], .agg #[.int .i64 t, .slice bo k d]] w (RetB (.tuple #[.agg #[.int .i64 0, .slice none 0 0], .bool false]) w) := by
  by_cases hC : joiC s t ss us
  · obtain ⟨n, rfl, hmn, h⟩ := specJoi_yes s t ss us m k hm hk ao bo c d w hs hu hlen hlk hC
    have h2 : ¬ isChain n (canL (n * n) (joiG n ss us)) := fun k => hN ⟨hC, by simp only [Int.toNat_natCast]; rw [hmn]; exact k⟩
    exact h.mono fun e w1 hh => ChR.no h2 hh
  · exact specJoi_no s t ss us m k hm hk ao bo c d w hs hu hlen hlk hC
theorem implJoi_is (s t : Int) (ss us : List Nat) (m k : Nat) (hm : ss.length = m) (hk : us.length = k) (ao bo : Option Addr) (c d : Nat) (w : World) (hs : Holds w ao (fl .f32 ss)) (hu : Holds w bo (fl .f32 us)) (hlen : m ≤ 1048576) (hlk : k ≤ 1048576) (hc : m ≤ c) (hd : k ≤ d) (hF : joiC s t ss us ∧ isChain s (canL m (joiG s.toNat ss us))) :
    Calls Try.prog 39 #[.agg #[.int .i64 s, .slice ao m c], .agg #[.int .i64 t, .slice bo k d]] w (RetL m (fl .f32 (canL m (joiG s.toNat ss us))) (fun x => .tuple #[.agg #[.int .i64 s, x], .bool true]) w) := by
  obtain ⟨n, rfl, hmn, h⟩ := implJoi_yes s t ss us m k hm hk ao bo c d w hs hu hlen hlk hc hd hF.1
  have h2 := hF.2
  simp only [Int.toNat_natCast] at h2 ⊢
  rw [hmn] at h2 ⊢
  rw [hmn] at h
  exact h.mono fun e w1 hh => ChR.yes h2 hh
theorem implJoi_not (s t : Int) (ss us : List Nat) (m k : Nat) (hm : ss.length = m) (hk : us.length = k) (ao bo : Option Addr) (c d : Nat) (w : World) (hs : Holds w ao (fl .f32 ss)) (hu : Holds w bo (fl .f32 us)) (hlen : m ≤ 1048576) (hlk : k ≤ 1048576) (hc : m ≤ c) (hd : k ≤ d) (hN : ¬(joiC s t ss us ∧ isChain s (canL m (joiG s.toNat ss us)))) :
    Calls Try.prog 39 #[.agg #[.int .i64 s, .slice ao m c], .agg #[.int .i64 t, .slice bo k d]] w (RetB (.tuple #[.agg #[.int .i64 0, .slice none 0 0], .bool false]) w) := by
  by_cases hC : joiC s t ss us
  · obtain ⟨n, rfl, hmn, h⟩ := implJoi_yes s t ss us m k hm hk ao bo c d w hs hu hlen hlk hc hd hC
    have h2 : ¬ isChain n (canL (n * n) (joiG n ss us)) := fun k => hN ⟨hC, by simp only [Int.toNat_natCast]; rw [hmn]; exact k⟩
    exact h.mono fun e w1 hh => ChR.no h2 hh
  · exact implJoi_no s t ss us m k hm hk ao bo c d w hs hu hlen hlk hc hd hC
end Go.Proofs.Ytfbllggnndodoaa
