/- chainOf of the code with the closure BackChain$1 (written by chgen.py). -/
import Derived.Test.YtfbllggnndodoaaCof
namespace Go.Proofs.Ytfbllggnndodoaa
open Go Go.RowKit Fl Vag
set_option linter.unusedVariables false
set_option maxRecDepth 100000 in
set_option maxHeartbeats 4000000 in
theorem chainOf_BackChain (n : Nat) (G : Nat → Option Nat) (g0 g1 : Nat) (w : World) (hn1 : 1 ≤ n) (hn : n ≤ 12)
    (hG : ∀ i k, i < n → k < n → ∀ v, Below w.heap.size w v → Calls Try.prog 83 #[.int .i64 i, .int .i64 k, .pointer (some ⟨g0, 0, none⟩), .pointer (some ⟨g1, 0, none⟩)] v (CloR (G (i * n + k)) v)) :
    Calls Try.prog 60 #[.int .i64 n, .func (.func 83) #[] #[.pointer (some ⟨g0, 0, none⟩), .pointer (some ⟨g1, 0, none⟩)]] w (ChR n (n * n) G w) := by
  have HG := Lib.hid hG
  have hn12 : (n : Int) ≤ 12 := by omega
  obtain ⟨i8, hi8, hi1, hi2, hi3⟩ := info_parts (show (Try.prog.info? 32).map (fun i => (i.zero, i.size, i.bytes)) = some (some (.float .f32 0), 1, 4) by kernel_rfl)
  have HI := Lib.hid (And.intro hi8 (And.intro hi1 (And.intro hi2 hi3)))
  clear hi8 hi1 hi2 hi3 hG
  go_enter Try.func60, Try.ntmps60
  go_wp2_with fail
  generalize hW : World.alloc (World.alloc _ _) _ = w0
  have H0 : Hid (Whole w0 w.heap.size 27 #[.int .i64 0, .slice none 0 0] ∧ Whole w0 (w.heap.size + 1) 27 #[.int .i64 n, .slice none 0 0] ∧ Below w.heap.size w w0 ∧ w0.heap.size = w.heap.size + 2) := Lib.hid (by rw [← hW]; exact ⟨(Whole.made _ _ _).alloc _, Whole.made2 _ _ _ _, (by repeat (first | with_reducible exact Below.refl _ _ | with_reducible exact HBL | with_reducible refine Below.drew ?_ | with_reducible refine Bel_drewN ?_ _ | with_reducible refine Below.alloc ?_ (by first | omega | (simp; done) | (simp; omega)) _ | with_reducible refine Below.setCell ?_ (by first | omega | (simp; done) | (simp; omega)) _)), by simp⟩)
  clear hW
  go_loopw [12] (fun i wr => ∃ (k : Nat) (v : Value) (ds : List Nat), k ≤ n ∧ i = .int .i64 k ∧ ds.length = k * n ∧ (∀ j, j < k * n → av .f32 (ds[j]?.getD 0) = G j) ∧ wr.ownsRow (w.heap.size + 2) 32 1 v (k * n) (fl .f32 ds) ∧ Whole wr w.heap.size 27 #[.int .i64 0, .slice none 0 0] ∧ Whole wr (w.heap.size + 1) 27 #[.int .i64 n, v] ∧ Below w.heap.size w wr) (fun i _ => n - (intOf i).toNat)
  case atStart => exact ⟨0, _, [], Nat.zero_le _, rfl, by simp, fun j hj => absurd hj (by simp), by rw [Nat.zero_mul]; exact World.ownsRow_nil _ _ _ _, H0.out.1, H0.out.2.1, H0.out.2.2.1⟩
  case round =>
    obtain ⟨k, v, ds, hk, rfl, hdl, hds, hown, q0, q1, hbel⟩ := hrel
    have H := Lib.hid (And.intro hdl (And.intro hds (And.intro hown (And.intro q0 (And.intro q1 hbel)))))
    have hkn : (k : Int) ≤ n := by omega
    have hz := q1.lt
    clear hdl hds hown hbel H0
    by_cases hlt : k < n
    · have hlt' : (k : Int) < n := by omega
      clear q0 q1
      go_wp2_with fail
      rename World => wa
      go_loopw [16] (fun i wr => ∃ (j : Nat) (v : Value) (ds : List Nat), j ≤ n ∧ i = .int .i64 j ∧ ds.length = k * n + j ∧ (∀ t, t < k * n + j → av .f32 (ds[t]?.getD 0) = G t) ∧ wr.ownsRow (w.heap.size + 2) 32 1 v (k * n + j) (fl .f32 ds) ∧ Whole wr w.heap.size 27 #[.int .i64 0, .slice none 0 0] ∧ Whole wr (w.heap.size + 1) 27 #[.int .i64 n, v] ∧ Below w.heap.size w wr) (fun i _ => n - (intOf i).toNat)
      case atStart => exact ⟨0, v, ds, Nat.zero_le _, rfl, H.out⟩
      case round =>
        obtain ⟨j, v2, es, hj, rfl, hdl, hds, hown, q0, q1, hbel⟩ := hrel
        have H2 := Lib.hid (And.intro hdl (And.intro hds (And.intro hown (And.intro q0 (And.intro q1 hbel)))))
        have hjn : (j : Int) ≤ n := by omega
        have hz2 := q1.lt
        clear hz H hbel hown hdl hds
        by_cases hlt2 : j < n
        · have hlt2' : (j : Int) < n := by omega
          obtain ⟨hc1, hf1⟩ := q1.facts
          have HC : Hid (∀ v, Below wr.heap.size wr v → Calls Try.prog 83 #[.int .i64 k, .int .i64 j, .pointer (some ⟨g0, 0, none⟩), .pointer (some ⟨g1, 0, none⟩)] v (fun e w' => ∃ u, e = .returned u ∧ ∃ r, u = .float .f32 r ∧ av .f32 r = G (k * n + j) ∧ Below wr.heap.size wr w')) := Lib.hid (fun v hv => (HG.out k j hlt hlt2 v (Bel_next H2.out.2.2.2.2.2 hv)).mono fun e w' ⟨r, he, hr, hb⟩ => ⟨_, he, r, rfl, hr, Bel_next hv hb⟩)
          have hkj : k * n + j < 144 := by have h1 := sq_pos hlt hlt2; have h2 := sq_le hn; omega
          have HA : Hid (∀ (v : World) (r : Nat), Below wr.heap.size wr v → (v.alloc (.cells #[.float .f32 r] 32)).ownsRow (w.heap.size + 2) 32 1 v2 (k * n + j) (fl .f32 es) ∧ (∀ (j : Nat) (u : Value), [Value.float .f32 r][j]? = some u → (v.alloc (.cells #[.float .f32 r] 32)).cell? ((⟨v.heap.size, 0, none⟩ : Addr).add j) = some u) ∧ (∀ u ∈ [Value.float .f32 r], u.oneCell' = true) ∧ w.heap.size + 2 ≤ (v.alloc (.cells #[.float .f32 r] 32)).heap.size ∧ (v.alloc (.cells #[.float .f32 r] 32)).heap.size = v.heap.size + 1) := Lib.hid (fun v r hv => ⟨(H2.out.2.2.1.kept (grown_below (row := none) hv) (by cases v2.ownBlock <;> simp)).alloc _, World.news_of_block (Whole.made v 32 #[.float .f32 r]), (by intro u hu; rw [List.mem_singleton] at hu; subst hu; rfl), (by have := hv.size; simp; omega), (by simp)⟩)
          obtain ⟨q, hq⟩ : ∃ q, q = k * n + j := ⟨_, rfl⟩
          rw [← hq] at HA HC hkj
          have HQ := Lib.hid hq
          have hq1 : q + 1 ≤ maxLen := by unfold maxLen; omega
          have hq2 : (q + 1) * 4 ≤ 140737488355328 := by omega
          clear hq
          go_wp2_with fail
          go_region_law (first
            | (refine step_calls rfl 83 #[.int .i64 k, .int .i64 j, .pointer (some ⟨g0, 0, none⟩), .pointer (some ⟨g1, 0, none⟩)] (by first | (go_simp; done) | (go_simp; rfl)) (HC.out _ ((Below.refl _ _).drew)) ?_; rintro u5 w5 ⟨r, rfl, hr5, hb5⟩; have hA5 := HA.out w5 r hb5; obtain ⟨hc5, hf5⟩ := (q1.below hb5).facts; have hz5 := hb5.size; obtain ⟨hc6, hf6⟩ := ((q1.below hb5).alloc (.cells #[.float .f32 r] 32)).facts)
            | (refine step_append_lies (w5.alloc (.cells #[.float .f32 r] 32)) rfl (.tmp 20) (.tmp 25) 22 rfl (w.heap.size + 2) 32 i8 (.float .f32 0) 1 4 Try.underlying22 HI.out.1 HI.out.2.1 HI.out.2.2.1 HI.out.2.2.2 rfl (by decide) v2 q (fl .f32 es) (by simp [Act.eval]) hA5.1 ⟨w5.heap.size, 0, none⟩ 1 1 [.float .f32 r] (by simp [Act.eval]) rfl hA5.2.1 hA5.2.2.1 (by decide) hq1 hq2 hA5.2.2.2.1 (w5.heap.size + 1) hA5.2.2.2.2 ?_; intro g cap w' hown' hgr' hv' hlt'; obtain ⟨hc7, hf7⟩ := (((q1.below hb5).alloc (.cells #[.float .f32 r] 32)).grown hgr' (own_ne' (H2.out.2.2.1) (by omega))).facts))
          all_goals
            have q7 := ((q1.below hb5).alloc (.cells #[.float .f32 r] 32)).grown hgr' (own_ne' (H2.out.2.2.1) (by omega))
            have q6 := ((q0.below hb5).alloc (.cells #[.float .f32 r] 32)).grown hgr' (own_ne' (H2.out.2.2.1) (by omega))
            have b7 : Below w.heap.size w w' := by
              have h0 := H2.out.2.2.2.2.2.size
              have h1 : Below w.heap.size w (w5.alloc (.cells #[.float .f32 r] 32)) := (Bel_next H2.out.2.2.2.2.2 hb5).alloc (by omega) _
              exact h1.grown hgr' (by simp; omega) (fun i hi => by have := own_ge H2.out.2.2.1 i hi; omega)
            have o7 : w'.ownsRow (w.heap.size + 2) 32 1 (.slice (some ⟨g, 0, none⟩) (q + 1) cap) (q + 1) (fl .f32 (es ++ [r])) := by rw [fl, List.map_append]; exact hown'
            have o8 := o7.kept (grown_set w' (w.heap.size + 1) 1 (.slice (some ⟨g, 0, none⟩) (q + 1) cap)) (own_ne o7 (by omega))
            have h7 : w.heap.size + 1 < w'.heap.size := q7.lt
            have H8 := Lib.hid (And.intro o8 (And.intro (q6.far (p := ⟨w.heap.size + 1, 1, none⟩) (by simp) (.slice (some ⟨g, 0, none⟩) (q + 1) cap)) (And.intro (q7.put 1 (.slice (some ⟨g, 0, none⟩) (q + 1) cap)) (b7.setCell (p := ⟨w.heap.size + 1, 1, none⟩) (by simp) (.slice (some ⟨g, 0, none⟩) (q + 1) cap)))))
            have HR := Lib.hid hr5
            clear q7 q6 b7 o7 o8 hc7 hf7 hv' hlt' hgr' hown' hc6 hf6 hc5 hf5 hA5 hb5 hr5 hz5 h7
            go_wp2_with fail
            go_roundw
            case rel =>
              refine ⟨j + 1, .slice (some ⟨g, 0, none⟩) (q + 1) cap, es ++ [r], by omega, by go_num, by rw [List.length_append, H2.out.1]; rfl, fun t ht => ?_, by rw [← Nat.add_assoc, ← HQ.out]; exact H8.out.1, H8.out.2.1, H8.out.2.2.1, H8.out.2.2.2⟩
              by_cases e : t = k * n + j
              · subst e
                rw [List.getElem?_append_right (by rw [H2.out.1]; exact Nat.le_refl _), H2.out.1, Nat.sub_self, ← HQ.out]
                exact HR.out
              · rw [List.getElem?_append_left (by rw [H2.out.1]; omega)]
                exact H2.out.2.1 t (by omega)
            case measure => simp [intOf]; omega
        · obtain rfl : j = n := by omega
          clear q0 q1
          go_wp2_with fail
          go_roundw
          case rel => exact ⟨k + 1, v2, es, by omega, by go_num, by rw [Nat.succ_mul]; exact H2.out.1, by rw [Nat.succ_mul]; exact H2.out.2.1, by rw [Nat.succ_mul]; exact H2.out.2.2.1, H2.out.2.2.2⟩
          case measure => simp [intOf]; omega
    · obtain rfl : k = n := by omega
      obtain ⟨m, hm⟩ : ∃ m, m = k * k := ⟨_, rfl⟩
      obtain ⟨hdl, hds, hown, _, _, hbel⟩ := H.out
      rw [← hm] at hdl hds hown
      have hml : m ≤ 1048576 := by have := sq_le hn; omega
      obtain ⟨ao', cc', rfl⟩ := own_form hown
      have hcap := own_cap hown
      have HD := Lib.hid (And.intro hdl (And.intro hds (And.intro (Row.of_own hown) hbel)))
      have HAL := Lib.hid (canL_of hdl hds)
      obtain ⟨hc1, hf1⟩ := q1.facts
      rw [← hm]
      have HM := Lib.hid hm
      have Q0 := Lib.hid (And.intro q0 q1)
      clear hdl hds hown hbel H hm q0 q1
      go_wp2_with (first | (go_at_call 18; fail))
      refine (implValidChain_any k ds m HD.out.1 ao' cc' _ HD.out.2.2.1.holds hml hcap).mono ?_
      rintro e w5 ⟨bf, rfl, hbf, hb5⟩
      have HB := Lib.hid hbf
      have r0 := Q0.out.1.below hb5
      have r1 := Q0.out.2.below hb5
      obtain ⟨hc5, hf5⟩ := r0.facts
      obtain ⟨hc6, hf6⟩ := r1.facts
      have HBL := Bel_next HD.out.2.2.2 hb5
      have HRW := Lib.hid (HD.out.2.2.1.below hb5)
      have hz5 := hb5.size
      have hz6 := r0.lt
      clear hbf hc1 hf1 hb5
      cases bf with
      | true =>
        have hk := HB.out.1 rfl
        have HE := Lib.hid (And.intro (HAL.out.chain hk) (HAL.out.eq hk))
        clear hk
        go_wp2_with fail
        obtain rfl := HM.out
        refine bodyPost_ret (v := .tuple #[.agg #[.int .i64 k, .slice ao' (k * k) cc'], .bool true]) (by simp [results, Try.results60, go_sem, hc5]) rfl (.inl ⟨HE.out.1, ao', cc', rfl, ?_, (by repeat (first | with_reducible exact Below.refl _ _ | with_reducible exact HBL | with_reducible refine Below.drew ?_ | with_reducible refine Bel_drewN ?_ _ | with_reducible refine Below.alloc ?_ (by first | omega | (simp; done) | (simp; omega)) _ | with_reducible refine Below.setCell ?_ (by first | omega | (simp; done) | (simp; omega)) _))⟩)
        rw [← HE.out.2]
        exact ((((HRW.out.far (.inl (by simp)) _).far (.inl (by simp)) _)).wide (by omega) (by simp; omega))
      | false =>
        have HE := Lib.hid (show ¬ isChain k (canL m G) from fun h => by have := HB.out.2 (HAL.out.symm.chain h); cases this)
        go_wp2_with fail
        obtain rfl := HM.out
        exact bodyPost_ret (v := .tuple #[.agg #[.int .i64 0, .slice none 0 0], .bool false]) (by simp [results, Try.results60, go_sem, hc5]) rfl (.inr ⟨HE.out, rfl, (by repeat (first | with_reducible exact Below.refl _ _ | with_reducible exact HBL | with_reducible refine Below.drew ?_ | with_reducible refine Bel_drewN ?_ _ | with_reducible refine Below.alloc ?_ (by first | omega | (simp; done) | (simp; omega)) _ | with_reducible refine Below.setCell ?_ (by first | omega | (simp; done) | (simp; omega)) _))⟩)
end Go.Proofs.Ytfbllggnndodoaa
