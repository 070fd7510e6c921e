/- LazyChain of the model. -/
import Derived.Test.YtfbllggnndodoaaLaz
import Derived.Test.YtfbllggnndodoaaSry
import Derived.Deep.Cut
namespace Go.Proofs.Ytfbllggnndodoaa
open Go Go.RowKit Fl Vag
set_option linter.unusedVariables false
set_option maxRecDepth 100000 in
set_option maxHeartbeats 4000000 in
theorem specLazy_yes (s : Int) (ss : List Nat) (st m : Nat) (hm : ss.length = m) (ao : Option Addr) (c : Nat) (w : World) (hs : Holds w ao (fl .f32 ss)) (hlen : m ≤ 1048576) (hC : lazC s ss st) :
    ∃ n : Nat, s = n ∧ m = n * n ∧ Calls Try.prog 40 #[.agg #[.int .i64 s, .slice ao m c], .float .f32 st] w (ChR n (n * n) (lazG n ss st) w) := by
  obtain ⟨n, rfl, n1, n2, n3, n4⟩ := hC.1.nat
  obtain ⟨b, o, rfl⟩ := hs.at (by rw [fl_len32, n3]; exact Nat.mul_pos n1 n1)
  refine ⟨n, rfl, by rw [← hm]; exact n3, ?_⟩
  have HX := Lib.hid (And.intro hs (And.intro hm (And.intro n3 hC)))
  have HP := Lib.hid (show partB st = true from hC.2)
  have hn12 : (n : Int) ≤ 12 := by omega
  have hm144 : m ≤ 144 := by have := sq_le n2; omega
  clear hs hm n3 n4 hC
  go_enter Try.func40, Try.ntmps40
  go_wp2_with (first | (go_at_call 50; fail))
  generalize hW : World.alloc (World.alloc _ _) _ = w0
  have H0 : Hid (Whole w0 w.heap.size 27 #[.int .i64 n, .slice (some ⟨b, o, none⟩) m c] ∧ Whole w0 (w.heap.size + 1) 27 #[.int .i64 0, .slice none 0 0] ∧ Below w.heap.size w w0 ∧ w0.heap.size = w.heap.size + 2) := Lib.hid (by rw [← hW]; exact ⟨(Whole.made _ _ _).alloc _, Whole.made2 _ _ _ _, (by repeat (first | with_reducible exact Below.refl _ _ | with_reducible exact HBL | with_reducible refine Below.drew ?_ | with_reducible refine Bel_drewN ?_ _ | with_reducible refine Below.alloc ?_ (by first | omega | (simp; done) | (simp; omega)) _ | with_reducible refine Below.setCell ?_ (by first | omega | (simp; done) | (simp; omega)) _)), by simp⟩)
  clear hW
  refine ((l07Is_any n ss m HX.out.2.1 _ c _ _ H0.out.1 (HX.out.1.below H0.out.2.2.1) hlen).mono fun e w1 h => BoD.yes HX.out.2.2.2.1 h).mono ?_
  rintro e w1 ⟨q, rfl, rfl⟩
  obtain ⟨wq, hwq⟩ : ∃ wq, wq = w0.drewN q := ⟨_, rfl⟩
  have H1 := Lib.hid (show Whole wq w.heap.size 27 #[.int .i64 n, .slice (some ⟨b, o, none⟩) m c] ∧ Whole wq (w.heap.size + 1) 27 #[.int .i64 0, .slice none 0 0] ∧ Below w.heap.size w wq ∧ wq.heap.size = w.heap.size + 2 from by rw [hwq]; exact ⟨H0.out.1.drewN q, H0.out.2.1.drewN q, Bel_drewN H0.out.2.2.1 q, H0.out.2.2.2⟩)
  rw [← hwq]
  obtain ⟨hc0, hf0⟩ := H1.out.1.facts
  clear hwq H0
  go_wp2_with (first | (go_at_call 58; fail))
  refine (l02Part_v _ _ HP.out _).mono ?_
  rintro e w' ⟨rfl, rfl⟩
  have hz1 := H1.out.1.lt
  go_wp2_with fail
  clear hc0 hf0 hz1
  have hsz := H1.out.2.2.2
  rw [hsz]
  clear hsz
  generalize hW : World.alloc _ _ = w5
  have H5 : Hid (Whole w5 w.heap.size 27 #[.int .i64 n, .slice (some ⟨b, o, none⟩) m c] ∧ Whole w5 (w.heap.size + 1) 27 #[.int .i64 0, .slice none 0 0] ∧ Whole w5 (w.heap.size + 2) 27 #[.int .i64 n, .slice none 0 0] ∧ Below w.heap.size w w5) := Lib.hid (by
    rw [← hW]
    have h := Whole.made wq 27 #[.int .i64 n, .slice none 0 0]
    rw [H1.out.2.2.2] at h
    exact ⟨H1.out.1.alloc _, H1.out.2.1.alloc _, h, H1.out.2.2.1.alloc (by have := H1.out.2.2.2; omega) _⟩)
  clear hW H1
  go_loopw [23] (fun i wr => ∃ (j : Nat) (v : Value) (ds : List Nat), j ≤ m ∧ i = .int .i64 j ∧ ds.length = j ∧ (∀ t, t < j → av .f32 (ds[t]?.getD 0) = lazG n ss st t) ∧ wr.ownsRow (w.heap.size + 3) 32 1 v j (fl .f32 ds) ∧ Whole wr w.heap.size 27 #[.int .i64 n, .slice (some ⟨b, o, none⟩) m c] ∧ Whole wr (w.heap.size + 1) 27 #[.int .i64 0, .slice none 0 0] ∧ Whole wr (w.heap.size + 2) 27 #[.int .i64 n, v] ∧ Below w.heap.size w wr) (fun i _ => m - (intOf i).toNat)
  case atStart => exact ⟨0, _, [], Nat.zero_le _, rfl, rfl, fun j hj => absurd hj (Nat.not_lt_zero _), World.ownsRow_nil _ _ _ _, H5.out.1, H5.out.2.1, H5.out.2.2.1, H5.out.2.2.2⟩
  case round =>
    obtain ⟨j, v, ds, hj, rfl, hdl, hds, hown, q0, q1, q2, hbel⟩ := hrel
    have H := Lib.hid (And.intro hdl (And.intro hds (And.intro hown (And.intro q0 (And.intro q1 (And.intro q2 hbel))))))
    have hz2 := q2.lt
    have hjm : (j : Int) ≤ m := by omega
    obtain ⟨hc0, hf0⟩ := q0.facts
    obtain ⟨hc2, hf2⟩ := q2.facts
    clear hdl hds hown q0 q1 q2 H5
    by_cases hlt : j < m
    · have hlt' : (j : Int) < m := by omega
      obtain ⟨b', o', e', hcx⟩ := (HX.out.1.below hbel) j (by rw [fl_len32, HX.out.2.1]; exact hlt)
      cases e'
      rw [fl_get _ _ _ (by rw [HX.out.2.1]; exact hlt)] at hcx
      obtain ⟨i, k, hi, hk, hik⟩ := at_div (n := n) (j := j) (by omega) (by rw [← HX.out.2.2.1, HX.out.2.1]; exact hlt)
      obtain ⟨d1, d2⟩ := div_at (i := i) hk
      have HG : Hid (lazG n ss st j = if i = k then aop .add .f32 (lazP st (ss[j]?.getD 0)) (av .f32 st) else lazP st (ss[j]?.getD 0)) := Lib.hid (by unfold lazG; rw [hik, d1, d2])
      obtain ⟨z, hz⟩ : ∃ z, j % (n + 1) = z := ⟨_, rfl⟩
      have hmod : (j : Int) % ((n : Int) + 1) = (z : Int) := by rw [← hz]; simp
      have hmz : ((z : Int) == 0) = decide (i = k) := by
        have h := diag_at hi hk
        rw [← hik, hz] at h
        by_cases e : i = k
        · rw [decide_eq_true e, h.2 e]; rfl
        · rw [decide_eq_false e]
          have h2 : ¬ z = 0 := fun h' => e (h.1 h')
          simp; omega
      clear hz
      generalize ss[j]?.getD 0 = x at hcx HG
      clear hbel d1 d2 hik hi hk
      have hnz : (n : Int) + 1 ≠ 0 := by omega
      have hbn : ((n : Int) + 1 == 0) = false := by simp; omega
      by_cases he : i = k
      · have HE := Lib.hid he
        rw [decide_eq_true he] at hmz
        clear he
        go_upto_region 10 with (first | (refine wpList_farith (dst := some 27) _ _ _ _ _ .f32 _ _ rfl rfl rfl ?_; intro r1 n1 hr1) | (refine wpList_farith (dst := some 33) _ _ _ _ _ .f32 _ _ rfl rfl rfl ?_; intro r2 n2 hr2) | (refine wpList_farith (dst := some 42) _ _ _ _ _ .f32 _ _ rfl rfl rfl ?_; intro r3 n3 hr3))
        have HV : Hid (av .f32 r3 = lazG n ss st j) := Lib.hid (by rw [HG.out, if_pos HE.out]; unfold lazP; rw [← av_one32, ← hr1.2, ← hr2.2]; exact hr3.2)
        clear hr1 hr2 hr3 hcx
        obtain ⟨wq, hwq⟩ : ∃ wq, wq = wr.drewN (n1 + n2 + n3) := ⟨_, rfl⟩
        have H2 := Lib.hid (show Whole wq w.heap.size 27 #[.int .i64 n, .slice (some ⟨b, o, none⟩) m c] ∧ Whole wq (w.heap.size + 1) 27 #[.int .i64 0, .slice none 0 0] ∧ Whole wq (w.heap.size + 2) 27 #[.int .i64 n, v] ∧ Below w.heap.size w wq ∧ wq.ownsRow (w.heap.size + 3) 32 1 v j (fl .f32 ds) from by rw [hwq]; exact ⟨H.out.2.2.2.1.drewN _, H.out.2.2.2.2.1.drewN _, H.out.2.2.2.2.2.1.drewN _, Bel_drewN H.out.2.2.2.2.2.2 _, own_heap7 H.out.2.2.1 rfl⟩)
        have hzq := H2.out.2.2.1.lt
        obtain ⟨hc5, hf5⟩ := H2.out.2.2.1.facts
        rw [← hwq]
        clear hwq hc0 hf0 hc2 hf2 hz2
        go_wp2_with (at_builtin; refine wpList_app1 rfl _ _ 22 rfl (w.heap.size + 3) 32 (.float .f32 0) 4 Try.underlying22 (by kernel_rfl) rfl _ j _ rfl (H2.out.2.2.2.2.alloc _) _ _ (.float .f32 r3) rfl ?_ rfl ⟨by omega, by omega⟩ ?_ ?_)
        · exact (Whole.made wq 32 #[.float .f32 r3]).cell 0
        · simp; omega
        · intro v' w' hown' hgr'
          obtain ⟨aoV, cV, rfl⟩ := own_form hown'
          have hne : ∀ g, g < w.heap.size + 3 → some g ≠ v.ownBlock := fun g hg => own_ne' H2.out.2.2.2.2 hg
          have p0 := (H2.out.1.alloc (.cells #[.float .f32 r3] 32)).grown hgr' (hne _ (by omega))
          have p1 := (H2.out.2.1.alloc (.cells #[.float .f32 r3] 32)).grown hgr' (hne _ (by omega))
          have p2 := (H2.out.2.2.1.alloc (.cells #[.float .f32 r3] 32)).grown hgr' (hne _ (by omega))
          have pb : Below w.heap.size w w' := by
            have h1 : Below w.heap.size w (wq.alloc (.cells #[.float .f32 r3] 32)) := H2.out.2.2.2.1.alloc (by omega) _
            exact h1.grown hgr' (by simp; omega) (fun i hi => by have := own_ge H2.out.2.2.2.2 i hi; omega)
          have ho3 : w'.ownsRow (w.heap.size + 3) 32 1 (.slice aoV (j + 1) cV) (j + 1) (fl .f32 (ds ++ [r3])) := by rw [fl, List.map_append]; exact hown'
          have ho4 := ho3.kept (grown_set w' (w.heap.size + 2) 1 (.slice aoV (j + 1) cV)) (own_ne ho3 (by omega))
          have H3 := Lib.hid (And.intro ho4 (And.intro (p0.far (p := ⟨w.heap.size + 2, 1, none⟩) (by simp) (.slice aoV (j + 1) cV)) (And.intro (p1.far (p := ⟨w.heap.size + 2, 1, none⟩) (by simp) (.slice aoV (j + 1) cV)) (And.intro (p2.put 1 (.slice aoV (j + 1) cV)) (pb.setCell (p := ⟨w.heap.size + 2, 1, none⟩) (by simp) (.slice aoV (j + 1) cV))))))
          obtain ⟨hc7, hf7⟩ := p2.facts
          have hz7 := p2.lt
          clear hown' hgr' p0 p1 p2 pb ho3 ho4 hc5 hf5 hne
          go_wp2_with fail
          go_roundw
          case rel =>
            refine ⟨j + 1, (.slice aoV (j + 1) cV), ds ++ [r3], by omega, by go_num, by rw [List.length_append, H.out.1]; rfl, fun t ht => ?_, H3.out⟩
            by_cases e : t = j
            · subst e
              rw [List.getElem?_append_right (by rw [H.out.1]; exact Nat.le_refl _), H.out.1, Nat.sub_self]
              exact HV.out
            · rw [List.getElem?_append_left (by rw [H.out.1]; omega)]
              exact H.out.2.1 t (by omega)
          case measure => simp [intOf]; omega
      · have HE := Lib.hid he
        rw [decide_eq_false he] at hmz
        clear he
        go_upto_region 10 with (first | (refine wpList_farith (dst := some 27) _ _ _ _ _ .f32 _ _ rfl rfl rfl ?_; intro r1 n1 hr1) | (refine wpList_farith (dst := some 33) _ _ _ _ _ .f32 _ _ rfl rfl rfl ?_; intro r2 n2 hr2))
        have HV : Hid (av .f32 r2 = lazG n ss st j) := Lib.hid (by rw [HG.out, if_neg HE.out]; unfold lazP; rw [← av_one32, ← hr1.2]; exact hr2.2)
        clear hr1 hr2 hcx
        obtain ⟨wq, hwq⟩ : ∃ wq, wq = wr.drewN (n1 + n2) := ⟨_, rfl⟩
        have H2 := Lib.hid (show Whole wq w.heap.size 27 #[.int .i64 n, .slice (some ⟨b, o, none⟩) m c] ∧ Whole wq (w.heap.size + 1) 27 #[.int .i64 0, .slice none 0 0] ∧ Whole wq (w.heap.size + 2) 27 #[.int .i64 n, v] ∧ Below w.heap.size w wq ∧ wq.ownsRow (w.heap.size + 3) 32 1 v j (fl .f32 ds) from by rw [hwq]; exact ⟨H.out.2.2.2.1.drewN _, H.out.2.2.2.2.1.drewN _, H.out.2.2.2.2.2.1.drewN _, Bel_drewN H.out.2.2.2.2.2.2 _, own_heap7 H.out.2.2.1 rfl⟩)
        have hzq := H2.out.2.2.1.lt
        obtain ⟨hc5, hf5⟩ := H2.out.2.2.1.facts
        rw [← hwq]
        clear hwq hc0 hf0 hc2 hf2 hz2
        go_wp2_with (at_builtin; refine wpList_app1 rfl _ _ 22 rfl (w.heap.size + 3) 32 (.float .f32 0) 4 Try.underlying22 (by kernel_rfl) rfl _ j _ rfl (H2.out.2.2.2.2.alloc _) _ _ (.float .f32 r2) rfl ?_ rfl ⟨by omega, by omega⟩ ?_ ?_)
        · exact (Whole.made wq 32 #[.float .f32 r2]).cell 0
        · simp; omega
        · intro v' w' hown' hgr'
          obtain ⟨aoV, cV, rfl⟩ := own_form hown'
          have hne : ∀ g, g < w.heap.size + 3 → some g ≠ v.ownBlock := fun g hg => own_ne' H2.out.2.2.2.2 hg
          have p0 := (H2.out.1.alloc (.cells #[.float .f32 r2] 32)).grown hgr' (hne _ (by omega))
          have p1 := (H2.out.2.1.alloc (.cells #[.float .f32 r2] 32)).grown hgr' (hne _ (by omega))
          have p2 := (H2.out.2.2.1.alloc (.cells #[.float .f32 r2] 32)).grown hgr' (hne _ (by omega))
          have pb : Below w.heap.size w w' := by
            have h1 : Below w.heap.size w (wq.alloc (.cells #[.float .f32 r2] 32)) := H2.out.2.2.2.1.alloc (by omega) _
            exact h1.grown hgr' (by simp; omega) (fun i hi => by have := own_ge H2.out.2.2.2.2 i hi; omega)
          have ho3 : w'.ownsRow (w.heap.size + 3) 32 1 (.slice aoV (j + 1) cV) (j + 1) (fl .f32 (ds ++ [r2])) := by rw [fl, List.map_append]; exact hown'
          have ho4 := ho3.kept (grown_set w' (w.heap.size + 2) 1 (.slice aoV (j + 1) cV)) (own_ne ho3 (by omega))
          have H3 := Lib.hid (And.intro ho4 (And.intro (p0.far (p := ⟨w.heap.size + 2, 1, none⟩) (by simp) (.slice aoV (j + 1) cV)) (And.intro (p1.far (p := ⟨w.heap.size + 2, 1, none⟩) (by simp) (.slice aoV (j + 1) cV)) (And.intro (p2.put 1 (.slice aoV (j + 1) cV)) (pb.setCell (p := ⟨w.heap.size + 2, 1, none⟩) (by simp) (.slice aoV (j + 1) cV))))))
          obtain ⟨hc7, hf7⟩ := p2.facts
          have hz7 := p2.lt
          clear hown' hgr' p0 p1 p2 pb ho3 ho4 hc5 hf5 hne
          go_wp2_with fail
          go_roundw
          case rel =>
            refine ⟨j + 1, (.slice aoV (j + 1) cV), ds ++ [r2], by omega, by go_num, by rw [List.length_append, H.out.1]; rfl, fun t ht => ?_, H3.out⟩
            by_cases e : t = j
            · subst e
              rw [List.getElem?_append_right (by rw [H.out.1]; exact Nat.le_refl _), H.out.1, Nat.sub_self]
              exact HV.out
            · rw [List.getElem?_append_left (by rw [H.out.1]; omega)]
              exact H.out.2.1 t (by omega)
          case measure => simp [intOf]; omega
    · obtain rfl : j = m := by omega
      obtain ⟨ao', cc', rfl⟩ := own_form H.out.2.2.1
      have HR := Lib.hid (And.intro (canL_of H.out.1 H.out.2.1) (Row.of_own H.out.2.2.1))
      go_wp2_with (first | (go_at_call 59; fail))
      refine (l07Give_any n ds j (w.heap.size + 3) H.out.1 ao' cc' _ HR.out.2 (by omega)).mono ?_
      rintro e w6 ⟨hw6, hd⟩
      have r1 := H.out.2.2.2.2.1.below hw6
      obtain ⟨hc6, hf6⟩ := r1.facts
      have HBL := Bel_next H.out.2.2.2.2.2.2 hw6
      have HRW := Lib.hid (HR.out.2.below hw6)
      have hz6 := r1.lt
      have hz5 := hw6.size
      have HJ : Hid (j = n * n) := Lib.hid (by rw [← HX.out.2.1]; exact HX.out.2.2.1)
      clear hc0 hf0 hc2 hf2 r1 hw6
      rcases hd with ⟨hk, rfl⟩ | ⟨hk, rfl⟩
      · have HE := Lib.hid (And.intro (HR.out.1.chain hk) (HR.out.1.eq hk))
        clear hk
        go_wp2_with fail
        obtain rfl := HJ.out
        refine bodyPost_ret (v := .tuple #[.agg #[.int .i64 n, .slice ao' (n * n) cc'], .bool true]) (by simp [results, Try.results40, go_sem, hc6]) rfl (.inl ⟨HE.out.1, ao', cc', rfl, ?_, (by repeat (first | with_reducible exact Below.refl _ _ | with_reducible exact HBL | with_reducible refine Below.drew ?_ | with_reducible refine Bel_drewN ?_ _ | with_reducible refine Below.alloc ?_ (by first | omega | (simp; done) | (simp; omega)) _ | with_reducible refine Below.setCell ?_ (by first | omega | (simp; done) | (simp; omega)) _))⟩)
        rw [← HE.out.2]
        exact ((((HRW.out.far (.inl (by simp)) _).far (.inl (by simp)) _)).wide (by omega) (by simp; omega))
      · have HE := Lib.hid (show ¬ isChain n (canL j (lazG n ss st)) from fun h => hk (HR.out.1.symm.chain h))
        clear hk
        go_wp2_with fail
        obtain rfl := HJ.out
        exact bodyPost_ret (v := .tuple #[.agg #[.int .i64 0, .slice none 0 0], .bool false]) (by simp [results, Try.results40, go_sem, hc6]) rfl (.inr ⟨HE.out, rfl, (by repeat (first | with_reducible exact Below.refl _ _ | with_reducible exact HBL | with_reducible refine Below.drew ?_ | with_reducible refine Bel_drewN ?_ _ | with_reducible refine Below.alloc ?_ (by first | omega | (simp; done) | (simp; omega)) _ | with_reducible refine Below.setCell ?_ (by first | omega | (simp; done) | (simp; omega)) _))⟩)
set_option maxRecDepth 100000 in
set_option maxHeartbeats 1000000 in
theorem specLazy_no (s : Int) (ss : List Nat) (st m : Nat) (hm : ss.length = m) (ao : Option Addr) (c : Nat) (w : World) (hs : Holds w ao (fl .f32 ss)) (hlen : m ≤ 1048576) (hC : ¬ lazC s ss st) :
    Calls Try.prog 40 #[.agg #[.int .i64 s, .slice ao m c], .float .f32 st] w (RetB (.tuple #[.agg #[.int .i64 0, .slice none 0 0], .bool false]) w) := by
  have HX := Lib.hid (And.intro hs (And.intro hm hC))
  clear hs hm hC
  go_enter Try.func40, Try.ntmps40
  go_wp2_with (first | (go_at_call 50; fail))
  generalize hW : World.alloc (World.alloc _ _) _ = w0
  have H0 : Hid (Whole w0 w.heap.size 27 #[.int .i64 s, .slice ao m c] ∧ Whole w0 (w.heap.size + 1) 27 #[.int .i64 0, .slice none 0 0] ∧ Below w.heap.size w w0) := Lib.hid (by rw [← hW]; exact ⟨(Whole.made _ _ _).alloc _, Whole.made2 _ _ _ _, (by repeat (first | with_reducible exact Below.refl _ _ | with_reducible exact HBL | with_reducible refine Below.drew ?_ | with_reducible refine Bel_drewN ?_ _ | with_reducible refine Below.alloc ?_ (by first | omega | (simp; done) | (simp; omega)) _ | with_reducible refine Below.setCell ?_ (by first | omega | (simp; done) | (simp; omega)) _))⟩)
  clear hW
  refine (l07Is_any s ss m HX.out.2.1 _ c _ _ H0.out.1 (HX.out.1.below H0.out.2.2) hlen).mono ?_
  rintro e w1 ⟨bf, q, rfl, hbf, rfl⟩
  have HB := Lib.hid hbf
  have r1 := H0.out.2.1.drewN q
  obtain ⟨hc2, hf2⟩ := r1.facts
  have HBL := Bel_drewN H0.out.2.2 q
  clear hbf r1
  cases bf with
  | false =>
    go_wp2_with (first | (go_at_call 58; fail))
    exact bodyPost_ret (v := .tuple #[.agg #[.int .i64 0, .slice none 0 0], .bool false]) (by simp [results, Try.results40, go_sem, hc2]) rfl ⟨rfl, (by repeat (first | with_reducible exact Below.refl _ _ | with_reducible exact HBL | with_reducible refine Below.drew ?_ | with_reducible refine Bel_drewN ?_ _ | with_reducible refine Below.alloc ?_ (by first | omega | (simp; done) | (simp; omega)) _ | with_reducible refine Below.setCell ?_ (by first | omega | (simp; done) | (simp; omega)) _))⟩
  | true =>
    have HP : Hid (partB st = false) := Lib.hid (by
      have h1 := HB.out.1 rfl
      cases hp : partB st with
      | false => rfl
      | true => exact absurd ⟨h1, hp⟩ HX.out.2.2)
    go_wp2_with (first | (go_at_call 58; fail))
    refine (l02Part_v _ _ HP.out _).mono ?_
    rintro e w' ⟨rfl, rfl⟩
    go_wp2_with fail
    exact bodyPost_ret (v := .tuple #[.agg #[.int .i64 0, .slice none 0 0], .bool false]) (by simp [results, Try.results40, go_sem, hc2]) rfl ⟨rfl, (by repeat (first | with_reducible exact Below.refl _ _ | with_reducible exact HBL | with_reducible refine Below.drew ?_ | with_reducible refine Bel_drewN ?_ _ | with_reducible refine Below.alloc ?_ (by first | omega | (simp; done) | (simp; omega)) _ | with_reducible refine Below.setCell ?_ (by first | omega | (simp; done) | (simp; omega)) _))⟩
theorem specLazy_is (s : Int) (ss : List Nat) (st m : Nat) (hm : ss.length = m) (ao : Option Addr) (c : Nat) (w : World) (hs : Holds w ao (fl .f32 ss)) (hlen : m ≤ 1048576) (hF : lazC s ss st ∧ isChain s (canL m (lazG s.toNat ss st))) :
    Calls Try.prog 40 #[.agg #[.int .i64 s, .slice ao m c], .float .f32 st] w (RetL m (fl .f32 (canL m (lazG s.toNat ss st))) (fun x => .tuple #[.agg #[.int .i64 s, x], .bool true]) w) := by
  obtain ⟨n, rfl, hmn, h⟩ := specLazy_yes s ss st m hm ao c w hs hlen hF.1
  have h2 := hF.2
  simp only [Int.toNat_natCast] at h2 ⊢
  rw [hmn] at h2 ⊢
  rw [hmn] at h
  exact h.mono fun e w1 hh => ChR.yes h2 hh
theorem specLazy_not (s : Int) (ss : List Nat) (st m : Nat) (hm : ss.length = m) (ao : Option Addr) (c : Nat) (w : World) (hs : Holds w ao (fl .f32 ss)) (hlen : m ≤ 1048576) (hN : ¬(lazC s ss st ∧ isChain s (canL m (lazG s.toNat ss st)))) :
    Calls Try.prog 40 #[.agg #[.int .i64 s, .slice ao m c], .float .f32 st] w (RetB (.tuple #[.agg #[.int .i64 0, .slice none 0 0], .bool false]) w) := by
  by_cases hC : lazC s ss st
  · obtain ⟨n, rfl, hmn, h⟩ := specLazy_yes s ss st m hm ao c w hs hlen hC
    have h2 : ¬ isChain n (canL (n * n) (lazG n ss st)) := fun k => hN ⟨hC, by simp only [Int.toNat_natCast]; rw [hmn]; exact k⟩
    exact h.mono fun e w1 hh => ChR.no h2 hh
  · exact specLazy_no s ss st m hm ao c w hs hlen hC
theorem implLazy_is (s : Int) (ss : List Nat) (st m : Nat) (hm : ss.length = m) (ao : Option Addr) (c : Nat) (w : World) (hs : Holds w ao (fl .f32 ss)) (hlen : m ≤ 1048576) (hc : m ≤ c) (hF : lazC s ss st ∧ isChain s (canL m (lazG s.toNat ss st))) :
    Calls Try.prog 41 #[.agg #[.int .i64 s, .slice ao m c], .float .f32 st] w (RetL m (fl .f32 (canL m (lazG s.toNat ss st))) (fun x => .tuple #[.agg #[.int .i64 s, x], .bool true]) w) := by
  obtain ⟨n, rfl, hmn, h⟩ := implLazy_yes s ss st m hm ao c w hs hlen hc hF.1
  have h2 := hF.2
  simp only [Int.toNat_natCast] at h2 ⊢
  rw [hmn] at h2 ⊢
  rw [hmn] at h
  exact h.mono fun e w1 hh => ChR.yes h2 hh
theorem implLazy_not (s : Int) (ss : List Nat) (st m : Nat) (hm : ss.length = m) (ao : Option Addr) (c : Nat) (w : World) (hs : Holds w ao (fl .f32 ss)) (hlen : m ≤ 1048576) (hc : m ≤ c) (hN : ¬(lazC s ss st ∧ isChain s (canL m (lazG s.toNat ss st)))) :
    Calls Try.prog 41 #[.agg #[.int .i64 s, .slice ao m c], .float .f32 st] w (RetB (.tuple #[.agg #[.int .i64 0, .slice none 0 0], .bool false]) w) := by
  by_cases hC : lazC s ss st
  · obtain ⟨n, rfl, hmn, h⟩ := implLazy_yes s ss st m hm ao c w hs hlen hc hC
    have h2 : ¬ isChain n (canL (n * n) (lazG n ss st)) := fun k => hN ⟨hC, by simp only [Int.toNat_natCast]; rw [hmn]; exact k⟩
    exact h.mono fun e w1 hh => ChR.no h2 hh
  · exact implLazy_no s ss st m hm ao c w hs hlen hc hC
end Go.Proofs.Ytfbllggnndodoaa
