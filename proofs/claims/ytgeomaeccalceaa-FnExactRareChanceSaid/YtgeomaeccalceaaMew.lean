/- MeetWalks, both sides. -/
import Derived.Test.YtgeomaeccalceaaMee
namespace Go.Proofs.Ytgeomaeccalceaa
open Go Go.RowKit Fl Vag
set_option linter.unusedVariables false

/-- The walks from f and g meet behind T shares, and not before. -/
def meetAt (n : Nat) (ss : List Nat) (k : Int) (a b f g q T : Nat) : Prop := T ≤ q ∧ oneAt (atL n ss k a b [(f : Int), (g : Int)] T) 2 ∧ ∀ i, i < T → ¬oneAt (atL n ss k a b [(f : Int), (g : Int)] i) 2
theorem at2 {n : Nat} {f g : Nat} (hf : f < n) (hg : g < n) : atStates n [(f : Int), (g : Int)] := fun i hi => by
  match i, hi with
  | 0, _ => exact ⟨f, rfl, hf⟩
  | 1, _ => exact ⟨g, rfl, hg⟩
  | i + 2, h => simp at h; omega
set_option maxRecDepth 100000 in
set_option maxHeartbeats 8000000 in
theorem implMeet_any (k : Int) (a b n f g q : Nat) (ss : List Nat) (m c bl o : Nat) (w : World) (hs : sOk k a b) (hf : f < n) (hg : g < n) (hq : q ≤ 512) (hC : isChain n ss) (hm : ss.length = m) (hc : m ≤ c) (hx : Holds w (some ⟨bl, o, none⟩) (fl .f32 ss)) :
    Calls Try.prog 27 #[sd k a b, .agg #[.int .i64 n, .slice (some ⟨bl, o, none⟩) m c], .int .i64 f, .int .i64 g, .int .i64 q] w (fun e w' => (∀ T, meetAt n ss k a b f g q T → RetB (.tuple #[sd k (sdK k a b T).1 (sdK k a b T).2, .int .i64 (T : Nat), .int .i64 ((atL n ss k a b [(f : Int), (g : Int)] T)[0]?.getD 0), .bool true]) w e w') ∧ ((¬∃ T, meetAt n ss k a b f g q T) → RetB (.tuple #[sd 0 0 0, .int .i64 0, .int .i64 0, .bool false]) w e w')) := by
  have HS := Lib.hid hs
  have HX := Lib.hid (And.intro hx (And.intro hC (And.intro hm hc)))
  have HFG := Lib.hid (And.intro hf hg)
  have hn12 : n ≤ 12 := by have := hC.side; omega
  have hn1 : 1 ≤ n := by omega
  have hm2 : m ≤ 144 := by have := sq_le hn12; have := hC.lenN; omega
  have HMM : Hid (m = n * n) := Lib.hid (by rw [← hm]; exact hC.lenN)
  have hbl := holds_lt hx (by rw [fl_len32, hC.lenN]; exact Nat.mul_pos hn1 hn1)
  have hin : decide ((0 : Int) ≤ (q : Int) ∧ (q : Int) ≤ 512) = true := by simp; omega
  have hhas1 : decide ((0 : Int) ≤ (f : Int) ∧ (f : Int) < n) = true := by simp; omega
  have hhas2 : decide ((0 : Int) ≤ (g : Int) ∧ (g : Int) < n) = true := by simp; omega
  have hnv : (n : Int) ≤ 12 := by omega
  have htv : (q : Int) ≤ 512 := by omega
  have H0 : Hid (Whole (((w.alloc (.cells (sdC k a b) 29)).alloc (.cells #[.int .i64 n, .slice (some ⟨bl, o, none⟩) m c] 34)).alloc (.cells (sdC 0 0 0) 29)) w.heap.size 29 (sdC k a b) ∧ Whole (((w.alloc (.cells (sdC k a b) 29)).alloc (.cells #[.int .i64 n, .slice (some ⟨bl, o, none⟩) m c] 34)).alloc (.cells (sdC 0 0 0) 29)) (w.heap.size + 1) 34 #[.int .i64 n, .slice (some ⟨bl, o, none⟩) m c] ∧ Whole (((w.alloc (.cells (sdC k a b) 29)).alloc (.cells #[.int .i64 n, .slice (some ⟨bl, o, none⟩) m c] 34)).alloc (.cells (sdC 0 0 0) 29)) (w.heap.size + 1 + 1) 29 (sdC 0 0 0) ∧ Below w.heap.size w (((w.alloc (.cells (sdC k a b) 29)).alloc (.cells #[.int .i64 n, .slice (some ⟨bl, o, none⟩) m c] 34)).alloc (.cells (sdC 0 0 0) 29))) := Lib.hid ⟨((Whole.made _ _ _).alloc _).alloc _, (Whole.made2 _ _ _ _).alloc _, by simpa using Whole.made2 (w.alloc _) _ _ _, (by repeat (first | with_reducible exact Below.refl _ _ | with_reducible exact HBL | with_reducible refine Below.drew ?_ | with_reducible refine Bel_drewN ?_ _ | with_reducible refine Below.alloc ?_ (by first | omega | (simp; done) | (simp; omega)) _ | with_reducible refine Below.setCell ?_ (by first | omega | (simp; done) | (simp; omega)) _))⟩
  clear hs hx hC hf hg hm hc
  go_enter Try.func27, Try.ntmps27
  go_wp2_with (first | (go_at_call 67; fail))
  refine (ValidSeed_B _ _ _ _ _ HS.out.1).mono ?_
  rintro e w1 ⟨rfl, hb⟩
  have H1 := Lib.hid (And.intro (H0.out.1.below hb) (And.intro (H0.out.2.1.below hb) (And.intro (H0.out.2.2.1.below hb) (Bel_next H0.out.2.2.2 hb))))
  change Hid (_ ∧ _ ∧ _ ∧ _) at H1
  clear hb H0
  obtain ⟨hc1, hf1⟩ := H1.out.2.1.facts
  have hz := H1.out.2.2.1.lt
  go_wp2_with (first | (go_at_call 68; fail))
  refine (implValidChain_any _ ss m HX.out.2.2.1 _ c _ (HX.out.1.below H1.out.2.2.2) (by omega) HX.out.2.2.2).mono ?_
  rintro e w2 ⟨bb, rfl, hbb, hb⟩
  obtain rfl : bb = true := hbb.2 HX.out.2.1
  have H2 := Lib.hid (And.intro (H1.out.1.below hb) (And.intro (H1.out.2.1.below hb) (And.intro (H1.out.2.2.1.below hb) (Bel_next H1.out.2.2.2 hb))))
  change Hid (_ ∧ _ ∧ _ ∧ _) at H2
  clear hbb hb H1 hc1 hf1 hz
  obtain ⟨hc1, hf1⟩ := H2.out.2.1.facts
  have hz := H2.out.2.2.1.lt
  go_wp2_with (first | (go_at_call 69; fail))
  clear hc1 hf1 hz
  refine (has_any _ _ _ _ _ true _ hhas1).mono ?_
  rintro e w3 ⟨rfl, hb⟩
  have H3 := Lib.hid (And.intro (H2.out.1.below hb) (And.intro (H2.out.2.1.below hb) (And.intro (H2.out.2.2.1.below hb) (Bel_next H2.out.2.2.2 hb))))
  change Hid (_ ∧ _ ∧ _ ∧ _) at H3
  clear hb H2
  obtain ⟨hc1, hf1⟩ := H3.out.2.1.facts
  have hz := H3.out.2.2.1.lt
  go_wp2_with (first | (go_at_call 69; fail))
  clear hc1 hf1 hz
  refine (has_any _ _ _ _ _ true _ hhas2).mono ?_
  rintro e w4 ⟨rfl, hb⟩
  have H4 := Lib.hid (And.intro (H3.out.1.below hb) (And.intro (H3.out.2.1.below hb) (And.intro (H3.out.2.2.1.below hb) (Bel_next H3.out.2.2.2 hb))))
  change Hid (_ ∧ _ ∧ _ ∧ _) at H4
  clear hb H3
  obtain ⟨hc0, hf0⟩ := H4.out.1.facts
  obtain ⟨hc1, hf1⟩ := H4.out.2.1.facts
  have hz := H4.out.2.2.1.lt
  have hz1 := H4.out.2.1.lt
  go_wp2_with (first | (go_at_call 70; refine (wlen_any _ _ _ hin).mono ?_; rintro e w' ⟨rfl, rfl⟩) | (go_at_call 73; fail))
  generalize hW : World.alloc (World.alloc w4 _) _ = w5
  obtain ⟨gd, hgd⟩ : ∃ x, x = w4.heap.size := ⟨_, rfl⟩
  have H5 : Hid (Whole w5 gd 99 (sdC k a b) ∧ Whole w5 (gd + 1) 2 (il [(f : Int), (g : Int)]).toArray ∧ Whole w5 (w.heap.size + 1 + 1) 29 (sdC 0 0 0) ∧ Below w.heap.size w w5 ∧ w.heap.size + 2 < gd) := Lib.hid (by
    have HBL := H4.out.2.2.2
    rw [hgd, ← hW]
    exact ⟨(Whole.made _ _ _).alloc _, Whole.made2 _ _ _ _, (H4.out.2.2.1.alloc _).alloc _, (by repeat (first | with_reducible exact Below.refl _ _ | with_reducible exact HBL | with_reducible refine Below.drew ?_ | with_reducible refine Bel_drewN ?_ _ | with_reducible refine Below.alloc ?_ (by first | omega | (simp; done) | (simp; omega)) _ | with_reducible refine Below.setCell ?_ (by first | omega | (simp; done) | (simp; omega)) _)), by omega⟩)
  rw [← hgd]
  clear hW H4 hz hz1 hgd hc0 hf0 hc1 hf1
  have hzd := H5.out.1.lt
  have hgl := H5.out.2.2.2.2
  refine (until_any ss [(f : Int), (g : Int)] n 2 gd (gd + 1) 2 bl o m c q k a b _ HS.out H5.out.1 H5.out.2.1 (by omega) rfl (by omega) (at2 HFG.out.1 HFG.out.2) HX.out.2.1 HX.out.2.2.1 HX.out.2.2.2 (HX.out.1.below H5.out.2.2.2.1) (by omega) (by omega) (by omega) hq).mono ?_
  rintro e w6 ⟨T, hT, rfl, hno, hor, r0, r1, r2⟩
  have H6 := Lib.hid (And.intro r0 (And.intro r1 (And.intro (H5.out.2.2.1.two r2 (by omega) (by omega)) (r2.bel H5.out.2.2.2.1 H5.out.2.2.2.1.size (by omega) (by omega)))))
  change Hid (_ ∧ _ ∧ _ ∧ _) at H6
  have HT := Lib.hid (And.intro hT (And.intro hno hor))
  clear r0 r1 r2 hno hor H5
  have hz := H6.out.2.2.1.lt
  have hzd' := H6.out.1.lt
  have hza' := H6.out.2.1.lt
  obtain ⟨hcd, hfd⟩ := H6.out.1.facts
  obtain ⟨hc2, hf2⟩ := H6.out.2.2.1.facts
  have HLN : Hid ((atL n ss k a b [(f : Int), (g : Int)] T).length = 2) := Lib.hid (atL_len _ _ _ _ _ _ _)
  by_cases ho : oneAt (atL n ss k a b [(f : Int), (g : Int)] T) 2
  · have HO := Lib.hid ho
    clear ho
    go_wp2_with (first | (go_at_call 74; fail))
    refine (haveMet_any (atL n ss k a b [(f : Int), (g : Int)] T) 2 _ HLN.out true ⟨fun _ => HO.out, fun _ => rfl⟩ _ _ _ ((tally_row H6.out.2.1 (Nat.zero_le _) (Nat.lt_succ_self _)).holds.below (by repeat (first | with_reducible exact Below.refl _ _ | with_reducible exact HBL | with_reducible refine Below.drew ?_ | with_reducible refine Bel_drewN ?_ _ | with_reducible refine Below.alloc ?_ (by first | omega | (simp; done) | (simp; omega)) _ | with_reducible refine Below.setCell ?_ (by first | omega | (simp; done) | (simp; omega)) _))) (by omega) (by omega)).mono ?_
    rintro e w7 ⟨rfl, hb⟩
    have H7 := Lib.hid (And.intro ((H6.out.1.alloc _).below hb) (And.intro ((H6.out.2.1.alloc _).below hb) (And.intro ((H6.out.2.2.1.alloc _).below hb) (And.intro (show Below w.heap.size w w7 from Bel_next (show Below w.heap.size w (w6.alloc (.cells #[.slice (some ⟨gd + 1, 0, none⟩) 2 2, .int .i64 (T : Nat)] 103)) from (by have HBL := H6.out.2.2.2; exact (by repeat (first | with_reducible exact Below.refl _ _ | with_reducible exact HBL | with_reducible refine Below.drew ?_ | with_reducible refine Bel_drewN ?_ _ | with_reducible refine Below.alloc ?_ (by first | omega | (simp; done) | (simp; omega)) _ | with_reducible refine Below.setCell ?_ (by first | omega | (simp; done) | (simp; omega)) _)))) hb) ((Whole.made w6 103 #[.slice (some ⟨gd + 1, 0, none⟩) 2 2, .int .i64 (T : Nat)]).below hb)))))
    change Hid (_ ∧ _ ∧ _ ∧ _ ∧ _) at H7
    have HWZ : Hid (w6.heap.size < w7.heap.size) := Lib.hid H7.out.2.2.2.2.lt
    clear hb H6 hcd hfd hc2 hf2
    obtain ⟨hcd, hfd⟩ := H7.out.1.facts
    obtain ⟨hc2, hf2⟩ := H7.out.2.2.1.facts
    obtain ⟨hcw, hfw⟩ := H7.out.2.2.2.2.facts
    have hca := tally_cell H7.out.2.1 0 (by rw [HLN.out]; omega)
    have hz7 := H7.out.2.2.1.lt
    have HTT : Hid (∀ T', meetAt n ss k a b f g q T' → T' = T) := Lib.hid (fun T' h => by
      rcases Nat.lt_trichotomy T' T with e | e | e
      · exact absurd h.2.1 (HT.out.2.1 T' e)
      · exact e
      · exact absurd HO.out (h.2.2 T e))
    have HYS : Hid (meetAt n ss k a b f g q T) := Lib.hid ⟨HT.out.1, HO.out, HT.out.2.1⟩
    go_wp2_with fail
    go_region_with fail
    all_goals
      go_wp2_with fail
      have HBL := H7.out.2.2.2.1
      exact bodyPost_ret (v := .tuple #[sd k (sdK k a b T).1 (sdK k a b T).2, .int .i64 (T : Nat), .int .i64 ((atL n ss k a b [(f : Int), (g : Int)] T)[0]?.getD 0), .bool true]) (by simp [results, Try.results27, go_sem, hc2]) rfl ⟨fun T' h => by
        obtain rfl := HTT.out T' h
        exact ⟨rfl, (by repeat (first | with_reducible exact Below.refl _ _ | with_reducible exact HBL | with_reducible refine Below.drew ?_ | with_reducible refine Bel_drewN ?_ _ | with_reducible refine Below.alloc ?_ (by first | omega | (simp; done) | (simp; omega)) _ | with_reducible refine Below.setCell ?_ (by first | omega | (simp; done) | (simp; omega)) _))⟩, fun h => absurd ⟨T, HYS.out⟩ h⟩
  · have HO := Lib.hid ho
    clear ho
    go_wp2_with (first | (go_at_call 74; fail))
    refine (haveMet_any (atL n ss k a b [(f : Int), (g : Int)] T) 2 _ HLN.out false ⟨fun h => by (cases h), fun h => absurd h HO.out⟩ _ _ _ ((tally_row H6.out.2.1 (Nat.zero_le _) (Nat.lt_succ_self _)).holds.below (by repeat (first | with_reducible exact Below.refl _ _ | with_reducible exact HBL | with_reducible refine Below.drew ?_ | with_reducible refine Bel_drewN ?_ _ | with_reducible refine Below.alloc ?_ (by first | omega | (simp; done) | (simp; omega)) _ | with_reducible refine Below.setCell ?_ (by first | omega | (simp; done) | (simp; omega)) _))) (by omega) (by omega)).mono ?_
    rintro e w7 ⟨rfl, hb⟩
    have H7 := Lib.hid (And.intro ((H6.out.2.2.1.alloc _).below hb) (show Below w.heap.size w w7 from Bel_next (show Below w.heap.size w (w6.alloc (.cells #[.slice (some ⟨gd + 1, 0, none⟩) 2 2, .int .i64 (T : Nat)] 103)) from (by have HBL := H6.out.2.2.2; exact (by repeat (first | with_reducible exact Below.refl _ _ | with_reducible exact HBL | with_reducible refine Below.drew ?_ | with_reducible refine Bel_drewN ?_ _ | with_reducible refine Below.alloc ?_ (by first | omega | (simp; done) | (simp; omega)) _ | with_reducible refine Below.setCell ?_ (by first | omega | (simp; done) | (simp; omega)) _)))) hb))
    change Hid (_ ∧ _) at H7
    clear hb H6 hcd hfd hc2 hf2
    obtain ⟨hc2, hf2⟩ := H7.out.1.facts
    have hz7 := H7.out.1.lt
    have HNT : Hid (∀ T', ¬meetAt n ss k a b f g q T') := Lib.hid (fun T' h => by
      rcases HT.out.2.2 with h1 | h1
      · exact HO.out h1
      · rcases Nat.lt_or_ge T' T with e | e
        · exact HT.out.2.1 T' e h.2.1
        · have := h.1
          obtain rfl : T' = T := by omega
          exact HO.out h.2.1)
    go_wp2_with fail
    have HBL := H7.out.2
    exact bodyPost_ret (v := .tuple #[sd 0 0 0, .int .i64 0, .int .i64 0, .bool false]) (by simp [results, Try.results27, go_sem, hc2]) rfl ⟨fun T' h => absurd h (HNT.out T'), fun _ => ⟨rfl, (by repeat (first | with_reducible exact Below.refl _ _ | with_reducible exact HBL | with_reducible refine Below.drew ?_ | with_reducible refine Bel_drewN ?_ _ | with_reducible refine Below.alloc ?_ (by first | omega | (simp; done) | (simp; omega)) _ | with_reducible refine Below.setCell ?_ (by first | omega | (simp; done) | (simp; omega)) _))⟩⟩
theorem implMeet_no (k : Int) (a b : Nat) (s f g t : Int) (ss : List Nat) (m c : Nat) (ao : Option Addr) (w : World) (hm : ss.length = m) (hx : Holds w ao (fl .f32 ss)) (hlen : m ≤ 1048576) (hc : m ≤ c) (h : ¬(vSeed k a b = true ∧ isState s ss f ∧ isState s ss g ∧ 0 ≤ t ∧ t ≤ 512)) :
    Calls Try.prog 27 #[sd k a b, .agg #[.int .i64 s, .slice ao m c], .int .i64 f, .int .i64 g, .int .i64 t] w (RetB (.tuple #[sd 0 0 0, .int .i64 0, .int .i64 0, .bool false]) w) := by
  have HX := Lib.hid (And.intro hx (And.intro hm (And.intro hc h)))
  have H0 : Hid (Whole (((w.alloc (.cells (sdC k a b) 29)).alloc (.cells #[.int .i64 s, .slice ao m c] 34)).alloc (.cells (sdC 0 0 0) 29)) w.heap.size 29 (sdC k a b) ∧ Whole (((w.alloc (.cells (sdC k a b) 29)).alloc (.cells #[.int .i64 s, .slice ao m c] 34)).alloc (.cells (sdC 0 0 0) 29)) (w.heap.size + 1) 34 #[.int .i64 s, .slice ao m c] ∧ Whole (((w.alloc (.cells (sdC k a b) 29)).alloc (.cells #[.int .i64 s, .slice ao m c] 34)).alloc (.cells (sdC 0 0 0) 29)) (w.heap.size + 1 + 1) 29 (sdC 0 0 0) ∧ Below w.heap.size w (((w.alloc (.cells (sdC k a b) 29)).alloc (.cells #[.int .i64 s, .slice ao m c] 34)).alloc (.cells (sdC 0 0 0) 29))) := Lib.hid ⟨((Whole.made _ _ _).alloc _).alloc _, (Whole.made2 _ _ _ _).alloc _, by simpa using Whole.made2 (w.alloc _) _ _ _, (by repeat (first | with_reducible exact Below.refl _ _ | with_reducible exact HBL | with_reducible refine Below.drew ?_ | with_reducible refine Bel_drewN ?_ _ | with_reducible refine Below.alloc ?_ (by first | omega | (simp; done) | (simp; omega)) _ | with_reducible refine Below.setCell ?_ (by first | omega | (simp; done) | (simp; omega)) _))⟩
  clear hx h hm hc
  go_enter Try.func27, Try.ntmps27
  go_wp2_with (first | (go_at_call 67; fail))
  obtain ⟨vs, hvs⟩ : ∃ v, vSeed k a b = v := ⟨_, rfl⟩
  refine (ValidSeed_B _ _ _ _ _ hvs).mono ?_
  rintro e w1 ⟨rfl, hb⟩
  have H1 := Lib.hid (And.intro (H0.out.2.1.below hb) (And.intro (H0.out.2.2.1.below hb) (And.intro (Bel_next H0.out.2.2.2 hb) hvs)))
  change Hid (_ ∧ _ ∧ _ ∧ _) at H1
  clear hb H0 hvs
  obtain ⟨hc1, hf1⟩ := H1.out.1.facts
  obtain ⟨hc2, hf2⟩ := H1.out.2.1.facts
  have hz := H1.out.2.1.lt
  cases vs with
  | false =>
    go_wp2_with fail
    have HBL := H1.out.2.2.1
    exact bodyPost_ret (v := .tuple #[sd 0 0 0, .int .i64 0, .int .i64 0, .bool false]) (by simp [results, Try.results27, go_sem, hc2]) rfl ⟨rfl, (by repeat (first | with_reducible exact Below.refl _ _ | with_reducible exact HBL | with_reducible refine Below.drew ?_ | with_reducible refine Bel_drewN ?_ _ | with_reducible refine Below.alloc ?_ (by first | omega | (simp; done) | (simp; omega)) _ | with_reducible refine Below.setCell ?_ (by first | omega | (simp; done) | (simp; omega)) _))⟩
  | true =>
    go_wp2_with (first | (go_at_call 68; fail))
    refine (implValidChain_any _ ss m HX.out.2.1 _ c _ (HX.out.1.below H1.out.2.2.1) hlen HX.out.2.2.1).mono ?_
    rintro e w2 ⟨bb, rfl, hbb, hb⟩
    have H2 := Lib.hid (And.intro (H1.out.1.below hb) (And.intro (H1.out.2.1.below hb) (And.intro (Bel_next H1.out.2.2.1 hb) hbb)))
    change Hid (_ ∧ _ ∧ _ ∧ _) at H2
    clear hb hbb hc1 hf1 hc2 hf2 hz
    obtain ⟨hc1, hf1⟩ := H2.out.1.facts
    obtain ⟨hc2, hf2⟩ := H2.out.2.1.facts
    have hz := H2.out.2.1.lt
    cases bb with
    | false =>
      go_wp2_with fail
      have HBL := H2.out.2.2.1
      exact bodyPost_ret (v := .tuple #[sd 0 0 0, .int .i64 0, .int .i64 0, .bool false]) (by simp [results, Try.results27, go_sem, hc2]) rfl ⟨rfl, (by repeat (first | with_reducible exact Below.refl _ _ | with_reducible exact HBL | with_reducible refine Below.drew ?_ | with_reducible refine Bel_drewN ?_ _ | with_reducible refine Below.alloc ?_ (by first | omega | (simp; done) | (simp; omega)) _ | with_reducible refine Below.setCell ?_ (by first | omega | (simp; done) | (simp; omega)) _))⟩
    | true =>
      obtain ⟨vh, hvh⟩ : ∃ v, decide (0 ≤ f ∧ f < s) = v := ⟨_, rfl⟩
      go_wp2_with (first | (go_at_call 69; fail))
      refine (has_any _ _ _ _ _ _ _ hvh).mono ?_
      rintro e w3 ⟨rfl, hb⟩
      have H3 := Lib.hid (And.intro (H2.out.1.below hb) (And.intro (H2.out.2.1.below hb) (And.intro (Bel_next H2.out.2.2.1 hb) hvh)))
      change Hid (_ ∧ _ ∧ _ ∧ _) at H3
      clear hb hvh hc1 hf1 hc2 hf2 hz
      obtain ⟨hc1, hf1⟩ := H3.out.1.facts
      obtain ⟨hc2, hf2⟩ := H3.out.2.1.facts
      have hz := H3.out.2.1.lt
      cases vh with
      | false =>
        go_wp2_with fail
        have HBL := H3.out.2.2.1
        exact bodyPost_ret (v := .tuple #[sd 0 0 0, .int .i64 0, .int .i64 0, .bool false]) (by simp [results, Try.results27, go_sem, hc2]) rfl ⟨rfl, (by repeat (first | with_reducible exact Below.refl _ _ | with_reducible exact HBL | with_reducible refine Below.drew ?_ | with_reducible refine Bel_drewN ?_ _ | with_reducible refine Below.alloc ?_ (by first | omega | (simp; done) | (simp; omega)) _ | with_reducible refine Below.setCell ?_ (by first | omega | (simp; done) | (simp; omega)) _))⟩
      | true =>
        obtain ⟨vg, hvg⟩ : ∃ v, decide (0 ≤ g ∧ g < s) = v := ⟨_, rfl⟩
        go_wp2_with (first | (go_at_call 69; fail))
        refine (has_any _ _ _ _ _ _ _ hvg).mono ?_
        rintro e w4 ⟨rfl, hb⟩
        have H4 := Lib.hid (And.intro (H3.out.2.1.below hb) (And.intro (Bel_next H3.out.2.2.1 hb) hvg))
        change Hid (_ ∧ _ ∧ _) at H4
        clear hb hvg hc1 hf1 hc2 hf2 hz
        obtain ⟨hc2, hf2⟩ := H4.out.1.facts
        have hz := H4.out.1.lt
        cases vg with
        | false =>
          go_wp2_with fail
          have HBL := H4.out.2.1
          exact bodyPost_ret (v := .tuple #[sd 0 0 0, .int .i64 0, .int .i64 0, .bool false]) (by simp [results, Try.results27, go_sem, hc2]) rfl ⟨rfl, (by repeat (first | with_reducible exact Below.refl _ _ | with_reducible exact HBL | with_reducible refine Below.drew ?_ | with_reducible refine Bel_drewN ?_ _ | with_reducible refine Below.alloc ?_ (by first | omega | (simp; done) | (simp; omega)) _ | with_reducible refine Below.setCell ?_ (by first | omega | (simp; done) | (simp; omega)) _))⟩
        | true =>
          have hin : decide ((0 : Int) ≤ t ∧ t ≤ 512) = false := by
            have h1 := HX.out.2.2.2
            have h2 := H2.out.2.2.2.1 (by first | rfl | trivial)
            have h3 := of_decide_eq_true H3.out.2.2.2
            have h4 := of_decide_eq_true H4.out.2.2
            simp only [decide_eq_false_iff_not]
            exact fun h5 => h1 ⟨H1.out.2.2.2, ⟨h2, h3⟩, ⟨h2, h4⟩, h5⟩
          go_wp2_with (first | (go_at_call 70; refine (wlen_any _ _ _ hin).mono ?_; rintro e w' ⟨rfl, rfl⟩))
          have HBL := H4.out.2.1
          exact bodyPost_ret (v := .tuple #[sd 0 0 0, .int .i64 0, .int .i64 0, .bool false]) (by simp [results, Try.results27, go_sem, hc2]) rfl ⟨rfl, (by repeat (first | with_reducible exact Below.refl _ _ | with_reducible exact HBL | with_reducible refine Below.drew ?_ | with_reducible refine Bel_drewN ?_ _ | with_reducible refine Below.alloc ?_ (by first | omega | (simp; done) | (simp; omega)) _ | with_reducible refine Below.setCell ?_ (by first | omega | (simp; done) | (simp; omega)) _))⟩
theorem at_two (n : Nat) (ss : List Nat) (k : Int) (a b f g : Nat) : ∀ j, atL n ss k a b [(f : Int), (g : Int)] j = [(walkAt n ss k a b f j : Int), (walkAt n ss k a b g j : Int)]
  | 0 => rfl
  | j + 1 => by
    show goL _ _ _ (atL n ss k a b [(f : Int), (g : Int)] j) = _
    rw [at_two n ss k a b f g j]; rfl
theorem one_two (x y : Int) : oneAt [x, y] 2 ↔ x = y :=
  ⟨fun h => (h 1 (by omega)).symm, fun h i hi => by
    match i, hi with
    | 0, _ => rfl
    | 1, _ => exact h.symm⟩
theorem meet_two {n : Nat} {ss : List Nat} {k : Int} {a b f g q T : Nat} : meetAt n ss k a b f g q T ↔ T ≤ q ∧ walkAt n ss k a b f T = walkAt n ss k a b g T ∧ ∀ i, i < T → ¬walkAt n ss k a b f i = walkAt n ss k a b g i := by
  unfold meetAt
  simp only [at_two, one_two, Int.natCast_inj]
set_option maxRecDepth 100000 in
set_option maxHeartbeats 8000000 in
theorem specMeet_any (k : Int) (a b n f g q : Nat) (ss : List Nat) (m c bl o : Nat) (w : World) (hs : sOk k a b) (hf : f < n) (hg : g < n) (hq : q ≤ 512) (hC : isChain n ss) (hm : ss.length = m) (hx : Holds w (some ⟨bl, o, none⟩) (fl .f32 ss)) :
    Calls Try.prog 26 #[sd k a b, .agg #[.int .i64 n, .slice (some ⟨bl, o, none⟩) m c], .int .i64 f, .int .i64 g, .int .i64 q] w (fun e w' => (∀ T, meetAt n ss k a b f g q T → RetB (.tuple #[sd k (sdK k a b T).1 (sdK k a b T).2, .int .i64 (T : Nat), .int .i64 ((atL n ss k a b [(f : Int), (g : Int)] T)[0]?.getD 0), .bool true]) w e w') ∧ ((¬∃ T, meetAt n ss k a b f g q T) → RetB (.tuple #[sd 0 0 0, .int .i64 0, .int .i64 0, .bool false]) w e w')) := by
  have HS := Lib.hid hs
  have HX := Lib.hid (And.intro hx (And.intro hC (And.intro hf (And.intro hg hm))))
  have hn12 : n ≤ 12 := by have := hC.side; omega
  have hm2 : m ≤ 144 := by have := sq_le hn12; have := hC.lenN; omega
  have hin : decide ((0 : Int) ≤ (q : Int) ∧ (q : Int) ≤ 512) = true := by simp; omega
  have hnv : (n : Int) ≤ 12 := by omega
  have htv : (q : Int) ≤ 512 := by omega
  have HST : Hid (isState n ss f ∧ isState n ss g) := Lib.hid ⟨⟨hC, by omega, by omega⟩, ⟨hC, by omega, by omega⟩⟩
  have H0 : Hid (Whole (((w.alloc (.cells (sdC k a b) 29)).alloc (.cells #[.int .i64 n, .slice (some ⟨bl, o, none⟩) m c] 34)).alloc (.cells (sdC 0 0 0) 29)) w.heap.size 29 (sdC k a b) ∧ Whole (((w.alloc (.cells (sdC k a b) 29)).alloc (.cells #[.int .i64 n, .slice (some ⟨bl, o, none⟩) m c] 34)).alloc (.cells (sdC 0 0 0) 29)) (w.heap.size + 1) 34 #[.int .i64 n, .slice (some ⟨bl, o, none⟩) m c] ∧ Whole (((w.alloc (.cells (sdC k a b) 29)).alloc (.cells #[.int .i64 n, .slice (some ⟨bl, o, none⟩) m c] 34)).alloc (.cells (sdC 0 0 0) 29)) (w.heap.size + 1 + 1) 29 (sdC 0 0 0) ∧ Below w.heap.size w (((w.alloc (.cells (sdC k a b) 29)).alloc (.cells #[.int .i64 n, .slice (some ⟨bl, o, none⟩) m c] 34)).alloc (.cells (sdC 0 0 0) 29))) := Lib.hid ⟨((Whole.made _ _ _).alloc _).alloc _, (Whole.made2 _ _ _ _).alloc _, by simpa using Whole.made2 (w.alloc _) _ _ _, (by repeat (first | with_reducible exact Below.refl _ _ | with_reducible exact HBL | with_reducible refine Below.drew ?_ | with_reducible refine Bel_drewN ?_ _ | with_reducible refine Below.alloc ?_ (by first | omega | (simp; done) | (simp; omega)) _ | with_reducible refine Below.setCell ?_ (by first | omega | (simp; done) | (simp; omega)) _))⟩
  clear hs hx hC hf hg hm
  go_enter Try.func26, Try.ntmps26
  go_wp2_with (first | (go_at_call 62; fail))
  refine (l02Is_any _ _ _ _ _ H0.out.1).mono ?_
  rintro e w1 ⟨rfl, rfl⟩
  rw [HS.out.1]
  go_wp2_with (first | (go_at_call 63; fail))
  refine (l07State_any _ _ ss m HX.out.2.2.2.2 _ c _ _ H0.out.2.1 (HX.out.1.below H0.out.2.2.2) (by omega)).mono ?_
  rintro e w2 ⟨bb, rfl, hbb, hb⟩
  obtain rfl : bb = true := hbb.2 HST.out.1
  have H2 := Lib.hid (And.intro (H0.out.1.below hb) (And.intro (H0.out.2.1.below hb) (And.intro (H0.out.2.2.1.below hb) (Bel_next H0.out.2.2.2 hb))))
  change Hid (_ ∧ _ ∧ _ ∧ _) at H2
  clear hbb hb H0
  go_wp2_with (first | (go_at_call 63; fail))
  refine (l07State_any _ _ ss m HX.out.2.2.2.2 _ c _ _ H2.out.2.1 (HX.out.1.below H2.out.2.2.2) (by omega)).mono ?_
  rintro e w3 ⟨bb, rfl, hbb, hb⟩
  obtain rfl : bb = true := hbb.2 HST.out.2
  have H3 := Lib.hid (And.intro (H2.out.1.below hb) (And.intro (H2.out.2.1.below hb) (And.intro (H2.out.2.2.1.below hb) (Bel_next H2.out.2.2.2 hb))))
  change Hid (_ ∧ _ ∧ _ ∧ _) at H3
  clear hbb hb H2
  go_wp2_with (first | (go_at_call 64; refine (l00In_vc _ _ _ _ hin _).mono ?_; rintro e w' ⟨rfl, rfl⟩))
  go_loopw [2, 3, 14] (fun x y i wr => ∃ j : Nat, j ≤ q ∧ i = .int .i64 j ∧ x = .int .i64 (walkAt n ss k a b f j : Nat) ∧ y = .int .i64 (walkAt n ss k a b g j : Nat) ∧ (∀ i, i < j → ¬walkAt n ss k a b f i = walkAt n ss k a b g i) ∧ Whole wr w.heap.size 29 (sdC k (sdK k a b j).1 (sdK k a b j).2) ∧ Whole wr (w.heap.size + 1) 34 #[.int .i64 n, .slice (some ⟨bl, o, none⟩) m c] ∧ Whole wr (w.heap.size + 1 + 1) 29 (sdC 0 0 0) ∧ Below w.heap.size w wr) (fun _ _ i _ => q - (intOf i).toNat)
  case atStart => exact ⟨0, Nat.zero_le _, rfl, rfl, rfl, fun i hi => absurd hi (Nat.not_lt_zero _), H3.out⟩
  case round =>
    obtain ⟨j, hj, rfl, rfl, rfl, hno, q0, q1, q2, hbel⟩ := hrel
    have H := Lib.hid (And.intro q0 (And.intro q1 (And.intro q2 (And.intro hbel hno))))
    change Hid (_ ∧ _ ∧ _ ∧ _ ∧ _) at H
    have hz := q2.lt
    have hz0 := q0.lt
    obtain ⟨hc0, hf0⟩ := q0.facts
    obtain ⟨hc2, hf2⟩ := q2.facts
    have hj' : (j : Int) ≤ q := by omega
    have HJ := Lib.hid (HS.out.sdK j)
    have HWL := Lib.hid (And.intro (walkAt_lt (ss := ss) (k := k) (a := a) (b := b) HX.out.2.2.1 j) (walkAt_lt (ss := ss) (k := k) (a := a) (b := b) HX.out.2.2.2.1 j))
    have HN : Hid (sdK k a b (j + 1) = (nxA k (sdK k a b j).1 (sdK k a b j).2, nxB k (sdK k a b j).1 (sdK k a b j).2) ∧ walkAt n ss k a b f (j + 1) = onF (rowA n (walkAt n ss k a b f j) ss) (shK k (sdK k a b j).1 (sdK k a b j).2) n 0 0 ∧ walkAt n ss k a b g (j + 1) = onF (rowA n (walkAt n ss k a b g j) ss) (shK k (sdK k a b j).1 (sdK k a b j).2) n 0 0) := Lib.hid ⟨rfl, rfl, rfl⟩
    clear q0 q1 q2 hbel hno H3
    by_cases he : walkAt n ss k a b f j = walkAt n ss k a b g j
    · have HE := Lib.hid he
      have he' : (walkAt n ss k a b f j : Int) = (walkAt n ss k a b g j : Int) := by rw [he]
      have HYS : Hid (meetAt n ss k a b f g q j) := Lib.hid (meet_two.2 ⟨hj, he, H.out.2.2.2.2⟩)
      have HTT : Hid (∀ T, meetAt n ss k a b f g q T → T = j) := Lib.hid (fun T h => by
        have h := meet_two.1 h
        rcases Nat.lt_trichotomy T j with e | e | e
        · exact absurd h.2.1 (H.out.2.2.2.2 T e)
        · exact e
        · exact absurd HE.out (h.2.2 j e))
      have HV : Hid ((walkAt n ss k a b f j : Int) = (atL n ss k a b [(f : Int), (g : Int)] j)[0]?.getD 0) := Lib.hid (by rw [at_two]; rfl)
      clear he
      generalize hwf : walkAt n ss k a b f j = x at *
      generalize hwg : walkAt n ss k a b g j = y at *
      go_wp2_with fail
      have HBL := H.out.2.2.2.1
      exact bodyPost_ret (v := .tuple #[sd k (sdK k a b j).1 (sdK k a b j).2, .int .i64 (j : Nat), .int .i64 (x : Nat), .bool true]) (by simp [results, Try.results26, go_sem, hc2]) rfl ⟨fun T' h => by
        obtain rfl := HTT.out T' h
        exact ⟨by rw [HV.out], (by repeat (first | with_reducible exact Below.refl _ _ | with_reducible exact HBL | with_reducible refine Below.drew ?_ | with_reducible refine Bel_drewN ?_ _ | with_reducible refine Below.alloc ?_ (by first | omega | (simp; done) | (simp; omega)) _ | with_reducible refine Below.setCell ?_ (by first | omega | (simp; done) | (simp; omega)) _))⟩, fun h => absurd ⟨j, HYS.out⟩ h⟩
    · have HE := Lib.hid he
      have he' : ¬(walkAt n ss k a b f j : Int) = (walkAt n ss k a b g j : Int) := by omega
      have HNO : Hid (∀ i, i < j + 1 → ¬walkAt n ss k a b f i = walkAt n ss k a b g i) := Lib.hid (fun i hi => by
        by_cases e : i = j
        · subst e; exact HE.out
        · exact H.out.2.2.2.2 i (by omega))
      clear he
      generalize hwf : walkAt n ss k a b f j = x at *
      generalize hwg : walkAt n ss k a b g j = y at *
      by_cases hlt : j = q
      · subst hlt
        have HNT : Hid (¬∃ T, meetAt n ss k a b f g j T) := Lib.hid (fun ⟨T, h⟩ => by
          have h := meet_two.1 h
          exact HNO.out T (by omega) h.2.1)
        go_wp2_with fail
        have HBL := H.out.2.2.2.1
        exact bodyPost_ret (v := .tuple #[sd 0 0 0, .int .i64 0, .int .i64 0, .bool false]) (by simp [results, Try.results26, go_sem, hc2]) rfl ⟨fun T' h => absurd ⟨T', h⟩ HNT.out, fun _ => ⟨rfl, (by repeat (first | with_reducible exact Below.refl _ _ | with_reducible exact HBL | with_reducible refine Below.drew ?_ | with_reducible refine Bel_drewN ?_ _ | with_reducible refine Below.alloc ?_ (by first | omega | (simp; done) | (simp; omega)) _ | with_reducible refine Below.setCell ?_ (by first | omega | (simp; done) | (simp; omega)) _))⟩⟩
      · have hlt' : ¬(j : Int) = (q : Int) := by omega
        clear hc0 hf0 hc2 hf2
        go_wp2_with (first | (go_at_call 65; fail))
        refine (l02Share_any _ _ _ _ _ HJ.out H.out.1).mono ?_
        rintro e w4 ⟨rfl, r0, hg⟩
        have H4 := Lib.hid (And.intro r0 (And.intro (H.out.2.1.grown hg (by first | (simp; done) | (simp; omega))) (And.intro (H.out.2.2.1.grown hg (by first | (simp; done) | (simp; omega))) (Below.grown H.out.2.2.2.1 hg H.out.2.2.2.1.size (by simp)))))
        change Hid (_ ∧ _ ∧ _ ∧ _) at H4
        clear r0 hg H
        go_wp2_with (first | (go_at_call 66; fail))
        refine (l07On_any ss n _ _ _ bl o m c _ H4.out.2.1 (HX.out.1.below H4.out.2.2.2) HWL.out.1 hn12 (by rw [← HX.out.2.2.2.2]; exact HX.out.2.1.lenN) HX.out.2.2.2.2 (HX.out.2.1.okAt HWL.out.1)).mono ?_
        rintro e w5 ⟨rfl, hb⟩
        rw [← HN.out.2.1]
        have H5 := Lib.hid (And.intro (H4.out.1.below hb) (And.intro (H4.out.2.1.below hb) (And.intro (H4.out.2.2.1.below hb) (Bel_next H4.out.2.2.2 hb))))
        change Hid (_ ∧ _ ∧ _ ∧ _) at H5
        clear hb H4
        go_wp2_with (first | (go_at_call 66; fail))
        refine (l07On_any ss n _ _ _ bl o m c _ H5.out.2.1 (HX.out.1.below H5.out.2.2.2) HWL.out.2 hn12 (by rw [← HX.out.2.2.2.2]; exact HX.out.2.1.lenN) HX.out.2.2.2.2 (HX.out.2.1.okAt HWL.out.2)).mono ?_
        rintro e w6 ⟨rfl, hb⟩
        rw [← HN.out.2.2]
        have H6 := Lib.hid (And.intro (H5.out.1.below hb) (And.intro (H5.out.2.1.below hb) (And.intro (H5.out.2.2.1.below hb) (Bel_next H5.out.2.2.2 hb))))
        change Hid (_ ∧ _ ∧ _ ∧ _) at H6
        clear hb H5
        go_wp2_with fail
        go_roundw
        case rel => exact ⟨j + 1, by omega, by go_num, rfl, rfl, HNO.out, by rw [HN.out.1]; exact H6.out.1, H6.out.2⟩
        case measure => simp [intOf]; omega
theorem specMeet_no (k : Int) (a b : Nat) (s f g t : Int) (ss : List Nat) (m c : Nat) (ao : Option Addr) (w : World) (hm : ss.length = m) (hx : Holds w ao (fl .f32 ss)) (hlen : m ≤ 1048576) (h : ¬(vSeed k a b = true ∧ isState s ss f ∧ isState s ss g ∧ 0 ≤ t ∧ t ≤ 512)) :
    Calls Try.prog 26 #[sd k a b, .agg #[.int .i64 s, .slice ao m c], .int .i64 f, .int .i64 g, .int .i64 t] w (RetB (.tuple #[sd 0 0 0, .int .i64 0, .int .i64 0, .bool false]) w) := by
  have HX := Lib.hid (And.intro hx (And.intro hm h))
  have H0 : Hid (Whole (((w.alloc (.cells (sdC k a b) 29)).alloc (.cells #[.int .i64 s, .slice ao m c] 34)).alloc (.cells (sdC 0 0 0) 29)) w.heap.size 29 (sdC k a b) ∧ Whole (((w.alloc (.cells (sdC k a b) 29)).alloc (.cells #[.int .i64 s, .slice ao m c] 34)).alloc (.cells (sdC 0 0 0) 29)) (w.heap.size + 1) 34 #[.int .i64 s, .slice ao m c] ∧ Whole (((w.alloc (.cells (sdC k a b) 29)).alloc (.cells #[.int .i64 s, .slice ao m c] 34)).alloc (.cells (sdC 0 0 0) 29)) (w.heap.size + 1 + 1) 29 (sdC 0 0 0) ∧ Below w.heap.size w (((w.alloc (.cells (sdC k a b) 29)).alloc (.cells #[.int .i64 s, .slice ao m c] 34)).alloc (.cells (sdC 0 0 0) 29))) := Lib.hid ⟨((Whole.made _ _ _).alloc _).alloc _, (Whole.made2 _ _ _ _).alloc _, by simpa using Whole.made2 (w.alloc _) _ _ _, (by repeat (first | with_reducible exact Below.refl _ _ | with_reducible exact HBL | with_reducible refine Below.drew ?_ | with_reducible refine Bel_drewN ?_ _ | with_reducible refine Below.alloc ?_ (by first | omega | (simp; done) | (simp; omega)) _ | with_reducible refine Below.setCell ?_ (by first | omega | (simp; done) | (simp; omega)) _))⟩
  clear hx h hm
  obtain ⟨vs, hvs⟩ : ∃ v, vSeed k a b = v := ⟨_, rfl⟩
  have HV := Lib.hid hvs
  go_enter Try.func26, Try.ntmps26
  go_wp2_with (first | (go_at_call 62; fail))
  refine (l02Is_any _ _ _ _ _ H0.out.1).mono ?_
  rintro e w1 ⟨rfl, rfl⟩
  rw [hvs]
  clear hvs
  cases vs with
  | false =>
    go_wp2_with fail
    have HBL := H0.out.2.2.2
    exact bodyPost_ret (v := .tuple #[sd 0 0 0, .int .i64 0, .int .i64 0, .bool false]) (by simp [results, Try.results26, go_sem]) rfl ⟨rfl, (by repeat (first | with_reducible exact Below.refl _ _ | with_reducible exact HBL | with_reducible refine Below.drew ?_ | with_reducible refine Bel_drewN ?_ _ | with_reducible refine Below.alloc ?_ (by first | omega | (simp; done) | (simp; omega)) _ | with_reducible refine Below.setCell ?_ (by first | omega | (simp; done) | (simp; omega)) _))⟩
  | true =>
    go_wp2_with (first | (go_at_call 63; fail))
    refine (l07State_any _ _ ss m HX.out.2.1 _ c _ _ H0.out.2.1 (HX.out.1.below H0.out.2.2.2) hlen).mono ?_
    rintro e w2 ⟨bb, rfl, hbb, hb⟩
    have H2 := Lib.hid (And.intro (H0.out.2.1.below hb) (And.intro (H0.out.2.2.1.below hb) (And.intro (Bel_next H0.out.2.2.2 hb) hbb)))
    change Hid (_ ∧ _ ∧ _ ∧ _) at H2
    clear hbb hb
    obtain ⟨hc2, hf2⟩ := H2.out.2.1.facts
    have hz2 := H2.out.2.1.lt
    cases bb with
    | false =>
      go_wp2_with fail
      have HBL := H2.out.2.2.1
      exact bodyPost_ret (v := .tuple #[sd 0 0 0, .int .i64 0, .int .i64 0, .bool false]) (by simp [results, Try.results26, go_sem, hc2]) rfl ⟨rfl, (by repeat (first | with_reducible exact Below.refl _ _ | with_reducible exact HBL | with_reducible refine Below.drew ?_ | with_reducible refine Bel_drewN ?_ _ | with_reducible refine Below.alloc ?_ (by first | omega | (simp; done) | (simp; omega)) _ | with_reducible refine Below.setCell ?_ (by first | omega | (simp; done) | (simp; omega)) _))⟩
    | true =>
      clear hc2 hf2 hz2
      go_wp2_with (first | (go_at_call 63; fail))
      refine (l07State_any _ _ ss m HX.out.2.1 _ c _ _ H2.out.1 (HX.out.1.below H2.out.2.2.1) hlen).mono ?_
      rintro e w3 ⟨bb, rfl, hbb, hb⟩
      have H3 := Lib.hid (And.intro (H2.out.2.1.below hb) (And.intro (Bel_next H2.out.2.2.1 hb) hbb))
      change Hid (_ ∧ _ ∧ _) at H3
      clear hbb hb
      obtain ⟨hc2, hf2⟩ := H3.out.1.facts
      have hz2 := H3.out.1.lt
      cases bb with
      | false =>
        go_wp2_with fail
        have HBL := H3.out.2.1
        exact bodyPost_ret (v := .tuple #[sd 0 0 0, .int .i64 0, .int .i64 0, .bool false]) (by simp [results, Try.results26, go_sem, hc2]) rfl ⟨rfl, (by repeat (first | with_reducible exact Below.refl _ _ | with_reducible exact HBL | with_reducible refine Below.drew ?_ | with_reducible refine Bel_drewN ?_ _ | with_reducible refine Below.alloc ?_ (by first | omega | (simp; done) | (simp; omega)) _ | with_reducible refine Below.setCell ?_ (by first | omega | (simp; done) | (simp; omega)) _))⟩
      | true =>
        have hin : decide ((0 : Int) ≤ t ∧ t ≤ 512) = false := by
          have h1 := HX.out.2.2
          have h2 := H2.out.2.2.2.1 (by first | rfl | trivial)
          have h3 := H3.out.2.2.1 (by first | rfl | trivial)
          simp only [decide_eq_false_iff_not]
          exact fun h4 => h1 ⟨HV.out, h2, h3, h4⟩
        go_wp2_with (first | (go_at_call 64; refine (l00In_vc _ _ _ _ hin _).mono ?_; rintro e w' ⟨rfl, rfl⟩))
        have HBL := H3.out.2.1
        exact bodyPost_ret (v := .tuple #[sd 0 0 0, .int .i64 0, .int .i64 0, .bool false]) (by simp [results, Try.results26, go_sem, hc2]) rfl ⟨rfl, (by repeat (first | with_reducible exact Below.refl _ _ | with_reducible exact HBL | with_reducible refine Below.drew ?_ | with_reducible refine Bel_drewN ?_ _ | with_reducible refine Below.alloc ?_ (by first | omega | (simp; done) | (simp; omega)) _ | with_reducible refine Below.setCell ?_ (by first | omega | (simp; done) | (simp; omega)) _))⟩
/-- The walks can be begun. -/
def metC (k : Int) (a b : Nat) (s f g t : Int) (ss : List Nat) : Prop := vSeed k a b = true ∧ isState s ss f ∧ isState s ss g ∧ 0 ≤ t ∧ t ≤ 512
/-- They meet behind T shares. -/
def metAt (k : Int) (a b : Nat) (s f g t : Int) (ss : List Nat) (T : Nat) : Prop := metC k a b s f g t ss ∧ meetAt s.toNat ss k a b f.toNat g.toNat t.toNat T
/-- The state in which they meet. -/
def metS (k : Int) (a b : Nat) (s f g : Int) (ss : List Nat) (T : Nat) : Int := (atL s.toNat ss k a b [(f.toNat : Int), (g.toNat : Int)] T)[0]?.getD 0
theorem specMeet_is (k : Int) (a b : Nat) (s f g t : Int) (ss : List Nat) (T m c : Nat) (ao : Option Addr) (w : World) (ha : a < 18446744073709551616) (hb : b < 18446744073709551616) (hm : ss.length = m) (hx : Holds w ao (fl .f32 ss)) (h : metAt k a b s f g t ss T) :
    Calls Try.prog 26 #[sd k a b, .agg #[.int .i64 s, .slice ao m c], .int .i64 f, .int .i64 g, .int .i64 t] w (RetB (.tuple #[sd k (sdK k a b T).1 (sdK k a b T).2, .int .i64 (T : Nat), .int .i64 (metS k a b s f g ss T), .bool true]) w) := by
  unfold metS
  obtain ⟨⟨hv, hst, hsg, ht⟩, hT⟩ := h
  obtain ⟨n, i, rfl, rfl, hi, hC, e1, e2⟩ := hst.nat
  obtain ⟨n', j, e3, rfl, hj, _, e4, e5⟩ := hsg.nat
  obtain ⟨q, rfl⟩ : ∃ q : Nat, t = q := ⟨t.toNat, by omega⟩
  obtain ⟨bl, o, rfl⟩ := chain_at hC hx
  rw [e1, e2, e5, show ((q : Nat) : Int).toNat = q from rfl] at hT
  rw [e1, e2, e5]
  exact (specMeet_any k a b n i j q ss m c bl o w ⟨hv, ha, hb⟩ hi (by omega) (by omega) hC hm hx).mono fun e w' H => H.1 T hT
theorem specMeet_not (k : Int) (a b : Nat) (s f g t : Int) (ss : List Nat) (m c : Nat) (ao : Option Addr) (w : World) (ha : a < 18446744073709551616) (hb : b < 18446744073709551616) (hm : ss.length = m) (hx : Holds w ao (fl .f32 ss)) (hlen : m ≤ 1048576) (h : ¬∃ T, metAt k a b s f g t ss T) :
    Calls Try.prog 26 #[sd k a b, .agg #[.int .i64 s, .slice ao m c], .int .i64 f, .int .i64 g, .int .i64 t] w (RetB (.tuple #[sd 0 0 0, .int .i64 0, .int .i64 0, .bool false]) w) := by
  by_cases h0 : metC k a b s f g t ss
  · have h1 : ¬∃ T, meetAt s.toNat ss k a b f.toNat g.toNat t.toNat T := fun ⟨T, hT⟩ => h ⟨T, h0, hT⟩
    obtain ⟨hv, hst, hsg, ht⟩ := h0
    obtain ⟨n, i, rfl, rfl, hi, hC, e1, e2⟩ := hst.nat
    obtain ⟨n', j, e3, rfl, hj, _, e4, e5⟩ := hsg.nat
    obtain ⟨q, rfl⟩ : ∃ q : Nat, t = q := ⟨t.toNat, by omega⟩
    obtain ⟨bl, o, rfl⟩ := chain_at hC hx
    rw [e1, e2, e5, show ((q : Nat) : Int).toNat = q from rfl] at h1
    exact (specMeet_any k a b n i j q ss m c bl o w ⟨hv, ha, hb⟩ hi (by omega) (by omega) hC hm hx).mono fun e w' H => H.2 h1
  · exact specMeet_no k a b s f g t ss m c ao w hm hx hlen h0
theorem implMeet_is (k : Int) (a b : Nat) (s f g t : Int) (ss : List Nat) (T m c : Nat) (ao : Option Addr) (w : World) (ha : a < 18446744073709551616) (hb : b < 18446744073709551616) (hm : ss.length = m) (hx : Holds w ao (fl .f32 ss)) (hc : m ≤ c) (h : metAt k a b s f g t ss T) :
    Calls Try.prog 27 #[sd k a b, .agg #[.int .i64 s, .slice ao m c], .int .i64 f, .int .i64 g, .int .i64 t] w (RetB (.tuple #[sd k (sdK k a b T).1 (sdK k a b T).2, .int .i64 (T : Nat), .int .i64 (metS k a b s f g ss T), .bool true]) w) := by
  unfold metS
  obtain ⟨⟨hv, hst, hsg, ht⟩, hT⟩ := h
  obtain ⟨n, i, rfl, rfl, hi, hC, e1, e2⟩ := hst.nat
  obtain ⟨n', j, e3, rfl, hj, _, e4, e5⟩ := hsg.nat
  obtain ⟨q, rfl⟩ : ∃ q : Nat, t = q := ⟨t.toNat, by omega⟩
  obtain ⟨bl, o, rfl⟩ := chain_at hC hx
  rw [e1, e2, e5, show ((q : Nat) : Int).toNat = q from rfl] at hT
  rw [e1, e2, e5]
  exact (implMeet_any k a b n i j q ss m c bl o w ⟨hv, ha, hb⟩ hi (by omega) (by omega) hC hm hc hx).mono fun e w' H => H.1 T hT
theorem implMeet_not (k : Int) (a b : Nat) (s f g t : Int) (ss : List Nat) (m c : Nat) (ao : Option Addr) (w : World) (ha : a < 18446744073709551616) (hb : b < 18446744073709551616) (hm : ss.length = m) (hx : Holds w ao (fl .f32 ss)) (hlen : m ≤ 1048576) (hc : m ≤ c) (h : ¬∃ T, metAt k a b s f g t ss T) :
    Calls Try.prog 27 #[sd k a b, .agg #[.int .i64 s, .slice ao m c], .int .i64 f, .int .i64 g, .int .i64 t] w (RetB (.tuple #[sd 0 0 0, .int .i64 0, .int .i64 0, .bool false]) w) := by
  by_cases h0 : metC k a b s f g t ss
  · have h1 : ¬∃ T, meetAt s.toNat ss k a b f.toNat g.toNat t.toNat T := fun ⟨T, hT⟩ => h ⟨T, h0, hT⟩
    obtain ⟨hv, hst, hsg, ht⟩ := h0
    obtain ⟨n, i, rfl, rfl, hi, hC, e1, e2⟩ := hst.nat
    obtain ⟨n', j, e3, rfl, hj, _, e4, e5⟩ := hsg.nat
    obtain ⟨q, rfl⟩ : ∃ q : Nat, t = q := ⟨t.toNat, by omega⟩
    obtain ⟨bl, o, rfl⟩ := chain_at hC hx
    rw [e1, e2, e5, show ((q : Nat) : Int).toNat = q from rfl] at h1
    exact (implMeet_any k a b n i j q ss m c bl o w ⟨hv, ha, hb⟩ hi (by omega) (by omega) hC hm hc hx).mono fun e w' H => H.2 h1
  · exact implMeet_no k a b s f g t ss m c ao w hm hx hlen hc h0
end Go.Proofs.Ytgeomaeccalceaa
