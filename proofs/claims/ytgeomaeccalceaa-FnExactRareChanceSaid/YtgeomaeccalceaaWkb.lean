/- WalkChain, both sides. -/
import Derived.Test.YtgeomaeccalceaaWka
import Derived.Test.YtgeomaeccalceaaWf
import Derived.Test.YtgeomaeccalceaaTl
namespace Go.Proofs.Ytgeomaeccalceaa
open Go Go.RowKit Fl Vag
set_option linter.unusedVariables false

/-- The state behind j steps. -/
def walkAt (n : Nat) (ss : List Nat) (k : Int) (a b f : Nat) : Nat → Nat
  | 0 => f
  | j + 1 => onF (rowA n (walkAt n ss k a b f j) ss) (shK k (sdK k a b j).1 (sdK k a b j).2) n 0 0
theorem walkAt_lt {n : Nat} {ss : List Nat} {k : Int} {a b f : Nat} (hf : f < n) : ∀ j, walkAt n ss k a b f j < n
  | 0 => hf
  | j + 1 => onF_lt (by omega) (by omega)
def walkL (n : Nat) (ss : List Nat) (k : Int) (a b f t : Nat) : List Int := (List.range (t + 1)).map fun j => (walkAt n ss k a b f j : Int)
theorem walkL_len (n : Nat) (ss : List Nat) (k : Int) (a b f t : Nat) : (walkL n ss k a b f t).length = t + 1 := by simp [walkL]
theorem walkL_next (n : Nat) (ss : List Nat) (k : Int) (a b f t : Nat) : walkL n ss k a b f (t + 1) = walkL n ss k a b f t ++ [(walkAt n ss k a b f (t + 1) : Int)] := by
  unfold walkL; rw [List.range_succ, List.map_append]; rfl
theorem own_one (w : World) (u : Value) (base : Nat) (e : TypeId) (hb : base ≤ w.heap.size) : (w.alloc (.cells #[u] e)).ownsRow base e 1 (.slice (some ⟨w.heap.size, 0, none⟩) 1 1) 1 [u] :=
  ⟨by simp, .inr ⟨w.heap.size, 1, #[u], rfl, hb, heap_alloc_new w _, Nat.le_refl _, by unfold maxLen; omega, rfl, by simp⟩⟩
theorem isChain.okAt {n : Nat} {ss : List Nat} (h : isChain n ss) {i : Nat} (hi : i < n) : okRow (rowA n i ss) := by have := h.rows i (by simpa using hi); simpa using this
theorem isChain.lenN {n : Nat} {ss : List Nat} (h : isChain n ss) : ss.length = n * n := by have := h.len; rw [← Int.natCast_mul] at this; omega
theorem own_typeX {w : World} {base n g : Nat} {e t : TypeId} {v : Value} {xs : List Value} {cs : Array Value} (h : w.ownsRow base e 1 v n xs) (hr : Whole w g t cs) (ht : t ≠ e) : some g ≠ v.ownBlock := by
  intro hg
  rcases h.2 with ⟨rfl, h0⟩ | ⟨g', cap, cur, rfl, _, hgg, _⟩
  · simp [Value.ownBlock] at hg
  · simp [Value.ownBlock] at hg
    subst hg
    unfold Whole at hr
    rw [hr] at hgg
    injection hgg with hgg
    injection hgg with _ h2
    exact ht h2
theorem own_typeX' {w : World} {base n g : Nat} {e t : TypeId} {v : Value} {xs : List Value} {cs : Array Value} (h : w.ownsRow base e 1 v n xs) (hr : Whole w g t cs) (ht : t ≠ e) : v.ownBlock = none ∨ v.ownBlock ≠ some g := .inr fun h' => own_typeX h hr ht h'.symm
theorem isState.nat {s f : Int} {ss : List Nat} (h : isState s ss f) : ∃ n i : Nat, s = n ∧ f = i ∧ i < n ∧ isChain n ss ∧ s.toNat = n ∧ f.toNat = i := by
  have h0 := h.1.side
  refine ⟨s.toNat, f.toNat, by omega, by have := h.2; omega, by have := h.2; omega, ?_, rfl, rfl⟩
  have : ((s.toNat : Nat) : Int) = s := by omega
  rw [this]; exact h.1
theorem chain_at {n : Nat} {ss : List Nat} (h : isChain n ss) {w : World} {ao : Option Addr} (hx : Holds w ao (fl .f32 ss)) : ∃ b o, ao = some ⟨b, o, none⟩ := hx.at (by rw [fl_len32, h.lenN]; have := h.side; exact Nat.mul_pos (by omega) (by omega))
theorem ValidSeed_B (k : Int) (a b : Nat) (v : Bool) (w : World) (hv : vSeed k a b = v) : Calls Try.prog 67 #[sd k a b] w (RetB (.bool v) w) :=
  (ValidSeed_any k a b w).mono fun e w' h => by
    obtain ⟨h1, h2⟩ := h
    subst h2
    exact ⟨by rw [h1, hv], (by repeat (first | with_reducible exact Below.refl _ _ | with_reducible exact HBL | with_reducible refine Below.drew ?_ | with_reducible refine Bel_drewN ?_ _ | with_reducible refine Below.alloc ?_ (by first | omega | (simp; done) | (simp; omega)) _ | with_reducible refine Below.setCell ?_ (by first | omega | (simp; done) | (simp; omega)) _))⟩
set_option maxRecDepth 100000 in
set_option maxHeartbeats 4000000 in
theorem specWalk_yes (k : Int) (a b n f t : Nat) (ss : List Nat) (m c bl o : Nat) (w : World) (hs : sOk k a b) (hf : f < n) (ht : t ≤ 512) (hC : isChain n ss) (hm : ss.length = m) (hx : Holds w (some ⟨bl, o, none⟩) (fl .f32 ss)) :
    Calls Try.prog 16 #[sd k a b, .agg #[.int .i64 n, .slice (some ⟨bl, o, none⟩) m c], .int .i64 f, .int .i64 t] w (RetL (t + 1) (il (walkL n ss k a b f t)) (fun s => .tuple #[sd k (sdK k a b t).1 (sdK k a b t).2, s, .bool true]) w) := by
  have HS := Lib.hid hs
  have HX := Lib.hid (And.intro hx (And.intro hC (And.intro hf hm)))
  have hn12 : n ≤ 12 := by have := hC.side; omega
  have hm2 : m ≤ 144 := by have := sq_le hn12; have := hC.lenN; omega
  have hin : decide ((0 : Int) ≤ (t : Int) ∧ (t : Int) ≤ 512) = true := by simp; omega
  have hnv : (n : Int) ≤ 12 := by omega
  have htv : (t : Int) ≤ 512 := by omega
  have HST : Hid (isState n ss f) := Lib.hid ⟨hC, by omega, by omega⟩
  have H0 : Hid (Whole (((w.alloc (.cells (sdC k a b) 29)).alloc (.cells #[.int .i64 n, .slice (some ⟨bl, o, none⟩) m c] 34)).alloc (.cells (sdC 0 0 0) 29)) w.heap.size 29 (sdC k a b) ∧ Whole (((w.alloc (.cells (sdC k a b) 29)).alloc (.cells #[.int .i64 n, .slice (some ⟨bl, o, none⟩) m c] 34)).alloc (.cells (sdC 0 0 0) 29)) (w.heap.size + 1) 34 #[.int .i64 n, .slice (some ⟨bl, o, none⟩) m c] ∧ Whole (((w.alloc (.cells (sdC k a b) 29)).alloc (.cells #[.int .i64 n, .slice (some ⟨bl, o, none⟩) m c] 34)).alloc (.cells (sdC 0 0 0) 29)) (w.heap.size + 1 + 1) 29 (sdC 0 0 0) ∧ Below w.heap.size w (((w.alloc (.cells (sdC k a b) 29)).alloc (.cells #[.int .i64 n, .slice (some ⟨bl, o, none⟩) m c] 34)).alloc (.cells (sdC 0 0 0) 29))) := Lib.hid ⟨((Whole.made _ _ _).alloc _).alloc _, (Whole.made2 _ _ _ _).alloc _, by simpa using Whole.made2 (w.alloc _) _ _ _, (by repeat (first | with_reducible exact Below.refl _ _ | with_reducible exact HBL | with_reducible refine Below.drew ?_ | with_reducible refine Bel_drewN ?_ _ | with_reducible refine Below.alloc ?_ (by first | omega | (simp; done) | (simp; omega)) _ | with_reducible refine Below.setCell ?_ (by first | omega | (simp; done) | (simp; omega)) _))⟩
  clear hs hx hC hf hm ht
  go_enter Try.func16, Try.ntmps16
  go_wp2_with (first | (go_at_call 62; fail))
  refine (l02Is_any _ _ _ _ _ H0.out.1).mono ?_
  rintro e w1 ⟨rfl, rfl⟩
  rw [HS.out.1]
  go_wp2_with (first | (go_at_call 63; fail))
  refine (l07State_any _ _ ss m HX.out.2.2.2 _ c _ _ H0.out.2.1 (HX.out.1.below H0.out.2.2.2) (by omega)).mono ?_
  rintro e w2 ⟨bb, rfl, hbb, hb⟩
  obtain rfl : bb = true := hbb.2 HST.out
  have H2 := Lib.hid (And.intro (H0.out.1.below hb) (And.intro (H0.out.2.1.below hb) (And.intro (H0.out.2.2.1.below hb) (Bel_next H0.out.2.2.2 hb))))
  change Hid (_ ∧ _ ∧ _ ∧ _) at H2
  clear hbb hb H0
  go_wp2_with (first | (go_at_call 64; refine (l00In_vc _ _ _ _ hin _).mono ?_; rintro e w' ⟨rfl, rfl⟩))
  have hz2 := H2.out.2.2.1.lt
  go_loopw [3, 11, 12] (fun st v nw wr => ∃ j : Nat, j ≤ t ∧ st = .int .i64 ((t : Int) - j) ∧ nw = .int .i64 (walkAt n ss k a b f j : Nat) ∧ wr.ownsRow (w.heap.size + 3) 2 1 v (j + 1) (il (walkL n ss k a b f j)) ∧ Whole wr w.heap.size 29 (sdC k (sdK k a b j).1 (sdK k a b j).2) ∧ Whole wr (w.heap.size + 1) 34 #[.int .i64 n, .slice (some ⟨bl, o, none⟩) m c] ∧ Whole wr (w.heap.size + 1 + 1) 29 (sdC 0 0 0) ∧ Below w.heap.size w wr) (fun st _ _ _ => (intOf st).toNat)
  case atStart =>
    exact ⟨0, Nat.zero_le _, by simp, rfl, own_one _ _ _ _ (by omega), H2.out.1.alloc _, H2.out.2.1.alloc _, H2.out.2.2.1.alloc _, Bel_next H2.out.2.2.2 (by repeat (first | with_reducible exact Below.refl _ _ | with_reducible exact HBL | with_reducible refine Below.drew ?_ | with_reducible refine Bel_drewN ?_ _ | with_reducible refine Below.alloc ?_ (by first | omega | (simp; done) | (simp; omega)) _ | with_reducible refine Below.setCell ?_ (by first | omega | (simp; done) | (simp; omega)) _))⟩
  case round =>
    obtain ⟨j, hj, rfl, rfl, hown, q0, q1, q2, hbel⟩ := hrel
    have H := Lib.hid (And.intro hown (And.intro q0 (And.intro q1 (And.intro q2 hbel))))
    change Hid (_ ∧ _ ∧ _ ∧ _ ∧ _) at H
    have hz := q2.lt
    obtain ⟨hc0, hf0⟩ := q0.facts
    obtain ⟨hc2, hf2⟩ := q2.facts
    have hj' : (j : Int) ≤ t := by omega
    clear hown q0 q1 q2 hbel H2
    by_cases hlt : j < t
    · have htest : (0 : Int) < (t : Int) - j := by omega
      have HJ := Lib.hid (HS.out.sdK j)
      have HWL := Lib.hid (walkAt_lt (ss := ss) (k := k) (a := a) (b := b) HX.out.2.2.1 j)
      clear hc0 hf0 hc2 hf2
      go_wp2_with (first | (go_at_call 65; fail))
      refine (l02Share_any _ _ _ _ _ HJ.out H.out.2.1).mono ?_
      rintro e w3 ⟨rfl, r0, hg⟩
      have H3 := Lib.hid (And.intro (H.out.1.kept hg (own_ne H.out.1 (by omega))) (And.intro r0 (And.intro (H.out.2.2.1.grown hg (by first | (simp; done) | (simp; omega))) (And.intro (H.out.2.2.2.1.grown hg (by first | (simp; done) | (simp; omega))) (Below.grown H.out.2.2.2.2 hg H.out.2.2.2.2.size (by simp))))))
      change Hid (_ ∧ _ ∧ _ ∧ _ ∧ _) at H3
      have HN : Hid (sdK k a b (j + 1) = (nxA k (sdK k a b j).1 (sdK k a b j).2, nxB k (sdK k a b j).1 (sdK k a b j).2) ∧ walkAt n ss k a b f (j + 1) = onF (rowA n (walkAt n ss k a b f j) ss) (shK k (sdK k a b j).1 (sdK k a b j).2) n 0 0) := Lib.hid ⟨rfl, rfl⟩
      clear r0 hg H
      go_wp2_with (first | (go_at_call 66; fail))
      refine (l07On_any ss n _ _ _ bl o m c _ H3.out.2.2.1 (HX.out.1.below H3.out.2.2.2.2) HWL.out hn12 (by rw [← HX.out.2.2.2]; exact HX.out.2.1.lenN) HX.out.2.2.2 (HX.out.2.1.okAt HWL.out)).mono ?_
      rintro e w4 ⟨rfl, hb⟩
      rw [← HN.out.2]
      have H4 := Lib.hid (And.intro (H3.out.1.kept (grown_below (row := none) hb) (by cases u11.ownBlock <;> simp)) (And.intro (H3.out.2.1.below hb) (And.intro (H3.out.2.2.1.below hb) (And.intro (H3.out.2.2.2.1.below hb) (Bel_next H3.out.2.2.2.2 hb)))))
      change Hid (_ ∧ _ ∧ _ ∧ _ ∧ _) at H4
      clear hb H3
      have hz4 := H4.out.2.2.2.1.lt
      go_wp2_with (at_builtin; refine wpList_app1 rfl _ _ 30 rfl (w.heap.size + 3) 2 (.int .i64 0) 8 Try.underlying30 (by kernel_rfl) rfl _ (j + 1) _ rfl (H4.out.1.alloc _) _ _ (.int .i64 (walkAt n ss k a b f (j + 1) : Nat)) rfl ?_ rfl ⟨by omega, by omega⟩ ?_ ?_)
      · simp
      · simp; omega
      · intro v' w' hown' hgr'
        have HBL := H4.out.2.2.2.2
        have hbel : Below w.heap.size w w' := Below.grown (w' := w') (show Below w.heap.size w (w4.alloc _) from (by repeat (first | with_reducible exact Below.refl _ _ | with_reducible exact HBL | with_reducible refine Below.drew ?_ | with_reducible refine Bel_drewN ?_ _ | with_reducible refine Below.alloc ?_ (by first | omega | (simp; done) | (simp; omega)) _ | with_reducible refine Below.setCell ?_ (by first | omega | (simp; done) | (simp; omega)) _))) hgr' (by simp; omega) (fun i hi => by have := own_ge H4.out.1 i hi; omega)
        have ho : w'.ownsRow (w.heap.size + 3) 2 1 v' (j + 1 + 1) (il (walkL n ss k a b f (j + 1))) := by rw [walkL_next, il, List.map_append]; exact hown'
        have H5 := Lib.hid (And.intro ho (And.intro ((H4.out.2.1.alloc _).grown hgr' (own_ne' H4.out.1 (by omega))) (And.intro ((H4.out.2.2.1.alloc _).grown hgr' (own_ne' H4.out.1 (by omega))) (And.intro ((H4.out.2.2.2.1.alloc _).grown hgr' (own_ne' H4.out.1 (by omega))) hbel))))
        change Hid (_ ∧ _ ∧ _ ∧ _ ∧ _) at H5
        clear hown' hgr' ho hbel HBL H4
        go_wp2_with fail
        go_roundw
        case rel => exact ⟨j + 1, by omega, by congr 1; omega, rfl, H5.out.1, by rw [HN.out.1]; exact H5.out.2.1, H5.out.2.2.1, H5.out.2.2.2.1, H5.out.2.2.2.2⟩
        case measure => simp [intOf]; omega
    · obtain rfl : j = t := by omega
      obtain ⟨ao, cc, rfl⟩ := own_form H.out.1
      have HR := Lib.hid (Row.of_own H.out.1)
      go_wp2_with fail
      have HBL := H.out.2.2.2.2
      exact bodyPost_ret (v := .tuple #[sd k (sdK k a b j).1 (sdK k a b j).2, .slice ao (j + 1) cc, .bool true]) (by simp [results, Try.results16, go_sem, hc2]) rfl ⟨ao, cc, rfl, by simpa using Row.wide (((HR.out.far (.inl (by first | omega | (simp; done) | (simp; omega))) _).far (.inl (by first | omega | (simp; done) | (simp; omega))) _).far (.inl (by first | omega | (simp; done) | (simp; omega))) _) (lo' := w.heap.size) (by omega) (Nat.le_refl _), (by repeat (first | with_reducible exact Below.refl _ _ | with_reducible exact HBL | with_reducible refine Below.drew ?_ | with_reducible refine Bel_drewN ?_ _ | with_reducible refine Below.alloc ?_ (by first | omega | (simp; done) | (simp; omega)) _ | with_reducible refine Below.setCell ?_ (by first | omega | (simp; done) | (simp; omega)) _))⟩
theorem specWalk_is (k : Int) (a b : Nat) (s f t : Int) (ss : List Nat) (m c : Nat) (ao : Option Addr) (w : World) (ha : a < 18446744073709551616) (hb : b < 18446744073709551616) (hm : ss.length = m) (hx : Holds w ao (fl .f32 ss)) (h : vSeed k a b = true ∧ isState s ss f ∧ 0 ≤ t ∧ t ≤ 512) :
    Calls Try.prog 16 #[sd k a b, .agg #[.int .i64 s, .slice ao m c], .int .i64 f, .int .i64 t] w (RetL (t.toNat + 1) (il (walkL s.toNat ss k a b f.toNat t.toNat)) (fun s => .tuple #[sd k (sdK k a b t.toNat).1 (sdK k a b t.toNat).2, s, .bool true]) w) := by
  obtain ⟨hv, hst, ht⟩ := h
  obtain ⟨n, i, rfl, rfl, hi, hC, e1, e2⟩ := hst.nat
  obtain ⟨q, rfl⟩ : ∃ q : Nat, t = q := ⟨t.toNat, by omega⟩
  obtain ⟨bl, o, rfl⟩ := chain_at hC hx
  rw [e1, e2, show ((q : Nat) : Int).toNat = q from rfl]
  exact specWalk_yes k a b n i q ss m c bl o w ⟨hv, ha, hb⟩ hi (by omega) hC hm hx
theorem specWalk_no (k : Int) (a b : Nat) (s f t : Int) (ss : List Nat) (m c : Nat) (ao : Option Addr) (w : World) (hm : ss.length = m) (hx : Holds w ao (fl .f32 ss)) (hlen : m ≤ 1048576) (h : ¬(vSeed k a b = true ∧ isState s ss f ∧ 0 ≤ t ∧ t ≤ 512)) :
    Calls Try.prog 16 #[sd k a b, .agg #[.int .i64 s, .slice ao m c], .int .i64 f, .int .i64 t] w (RetB (.tuple #[sd 0 0 0, .slice none 0 0, .bool false]) w) := by
  have HX := Lib.hid (And.intro hx (And.intro hm h))
  have H0 : Hid (Whole (((w.alloc (.cells (sdC k a b) 29)).alloc (.cells #[.int .i64 s, .slice ao m c] 34)).alloc (.cells (sdC 0 0 0) 29)) w.heap.size 29 (sdC k a b) ∧ Whole (((w.alloc (.cells (sdC k a b) 29)).alloc (.cells #[.int .i64 s, .slice ao m c] 34)).alloc (.cells (sdC 0 0 0) 29)) (w.heap.size + 1) 34 #[.int .i64 s, .slice ao m c] ∧ Whole (((w.alloc (.cells (sdC k a b) 29)).alloc (.cells #[.int .i64 s, .slice ao m c] 34)).alloc (.cells (sdC 0 0 0) 29)) (w.heap.size + 1 + 1) 29 (sdC 0 0 0) ∧ Below w.heap.size w (((w.alloc (.cells (sdC k a b) 29)).alloc (.cells #[.int .i64 s, .slice ao m c] 34)).alloc (.cells (sdC 0 0 0) 29))) := Lib.hid ⟨((Whole.made _ _ _).alloc _).alloc _, (Whole.made2 _ _ _ _).alloc _, by simpa using Whole.made2 (w.alloc _) _ _ _, (by repeat (first | with_reducible exact Below.refl _ _ | with_reducible exact HBL | with_reducible refine Below.drew ?_ | with_reducible refine Bel_drewN ?_ _ | with_reducible refine Below.alloc ?_ (by first | omega | (simp; done) | (simp; omega)) _ | with_reducible refine Below.setCell ?_ (by first | omega | (simp; done) | (simp; omega)) _))⟩
  clear hx h hm
  cases hv : vSeed k a b with
  | false =>
    go_enter Try.func16, Try.ntmps16
    go_wp2_with (first | (go_at_call 62; fail))
    refine (l02Is_any _ _ _ _ _ H0.out.1).mono ?_
    rintro e w1 ⟨rfl, rfl⟩
    rw [hv]
    go_wp2_with fail
    exact bodyPost_ret (v := .tuple #[sd 0 0 0, .slice none 0 0, .bool false]) (by simp [results, Try.results16, go_sem]) rfl ⟨rfl, (by repeat (first | with_reducible exact Below.refl _ _ | with_reducible exact HBL | with_reducible refine Below.drew ?_ | with_reducible refine Bel_drewN ?_ _ | with_reducible refine Below.alloc ?_ (by first | omega | (simp; done) | (simp; omega)) _ | with_reducible refine Below.setCell ?_ (by first | omega | (simp; done) | (simp; omega)) _))⟩
  | true =>
    have HV := Lib.hid hv
    go_enter Try.func16, Try.ntmps16
    go_wp2_with (first | (go_at_call 62; fail))
    refine (l02Is_any _ _ _ _ _ H0.out.1).mono ?_
    rintro e w1 ⟨rfl, rfl⟩
    rw [hv]
    clear hv
    go_wp2_with (first | (go_at_call 63; fail))
    refine (l07State_any _ _ ss m HX.out.2.1 _ c _ _ H0.out.2.1 (HX.out.1.below H0.out.2.2.2) hlen).mono ?_
    rintro e w2 ⟨bb, rfl, hbb, hb⟩
    have H2 := Lib.hid (And.intro (H0.out.2.2.1.below hb) (And.intro (Bel_next H0.out.2.2.2 hb) hbb))
    change Hid (_ ∧ _ ∧ _) at H2
    clear hbb hb
    obtain ⟨hc2, hf2⟩ := H2.out.1.facts
    have hz2 := H2.out.1.lt
    cases bb with
    | false =>
      go_wp2_with fail
      have HBL := H2.out.2.1
      exact bodyPost_ret (v := .tuple #[sd 0 0 0, .slice none 0 0, .bool false]) (by simp [results, Try.results16, go_sem, hc2]) rfl ⟨rfl, (by repeat (first | with_reducible exact Below.refl _ _ | with_reducible exact HBL | with_reducible refine Below.drew ?_ | with_reducible refine Bel_drewN ?_ _ | with_reducible refine Below.alloc ?_ (by first | omega | (simp; done) | (simp; omega)) _ | with_reducible refine Below.setCell ?_ (by first | omega | (simp; done) | (simp; omega)) _))⟩
    | true =>
      have hin : decide ((0 : Int) ≤ t ∧ t ≤ 512) = false := by
        have h1 := HX.out.2.2
        have h2 := H2.out.2.2.1 rfl
        simp only [decide_eq_false_iff_not]
        exact fun h3 => h1 ⟨HV.out, h2, h3⟩
      go_wp2_with (first | (go_at_call 64; refine (l00In_vc _ _ _ _ hin _).mono ?_; rintro e w' ⟨rfl, rfl⟩))
      have HBL := H2.out.2.1
      exact bodyPost_ret (v := .tuple #[sd 0 0 0, .slice none 0 0, .bool false]) (by simp [results, Try.results16, go_sem, hc2]) rfl ⟨rfl, (by repeat (first | with_reducible exact Below.refl _ _ | with_reducible exact HBL | with_reducible refine Below.drew ?_ | with_reducible refine Bel_drewN ?_ _ | with_reducible refine Below.alloc ?_ (by first | omega | (simp; done) | (simp; omega)) _ | with_reducible refine Below.setCell ?_ (by first | omega | (simp; done) | (simp; omega)) _))⟩
set_option maxRecDepth 100000 in
set_option maxHeartbeats 4000000 in
theorem implWalk_yes (k : Int) (a b n f t : Nat) (ss : List Nat) (m c bl o : Nat) (w : World) (hs : sOk k a b) (hf : f < n) (ht : t ≤ 512) (hC : isChain n ss) (hm : ss.length = m) (hc : m ≤ c) (hx : Holds w (some ⟨bl, o, none⟩) (fl .f32 ss)) :
    Calls Try.prog 19 #[sd k a b, .agg #[.int .i64 n, .slice (some ⟨bl, o, none⟩) m c], .int .i64 f, .int .i64 t] w (RetL (t + 1) (il (walkL n ss k a b f t)) (fun s => .tuple #[sd k (sdK k a b t).1 (sdK k a b t).2, s, .bool true]) w) := by
  have HS := Lib.hid hs
  have HX := Lib.hid (And.intro hx (And.intro hC (And.intro hf (And.intro hm hc))))
  have hn12 : n ≤ 12 := by have := hC.side; omega
  have hm2 : m ≤ 144 := by have := sq_le hn12; have := hC.lenN; omega
  have HMM : Hid (m = n * n) := Lib.hid (by rw [← hm]; exact hC.lenN)
  have hin : decide ((0 : Int) ≤ (t : Int) ∧ (t : Int) ≤ 512) = true := by simp; omega
  have hhas : decide ((0 : Int) ≤ (f : Int) ∧ (f : Int) < n) = true := by simp; omega
  have hnv : (n : Int) ≤ 12 := by omega
  have htv : (t : Int) ≤ 512 := by omega
  have H0 : Hid (Whole (((w.alloc (.cells (sdC k a b) 29)).alloc (.cells #[.int .i64 n, .slice (some ⟨bl, o, none⟩) m c] 34)).alloc (.cells (sdC 0 0 0) 29)) w.heap.size 29 (sdC k a b) ∧ Whole (((w.alloc (.cells (sdC k a b) 29)).alloc (.cells #[.int .i64 n, .slice (some ⟨bl, o, none⟩) m c] 34)).alloc (.cells (sdC 0 0 0) 29)) (w.heap.size + 1) 34 #[.int .i64 n, .slice (some ⟨bl, o, none⟩) m c] ∧ Whole (((w.alloc (.cells (sdC k a b) 29)).alloc (.cells #[.int .i64 n, .slice (some ⟨bl, o, none⟩) m c] 34)).alloc (.cells (sdC 0 0 0) 29)) (w.heap.size + 1 + 1) 29 (sdC 0 0 0) ∧ Below w.heap.size w (((w.alloc (.cells (sdC k a b) 29)).alloc (.cells #[.int .i64 n, .slice (some ⟨bl, o, none⟩) m c] 34)).alloc (.cells (sdC 0 0 0) 29))) := Lib.hid ⟨((Whole.made _ _ _).alloc _).alloc _, (Whole.made2 _ _ _ _).alloc _, by simpa using Whole.made2 (w.alloc _) _ _ _, (by repeat (first | with_reducible exact Below.refl _ _ | with_reducible exact HBL | with_reducible refine Below.drew ?_ | with_reducible refine Bel_drewN ?_ _ | with_reducible refine Below.alloc ?_ (by first | omega | (simp; done) | (simp; omega)) _ | with_reducible refine Below.setCell ?_ (by first | omega | (simp; done) | (simp; omega)) _))⟩
  clear hs hx hC hf hm ht hc
  go_enter Try.func19, Try.ntmps19
  go_wp2_with (first | (go_at_call 67; fail))
  refine (ValidSeed_B _ _ _ _ _ HS.out.1).mono ?_
  rintro e w1 ⟨rfl, hb⟩
  have H1 := Lib.hid (And.intro (H0.out.1.below hb) (And.intro (H0.out.2.1.below hb) (And.intro (H0.out.2.2.1.below hb) (Bel_next H0.out.2.2.2 hb))))
  change Hid (_ ∧ _ ∧ _ ∧ _) at H1
  clear hb H0
  obtain ⟨hc1, hf1⟩ := H1.out.2.1.facts
  have hz := H1.out.2.2.1.lt
  go_wp2_with (first | (go_at_call 68; fail))
  refine (implValidChain_any _ ss m HX.out.2.2.2.1 _ c _ (HX.out.1.below H1.out.2.2.2) (by omega) HX.out.2.2.2.2).mono ?_
  rintro e w2 ⟨bb, rfl, hbb, hb⟩
  obtain rfl : bb = true := hbb.2 HX.out.2.1
  have H2 := Lib.hid (And.intro (H1.out.1.below hb) (And.intro (H1.out.2.1.below hb) (And.intro (H1.out.2.2.1.below hb) (Bel_next H1.out.2.2.2 hb))))
  change Hid (_ ∧ _ ∧ _ ∧ _) at H2
  clear hbb hb H1 hc1 hf1 hz
  obtain ⟨hc1, hf1⟩ := H2.out.2.1.facts
  have hz := H2.out.2.2.1.lt
  go_wp2_with (first | (go_at_call 69; fail))
  clear hc1 hf1 hz
  refine (has_any _ _ _ _ _ true _ hhas).mono ?_
  rintro e w3 ⟨rfl, hb⟩
  have H3 := Lib.hid (And.intro (H2.out.1.below hb) (And.intro (H2.out.2.1.below hb) (And.intro (H2.out.2.2.1.below hb) (Bel_next H2.out.2.2.2 hb))))
  change Hid (_ ∧ _ ∧ _ ∧ _) at H3
  clear hb H2
  obtain ⟨hc0, hf0⟩ := H3.out.1.facts
  have hz := H3.out.2.2.1.lt
  go_wp2_with (first | (go_at_call 70; refine (wlen_any _ _ _ hin).mono ?_; rintro e w' ⟨rfl, rfl⟩))
  clear hc0 hf0
  generalize hW : World.alloc (World.alloc w3 _) _ = w4
  obtain ⟨gl, hgl⟩ : ∃ g, g = w3.heap.size := ⟨_, rfl⟩
  have H4 : Hid (w4.ownsRow (w.heap.size + 3) 2 1 (.slice (some ⟨gl, 0, none⟩) 1 1) 1 (il (walkL n ss k a b f 0)) ∧ Whole w4 (gl + 1) 99 (sdC k a b) ∧ Whole w4 (w.heap.size + 1) 34 #[.int .i64 n, .slice (some ⟨bl, o, none⟩) m c] ∧ Whole w4 (w.heap.size + 1 + 1) 29 (sdC 0 0 0) ∧ Below w.heap.size w w4 ∧ w.heap.size + 3 ≤ gl) := Lib.hid (by
    have HBL := H3.out.2.2.2
    rw [hgl, ← hW]
    exact ⟨(own_one _ _ _ _ (by omega)).alloc _, Whole.made2 _ _ _ _, (H3.out.2.1.alloc _).alloc _, (H3.out.2.2.1.alloc _).alloc _, (by repeat (first | with_reducible exact Below.refl _ _ | with_reducible exact HBL | with_reducible refine Below.drew ?_ | with_reducible refine Bel_drewN ?_ _ | with_reducible refine Below.alloc ?_ (by first | omega | (simp; done) | (simp; omega)) _ | with_reducible refine Below.setCell ?_ (by first | omega | (simp; done) | (simp; omega)) _)), by omega⟩)
  rw [← hgl]
  clear hW H3 hz hgl
  go_loopw [2, 12, 38] (fun nw v i wr => ∃ j : Nat, j ≤ t ∧ i = .int .i64 j ∧ nw = .int .i64 (walkAt n ss k a b f j : Nat) ∧ wr.ownsRow (w.heap.size + 3) 2 1 v (j + 1) (il (walkL n ss k a b f j)) ∧ Whole wr (gl + 1) 99 (sdC k (sdK k a b j).1 (sdK k a b j).2) ∧ Whole wr (w.heap.size + 1) 34 #[.int .i64 n, .slice (some ⟨bl, o, none⟩) m c] ∧ Whole wr (w.heap.size + 1 + 1) 29 (sdC 0 0 0) ∧ Below w.heap.size w wr ∧ w.heap.size + 3 ≤ gl) (fun _ _ i _ => t - (intOf i).toNat)
  case atStart => exact ⟨0, Nat.zero_le _, rfl, rfl, H4.out⟩
  case round =>
    obtain ⟨j, hj, rfl, rfl, hown, q0, q1, q2, hbel, hgl⟩ := hrel
    have H := Lib.hid (And.intro hown (And.intro q0 (And.intro q1 (And.intro q2 (And.intro hbel hgl)))))
    change Hid (_ ∧ _ ∧ _ ∧ _ ∧ _ ∧ _) at H
    have hz := q0.lt
    have hz2 := q2.lt
    have hj' : (j : Int) ≤ t := by omega
    by_cases hlt : j < t
    · have hlt' : (j : Int) < t := by omega
      have HJ := Lib.hid (HS.out.sdK j)
      have HWL := Lib.hid (walkAt_lt (ss := ss) (k := k) (a := a) (b := b) HX.out.2.2.1 j)
      have HN : Hid (sdK k a b (j + 1) = (nxA k (sdK k a b j).1 (sdK k a b j).2, nxB k (sdK k a b j).1 (sdK k a b j).2) ∧ walkAt n ss k a b f (j + 1) = onF (rowA n (walkAt n ss k a b f j) ss) (shK k (sdK k a b j).1 (sdK k a b j).2) n 0 0) := Lib.hid ⟨rfl, rfl⟩
      obtain ⟨hc1, hf1⟩ := q1.facts
      have hcK : Hid (∀ v : World, wr.grownBy v (some (gl + 1)) → (∀ i, v.cell? ⟨w.heap.size + 1, i, none⟩ = (#[.int .i64 n, .slice (some ⟨bl, o, none⟩) m c] : Array Value)[i]?) ∧ Below w.heap.size w v) := Lib.hid (fun v hg => ⟨(q1.grown hg (by simp; omega)).facts.1, Below.grown hbel hg hbel.size (by simp; omega)⟩)
      clear hown q0 q1 q2 hbel hgl H4
      go_wp2_with fail
      go_region_with (first
        | (go_at_call 72; refine (share_any _ _ _ _ _ HJ.out (by exact H.out.2.1)).mono ?_; rintro e w5 ⟨rfl, r0, hg⟩; have hk3 := (hcK.out _ (grown_trans (grown_drew (grown_refl _ _)) hg)).1)
        | (go_at_call 71; refine (goOn_any ss n _ _ bl o m c _ (HX.out.1.below (hcK.out _ (grown_trans (grown_drew (grown_refl _ _)) hg)).2) HWL.out hn12 HMM.out HX.out.2.2.2.1 HX.out.2.2.2.2).mono ?_; rintro e w6 ⟨rfl, hb⟩))
      all_goals
        have hgl' := H.out.2.2.2.2.2
        have hg' : wr.grownBy w5 (some (gl + 1)) := grown_trans (grown_drew (grown_refl _ _)) hg
        have H5 := Lib.hid (And.intro ((H.out.1.kept hg' (own_typeX' H.out.1 H.out.2.1 (by decide))).kept (grown_below (row := none) hb) (by cases u12.ownBlock <;> simp)) (And.intro (r0.below hb) (And.intro ((H.out.2.2.1.grown hg' (by simp; omega)).below hb) (And.intro ((H.out.2.2.2.1.grown hg' (by simp; omega)).below hb) (And.intro (Bel_next (hcK.out _ hg').2 hb) H.out.2.2.2.2.2)))))
        change Hid (_ ∧ _ ∧ _ ∧ _ ∧ _ ∧ _) at H5
        rw [← HN.out.2]
        clear hg hg' hb r0 hk3 hcK hc1 hf1 H hz hz2
        have hz := H5.out.2.2.2.1.lt
        go_wp2_with (at_builtin; refine wpList_app1 rfl _ _ 30 rfl (w.heap.size + 3) 2 (.int .i64 0) 8 Try.underlying30 (by kernel_rfl) rfl _ (j + 1) _ rfl (H5.out.1.alloc _) _ _ (.int .i64 (walkAt n ss k a b f (j + 1) : Nat)) rfl ?_ rfl ⟨by omega, by omega⟩ ?_ ?_)
        · simp
        · simp; omega
        · intro v' w' hown' hgr'
          have HBL := H5.out.2.2.2.2.1
          have hbel : Below w.heap.size w w' := Below.grown (w' := w') (show Below w.heap.size w (w6.alloc _) from (by repeat (first | with_reducible exact Below.refl _ _ | with_reducible exact HBL | with_reducible refine Below.drew ?_ | with_reducible refine Bel_drewN ?_ _ | with_reducible refine Below.alloc ?_ (by first | omega | (simp; done) | (simp; omega)) _ | with_reducible refine Below.setCell ?_ (by first | omega | (simp; done) | (simp; omega)) _))) hgr' (by simp; omega) (fun i hi => by have := own_ge H5.out.1 i hi; omega)
          have ho : w'.ownsRow (w.heap.size + 3) 2 1 v' (j + 1 + 1) (il (walkL n ss k a b f (j + 1))) := by rw [walkL_next, il, List.map_append]; exact hown'
          have H6 := Lib.hid (And.intro ho (And.intro ((H5.out.2.1.alloc _).grown hgr' (own_typeX H5.out.1 H5.out.2.1 (by decide))) (And.intro ((H5.out.2.2.1.alloc _).grown hgr' (own_ne' H5.out.1 (by omega))) (And.intro ((H5.out.2.2.2.1.alloc _).grown hgr' (own_ne' H5.out.1 (by omega))) (And.intro hbel H5.out.2.2.2.2.2)))))
          change Hid (_ ∧ _ ∧ _ ∧ _ ∧ _ ∧ _) at H6
          clear hown' hgr' ho hbel HBL H5
          go_wp2_with fail
          go_roundw
          case rel => exact ⟨j + 1, by omega, by go_num, rfl, H6.out.1, by rw [HN.out.1]; exact H6.out.2.1, H6.out.2.2⟩
          case measure => simp [intOf]; omega
    · obtain rfl : j = t := by omega
      obtain ⟨ao, cc, rfl⟩ := own_form H.out.1
      have HR := Lib.hid (Row.of_own H.out.1)
      obtain ⟨hc0, hf0⟩ := q0.facts
      obtain ⟨hc2, hf2⟩ := q2.facts
      clear hown q0 q1 q2 hbel hgl H4
      go_wp2_with fail
      have HBL := H.out.2.2.2.2.1
      exact bodyPost_ret (v := .tuple #[sd k (sdK k a b j).1 (sdK k a b j).2, .slice ao (j + 1) cc, .bool true]) (by simp [results, Try.results19, go_sem, hc2]) rfl ⟨ao, cc, rfl, by simpa using Row.wide (((HR.out.far (.inl (by first | omega | (simp; done) | (simp; omega))) _).far (.inl (by first | omega | (simp; done) | (simp; omega))) _).far (.inl (by first | omega | (simp; done) | (simp; omega))) _) (lo' := w.heap.size) (by omega) (Nat.le_refl _), (by repeat (first | with_reducible exact Below.refl _ _ | with_reducible exact HBL | with_reducible refine Below.drew ?_ | with_reducible refine Bel_drewN ?_ _ | with_reducible refine Below.alloc ?_ (by first | omega | (simp; done) | (simp; omega)) _ | with_reducible refine Below.setCell ?_ (by first | omega | (simp; done) | (simp; omega)) _))⟩
theorem implWalk_is (k : Int) (a b : Nat) (s f t : Int) (ss : List Nat) (m c : Nat) (ao : Option Addr) (w : World) (ha : a < 18446744073709551616) (hb : b < 18446744073709551616) (hm : ss.length = m) (hx : Holds w ao (fl .f32 ss)) (hc : m ≤ c) (h : vSeed k a b = true ∧ isState s ss f ∧ 0 ≤ t ∧ t ≤ 512) :
    Calls Try.prog 19 #[sd k a b, .agg #[.int .i64 s, .slice ao m c], .int .i64 f, .int .i64 t] w (RetL (t.toNat + 1) (il (walkL s.toNat ss k a b f.toNat t.toNat)) (fun s => .tuple #[sd k (sdK k a b t.toNat).1 (sdK k a b t.toNat).2, s, .bool true]) w) := by
  obtain ⟨hv, hst, ht⟩ := h
  obtain ⟨n, i, rfl, rfl, hi, hC, e1, e2⟩ := hst.nat
  obtain ⟨q, rfl⟩ : ∃ q : Nat, t = q := ⟨t.toNat, by omega⟩
  obtain ⟨bl, o, rfl⟩ := chain_at hC hx
  rw [e1, e2, show ((q : Nat) : Int).toNat = q from rfl]
  exact implWalk_yes k a b n i q ss m c bl o w ⟨hv, ha, hb⟩ hi (by omega) hC hm hc hx
theorem implWalk_no (k : Int) (a b : Nat) (s f t : Int) (ss : List Nat) (m c : Nat) (ao : Option Addr) (w : World) (hm : ss.length = m) (hx : Holds w ao (fl .f32 ss)) (hlen : m ≤ 1048576) (hc : m ≤ c) (h : ¬(vSeed k a b = true ∧ isState s ss f ∧ 0 ≤ t ∧ t ≤ 512)) :
    Calls Try.prog 19 #[sd k a b, .agg #[.int .i64 s, .slice ao m c], .int .i64 f, .int .i64 t] w (RetB (.tuple #[sd 0 0 0, .slice none 0 0, .bool false]) w) := by
  have HX := Lib.hid (And.intro hx (And.intro hm (And.intro hc h)))
  have H0 : Hid (Whole (((w.alloc (.cells (sdC k a b) 29)).alloc (.cells #[.int .i64 s, .slice ao m c] 34)).alloc (.cells (sdC 0 0 0) 29)) w.heap.size 29 (sdC k a b) ∧ Whole (((w.alloc (.cells (sdC k a b) 29)).alloc (.cells #[.int .i64 s, .slice ao m c] 34)).alloc (.cells (sdC 0 0 0) 29)) (w.heap.size + 1) 34 #[.int .i64 s, .slice ao m c] ∧ Whole (((w.alloc (.cells (sdC k a b) 29)).alloc (.cells #[.int .i64 s, .slice ao m c] 34)).alloc (.cells (sdC 0 0 0) 29)) (w.heap.size + 1 + 1) 29 (sdC 0 0 0) ∧ Below w.heap.size w (((w.alloc (.cells (sdC k a b) 29)).alloc (.cells #[.int .i64 s, .slice ao m c] 34)).alloc (.cells (sdC 0 0 0) 29))) := Lib.hid ⟨((Whole.made _ _ _).alloc _).alloc _, (Whole.made2 _ _ _ _).alloc _, by simpa using Whole.made2 (w.alloc _) _ _ _, (by repeat (first | with_reducible exact Below.refl _ _ | with_reducible exact HBL | with_reducible refine Below.drew ?_ | with_reducible refine Bel_drewN ?_ _ | with_reducible refine Below.alloc ?_ (by first | omega | (simp; done) | (simp; omega)) _ | with_reducible refine Below.setCell ?_ (by first | omega | (simp; done) | (simp; omega)) _))⟩
  clear hx h hm hc
  go_enter Try.func19, Try.ntmps19
  go_wp2_with (first | (go_at_call 67; fail))
  obtain ⟨vs, hvs⟩ : ∃ v, vSeed k a b = v := ⟨_, rfl⟩
  refine (ValidSeed_B _ _ _ _ _ hvs).mono ?_
  rintro e w1 ⟨rfl, hb⟩
  have H1 := Lib.hid (And.intro (H0.out.2.1.below hb) (And.intro (H0.out.2.2.1.below hb) (And.intro (Bel_next H0.out.2.2.2 hb) hvs)))
  change Hid (_ ∧ _ ∧ _ ∧ _) at H1
  clear hb H0 hvs
  obtain ⟨hc1, hf1⟩ := H1.out.1.facts
  obtain ⟨hc2, hf2⟩ := H1.out.2.1.facts
  have hz := H1.out.2.1.lt
  cases vs with
  | false =>
    go_wp2_with fail
    have HBL := H1.out.2.2.1
    exact bodyPost_ret (v := .tuple #[sd 0 0 0, .slice none 0 0, .bool false]) (by simp [results, Try.results19, go_sem, hc2]) rfl ⟨rfl, (by repeat (first | with_reducible exact Below.refl _ _ | with_reducible exact HBL | with_reducible refine Below.drew ?_ | with_reducible refine Bel_drewN ?_ _ | with_reducible refine Below.alloc ?_ (by first | omega | (simp; done) | (simp; omega)) _ | with_reducible refine Below.setCell ?_ (by first | omega | (simp; done) | (simp; omega)) _))⟩
  | true =>
    go_wp2_with (first | (go_at_call 68; fail))
    refine (implValidChain_any _ ss m HX.out.2.1 _ c _ (HX.out.1.below H1.out.2.2.1) hlen HX.out.2.2.1).mono ?_
    rintro e w2 ⟨bb, rfl, hbb, hb⟩
    have H2 := Lib.hid (And.intro (H1.out.1.below hb) (And.intro (H1.out.2.1.below hb) (And.intro (Bel_next H1.out.2.2.1 hb) hbb)))
    change Hid (_ ∧ _ ∧ _ ∧ _) at H2
    clear hb hbb hc1 hf1 hc2 hf2 hz
    obtain ⟨hc1, hf1⟩ := H2.out.1.facts
    obtain ⟨hc2, hf2⟩ := H2.out.2.1.facts
    have hz := H2.out.2.1.lt
    cases bb with
    | false =>
      go_wp2_with fail
      have HBL := H2.out.2.2.1
      exact bodyPost_ret (v := .tuple #[sd 0 0 0, .slice none 0 0, .bool false]) (by simp [results, Try.results19, go_sem, hc2]) rfl ⟨rfl, (by repeat (first | with_reducible exact Below.refl _ _ | with_reducible exact HBL | with_reducible refine Below.drew ?_ | with_reducible refine Bel_drewN ?_ _ | with_reducible refine Below.alloc ?_ (by first | omega | (simp; done) | (simp; omega)) _ | with_reducible refine Below.setCell ?_ (by first | omega | (simp; done) | (simp; omega)) _))⟩
    | true =>
      obtain ⟨vh, hvh⟩ : ∃ v, decide (0 ≤ f ∧ f < s) = v := ⟨_, rfl⟩
      go_wp2_with (first | (go_at_call 69; fail))
      refine (has_any _ _ _ _ _ _ _ hvh).mono ?_
      rintro e w3 ⟨rfl, hb⟩
      have H3 := Lib.hid (And.intro (H2.out.2.1.below hb) (And.intro (Bel_next H2.out.2.2.1 hb) hvh))
      change Hid (_ ∧ _ ∧ _) at H3
      clear hb hvh hc1 hf1 hc2 hf2 hz
      obtain ⟨hc2, hf2⟩ := H3.out.1.facts
      have hz := H3.out.1.lt
      cases vh with
      | false =>
        go_wp2_with fail
        have HBL := H3.out.2.1
        exact bodyPost_ret (v := .tuple #[sd 0 0 0, .slice none 0 0, .bool false]) (by simp [results, Try.results19, go_sem, hc2]) rfl ⟨rfl, (by repeat (first | with_reducible exact Below.refl _ _ | with_reducible exact HBL | with_reducible refine Below.drew ?_ | with_reducible refine Bel_drewN ?_ _ | with_reducible refine Below.alloc ?_ (by first | omega | (simp; done) | (simp; omega)) _ | with_reducible refine Below.setCell ?_ (by first | omega | (simp; done) | (simp; omega)) _))⟩
      | true =>
        have hin : decide ((0 : Int) ≤ t ∧ t ≤ 512) = false := by
          have h1 := HX.out.2.2.2
          have h2 := H2.out.2.2.2.1 (by first | rfl | trivial)
          have h3 := of_decide_eq_true H3.out.2.2
          simp only [decide_eq_false_iff_not]
          exact fun h4 => h1 ⟨H1.out.2.2.2, ⟨h2, h3⟩, h4⟩
        go_wp2_with (first | (go_at_call 70; refine (wlen_any _ _ _ hin).mono ?_; rintro e w' ⟨rfl, rfl⟩))
        have HBL := H3.out.2.1
        exact bodyPost_ret (v := .tuple #[sd 0 0 0, .slice none 0 0, .bool false]) (by simp [results, Try.results19, go_sem, hc2]) rfl ⟨rfl, (by repeat (first | with_reducible exact Below.refl _ _ | with_reducible exact HBL | with_reducible refine Below.drew ?_ | with_reducible refine Bel_drewN ?_ _ | with_reducible refine Below.alloc ?_ (by first | omega | (simp; done) | (simp; omega)) _ | with_reducible refine Below.setCell ?_ (by first | omega | (simp; done) | (simp; omega)) _))⟩
end Go.Proofs.Ytgeomaeccalceaa
