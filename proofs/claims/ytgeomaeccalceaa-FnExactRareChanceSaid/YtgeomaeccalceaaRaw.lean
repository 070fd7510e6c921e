/- RareChance, both sides. -/
import Derived.Test.YtgeomaeccalceaaRam
import Derived.Test.YtgeomaeccalceaaRac
namespace Go.Proofs.Ytgeomaeccalceaa
open Go Go.RowKit Fl Vag
set_option linter.unusedVariables false

/-- What the law asks: the chance can be told. -/
def rarC (k : Int) (a b : Nat) (s f q : Int) (ss : List Nat) (lv : List Int) : Prop := vSeed k a b = true ∧ canR s ss f lv q
noncomputable def rarR (k : Int) (a b : Nat) (s f q : Int) (ss : List Nat) (lv : List Int) : Nat × Nat × Option Nat := outF s.toNat ss k q.toNat lv a b [f.toNat] (some 1065353216)
set_option maxRecDepth 100000 in
set_option maxHeartbeats 4000000 in
theorem implRare_yes (k : Int) (a b n f q : Nat) (ss : List Nat) (lv : List Int) (m c bl o cl : Nat) (lo : Option Addr) (w : World) (hs : sOk k a b) (hcan : canR n ss f lv q) (hf : f < n) (hC : isChain n ss) (hm : ss.length = m) (hc : m ≤ c) (hx : Holds w (some ⟨bl, o, none⟩) (fl .f32 ss)) (hl : Holds w lo (il lv)) :
    Calls Try.prog 32 #[sd k a b, .agg #[.int .i64 n, .slice (some ⟨bl, o, none⟩) m c], .int .i64 f, .slice lo lv.length cl, .int .i64 q] w (RetF (fun r => .tuple #[sd k (outF n ss k q lv a b [f] (some 1065353216)).1 (outF n ss k q lv a b [f] (some 1065353216)).2.1, .float .f32 r, .bool true]) (outF n ss k q lv a b [f] (some 1065353216)).2.2 w) := by
  have HS := Lib.hid hs
  have HX := Lib.hid (And.intro hx (And.intro hC (And.intro hm (And.intro hc hl))))
  have HCAN := Lib.hid (And.intro hcan hf)
  have hn12 : n ≤ 12 := by have := hC.side; omega
  have hm2 : m ≤ 144 := by have := sq_le hn12; have := hC.lenN; omega
  have hl8 : lv.length ≤ 8 := hcan.2.1.2
  have hq64 : 1 ≤ q ∧ q ≤ 64 := by have := hcan.2.2.2; omega
  have HRC : Hid (∀ v : World, Holds v (some ⟨bl, o, none⟩) (fl .f32 ss) → Holds v lo (il lv) → Calls Try.prog 82 #[sd k a b, .agg #[.int .i64 n, .slice (some ⟨bl, o, none⟩) m c], .int .i64 f, .slice lo lv.length cl, .int .i64 q] v (RetF (fun r => .tuple #[sd k (outF n ss k q lv a b [f] (some 1065353216)).1 (outF n ss k q lv a b [f] (some 1065353216)).2.1, .float .f32 r]) (outF n ss k q lv a b [f] (some 1065353216)).2.2 v)) := Lib.hid (fun v h1 h2 => rareChance_any k a b n f q ss lv m c bl o cl lo v hs hf hq64 hC hm hc h1 h2 hl8)
  generalize (outF n ss k q lv a b [f] (some 1065353216)) = R at HRC ⊢
  have H0 : Hid (Whole (((w.alloc (.cells (sdC k a b) 29)).alloc (.cells #[.int .i64 n, .slice (some ⟨bl, o, none⟩) m c] 34)).alloc (.cells (sdC 0 0 0) 29)) w.heap.size 29 (sdC k a b) ∧ Whole (((w.alloc (.cells (sdC k a b) 29)).alloc (.cells #[.int .i64 n, .slice (some ⟨bl, o, none⟩) m c] 34)).alloc (.cells (sdC 0 0 0) 29)) (w.heap.size + 1) 34 #[.int .i64 n, .slice (some ⟨bl, o, none⟩) m c] ∧ Whole (((w.alloc (.cells (sdC k a b) 29)).alloc (.cells #[.int .i64 n, .slice (some ⟨bl, o, none⟩) m c] 34)).alloc (.cells (sdC 0 0 0) 29)) (w.heap.size + 1 + 1) 29 (sdC 0 0 0) ∧ Below w.heap.size w (((w.alloc (.cells (sdC k a b) 29)).alloc (.cells #[.int .i64 n, .slice (some ⟨bl, o, none⟩) m c] 34)).alloc (.cells (sdC 0 0 0) 29))) := Lib.hid ⟨((Whole.made _ _ _).alloc _).alloc _, (Whole.made2 _ _ _ _).alloc _, by simpa using Whole.made2 (w.alloc _) _ _ _, (by repeat (first | with_reducible exact Below.refl _ _ | with_reducible exact HBL | with_reducible refine Below.drew ?_ | with_reducible refine Bel_drewN ?_ _ | with_reducible refine Below.alloc ?_ (by first | omega | (simp; done) | (simp; omega)) _ | with_reducible refine Below.setCell ?_ (by first | omega | (simp; done) | (simp; omega)) _))⟩
  clear hs hx hC hm hc hl hcan hf
  go_enter Try.func32, Try.ntmps32
  go_wp2_with (first | (go_at_call 67; fail))
  refine (ValidSeed_B _ _ _ _ _ HS.out.1).mono ?_
  rintro e w1 ⟨rfl, hb⟩
  have H1 := Lib.hid (And.intro (H0.out.1.below hb) (And.intro (H0.out.2.1.below hb) (And.intro (H0.out.2.2.1.below hb) (Bel_next H0.out.2.2.2 hb))))
  change Hid (_ ∧ _ ∧ _ ∧ _) at H1
  clear hb H0
  obtain ⟨hc1, hf1⟩ := H1.out.2.1.facts
  have hz := H1.out.2.2.1.lt
  go_wp2_with (first | (go_at_call 81; fail))
  refine (canBeRare_any n f q ss lv m c cl _ lo _ HX.out.2.2.1 HX.out.2.2.2.1 (by omega) (HX.out.1.below H1.out.2.2.2) (HX.out.2.2.2.2.below H1.out.2.2.2) (by omega)).mono ?_
  rintro e w2 ⟨bb, rfl, hbb, hb⟩
  obtain rfl : bb = true := hbb.2 HCAN.out.1
  have H2 := Lib.hid (And.intro (H1.out.1.below hb) (And.intro (H1.out.2.1.below hb) (And.intro (H1.out.2.2.1.below hb) (Bel_next H1.out.2.2.2 hb))))
  change Hid (_ ∧ _ ∧ _ ∧ _) at H2
  clear hbb hb H1 hc1 hf1 hz
  obtain ⟨hc0, hf0⟩ := H2.out.1.facts
  obtain ⟨hc1, hf1⟩ := H2.out.2.1.facts
  have hz := H2.out.2.2.1.lt
  have hz1 := H2.out.2.1.lt
  go_wp2_with (first | (go_at_call 82; fail))
  refine (HRC.out _ (HX.out.1.below H2.out.2.2.2) (HX.out.2.2.2.2.below H2.out.2.2.2)).mono ?_
  rintro e w3 ⟨r, rfl, hr, hb⟩
  have H3 := Lib.hid (And.intro (H2.out.2.2.1.below hb) (And.intro (Bel_next H2.out.2.2.2 hb) hr))
  change Hid (_ ∧ _ ∧ _) at H3
  clear hb hr H2 hc0 hf0 hc1 hf1 hz hz1 HRC
  obtain ⟨hc2, hf2⟩ := H3.out.1.facts
  have hz := H3.out.1.lt
  go_wp2_with fail
  have HBL := H3.out.2.1
  exact bodyPost_ret (v := .tuple #[sd k R.1 R.2.1, .float .f32 r, .bool true]) (by simp [results, Try.results32, go_sem, hc2, hz]) rfl ⟨r, rfl, H3.out.2.2, (by repeat (first | with_reducible exact Below.refl _ _ | with_reducible exact HBL | with_reducible refine Below.drew ?_ | with_reducible refine Bel_drewN ?_ _ | with_reducible refine Below.alloc ?_ (by first | omega | (simp; done) | (simp; omega)) _ | with_reducible refine Below.setCell ?_ (by first | omega | (simp; done) | (simp; omega)) _))⟩
theorem implRare_no (k : Int) (a b : Nat) (s f q : Int) (ss : List Nat) (lv : List Int) (m c cl : Nat) (ao lo : Option Addr) (w : World) (hm : ss.length = m) (hc : m ≤ c) (hlen : m ≤ 1048576) (hx : Holds w ao (fl .f32 ss)) (hl : Holds w lo (il lv)) (hll : lv.length ≤ 1048576) (h : ¬rarC k a b s f q ss lv) :
    Calls Try.prog 32 #[sd k a b, .agg #[.int .i64 s, .slice ao m c], .int .i64 f, .slice lo lv.length cl, .int .i64 q] w (RetB (.tuple #[sd 0 0 0, .float .f32 0, .bool false]) w) := by
  have HX := Lib.hid (And.intro hx (And.intro hl (And.intro hm (And.intro hc h))))
  have H0 : Hid (Whole (((w.alloc (.cells (sdC k a b) 29)).alloc (.cells #[.int .i64 s, .slice ao m c] 34)).alloc (.cells (sdC 0 0 0) 29)) w.heap.size 29 (sdC k a b) ∧ Whole (((w.alloc (.cells (sdC k a b) 29)).alloc (.cells #[.int .i64 s, .slice ao m c] 34)).alloc (.cells (sdC 0 0 0) 29)) (w.heap.size + 1) 34 #[.int .i64 s, .slice ao m c] ∧ Whole (((w.alloc (.cells (sdC k a b) 29)).alloc (.cells #[.int .i64 s, .slice ao m c] 34)).alloc (.cells (sdC 0 0 0) 29)) (w.heap.size + 1 + 1) 29 (sdC 0 0 0) ∧ Below w.heap.size w (((w.alloc (.cells (sdC k a b) 29)).alloc (.cells #[.int .i64 s, .slice ao m c] 34)).alloc (.cells (sdC 0 0 0) 29))) := Lib.hid ⟨((Whole.made _ _ _).alloc _).alloc _, (Whole.made2 _ _ _ _).alloc _, by simpa using Whole.made2 (w.alloc _) _ _ _, (by repeat (first | with_reducible exact Below.refl _ _ | with_reducible exact HBL | with_reducible refine Below.drew ?_ | with_reducible refine Bel_drewN ?_ _ | with_reducible refine Below.alloc ?_ (by first | omega | (simp; done) | (simp; omega)) _ | with_reducible refine Below.setCell ?_ (by first | omega | (simp; done) | (simp; omega)) _))⟩
  clear hx hl hm hc h
  go_enter Try.func32, Try.ntmps32
  go_wp2_with (first | (go_at_call 67; fail))
  obtain ⟨vs, hvs⟩ : ∃ v, vSeed k a b = v := ⟨_, rfl⟩
  refine (ValidSeed_B _ _ _ _ _ hvs).mono ?_
  rintro e w1 ⟨rfl, hb⟩
  have H1 := Lib.hid (And.intro (H0.out.2.1.below hb) (And.intro (H0.out.2.2.1.below hb) (And.intro (Bel_next H0.out.2.2.2 hb) hvs)))
  change Hid (_ ∧ _ ∧ _ ∧ _) at H1
  clear hb H0 hvs
  obtain ⟨hc1, hf1⟩ := H1.out.1.facts
  obtain ⟨hc2, hf2⟩ := H1.out.2.1.facts
  have hz := H1.out.2.1.lt
  cases vs with
  | false =>
    go_wp2_with fail
    have HBL := H1.out.2.2.1
    exact bodyPost_ret (v := .tuple #[sd 0 0 0, .float .f32 0, .bool false]) (by simp [results, Try.results32, go_sem, hc2]) rfl ⟨rfl, (by repeat (first | with_reducible exact Below.refl _ _ | with_reducible exact HBL | with_reducible refine Below.drew ?_ | with_reducible refine Bel_drewN ?_ _ | with_reducible refine Below.alloc ?_ (by first | omega | (simp; done) | (simp; omega)) _ | with_reducible refine Below.setCell ?_ (by first | omega | (simp; done) | (simp; omega)) _))⟩
  | true =>
    go_wp2_with (first | (go_at_call 81; fail))
    refine (canBeRare_any s f q ss lv m c cl _ lo _ HX.out.2.2.1 HX.out.2.2.2.1 hlen (HX.out.1.below H1.out.2.2.1) (HX.out.2.1.below H1.out.2.2.1) hll).mono ?_
    rintro e w2 ⟨bb, rfl, hbb, hb⟩
    obtain rfl : bb = false := by
      cases bb with
      | false => rfl
      | true => exact absurd ⟨H1.out.2.2.2, hbb.1 rfl⟩ HX.out.2.2.2.2
    have H2 := Lib.hid (And.intro (H1.out.2.1.below hb) (Bel_next H1.out.2.2.1 hb))
    change Hid (_ ∧ _) at H2
    clear hb hbb hc1 hf1 hc2 hf2 hz
    obtain ⟨hc2, hf2⟩ := H2.out.1.facts
    have hz := H2.out.1.lt
    go_wp2_with fail
    have HBL := H2.out.2
    exact bodyPost_ret (v := .tuple #[sd 0 0 0, .float .f32 0, .bool false]) (by simp [results, Try.results32, go_sem, hc2]) rfl ⟨rfl, (by repeat (first | with_reducible exact Below.refl _ _ | with_reducible exact HBL | with_reducible refine Below.drew ?_ | with_reducible refine Bel_drewN ?_ _ | with_reducible refine Below.alloc ?_ (by first | omega | (simp; done) | (simp; omega)) _ | with_reducible refine Below.setCell ?_ (by first | omega | (simp; done) | (simp; omega)) _))⟩
set_option maxRecDepth 100000 in
set_option maxHeartbeats 4000000 in
theorem specRare_yes (k : Int) (a b n f q : Nat) (ss : List Nat) (lv : List Int) (m c bl o cl : Nat) (lo : Option Addr) (w : World) (hs : sOk k a b) (hcan : canR n ss f lv q) (hf : f < n) (hC : isChain n ss) (hm : ss.length = m) (hx : Holds w (some ⟨bl, o, none⟩) (fl .f32 ss)) (hl : Holds w lo (il lv)) :
    Calls Try.prog 30 #[sd k a b, .agg #[.int .i64 n, .slice (some ⟨bl, o, none⟩) m c], .int .i64 f, .slice lo lv.length cl, .int .i64 q] w (RetF (fun r => .tuple #[sd k (outF n ss k q lv a b [f] (some 1065353216)).1 (outF n ss k q lv a b [f] (some 1065353216)).2.1, .float .f32 r, .bool true]) (outF n ss k q lv a b [f] (some 1065353216)).2.2 w) := by
  have HS := Lib.hid hs
  have HX := Lib.hid (And.intro hx (And.intro hC (And.intro hm hl)))
  have HCAN := Lib.hid (And.intro hcan hf)
  have hn12 : n ≤ 12 := by have := hC.side; omega
  have hn1 : 1 ≤ n := by omega
  have hm2 : m ≤ 144 := by have := sq_le hn12; have := hC.lenN; omega
  have hl8 : lv.length ≤ 8 := hcan.2.1.2
  have hl1 : 1 ≤ lv.length := hcan.2.1.1
  have hq64 : 1 ≤ q ∧ q ≤ 64 := by have := hcan.2.2.2; omega
  have hbl := holds_lt hx (by rw [fl_len32, hC.lenN]; exact Nat.mul_pos hn1 hn1)
  have hlo : ∀ q, lo = some q → q.block < w.heap.size := fun q e => by
    obtain ⟨bb, oo, e', hcc⟩ := hl 0 (by rw [il_len]; omega)
    rw [e] at e'
    cases e'
    exact World.block_lt_of_cell? _ _ hcc
  have HRC : Hid (∀ v : World, w.heap.size < v.heap.size → Whole v w.heap.size 29 (sdC k a b) → Whole v (w.heap.size + 1) 34 #[.int .i64 n, .slice (some ⟨bl, o, none⟩) m c] → Holds v (some ⟨bl, o, none⟩) (fl .f32 ss) → Holds v lo (il lv) → Calls Try.prog 80 #[.pointer (some ⟨w.heap.size, 0, none⟩), .pointer (some ⟨w.heap.size + 1, 0, none⟩), .int .i64 f, .slice lo lv.length cl, .int .i64 q] v (fun e w' => ∃ r, e = .returned (.float .f32 r) ∧ Fv .f32 (outF n ss k q lv a b [f] (some 1065353216)).2.2 r ∧ Whole w' w.heap.size 29 (sdC k (outF n ss k q lv a b [f] (some 1065353216)).1 (outF n ss k q lv a b [f] (some 1065353216)).2.1) ∧ v.grownBy w' (some w.heap.size))) := Lib.hid (fun v h0 h1 h2 h3 h4 => l07Rare_any k a b n f q ss lv m c bl o cl w.heap.size (w.heap.size + 1) lo v hs h1 h2 (by omega) hf hq64 hC hm h3 (by omega) h4 (fun q e => by have := hlo q e; omega) hl8)
  generalize (outF n ss k q lv a b [f] (some 1065353216)) = R at HRC ⊢
  have H0 : Hid (Whole (((w.alloc (.cells (sdC k a b) 29)).alloc (.cells #[.int .i64 n, .slice (some ⟨bl, o, none⟩) m c] 34)).alloc (.cells (sdC 0 0 0) 29)) w.heap.size 29 (sdC k a b) ∧ Whole (((w.alloc (.cells (sdC k a b) 29)).alloc (.cells #[.int .i64 n, .slice (some ⟨bl, o, none⟩) m c] 34)).alloc (.cells (sdC 0 0 0) 29)) (w.heap.size + 1) 34 #[.int .i64 n, .slice (some ⟨bl, o, none⟩) m c] ∧ Whole (((w.alloc (.cells (sdC k a b) 29)).alloc (.cells #[.int .i64 n, .slice (some ⟨bl, o, none⟩) m c] 34)).alloc (.cells (sdC 0 0 0) 29)) (w.heap.size + 1 + 1) 29 (sdC 0 0 0) ∧ Below w.heap.size w (((w.alloc (.cells (sdC k a b) 29)).alloc (.cells #[.int .i64 n, .slice (some ⟨bl, o, none⟩) m c] 34)).alloc (.cells (sdC 0 0 0) 29))) := Lib.hid ⟨((Whole.made _ _ _).alloc _).alloc _, (Whole.made2 _ _ _ _).alloc _, by simpa using Whole.made2 (w.alloc _) _ _ _, (by repeat (first | with_reducible exact Below.refl _ _ | with_reducible exact HBL | with_reducible refine Below.drew ?_ | with_reducible refine Bel_drewN ?_ _ | with_reducible refine Below.alloc ?_ (by first | omega | (simp; done) | (simp; omega)) _ | with_reducible refine Below.setCell ?_ (by first | omega | (simp; done) | (simp; omega)) _))⟩
  clear hs hx hC hm hl hcan hf hlo
  go_enter Try.func30, Try.ntmps30
  go_wp2_with (first | (go_at_call 79; fail))
  refine (l07Can_any k a b n f q ss lv m c cl _ _ _ lo _ HX.out.2.2.1 (by omega) H0.out.1 H0.out.2.1 (HX.out.1.below H0.out.2.2.2) (HX.out.2.2.2.below H0.out.2.2.2) (by omega)).mono ?_
  rintro e w1 ⟨bb, rfl, hbb, hb⟩
  obtain rfl : bb = true := hbb.2 ⟨HS.out.1, HCAN.out.1⟩
  have H1 := Lib.hid (And.intro (H0.out.1.below hb) (And.intro (H0.out.2.1.below hb) (And.intro (H0.out.2.2.1.below hb) (Bel_next H0.out.2.2.2 hb))))
  change Hid (_ ∧ _ ∧ _ ∧ _) at H1
  clear hbb hb H0
  go_wp2_with (first | (go_at_call 80; fail))
  refine (HRC.out _ H1.out.1.lt H1.out.1 H1.out.2.1 (HX.out.1.below H1.out.2.2.2) (HX.out.2.2.2.below H1.out.2.2.2)).mono ?_
  rintro e w2 ⟨r, rfl, hr, r0, hg⟩
  have H2 := Lib.hid (And.intro r0 (And.intro (H1.out.2.2.1.grown hg (by simp; omega)) (And.intro (Below.grown H1.out.2.2.2 hg H1.out.2.2.2.size (by simp)) hr)))
  change Hid (_ ∧ _ ∧ _ ∧ _) at H2
  clear hr r0 hg H1 HRC
  obtain ⟨hc0, hf0⟩ := H2.out.1.facts
  obtain ⟨hc2, hf2⟩ := H2.out.2.1.facts
  have hz := H2.out.2.1.lt
  have hz0 := H2.out.1.lt
  go_wp2_with fail
  have HBL := H2.out.2.2.1
  exact bodyPost_ret (v := .tuple #[sd k R.1 R.2.1, .float .f32 r, .bool true]) (by simp [results, Try.results30, go_sem, hc2]) rfl ⟨r, rfl, H2.out.2.2.2, (by repeat (first | with_reducible exact Below.refl _ _ | with_reducible exact HBL | with_reducible refine Below.drew ?_ | with_reducible refine Bel_drewN ?_ _ | with_reducible refine Below.alloc ?_ (by first | omega | (simp; done) | (simp; omega)) _ | with_reducible refine Below.setCell ?_ (by first | omega | (simp; done) | (simp; omega)) _))⟩
theorem specRare_no (k : Int) (a b : Nat) (s f q : Int) (ss : List Nat) (lv : List Int) (m c cl : Nat) (ao lo : Option Addr) (w : World) (hm : ss.length = m) (hlen : m ≤ 1048576) (hx : Holds w ao (fl .f32 ss)) (hl : Holds w lo (il lv)) (hll : lv.length ≤ 1048576) (h : ¬rarC k a b s f q ss lv) :
    Calls Try.prog 30 #[sd k a b, .agg #[.int .i64 s, .slice ao m c], .int .i64 f, .slice lo lv.length cl, .int .i64 q] w (RetB (.tuple #[sd 0 0 0, .float .f32 0, .bool false]) w) := by
  have HX := Lib.hid (And.intro hx (And.intro hl (And.intro hm h)))
  have H0 : Hid (Whole (((w.alloc (.cells (sdC k a b) 29)).alloc (.cells #[.int .i64 s, .slice ao m c] 34)).alloc (.cells (sdC 0 0 0) 29)) w.heap.size 29 (sdC k a b) ∧ Whole (((w.alloc (.cells (sdC k a b) 29)).alloc (.cells #[.int .i64 s, .slice ao m c] 34)).alloc (.cells (sdC 0 0 0) 29)) (w.heap.size + 1) 34 #[.int .i64 s, .slice ao m c] ∧ Whole (((w.alloc (.cells (sdC k a b) 29)).alloc (.cells #[.int .i64 s, .slice ao m c] 34)).alloc (.cells (sdC 0 0 0) 29)) (w.heap.size + 1 + 1) 29 (sdC 0 0 0) ∧ Below w.heap.size w (((w.alloc (.cells (sdC k a b) 29)).alloc (.cells #[.int .i64 s, .slice ao m c] 34)).alloc (.cells (sdC 0 0 0) 29))) := Lib.hid ⟨((Whole.made _ _ _).alloc _).alloc _, (Whole.made2 _ _ _ _).alloc _, by simpa using Whole.made2 (w.alloc _) _ _ _, (by repeat (first | with_reducible exact Below.refl _ _ | with_reducible exact HBL | with_reducible refine Below.drew ?_ | with_reducible refine Bel_drewN ?_ _ | with_reducible refine Below.alloc ?_ (by first | omega | (simp; done) | (simp; omega)) _ | with_reducible refine Below.setCell ?_ (by first | omega | (simp; done) | (simp; omega)) _))⟩
  clear hx hl hm h
  go_enter Try.func30, Try.ntmps30
  go_wp2_with (first | (go_at_call 79; fail))
  refine (l07Can_any k a b s f q ss lv m c cl _ _ _ lo _ HX.out.2.2.1 hlen H0.out.1 H0.out.2.1 (HX.out.1.below H0.out.2.2.2) (HX.out.2.1.below H0.out.2.2.2) hll).mono ?_
  rintro e w1 ⟨bb, rfl, hbb, hb⟩
  obtain rfl : bb = false := by
    cases bb with
    | false => rfl
    | true => exact absurd (hbb.1 rfl) HX.out.2.2.2
  have H1 := Lib.hid (And.intro (H0.out.2.2.1.below hb) (Bel_next H0.out.2.2.2 hb))
  change Hid (_ ∧ _) at H1
  clear hbb hb H0
  obtain ⟨hc2, hf2⟩ := H1.out.1.facts
  have hz := H1.out.1.lt
  go_wp2_with fail
  have HBL := H1.out.2
  exact bodyPost_ret (v := .tuple #[sd 0 0 0, .float .f32 0, .bool false]) (by simp [results, Try.results30, go_sem, hc2]) rfl ⟨rfl, (by repeat (first | with_reducible exact Below.refl _ _ | with_reducible exact HBL | with_reducible refine Below.drew ?_ | with_reducible refine Bel_drewN ?_ _ | with_reducible refine Below.alloc ?_ (by first | omega | (simp; done) | (simp; omega)) _ | with_reducible refine Below.setCell ?_ (by first | omega | (simp; done) | (simp; omega)) _))⟩
theorem specRare_is (k : Int) (a b : Nat) (s f q : Int) (ss : List Nat) (lv : List Int) (m c cl : Nat) (ao lo : Option Addr) (w : World) (ha : a < 18446744073709551616) (hb : b < 18446744073709551616) (hm : ss.length = m) (hx : Holds w ao (fl .f32 ss)) (hl : Holds w lo (il lv)) (h : rarC k a b s f q ss lv) :
    Calls Try.prog 30 #[sd k a b, .agg #[.int .i64 s, .slice ao m c], .int .i64 f, .slice lo lv.length cl, .int .i64 q] w (RetF (fun r => .tuple #[sd k (rarR k a b s f q ss lv).1 (rarR k a b s f q ss lv).2.1, .float .f32 r, .bool true]) (rarR k a b s f q ss lv).2.2 w) := by
  obtain ⟨hv, hcan⟩ := h
  obtain ⟨n, i, rfl, rfl, hi, hC, e1, e2⟩ := hcan.1.nat
  obtain ⟨t, rfl⟩ : ∃ t : Nat, q = t := ⟨q.toNat, by have := hcan.2.2.2; omega⟩
  obtain ⟨bl, o, rfl⟩ := chain_at hC hx
  unfold rarR
  rw [e1, e2, show ((t : Nat) : Int).toNat = t from rfl]
  exact specRare_yes k a b n i t ss lv m c bl o cl lo w ⟨hv, ha, hb⟩ hcan hi hC hm hx hl
theorem specRare_not (k : Int) (a b : Nat) (s f q : Int) (ss : List Nat) (lv : List Int) (m c cl : Nat) (ao lo : Option Addr) (w : World) (hm : ss.length = m) (hlen : m ≤ 1048576) (hx : Holds w ao (fl .f32 ss)) (hl : Holds w lo (il lv)) (hll : lv.length ≤ 1048576) (h : ¬rarC k a b s f q ss lv) :
    Calls Try.prog 30 #[sd k a b, .agg #[.int .i64 s, .slice ao m c], .int .i64 f, .slice lo lv.length cl, .int .i64 q] w (RetF (fun r => .tuple #[sd 0 0 0, .float .f32 r, .bool false]) (av .f32 0) w) :=
  RetB.toF (f := fun r => .tuple #[sd 0 0 0, .float .f32 r, .bool false]) (specRare_no k a b s f q ss lv m c cl ao lo w hm hlen hx hl hll h) (by decide)
theorem implRare_is (k : Int) (a b : Nat) (s f q : Int) (ss : List Nat) (lv : List Int) (m c cl : Nat) (ao lo : Option Addr) (w : World) (ha : a < 18446744073709551616) (hb : b < 18446744073709551616) (hm : ss.length = m) (hc : m ≤ c) (hx : Holds w ao (fl .f32 ss)) (hl : Holds w lo (il lv)) (h : rarC k a b s f q ss lv) :
    Calls Try.prog 32 #[sd k a b, .agg #[.int .i64 s, .slice ao m c], .int .i64 f, .slice lo lv.length cl, .int .i64 q] w (RetF (fun r => .tuple #[sd k (rarR k a b s f q ss lv).1 (rarR k a b s f q ss lv).2.1, .float .f32 r, .bool true]) (rarR k a b s f q ss lv).2.2 w) := by
  obtain ⟨hv, hcan⟩ := h
  obtain ⟨n, i, rfl, rfl, hi, hC, e1, e2⟩ := hcan.1.nat
  obtain ⟨t, rfl⟩ : ∃ t : Nat, q = t := ⟨q.toNat, by have := hcan.2.2.2; omega⟩
  obtain ⟨bl, o, rfl⟩ := chain_at hC hx
  unfold rarR
  rw [e1, e2, show ((t : Nat) : Int).toNat = t from rfl]
  exact implRare_yes k a b n i t ss lv m c bl o cl lo w ⟨hv, ha, hb⟩ hcan hi hC hm hc hx hl
theorem implRare_not (k : Int) (a b : Nat) (s f q : Int) (ss : List Nat) (lv : List Int) (m c cl : Nat) (ao lo : Option Addr) (w : World) (hm : ss.length = m) (hc : m ≤ c) (hlen : m ≤ 1048576) (hx : Holds w ao (fl .f32 ss)) (hl : Holds w lo (il lv)) (hll : lv.length ≤ 1048576) (h : ¬rarC k a b s f q ss lv) :
    Calls Try.prog 32 #[sd k a b, .agg #[.int .i64 s, .slice ao m c], .int .i64 f, .slice lo lv.length cl, .int .i64 q] w (RetF (fun r => .tuple #[sd 0 0 0, .float .f32 r, .bool false]) (av .f32 0) w) :=
  RetB.toF (f := fun r => .tuple #[sd 0 0 0, .float .f32 r, .bool false]) (implRare_no k a b s f q ss lv m c cl ao lo w hm hc hlen hx hl hll h) (by decide)
end Go.Proofs.Ytgeomaeccalceaa
