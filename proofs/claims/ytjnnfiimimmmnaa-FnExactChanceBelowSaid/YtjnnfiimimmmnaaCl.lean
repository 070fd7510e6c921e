/- Chances of at most x. -/
import Derived.Test.YtjnnfiimimmmnaaBn
import Derived.Test.YtjnnfiimimmmnaaQu
namespace Go.Proofs.Ytjnnfiimimmmnaa
open Go Go.RowKit Fl Vag
set_option linter.unusedVariables false

/-- The sum of the chances of those of the first k values that are at most x. -/
def belK (vs cs : List Nat) (x : Nat) : Nat → Option Nat
  | 0 => some 0
  | k + 1 => if leB (vs[k]?.getD 0) x = true then aop .add .f32 (belK vs cs x k) (av .f32 (cs[k]?.getD 0)) else belK vs cs x k
theorem belK_yes {vs cs : List Nat} {x k : Nat} (h : leB (vs[k]?.getD 0) x = true) : belK vs cs x (k + 1) = aop .add .f32 (belK vs cs x k) (av .f32 (cs[k]?.getD 0)) := by
  show (if _ then _ else _) = _; rw [if_pos h]
theorem belK_no {vs cs : List Nat} {x k : Nat} (h : leB (vs[k]?.getD 0) x = false) : belK vs cs x (k + 1) = belK vs cs x k := by
  show (if _ then _ else _) = _; rw [if_neg (by rw [h]; exact Bool.false_ne_true)]
theorem belK_eq {vs cs : List Nat} {x c : Nat} (hm : cs.length = vs.length) (h : Upto vs x c) : ∀ k, k ≤ vs.length → belK vs cs x k = sumA .f32 (cs.take (min k c))
  | 0, _ => by simp [belK, sumA]
  | k + 1, hk => by
    by_cases e : k < c
    · rw [belK_yes (h.2.1 k e), belK_eq hm h k (by omega), show min k c = k by omega, show min (k + 1) c = k + 1 by omega, take_next cs k (by omega), sumA_snoc]
    · rw [belK_no (h.2.2 k (by omega) (by omega)), belK_eq hm h k (by omega), show min k c = c by omega, show min (k + 1) c = c by omega]
theorem belK_all {vs cs : List Nat} {x c : Nat} (hm : cs.length = vs.length) (h : Upto vs x c) : belK vs cs x vs.length = sumA .f32 (cs.take c) := by
  rw [belK_eq hm h _ (Nat.le_refl _), show min vs.length c = c by have := h.1; omega]
theorem upto_ex (vs : List Nat) (x : Nat) (hf : fins vs) (hu : ups vs) (hx : av .f32 x = some x) : ∃ c, Upto vs x c := by
  have key : ∀ n, n ≤ vs.length → ∃ c, c ≤ n ∧ (∀ j, j < c → leB (vs[j]?.getD 0) x = true) ∧ ∀ j, c ≤ j → j < n → leB (vs[j]?.getD 0) x = false := by
    intro n
    induction n with
    | zero => intro _; exact ⟨0, Nat.le_refl _, fun j hj => absurd hj (Nat.not_lt_zero _), fun j _ hj => absurd hj (Nat.not_lt_zero _)⟩
    | succ n ih =>
      intro hn
      obtain ⟨c, h1, h2, h3⟩ := ih (by omega)
      cases hl : leB (vs[n]?.getD 0) x with
      | false =>
        refine ⟨c, by omega, h2, fun j h4 h5 => ?_⟩
        by_cases e : j = n
        · subst e; exact hl
        · exact h3 j h4 (by omega)
      | true =>
        refine ⟨n + 1, Nat.le_refl _, fun j hj => ?_, fun j h4 h5 => by omega⟩
        by_cases e : j = n
        · subst e; exact hl
        · have h5 := vK_lt hf hu j n (by omega) (by omega)
          rw [leB_K (fin_at hf (by omega)) hx] at hl ⊢
          have := of_decide_eq_true hl
          exact decide_eq_true (by unfold vK at h5; omega)
  obtain ⟨c, h1, h2, h3⟩ := key vs.length (Nat.le_refl _)
  exact ⟨c, h1, h2, h3⟩
set_option maxRecDepth 100000 in
set_option maxHeartbeats 1000000 in
theorem l05Below_any (vs cs : List Nat) (x k : Nat) (ao bo : Option Addr) (c d g : Nat) (w : World) (hm : cs.length = vs.length) (hw : Whole w g 27 #[.slice ao vs.length c, .slice bo vs.length d]) (hx : Holds w ao (fl .f32 vs)) (hy : Holds w bo (fl .f32 cs)) (h64 : vs.length ≤ 64) (hk : Upto vs x k) :
    Calls Try.prog 62 #[.pointer (some ⟨g, 0, none⟩), .float .f32 x] w (Num .f32 (sumA .f32 (cs.take k)) w) := by
  have HX := Lib.hid (And.intro hx (And.intro hy hm))
  have HE := Lib.hid (belK_all hm hk)
  obtain ⟨hc0, hf0⟩ := hw.facts
  clear hx hy hm hw hk
  go_enter Try.func62, Try.ntmps62
  go_wp2
  go_loopw [5, 12] (fun s i wr => ∃ k : Nat, k ≤ vs.length ∧ i = .int .i64 k ∧ ∃ r n, s = .float .f32 r ∧ Fv .f32 (belK vs cs x k) r ∧ wr = w.drewN n) (fun _ i _ => vs.length - (intOf i).toNat)
  case atStart => exact ⟨0, Nat.zero_le _, rfl, 0, 0, rfl, Fv_zero _, rfl⟩
  case round =>
    obtain ⟨k, hk, rfl, r, n, rfl, hr, rfl⟩ := hrel
    have HR := Lib.hid hr
    clear hr
    by_cases hlt : k < vs.length
    · have hltc : k < cs.length := by rw [HX.out.2.2]; exact hlt
      obtain ⟨b, o, rfl, hc⟩ := HX.out.1 k (by simpa [fl] using hlt)
      obtain ⟨b', o', rfl, hc'⟩ := HX.out.2.1 k (by simpa [fl] using hltc)
      rw [fl_get _ _ _ hlt] at hc
      rw [fl_get _ _ _ hltc] at hc'
      have HY := Lib.hid (And.intro (@belK_yes vs cs x k) (@belK_no vs cs x k))
      generalize vs[k]?.getD 0 = z at hc HY
      generalize cs[k]?.getD 0 = y at hc' HY
      clear hltc
      cases hb : leB z x with
      | true =>
        have HB := Lib.hid hb
        have hb' := le_fact hb
        clear hb
        go_wp2_with (refine wpList_farith _ _ _ _ _ .f32 _ _ rfl rfl rfl ?_; intro r1 n1 hr1)
        go_roundw
        case rel => exact ⟨k + 1, by omega, by go_num, r1, _, rfl, by rw [HY.out.1 HB.out, ← HR.out.2]; exact hr1, rfl⟩
        case measure => simp [intOf]; omega
      | false =>
        have HB := Lib.hid hb
        have hb' := le_fact hb
        clear hb
        go_wp2
        go_roundw
        case rel => exact ⟨k + 1, by omega, by go_num, r, _, rfl, by rw [HY.out.2 HB.out]; exact HR.out, rfl⟩
        case measure => simp [intOf]; omega
    · obtain rfl : k = vs.length := by omega
      go_wp2
      go_ret
      exact ⟨r, n, rfl, by rw [← HE.out]; exact HR.out, rfl⟩
def chbC (vs cs : List Nat) (x k : Nat) : Prop := isShr vs cs ∧ finA .f32 (av .f32 x) = true ∧ Upto vs x k
theorem chbC_not {vs cs : List Nat} {x : Nat} (h : ¬ ∃ k, chbC vs cs x k) : ¬ (isShr vs cs ∧ finA .f32 (av .f32 x) = true) := fun ⟨h1, h2⟩ => by
  obtain ⟨k, hk⟩ := upto_ex vs x h1.2.2.1 h1.2.2.2.1 (fin_self h2)
  exact h ⟨k, h1, h2, hk⟩
set_option maxRecDepth 100000 in
set_option maxHeartbeats 1000000 in
theorem implChb_yes (vs cs : List Nat) (m : Nat) (hm : cs.length = m) (ao bo : Option Addr) (c d x k : Nat) (w : World) (hd : m ≤ d) (hx : Holds w ao (fl .f32 vs)) (hy : Holds w bo (fl .f32 cs)) (hC : chbC vs cs x k) :
    Calls Try.prog 28 #[.agg #[.slice ao vs.length c, .slice bo m d], .float .f32 x] w (RetF (fun r => .tuple #[.float .f32 r, .bool true]) (sumA .f32 (cs.take k)) w) := by
  have HX := Lib.hid (And.intro hx (And.intro hy hm))
  obtain rfl : m = vs.length := by have := hC.1.2.1; omega
  have h64 : vs.length ≤ 64 := hC.1.1
  have h1 := hC.1.pos
  have HC := Lib.hid hC
  clear hx hy hm hC
  go_enter Try.func28, Try.ntmps28
  go_wp2_with (first | (go_at_call 18; fail))
  generalize hW : World.alloc _ _ = w0
  have H0 : Hid (ShrBox w w0 ao bo vs.length c d) := Lib.hid (by rw [← hW]; exact ⟨Whole.made _ _ _, (by repeat (first | with_reducible exact Below.refl _ _ | with_reducible exact HBL | with_reducible refine Below.drew ?_ | with_reducible refine Bel_drewN ?_ _ | with_reducible refine Below.alloc ?_ (by first | omega | (simp; done) | (simp; omega)) _ | with_reducible refine Below.setCell ?_ (by first | omega | (simp; done) | (simp; omega)) _))⟩)
  clear hW
  refine ((implValidShare_any vs cs _ HX.out.2.2 ao bo c d _ (HX.out.1.below H0.out.2) (HX.out.2.1.below H0.out.2) (by omega) (by omega)).mono fun e w1 h => Bo.yes HC.out.1 h).mono ?_
  rintro e w1 ⟨rfl, hb⟩
  have H1 := Lib.hid (H0.out.below hb)
  clear hb H0
  go_wp2_with (first | (go_at_call 51; fail))
  refine (IsFinite_any _ _).mono ?_
  rintro e w' ⟨n, rfl, rfl⟩
  rw [HC.out.2.1]
  obtain ⟨hc0, hf0⟩ := H1.out.1.facts
  go_wp2_with (first | (go_at_call 63; fail))
  clear hc0 hf0
  refine (chanceUpTo_any vs cs x k ao bo c d _ HX.out.2.2 hd ((HX.out.1.below H1.out.2).drewN n) ((HX.out.2.1.below H1.out.2).drewN n) h64 h1 HC.out.1.2.2.1 HC.out.1.2.2.2.1 (fin_self HC.out.2.1) HC.out.2.2).mono ?_
  rintro e w2 ⟨r, rfl, hr, hb⟩
  have HB := Lib.hid (And.intro hr (Bel_next (Bel_drewN H1.out.2 n) hb))
  clear hr hb
  go_wp2
  go_ret2
  exact ⟨r, rfl, HB.out⟩
set_option maxRecDepth 100000 in
set_option maxHeartbeats 1000000 in
theorem implChb_no (vs cs : List Nat) (m : Nat) (hm : cs.length = m) (ao bo : Option Addr) (c d x : Nat) (w : World) (hx : Holds w ao (fl .f32 vs)) (hy : Holds w bo (fl .f32 cs)) (hlen : vs.length ≤ 1048576) (hml : m ≤ 1048576) (hN : ¬ (isShr vs cs ∧ finA .f32 (av .f32 x) = true)) :
    Calls Try.prog 28 #[.agg #[.slice ao vs.length c, .slice bo m d], .float .f32 x] w (RetB (.tuple #[.float .f32 0, .bool false]) w) := by
  have HX := Lib.hid (And.intro hx (And.intro hy hm))
  clear hx hy hm
  by_cases hS : isShr vs cs
  · have hp : finA .f32 (av .f32 x) = false := by
      cases h : finA .f32 (av .f32 x) with
      | false => rfl
      | true => exact absurd ⟨hS, h⟩ hN
    have HS := Lib.hid (And.intro hS hp)
    clear hS hN hp
    go_enter Try.func28, Try.ntmps28
    go_wp2_with (first | (go_at_call 18; fail))
    generalize hW : World.alloc _ _ = w0
    have H0 : Hid (Below w.heap.size w w0) := Lib.hid (by rw [← hW]; exact (by repeat (first | with_reducible exact Below.refl _ _ | with_reducible exact HBL | with_reducible refine Below.drew ?_ | with_reducible refine Bel_drewN ?_ _ | with_reducible refine Below.alloc ?_ (by first | omega | (simp; done) | (simp; omega)) _ | with_reducible refine Below.setCell ?_ (by first | omega | (simp; done) | (simp; omega)) _)))
    clear hW
    refine ((implValidShare_any vs cs _ HX.out.2.2 ao bo c d _ (HX.out.1.below H0.out) (HX.out.2.1.below H0.out) (by omega) (by omega)).mono fun e w1 h => Bo.yes HS.out.1 h).mono ?_
    rintro e w1 ⟨rfl, hb⟩
    have H1 := Lib.hid (Bel_next H0.out hb)
    clear hb H0
    go_wp2_with (first | (go_at_call 51; fail))
    refine (IsFinite_any _ _).mono ?_
    rintro e w' ⟨n, rfl, rfl⟩
    rw [HS.out.2]
    go_wp2
    go_ret2
    exact ⟨rfl, Bel_drewN H1.out _⟩
  · have HS := Lib.hid hS
    clear hS hN
    go_enter Try.func28, Try.ntmps28
    go_wp2_with (first | (go_at_call 18; fail))
    generalize hW : World.alloc _ _ = w0
    have H0 : Hid (Below w.heap.size w w0) := Lib.hid (by rw [← hW]; exact (by repeat (first | with_reducible exact Below.refl _ _ | with_reducible exact HBL | with_reducible refine Below.drew ?_ | with_reducible refine Bel_drewN ?_ _ | with_reducible refine Below.alloc ?_ (by first | omega | (simp; done) | (simp; omega)) _ | with_reducible refine Below.setCell ?_ (by first | omega | (simp; done) | (simp; omega)) _)))
    clear hW
    refine ((implValidShare_any vs cs _ HX.out.2.2 ao bo c d _ (HX.out.1.below H0.out) (HX.out.2.1.below H0.out) (by omega) (by omega)).mono fun e w1 h => Bo.no HS.out h).mono ?_
    rintro e w1 ⟨rfl, hb⟩
    have H1 := Lib.hid (Bel_next H0.out hb)
    clear hb H0
    go_wp2
    go_ret2
    exact ⟨rfl, H1.out⟩
set_option maxRecDepth 100000 in
set_option maxHeartbeats 1000000 in
theorem specChb_yes (vs cs : List Nat) (m : Nat) (hm : cs.length = m) (ao bo : Option Addr) (c d x k : Nat) (w : World) (hx : Holds w ao (fl .f32 vs)) (hy : Holds w bo (fl .f32 cs)) (hC : chbC vs cs x k) :
    Calls Try.prog 27 #[.agg #[.slice ao vs.length c, .slice bo m d], .float .f32 x] w (RetF (fun r => .tuple #[.float .f32 r, .bool true]) (sumA .f32 (cs.take k)) w) := by
  have HX := Lib.hid (And.intro hx (And.intro hy hm))
  obtain rfl : m = vs.length := by have := hC.1.2.1; omega
  have h64 : vs.length ≤ 64 := hC.1.1
  have HC := Lib.hid hC
  clear hx hy hm hC
  go_enter Try.func27, Try.ntmps27
  go_wp2_with (first | (go_at_call 49; fail))
  generalize hW : World.alloc _ _ = w0
  have H0 : Hid (ShrBox w w0 ao bo vs.length c d) := Lib.hid (by rw [← hW]; exact ⟨Whole.made _ _ _, (by repeat (first | with_reducible exact Below.refl _ _ | with_reducible exact HBL | with_reducible refine Below.drew ?_ | with_reducible refine Bel_drewN ?_ _ | with_reducible refine Below.alloc ?_ (by first | omega | (simp; done) | (simp; omega)) _ | with_reducible refine Below.setCell ?_ (by first | omega | (simp; done) | (simp; omega)) _))⟩)
  clear hW
  refine ((l05Is_any vs cs _ HX.out.2.2 ao bo c d _ _ H0.out.1 (HX.out.1.below H0.out.2) (HX.out.2.1.below H0.out.2) (by omega) (by omega)).mono fun e w1 h => BoD.yes HC.out.1 h).mono ?_
  rintro e w1 ⟨n, rfl, rfl⟩
  go_wp2_with (first | (go_at_call 61; fail))
  refine (l01Fin_is _ _ HC.out.2.1 _).mono ?_
  rintro e w' ⟨n2, rfl, rfl⟩
  go_wp2_with (first | (go_at_call 62; fail))
  have H1 := Lib.hid (H0.out.drewN (n + n2))
  refine (l05Below_any vs cs x k ao bo c d _ _ HX.out.2.2 H1.out.1 (HX.out.1.below H1.out.2) (HX.out.2.1.below H1.out.2) h64 HC.out.2.2).mono ?_
  rintro e w' ⟨r, n3, rfl, hr, rfl⟩
  have HR := Lib.hid hr
  clear hr
  go_wp2
  go_ret2
  exact ⟨r, rfl, HR.out, Bel_drewN H0.out.2 _⟩
set_option maxRecDepth 100000 in
set_option maxHeartbeats 1000000 in
theorem specChb_no (vs cs : List Nat) (m : Nat) (hm : cs.length = m) (ao bo : Option Addr) (c d x : Nat) (w : World) (hx : Holds w ao (fl .f32 vs)) (hy : Holds w bo (fl .f32 cs)) (hlen : vs.length ≤ 1048576) (hml : m ≤ 1048576) (hN : ¬ (isShr vs cs ∧ finA .f32 (av .f32 x) = true)) :
    Calls Try.prog 27 #[.agg #[.slice ao vs.length c, .slice bo m d], .float .f32 x] w (RetB (.tuple #[.float .f32 0, .bool false]) w) := by
  have HX := Lib.hid (And.intro hx (And.intro hy hm))
  clear hx hy hm
  by_cases hS : isShr vs cs
  · have hp : finA .f32 (av .f32 x) = false := by
      cases h : finA .f32 (av .f32 x) with
      | false => rfl
      | true => exact absurd ⟨hS, h⟩ hN
    have HS := Lib.hid (And.intro hS hp)
    clear hS hN hp
    go_enter Try.func27, Try.ntmps27
    go_wp2_with (first | (go_at_call 49; fail))
    generalize hW : World.alloc _ _ = w0
    have H0 : Hid (Whole w0 w.heap.size 27 #[.slice ao vs.length c, .slice bo m d] ∧ Below w.heap.size w w0) := Lib.hid (by rw [← hW]; exact ⟨Whole.made _ _ _, (by repeat (first | with_reducible exact Below.refl _ _ | with_reducible exact HBL | with_reducible refine Below.drew ?_ | with_reducible refine Bel_drewN ?_ _ | with_reducible refine Below.alloc ?_ (by first | omega | (simp; done) | (simp; omega)) _ | with_reducible refine Below.setCell ?_ (by first | omega | (simp; done) | (simp; omega)) _))⟩)
    clear hW
    refine ((l05Is_any vs cs _ HX.out.2.2 ao bo c d _ _ H0.out.1 (HX.out.1.below H0.out.2) (HX.out.2.1.below H0.out.2) (by omega) (by omega)).mono fun e w1 h => BoD.yes HS.out.1 h).mono ?_
    rintro e w1 ⟨n, rfl, rfl⟩
    go_wp2_with (first | (go_at_call 61; fail))
    refine (l01Fin_is _ _ HS.out.2 _).mono ?_
    rintro e w' ⟨n2, rfl, rfl⟩
    go_wp2
    go_ret2
    exact ⟨rfl, Bel_drewN H0.out.2 _⟩
  · have HS := Lib.hid hS
    clear hS hN
    go_enter Try.func27, Try.ntmps27
    go_wp2_with (first | (go_at_call 49; fail))
    generalize hW : World.alloc _ _ = w0
    have H0 : Hid (Whole w0 w.heap.size 27 #[.slice ao vs.length c, .slice bo m d] ∧ Below w.heap.size w w0) := Lib.hid (by rw [← hW]; exact ⟨Whole.made _ _ _, (by repeat (first | with_reducible exact Below.refl _ _ | with_reducible exact HBL | with_reducible refine Below.drew ?_ | with_reducible refine Bel_drewN ?_ _ | with_reducible refine Below.alloc ?_ (by first | omega | (simp; done) | (simp; omega)) _ | with_reducible refine Below.setCell ?_ (by first | omega | (simp; done) | (simp; omega)) _))⟩)
    clear hW
    refine ((l05Is_any vs cs _ HX.out.2.2 ao bo c d _ _ H0.out.1 (HX.out.1.below H0.out.2) (HX.out.2.1.below H0.out.2) (by omega) (by omega)).mono fun e w1 h => BoD.no HS.out h).mono ?_
    rintro e w1 ⟨n, rfl, rfl⟩
    go_wp2
    go_ret2
    exact ⟨rfl, Bel_drewN H0.out.2 _⟩
end Go.Proofs.Ytjnnfiimimmmnaa
