/- Trees of sums: TreeSeed. -/
import Derived.Test.YthalameadedbmaaTw
import Derived.Test.YthalameadedbmaaBw
namespace Go.Proofs.Ythalameadedbmaa
open Go Go.RowKit
set_option linter.unusedVariables false

theorem sumR_mono {us : List Int} (h : leafs us) (a : Nat) : ∀ d, sumR us 0 a ≤ sumR us 0 (a + d)
  | 0 => Int.le_refl _
  | d + 1 => by
    have := sumR_mono h a d
    have h2 := (h (0 + (a + d))).1
    rw [← Nat.add_assoc, sumR_next]
    omega
theorem sumR_le {us : List Int} (h : leafs us) {a b : Nat} (hab : a ≤ b) : sumR us 0 a ≤ sumR us 0 b := by
  have := sumR_mono h a (b - a)
  rwa [show a + (b - a) = b by omega] at this
/-- The first index up to which there is more than x. -/
def atI (us : List Int) (x I : Nat) : Prop := I < us.length ∧ sumR us 0 I ≤ x ∧ (x : Int) < sumR us 0 (I + 1)
theorem atI_ex (us : List Int) (x : Nat) : ∀ m, m ≤ us.length → (x : Int) < sumR us 0 m → ∃ I, atI us x I
  | 0, _, h => by simp [sumR] at h; omega
  | m + 1, hm, h => by
    by_cases hx : (x : Int) < sumR us 0 m
    · exact atI_ex us x m (by omega) hx
    · exact ⟨m, by omega, by omega, h⟩
/-- What is drawn: the weights, their sum, the seed behind, the number, the index. -/
def tsC (k : Int) (a b : Nat) (ts : List Int) (A B I : Nat) : Prop :=
  ∃ (us : List Int) (n x : Nat), isLeafs us ∧ treeL us = ts ∧ sumR us 0 us.length = (n : Int) ∧ 1 ≤ n ∧ n ≤ 64000000 ∧ vSeed k a b = true ∧ belowO k a b n = some (A, B, x) ∧ atI us x I
theorem leafs_sum {us : List Int} (hu : isLeafs us) : ∃ n : Nat, sumR us 0 us.length = (n : Int) ∧ n ≤ 64000000 := by
  have := sumR_bd hu.2.2 0 us.length
  have h64 := hu.2.1
  exact ⟨(sumR us 0 us.length).toNat, by omega, by omega⟩
theorem tsC_no {k : Int} {a b : Nat} {us ts : List Int} {n : Nat} (h : ¬∃ A B I, tsC k a b ts A B I) (hu : isLeafs us) (e : treeL us = ts) (hn : sumR us 0 us.length = (n : Int)) (ha : a < 18446744073709551616) (hb : b < 18446744073709551616) (h1 : 1 ≤ n) (hv : vSeed k a b = true) : belowO k a b n = none := by
  cases hb : belowO k a b n with
  | none => rfl
  | some r =>
    obtain ⟨A, B, x⟩ := r
    exfalso
    have hx := (belowO_ok hb ⟨hv, ha, by assumption⟩ h1).2
    obtain ⟨m, hm, hm2⟩ := leafs_sum hu
    obtain ⟨I, hI⟩ := atI_ex us x us.length (Nat.le_refl _) (by omega)
    exact h ⟨A, B, I, us, n, x, hu, e, hn, h1, by omega, hv, hb, hI⟩
set_option maxRecDepth 100000 in
set_option maxHeartbeats 4000000 in
theorem specTreeSeed_yes (k : Int) (a b : Nat) (ts us : List Int) (ao : Option Addr) (c n A B x I : Nat) (w : World) (hx : Holds w ao (il ts)) (hl : ts.length ≤ 1048576) (hu : isLeafs us) (e : treeL us = ts) (hsum : sumR us 0 us.length = (n : Int)) (hn : 1 ≤ n) (hn2 : n ≤ 64000000) (hs : sOk k a b) (hb : belowO k a b n = some (A, B, x)) (hI : atI us x I) :
    Calls Try.prog 23 #[sd k a b, .slice ao ts.length c] w (RetB (.tuple #[sd k A B, .int .i64 (I : Int), .bool true]) w) := by
  have HX := Lib.hid hx
  have HS := Lib.hid hs
  have HB := Lib.hid hb
  have HI := Lib.hid hI
  have HSUM := Lib.hid hsum
  have HU := Lib.hid (And.intro hu e)
  have hl' : (ts.length : Int) ≤ 1048576 := by omega
  clear hx hu e hs hb hI hsum
  have p0 := Lib.hid ((Whole.made w 35 (sdC k a b)).alloc (.cells (sdC 0 0 0) 35))
  have p1 := Lib.hid (Whole.made2 w (.cells (sdC k a b) 35) 35 (sdC 0 0 0))
  go_enter Try.func23, Try.ntmps23
  go_wp2_with fail
  generalize hW : World.alloc (World.alloc _ _) _ = w0
  have hH : Below w.heap.size w w0 ∧ Whole w0 w.heap.size 35 (sdC k a b) ∧ Whole w0 (w.heap.size + 1) 35 (sdC 0 0 0) := by
    rw [← hW]
    exact ⟨(by repeat (first | with_reducible exact Below.refl _ _ | with_reducible exact HBL | with_reducible refine Below.drew ?_ | with_reducible refine Bel_drewN ?_ _ | with_reducible refine Below.alloc ?_ (by first | omega | (simp; done) | (simp; omega)) _ | with_reducible refine Below.setCell ?_ (by first | omega | (simp; done) | (simp; omega)) _)), p0.out, p1.out⟩
  have H0 := Lib.hid hH
  have hz0 := hH.2.2.lt
  clear hH hW p0 p1
  refine (l03Leaves_any ts ao c _ (HX.out.below H0.out.1) hl).mono ?_
  rintro e w1 (⟨vs, hvs, hvt, g, cc, rfl, hg, hrow, hbel⟩ | ⟨hno, _⟩)
  · obtain rfl : vs = us := treeL_inj hvs HU.out.1 (hvt.trans HU.out.2.symm)
    have q0 := H0.out.2.1.below hbel
    have q1 := H0.out.2.2.below hbel
    have H1 := Lib.hid (And.intro (Bel_next H0.out.1 hbel) (And.intro q0 (And.intro q1 hrow)))
    have HG := Lib.hid (Nat.lt_of_lt_of_le hz0 hg)
    have HVL := Lib.hid (tree_len hvt)
    clear hvs hvt hrow hbel hg q0 q1 H0
    go_wp2_with fail
    refine (l02Is_any _ _ _ _ _ H1.out.2.1).mono ?_
    rintro e w2 ⟨rfl, rfl⟩
    rw [HS.out.1]
    have hv1 : vs.length ≤ 64 := HU.out.1.2.1
    have HF := Lib.hid (l03First_any vs _ cc vs.length w1 ((H1.out.2.2.2.row (lo := g) (hi := w1.heap.size) (Nat.le_refl _) H1.out.2.2.2.lt).holds) HU.out.1.2.2 (Nat.le_refl _) hv1)
    rw [HSUM.out] at HF
    go_wp2_with fail
    have hcall := HF.out
    refine hcall.mono ?_
    rintro e w3 ⟨rfl, rfl⟩
    clear hcall
    have hn' : ¬ (n : Int) ≤ 0 := by omega
    go_wp2_with fail
    refine (l02Tried_some _ k a b n A B x _ HS.out (by omega) HB.out H1.out.2.1).mono ?_
    rintro e w3 ⟨rfl, r0, hgr⟩
    have r1 := H1.out.2.2.1.grown hgr (by simp)
    have r2 := H1.out.2.2.2.grown hgr (by have := HG.out; simp; omega)
    have HBL : Below w.heap.size w w3 := Below.grown H1.out.1 hgr H1.out.1.size (by simp)
    have H3 := Lib.hid (And.intro HBL (And.intro r0 (And.intro r1 r2)))
    clear HBL r0 r1 r2 hgr H1 HF
    go_wp2_with fail
    go_loop [12] (fun i => ∃ j : Nat, j ≤ I ∧ i = .int .i64 (j : Int)) (fun i => 100 - (intOf i).toNat)
    case atStart => exact ⟨0, Nat.zero_le _, rfl⟩
    case round =>
      obtain ⟨j, hj, rfl⟩ := hrel
      have hI1 := HI.out.1
      have hj64 : (j : Int) ≤ 64 := by omega
      have HF := Lib.hid (l03First_any vs _ cc (j + 1) w3 ((H3.out.2.2.2.row (lo := g) (hi := w3.heap.size) (Nat.le_refl _) H3.out.2.2.2.lt).holds) HU.out.1.2.2 (by omega) hv1)
      have HLE := Lib.hid (fun (h : j + 1 ≤ I) => Int.le_trans (sumR_le HU.out.1.2.2 h) HI.out.2.1)
      have HGT : Hid (j = I → (x : Int) < sumR vs 0 (j + 1)) := Lib.hid (fun h => by subst h; exact HI.out.2.2)
      generalize sumR vs 0 (j + 1) = T at *
      go_wp2_with fail
      have hcall := HF.out
      refine hcall.mono ?_
      rintro e w4 ⟨rfl, rfl⟩
      clear hcall
      by_cases hlt : j < I
      · have hle : T ≤ (x : Int) := HLE.out (by omega)
        go_wp2_with fail
        go_round
        case rel => exact ⟨j + 1, by omega, by go_num⟩
        case measure => simp [intOf]; omega
      · obtain rfl : j = I := by omega
        have hle : ¬ T ≤ (x : Int) := by have := HGT.out rfl; omega
        obtain ⟨HBL, r0, r1, r2⟩ := H3.out
        obtain ⟨hc0, hf0⟩ := r0.facts
        obtain ⟨hc1, hf1⟩ := r1.facts
        have hz30 := r0.lt
        have hz31 := r1.lt
        clear r0 r1 r2
        go_wp2_with fail
        exact bodyPost_ret (v := .tuple #[sd k A B, .int .i64 (j : Int), .bool true]) (by simp [results, Try.results23, go_sem, hc1]) rfl ⟨rfl, (by repeat (first | with_reducible exact Below.refl _ _ | with_reducible exact HBL | with_reducible refine Below.drew ?_ | with_reducible refine Bel_drewN ?_ _ | with_reducible refine Below.alloc ?_ (by first | omega | (simp; done) | (simp; omega)) _ | with_reducible refine Below.setCell ?_ (by first | omega | (simp; done) | (simp; omega)) _))⟩
  · exact absurd ⟨us, HU.out⟩ hno
set_option maxRecDepth 100000 in
set_option maxHeartbeats 4000000 in
theorem specTreeSeed_no (k : Int) (a b : Nat) (ts : List Int) (ao : Option Addr) (c : Nat) (w : World) (hx : Holds w ao (il ts)) (hl : ts.length ≤ 1048576) (ha : a < 18446744073709551616) (hb : b < 18446744073709551616) (h : ¬∃ A B I, tsC k a b ts A B I) :
    Calls Try.prog 23 #[sd k a b, .slice ao ts.length c] w (RetB (.tuple #[sd 0 0 0, .int .i64 0, .bool false]) w) := by
  have HX := Lib.hid hx
  have HN := Lib.hid h
  have hl' : (ts.length : Int) ≤ 1048576 := by omega
  clear hx h
  have p0 := Lib.hid ((Whole.made w 35 (sdC k a b)).alloc (.cells (sdC 0 0 0) 35))
  have p1 := Lib.hid (Whole.made2 w (.cells (sdC k a b) 35) 35 (sdC 0 0 0))
  go_enter Try.func23, Try.ntmps23
  go_wp2_with fail
  generalize hW : World.alloc (World.alloc _ _) _ = w0
  have hH : Below w.heap.size w w0 ∧ Whole w0 w.heap.size 35 (sdC k a b) ∧ Whole w0 (w.heap.size + 1) 35 (sdC 0 0 0) := by
    rw [← hW]
    exact ⟨(by repeat (first | with_reducible exact Below.refl _ _ | with_reducible exact HBL | with_reducible refine Below.drew ?_ | with_reducible refine Bel_drewN ?_ _ | with_reducible refine Below.alloc ?_ (by first | omega | (simp; done) | (simp; omega)) _ | with_reducible refine Below.setCell ?_ (by first | omega | (simp; done) | (simp; omega)) _)), p0.out, p1.out⟩
  have H0 := Lib.hid hH
  have hz0 := hH.2.2.lt
  clear hH hW p0 p1
  refine (l03Leaves_any ts ao c _ (HX.out.below H0.out.1) hl).mono ?_
  rintro e w1 (⟨vs, hvs, hvt, g, cc, rfl, hg, hrow, hbel⟩ | ⟨hno, rfl, hbel⟩)
  · have q0 := H0.out.2.1.below hbel
    have q1 := H0.out.2.2.below hbel
    have H1 := Lib.hid (And.intro (Bel_next H0.out.1 hbel) (And.intro q0 (And.intro q1 hrow)))
    have HVL := Lib.hid (tree_len hvt)
    have HU := Lib.hid (And.intro hvs hvt)
    clear hvs hvt hrow hbel hg q0 q1 H0
    cases hv : vSeed k a b with
    | false =>
      have HV := Lib.hid hv
      clear hv
      go_wp2_with fail
      refine (l02Is_any _ _ _ _ _ H1.out.2.1).mono ?_
      rintro e w2 ⟨rfl, rfl⟩
      rw [HV.out]
      obtain ⟨HBL, r0, r1, r2⟩ := H1.out
      obtain ⟨hc1, hf1⟩ := r1.facts
      have hz31 := r1.lt
      clear r0 r1 r2
      go_wp2_with fail
      exact bodyPost_ret (v := .tuple #[sd 0 0 0, .int .i64 0, .bool false]) (by simp [results, Try.results23, go_sem, hc1]) rfl ⟨rfl, (by repeat (first | with_reducible exact Below.refl _ _ | with_reducible exact HBL | with_reducible refine Below.drew ?_ | with_reducible refine Bel_drewN ?_ _ | with_reducible refine Below.alloc ?_ (by first | omega | (simp; done) | (simp; omega)) _ | with_reducible refine Below.setCell ?_ (by first | omega | (simp; done) | (simp; omega)) _))⟩
    | true =>
      have HV := Lib.hid hv
      clear hv
      obtain ⟨n, hn, hn2⟩ := leafs_sum HU.out.1
      have HSUM := Lib.hid hn
      clear hn
      go_wp2_with fail
      refine (l02Is_any _ _ _ _ _ H1.out.2.1).mono ?_
      rintro e w2 ⟨rfl, rfl⟩
      rw [HV.out]
      have hv1 : vs.length ≤ 64 := HU.out.1.2.1
      have HF := Lib.hid (l03First_any vs _ cc vs.length w1 ((H1.out.2.2.2.row (lo := g) (hi := w1.heap.size) (Nat.le_refl _) H1.out.2.2.2.lt).holds) HU.out.1.2.2 (Nat.le_refl _) hv1)
      rw [HSUM.out] at HF
      go_wp2_with fail
      have hcall := HF.out
      refine hcall.mono ?_
      rintro e w3 ⟨rfl, rfl⟩
      clear hcall HF
      by_cases hn1 : 1 ≤ n
      · have hn' : ¬ (n : Int) ≤ 0 := by omega
        have HB := Lib.hid (tsC_no HN.out HU.out.1 HU.out.2 HSUM.out ha hb hn1 HV.out)
        go_wp2_with fail
        refine (l02Tried_nil _ k a b n _ ⟨HV.out, ha, hb⟩ (by omega) HB.out H1.out.2.1).mono ?_
        rintro e w3 ⟨rfl, hgr⟩
        have r1 := H1.out.2.2.1.grown hgr (by simp)
        have HBL : Below w.heap.size w w3 := Below.grown H1.out.1 hgr H1.out.1.size (by simp)
        have H3 := Lib.hid HBL
        obtain ⟨hc1, hf1⟩ := r1.facts
        have hz31 := r1.lt
        clear HBL r1 hgr H1
        go_wp2_with fail
        have HBL := H3.out
        exact bodyPost_ret (v := .tuple #[sd 0 0 0, .int .i64 0, .bool false]) (by simp [results, Try.results23, go_sem, hc1]) rfl ⟨rfl, (by repeat (first | with_reducible exact Below.refl _ _ | with_reducible exact HBL | with_reducible refine Below.drew ?_ | with_reducible refine Bel_drewN ?_ _ | with_reducible refine Below.alloc ?_ (by first | omega | (simp; done) | (simp; omega)) _ | with_reducible refine Below.setCell ?_ (by first | omega | (simp; done) | (simp; omega)) _))⟩
      · obtain rfl : n = 0 := by omega
        obtain ⟨HBL, r0, r1, r2⟩ := H1.out
        obtain ⟨hc1, hf1⟩ := r1.facts
        have hz31 := r1.lt
        clear r0 r1 r2
        go_wp2_with fail
        exact bodyPost_ret (v := .tuple #[sd 0 0 0, .int .i64 0, .bool false]) (by simp [results, Try.results23, go_sem, hc1]) rfl ⟨rfl, (by repeat (first | with_reducible exact Below.refl _ _ | with_reducible exact HBL | with_reducible refine Below.drew ?_ | with_reducible refine Bel_drewN ?_ _ | with_reducible refine Below.alloc ?_ (by first | omega | (simp; done) | (simp; omega)) _ | with_reducible refine Below.setCell ?_ (by first | omega | (simp; done) | (simp; omega)) _))⟩
  · have q0 := H0.out.2.1.below hbel
    have q1 := H0.out.2.2.below hbel
    have H1 := Lib.hid (And.intro (Bel_next H0.out.1 hbel) (And.intro q0 q1))
    clear hbel q0 q1 H0
    go_wp2_with fail
    refine (l02Is_any _ _ _ _ _ H1.out.2.1).mono ?_
    rintro e w2 ⟨rfl, rfl⟩
    obtain ⟨HBL, r0, r1⟩ := H1.out
    obtain ⟨hc1, hf1⟩ := r1.facts
    have hz31 := r1.lt
    clear r0 r1
    cases vSeed k a b with
    | true =>
      go_wp2_with fail
      exact bodyPost_ret (v := .tuple #[sd 0 0 0, .int .i64 0, .bool false]) (by simp [results, Try.results23, go_sem, hc1]) rfl ⟨rfl, (by repeat (first | with_reducible exact Below.refl _ _ | with_reducible exact HBL | with_reducible refine Below.drew ?_ | with_reducible refine Bel_drewN ?_ _ | with_reducible refine Below.alloc ?_ (by first | omega | (simp; done) | (simp; omega)) _ | with_reducible refine Below.setCell ?_ (by first | omega | (simp; done) | (simp; omega)) _))⟩
    | false =>
      go_wp2_with fail
      exact bodyPost_ret (v := .tuple #[sd 0 0 0, .int .i64 0, .bool false]) (by simp [results, Try.results23, go_sem, hc1]) rfl ⟨rfl, (by repeat (first | with_reducible exact Below.refl _ _ | with_reducible exact HBL | with_reducible refine Below.drew ?_ | with_reducible refine Bel_drewN ?_ _ | with_reducible refine Below.alloc ?_ (by first | omega | (simp; done) | (simp; omega)) _ | with_reducible refine Below.setCell ?_ (by first | omega | (simp; done) | (simp; omega)) _))⟩
set_option maxRecDepth 100000 in
set_option maxHeartbeats 4000000 in
theorem implTreeSeed_yes (k : Int) (a b : Nat) (ts us : List Int) (ao : Option Addr) (c n A B x I : Nat) (w : World) (hx : Holds w ao (il ts)) (hl : ts.length ≤ 1048576) (hr : ∀ x ∈ ts, -9223372036854775808 ≤ x ∧ x ≤ 9223372036854775807) (hu : isLeafs us) (e : treeL us = ts) (hsum : sumR us 0 us.length = (n : Int)) (hn : 1 ≤ n) (hn2 : n ≤ 64000000) (hs : sOk k a b) (hb : belowO k a b n = some (A, B, x)) (hI : atI us x I) :
    Calls Try.prog 25 #[sd k a b, .slice ao ts.length c] w (RetB (.tuple #[sd k A B, .int .i64 (I : Int), .bool true]) w) := by
  have HX := Lib.hid hx
  have HS := Lib.hid hs
  have HB := Lib.hid hb
  have HI := Lib.hid hI
  have HSUM := Lib.hid hsum
  have HU := Lib.hid (And.intro hu e)
  have HR := Lib.hid hr
  have hl' : (ts.length : Int) ≤ 1048576 := by omega
  clear hx hu e hs hb hI hsum hr
  go_enter Try.func25, Try.ntmps25
  go_wp2_with fail
  generalize hW : World.alloc (World.alloc _ _) _ = w0
  have hH : Below w.heap.size w w0 ∧ Whole w0 w.heap.size 35 (sdC k a b) ∧ Whole w0 (w.heap.size + 1) 35 (sdC 0 0 0) := by
    rw [← hW]
    exact ⟨(by repeat (first | with_reducible exact Below.refl _ _ | with_reducible exact HBL | with_reducible refine Below.drew ?_ | with_reducible refine Bel_drewN ?_ _ | with_reducible refine Below.alloc ?_ (by first | omega | (simp; done) | (simp; omega)) _ | with_reducible refine Below.setCell ?_ (by first | omega | (simp; done) | (simp; omega)) _)), ((Whole.made w 35 (sdC k a b)).alloc _), (Whole.made2 w _ 35 (sdC 0 0 0))⟩
  have H0 := Lib.hid hH
  have hz0 := hH.2.2.lt
  clear hH hW
  refine (weightsOf_any ts ao c _ (HX.out.below H0.out.1) hl HR.out).mono ?_
  rintro e w1 (⟨_, rfl, hrow, hbel⟩ | ⟨hno, _⟩)
  · rw [led_is HU.out.1 HU.out.2] at hrow
    have q0 := H0.out.2.1.below hbel
    have q1 := H0.out.2.2.below hbel
    have HBL := Bel_next H0.out.1 hbel
    have hz1 : w0.heap.size < w1.heap.size := hrow.lt
    have H1 := Lib.hid (And.intro HBL (And.intro q0 (And.intro q1 hrow)))
    have HVL := Lib.hid (tree_len HU.out.2)
    have HT := Lib.hid (implTreeSum_yes ts us ao c ts.length w1 (HX.out.below HBL) hl HU.out.1 HU.out.2 (Nat.le_refl _) HR.out)
    rw [← HVL.out, HSUM.out, HVL.out] at HT
    clear HBL hrow hbel q0 q1 H0
    go_wp2_with fail
    have hcall := HT.out
    refine hcall.mono ?_
    rintro e w2 ⟨rfl, hb2⟩
    clear hcall HT
    have r0 := H1.out.2.1.below hb2
    have r1 := H1.out.2.2.1.below hb2
    have r2 := H1.out.2.2.2.below hb2
    have HBL := Bel_next H1.out.1 hb2
    have H2 := Lib.hid (And.intro HBL (And.intro r0 (And.intro r1 r2)))
    obtain ⟨hc0, hf0⟩ := r0.facts
    have hz20 := r0.lt
    have hz22 := r2.lt
    clear HBL r0 r1 r2 hb2 H1
    go_wp2_with fail
    refine (implBelow_some k a b n A B x _ HS.out (by omega) HB.out).mono ?_
    rintro e w3 ⟨rfl, hb3⟩
    have r0 := H2.out.2.1.below hb3
    have r1 := H2.out.2.2.1.below hb3
    have r2 := H2.out.2.2.2.below hb3
    have HBL := Bel_next H2.out.1 hb3
    have H3 := Lib.hid (And.intro HBL (And.intro r0 (And.intro r1 r2)))
    clear hc0 hf0
    obtain ⟨hc0, hf0⟩ := r0.facts
    have hz30 := r0.lt
    have hz31 := r1.lt
    have hz32 := r2.lt
    clear HBL r0 r1 r2 hb3 H2
    go_wp2_with fail
    generalize hW : World.setCell (World.setCell (World.setCell _ _ _) _ _) _ _ = w4
    have hH : Below w.heap.size w w4 ∧ Whole w4 w.heap.size 35 (sdC k A B) ∧ Whole w4 (w.heap.size + 1) 35 (sdC 0 0 0) ∧ RowAt w4 w0.heap.size 2 us := by
      obtain ⟨HBL, q0, q1, q2⟩ := H3.out
      rw [← hW]
      exact ⟨(by repeat (first | with_reducible exact Below.refl _ _ | with_reducible exact HBL | with_reducible refine Below.drew ?_ | with_reducible refine Bel_drewN ?_ _ | with_reducible refine Below.alloc ?_ (by first | omega | (simp; done) | (simp; omega)) _ | with_reducible refine Below.setCell ?_ (by first | omega | (simp; done) | (simp; omega)) _)), ((q0.put 0 _).put 1 _).put 2 _, ((q1.far (by first | omega | (simp; done) | (simp; omega)) _).far (by first | omega | (simp; done) | (simp; omega)) _).far (by first | omega | (simp; done) | (simp; omega)) _, ((q2.far (by first | omega | (simp; done) | (simp; omega)) _).far (by first | omega | (simp; done) | (simp; omega)) _).far (by first | omega | (simp; done) | (simp; omega)) _⟩
    have H4 := Lib.hid hH
    clear hc0 hf0 hz30 hz31 hz32
    have hz42 := hH.2.2.2.lt
    clear hH hW H3
    have h64 : ts.length ≤ 64 := by rw [← HVL.out]; exact HU.out.1.2.1
    have hx : (x : Int) < n := by have := (belowO_ok HB.out HS.out hn).2; omega
    go_loop [11, 12] (fun l i => ∃ j : Nat, j ≤ I ∧ i = .int .i64 (j : Int) ∧ l = .int .i64 ((x : Int) - sumR us 0 j)) (fun _ i => 100 - (intOf i).toNat)
    case atStart => exact ⟨0, Nat.zero_le _, rfl, by simp [sumR]⟩
    case round =>
      obtain ⟨j, hj, rfl, rfl⟩ := hrel
      have hI1 := HI.out.1
      have hvl := HVL.out
      have hj64 : (j : Int) < ts.length := by omega
      have hc := H4.out.2.2.2.cell j (by omega)
      have HN := Lib.hid (sumR_next us 0 j)
      rw [Nat.zero_add] at HN
      have hb := HU.out.1.2.2 j
      have HLE := Lib.hid (fun (h : j + 1 ≤ I) => Int.le_trans (sumR_le HU.out.1.2.2 h) HI.out.2.1)
      have HLJ := Lib.hid (Int.le_trans (sumR_le HU.out.1.2.2 hj) HI.out.2.1)
      have HGT : Hid (j = I → (x : Int) < sumR us 0 (j + 1)) := Lib.hid (fun h => by subst h; exact HI.out.2.2)
      have hb0 := (sumR_bd HU.out.1.2.2 0 j).1
      generalize us[j]?.getD 0 = y at *
      rw [HN.out] at HLE HGT
      obtain ⟨L, hL⟩ : ∃ L, L = (x : Int) - sumR us 0 j := ⟨_, rfl⟩
      have HL := Lib.hid hL
      rw [← hL]
      have hL0 : 0 ≤ L := by have := HLJ.out; omega
      have hL1 : L ≤ 64000000 := by omega
      have hy0 := hb.1
      have hy1 := hb.2
      clear hb hb0 hL hvl
      by_cases hlt : j < I
      · have hle : y ≤ L := by have h1 := HLE.out (by omega); have h2 := HL.out; omega
        go_wp2_with fail
        go_round
        case rel => exact ⟨j + 1, by omega, by go_num, by rw [HN.out, HL.out]; congr 1; omega⟩
        case measure => simp [intOf]; omega
      · obtain rfl : j = I := by omega
        have hle : L < y := by have h1 := HGT.out rfl; have h2 := HL.out; omega
        obtain ⟨HBL, r0, r1, r2⟩ := H4.out
        obtain ⟨hc0, hf0⟩ := r0.facts
        obtain ⟨hc1, hf1⟩ := r1.facts
        have hz30 := r0.lt
        have hz31 := r1.lt
        clear r0 r1 r2
        go_wp2_with fail
        exact bodyPost_ret (v := .tuple #[sd k A B, .int .i64 (j : Int), .bool true]) (by simp [results, Try.results25, go_sem, hc1]) rfl ⟨rfl, (by repeat (first | with_reducible exact Below.refl _ _ | with_reducible exact HBL | with_reducible refine Below.drew ?_ | with_reducible refine Bel_drewN ?_ _ | with_reducible refine Below.alloc ?_ (by first | omega | (simp; done) | (simp; omega)) _ | with_reducible refine Below.setCell ?_ (by first | omega | (simp; done) | (simp; omega)) _))⟩
  · exact absurd ((isTree_iff HR.out).2 ⟨us, HU.out⟩) hno
set_option maxRecDepth 100000 in
set_option maxHeartbeats 4000000 in
theorem implTreeSeed_no (k : Int) (a b : Nat) (ts : List Int) (ao : Option Addr) (c : Nat) (w : World) (hx : Holds w ao (il ts)) (hl : ts.length ≤ 1048576) (hr : ∀ x ∈ ts, -9223372036854775808 ≤ x ∧ x ≤ 9223372036854775807) (ha : a < 18446744073709551616) (hb : b < 18446744073709551616) (h : ¬∃ A B I, tsC k a b ts A B I) :
    Calls Try.prog 25 #[sd k a b, .slice ao ts.length c] w (RetB (.tuple #[sd 0 0 0, .int .i64 0, .bool false]) w) := by
  have HX := Lib.hid hx
  have HR := Lib.hid hr
  have HN := Lib.hid h
  have hl' : (ts.length : Int) ≤ 1048576 := by omega
  clear hx h hr
  go_enter Try.func25, Try.ntmps25
  go_wp2_with fail
  generalize hW : World.alloc (World.alloc _ _) _ = w0
  have hH : Below w.heap.size w w0 ∧ Whole w0 w.heap.size 35 (sdC k a b) ∧ Whole w0 (w.heap.size + 1) 35 (sdC 0 0 0) := by
    rw [← hW]
    exact ⟨(by repeat (first | with_reducible exact Below.refl _ _ | with_reducible exact HBL | with_reducible refine Below.drew ?_ | with_reducible refine Bel_drewN ?_ _ | with_reducible refine Below.alloc ?_ (by first | omega | (simp; done) | (simp; omega)) _ | with_reducible refine Below.setCell ?_ (by first | omega | (simp; done) | (simp; omega)) _)), ((Whole.made w 35 (sdC k a b)).alloc _), (Whole.made2 w _ 35 (sdC 0 0 0))⟩
  have H0 := Lib.hid hH
  have hz0 := hH.2.2.lt
  clear hH hW
  refine (weightsOf_any ts ao c _ (HX.out.below H0.out.1) hl HR.out).mono ?_
  rintro e w1 (⟨hy, rfl, hrow, hbel⟩ | ⟨hno, rfl, hbel⟩)
  · obtain ⟨us, hu, he⟩ := (isTree_iff HR.out).1 hy
    have HVL := Lib.hid (tree_len he)
    have HU := Lib.hid (And.intro hu he)
    rw [led_is hu he] at hrow
    obtain ⟨n, hn, hn2⟩ := leafs_sum hu
    have HSUM := Lib.hid hn
    have q0 := H0.out.2.1.below hbel
    have q1 := H0.out.2.2.below hbel
    have HBL := Bel_next H0.out.1 hbel
    have H1 := Lib.hid (And.intro HBL (And.intro q0 (And.intro q1 hrow)))
    have HT := Lib.hid (implTreeSum_yes ts us ao c ts.length w1 (HX.out.below HBL) hl HU.out.1 HU.out.2 (Nat.le_refl _) HR.out)
    rw [← HVL.out, HSUM.out, HVL.out] at HT
    clear HBL hrow hbel q0 q1 H0 hy hu he hn
    go_wp2_with fail
    have hcall := HT.out
    refine hcall.mono ?_
    rintro e w2 ⟨rfl, hb2⟩
    clear hcall HT
    have r0 := H1.out.2.1.below hb2
    have r1 := H1.out.2.2.1.below hb2
    have HBL := Bel_next H1.out.1 hb2
    have H2 := Lib.hid (And.intro HBL (And.intro r0 r1))
    obtain ⟨hc0, hf0⟩ := r0.facts
    have hz20 := r0.lt
    clear HBL r0 r1 hb2 H1
    have HBN : Hid (∀ w : World, Calls Try.prog 65 #[sd k a b, .int .i64 n] w (RetB (.tuple #[sd 0 0 0, .int .i64 0, .bool false]) w)) := Lib.hid fun w => by
      by_cases hv : vSeed k a b = true ∧ 1 ≤ (n : Int) ∧ (n : Int) ≤ 4294967296
      · exact implBelow_nil k a b n w ⟨hv.1, ha, hb⟩ (by omega) (tsC_no HN.out HU.out.1 HU.out.2 HSUM.out ha hb (by omega) hv.1)
      · exact implBelow_no k a b n w hv
    go_wp2_with fail
    have hcall := HBN.out w2
    refine hcall.mono ?_
    rintro e w3 ⟨rfl, hb3⟩
    clear hcall HBN
    have r0 := H2.out.2.1.below hb3
    have r1 := H2.out.2.2.below hb3
    have HBL := Bel_next H2.out.1 hb3
    have H3 := Lib.hid HBL
    clear hc0 hf0
    obtain ⟨hc0, hf0⟩ := r0.facts
    obtain ⟨hc1, hf1⟩ := r1.facts
    have hz30 := r0.lt
    have hz31 := r1.lt
    clear HBL r0 r1 hb3 H2
    go_wp2_with fail
    have HBL := H3.out
    exact bodyPost_ret (v := .tuple #[sd 0 0 0, .int .i64 0, .bool false]) (by simp [results, Try.results25, go_sem, hc1]) rfl ⟨rfl, (by repeat (first | with_reducible exact Below.refl _ _ | with_reducible exact HBL | with_reducible refine Below.drew ?_ | with_reducible refine Bel_drewN ?_ _ | with_reducible refine Below.alloc ?_ (by first | omega | (simp; done) | (simp; omega)) _ | with_reducible refine Below.setCell ?_ (by first | omega | (simp; done) | (simp; omega)) _))⟩
  · have r1 := H0.out.2.2.below hbel
    have HBL := Bel_next H0.out.1 hbel
    have H3 := Lib.hid HBL
    obtain ⟨hc1, hf1⟩ := r1.facts
    have hz31 := r1.lt
    clear HBL r1 hbel H0
    go_wp2_with fail
    have HBL := H3.out
    exact bodyPost_ret (v := .tuple #[sd 0 0 0, .int .i64 0, .bool false]) (by simp [results, Try.results25, go_sem, hc1]) rfl ⟨rfl, (by repeat (first | with_reducible exact Below.refl _ _ | with_reducible exact HBL | with_reducible refine Below.drew ?_ | with_reducible refine Bel_drewN ?_ _ | with_reducible refine Below.alloc ?_ (by first | omega | (simp; done) | (simp; omega)) _ | with_reducible refine Below.setCell ?_ (by first | omega | (simp; done) | (simp; omega)) _))⟩
end Go.Proofs.Ythalameadedbmaa
