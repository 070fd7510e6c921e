/- A number between two others: the walks. -/
import Derived.Test.YtnofikeeobahjaaBt
namespace Go.Proofs.Ytnofikeeobahjaa
open Go Go.RowKit Fl
set_option linter.unusedVariables false

def btwC (k : Int) (a b x y : Nat) : Prop := vSeed k a b = true ∧ finA .f32 (aop .sub .f32 (av .f32 y) (av .f32 x)) = true ∧ ltB x y = true
noncomputable def btwR (k : Int) (a b x y : Nat) : Nat := match btwV x y (shK k a b) with
  | some c => if ltB c y = true then c else x
  | none => 0
theorem Fv_of32 {v : Option Nat} {r c : Nat} (h : Fv .f32 v r) (hv : v = some c) : r = c := av_eq (h.2.trans hv)
theorem btw_c {x y u r1 r2 r3 c : Nat} (h1 : Fv .f32 (aop .sub .f32 (av .f32 y) (av .f32 x)) r1) (h2 : Fv .f32 (aop .mul .f32 (av .f32 r1) (av .f32 u)) r2) (h3 : Fv .f32 (aop .add .f32 (av .f32 x) (av .f32 r2)) r3) (hv : btwV x y u = some c) : c = r3 := by
  refine (Fv_of32 h3 ?_).symm
  rw [h2.2, h1.2]; exact hv
theorem lt_ge {x y : Nat} (h : ltB x y = true) : (FloatKind.f32.format.order x y == some Ordering.gt || FloatKind.f32.format.order x y == some Ordering.eq) = false := by
  unfold ltB at h
  have : FloatKind.f32.format.order x y = some .lt := by simpa using h
  rw [this]; rfl
theorem num_order {x y : Nat} (hx : ∃ s m i, Ieee.single.read x = .number s m i) (hy : ∃ s m i, Ieee.single.read y = .number s m i) : geB x y = !ltB x y := by
  obtain ⟨s, m, i, hx⟩ := hx
  obtain ⟨t, n, j, hy⟩ := hy
  exact ge_not_lt (order_some (by rw [hx]; rfl) (by rw [hy]; rfl))

set_option maxRecDepth 100000 in
set_option maxHeartbeats 1000000 in
theorem implBtw_yes (k : Int) (a b x y : Nat) (w : World) (hs : sOk k a b) (hf : finA .f32 (aop .sub .f32 (av .f32 y) (av .f32 x)) = true) (hlt : ltB x y = true) :
    Calls Try.prog 23 #[sd k a b, .float .f32 x, .float .f32 y] w (RetB (.tuple #[sd k (nxA k a b) (nxB k a b), .float .f32 (btwR k a b x y), .bool true]) w) := by
  obtain ⟨um, ui, hu⟩ := read_shF _ (shK_lt (k := k) (a := a) (b := b) hs.kind)
  obtain ⟨c, hB⟩ := btw_of (u := shK k a b) hu hf hlt
  have HS := Lib.hid hs
  have HF := Lib.hid hf
  have HB := Lib.hid hB
  have HR : Hid (btwR k a b x y = if ltB c y = true then c else x) := Lib.hid (by unfold btwR; rw [hB.v])
  have hg := lt_ge hlt
  clear hs hf hlt hu hB
  go_enter Try.func23, Try.ntmps23
  go_wp2_with (first | (go_at_call 48; fail) | (refine wpList_farith _ _ _ _ _ .f32 _ _ rfl rfl rfl ?_; intro r1 n1 hr1))
  have HR1 := Lib.hid hr1
  clear hr1
  refine (ValidSeed_any _ _ _ _).mono ?_
  rintro e w1 ⟨rfl, rfl⟩
  rw [HS.out.1]
  go_wp2_with (first | (go_at_call 56; fail))
  refine (IsFinite_any _ _).mono ?_
  rintro e w' ⟨n, rfl, rfl⟩
  rw [HR1.out.2, HF.out]
  generalize hW : World.drewN _ _ = w0
  have hH : Below w.heap.size w w0 ∧ Whole w0 w.heap.size 25 (sdC k a b) ∧ Whole w0 (w.heap.size + 1) 25 (sdC 0 0 0) := by
    rw [← hW]
    exact ⟨(by repeat (first | with_reducible exact Below.refl _ _ | with_reducible exact HBL | with_reducible refine Below.drew ?_ | with_reducible refine Bel_drewN ?_ _ | with_reducible refine Below.alloc ?_ (by first | omega | (simp; done) | (simp; omega)) _ | with_reducible refine Below.setCell ?_ (by first | omega | (simp; done) | (simp; omega)) _)), ((((Whole.made _ _ _).alloc _).drewN n1).alloc _).drewN n, (((Whole.made2 _ _ _ _).drewN n1).alloc _).drewN n⟩
  have H0 := Lib.hid hH
  obtain ⟨hc0, hf0⟩ := hH.2.1.facts
  have hz0 := hH.2.1.lt
  clear hH hW
  go_wp2_with (first | (go_at_call 53; fail))
  clear hc0 hf0 hg
  refine (drawShare_any _ _ _ _ HS.out).mono ?_
  rintro e w2 ⟨rfl, hb2⟩
  have r0 := H0.out.2.1.below hb2
  have r1' := H0.out.2.2.below hb2
  have HBL : Below w.heap.size w w2 := Bel_next H0.out.1 hb2
  obtain ⟨hc0, hf0⟩ := r0.facts
  obtain ⟨hc1, hf1⟩ := r1'.facts
  have hz20 := r0.lt
  have hz21 := r1'.lt
  have H2 := Lib.hid (And.intro HBL (And.intro r0 r1'))
  clear HBL r0 r1' hb2
  cases hl : ltB c y with
  | true =>
    have hge : (FloatKind.f32.format.order c y == some Ordering.gt || FloatKind.f32.format.order c y == some Ordering.eq) = false := by have := HB.out.ge; rw [hl] at this; exact this
    have HL := Lib.hid hl
    clear hl
    go_wp2_with (refine wpList_farith _ _ _ _ _ .f32 _ _ rfl rfl rfl ?_; intro r n hr; first | (have er := btw_c HR1.out (by assumption) hr HB.out.v; subst er) | skip)
    obtain ⟨HBL, q0, q1⟩ := H2.out
    exact bodyPost_ret (v := .tuple #[sd k (nxA k a b) (nxB k a b), .float .f32 (btwR k a b x y), .bool true]) (by simp [results, Try.results23, go_sem, hc1]; rw [HR.out, if_pos HL.out]) rfl ⟨rfl, (by repeat (first | with_reducible exact Below.refl _ _ | with_reducible exact HBL | with_reducible refine Below.drew ?_ | with_reducible refine Bel_drewN ?_ _ | with_reducible refine Below.alloc ?_ (by first | omega | (simp; done) | (simp; omega)) _ | with_reducible refine Below.setCell ?_ (by first | omega | (simp; done) | (simp; omega)) _))⟩
  | false =>
    have hge : (FloatKind.f32.format.order c y == some Ordering.gt || FloatKind.f32.format.order c y == some Ordering.eq) = true := by have := HB.out.ge; rw [hl] at this; exact this
    have HL := Lib.hid hl
    clear hl
    go_wp2_with (refine wpList_farith _ _ _ _ _ .f32 _ _ rfl rfl rfl ?_; intro r n hr; first | (have er := btw_c HR1.out (by assumption) hr HB.out.v; subst er) | skip)
    obtain ⟨HBL, q0, q1⟩ := H2.out
    exact bodyPost_ret (v := .tuple #[sd k (nxA k a b) (nxB k a b), .float .f32 (btwR k a b x y), .bool true]) (by simp [results, Try.results23, go_sem, hc1]; rw [HR.out, if_neg (by rw [HL.out]; exact Bool.false_ne_true)]) rfl ⟨rfl, (by repeat (first | with_reducible exact Below.refl _ _ | with_reducible exact HBL | with_reducible refine Below.drew ?_ | with_reducible refine Bel_drewN ?_ _ | with_reducible refine Below.alloc ?_ (by first | omega | (simp; done) | (simp; omega)) _ | with_reducible refine Below.setCell ?_ (by first | omega | (simp; done) | (simp; omega)) _))⟩
set_option maxRecDepth 100000 in
set_option maxHeartbeats 1000000 in
theorem implBtw_no (k : Int) (a b x y : Nat) (w : World) (h : ¬btwC k a b x y) :
    Calls Try.prog 23 #[sd k a b, .float .f32 x, .float .f32 y] w (RetB (.tuple #[sd 0 0 0, .float .f32 0, .bool false]) w) := by
  cases hv : vSeed k a b with
  | false =>
    clear h
    go_enter Try.func23, Try.ntmps23
    go_wp2_with (first | (go_at_call 48; fail) | (refine wpList_farith _ _ _ _ _ .f32 _ _ rfl rfl rfl ?_; intro r1 n1 hr1))
    refine (ValidSeed_any _ _ _ _).mono ?_
    rintro e w1 ⟨rfl, rfl⟩
    rw [hv]
    go_wp2_with fail
    exact bodyPost_ret (v := .tuple #[sd 0 0 0, .float .f32 0, .bool false]) (by simp [results, Try.results23, go_sem]) rfl ⟨rfl, (by repeat (first | with_reducible exact Below.refl _ _ | with_reducible exact HBL | with_reducible refine Below.drew ?_ | with_reducible refine Bel_drewN ?_ _ | with_reducible refine Below.alloc ?_ (by first | omega | (simp; done) | (simp; omega)) _ | with_reducible refine Below.setCell ?_ (by first | omega | (simp; done) | (simp; omega)) _))⟩
  | true =>
    cases hf : finA .f32 (aop .sub .f32 (av .f32 y) (av .f32 x)) with
    | false =>
      have HF := Lib.hid hf
      clear h hf
      go_enter Try.func23, Try.ntmps23
      go_wp2_with (first | (go_at_call 48; fail) | (refine wpList_farith _ _ _ _ _ .f32 _ _ rfl rfl rfl ?_; intro r1 n1 hr1))
      have HR1 := Lib.hid hr1
      clear hr1
      refine (ValidSeed_any _ _ _ _).mono ?_
      rintro e w1 ⟨rfl, rfl⟩
      rw [hv]
      go_wp2_with (first | (go_at_call 56; fail))
      refine (IsFinite_any _ _).mono ?_
      rintro e w' ⟨n, rfl, rfl⟩
      rw [HR1.out.2, HF.out]
      go_wp2_with fail
      exact bodyPost_ret (v := .tuple #[sd 0 0 0, .float .f32 0, .bool false]) (by simp [results, Try.results23, go_sem]) rfl ⟨rfl, (by repeat (first | with_reducible exact Below.refl _ _ | with_reducible exact HBL | with_reducible refine Below.drew ?_ | with_reducible refine Bel_drewN ?_ _ | with_reducible refine Below.alloc ?_ (by first | omega | (simp; done) | (simp; omega)) _ | with_reducible refine Below.setCell ?_ (by first | omega | (simp; done) | (simp; omega)) _))⟩
    | true =>
      have hl : ltB x y = false := by
        cases hl : ltB x y with
        | false => rfl
        | true => exact absurd ⟨hv, hf, hl⟩ h
      have hge : (FloatKind.f32.format.order x y == some Ordering.gt || FloatKind.f32.format.order x y == some Ordering.eq) = true := by
        have := num_order (sub_fin hf).2 (sub_fin hf).1; rw [hl] at this; exact this
      have HF := Lib.hid hf
      clear h hf hl
      go_enter Try.func23, Try.ntmps23
      go_wp2_with (first | (go_at_call 48; fail) | (refine wpList_farith _ _ _ _ _ .f32 _ _ rfl rfl rfl ?_; intro r1 n1 hr1))
      have HR1 := Lib.hid hr1
      clear hr1
      refine (ValidSeed_any _ _ _ _).mono ?_
      rintro e w1 ⟨rfl, rfl⟩
      rw [hv]
      go_wp2_with (first | (go_at_call 56; fail))
      refine (IsFinite_any _ _).mono ?_
      rintro e w' ⟨n, rfl, rfl⟩
      rw [HR1.out.2, HF.out]
      go_wp2_with fail
      exact bodyPost_ret (v := .tuple #[sd 0 0 0, .float .f32 0, .bool false]) (by simp [results, Try.results23, go_sem]) rfl ⟨rfl, (by repeat (first | with_reducible exact Below.refl _ _ | with_reducible exact HBL | with_reducible refine Below.drew ?_ | with_reducible refine Bel_drewN ?_ _ | with_reducible refine Below.alloc ?_ (by first | omega | (simp; done) | (simp; omega)) _ | with_reducible refine Below.setCell ?_ (by first | omega | (simp; done) | (simp; omega)) _))⟩
set_option maxRecDepth 100000 in
set_option maxHeartbeats 2000000 in
theorem specBtw_yes (k : Int) (a b x y : Nat) (w : World) (hs : sOk k a b) (hf : finA .f32 (aop .sub .f32 (av .f32 y) (av .f32 x)) = true) (hlt : ltB x y = true) :
    Calls Try.prog 22 #[sd k a b, .float .f32 x, .float .f32 y] w (RetB (.tuple #[sd k (nxA k a b) (nxB k a b), .float .f32 (btwR k a b x y), .bool true]) w) := by
  obtain ⟨um, ui, hu⟩ := read_shF _ (shK_lt (k := k) (a := a) (b := b) hs.kind)
  obtain ⟨c, hB⟩ := btw_of (u := shK k a b) hu hf hlt
  have HS := Lib.hid hs
  have HF := Lib.hid hf
  have HB := Lib.hid hB
  have HR : Hid (btwR k a b x y = if ltB c y = true then c else x) := Lib.hid (by unfold btwR; rw [hB.v])
  have hg : (FloatKind.f32.format.order x y == some Ordering.lt) = true := hlt
  clear hs hf hlt hu hB
  have p0 := Lib.hid ((Whole.made w 25 (sdC k a b)).alloc (.cells (sdC 0 0 0) 25))
  go_enter Try.func22, Try.ntmps22
  go_wp2_with fail
  refine (l02Is_any _ _ _ _ _ p0.out).mono ?_
  rintro e w1 ⟨rfl, rfl⟩
  rw [HS.out.1]
  go_wp2_with (first | (go_at_call 54; fail))
  refine (l01Finite_any _ _).mono ?_
  rintro e w' ⟨n, rfl, rfl⟩
  rw [HB.out.finx]
  go_wp2_with (first | (go_at_call 54; fail))
  refine (l01Finite_any _ _).mono ?_
  rintro e w' ⟨n2, rfl, rfl⟩
  rw [HB.out.finy]
  generalize hW : World.drewN _ _ = w0
  have hH : Below w.heap.size w w0 ∧ Whole w0 w.heap.size 25 (sdC k a b) ∧ Whole w0 (w.heap.size + 1) 25 (sdC 0 0 0) := by
    rw [← hW]
    exact ⟨(by repeat (first | with_reducible exact Below.refl _ _ | with_reducible exact HBL | with_reducible refine Below.drew ?_ | with_reducible refine Bel_drewN ?_ _ | with_reducible refine Below.alloc ?_ (by first | omega | (simp; done) | (simp; omega)) _ | with_reducible refine Below.setCell ?_ (by first | omega | (simp; done) | (simp; omega)) _)), (p0.out.drewN n).drewN n2, ((Whole.made2 _ _ _ _).drewN n).drewN n2⟩
  have H0 := Lib.hid hH
  clear hH hW p0
  go_wp2_with (first | (go_at_call 47; fail))
  clear hg
  refine (l02Share_any _ _ _ _ _ HS.out H0.out.2.1).mono ?_
  rintro e w2 ⟨rfl, r0, hg2⟩
  have r1' := H0.out.2.2.grown hg2 (by simp)
  have HBL : Below w.heap.size w w2 := Below.grown H0.out.1 hg2 H0.out.1.size (by simp)
  have H2 := Lib.hid (And.intro HBL (And.intro r0 r1'))
  clear HBL r0 r1' hg2
  cases hl : ltB c y with
  | true =>
    have hge : (FloatKind.f32.format.order c y == some Ordering.lt) = true := hl
    have HL := Lib.hid hl
    clear hl
    go_wp2_with (first | (go_at_call 54; fail) | (refine wpList_farith _ _ _ _ _ .f32 _ _ rfl rfl rfl ?_; intro r n hr; first | (have er := btw_c (by assumption) (by assumption) hr HB.out.v; subst er) | skip))
    refine (l01Finite_any _ _).mono ?_
    rintro e w' ⟨n9, rfl, rfl⟩
    rw [hr.2, HF.out]
    generalize hW : World.drewN _ _ = w4
    have hH : Below w.heap.size w w4 ∧ Whole w4 w.heap.size 25 (sdC k (nxA k a b) (nxB k a b)) ∧ Whole w4 (w.heap.size + 1) 25 (sdC 0 0 0) := by
      rw [← hW]
      exact ⟨Bel_drewN (Bel_drewN H2.out.1 _) n9, (H2.out.2.1.drewN _).drewN n9, (H2.out.2.2.drewN _).drewN n9⟩
    have H4 := Lib.hid hH
    clear hH hW H2
    go_wp2_with (first | (go_at_call 55; fail))
    refine (l03Give_fin _ k _ _ _ _ H4.out.2.1 (by rw [HB.out.avc]; exact HB.out.fin HL.out)).mono ?_
    rintro e w5 ⟨rfl, hb5⟩
    have q1 := H4.out.2.2.below hb5
    have HBL := Bel_next H4.out.1 hb5
    obtain ⟨hc1, hf1⟩ := q1.facts
    have hz1 := q1.lt
    have H5 := Lib.hid HBL
    clear q1 hb5 HBL
    go_wp2_with fail
    have HBL := H5.out
    exact bodyPost_ret (v := .tuple #[sd k (nxA k a b) (nxB k a b), .float .f32 (btwR k a b x y), .bool true]) (by simp [results, Try.results22, go_sem, hc1]; rw [HR.out, if_pos HL.out]) rfl ⟨rfl, (by repeat (first | with_reducible exact Below.refl _ _ | with_reducible exact HBL | with_reducible refine Below.drew ?_ | with_reducible refine Bel_drewN ?_ _ | with_reducible refine Below.alloc ?_ (by first | omega | (simp; done) | (simp; omega)) _ | with_reducible refine Below.setCell ?_ (by first | omega | (simp; done) | (simp; omega)) _))⟩
  | false =>
    have hge : (FloatKind.f32.format.order c y == some Ordering.lt) = false := hl
    have HL := Lib.hid hl
    clear hl
    go_wp2_with (first | (go_at_call 54; fail) | (refine wpList_farith _ _ _ _ _ .f32 _ _ rfl rfl rfl ?_; intro r n hr; first | (have er := btw_c (by assumption) (by assumption) hr HB.out.v; subst er) | skip))
    refine (l01Finite_any _ _).mono ?_
    rintro e w' ⟨n9, rfl, rfl⟩
    rw [hr.2, HF.out]
    generalize hW : World.drewN _ _ = w4
    have hH : Below w.heap.size w w4 ∧ Whole w4 w.heap.size 25 (sdC k (nxA k a b) (nxB k a b)) ∧ Whole w4 (w.heap.size + 1) 25 (sdC 0 0 0) := by
      rw [← hW]
      exact ⟨Bel_drewN (Bel_drewN H2.out.1 _) n9, (H2.out.2.1.drewN _).drewN n9, (H2.out.2.2.drewN _).drewN n9⟩
    have H4 := Lib.hid hH
    clear hH hW H2
    go_wp2_with (first | (go_at_call 55; fail))
    refine (l03Give_fin _ k _ _ _ _ H4.out.2.1 HB.out.finx).mono ?_
    rintro e w5 ⟨rfl, hb5⟩
    have q1 := H4.out.2.2.below hb5
    have HBL := Bel_next H4.out.1 hb5
    obtain ⟨hc1, hf1⟩ := q1.facts
    have hz1 := q1.lt
    have H5 := Lib.hid HBL
    clear q1 hb5 HBL
    go_wp2_with fail
    have HBL := H5.out
    exact bodyPost_ret (v := .tuple #[sd k (nxA k a b) (nxB k a b), .float .f32 (btwR k a b x y), .bool true]) (by simp [results, Try.results22, go_sem, hc1]; rw [HR.out, if_neg (by rw [HL.out]; exact Bool.false_ne_true)]) rfl ⟨rfl, (by repeat (first | with_reducible exact Below.refl _ _ | with_reducible exact HBL | with_reducible refine Below.drew ?_ | with_reducible refine Bel_drewN ?_ _ | with_reducible refine Below.alloc ?_ (by first | omega | (simp; done) | (simp; omega)) _ | with_reducible refine Below.setCell ?_ (by first | omega | (simp; done) | (simp; omega)) _))⟩
set_option maxRecDepth 100000 in
set_option maxHeartbeats 2000000 in
theorem specBtw_no (k : Int) (a b x y : Nat) (w : World) (ha : a < 18446744073709551616) (hb : b < 18446744073709551616) (h : ¬btwC k a b x y) :
    Calls Try.prog 22 #[sd k a b, .float .f32 x, .float .f32 y] w (RetB (.tuple #[sd 0 0 0, .float .f32 0, .bool false]) w) := by
  have p0 := Lib.hid ((Whole.made w 25 (sdC k a b)).alloc (.cells (sdC 0 0 0) 25))
  cases hv : vSeed k a b with
  | false =>
    clear h
    go_enter Try.func22, Try.ntmps22
    go_wp2_with fail
    refine (l02Is_any _ _ _ _ _ p0.out).mono ?_
    rintro e w1 ⟨rfl, rfl⟩
    rw [hv]
    go_wp2_with fail
    exact bodyPost_ret (v := .tuple #[sd 0 0 0, .float .f32 0, .bool false]) (by simp [results, Try.results22, go_sem]) rfl ⟨rfl, (by repeat (first | with_reducible exact Below.refl _ _ | with_reducible exact HBL | with_reducible refine Below.drew ?_ | with_reducible refine Bel_drewN ?_ _ | with_reducible refine Below.alloc ?_ (by first | omega | (simp; done) | (simp; omega)) _ | with_reducible refine Below.setCell ?_ (by first | omega | (simp; done) | (simp; omega)) _))⟩
  | true =>
    cases hfx : finA .f32 (av .f32 x) with
    | false =>
      have HF := Lib.hid hfx
      clear h hfx
      go_enter Try.func22, Try.ntmps22
      go_wp2_with fail
      refine (l02Is_any _ _ _ _ _ p0.out).mono ?_
      rintro e w1 ⟨rfl, rfl⟩
      rw [hv]
      go_wp2_with (first | (go_at_call 54; fail))
      refine (l01Finite_any _ _).mono ?_
      rintro e w' ⟨n, rfl, rfl⟩
      rw [HF.out]
      go_wp2_with fail
      exact bodyPost_ret (v := .tuple #[sd 0 0 0, .float .f32 0, .bool false]) (by simp [results, Try.results22, go_sem]) rfl ⟨rfl, (by repeat (first | with_reducible exact Below.refl _ _ | with_reducible exact HBL | with_reducible refine Below.drew ?_ | with_reducible refine Bel_drewN ?_ _ | with_reducible refine Below.alloc ?_ (by first | omega | (simp; done) | (simp; omega)) _ | with_reducible refine Below.setCell ?_ (by first | omega | (simp; done) | (simp; omega)) _))⟩
    | true =>
      cases hfy : finA .f32 (av .f32 y) with
      | false =>
        have HF := Lib.hid (And.intro hfx hfy)
        clear h hfx hfy
        go_enter Try.func22, Try.ntmps22
        go_wp2_with fail
        refine (l02Is_any _ _ _ _ _ p0.out).mono ?_
        rintro e w1 ⟨rfl, rfl⟩
        rw [hv]
        go_wp2_with (first | (go_at_call 54; fail))
        refine (l01Finite_any _ _).mono ?_
        rintro e w' ⟨n, rfl, rfl⟩
        rw [HF.out.1]
        go_wp2_with (first | (go_at_call 54; fail))
        refine (l01Finite_any _ _).mono ?_
        rintro e w' ⟨n2, rfl, rfl⟩
        rw [HF.out.2]
        go_wp2_with fail
        exact bodyPost_ret (v := .tuple #[sd 0 0 0, .float .f32 0, .bool false]) (by simp [results, Try.results22, go_sem]) rfl ⟨rfl, (by repeat (first | with_reducible exact Below.refl _ _ | with_reducible exact HBL | with_reducible refine Below.drew ?_ | with_reducible refine Bel_drewN ?_ _ | with_reducible refine Below.alloc ?_ (by first | omega | (simp; done) | (simp; omega)) _ | with_reducible refine Below.setCell ?_ (by first | omega | (simp; done) | (simp; omega)) _))⟩
      | true =>
        cases hl : ltB x y with
        | false =>
          have hg : (FloatKind.f32.format.order x y == some Ordering.lt) = false := hl
          have HF := Lib.hid (And.intro hfx hfy)
          clear h hfx hfy hl
          go_enter Try.func22, Try.ntmps22
          go_wp2_with fail
          refine (l02Is_any _ _ _ _ _ p0.out).mono ?_
          rintro e w1 ⟨rfl, rfl⟩
          rw [hv]
          go_wp2_with (first | (go_at_call 54; fail))
          refine (l01Finite_any _ _).mono ?_
          rintro e w' ⟨n, rfl, rfl⟩
          rw [HF.out.1]
          go_wp2_with (first | (go_at_call 54; fail))
          refine (l01Finite_any _ _).mono ?_
          rintro e w' ⟨n2, rfl, rfl⟩
          rw [HF.out.2]
          go_wp2_with fail
          exact bodyPost_ret (v := .tuple #[sd 0 0 0, .float .f32 0, .bool false]) (by simp [results, Try.results22, go_sem]) rfl ⟨rfl, (by repeat (first | with_reducible exact Below.refl _ _ | with_reducible exact HBL | with_reducible refine Below.drew ?_ | with_reducible refine Bel_drewN ?_ _ | with_reducible refine Below.alloc ?_ (by first | omega | (simp; done) | (simp; omega)) _ | with_reducible refine Below.setCell ?_ (by first | omega | (simp; done) | (simp; omega)) _))⟩
        | true =>
          have hg : (FloatKind.f32.format.order x y == some Ordering.lt) = true := hl
          have HN : Hid (finA .f32 (aop .sub .f32 (av .f32 y) (av .f32 x)) = false) := Lib.hid (by
            cases hf : finA .f32 (aop .sub .f32 (av .f32 y) (av .f32 x)) with
            | false => rfl
            | true => exact absurd ⟨hv, hf, hl⟩ h)
          have HF := Lib.hid (And.intro hfx hfy)
          have HS : Hid (sOk k a b) := Lib.hid ⟨hv, ha, hb⟩
          clear h hfx hfy hl
          go_enter Try.func22, Try.ntmps22
          go_wp2_with fail
          refine (l02Is_any _ _ _ _ _ p0.out).mono ?_
          rintro e w1 ⟨rfl, rfl⟩
          rw [hv]
          go_wp2_with (first | (go_at_call 54; fail))
          refine (l01Finite_any _ _).mono ?_
          rintro e w' ⟨n, rfl, rfl⟩
          rw [HF.out.1]
          go_wp2_with (first | (go_at_call 54; fail))
          refine (l01Finite_any _ _).mono ?_
          rintro e w' ⟨n2, rfl, rfl⟩
          rw [HF.out.2]
          generalize hW : World.drewN _ _ = w0
          have hH : Below w.heap.size w w0 ∧ Whole w0 w.heap.size 25 (sdC k a b) ∧ Whole w0 (w.heap.size + 1) 25 (sdC 0 0 0) := by
            rw [← hW]
            exact ⟨(by repeat (first | with_reducible exact Below.refl _ _ | with_reducible exact HBL | with_reducible refine Below.drew ?_ | with_reducible refine Bel_drewN ?_ _ | with_reducible refine Below.alloc ?_ (by first | omega | (simp; done) | (simp; omega)) _ | with_reducible refine Below.setCell ?_ (by first | omega | (simp; done) | (simp; omega)) _)), (p0.out.drewN n).drewN n2, ((Whole.made2 _ _ _ _).drewN n).drewN n2⟩
          have H0 := Lib.hid hH
          clear hH hW p0
          go_wp2_with (first | (go_at_call 47; fail))
          clear hg
          refine (l02Share_any _ _ _ _ _ HS.out H0.out.2.1).mono ?_
          rintro e w2 ⟨rfl, r0, hg2⟩
          have r1' := H0.out.2.2.grown hg2 (by simp)
          have HBL : Below w.heap.size w w2 := Below.grown H0.out.1 hg2 H0.out.1.size (by simp)
          obtain ⟨hc1, hf1⟩ := r1'.facts
          have hz1 := r1'.lt
          have H2 := Lib.hid HBL
          clear HBL r0 r1' hg2
          go_wp2_with (first | (go_at_call 54; fail) | (refine wpList_farith _ _ _ _ _ .f32 _ _ rfl rfl rfl ?_; intro r n hr))
          all_goals
            refine (l01Finite_any _ _).mono ?_
            rintro e w' ⟨n9, rfl, rfl⟩
            rw [hr.2, HN.out]
            clear hr
            go_wp2_with fail
            have HBL := H2.out
            exact bodyPost_ret (v := .tuple #[sd 0 0 0, .float .f32 0, .bool false]) (by simp [results, Try.results22, go_sem, hc1]) rfl ⟨rfl, (by repeat (first | with_reducible exact Below.refl _ _ | with_reducible exact HBL | with_reducible refine Below.drew ?_ | with_reducible refine Bel_drewN ?_ _ | with_reducible refine Below.alloc ?_ (by first | omega | (simp; done) | (simp; omega)) _ | with_reducible refine Below.setCell ?_ (by first | omega | (simp; done) | (simp; omega)) _))⟩
theorem btwR_lt (k : Int) (a b x y : Nat) (hs : sOk k a b) (hx : x < 4294967296) (h : btwC k a b x y) : btwR k a b x y < 4294967296 := by
  obtain ⟨um, ui, hu⟩ := read_shF _ (shK_lt (k := k) (a := a) (b := b) hs.kind)
  obtain ⟨c, hB⟩ := btw_of (u := shK k a b) hu h.2.1 h.2.2
  unfold btwR
  rw [hB.v]
  simp only []
  split
  · exact hB.lt
  · exact hx
theorem implBtw_F (k : Int) (a b x y : Nat) (w : World) (ha : a < 18446744073709551616) (hb : b < 18446744073709551616) (hx : x < 4294967296) (h : btwC k a b x y) :
    Calls Try.prog 23 #[sd k a b, .float .f32 x, .float .f32 y] w (RetF (fun r => .tuple #[sd k (nxA k a b) (nxB k a b), .float .f32 r, .bool true]) (av .f32 (btwR k a b x y)) w) :=
  RetB.toF (implBtw_yes k a b x y w ⟨h.1, ha, hb⟩ h.2.1 h.2.2) (btwR_lt k a b x y ⟨h.1, ha, hb⟩ hx h)
theorem specBtw_F (k : Int) (a b x y : Nat) (w : World) (ha : a < 18446744073709551616) (hb : b < 18446744073709551616) (hx : x < 4294967296) (h : btwC k a b x y) :
    Calls Try.prog 22 #[sd k a b, .float .f32 x, .float .f32 y] w (RetF (fun r => .tuple #[sd k (nxA k a b) (nxB k a b), .float .f32 r, .bool true]) (av .f32 (btwR k a b x y)) w) :=
  RetB.toF (specBtw_yes k a b x y w ⟨h.1, ha, hb⟩ h.2.1 h.2.2) (btwR_lt k a b x y ⟨h.1, ha, hb⟩ hx h)
theorem implBtw_nF (k : Int) (a b x y : Nat) (w : World) (h : ¬btwC k a b x y) :
    Calls Try.prog 23 #[sd k a b, .float .f32 x, .float .f32 y] w (RetF (fun r => .tuple #[sd 0 0 0, .float .f32 r, .bool false]) (av .f32 0) w) := RetB.toF (implBtw_no k a b x y w h) (by decide)
theorem specBtw_nF (k : Int) (a b x y : Nat) (w : World) (ha : a < 18446744073709551616) (hb : b < 18446744073709551616) (h : ¬btwC k a b x y) :
    Calls Try.prog 22 #[sd k a b, .float .f32 x, .float .f32 y] w (RetF (fun r => .tuple #[sd 0 0 0, .float .f32 r, .bool false]) (av .f32 0) w) := RetB.toF (specBtw_no k a b x y w ha hb h) (by decide)
theorem wf32b {a : Nat} (h : (Lit.float .f32 a).wf = true) : a < 4294967296 := by simpa [Lit.wf] using h
end Go.Proofs.Ytnofikeeobahjaa
