/- How long to wait: what the code and its model return. -/
import Derived.Test.YtnofikeeobahjaaNg
namespace Go.Proofs.Ytnofikeeobahjaa
open Go Go.RowKit Fl
set_option linter.unusedVariables false

noncomputable def waitV (k : Int) (a b x : Nat) : Option Nat := aop .quo .f32 (negV .f32 (logV (oml (shK k a b)))) (av .f32 x)
theorem quo_Fv {u v : Option Nat} {r1 r2 r3 : Nat} (h1 : Fv .f32 u r1) (h2 : av .f32 r2 = v) (h3 : Fv .f32 (aop .quo .f32 (av .f32 r1) (av .f32 r2)) r3) : Fv .f32 (aop .quo .f32 u v) r3 := by rw [h1.2, h2] at h3; exact h3

set_option maxRecDepth 100000 in
set_option maxHeartbeats 1000000 in
theorem implWait_in (k : Int) (a b x : Nat) (w : World) (hs : sOk k a b) (hx : aboveB x = true) :
    Calls Try.prog 25 #[sd k a b, .float .f32 x] w (fun e w' => (finA .f32 (waitV k a b x) = true → RetF (fun r => .tuple #[sd k (nxA k a b) (nxB k a b), .float .f32 r, .bool true]) (waitV k a b x) w e w') ∧ (finA .f32 (waitV k a b x) = false → RetB (.tuple #[sd 0 0 0, .float .f32 0, .bool false]) w e w')) := by
  have HS := Lib.hid hs
  have hf : finA .f32 (av .f32 x) = true := by unfold aboveB at hx; simp at hx; exact hx.1
  have hg : gtB x 0 = true := by unfold aboveB at hx; simp at hx; exact hx.2
  have hl : (FloatKind.f32.format.order x 0 == some Ordering.lt || FloatKind.f32.format.order x 0 == some Ordering.eq) = false := by
    have := le_gt hf; rw [hg] at this; exact this
  have HF := Lib.hid hf
  have hm : ∀ (t : TypeId) (w : World), (binOp .sub t (.float .f32 1065353216) (.float .f32 (shK k a b))).run Try.prog w = .ok (.float .f32 (oml (shK k a b))) w := fun t w => oml_run hs t w
  have HO := Lib.hid (oml_lt hs)
  have HV : Hid (waitV k a b x = aop .quo .f32 (negV .f32 (logV (oml (shK k a b)))) (av .f32 x)) := Lib.hid rfl
  clear hs hf hg hx
  generalize oml (shK k a b) = c at *
  go_enter Try.func25, Try.ntmps25
  go_wp2_with fail
  refine (ValidSeed_any _ _ _ _).mono ?_
  rintro e w1 ⟨rfl, rfl⟩
  rw [HS.out.1]
  go_wp2_with (first | (go_at_call 56; fail))
  refine (IsFinite_any _ _).mono ?_
  rintro e w' ⟨n, rfl, rfl⟩
  rw [HF.out]
  generalize hW : World.alloc (World.alloc (World.alloc _ _) _) _ = w0
  have hH : Below w.heap.size w w0 ∧ Whole w0 w.heap.size 25 (sdC k a b) ∧ Whole w0 (w.heap.size + 1) 25 (sdC 0 0 0) := by
    rw [← hW]
    exact ⟨(by repeat (first | with_reducible exact Below.refl _ _ | with_reducible exact HBL | with_reducible refine Below.drew ?_ | with_reducible refine Bel_drewN ?_ _ | with_reducible refine Below.alloc ?_ (by first | omega | (simp; done) | (simp; omega)) _ | with_reducible refine Below.setCell ?_ (by first | omega | (simp; done) | (simp; omega)) _)), ((Whole.made _ _ _).alloc _).alloc _, (Whole.made2 _ _ _ _).alloc _⟩
  have H0 := Lib.hid hH
  obtain ⟨hc0, hf0⟩ := hH.2.1.facts
  have hz0 := hH.2.1.lt
  clear hH hW
  go_wp2_with (first | (go_at_call 53; fail))
  refine (drawShare_any _ _ _ _ HS.out).mono ?_
  rintro e w2 ⟨rfl, hb2⟩
  have hbb : Below (w0.drewN n).heap.size (w0.drewN n) w2 := hb2
  have r0 := (H0.out.2.1.drewN n).below hbb
  have r1 := (H0.out.2.2.drewN n).below hbb
  have HBL : Below w.heap.size w w2 := Bel_next (Bel_drewN H0.out.1 n) hbb
  clear hc0 hf0
  obtain ⟨hc0, hf0⟩ := r0.facts
  have hz20 := r0.lt
  have H2 := Lib.hid (And.intro HBL (And.intro r0 r1))
  clear HBL r0 r1 hb2 hbb
  go_wp2_with (first | (go_at_call 29; fail))
  clear hc0 hf0 hm
  generalize hW : World.setCell (World.setCell (World.setCell _ _ _) _ _) _ _ = w3
  have hH : Below w.heap.size w w3 ∧ Whole w3 w.heap.size 25 (sdC k (nxA k a b) (nxB k a b)) ∧ Whole w3 (w.heap.size + 1) 25 (sdC 0 0 0) := by
    obtain ⟨HBL, q0, q1⟩ := H2.out
    rw [← hW]
    exact ⟨(by repeat (first | with_reducible exact Below.refl _ _ | with_reducible exact HBL | with_reducible refine Below.drew ?_ | with_reducible refine Bel_drewN ?_ _ | with_reducible refine Below.alloc ?_ (by first | omega | (simp; done) | (simp; omega)) _ | with_reducible refine Below.setCell ?_ (by first | omega | (simp; done) | (simp; omega)) _)), ((q0.put 0 _).put 1 _).put 2 _, ((q1.far (by first | omega | (simp; done) | (simp; omega)) _).far (by first | omega | (simp; done) | (simp; omega)) _).far (by first | omega | (simp; done) | (simp; omega)) _⟩
  have H3 := Lib.hid hH
  clear hH hW H2
  refine (implLog_any c HO.out _).mono ?_
  rintro e w' ⟨r, n2, rfl, hr, rfl⟩
  have HR := Lib.hid (Fv_ng hr)
  clear hr
  obtain ⟨hc0, hf0⟩ := H3.out.2.1.facts
  obtain ⟨hc1, hf1⟩ := H3.out.2.2.facts
  have hz31 := H3.out.2.2.lt
  have hz30 := H3.out.2.1.lt
  go_wp2_with (first | (go_at_call 56; fail) | (refine wpList_farith _ _ _ _ _ .f32 _ _ rfl rfl rfl ?_; intro r3 n3 hr3))
  have HQ := Lib.hid (show Fv .f32 (waitV k a b x) r3 by rw [HV.out]; exact quo_Fv HR.out rfl hr3)
  clear hr3
  refine (IsFinite_any _ _).mono ?_
  rintro e w' ⟨n4, rfl, rfl⟩
  rw [HQ.out.2]
  cases hfin : finA .f32 (waitV k a b x) with
  | true =>
    go_wp2_with fail
    obtain ⟨HBL, q0, q1⟩ := H3.out
    exact bodyPost_ret (v := .tuple #[sd k (nxA k a b) (nxB k a b), .float .f32 r3, .bool true]) (by simp [results, Try.results25, go_sem, hc1]) rfl ⟨fun _ => ⟨r3, rfl, HQ.out, (by repeat (first | with_reducible exact Below.refl _ _ | with_reducible exact HBL | with_reducible refine Below.drew ?_ | with_reducible refine Bel_drewN ?_ _ | with_reducible refine Below.alloc ?_ (by first | omega | (simp; done) | (simp; omega)) _ | with_reducible refine Below.setCell ?_ (by first | omega | (simp; done) | (simp; omega)) _))⟩, (fun h => absurd (hfin.symm.trans h) (by decide))⟩
  | false =>
    go_wp2_with fail
    obtain ⟨HBL, q0, q1⟩ := H3.out
    exact bodyPost_ret (v := .tuple #[sd 0 0 0, .float .f32 0, .bool false]) (by simp [results, Try.results25, go_sem, hc1]) rfl ⟨(fun h => absurd (hfin.symm.trans h) (by decide)), fun _ => ⟨rfl, (by repeat (first | with_reducible exact Below.refl _ _ | with_reducible exact HBL | with_reducible refine Below.drew ?_ | with_reducible refine Bel_drewN ?_ _ | with_reducible refine Below.alloc ?_ (by first | omega | (simp; done) | (simp; omega)) _ | with_reducible refine Below.setCell ?_ (by first | omega | (simp; done) | (simp; omega)) _))⟩⟩
set_option maxRecDepth 100000 in
theorem implWait_no (k : Int) (a b x : Nat) (w : World) (h : ¬(vSeed k a b = true ∧ aboveB x = true)) :
    Calls Try.prog 25 #[sd k a b, .float .f32 x] w (RetB (.tuple #[sd 0 0 0, .float .f32 0, .bool false]) w) := by
  cases hv : vSeed k a b with
  | false =>
    clear h
    go_enter Try.func25, Try.ntmps25
    go_wp2_with fail
    refine (ValidSeed_any _ _ _ _).mono ?_
    rintro e w1 ⟨rfl, rfl⟩
    rw [hv]
    go_wp2_with fail
    exact bodyPost_ret (v := .tuple #[sd 0 0 0, .float .f32 0, .bool false]) (by simp [results, Try.results25, go_sem]) rfl ⟨rfl, (by repeat (first | with_reducible exact Below.refl _ _ | with_reducible exact HBL | with_reducible refine Below.drew ?_ | with_reducible refine Bel_drewN ?_ _ | with_reducible refine Below.alloc ?_ (by first | omega | (simp; done) | (simp; omega)) _ | with_reducible refine Below.setCell ?_ (by first | omega | (simp; done) | (simp; omega)) _))⟩
  | true =>
    cases hf : finA .f32 (av .f32 x) with
    | false =>
      have HF := Lib.hid hf
      clear h hf
      go_enter Try.func25, Try.ntmps25
      go_wp2_with fail
      refine (ValidSeed_any _ _ _ _).mono ?_
      rintro e w1 ⟨rfl, rfl⟩
      rw [hv]
      go_wp2_with (first | (go_at_call 56; fail))
      refine (IsFinite_any _ _).mono ?_
      rintro e w' ⟨n, rfl, rfl⟩
      rw [HF.out]
      go_wp2_with fail
      exact bodyPost_ret (v := .tuple #[sd 0 0 0, .float .f32 0, .bool false]) (by simp [results, Try.results25, go_sem]) rfl ⟨rfl, (by repeat (first | with_reducible exact Below.refl _ _ | with_reducible exact HBL | with_reducible refine Below.drew ?_ | with_reducible refine Bel_drewN ?_ _ | with_reducible refine Below.alloc ?_ (by first | omega | (simp; done) | (simp; omega)) _ | with_reducible refine Below.setCell ?_ (by first | omega | (simp; done) | (simp; omega)) _))⟩
    | true =>
      have HF := Lib.hid hf
      have hg : gtB x 0 = false := by
        cases hg : gtB x 0 with
        | false => rfl
        | true => exact absurd ⟨hv, by unfold aboveB; rw [hf, hg]; rfl⟩ h
      have hl : (FloatKind.f32.format.order x 0 == some Ordering.lt || FloatKind.f32.format.order x 0 == some Ordering.eq) = true := by
        have := le_gt hf; rw [hg] at this; exact this
      clear h hf hg
      go_enter Try.func25, Try.ntmps25
      go_wp2_with fail
      refine (ValidSeed_any _ _ _ _).mono ?_
      rintro e w1 ⟨rfl, rfl⟩
      rw [hv]
      go_wp2_with (first | (go_at_call 56; fail))
      refine (IsFinite_any _ _).mono ?_
      rintro e w' ⟨n, rfl, rfl⟩
      rw [HF.out]
      go_wp2_with fail
      exact bodyPost_ret (v := .tuple #[sd 0 0 0, .float .f32 0, .bool false]) (by simp [results, Try.results25, go_sem]) rfl ⟨rfl, (by repeat (first | with_reducible exact Below.refl _ _ | with_reducible exact HBL | with_reducible refine Below.drew ?_ | with_reducible refine Bel_drewN ?_ _ | with_reducible refine Below.alloc ?_ (by first | omega | (simp; done) | (simp; omega)) _ | with_reducible refine Below.setCell ?_ (by first | omega | (simp; done) | (simp; omega)) _))⟩
set_option maxRecDepth 100000 in
set_option maxHeartbeats 1000000 in
theorem specWait_in (k : Int) (a b x : Nat) (w : World) (hs : sOk k a b) (hx : aboveB x = true) :
    Calls Try.prog 24 #[sd k a b, .float .f32 x] w (fun e w' => (finA .f32 (waitV k a b x) = true → RetF (fun r => .tuple #[sd k (nxA k a b) (nxB k a b), .float .f32 r, .bool true]) (waitV k a b x) w e w') ∧ (finA .f32 (waitV k a b x) = false → RetB (.tuple #[sd 0 0 0, .float .f32 0, .bool false]) w e w')) := by
  have HS := Lib.hid hs
  have HX := Lib.hid hx
  have HV : Hid (waitV k a b x = aop .quo .f32 (negV .f32 (logV (oml (shK k a b)))) (av .f32 x)) := Lib.hid rfl
  clear hs hx
  have p0 := Lib.hid ((Whole.made w 25 (sdC k a b)).alloc (.cells (sdC 0 0 0) 25))
  go_enter Try.func24, Try.ntmps24
  go_wp2_with fail
  refine (l02Is_any _ _ _ _ _ p0.out).mono ?_
  rintro e w1 ⟨rfl, rfl⟩
  rw [HS.out.1]
  go_wp2_with (first | (go_at_call 57; fail))
  refine (l02Above_any _ _).mono ?_
  rintro e w' ⟨n, rfl, rfl⟩
  rw [HX.out]
  generalize hW : World.alloc (World.alloc _ _) _ = w0
  have hH : Below w.heap.size w w0 ∧ Whole w0 w.heap.size 25 (sdC k a b) ∧ Whole w0 (w.heap.size + 1) 25 (sdC 0 0 0) := by
    rw [← hW]
    exact ⟨(by repeat (first | with_reducible exact Below.refl _ _ | with_reducible exact HBL | with_reducible refine Below.drew ?_ | with_reducible refine Bel_drewN ?_ _ | with_reducible refine Below.alloc ?_ (by first | omega | (simp; done) | (simp; omega)) _ | with_reducible refine Below.setCell ?_ (by first | omega | (simp; done) | (simp; omega)) _)), p0.out, Whole.made2 _ _ _ _⟩
  have H0 := Lib.hid hH
  clear hH hW p0
  go_wp2_with (first | (go_at_call 58; fail))
  refine (l03Left_any _ _ _ _ _ HS.out (H0.out.2.1.drewN n)).mono ?_
  rintro e w2 ⟨r, rfl, hr, r0, hg2⟩
  have HR := Lib.hid (Fv_ng hr)
  have r1 := (H0.out.2.2.drewN n).grown hg2 (by simp)
  have HBL : Below w.heap.size w w2 := Below.grown (Bel_drewN H0.out.1 n) hg2 H0.out.1.size (by simp)
  have H2 := Lib.hid (And.intro HBL (And.intro r0 r1))
  clear HBL r0 r1 hg2 hr H0
  go_wp2_with (first | (go_at_call 55; fail) | (refine wpList_farith _ _ _ _ _ .f32 _ _ rfl rfl rfl ?_; intro r3 n3 hr3))
  have HQ := Lib.hid (show Fv .f32 (waitV k a b x) r3 by rw [HV.out]; exact quo_Fv HR.out rfl hr3)
  clear hr3
  cases hfin : finA .f32 (waitV k a b x) with
  | true =>
    refine (l03Give_fin _ k _ _ r3 _ (H2.out.2.1.drewN n3) (by rw [HQ.out.2]; exact hfin)).mono ?_
    rintro e w4 ⟨rfl, hb4⟩
    have q1 := (H2.out.2.2.drewN n3).below hb4
    have HBL := Bel_next (Bel_drewN H2.out.1 n3) hb4
    obtain ⟨hc1, hf1⟩ := q1.facts
    have hz1 := q1.lt
    have H4 := Lib.hid HBL
    clear q1 hb4 HBL
    go_wp2_with fail
    have HBL := H4.out
    exact bodyPost_ret (v := .tuple #[sd k (nxA k a b) (nxB k a b), .float .f32 r3, .bool true]) (by simp [results, Try.results24, go_sem, hc1]) rfl ⟨fun _ => ⟨r3, rfl, HQ.out, (by repeat (first | with_reducible exact Below.refl _ _ | with_reducible exact HBL | with_reducible refine Below.drew ?_ | with_reducible refine Bel_drewN ?_ _ | with_reducible refine Below.alloc ?_ (by first | omega | (simp; done) | (simp; omega)) _ | with_reducible refine Below.setCell ?_ (by first | omega | (simp; done) | (simp; omega)) _))⟩, (fun h => absurd (hfin.symm.trans h) (by decide))⟩
  | false =>
    refine (l03Give_not _ k _ _ r3 _ (H2.out.2.1.drewN n3) (by rw [HQ.out.2]; exact hfin)).mono ?_
    rintro e w4 ⟨rfl, hb4⟩
    have q1 := (H2.out.2.2.drewN n3).below hb4
    have HBL := Bel_next (Bel_drewN H2.out.1 n3) hb4
    obtain ⟨hc1, hf1⟩ := q1.facts
    have hz1 := q1.lt
    have H4 := Lib.hid HBL
    clear q1 hb4 HBL
    go_wp2_with fail
    have HBL := H4.out
    exact bodyPost_ret (v := .tuple #[sd 0 0 0, .float .f32 0, .bool false]) (by simp [results, Try.results24, go_sem, hc1]) rfl ⟨(fun h => absurd (hfin.symm.trans h) (by decide)), fun _ => ⟨rfl, (by repeat (first | with_reducible exact Below.refl _ _ | with_reducible exact HBL | with_reducible refine Below.drew ?_ | with_reducible refine Bel_drewN ?_ _ | with_reducible refine Below.alloc ?_ (by first | omega | (simp; done) | (simp; omega)) _ | with_reducible refine Below.setCell ?_ (by first | omega | (simp; done) | (simp; omega)) _))⟩⟩
set_option maxRecDepth 100000 in
theorem specWait_no (k : Int) (a b x : Nat) (w : World) (h : ¬(vSeed k a b = true ∧ aboveB x = true)) :
    Calls Try.prog 24 #[sd k a b, .float .f32 x] w (RetB (.tuple #[sd 0 0 0, .float .f32 0, .bool false]) w) := by
  have p0 := Lib.hid ((Whole.made w 25 (sdC k a b)).alloc (.cells (sdC 0 0 0) 25))
  cases hv : vSeed k a b with
  | false =>
    clear h
    go_enter Try.func24, Try.ntmps24
    go_wp2_with fail
    refine (l02Is_any _ _ _ _ _ p0.out).mono ?_
    rintro e w1 ⟨rfl, rfl⟩
    rw [hv]
    go_wp2_with fail
    exact bodyPost_ret (v := .tuple #[sd 0 0 0, .float .f32 0, .bool false]) (by simp [results, Try.results24, go_sem]) rfl ⟨rfl, (by repeat (first | with_reducible exact Below.refl _ _ | with_reducible exact HBL | with_reducible refine Below.drew ?_ | with_reducible refine Bel_drewN ?_ _ | with_reducible refine Below.alloc ?_ (by first | omega | (simp; done) | (simp; omega)) _ | with_reducible refine Below.setCell ?_ (by first | omega | (simp; done) | (simp; omega)) _))⟩
  | true =>
    have HX : Hid (aboveB x = false) := Lib.hid (by
      cases hx : aboveB x with
      | false => rfl
      | true => exact absurd ⟨hv, hx⟩ h)
    clear h
    go_enter Try.func24, Try.ntmps24
    go_wp2_with fail
    refine (l02Is_any _ _ _ _ _ p0.out).mono ?_
    rintro e w1 ⟨rfl, rfl⟩
    rw [hv]
    go_wp2_with (first | (go_at_call 57; fail))
    refine (l02Above_any _ _).mono ?_
    rintro e w' ⟨n, rfl, rfl⟩
    rw [HX.out]
    go_wp2_with fail
    exact bodyPost_ret (v := .tuple #[sd 0 0 0, .float .f32 0, .bool false]) (by simp [results, Try.results24, go_sem]) rfl ⟨rfl, (by repeat (first | with_reducible exact Below.refl _ _ | with_reducible exact HBL | with_reducible refine Below.drew ?_ | with_reducible refine Bel_drewN ?_ _ | with_reducible refine Below.alloc ?_ (by first | omega | (simp; done) | (simp; omega)) _ | with_reducible refine Below.setCell ?_ (by first | omega | (simp; done) | (simp; omega)) _))⟩
/-- Is it given? -/
def waitC (k : Int) (a b x : Nat) : Prop := (vSeed k a b = true ∧ aboveB x = true) ∧ finA .f32 (waitV k a b x) = true
theorem implWait_yes (k : Int) (a b x : Nat) (w : World) (ha : a < 18446744073709551616) (hb : b < 18446744073709551616) (h : waitC k a b x) :
    Calls Try.prog 25 #[sd k a b, .float .f32 x] w (RetF (fun r => .tuple #[sd k (nxA k a b) (nxB k a b), .float .f32 r, .bool true]) (waitV k a b x) w) :=
  (implWait_in k a b x w ⟨h.1.1, ha, hb⟩ h.1.2).mono fun e w' H => H.1 h.2
theorem specWait_yes (k : Int) (a b x : Nat) (w : World) (ha : a < 18446744073709551616) (hb : b < 18446744073709551616) (h : waitC k a b x) :
    Calls Try.prog 24 #[sd k a b, .float .f32 x] w (RetF (fun r => .tuple #[sd k (nxA k a b) (nxB k a b), .float .f32 r, .bool true]) (waitV k a b x) w) :=
  (specWait_in k a b x w ⟨h.1.1, ha, hb⟩ h.1.2).mono fun e w' H => H.1 h.2
theorem implWait_not (k : Int) (a b x : Nat) (w : World) (ha : a < 18446744073709551616) (hb : b < 18446744073709551616) (h : ¬waitC k a b x) :
    Calls Try.prog 25 #[sd k a b, .float .f32 x] w (RetF (fun r => .tuple #[sd 0 0 0, .float .f32 r, .bool false]) (av .f32 0) w) := by
  refine RetB.toF (r := 0) ?_ (by decide)
  by_cases h1 : vSeed k a b = true ∧ aboveB x = true
  · exact (implWait_in k a b x w ⟨h1.1, ha, hb⟩ h1.2).mono fun e w' H => H.2 (by
      cases hf : finA .f32 (waitV k a b x) with
      | false => rfl
      | true => exact absurd ⟨h1, hf⟩ h)
  · exact implWait_no k a b x w h1
theorem specWait_not (k : Int) (a b x : Nat) (w : World) (ha : a < 18446744073709551616) (hb : b < 18446744073709551616) (h : ¬waitC k a b x) :
    Calls Try.prog 24 #[sd k a b, .float .f32 x] w (RetF (fun r => .tuple #[sd 0 0 0, .float .f32 r, .bool false]) (av .f32 0) w) := by
  refine RetB.toF (r := 0) ?_ (by decide)
  by_cases h1 : vSeed k a b = true ∧ aboveB x = true
  · exact (specWait_in k a b x w ⟨h1.1, ha, hb⟩ h1.2).mono fun e w' H => H.2 (by
      cases hf : finA .f32 (waitV k a b x) with
      | false => rfl
      | true => exact absurd ⟨h1, hf⟩ h)
  · exact specWait_no k a b x w h1
end Go.Proofs.Ytnofikeeobahjaa
