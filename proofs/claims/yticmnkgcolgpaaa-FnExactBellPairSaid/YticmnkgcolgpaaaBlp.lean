/- Pairs of numbers of a bell: both sides return the next seed but one and a complex number whose parts are known but for not-a-numbers' bits. -/
import Derived.Test.YticmnkgcolgpaaaCir
import Derived.Test.YticmnkgcolgpaaaNg
import Derived.Test.YticmnkgcolgpaaaRoot
namespace Go.Proofs.Yticmnkgcolgpaaa
open Go Go.RowKit Fl
set_option linter.unusedVariables false
/-- A complex number times a number: each part. -/
def scV (u l : Option Nat) : Option Nat := aop .mul .f32 u l
def ScC (u v l : Option Nat) (w : World) (e : Ending) (w' : World) : Prop := ∃ r t n, e = .returned (.complex .f32 r t) ∧ Fv .f32 (scV u l) r ∧ Fv .f32 (scV v l) t ∧ w' = w.drewN n
set_option maxRecDepth 100000 in
theorem implScale_any (r t l : Nat) (u v z : Option Nat) (hr : Fv .f32 u r) (ht : Fv .f32 v t) (hl : Fv .f32 z l) (w : World) : Calls Try.prog 103 #[.complex .f32 r t, .float .f32 l] w (ScC u v z w) := by
  have H := Lib.hid (And.intro hr (And.intro ht hl))
  have hflag : True := trivial
  clear hr ht hl
  go_enter Try.func103, Try.ntmps103
  go_wp2_with (first
    | (clear hflag; refine wpList_farith .mul _ _ _ _ .f32 r l rfl rfl rfl ?_; intro c1 n1 h1)
    | (refine wpList_farith .mul _ _ _ _ .f32 t l rfl rfl rfl ?_; intro c2 n2 h2))
  go_ret
  exact ⟨c1, c2, _, rfl, by unfold scV; rw [← H.out.1.2, ← H.out.2.2.2]; exact h1, by unfold scV; rw [← H.out.2.1.2, ← H.out.2.2.2]; exact h2, rfl⟩
set_option maxRecDepth 100000 in
theorem l01Scale_any (r t l : Nat) (u v z : Option Nat) (hr : Fv .f32 u r) (ht : Fv .f32 v t) (hl : Fv .f32 z l) (w : World) : Calls Try.prog 100 #[.complex .f32 r t, .float .f32 l] w (ScC u v z w) := by
  have H := Lib.hid (And.intro hr (And.intro ht hl))
  have hflag : True := trivial
  clear hr ht hl
  go_enter Try.func100, Try.ntmps100
  go_wp2_with (first
    | (clear hflag; refine wpList_farith .mul _ _ _ _ .f32 r l rfl rfl rfl ?_; intro c1 n1 h1)
    | (refine wpList_farith .mul _ _ _ _ .f32 t l rfl rfl rfl ?_; intro c2 n2 h2))
  go_ret
  exact ⟨c1, c2, _, rfl, by unfold scV; rw [← H.out.1.2, ← H.out.2.2.2]; exact h1, by unfold scV; rw [← H.out.2.1.2, ← H.out.2.2.2]; exact h2, rfl⟩
/-- How long the pair is. -/
noncomputable def longV (k : Int) (a b : Nat) : Option Nat := narrow (asqrt (widen (aop .mul .f32 (some 3221225472) (logV (oml (shK k a b))))))
theorem av_m2 : av .f32 3221225472 = some 3221225472 := by decide +kernel
theorem long_fv {k : Int} {a b r1 r2 r3 : Nat} (h1 : Fv .f32 (logV (oml (shK k a b))) r1) (h2 : Fv .f32 (aop .mul .f32 (av .f32 3221225472) (av .f32 r1)) r2) (h3 : Fv .f32 (narrow (asqrt (widen (av .f32 r2)))) r3) : Fv .f32 (longV k a b) r3 := by
  unfold longV; rw [← h1.2, ← av_m2, ← h2.2]; exact h3
set_option maxRecDepth 100000 in
set_option maxHeartbeats 1000000 in
theorem drawBells_yes (k : Int) (a b : Nat) (w : World) (hs : sOk k a b) (u v : Option Nat) (hP : ∀ w, Calls Try.prog 15 #[.float .f64 (shW k (nxA k a b) (nxB k a b))] w (NumC u v w)) :
    Calls Try.prog 67 #[sd k a b] w (RetC (fun r t => .tuple #[sd k (nxA k (nxA k a b) (nxB k a b)) (nxB k (nxA k a b) (nxB k a b)), .complex .f32 r t]) (scV u (longV k a b)) (scV v (longV k a b)) w) := by
  have HS := Lib.hid hs
  have HS2 := Lib.hid hs.next
  have HP := Lib.hid hP
  have hwd : ∀ w : World, (convert 50 22 (.float .f32 (shK k (nxA k a b) (nxB k a b)))).run Try.prog w = .ok (.float .f64 (shW k (nxA k a b) (nxB k a b))) w := fun w => (convert_wideC Try.underlying50 Try.underlying22 _ w).trans (shW_run hs.next w)
  have hm : ∀ (t : TypeId) (w : World), (binOp .sub t (.float .f32 1065353216) (.float .f32 (shK k a b))).run Try.prog w = .ok (.float .f32 (oml (shK k a b))) w := fun t w => oml_run hs t w
  have HO := Lib.hid (oml_lt hs)
  have HL := Lib.hid (fun (r1 r2 r3 : Nat) => long_fv (k := k) (a := a) (b := b) (r1 := r1) (r2 := r2) (r3 := r3))
  clear hs hP
  generalize hc : oml (shK k a b) = c at *
  have HC := Lib.hid hc
  clear hc
  generalize hW : shW k (nxA k a b) (nxB k a b) = sw at *
  have HU := Lib.hid hW
  clear hW
  go_enter Try.func67, Try.ntmps67
  go_wp2_with (first | (go_at_call 59; fail))
  generalize hW : World.alloc (World.alloc _ _) _ = w0
  have H0 : Hid (Below w.heap.size w w0 ∧ Whole w0 w.heap.size 31 (sdC k a b) ∧ Whole w0 (w.heap.size + 1) 31 (sdC 0 0 0)) := Lib.hid (by
    rw [← hW]; exact ⟨(by repeat (first | with_reducible exact Below.refl _ _ | with_reducible exact HBL | with_reducible refine Below.drew ?_ | with_reducible refine Bel_drewN ?_ _ | with_reducible refine Below.alloc ?_ (by first | omega | (simp; done) | (simp; omega)) _ | with_reducible refine Below.setCell ?_ (by first | omega | (simp; done) | (simp; omega)) _)), (Whole.made _ _ _).alloc _, Whole.made2 _ _ _ _⟩)
  clear hW
  refine (drawShare_any _ _ _ _ HS.out).mono ?_
  rintro e w1 ⟨rfl, hb⟩
  have r0 := H0.out.2.1.below hb
  obtain ⟨hc0, hf0⟩ := r0.facts
  have hz0 := r0.lt
  have H1 := Lib.hid (And.intro (Bel_next H0.out.1 hb) (And.intro r0 (H0.out.2.2.below hb)))
  clear r0 hb H0
  go_wp2_with (first | (go_at_call 59; fail))
  clear hc0 hf0 hz0
  generalize hW : World.setCell (World.setCell (World.setCell _ _ _) _ _) _ _ = w2
  have H2 : Hid (Below w.heap.size w w2 ∧ Whole w2 w.heap.size 31 (sdC k (nxA k a b) (nxB k a b)) ∧ Whole w2 (w.heap.size + 1) 31 (sdC 0 0 0)) := Lib.hid (by
    obtain ⟨HBL, q0, q1⟩ := H1.out
    rw [← hW]
    exact ⟨(by repeat (first | with_reducible exact Below.refl _ _ | with_reducible exact HBL | with_reducible refine Below.drew ?_ | with_reducible refine Bel_drewN ?_ _ | with_reducible refine Below.alloc ?_ (by first | omega | (simp; done) | (simp; omega)) _ | with_reducible refine Below.setCell ?_ (by first | omega | (simp; done) | (simp; omega)) _)), ((q0.put 0 _).put 1 _).put 2 _, ((q1.far (by first | omega | (simp; done) | (simp; omega)) _).far (by first | omega | (simp; done) | (simp; omega)) _).far (by first | omega | (simp; done) | (simp; omega)) _⟩)
  clear hW H1
  refine (drawShare_any _ _ _ _ HS2.out).mono ?_
  rintro e w3 ⟨rfl, hb⟩
  have r0 := H2.out.2.1.below hb
  obtain ⟨hc0, hf0⟩ := r0.facts
  have hz0 := r0.lt
  have H3 := Lib.hid (And.intro (Bel_next H2.out.1 hb) (And.intro r0 (H2.out.2.2.below hb)))
  clear r0 hb H2
  go_wp2_with (first | (go_at_call 102; fail))
  clear hc0 hf0 hz0
  generalize hW : World.setCell (World.setCell (World.setCell _ _ _) _ _) _ _ = w4
  have H4 : Hid (Below w.heap.size w w4 ∧ Whole w4 w.heap.size 31 (sdC k (nxA k (nxA k a b) (nxB k a b)) (nxB k (nxA k a b) (nxB k a b))) ∧ Whole w4 (w.heap.size + 1) 31 (sdC 0 0 0)) := Lib.hid (by
    obtain ⟨HBL, q0, q1⟩ := H3.out
    rw [← hW]
    exact ⟨(by repeat (first | with_reducible exact Below.refl _ _ | with_reducible exact HBL | with_reducible refine Below.drew ?_ | with_reducible refine Bel_drewN ?_ _ | with_reducible refine Below.alloc ?_ (by first | omega | (simp; done) | (simp; omega)) _ | with_reducible refine Below.setCell ?_ (by first | omega | (simp; done) | (simp; omega)) _)), ((q0.put 0 _).put 1 _).put 2 _, ((q1.far (by first | omega | (simp; done) | (simp; omega)) _).far (by first | omega | (simp; done) | (simp; omega)) _).far (by first | omega | (simp; done) | (simp; omega)) _⟩)
  clear hW H3
  refine (implLog_any c HO.out _).mono ?_
  rintro e w5 ⟨r1, n1, rfl, hr1, rfl⟩
  go_wp2_with (first
    | (refine wpList_farith .mul _ _ _ _ .f32 3221225472 r1 rfl rfl rfl ?_; intro r2 n2 hr2)
    | (go_at_call 65; fail))
  refine (implRoot_any r2 _).mono ?_
  rintro e w5 ⟨r3, n3, rfl, hr3, hw5⟩
  have hl3 : Fv .f32 (longV k a b) r3 := HL.out r1 r2 r3 hr1 hr2 hr3
  have HL3 := Lib.hid hl3
  have H5 : Hid (Below w.heap.size w w5 ∧ Whole w5 w.heap.size 31 (sdC k (nxA k (nxA k a b) (nxB k a b)) (nxB k (nxA k a b) (nxB k a b))) ∧ Whole w5 (w.heap.size + 1) 31 (sdC 0 0 0)) := Lib.hid (by
    obtain ⟨x, y, z⟩ := H4.out
    rw [hw5]
    exact ⟨by repeat (first | exact x | refine Bel_drewN ?_ _), by repeat (first | exact y | refine Whole.drewN ?_ _), by repeat (first | exact z | refine Whole.drewN ?_ _)⟩)
  clear hw5 H4 hl3 hr1 hr2 hr3
  obtain ⟨hc0, hf0⟩ := H5.out.2.1.facts
  obtain ⟨hc1, hf1⟩ := H5.out.2.2.facts
  have hz0 := H5.out.2.1.lt
  have hz1 := H5.out.2.2.lt
  go_wp2_with (first | (go_at_call 15; fail))
  go_region_with (first
    | (go_at_call 15; refine (HP.out _).mono ?_; rintro e w6 ⟨r4, t4, n4, rfl, hr4, ht4, rfl⟩)
    | (go_at_call 103; refine (implScale_any r4 t4 r3 u v (longV k a b) hr4 ht4 HL3.out _).mono ?_; rintro e w7 ⟨r5, t5, n5, rfl, hr5, ht5, rfl⟩))
  all_goals
    go_wp2_with fail
    obtain ⟨HBL, q0, q1⟩ := H5.out
    exact bodyPost_ret (v := .tuple #[sd k (nxA k (nxA k a b) (nxB k a b)) (nxB k (nxA k a b) (nxB k a b)), .complex .f32 r5 t5]) (by simp [results, Try.results67, go_sem, hc1]) rfl ⟨r5, t5, rfl, hr5, ht5, (by repeat (first | with_reducible exact Below.refl _ _ | with_reducible exact HBL | with_reducible refine Below.drew ?_ | with_reducible refine Bel_drewN ?_ _ | with_reducible refine Below.alloc ?_ (by first | omega | (simp; done) | (simp; omega)) _ | with_reducible refine Below.setCell ?_ (by first | omega | (simp; done) | (simp; omega)) _))⟩
set_option maxRecDepth 100000 in
set_option maxHeartbeats 1000000 in
theorem implBell_yes (k : Int) (a b : Nat) (w : World) (hs : sOk k a b) (u v : Option Nat) (hP : ∀ w, Calls Try.prog 15 #[.float .f64 (shW k (nxA k a b) (nxB k a b))] w (NumC u v w)) :
    Calls Try.prog 29 #[sd k a b] w (RetC (fun r t => .tuple #[sd k (nxA k (nxA k a b) (nxB k a b)) (nxB k (nxA k a b) (nxB k a b)), .complex .f32 r t, .bool true]) (scV u (longV k a b)) (scV v (longV k a b)) w) := by
  have HS := Lib.hid hs
  have HP := Lib.hid hP
  clear hs hP
  go_enter Try.func29, Try.ntmps29
  go_wp2_with fail
  refine (ValidSeed_any _ _ _ _).mono ?_
  rintro e w1 ⟨rfl, rfl⟩
  rw [HS.out.1]
  go_wp2_with fail
  refine (drawBells_yes _ _ _ _ HS.out u v HP.out).mono ?_
  rintro e w1 ⟨r1, s1, rfl, hr1, hs1, hb⟩
  have HBL : Below w.heap.size w w1 := Bel_next (by repeat (first | with_reducible exact Below.refl _ _ | with_reducible exact HBL | with_reducible refine Below.drew ?_ | with_reducible refine Bel_drewN ?_ _ | with_reducible refine Below.alloc ?_ (by first | omega | (simp; done) | (simp; omega)) _ | with_reducible refine Below.setCell ?_ (by first | omega | (simp; done) | (simp; omega)) _)) hb
  have q1 := ((Whole.made2 w (.cells (sdC k a b) 31) 31 (sdC 0 0 0)).alloc (.cells (sdC k a b) 31)).below hb
  have H := Lib.hid (And.intro HBL (And.intro hr1 hs1))
  obtain ⟨hc1, hf1⟩ := q1.facts
  have hz1 := q1.lt
  clear hb HBL q1 hr1 hs1
  go_wp2_with fail
  obtain ⟨HBL, hr1, hs1⟩ := H.out
  exact bodyPost_ret (v := .tuple #[sd k (nxA k (nxA k a b) (nxB k a b)) (nxB k (nxA k a b) (nxB k a b)), .complex .f32 r1 s1, .bool true]) (by simp [results, Try.results29, go_sem, hc1, hz1]) rfl ⟨r1, s1, rfl, hr1, hs1, (by repeat (first | with_reducible exact Below.refl _ _ | with_reducible exact HBL | with_reducible refine Below.drew ?_ | with_reducible refine Bel_drewN ?_ _ | with_reducible refine Below.alloc ?_ (by first | omega | (simp; done) | (simp; omega)) _ | with_reducible refine Below.setCell ?_ (by first | omega | (simp; done) | (simp; omega)) _))⟩
theorem implBell_no (k : Int) (a b : Nat) (w : World) (hv : vSeed k a b = false) :
    Calls Try.prog 29 #[sd k a b] w (RetC (fun r t => .tuple #[sd 0 0 0, .complex .f32 r t, .bool false]) (some 0) (some 0) w) := by
  go_enter Try.func29, Try.ntmps29
  go_wp2_with fail
  refine (ValidSeed_any _ _ _ _).mono ?_
  rintro e w1 ⟨rfl, rfl⟩
  go_wp2_with fail
  exact bodyPost_ret (v := .tuple #[sd 0 0 0, .complex .f32 0 0, .bool false]) (by simp [results, Try.results29, go_sem]) rfl ⟨0, 0, rfl, ⟨by decide, by decide +kernel⟩, ⟨by decide, by decide +kernel⟩, (by repeat (first | with_reducible exact Below.refl _ _ | with_reducible exact HBL | with_reducible refine Below.drew ?_ | with_reducible refine Bel_drewN ?_ _ | with_reducible refine Below.alloc ?_ (by first | omega | (simp; done) | (simp; omega)) _ | with_reducible refine Below.setCell ?_ (by first | omega | (simp; done) | (simp; omega)) _))⟩
def BellP (g : Nat) (k : Int) (a b : Nat) (u v : Option Nat) (w : World) (e : Ending) (w' : World) : Prop :=
  ∃ r t, e = .returned (.complex .f32 r t) ∧ Fv .f32 u r ∧ Fv .f32 v t ∧ Whole w' g 31 (sdC k (nxA k (nxA k a b) (nxB k a b)) (nxB k (nxA k a b) (nxB k a b))) ∧ w.grownBy w' (some g)
set_option maxRecDepth 100000 in
set_option maxHeartbeats 1000000 in
theorem l03Bell_any (g : Nat) (k : Int) (a b : Nat) (w : World) (hs : sOk k a b) (hw : Whole w g 31 (sdC k a b)) (u v : Option Nat) (hP : ∀ w, Calls Try.prog 49 #[.float .f64 (shW k (nxA k a b) (nxB k a b))] w (NumC u v w)) :
    Calls Try.prog 66 #[.pointer (some ⟨g, 0, none⟩)] w (BellP g k a b (scV u (longV k a b)) (scV v (longV k a b)) w) := by
  have HS := Lib.hid hs
  have HS2 := Lib.hid hs.next
  have HP := Lib.hid hP
  have HW := Lib.hid hw
  have hwd : ∀ w : World, (convert 50 22 (.float .f32 (shK k (nxA k a b) (nxB k a b)))).run Try.prog w = .ok (.float .f64 (shW k (nxA k a b) (nxB k a b))) w := fun w => (convert_wideC Try.underlying50 Try.underlying22 _ w).trans (shW_run hs.next w)
  have hm : ∀ (t : TypeId) (w : World), (binOp .sub t (.float .f32 1065353216) (.float .f32 (shK k a b))).run Try.prog w = .ok (.float .f32 (oml (shK k a b))) w := fun t w => oml_run hs t w
  have HO := Lib.hid (oml_lt hs)
  have HL := Lib.hid (fun (r1 r2 r3 : Nat) => long_fv (k := k) (a := a) (b := b) (r1 := r1) (r2 := r2) (r3 := r3))
  clear hs hP hw
  generalize hc : oml (shK k a b) = c at *
  have HC := Lib.hid hc
  clear hc
  generalize hW : shW k (nxA k a b) (nxB k a b) = sw at *
  have HU := Lib.hid hW
  clear hW
  go_enter Try.func66, Try.ntmps66
  go_wp2_with (first | (go_at_call 57; fail))
  refine (l02Share_any _ _ _ _ _ HS.out HW.out).mono ?_
  rintro e w2 ⟨rfl, q0, hg⟩
  have H := Lib.hid (And.intro q0 hg)
  clear q0 hg HW
  go_wp2_with (first | (go_at_call 57; fail))
  refine (l02Share_any _ _ _ _ _ HS2.out H.out.1).mono ?_
  rintro e w3 ⟨rfl, q0, hg⟩
  have H3 := Lib.hid (And.intro q0 (grown_trans H.out.2 hg))
  clear q0 hg H
  go_wp2_with (first
    | (go_at_call 49; refine (HP.out _).mono ?_; rintro e w4 ⟨r4, t4, n4, rfl, hr4, ht4, rfl⟩)
    | (go_at_call 101; refine (l01Log_any c HO.out _).mono ?_; rintro e w5 ⟨r1, n1, rfl, hr1, rfl⟩)
    | (refine wpList_farith .mul _ _ _ _ .f32 3221225472 r1 rfl rfl rfl ?_; intro r2 n2 hr2)
    | (go_at_call 63; refine (l01Sqrt_any r2 _).mono ?_; rintro e w6 ⟨r3, n3, rfl, hr3, rfl⟩)
    | (go_at_call 100; refine (l01Scale_any r4 t4 r3 u v (longV k a b) hr4 ht4 (HL.out r1 r2 r3 hr1 hr2 hr3) _).mono ?_; rintro e w7 ⟨r5, t5, n5, rfl, hr5, ht5, rfl⟩))
  go_ret
  exact ⟨r5, t5, rfl, hr5, ht5, by repeat (first | exact H3.out.1 | refine Whole.drewN ?_ _), by repeat (first | exact H3.out.2 | refine grown_trans ?_ (grown_drewN _ _ _))⟩
set_option maxRecDepth 100000 in
set_option maxHeartbeats 1000000 in
theorem specBell_yes (k : Int) (a b : Nat) (w : World) (hs : sOk k a b) (u v : Option Nat) (hP : ∀ w, Calls Try.prog 49 #[.float .f64 (shW k (nxA k a b) (nxB k a b))] w (NumC u v w)) :
    Calls Try.prog 28 #[sd k a b] w (RetC (fun r t => .tuple #[sd k (nxA k (nxA k a b) (nxB k a b)) (nxB k (nxA k a b) (nxB k a b)), .complex .f32 r t, .bool true]) (scV u (longV k a b)) (scV v (longV k a b)) w) := by
  have HS := Lib.hid hs
  have HP := Lib.hid hP
  have p0 := Lib.hid ((Whole.made w 31 (sdC k a b)).alloc (.cells (sdC 0 0 0) 31))
  have p1 := Lib.hid (Whole.made2 w (.cells (sdC k a b) 31) 31 (sdC 0 0 0))
  clear hs hP
  go_enter Try.func28, Try.ntmps28
  go_wp2_with fail
  refine (l02Is_any _ _ _ _ _ p0.out).mono ?_
  rintro e w1 ⟨rfl, rfl⟩
  rw [HS.out.1]
  go_wp2_with fail
  refine (l03Bell_any _ _ _ _ _ HS.out p0.out u v HP.out).mono ?_
  rintro e w2 ⟨r1, s1, rfl, hr1, hs1, q0, hg⟩
  have q1 := p1.out.grown hg (by simp)
  have B2 : Below w.heap.size w w2 := Below.grown (by repeat (first | with_reducible exact Below.refl _ _ | with_reducible exact HBL | with_reducible refine Below.drew ?_ | with_reducible refine Bel_drewN ?_ _ | with_reducible refine Below.alloc ?_ (by first | omega | (simp; done) | (simp; omega)) _ | with_reducible refine Below.setCell ?_ (by first | omega | (simp; done) | (simp; omega)) _)) hg (by simp <;> omega) (by simp)
  have HB := Lib.hid (And.intro B2 (And.intro hr1 hs1))
  obtain ⟨hc0, hf0⟩ := q0.facts
  obtain ⟨hc1, hf1⟩ := q1.facts
  have hz0 := q0.lt
  have hz1 := q1.lt
  clear q0 q1 hg B2 p0 p1 hr1 hs1
  go_wp2_with fail
  obtain ⟨HBL, hr1, hs1⟩ := HB.out
  exact bodyPost_ret (v := .tuple #[sd k (nxA k (nxA k a b) (nxB k a b)) (nxB k (nxA k a b) (nxB k a b)), .complex .f32 r1 s1, .bool true]) (by simp [results, Try.results28, go_sem, hc1]) rfl ⟨r1, s1, rfl, hr1, hs1, (by repeat (first | with_reducible exact Below.refl _ _ | with_reducible exact HBL | with_reducible refine Below.drew ?_ | with_reducible refine Bel_drewN ?_ _ | with_reducible refine Below.alloc ?_ (by first | omega | (simp; done) | (simp; omega)) _ | with_reducible refine Below.setCell ?_ (by first | omega | (simp; done) | (simp; omega)) _))⟩
theorem specBell_no (k : Int) (a b : Nat) (w : World) (hv : vSeed k a b = false) :
    Calls Try.prog 28 #[sd k a b] w (RetC (fun r t => .tuple #[sd 0 0 0, .complex .f32 r t, .bool false]) (some 0) (some 0) w) := by
  have p0 := Lib.hid ((Whole.made w 31 (sdC k a b)).alloc (.cells (sdC 0 0 0) 31))
  go_enter Try.func28, Try.ntmps28
  go_wp2_with fail
  refine (l02Is_any _ _ _ _ _ p0.out).mono ?_
  rintro e w1 ⟨rfl, rfl⟩
  go_wp2_with fail
  exact bodyPost_ret (v := .tuple #[sd 0 0 0, .complex .f32 0 0, .bool false]) (by simp [results, Try.results28, go_sem]) rfl ⟨0, 0, rfl, ⟨by decide, by decide +kernel⟩, ⟨by decide, by decide +kernel⟩, (by repeat (first | with_reducible exact Below.refl _ _ | with_reducible exact HBL | with_reducible refine Below.drew ?_ | with_reducible refine Bel_drewN ?_ _ | with_reducible refine Below.alloc ?_ (by first | omega | (simp; done) | (simp; omega)) _ | with_reducible refine Below.setCell ?_ (by first | omega | (simp; done) | (simp; omega)) _))⟩
theorem bell_both (k : Int) (a b : Nat) (hs : sOk k a b) : ∃ u v, (∀ w, Calls Try.prog 29 #[sd k a b] w (RetC (fun r t => .tuple #[sd k (nxA k (nxA k a b) (nxB k a b)) (nxB k (nxA k a b) (nxB k a b)), .complex .f32 r t, .bool true]) u v w)) ∧ (∀ w, Calls Try.prog 28 #[sd k a b] w (RetC (fun r t => .tuple #[sd k (nxA k (nxA k a b) (nxB k a b)) (nxB k (nxA k a b) (nxB k a b)), .complex .f32 r t, .bool true]) u v w)) := by
  obtain ⟨u, v, hI, hS⟩ := phasor_both (shW k (nxA k a b) (nxB k a b)) (shW_lt _ _ _)
  exact ⟨_, _, fun w => implBell_yes k a b w hs u v hI, fun w => specBell_yes k a b w hs u v hS⟩
end Go.Proofs.Yticmnkgcolgpaaa
