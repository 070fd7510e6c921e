/- Angles: what is left, both sides. -/
import Derived.Test.YticmnkgcolgpaaaAtg
import Derived.Test.YticmnkgcolgpaaaGd
namespace Go.Proofs.Yticmnkgcolgpaaa.Fl
open Go Go.RowKit Ieee
set_option linter.unusedVariables false
theorem NaN_anyA (w : World) : Calls Try.prog 51 #[] w (fun e w' => e = .returned (.float .f64 9221120237041090561) ∧ w = w') := by
  go_enter Try.func51, Try.ntmps51
  go_wp2
  go_ret
  exact ⟨by simp, rfl⟩
theorem av_nanA : av .f64 9221120237041090561 = none := by decide
theorem sub_nonfinA {v : Option Nat} {r r1 : Nat} (hr : av .f64 r = v) (hA : finA .f64 v = false) (h1 : Fv .f64 (aop .sub .f64 (av .f64 r) (av .f64 r)) r1) : (FloatKind.f64.format.order r1 0 != some Ordering.eq) = true := by
  rw [hr] at h1
  have h := sub_self_zero .f64 v (fun x hx => by have e := hr; rw [hx] at e; exact av_notNaN e) r1 h1
  unfold bne
  rw [h, hA]; rfl
def zeroes (y x : Nat) : Bool := (FloatKind.f32.format.order y 0 == some Ordering.eq) && (FloatKind.f32.format.order x 0 == some Ordering.eq)
/-- The angle, before it is narrowed. -/
def angW (y x : Nat) : Option Nat :=
  if finA .f32 (av .f32 y) = true ∧ finA .f32 (av .f32 x) = true then
    if zeroes y x = true then some 0
    else angV ((widen (av .f32 y)).getD 0 % 9223372036854775808) ((widen (av .f32 x)).getD 0 % 9223372036854775808) (FloatKind.f32.format.order x 0 == some Ordering.lt) (FloatKind.f32.format.order y 0 == some Ordering.lt)
  else none
theorem angW_main {y x Y X : Nat} (hy : Wd y Y) (hx : Wd x X) (fy : finA .f32 (av .f32 y) = true) (fx : finA .f32 (av .f32 x) = true) (hz : zeroes y x = false) : angW y x = angV (Y % 9223372036854775808) (X % 9223372036854775808) (FloatKind.f32.format.order x 0 == some Ordering.lt) (FloatKind.f32.format.order y 0 == some Ordering.lt) := by
  unfold angW
  rw [if_pos ⟨fy, fx⟩, if_neg (by rw [hz]; decide), hy.eq, hx.eq]
  rfl
theorem zeroes_not {y x : Nat} (hz : zeroes y x = false) : ¬((FloatKind.f32.format.order y 0 == some Ordering.eq) = true ∧ (FloatKind.f32.format.order x 0 == some Ordering.eq) = true) := fun h => by
  unfold zeroes at hz; rw [h.1, h.2] at hz; cases hz
set_option maxRecDepth 100000 in
set_option maxHeartbeats 1000000 in
theorem implAng_any (y x : Nat) (w : World) : Calls Try.prog 42 #[.float .f32 y, .float .f32 x] w (NumP .f32 (narrow (angW y x)) w) := by
  cases fy : finA .f32 (av .f32 y) with
  | false =>
    have HA : Hid (angW y x = none) := Lib.hid (by unfold angW; rw [if_neg (by rw [fy]; simp)])
    have HFY := Lib.hid fy
    clear fy
    go_enter Try.func42, Try.ntmps42
    go_wp2_with (first | (go_at_call 83; fail))
    refine (IsFinite_any _ _).mono ?_
    rintro e w' ⟨q1, rfl, rfl⟩
    rw [HFY.out]
    go_wp2_with (first | (go_at_call 83; fail) | (go_at_call 51; refine (NaN_anyA _).mono ?_; rintro e w' ⟨rfl, rfl⟩) | (refine wpList_narrow _ _ _ _ rfl Try.underlying22 Try.underlying50 (.inl av_nanA) ?_; intro r3 n3 hr3))
    go_ret
    rw [av_nanA] at hr3
    exact ⟨r3, _, rfl, by rw [HA.out]; exact hr3, rfl⟩
  | true =>
    cases fx : finA .f32 (av .f32 x) with
    | false =>
      have HA : Hid (angW y x = none) := Lib.hid (by unfold angW; rw [if_neg (by rw [fx]; simp)])
      have HFY := Lib.hid fy
      have HFX := Lib.hid fx
      clear fy fx
      go_enter Try.func42, Try.ntmps42
      go_wp2_with (first | (go_at_call 83; fail))
      refine (IsFinite_any _ _).mono ?_
      rintro e w' ⟨q1, rfl, rfl⟩
      rw [HFY.out]
      go_wp2_with (first | (go_at_call 83; fail))
      refine (IsFinite_any _ _).mono ?_
      rintro e w' ⟨q2, rfl, rfl⟩
      rw [HFX.out]
      go_wp2_with (first | (go_at_call 51; refine (NaN_anyA _).mono ?_; rintro e w' ⟨rfl, rfl⟩) | (refine wpList_narrow _ _ _ _ rfl Try.underlying22 Try.underlying50 (.inl av_nanA) ?_; intro r3 n3 hr3))
      go_ret
      rw [av_nanA] at hr3
      exact ⟨r3, _, rfl, by rw [HA.out]; exact hr3, rfl⟩
    | true =>
      obtain ⟨Y, hy⟩ := wd_of fy
      obtain ⟨X, hx⟩ := wd_of fx
      cases hz : zeroes y x with
      | false =>
        rw [angW_main hy hx fy fx hz]
        exact implAng_yes y x Y X hy hx fy fx (zeroes_not hz) w
      | true =>
        have HA : Hid (angW y x = some 0) := Lib.hid (by unfold angW; rw [if_pos ⟨fy, fx⟩, if_pos hz])
        have hzy : (FloatKind.f32.format.order y 0 == some Ordering.eq) = true := by unfold zeroes at hz; simp only [Bool.and_eq_true] at hz; exact hz.1
        have hzx : (FloatKind.f32.format.order x 0 == some Ordering.eq) = true := by unfold zeroes at hz; simp only [Bool.and_eq_true] at hz; exact hz.2
        have HFY := Lib.hid fy
        have HFX := Lib.hid fx
        clear fy fx hz hy hx
        go_enter Try.func42, Try.ntmps42
        go_wp2_with (first | (go_at_call 83; fail))
        refine (IsFinite_any _ _).mono ?_
        rintro e w' ⟨q1, rfl, rfl⟩
        rw [HFY.out]
        go_wp2_with (first | (go_at_call 83; fail))
        refine (IsFinite_any _ _).mono ?_
        rintro e w' ⟨q2, rfl, rfl⟩
        rw [HFX.out]
        go_wp2_with fail
        go_ret
        exact ⟨0, _, rfl, by rw [HA.out]; exact ⟨by decide, by decide +kernel⟩, rfl⟩
theorem finW {y r : Nat} (hr : Fv .f64 (widen (av .f32 y)) r) : finA .f64 (av .f64 r) = finA .f32 (av .f32 y) := by
  rw [hr.2, finA_widen _ (fun _ h => av_notNaN (k := .f32) h)]
set_option maxRecDepth 100000 in
set_option maxHeartbeats 1000000 in
theorem wideAng_any (y x r1 r2 : Nat) (h1 : Fv .f64 (widen (av .f32 y)) r1) (h2 : Fv .f64 (widen (av .f32 x)) r2) (w : World) : Calls Try.prog 109 #[.float .f64 r1, .float .f64 r2] w (NumW (angW y x) w) := by
  cases fy : finA .f32 (av .f32 y) with
  | false =>
    have HA : Hid (angW y x = none) := Lib.hid (by unfold angW; rw [if_neg (by rw [fy]; simp)])
    obtain ⟨c, n, hc, hcv⟩ := run_farith (P := Try.prog) .sub .f64 r1 r1 w rfl
    have hz := sub_nonfinA rfl (by rw [finW h1]; exact fy) hcv
    have hsub : ∀ t, (binOp .sub t (.float .f64 r1) (.float .f64 r1)).run Try.prog w = .ok (.float .f64 c) (w.drewN n) := fun t => by rw [show binOp .sub t (.float .f64 r1) (.float .f64 r1) = Op.floatArith .sub .f64 r1 r1 from by simp [binOp]]; exact hc
    clear hc hcv h1 h2 fy
    go_enter Try.func109, Try.ntmps109
    go_wp2_with (first | (go_at_call 51; refine (NaN_anyA _).mono ?_; rintro e w' ⟨rfl, rfl⟩))
    go_ret
    exact ⟨_, _, rfl, by rw [HA.out]; exact ⟨by decide, av_nanA⟩, rfl⟩
  | true =>
    obtain ⟨Y, hy⟩ := wd_of fy
    have e1 : r1 = Y := av_eq (h1.2.trans hy.eq)
    subst e1
    obtain ⟨sy, my, iy, ey⟩ := hy.num
    obtain ⟨cy, cy1, cy2⟩ := self_sub r1 sy my iy ey
    rw [hy.self] at cy1
    have hsy : ∀ (t : TypeId) (w : World), (binOp .sub t (.float .f64 r1) (.float .f64 r1)).run Try.prog w = .ok (.float .f64 cy) w := fun t w => run_float_arith w _ _ _ _ _ _ cy1
    cases fx : finA .f32 (av .f32 x) with
    | false =>
      have HA : Hid (angW y x = none) := Lib.hid (by unfold angW; rw [if_neg (by rw [fx]; simp)])
      obtain ⟨c, n, hc, hcv⟩ := run_farith (P := Try.prog) .sub .f64 r2 r2 w rfl
      have hz := sub_nonfinA rfl (by rw [finW h2]; exact fx) hcv
      have hsub : ∀ t, (binOp .sub t (.float .f64 r2) (.float .f64 r2)).run Try.prog w = .ok (.float .f64 c) (w.drewN n) := fun t => by rw [show binOp .sub t (.float .f64 r2) (.float .f64 r2) = Op.floatArith .sub .f64 r2 r2 from by simp [binOp]]; exact hc
      clear hc hcv h1 h2 fy fx ey cy1 hy
      go_enter Try.func109, Try.ntmps109
      go_wp2_with (first | (go_at_call 51; refine (NaN_anyA _).mono ?_; rintro e w' ⟨rfl, rfl⟩))
      go_ret
      exact ⟨_, _, rfl, by rw [HA.out]; exact ⟨by decide, av_nanA⟩, rfl⟩
    | true =>
      obtain ⟨X, hx⟩ := wd_of fx
      have e2 : r2 = X := av_eq (h2.2.trans hx.eq)
      subst e2
      cases hz : zeroes y x with
      | false =>
        rw [angW_main hy hx fy fx hz]
        exact wideAng_yes y x r1 r2 hy hx (zeroes_not hz) w
      | true =>
        have HA : Hid (angW y x = some 0) := Lib.hid (by unfold angW; rw [if_pos ⟨fy, fx⟩, if_pos hz])
        obtain ⟨sx, mx, ix, ex⟩ := hx.num
        obtain ⟨cx, cx1, cx2⟩ := self_sub r2 sx mx ix ex
        rw [hx.self] at cx1
        have hsx : ∀ (t : TypeId) (w : World), (binOp .sub t (.float .f64 r2) (.float .f64 r2)).run Try.prog w = .ok (.float .f64 cx) w := fun t w => run_float_arith w _ _ _ _ _ _ cx1
        have hzy : (FloatKind.f64.format.order r1 0 == some Ordering.eq) = true := by rw [hy.ord]; unfold zeroes at hz; simp only [Bool.and_eq_true] at hz; exact hz.1
        have hzx : (FloatKind.f64.format.order r2 0 == some Ordering.eq) = true := by rw [hx.ord]; unfold zeroes at hz; simp only [Bool.and_eq_true] at hz; exact hz.2
        clear h1 h2 fy fx ey ex cy1 cx1 hy hx hz
        go_enter Try.func109, Try.ntmps109
        go_wp2_with fail
        go_ret
        exact ⟨0, 0, rfl, by rw [HA.out]; exact ⟨by decide, av_zero .f64⟩, by rw [World.drewN_zero]⟩
theorem angW_ok (y x : Nat) : angW y x = none ∨ In .f64 R127 (angW y x) ∨ ∃ b, angW y x = some b ∧ (double.read b).isInfinity = true := by
  by_cases h : finA .f32 (av .f32 y) = true ∧ finA .f32 (av .f32 x) = true
  · obtain ⟨Y, hy⟩ := wd_of h.1
    obtain ⟨X, hx⟩ := wd_of h.2
    cases hz : zeroes y x with
    | true => right; left; unfold angW; rw [if_pos h, if_pos hz]; exact ⟨0, rfl, by decide⟩
    | false =>
      right; left
      rw [angW_main hy hx h.1 h.2 hz]
      have h0 : 0 < Y % 9223372036854775808 ∨ 0 < X % 9223372036854775808 := by
        rcases Nat.eq_zero_or_pos (Y % 9223372036854775808) with e | e
        · rcases Nat.eq_zero_or_pos (X % 9223372036854775808) with e2 | e2
          · exact absurd ⟨hy.zero e, hx.zero e2⟩ (zeroes_not hz)
          · exact .inr e2
        · exact .inl e
      obtain ⟨T, S, V1, V2, hW⟩ := words_of (xn := (FloatKind.f32.format.order x 0 == some Ordering.lt)) (yn := (FloatKind.f32.format.order y 0 == some Ordering.lt)) rfl (lessQ_in hy.mag hx.mag h0)
      exact hW.big
  · left; unfold angW; rw [if_neg h]
set_option maxRecDepth 100000 in
theorem specAngle_any (y x : Nat) (w : World) : Calls Try.prog 82 #[.float .f32 y, .float .f32 x] w (NumP .f32 (narrow (angW y x)) w) := by
  have hflag : True := trivial
  go_enter Try.func82, Try.ntmps82
  go_wp2_with (first | (go_at_call 109; fail) | (clear hflag; refine wpList_widen _ _ _ _ rfl Try.underlying50 Try.underlying22 ?_; intro r1 n1 h1) | (refine wpList_widen _ _ _ _ rfl Try.underlying50 Try.underlying22 ?_; intro r2 n2 h2))
  refine (wideAng_any y x r1 r2 h1 h2 _).mono ?_
  rintro e w' ⟨r3, n3, rfl, h3, rfl⟩
  go_wp2_with (first | (go_at_call 92; fail))
  refine (l01Narrow_any r3 _ h3 (angW_ok y x) _).mono ?_
  rintro e w' ⟨r4, n4, rfl, h4, rfl⟩
  go_wp2_with fail
  go_ret
  exact ⟨r4, _, rfl, h4, rfl⟩
end Go.Proofs.Yticmnkgcolgpaaa.Fl
