/- Angles: AngleTurns of the code, its walk. -/
import Derived.Test.YticmnkgcolgpaaaAte
namespace Go.Proofs.Yticmnkgcolgpaaa.Fl
open Go Go.RowKit Ieee
set_option linter.unusedVariables false
theorem av_quartw : av .f64 4598175219545276416 = some QUART := by decide
theorem av_halfw : av .f64 4602678819172646912 = some HALF := by decide
theorem mod_self {y Y : Nat} (h : Wd y Y) : av .f64 (Y % 9223372036854775808) = some (Y % 9223372036854775808) := av_some (k := .f64) (by
  have h1 : double.signWeight = 9223372036854775808 := by decide
  have h2 := read_rung .f64 (Y % 9223372036854775808) (by show Y % 9223372036854775808 % double.signWeight < double.infRung; rw [h1, Nat.mod_mod]; exact Nat.lt_of_le_of_lt h.mag (by decide))
  rw [h2]; rfl)
theorem Words.fin_t {a b : Nat} {ov xn : Bool} {T S V1 V2 : Nat} (h : Words a b ov xn true T S V1 V2) : av .f64 (Op.negFloat .f64 V2) = angV a b xn true := by
  rw [h.ang, if_pos rfl]
  refine av_some (k := .f64) ?_
  rw [show FloatKind.f64.format = double from rfl]
  have := neg_nan .f64 V2
  rw [show FloatKind.f64.format = double from rfl] at this
  rw [this]
  exact av_notNaN (k := .f64) h.a2
theorem Words.fin_f {a b : Nat} {ov xn : Bool} {T S V1 V2 : Nat} (h : Words a b ov xn false T S V1 V2) : av .f64 V2 = angV a b xn false := by
  rw [h.ang, if_neg (by decide)]
  exact h.a2
set_option maxRecDepth 100000 in
set_option maxHeartbeats 4000000 in
theorem implAng_yes (y x Y X : Nat) (hy : Wd y Y) (hx : Wd x X) (fy : finA .f32 (av .f32 y) = true) (fx : finA .f32 (av .f32 x) = true) (hnz : ¬((FloatKind.f32.format.order y 0 == some Ordering.eq) = true ∧ (FloatKind.f32.format.order x 0 == some Ordering.eq) = true)) (w : World) :
    Calls Try.prog 42 #[.float .f32 y, .float .f32 x] w (NumP .f32 (narrow (angV (Y % 9223372036854775808) (X % 9223372036854775808) (FloatKind.f32.format.order x 0 == some Ordering.lt) (FloatKind.f32.format.order y 0 == some Ordering.lt))) w) := by
  have h0 : 0 < Y % 9223372036854775808 ∨ 0 < X % 9223372036854775808 := by
    rcases Nat.eq_zero_or_pos (Y % 9223372036854775808) with e | e
    · rcases Nat.eq_zero_or_pos (X % 9223372036854775808) with e2 | e2
      · exact absurd ⟨hy.zero e, hx.zero e2⟩ hnz
      · exact .inr e2
    · exact .inl e
  obtain ⟨ov, hov⟩ : ∃ ov, (FloatKind.f64.format.order (Y % 9223372036854775808) (X % 9223372036854775808) == some Ordering.gt) = ov := ⟨_, rfl⟩
  obtain ⟨xn, hxn⟩ : ∃ xn, (FloatKind.f32.format.order x 0 == some Ordering.lt) = xn := ⟨_, rfl⟩
  obtain ⟨yn, hyn⟩ : ∃ yn, (FloatKind.f32.format.order y 0 == some Ordering.lt) = yn := ⟨_, rfl⟩
  obtain ⟨zy, hzy⟩ : ∃ z, (FloatKind.f32.format.order y 0 == some Ordering.eq) = z := ⟨_, rfl⟩
  obtain ⟨zx, hzx⟩ : ∃ z, (FloatKind.f32.format.order x 0 == some Ordering.eq) = z := ⟨_, rfl⟩
  rw [hxn, hyn]
  rw [hzy, hzx] at hnz
  obtain ⟨T, S, V1, V2, hW⟩ := words_of (xn := xn) (yn := yn) hov (lessQ_in hy.mag hx.mag h0)
  have HY := Lib.hid hy
  have HX := Lib.hid hx
  have HW := Lib.hid hW
  have HFY := Lib.hid fy
  have HFX := Lib.hid fx
  have hyl := hy.lt
  have hxl := hx.lt
  have HA := Lib.hid (And.intro (mod_self hy) (mod_self hx))
  clear hy hx hW fy fx h0
  generalize hYa : Y % 9223372036854775808 = a at *
  generalize hXb : X % 9223372036854775808 = b at *
  have HYa := Lib.hid hYa
  have HXb := Lib.hid hXb
  clear hYa hXb
  have hz : (zy = true → zx = false) := fun h => by
    cases zx with
    | false => rfl
    | true => exact absurd ⟨h, rfl⟩ hnz
  clear hnz
  cases zy
  all_goals (try (obtain rfl := hz rfl))
  all_goals clear hz
  all_goals cases ov
  all_goals cases xn
  all_goals cases yn
  all_goals (try (obtain rfl := HW.out.u2 rfl))
  all_goals (try (obtain rfl := HW.out.v2 rfl))
  all_goals
    go_enter Try.func42, Try.ntmps42
    go_wp2_with (first | (go_at_call 83; fail))
    refine (IsFinite_any _ _).mono ?_
    rintro e w' ⟨q1, rfl, rfl⟩
    rw [HFY.out]
    go_wp2_with (first | (go_at_call 83; fail))
    refine (IsFinite_any _ _).mono ?_
    rintro e w' ⟨q2, rfl, rfl⟩
    rw [HFX.out]
    go_wp2_with (first
      | (go_at_call 52; fail)
      | (refine wpList_widen _ _ _ _ rfl Try.underlying50 Try.underlying22 ?_; intro r n hr; obtain rfl := (av_eq (hr.2.trans HY.out.eq)).symm; clear hr))
    refine (Abs_any _ hyl _).mono ?_
    rintro e w' ⟨rfl, rfl⟩
    rw [HYa.out]
    go_wp2_with (first
      | (go_at_call 52; fail)
      | (refine wpList_widen _ _ _ _ rfl Try.underlying50 Try.underlying22 ?_; intro r n hr; obtain rfl := (av_eq (hr.2.trans HX.out.eq)).symm; clear hr))
    refine (Abs_any _ hxl _).mono ?_
    rintro e w' ⟨rfl, rfl⟩
    rw [HXb.out]
    go_wp2_with (first
      | (go_at_call 84; fail)
      | (refine wpList_farith _ _ _ _ _ .f64 _ _ rfl rfl rfl ?_; intro r n hr; have e := hr.2; rw [HA.out.1, HA.out.2] at e; first | (rw [HW.out.t1 rfl] at e) | (rw [HW.out.t2 rfl] at e)))
    obtain rfl := av_eq e
    refine (steep_any _ _ HW.out.at_ _).mono ?_
    rintro e2 w' ⟨r1, n1, rfl, hr1, rfl⟩
    rw [HW.out.s] at hr1
    obtain rfl := av_eq hr1.2
    clear hr hr1 e
    go_wp2_with (first
      | (refine wpList_farith _ _ _ _ _ .f64 _ _ rfl rfl rfl ?_; intro r n hr; have e := hr.2; clear hr; first | (rw [av_quartw, HW.out.as_, HW.out.u1 rfl] at e; obtain rfl := av_eq e) | (rw [av_halfw, HW.out.a1, HW.out.v1 rfl] at e; obtain rfl := av_eq e))
      | (refine wpList_narrow _ _ _ _ rfl Try.underlying22 Try.underlying50 (by first | (rw [HW.out.fin_t]; exact .inr (.inl HW.out.big)) | (rw [HW.out.fin_f]; exact .inr (.inl HW.out.big))) ?_; intro r3 n3 hr3))
    go_ret
    first
      | (rw [HW.out.fin_t] at hr3; exact ⟨r3, _, rfl, hr3, rfl⟩)
      | (rw [HW.out.fin_f] at hr3; exact ⟨r3, _, rfl, hr3, rfl⟩)
end Go.Proofs.Yticmnkgcolgpaaa.Fl
