/- Angles: the model's l01AngleWide. -/
import Derived.Test.YticmnkgcolgpaaaAtf
import Derived.Test.YticmnkgcolgpaaaSineT
import Derived.Laws.FloatArith
namespace Go.Proofs.Yticmnkgcolgpaaa.Fl
open Go Go.RowKit Ieee
set_option linter.unusedVariables false
theorem aop_lt {op : BinOp} {u v : Option Nat} {r : Nat} (h : aop op .f64 u v = some r) : r < 2 ^ FloatKind.f64.format.width := by
  cases u with
  | none => cases v <;> cases h
  | some x =>
    cases v with
    | none => cases h
    | some y => exact bop_lt (op := op) (k := .f64) (x := x) (y := y) h
theorem Words.lt2 {a b : Nat} {ov xn yn : Bool} {T S V1 V2 : Nat} (h : Words a b ov xn yn T S V1 V2) : V2 < 2 ^ FloatKind.f64.format.width := by
  have hs : S < 2 ^ FloatKind.f64.format.width := by have := h.s; unfold stV at this; exact aop_lt this
  have h1 : V1 < 2 ^ FloatKind.f64.format.width := by
    cases ov with
    | true => exact aop_lt (h.u1 rfl)
    | false => rw [h.u2 rfl]; exact hs
  cases xn with
  | true => exact aop_lt (h.v1 rfl)
  | false => rw [h.v2 rfl]; exact h1
set_option maxRecDepth 100000 in
set_option maxHeartbeats 16000000 in
theorem wideAng_yes (y x Y X : Nat) (hy : Wd y Y) (hx : Wd x X) (hnz : ¬((FloatKind.f32.format.order y 0 == some Ordering.eq) = true ∧ (FloatKind.f32.format.order x 0 == some Ordering.eq) = true)) (w : World) :
    Calls Try.prog 109 #[.float .f64 Y, .float .f64 X] w (NumW (angV (Y % 9223372036854775808) (X % 9223372036854775808) (FloatKind.f32.format.order x 0 == some Ordering.lt) (FloatKind.f32.format.order y 0 == some Ordering.lt)) w) := by
  have h0 : 0 < Y % 9223372036854775808 ∨ 0 < X % 9223372036854775808 := by
    rcases Nat.eq_zero_or_pos (Y % 9223372036854775808) with e | e
    · rcases Nat.eq_zero_or_pos (X % 9223372036854775808) with e2 | e2
      · exact absurd ⟨hy.zero e, hx.zero e2⟩ hnz
      · exact .inr e2
    · exact .inl e
  obtain ⟨ov, hov⟩ : ∃ ov, (FloatKind.f64.format.order (Y % 9223372036854775808) (X % 9223372036854775808) == some Ordering.gt) = ov := ⟨_, rfl⟩
  obtain ⟨xn, hxn⟩ : ∃ xn, (FloatKind.f32.format.order x 0 == some Ordering.lt) = xn := ⟨_, rfl⟩
  obtain ⟨yn, hyn⟩ : ∃ yn, (FloatKind.f32.format.order y 0 == some Ordering.lt) = yn := ⟨_, rfl⟩
  obtain ⟨zy, hzy⟩ : ∃ z, (FloatKind.f32.format.order y 0 == some Ordering.eq) = z := ⟨_, rfl⟩
  obtain ⟨zx, hzx⟩ : ∃ z, (FloatKind.f32.format.order x 0 == some Ordering.eq) = z := ⟨_, rfl⟩
  rw [hxn, hyn]
  rw [hzy, hzx] at hnz
  obtain ⟨T, S, V1, V2, hW⟩ := words_of (xn := xn) (yn := yn) hov (lessQ_in hy.mag hx.mag h0)
  have HY := Lib.hid hy
  have HX := Lib.hid hx
  have HW := Lib.hid hW
  obtain ⟨sy, my, iy, ey⟩ := hy.num
  obtain ⟨sx, mx, ix, ex⟩ := hx.num
  obtain ⟨cy, cy1, cy2⟩ := self_sub Y sy my iy ey
  obtain ⟨cx, cx1, cx2⟩ := self_sub X sx mx ix ex
  rw [hy.self] at cy1
  rw [hx.self] at cx1
  have hsy : ∀ (t : TypeId) (w : World), (binOp .sub t (.float .f64 Y) (.float .f64 Y)).run Try.prog w = .ok (.float .f64 cy) w := fun t w => run_float_arith w _ _ _ _ _ _ cy1
  have hsx : ∀ (t : TypeId) (w : World), (binOp .sub t (.float .f64 X) (.float .f64 X)).run Try.prog w = .ok (.float .f64 cx) w := fun t w => run_float_arith w _ _ _ _ _ _ cx1
  have hzy6 : (FloatKind.f64.format.order Y 0 == some Ordering.eq) = zy := by rw [hy.ord]; exact hzy
  have hzx6 : (FloatKind.f64.format.order X 0 == some Ordering.eq) = zx := by rw [hx.ord]; exact hzx
  have hyn6 : (FloatKind.f64.format.order Y 0 == some Ordering.lt) = yn := by rw [hy.ord]; exact hyn
  have hxn6 : (FloatKind.f64.format.order X 0 == some Ordering.lt) = xn := by rw [hx.ord]; exact hxn
  clear hzy hzx hyn hxn ey ex cy1 cx1
  have hyl := hy.lt
  have hxl := hx.lt
  have HA := Lib.hid (And.intro (mod_self hy) (mod_self hx))
  clear hy hx hW h0
  generalize hYa : Y % 9223372036854775808 = a at *
  generalize hXb : X % 9223372036854775808 = b at *
  have HYa := Lib.hid hYa
  have HXb := Lib.hid hXb
  clear hYa hXb
  have hz : (zx = true → zy = false) := fun h => by
    cases zy with
    | false => rfl
    | true => exact absurd ⟨rfl, h⟩ hnz
  clear hnz
  cases zx
  all_goals (try (obtain rfl := hz rfl))
  all_goals clear hz
  all_goals cases ov
  all_goals cases xn
  all_goals cases yn
  all_goals (try (obtain rfl := HW.out.u2 rfl))
  all_goals (try (obtain rfl := HW.out.v2 rfl))
  all_goals
    go_enter Try.func109, Try.ntmps109
    go_wp2_with (first
      | (go_at_call 52; fail))
    refine (Abs_any _ hyl _).mono ?_
    rintro e w' ⟨rfl, rfl⟩
    rw [HYa.out]
    go_wp2_with (first
      | (go_at_call 52; fail))
    refine (Abs_any _ hxl _).mono ?_
    rintro e w' ⟨rfl, rfl⟩
    rw [HXb.out]
    clear hsy hsx
    go_wp2_with (refine wpList_farith _ _ _ _ _ .f64 _ _ rfl rfl rfl ?_; intro r n hr; have e := hr.2; rw [HA.out.1, HA.out.2] at e; first | (rw [HW.out.t1 rfl] at e) | (rw [HW.out.t2 rfl] at e))
    obtain rfl := av_eq e
    clear hr e
    go_loopw [8, 9] (fun t i wr => ∃ (k r1 q : Nat), k ≤ 3 ∧ i = .int .i64 k ∧ t = .float .f64 r1 ∧ av .f64 r1 = redV (some r) k ∧ wr = w.drewN q) (fun _ i _ => 3 - (intOf i).toNat)
    case atStart => exact ⟨0, _, _, Nat.zero_le _, rfl, rfl, HW.out.at_, rfl⟩
    case round =>
      obtain ⟨k, r1, q, hk, rfl, rfl, hr, rfl⟩ := hrel
      have HR := Lib.hid hr
      have hk3 : (k : Int) ≤ 3 := by omega
      clear hr
      by_cases hlt : k < 3
      · have hlt' : (k : Int) < 3 := by omega
        have hflag : True := trivial
        go_wp2_with (first | (go_at_call 99; fail) | (clear hflag; refine wpList_farith _ _ _ _ _ .f64 _ _ rfl rfl rfl ?_; intro r2 n2 h2) | (refine wpList_farith _ _ _ _ _ .f64 _ _ rfl rfl rfl ?_; intro r3 n3 h3))
        refine (Sqrt_any _ _).mono ?_
        rintro e w' ⟨r4, n4, rfl, h4, rfl⟩
        have hflag : True := trivial
        go_wp2_with (first | (clear hflag; refine wpList_farith _ _ _ _ _ .f64 _ _ rfl rfl rfl ?_; intro r5 n5 h5) | (refine wpList_farith _ _ _ _ _ .f64 _ _ rfl rfl rfl ?_; intro r6 n6 h6))
        have HV : Hid (av .f64 r6 = redV (some r) (k + 1)) := Lib.hid (by
          show _ = aop .quo .f64 _ _
          rw [h6.2, h5.2, h4.2, h3.2, h2.2, av_onew, HR.out])
        clear h2 h3 h4 h5 h6
        go_roundw
        case rel => exact ⟨k + 1, r6, _, by omega, by go_num, rfl, HV.out, rfl⟩
        case measure => simp [intOf]; omega
      · obtain rfl : k = 3 := by omega
        go_wp2_with (refine wpList_farith _ _ _ _ _ .f64 _ _ rfl rfl rfl ?_; intro ru nu hu)
        have HU : Hid (av .f64 ru = aop .mul .f64 (redV (some r) 3) (redV (some r) 3)) := Lib.hid (by rw [hu.2, HR.out])
        clear hu
        go_loopw [11, 12] (fun p i wr => ∃ (j rp q2 : Nat), j ≤ 8 ∧ i = .int .i64 (15 - 2 * (j : Int)) ∧ p = .float .f64 rp ∧ av .f64 rp = polB (aop .mul .f64 (redV (some r) 3) (redV (some r) 3)) j ∧ wr = w.drewN q2) (fun _ i _ => (intOf i + 1).toNat)
        case atStart => exact ⟨0, 0, _, Nat.zero_le _, rfl, rfl, av_zero .f64, rfl⟩
        case round =>
          obtain ⟨j, rp, q2, hj, rfl, rfl, hp, rfl⟩ := hrel
          have HP := Lib.hid hp
          clear hp
          by_cases hlt2 : j < 8
          · have hj1 : (1 : Int) ≤ 15 - 2 * (j : Int) := by omega
            have hj2 : 15 - 2 * (j : Int) ≤ 15 := by omega
            have HO := Lib.hid (av_odd j hlt2)
            have HST : Hid (polB (aop .mul .f64 (redV (some r) 3) (redV (some r) 3)) (j + 1) = aop .sub .f64 (aop .quo .f64 (some ONEW) (some (floatOfInt .f64 (15 - 2 * (j : Int))))) (aop .mul .f64 (aop .mul .f64 (redV (some r) 3) (redV (some r) 3)) (polB (aop .mul .f64 (redV (some r) 3) (redV (some r) 3)) j))) := Lib.hid rfl
            have hf1 : True := trivial
            have hf2 : True := trivial
            go_wp2_with (first | (clear hf1; refine wpList_farith _ _ _ _ _ .f64 _ _ rfl rfl rfl ?_; intro r2 n2 h2) | (clear hf2; refine wpList_farith _ _ _ _ _ .f64 _ _ rfl rfl rfl ?_; intro r3 n3 h3) | (refine wpList_farith _ _ _ _ _ .f64 _ _ rfl rfl rfl ?_; intro r4 n4 h4))
            have HV : Hid (av .f64 r4 = polB (aop .mul .f64 (redV (some r) 3) (redV (some r) 3)) (j + 1)) := Lib.hid (by
              rw [HST.out, h4.2, h3.2, h2.2, av_onew, HO.out, HU.out, HP.out])
            clear h2 h3 h4
            go_roundw
            case rel => exact ⟨j + 1, r4, _, by omega, by go_num, rfl, HV.out, rfl⟩
            case measure => simp [intOf]; omega
          · obtain rfl : j = 8 := by omega
            have hf1 : True := trivial
            have hf2 : True := trivial
            have hf3 : True := trivial
            go_wp2_with (first
              | (clear hf1; refine wpList_farith _ _ _ _ _ .f64 _ _ rfl rfl rfl ?_; intro r2 n2 h2)
              | (clear hf2; refine wpList_farith _ _ _ _ _ .f64 _ _ rfl rfl rfl ?_; intro r3 n3 h3)
              | (clear hf3; refine wpList_farith _ _ _ _ _ .f64 _ _ rfl rfl rfl ?_; intro r4 n4 h4; have e := h4.2; rw [h3.2, h2.2, av_turnw, av_eightw, HR.out, HP.out] at e; obtain rfl := av_eq (e.trans HW.out.s); clear e)
              | (refine wpList_farith _ _ _ _ _ .f64 _ _ rfl rfl rfl ?_; intro r5 n5 hr5; have e := hr5.2; clear hr5; first | (rw [av_quartw, HW.out.as_, HW.out.u1 rfl] at e; obtain rfl := av_eq e) | (rw [av_halfw, HW.out.a1, HW.out.v1 rfl] at e; obtain rfl := av_eq e)))
            go_ret
            first
              | exact ⟨_, _, rfl, ⟨neg_lt .f64 _ HW.out.lt2, HW.out.fin_t⟩, rfl⟩
              | exact ⟨_, _, rfl, ⟨HW.out.lt2, HW.out.fin_f⟩, rfl⟩
end Go.Proofs.Yticmnkgcolgpaaa.Fl
