/- The sine of a 32-bit number of turns: the tests ahead of it, what the model returns, the law. -/
import Derived.Test.YticmnkgcolgpaaaSineW
import Derived.Test.YticmnkgcolgpaaaRoot
namespace Go.Proofs.Yticmnkgcolgpaaa
open Go Go.RowKit Fl Ieee

theorem read_lim : double.read 4841369599423283200 = .number false 4503599627370496 0 := by decide
theorem read_lim_neg : double.read 14064741636278059008 = .number true 4503599627370496 0 := by decide

theorem val_lt_iff (m : Nat) (i base : Int) (h1 : base ≤ i) (h2 : base ≤ 0) (hb : -9000 ≤ base) : val m i < 2 ^ (52 + K0) ↔ m * 2 ^ (i - base).toNat < 4503599627370496 * 2 ^ (0 - base).toNat := by
  have hK := K0_eq
  have e1 := val_shift m i base h1 hb
  have e2 := val_shift 4503599627370496 0 base h2 hb
  have e3 : val 4503599627370496 0 = 2 ^ (52 + K0) := by
    unfold val
    rw [show ((0 : Int) + (K0 : Int)).toNat = K0 by omega, Nat.pow_add]
  rw [← e3, ← e1, ← e2]
  unfold val
  have hp : 0 < 2 ^ (base + (K0 : Int)).toNat := Nat.two_pow_pos _
  exact ⟨fun h => Nat.lt_of_mul_lt_mul_right h, fun h => Nat.mul_lt_mul_of_pos_right h hp⟩

theorem geq_core (s : Bool) (x y : Nat) (hy : 0 < y) : (decide ((y : Int) < (if s = true then -(x : Int) else (x : Int))) || decide ((if s = true then -(x : Int) else (x : Int)) = (y : Int))) = (!s && !decide (x < y)) := by
  rw [Bool.eq_iff_iff]
  cases s <;> simp <;> omega
theorem leq_core (s : Bool) (x y : Nat) (hy : 0 < y) : (decide ((if s = true then -(x : Int) else (x : Int)) < -(y : Int)) || decide ((if s = true then -(x : Int) else (x : Int)) = -(y : Int))) = (s && !decide (x < y)) := by
  rw [Bool.eq_iff_iff]
  cases s <;> simp <;> omega
theorem signed_eq (s : Bool) (m u : Nat) : signed s m u = if s = true then -((m * 2 ^ u : Nat) : Int) else ((m * 2 ^ u : Nat) : Int) := by
  unfold signed; rw [Nat.shiftLeft_eq]

/-- 'x >= 2^52'. -/
theorem geq_lim (b : Nat) (s : Bool) (m : Nat) (i : Int) (hb : double.read b = .number s m i) (hi : -1074 ≤ i) :
    (double.order b 4841369599423283200 == some Ordering.gt || double.order b 4841369599423283200 == some Ordering.eq) = (!s && !decide (val m i < 2 ^ (52 + K0))) := by
  unfold Format.order
  rw [hb, read_lim, order_number s false m _ i 0 (min i 0) (by omega) (by omega), cmp_gt, cmp_eq]
  have h := val_lt_iff m i (min i 0) (by omega) (by omega) (by omega)
  have e : decide (val m i < 2 ^ (52 + K0)) = decide (m * 2 ^ (i - min i 0).toNat < 4503599627370496 * 2 ^ (0 - min i 0).toNat) := decide_eq_decide.2 h
  rw [e, signed_eq, signed_eq]
  exact geq_core s _ _ (Nat.mul_pos (by omega) (Nat.two_pow_pos _))

/-- 'x <= -2^52'. -/
theorem leq_lim (b : Nat) (s : Bool) (m : Nat) (i : Int) (hb : double.read b = .number s m i) (hi : -1074 ≤ i) :
    (double.order b 14064741636278059008 == some Ordering.lt || double.order b 14064741636278059008 == some Ordering.eq) = (s && !decide (val m i < 2 ^ (52 + K0))) := by
  unfold Format.order
  rw [hb, read_lim_neg, order_number s true m _ i 0 (min i 0) (by omega) (by omega), cmp_lt, cmp_eq]
  have h := val_lt_iff m i (min i 0) (by omega) (by omega) (by omega)
  have e : decide (val m i < 2 ^ (52 + K0)) = decide (m * 2 ^ (i - min i 0).toNat < 4503599627370496 * 2 ^ (0 - min i 0).toNat) := decide_eq_decide.2 h
  rw [e, signed_eq, signed_eq]
  exact leq_core s _ _ (Nat.mul_pos (by omega) (Nat.two_pow_pos _))

/-- 'Abs(x) >= 2^52'. -/
theorem abs_lim (b : Nat) (s : Bool) (m : Nat) (i : Int) (hb : double.read b = .number s m i) (hi : -1074 ≤ i) :
    (double.order (b % 9223372036854775808) 4841369599423283200 == some Ordering.gt || double.order (b % 9223372036854775808) 4841369599423283200 == some Ordering.eq) = !decide (val m i < 2 ^ (52 + K0)) := by
  obtain ⟨_, _, e⟩ := read_abs b
  rw [hb] at e
  rw [geq_lim _ false m i e hi, Bool.not_false, Bool.true_and]

theorem sub_some (b : Nat) (s : Bool) (m : Nat) (i : Int) (hb : double.read b = .number s m i) : ∃ c, bop .sub .f64 b b = some c := by
  have hs := sum_self (.number s m i) rfl
  rw [show (Datum.number s m i).isInfinity = false from rfl, if_neg Bool.false_ne_true] at hs
  show ∃ c, ((double.read b).sum (double.read b).opposite).map double.write = some c
  rw [hb, hs, Option.map_some]
  exact ⟨_, by with_reducible rfl⟩
theorem fin_of (b : Nat) (s : Bool) (m : Nat) (i : Int) (hb : double.read b = .number s m i) : av .f64 b = some b ∧ finA .f64 (some b) = true := by
  refine ⟨av_some (k := .f64) ?_, ?_⟩
  · show (double.read b).isNaN = false
    rw [hb]; rfl
  · show (!(double.read b).isInfinity) = true
    rw [hb]; rfl
/-- 'y - y' of a finite number, and the test on it. -/
theorem self_sub (b : Nat) (s : Bool) (m : Nat) (i : Int) (hb : double.read b = .number s m i) : ∃ c, aop .sub .f64 (av .f64 b) (av .f64 b) = some c ∧ (FloatKind.f64.format.order c 0 != some Ordering.eq) = false := by
  obtain ⟨c, hc⟩ := sub_some b s m i hb
  obtain ⟨h1, h2⟩ := fin_of b s m i hb
  have hf : Fv .f64 (aop .sub .f64 (some b) (some b)) c := by
    have e : aop .sub .f64 (some b) (some b) = bop .sub .f64 b b := by rw [← aop_bop, h1]
    rw [e, hc]
    exact ⟨bop_lt hc, av_some (bop_notNaN hc)⟩
  have h0 := sub_self_zero .f64 (some b) (fun x hx => by cases hx; exact av_notNaN h1) c hf
  refine ⟨c, by rw [aop_bop]; exact hc, ?_⟩
  unfold bne
  rw [h0, h2]; rfl
set_option maxRecDepth 100000 in
set_option maxHeartbeats 6400000 in
theorem l01SineWide_less (b : Nat) (n : Int) (c c0 cs : Nat) (h : Small b n c) (h0 : fr1 (some c) = some c0) (a0 : av .f64 c0 = some c0) (hz : aop .sub .f64 (av .f64 b) (av .f64 b) = some cs) (hz0 : (FloatKind.f64.format.order cs 0 != some Ordering.eq) = false)
    (hge : (FloatKind.f64.format.order b 4841369599423283200 == some Ordering.gt || FloatKind.f64.format.order b 4841369599423283200 == some Ordering.eq) = false)
    (hle : (FloatKind.f64.format.order b 14064741636278059008 == some Ordering.lt || FloatKind.f64.format.order b 14064741636278059008 == some Ordering.eq) = false)
    (hl : (FloatKind.f64.format.order c 0 == some Ordering.lt) = true) (hf : true = true → aop .add .f64 (av .f64 c) (av .f64 4607182418800017408) = some c0) (w : World) :
    Calls Try.prog 91 #[.float .f64 b] w (NumW (sineA (fr1 (some c))) w) := by
  obtain ⟨t, g, c1, c2, cz, cu, S⟩ := steps_of h0 a0 (fr1_in h.p2)
  have HU := Lib.hid (aop_av S.u)
  have HI := Lib.hid h.int
  have HA := Lib.hid h.abs
  have HR := Lib.hid h.rest
  have HZ := Lib.hid hz
  have HF := Lib.hid hf
  clear h h0 a0 hz hf
  cases t <;> cases g
  · obtain rfl := S.n1 rfl
    obtain rfl := S.n2 rfl
    have HS := Lib.hid S
    have ht := S.t1
    have hg := S.t2
    clear S
    go_enter Try.func91, Try.ntmps91
    go_wp2_with (first | (refine wpList_toint _ _ _ _ n rfl Try.underlying22 Try.underlying2 HI.out HA.out ?_) | (refine wpList_farith _ _ _ _ _ .f64 _ _ rfl rfl rfl ?_; intro r q hr; first | (obtain rfl := (av_eq (hr.2.trans HZ.out)).symm) | (obtain rfl := (av_eq (hr.2.trans HR.out)).symm) | (obtain rfl := (av_eq (hr.2.trans (HF.out rfl))).symm) | (obtain rfl := (av_eq (hr.2.trans HS.out.z)).symm) | (obtain rfl := (av_eq (hr.2.trans HS.out.u)).symm)))
    go_loopw [7, 8] (fun p k wr => ∃ j : Nat, j ≤ 8 ∧ k = .int .i64 (8 - (j : Int)) ∧ ∃ r q, p = .float .f64 r ∧ Fv .f64 (polyA (some cu) j) r ∧ wr = w.drewN q) (fun _ k _ => (intOf k).toNat)
    case atStart => exact ⟨0, by omega, rfl, _, _, rfl, ⟨by decide, av_one⟩, rfl⟩
    case round =>
      obtain ⟨j, hj, rfl, rp, q, rfl, hp, rfl⟩ := hrel
      have HP := Lib.hid hp
      clear hp
      by_cases hlt : j < 8
      · have hk1 : (1 : Int) ≤ 8 - (j : Int) := by omega
        have hmul := wrap_steps j hlt
        clear hj
        go_wp2_with (first | (refine wpList_fid _ _ _ .f64 _ rfl Try.underlying22 Try.underlying22 ?_) | (refine wpList_farith _ _ _ _ _ .f64 _ _ rfl rfl rfl ?_; intro r q hr))
        go_roundw
        case rel => exact ⟨j + 1, by omega, by go_num, _, _, rfl, step_close HU.out HP.out (by assumption) (by assumption) (by assumption) rfl, rfl⟩
        case measure => simp [intOf]; omega
      · obtain rfl : j = 8 := by omega
        clear hlt hj
        go_wp2_with (refine wpList_farith _ _ _ _ _ .f64 _ _ rfl rfl rfl ?_; intro r q hr)
        go_ret
        exact ⟨_, _, rfl, by rw [HS.out.sine]; exact fin2 (by assumption) HS.out.az HP.out.2, rfl⟩
  · obtain rfl := S.n1 rfl
    have h2 := Lib.hid (S.s2 rfl)
    have HS := Lib.hid S
    have ht := S.t1
    have hg := S.t2
    clear S
    go_enter Try.func91, Try.ntmps91
    go_wp2_with (first | (refine wpList_toint _ _ _ _ n rfl Try.underlying22 Try.underlying2 HI.out HA.out ?_) | (refine wpList_farith _ _ _ _ _ .f64 _ _ rfl rfl rfl ?_; intro r q hr; first | (obtain rfl := (av_eq (hr.2.trans HZ.out)).symm) | (obtain rfl := (av_eq (hr.2.trans HR.out)).symm) | (obtain rfl := (av_eq (hr.2.trans (HF.out rfl))).symm) | (obtain rfl := (av_eq (hr.2.trans h2.out)).symm) | (obtain rfl := (av_eq (hr.2.trans HS.out.z)).symm) | (obtain rfl := (av_eq (hr.2.trans HS.out.u)).symm)))
    go_loopw [7, 8] (fun p k wr => ∃ j : Nat, j ≤ 8 ∧ k = .int .i64 (8 - (j : Int)) ∧ ∃ r q, p = .float .f64 r ∧ Fv .f64 (polyA (some cu) j) r ∧ wr = w.drewN q) (fun _ k _ => (intOf k).toNat)
    case atStart => exact ⟨0, by omega, rfl, _, _, rfl, ⟨by decide, av_one⟩, rfl⟩
    case round =>
      obtain ⟨j, hj, rfl, rp, q, rfl, hp, rfl⟩ := hrel
      have HP := Lib.hid hp
      clear hp
      by_cases hlt : j < 8
      · have hk1 : (1 : Int) ≤ 8 - (j : Int) := by omega
        have hmul := wrap_steps j hlt
        clear hj
        go_wp2_with (first | (refine wpList_fid _ _ _ .f64 _ rfl Try.underlying22 Try.underlying22 ?_) | (refine wpList_farith _ _ _ _ _ .f64 _ _ rfl rfl rfl ?_; intro r q hr))
        go_roundw
        case rel => exact ⟨j + 1, by omega, by go_num, _, _, rfl, step_close HU.out HP.out (by assumption) (by assumption) (by assumption) rfl, rfl⟩
        case measure => simp [intOf]; omega
      · obtain rfl : j = 8 := by omega
        clear hlt hj
        go_wp2_with (refine wpList_farith _ _ _ _ _ .f64 _ _ rfl rfl rfl ?_; intro r q hr)
        go_ret
        exact ⟨_, _, rfl, by rw [HS.out.sine]; exact fin2 (by assumption) HS.out.az HP.out.2, rfl⟩
  · have h1 := Lib.hid (S.s1 rfl)
    obtain rfl := S.n2 rfl
    have HS := Lib.hid S
    have ht := S.t1
    have hg := S.t2
    clear S
    go_enter Try.func91, Try.ntmps91
    go_wp2_with (first | (refine wpList_toint _ _ _ _ n rfl Try.underlying22 Try.underlying2 HI.out HA.out ?_) | (refine wpList_farith _ _ _ _ _ .f64 _ _ rfl rfl rfl ?_; intro r q hr; first | (obtain rfl := (av_eq (hr.2.trans HZ.out)).symm) | (obtain rfl := (av_eq (hr.2.trans HR.out)).symm) | (obtain rfl := (av_eq (hr.2.trans (HF.out rfl))).symm) | (obtain rfl := (av_eq (hr.2.trans h1.out)).symm) | (obtain rfl := (av_eq (hr.2.trans HS.out.z)).symm) | (obtain rfl := (av_eq (hr.2.trans HS.out.u)).symm)))
    go_loopw [7, 8] (fun p k wr => ∃ j : Nat, j ≤ 8 ∧ k = .int .i64 (8 - (j : Int)) ∧ ∃ r q, p = .float .f64 r ∧ Fv .f64 (polyA (some cu) j) r ∧ wr = w.drewN q) (fun _ k _ => (intOf k).toNat)
    case atStart => exact ⟨0, by omega, rfl, _, _, rfl, ⟨by decide, av_one⟩, rfl⟩
    case round =>
      obtain ⟨j, hj, rfl, rp, q, rfl, hp, rfl⟩ := hrel
      have HP := Lib.hid hp
      clear hp
      by_cases hlt : j < 8
      · have hk1 : (1 : Int) ≤ 8 - (j : Int) := by omega
        have hmul := wrap_steps j hlt
        clear hj
        go_wp2_with (first | (refine wpList_fid _ _ _ .f64 _ rfl Try.underlying22 Try.underlying22 ?_) | (refine wpList_farith _ _ _ _ _ .f64 _ _ rfl rfl rfl ?_; intro r q hr))
        go_roundw
        case rel => exact ⟨j + 1, by omega, by go_num, _, _, rfl, step_close HU.out HP.out (by assumption) (by assumption) (by assumption) rfl, rfl⟩
        case measure => simp [intOf]; omega
      · obtain rfl : j = 8 := by omega
        clear hlt hj
        go_wp2_with (refine wpList_farith _ _ _ _ _ .f64 _ _ rfl rfl rfl ?_; intro r q hr)
        go_ret
        exact ⟨_, _, rfl, by rw [HS.out.sine]; exact Fv_neg (fin2 (by assumption) HS.out.az HP.out.2), rfl⟩
  · have h1 := Lib.hid (S.s1 rfl)
    have h2 := Lib.hid (S.s2 rfl)
    have HS := Lib.hid S
    have ht := S.t1
    have hg := S.t2
    clear S
    go_enter Try.func91, Try.ntmps91
    go_wp2_with (first | (refine wpList_toint _ _ _ _ n rfl Try.underlying22 Try.underlying2 HI.out HA.out ?_) | (refine wpList_farith _ _ _ _ _ .f64 _ _ rfl rfl rfl ?_; intro r q hr; first | (obtain rfl := (av_eq (hr.2.trans HZ.out)).symm) | (obtain rfl := (av_eq (hr.2.trans HR.out)).symm) | (obtain rfl := (av_eq (hr.2.trans (HF.out rfl))).symm) | (obtain rfl := (av_eq (hr.2.trans h1.out)).symm) | (obtain rfl := (av_eq (hr.2.trans h2.out)).symm) | (obtain rfl := (av_eq (hr.2.trans HS.out.z)).symm) | (obtain rfl := (av_eq (hr.2.trans HS.out.u)).symm)))
    go_loopw [7, 8] (fun p k wr => ∃ j : Nat, j ≤ 8 ∧ k = .int .i64 (8 - (j : Int)) ∧ ∃ r q, p = .float .f64 r ∧ Fv .f64 (polyA (some cu) j) r ∧ wr = w.drewN q) (fun _ k _ => (intOf k).toNat)
    case atStart => exact ⟨0, by omega, rfl, _, _, rfl, ⟨by decide, av_one⟩, rfl⟩
    case round =>
      obtain ⟨j, hj, rfl, rp, q, rfl, hp, rfl⟩ := hrel
      have HP := Lib.hid hp
      clear hp
      by_cases hlt : j < 8
      · have hk1 : (1 : Int) ≤ 8 - (j : Int) := by omega
        have hmul := wrap_steps j hlt
        clear hj
        go_wp2_with (first | (refine wpList_fid _ _ _ .f64 _ rfl Try.underlying22 Try.underlying22 ?_) | (refine wpList_farith _ _ _ _ _ .f64 _ _ rfl rfl rfl ?_; intro r q hr))
        go_roundw
        case rel => exact ⟨j + 1, by omega, by go_num, _, _, rfl, step_close HU.out HP.out (by assumption) (by assumption) (by assumption) rfl, rfl⟩
        case measure => simp [intOf]; omega
      · obtain rfl : j = 8 := by omega
        clear hlt hj
        go_wp2_with (refine wpList_farith _ _ _ _ _ .f64 _ _ rfl rfl rfl ?_; intro r q hr)
        go_ret
        exact ⟨_, _, rfl, by rw [HS.out.sine]; exact Fv_neg (fin2 (by assumption) HS.out.az HP.out.2), rfl⟩
set_option maxRecDepth 100000 in
set_option maxHeartbeats 6400000 in
theorem l01SineWide_not (b : Nat) (n : Int) (c c0 cs : Nat) (h : Small b n c) (h0 : fr1 (some c) = some c0) (a0 : av .f64 c0 = some c0) (hz : aop .sub .f64 (av .f64 b) (av .f64 b) = some cs) (hz0 : (FloatKind.f64.format.order cs 0 != some Ordering.eq) = false)
    (hge : (FloatKind.f64.format.order b 4841369599423283200 == some Ordering.gt || FloatKind.f64.format.order b 4841369599423283200 == some Ordering.eq) = false)
    (hle : (FloatKind.f64.format.order b 14064741636278059008 == some Ordering.lt || FloatKind.f64.format.order b 14064741636278059008 == some Ordering.eq) = false)
    (hl : (FloatKind.f64.format.order c 0 == some Ordering.lt) = false) (he : c0 = c) (w : World) :
    Calls Try.prog 91 #[.float .f64 b] w (NumW (sineA (fr1 (some c))) w) := by
  subst he
  obtain ⟨t, g, c1, c2, cz, cu, S⟩ := steps_of h0 a0 (fr1_in h.p2)
  have HU := Lib.hid (aop_av S.u)
  have HI := Lib.hid h.int
  have HA := Lib.hid h.abs
  have HR := Lib.hid h.rest
  have HZ := Lib.hid hz
  clear h h0 a0 hz
  cases t <;> cases g
  · obtain rfl := S.n1 rfl
    obtain rfl := S.n2 rfl
    have HS := Lib.hid S
    have ht := S.t1
    have hg := S.t2
    clear S
    go_enter Try.func91, Try.ntmps91
    go_wp2_with (first | (refine wpList_toint _ _ _ _ n rfl Try.underlying22 Try.underlying2 HI.out HA.out ?_) | (refine wpList_farith _ _ _ _ _ .f64 _ _ rfl rfl rfl ?_; intro r q hr; first | (obtain rfl := (av_eq (hr.2.trans HZ.out)).symm) | (obtain rfl := (av_eq (hr.2.trans HR.out)).symm) | (obtain rfl := (av_eq (hr.2.trans HS.out.z)).symm) | (obtain rfl := (av_eq (hr.2.trans HS.out.u)).symm)))
    go_loopw [7, 8] (fun p k wr => ∃ j : Nat, j ≤ 8 ∧ k = .int .i64 (8 - (j : Int)) ∧ ∃ r q, p = .float .f64 r ∧ Fv .f64 (polyA (some cu) j) r ∧ wr = w.drewN q) (fun _ k _ => (intOf k).toNat)
    case atStart => exact ⟨0, by omega, rfl, _, _, rfl, ⟨by decide, av_one⟩, rfl⟩
    case round =>
      obtain ⟨j, hj, rfl, rp, q, rfl, hp, rfl⟩ := hrel
      have HP := Lib.hid hp
      clear hp
      by_cases hlt : j < 8
      · have hk1 : (1 : Int) ≤ 8 - (j : Int) := by omega
        have hmul := wrap_steps j hlt
        clear hj
        go_wp2_with (first | (refine wpList_fid _ _ _ .f64 _ rfl Try.underlying22 Try.underlying22 ?_) | (refine wpList_farith _ _ _ _ _ .f64 _ _ rfl rfl rfl ?_; intro r q hr))
        go_roundw
        case rel => exact ⟨j + 1, by omega, by go_num, _, _, rfl, step_close HU.out HP.out (by assumption) (by assumption) (by assumption) rfl, rfl⟩
        case measure => simp [intOf]; omega
      · obtain rfl : j = 8 := by omega
        clear hlt hj
        go_wp2_with (refine wpList_farith _ _ _ _ _ .f64 _ _ rfl rfl rfl ?_; intro r q hr)
        go_ret
        exact ⟨_, _, rfl, by rw [HS.out.sine]; exact fin2 (by assumption) HS.out.az HP.out.2, rfl⟩
  · obtain rfl := S.n1 rfl
    have h2 := Lib.hid (S.s2 rfl)
    have HS := Lib.hid S
    have ht := S.t1
    have hg := S.t2
    clear S
    go_enter Try.func91, Try.ntmps91
    go_wp2_with (first | (refine wpList_toint _ _ _ _ n rfl Try.underlying22 Try.underlying2 HI.out HA.out ?_) | (refine wpList_farith _ _ _ _ _ .f64 _ _ rfl rfl rfl ?_; intro r q hr; first | (obtain rfl := (av_eq (hr.2.trans HZ.out)).symm) | (obtain rfl := (av_eq (hr.2.trans HR.out)).symm) | (obtain rfl := (av_eq (hr.2.trans h2.out)).symm) | (obtain rfl := (av_eq (hr.2.trans HS.out.z)).symm) | (obtain rfl := (av_eq (hr.2.trans HS.out.u)).symm)))
    go_loopw [7, 8] (fun p k wr => ∃ j : Nat, j ≤ 8 ∧ k = .int .i64 (8 - (j : Int)) ∧ ∃ r q, p = .float .f64 r ∧ Fv .f64 (polyA (some cu) j) r ∧ wr = w.drewN q) (fun _ k _ => (intOf k).toNat)
    case atStart => exact ⟨0, by omega, rfl, _, _, rfl, ⟨by decide, av_one⟩, rfl⟩
    case round =>
      obtain ⟨j, hj, rfl, rp, q, rfl, hp, rfl⟩ := hrel
      have HP := Lib.hid hp
      clear hp
      by_cases hlt : j < 8
      · have hk1 : (1 : Int) ≤ 8 - (j : Int) := by omega
        have hmul := wrap_steps j hlt
        clear hj
        go_wp2_with (first | (refine wpList_fid _ _ _ .f64 _ rfl Try.underlying22 Try.underlying22 ?_) | (refine wpList_farith _ _ _ _ _ .f64 _ _ rfl rfl rfl ?_; intro r q hr))
        go_roundw
        case rel => exact ⟨j + 1, by omega, by go_num, _, _, rfl, step_close HU.out HP.out (by assumption) (by assumption) (by assumption) rfl, rfl⟩
        case measure => simp [intOf]; omega
      · obtain rfl : j = 8 := by omega
        clear hlt hj
        go_wp2_with (refine wpList_farith _ _ _ _ _ .f64 _ _ rfl rfl rfl ?_; intro r q hr)
        go_ret
        exact ⟨_, _, rfl, by rw [HS.out.sine]; exact fin2 (by assumption) HS.out.az HP.out.2, rfl⟩
  · have h1 := Lib.hid (S.s1 rfl)
    obtain rfl := S.n2 rfl
    have HS := Lib.hid S
    have ht := S.t1
    have hg := S.t2
    clear S
    go_enter Try.func91, Try.ntmps91
    go_wp2_with (first | (refine wpList_toint _ _ _ _ n rfl Try.underlying22 Try.underlying2 HI.out HA.out ?_) | (refine wpList_farith _ _ _ _ _ .f64 _ _ rfl rfl rfl ?_; intro r q hr; first | (obtain rfl := (av_eq (hr.2.trans HZ.out)).symm) | (obtain rfl := (av_eq (hr.2.trans HR.out)).symm) | (obtain rfl := (av_eq (hr.2.trans h1.out)).symm) | (obtain rfl := (av_eq (hr.2.trans HS.out.z)).symm) | (obtain rfl := (av_eq (hr.2.trans HS.out.u)).symm)))
    go_loopw [7, 8] (fun p k wr => ∃ j : Nat, j ≤ 8 ∧ k = .int .i64 (8 - (j : Int)) ∧ ∃ r q, p = .float .f64 r ∧ Fv .f64 (polyA (some cu) j) r ∧ wr = w.drewN q) (fun _ k _ => (intOf k).toNat)
    case atStart => exact ⟨0, by omega, rfl, _, _, rfl, ⟨by decide, av_one⟩, rfl⟩
    case round =>
      obtain ⟨j, hj, rfl, rp, q, rfl, hp, rfl⟩ := hrel
      have HP := Lib.hid hp
      clear hp
      by_cases hlt : j < 8
      · have hk1 : (1 : Int) ≤ 8 - (j : Int) := by omega
        have hmul := wrap_steps j hlt
        clear hj
        go_wp2_with (first | (refine wpList_fid _ _ _ .f64 _ rfl Try.underlying22 Try.underlying22 ?_) | (refine wpList_farith _ _ _ _ _ .f64 _ _ rfl rfl rfl ?_; intro r q hr))
        go_roundw
        case rel => exact ⟨j + 1, by omega, by go_num, _, _, rfl, step_close HU.out HP.out (by assumption) (by assumption) (by assumption) rfl, rfl⟩
        case measure => simp [intOf]; omega
      · obtain rfl : j = 8 := by omega
        clear hlt hj
        go_wp2_with (refine wpList_farith _ _ _ _ _ .f64 _ _ rfl rfl rfl ?_; intro r q hr)
        go_ret
        exact ⟨_, _, rfl, by rw [HS.out.sine]; exact Fv_neg (fin2 (by assumption) HS.out.az HP.out.2), rfl⟩
  · have h1 := Lib.hid (S.s1 rfl)
    have h2 := Lib.hid (S.s2 rfl)
    have HS := Lib.hid S
    have ht := S.t1
    have hg := S.t2
    clear S
    go_enter Try.func91, Try.ntmps91
    go_wp2_with (first | (refine wpList_toint _ _ _ _ n rfl Try.underlying22 Try.underlying2 HI.out HA.out ?_) | (refine wpList_farith _ _ _ _ _ .f64 _ _ rfl rfl rfl ?_; intro r q hr; first | (obtain rfl := (av_eq (hr.2.trans HZ.out)).symm) | (obtain rfl := (av_eq (hr.2.trans HR.out)).symm) | (obtain rfl := (av_eq (hr.2.trans h1.out)).symm) | (obtain rfl := (av_eq (hr.2.trans h2.out)).symm) | (obtain rfl := (av_eq (hr.2.trans HS.out.z)).symm) | (obtain rfl := (av_eq (hr.2.trans HS.out.u)).symm)))
    go_loopw [7, 8] (fun p k wr => ∃ j : Nat, j ≤ 8 ∧ k = .int .i64 (8 - (j : Int)) ∧ ∃ r q, p = .float .f64 r ∧ Fv .f64 (polyA (some cu) j) r ∧ wr = w.drewN q) (fun _ k _ => (intOf k).toNat)
    case atStart => exact ⟨0, by omega, rfl, _, _, rfl, ⟨by decide, av_one⟩, rfl⟩
    case round =>
      obtain ⟨j, hj, rfl, rp, q, rfl, hp, rfl⟩ := hrel
      have HP := Lib.hid hp
      clear hp
      by_cases hlt : j < 8
      · have hk1 : (1 : Int) ≤ 8 - (j : Int) := by omega
        have hmul := wrap_steps j hlt
        clear hj
        go_wp2_with (first | (refine wpList_fid _ _ _ .f64 _ rfl Try.underlying22 Try.underlying22 ?_) | (refine wpList_farith _ _ _ _ _ .f64 _ _ rfl rfl rfl ?_; intro r q hr))
        go_roundw
        case rel => exact ⟨j + 1, by omega, by go_num, _, _, rfl, step_close HU.out HP.out (by assumption) (by assumption) (by assumption) rfl, rfl⟩
        case measure => simp [intOf]; omega
      · obtain rfl : j = 8 := by omega
        clear hlt hj
        go_wp2_with (refine wpList_farith _ _ _ _ _ .f64 _ _ rfl rfl rfl ?_; intro r q hr)
        go_ret
        exact ⟨_, _, rfl, by rw [HS.out.sine]; exact Fv_neg (fin2 (by assumption) HS.out.az HP.out.2), rfl⟩
end Go.Proofs.Yticmnkgcolgpaaa
