/- SineTurns: what the code and its model return, and the law's walk. -/
import Derived.Test.YtgkkimocmpgfkadSineT
namespace Go.Proofs.Ytgkkimocmpgfkad
open Go Go.RowKit Fl Ieee

theorem NaN_any (w : World) : Calls Try.prog 32 #[] w (fun e w' => e = .returned (.float .f64 9221120237041090561) ∧ w = w') := by
  go_enter Try.func32, Try.ntmps32
  go_wp2
  go_ret
  exact ⟨by simp, rfl⟩

theorem av_nan : av .f64 9221120237041090561 = none := by decide
theorem lt_of_Fv {v : Option Nat} {r : Nat} (h : Fv .f64 v r) : r < 18446744073709551616 := h.1

theorem Fv_z : Fv .f64 (some 0) 0 := ⟨by decide, av_zero .f64⟩
theorem sub_nonfin {v : Option Nat} {r r1 : Nat} (hr : Fv .f64 v r) (hA : finA .f64 v = false) (h1 : Fv .f64 (aop .sub .f64 (av .f64 r) (av .f64 r)) r1) : (FloatKind.f64.format.order r1 0 != some Ordering.eq) = true := by
  rw [hr.2] at h1
  have h := sub_self_zero .f64 v (fun x hx => by have e := hr.2; rw [hx] at e; exact av_notNaN e) r1 h1
  unfold bne
  rw [h, hA]; rfl

theorem P2_127 {B : Nat} {v : Option Nat} (h : P2 B v) (hB : B ≤ 127) : In .f64 R127 v := by
  obtain ⟨x, e, hx⟩ := h
  exact ⟨x, e, Nat.le_trans hx (Nat.mul_le_mul_right _ (by omega))⟩

/-- The sine behind the tests of the model. -/
theorem spec_of (a : Nat) (v V : Option Nat) (hv : widen (av .f32 a) = v) (hV : V = none ∨ In .f64 R127 V) (h : ∀ r w, Fv .f64 v r → Calls Try.prog 50 #[.float .f64 r] w (NumW V w)) (w : World) :
    Calls Try.prog 30 #[.float .f32 a] w (NumP .f32 (narrow V) w) := by
  have H := Lib.hid h
  have HV := Lib.hid hV
  have Hv := Lib.hid hv
  clear h hV hv
  go_enter Try.func30, Try.ntmps30
  go_wp2_with (first | (go_at_call 50; fail) | (refine wpList_widen _ _ _ _ rfl Try.underlying22 Try.underlying25 ?_; intro r n hr))
  refine (H.out r _ (by rw [Hv.out] at hr; exact hr)).mono ?_
  rintro e w' ⟨r1, n1, rfl, hr1, rfl⟩
  go_wp2_with fail
  refine (l01Narrow_any r1 V hr1 (by rcases HV.out with h | h; exact .inl h; exact .inr (.inl h)) _).mono ?_
  rintro e w' ⟨r2, n2, rfl, hr2, rfl⟩
  go_wp2_with fail
  go_ret
  exact ⟨r2, _, rfl, hr2, rfl⟩

theorem wide_A (v : Option Nat) (hA : finA .f64 v = false) (r : Nat) (w : World) (hr : Fv .f64 v r) : Calls Try.prog 50 #[.float .f64 r] w (NumW none w) := by
  have HR := Lib.hid hr
  have HA := Lib.hid hA
  clear hr hA
  go_enter Try.func50, Try.ntmps50
  go_wp2_with (first | (go_at_call 32; refine (NaN_any _).mono ?_; rintro e w' ⟨rfl, rfl⟩) | (refine wpList_farith _ _ _ _ _ .f64 _ _ rfl rfl rfl ?_; intro r1 q hr1; have hz := sub_nonfin HR.out HA.out hr1))
  go_ret
  exact ⟨_, _, rfl, ⟨by decide, av_nan⟩, rfl⟩

theorem wide_B (b : Nat) (s : Bool) (m : Nat) (i : Int) (hb : Ieee.double.read b = .number s m i) (hi : -1074 ≤ i) (hlt : ¬ val m i < 2 ^ (52 + K0)) (r : Nat) (w : World) (hr : Fv .f64 (some b) r) : Calls Try.prog 50 #[.float .f64 r] w (NumW (some 0) w) := by
  obtain rfl := (av_eq hr.2).symm
  obtain ⟨cs, hz, hz0⟩ := self_sub b s m i hb
  have h1 : (FloatKind.f64.format.order b 4841369599423283200 == some Ordering.gt || FloatKind.f64.format.order b 4841369599423283200 == some Ordering.eq) = (!s && !decide (val m i < 2 ^ (52 + K0))) := geq_lim b s m i hb hi
  have h2 : (FloatKind.f64.format.order b 14064741636278059008 == some Ordering.lt || FloatKind.f64.format.order b 14064741636278059008 == some Ordering.eq) = (s && !decide (val m i < 2 ^ (52 + K0))) := leq_lim b s m i hb hi
  rw [decide_eq_false hlt, Bool.not_false, Bool.and_true] at h1 h2
  have HZ := Lib.hid hz
  clear hr hz hb hlt
  cases s
  all_goals
    simp only [Bool.not_true, Bool.not_false] at h1 h2
    go_enter Try.func50, Try.ntmps50
    go_wp2_with (refine wpList_farith _ _ _ _ _ .f64 _ _ rfl rfl rfl ?_; intro r1 q hr1; obtain rfl := (av_eq (hr1.2.trans HZ.out)).symm)
    go_ret
    exact ⟨_, _, rfl, Fv_z, rfl⟩

theorem wide_C (b : Nat) (s : Bool) (m : Nat) (i : Int) (n : Int) (c : Nat) (hb : Ieee.double.read b = .number s m i) (hi : -1074 ≤ i) (hlt : val m i < 2 ^ (52 + K0)) (h : Small b n c) (r : Nat) (w : World) (hr : Fv .f64 (some b) r) : Calls Try.prog 50 #[.float .f64 r] w (NumW (sineA (fr1 (some c))) w) := by
  obtain rfl := (av_eq hr.2).symm
  obtain ⟨cs, hz, hz0⟩ := self_sub b s m i hb
  have h1 : (FloatKind.f64.format.order b 4841369599423283200 == some Ordering.gt || FloatKind.f64.format.order b 4841369599423283200 == some Ordering.eq) = (!s && !decide (val m i < 2 ^ (52 + K0))) := geq_lim b s m i hb hi
  have h2 : (FloatKind.f64.format.order b 14064741636278059008 == some Ordering.lt || FloatKind.f64.format.order b 14064741636278059008 == some Ordering.eq) = (s && !decide (val m i < 2 ^ (52 + K0))) := leq_lim b s m i hb hi
  rw [decide_eq_true hlt, Bool.not_true, Bool.and_false] at h1 h2
  obtain ⟨c0, h0, a0⟩ := fr1_av h.avc h.p2
  cases hl : (FloatKind.f64.format.order c 0 == some Ordering.lt) with
  | true =>
    refine l01SineWide_less b n c c0 cs h h0 a0 hz hz0 h1 h2 hl (fun _ => ?_) w
    unfold fr1 at h0
    rw [if_pos (by exact hl)] at h0
    rw [h.avc, av_one]; exact h0
  | false =>
    refine l01SineWide_not b n c c0 cs h h0 a0 hz hz0 h1 h2 hl ?_ w
    unfold fr1 at h0
    rw [if_neg (by rw [show (aord .f64 (some c) (some 0) == some Ordering.lt) = false from hl]; exact Bool.false_ne_true)] at h0
    exact (Option.some.inj h0).symm

/-! ### The code -/
theorem impl_A (a : Nat) (hA : finA .f64 (widen (av .f32 a)) = false) (w : World) : Calls Try.prog 14 #[.float .f32 a] w (NumP .f32 none w) := by
  have HA := Lib.hid hA
  clear hA
  have hw : av .f64 9221120237041090561 = none ∨ In .f64 R127 (av .f64 9221120237041090561) ∨ (Ieee.double.read 9221120237041090561).isInfinity = true := .inl av_nan
  go_enter Try.func14, Try.ntmps14
  go_wp2_with (first | (go_at_call 31; fail) | (refine wpList_widen _ _ _ _ rfl Try.underlying22 Try.underlying25 ?_; intro r n hr))
  refine (isFiniteWide_any r hr.1 _).mono ?_
  rw [hr.2, HA.out]
  rintro e w' ⟨rfl, rfl⟩
  go_wp2_with (first | (go_at_call 32; refine (NaN_any _).mono ?_; rintro e w' ⟨rfl, rfl⟩) | (refine wpList_narrow _ _ _ _ rfl Try.underlying25 Try.underlying22 hw ?_; intro r3 n3 hr3))
  go_ret
  exact ⟨r3, _, rfl, by rw [av_nan] at hr3; exact hr3, rfl⟩

theorem impl_B (a b : Nat) (s : Bool) (m : Nat) (i : Int) (hv : widen (av .f32 a) = some b) (hb : Ieee.double.read b = .number s m i) (hi : -1074 ≤ i) (hlt : ¬ val m i < 2 ^ (52 + K0)) (w : World) : Calls Try.prog 14 #[.float .f32 a] w (NumP .f32 (some 0) w) := by
  have hf := (fin_of b s m i hb).2
  have h1 : (FloatKind.f64.format.order (b % 9223372036854775808) 4841369599423283200 == some Ordering.gt || FloatKind.f64.format.order (b % 9223372036854775808) 4841369599423283200 == some Ordering.eq) = !decide (val m i < 2 ^ (52 + K0)) := abs_lim b s m i hb hi
  rw [decide_eq_false hlt, Bool.not_false] at h1
  have HF := Lib.hid hf
  have HV := Lib.hid hv
  clear hf hv hb hlt
  go_enter Try.func14, Try.ntmps14
  go_wp2_with (first | (go_at_call 31; fail) | (refine wpList_widen _ _ _ _ rfl Try.underlying22 Try.underlying25 ?_; intro r n hr))
  have hr' := hr
  rw [HV.out] at hr'
  obtain rfl := (av_eq hr'.2).symm
  have hlt : b < 18446744073709551616 := hr.1
  refine (isFiniteWide_any b hlt _).mono ?_
  rw [hr'.2, HF.out]
  rintro e w' ⟨rfl, rfl⟩
  go_wp2_with (go_at_call 33; refine (Abs_any _ hlt _).mono ?_; rintro e w' ⟨rfl, rfl⟩)
  go_ret
  exact ⟨_, _, rfl, ⟨by decide, av_zero .f32⟩, rfl⟩

theorem impl_C (a b : Nat) (s : Bool) (m : Nat) (i : Int) (n : Int) (c : Nat) (hv : widen (av .f32 a) = some b) (hb : Ieee.double.read b = .number s m i) (hi : -1074 ≤ i) (hlt : val m i < 2 ^ (52 + K0)) (h : Small b n c) (w : World) :
    Calls Try.prog 14 #[.float .f32 a] w (NumP .f32 (narrow (sineA (fr1 (some c)))) w) := by
  have hf := (fin_of b s m i hb).2
  have h1 : (FloatKind.f64.format.order (b % 9223372036854775808) 4841369599423283200 == some Ordering.gt || FloatKind.f64.format.order (b % 9223372036854775808) 4841369599423283200 == some Ordering.eq) = !decide (val m i < 2 ^ (52 + K0)) := abs_lim b s m i hb hi
  rw [decide_eq_true hlt, Bool.not_true] at h1
  have HF := Lib.hid hf
  have HV := Lib.hid hv
  have HS := Lib.hid h
  have HO := Lib.hid (P2_127 (sineA_in (fr1_in h.p2)) (by omega))
  clear hf hv hb hlt h
  go_enter Try.func14, Try.ntmps14
  go_wp2_with (first | (go_at_call 31; fail) | (refine wpList_widen _ _ _ _ rfl Try.underlying22 Try.underlying25 ?_; intro r n hr))
  have hr' := hr
  rw [HV.out] at hr'
  obtain rfl := (av_eq hr'.2).symm
  have hlt : b < 18446744073709551616 := hr.1
  refine (isFiniteWide_any b hlt _).mono ?_
  rw [hr'.2, HF.out]
  rintro e w' ⟨rfl, rfl⟩
  go_wp2_with (first | (go_at_call 33; refine (Abs_any _ hlt _).mono ?_; rintro e w' ⟨rfl, rfl⟩) | (go_at_call 34; fail))
  refine (wideSine_any b _ c HS.out _).mono ?_
  rintro e w' ⟨r1, n1, rfl, hr1, rfl⟩
  have hw := narrow_of hr1 (.inr (.inl HO.out))
  go_wp2_with (refine wpList_narrow _ _ _ _ rfl Try.underlying25 Try.underlying22 hw ?_; intro r3 n3 hr3)
  go_ret
  exact ⟨r3, _, rfl, by rw [hr1.2] at hr3; exact hr3, rfl⟩

theorem Bel_drewS {B : Nat} {W w' : World} (h : Below B W w') (n : Nat) : Below B W (w'.drewN n) := ⟨h.os, h.tape, h.output, h.size, h.block⟩
theorem law_of (a : Nat) (V : Option Nat) (h1 : ∀ w, Calls Try.prog 30 #[.float .f32 a] w (NumP .f32 V w)) (h2 : ∀ w, Calls Try.prog 14 #[.float .f32 a] w (NumP .f32 V w)) (w : World) :
    Calls Try.prog 4 #[.float .f32 a] w fun e w' => e = .returned (.bool true) ∧ Below w.heap.size w w' := by
  have H1 := Lib.hid h1
  have H2 := Lib.hid h2
  clear h1 h2
  go_enter Try.func4, Try.ntmps4
  go_wp2_with (first | (go_at_call 30; refine (H1.out _).mono ?_; rintro e w' ⟨r1, n1, rfl, hr1, rfl⟩) | (go_at_call 14; refine (H2.out _).mono ?_; rintro e w' ⟨r2, n2, rfl, hr2, rfl⟩) | (refine wpList_widen _ _ _ _ rfl Try.underlying22 Try.underlying25 ?_; intro r n hr) | (go_at_call 13; go_in))
  refine (sameFloat_any _ _ (widen V) (by rw [← hr2.2]; assumption) (by rw [← hr1.2]; assumption) _).mono ?_
  rintro e w' ⟨n3, rfl, rfl⟩
  go_wp2_with fail
  go_ret
  exact ⟨rfl, Bel_drewS (Below.refl _ _) _⟩

theorem FnExactSineTurns_walk (a : Nat) (_ : (Lit.float .f32 a).wf = true) (w : World) :
    Calls Try.prog 4 #[.float .f32 a] w fun e w' => e = .returned (.bool true) ∧ Below w.heap.size w w' := by
  cases hA : finA .f64 (widen (av .f32 a)) with
  | false => exact law_of a none (fun w => spec_of a _ none rfl (.inl rfl) (fun r w hr => wide_A _ hA r w hr) w) (fun w => impl_A a hA w) w
  | true =>
    have hfin : finA .f32 (av .f32 a) = true := by rw [← hA, finA_widen _ (fun _ h => av_notNaN (k := .f32) h)]
    rcases read_single a with ⟨s, m, i, e, _⟩ | ⟨s, e⟩ | ⟨s, f, e⟩
    · have hn : av .f32 a = some a := av_some (k := .f32) (by show (single.read a).isNaN = false; rw [e]; rfl)
      obtain ⟨b, t, M, p, e1, e2, _, e4⟩ := (widen_in a s m i e).read (by decide)
      have e1' : widen (av .f32 a) = some b := by rw [hn]; exact e1
      have e2' : Ieee.double.read b = .number t M p := e2
      by_cases hlt : val M p < 2 ^ (52 + K0)
      · obtain ⟨n, c, hS⟩ := small_of b t M p e2' e4 hlt
        exact law_of a _ (fun w => spec_of a _ _ e1' (.inr (P2_127 (sineA_in (fr1_in hS.p2)) (by omega))) (fun r w hr => wide_C b t M p n c e2' e4 hlt hS r w hr) w) (fun w => impl_C a b t M p n c e1' e2' e4 hlt hS w) w
      · exact law_of a (some 0) (fun w => by
          have := spec_of a _ (some 0) e1' (.inr ⟨0, rfl, by decide⟩) (fun r w hr => wide_B b t M p e2' e4 hlt r w hr) w
          rw [show narrow (some 0) = some 0 from by decide] at this
          exact this) (fun w => impl_B a b t M p e1' e2' e4 hlt w) w
    · exfalso
      have hn : av .f32 a = some a := av_some (k := .f32) (by show (single.read a).isNaN = false; rw [e]; rfl)
      rw [hn] at hfin
      have : (!(single.read a).isInfinity) = true := hfin
      rw [e] at this; cases this
    · exfalso
      have hn : av .f32 a = none := by unfold av; rw [if_pos]; show (single.read a).isNaN = true; rw [e]; rfl
      rw [hn] at hfin; cases hfin
end Go.Proofs.Ytgkkimocmpgfkad
