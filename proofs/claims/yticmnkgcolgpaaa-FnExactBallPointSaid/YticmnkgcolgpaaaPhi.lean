/- Phasors: all turns, both sides. -/
import Derived.Test.YticmnkgcolgpaaaPhh
import Derived.Test.YticmnkgcolgpaaaAth
namespace Go.Proofs.Yticmnkgcolgpaaa.Fl
open Go Go.RowKit Ieee
set_option linter.unusedVariables false
theorem fin_number {b : Nat} (hbl : b < 18446744073709551616) (h : finA .f64 (av .f64 b) = true) : ∃ s m i, double.read b = .number s m i ∧ -1074 ≤ i := by
  have hn : av .f64 b = some b := by
    cases e : av .f64 b with
    | none => rw [e] at h; cases h
    | some x => rw [av_eq e]
  rw [hn] at h
  have h1 : (!(double.read b).isInfinity) = true := h
  have h2 : (double.read b).isNaN = false := av_notNaN (k := .f64) hn
  obtain ⟨s, hs⟩ := word_of hbl
  have hsw : double.signWeight = 9223372036854775808 := by decide
  rcases Nat.lt_or_ge (b % 9223372036854775808) double.infRung with h3 | h3
  · rw [hs, read_wordS s h3]
    exact ⟨_, _, _, rfl, by omega⟩
  · exfalso
    rcases Nat.lt_or_ge double.infRung (b % 9223372036854775808) with h4 | h4
    · have := isNaN_of .f64 b (by show double.infRung < b % double.signWeight; rw [hsw]; exact h4)
      rw [show FloatKind.f64.format = double from rfl, h2] at this
      cases this
    · have e5 : b % 9223372036854775808 = double.infRung := by omega
      rw [e5] at hs
      have h5 : (double.read (double.word s double.infRung)).isInfinity = true := by cases s <;> decide +kernel
      rw [← hs] at h5
      rw [h5] at h1; cases h1
set_option maxRecDepth 100000 in
set_option maxHeartbeats 1000000 in
theorem phasor_both (b : Nat) (hbl : b < 18446744073709551616) : ∃ u v, (∀ w, Calls Try.prog 15 #[.float .f64 b] w (NumC u v w)) ∧ (∀ w, Calls Try.prog 49 #[.float .f64 b] w (NumC u v w)) := by
  cases hf : finA .f64 (av .f64 b) with
  | false =>
    refine ⟨none, none, fun w => ?_, fun w => ?_⟩
    · have HF := Lib.hid hf
      have hflag : True := trivial
      clear hf
      go_enter Try.func15, Try.ntmps15
      go_wp2_with (first | (go_at_call 50; fail))
      refine (isFiniteWide_any b hbl _).mono ?_
      rintro e w' ⟨rfl, rfl⟩
      rw [HF.out]
      go_wp2_with (first
        | (go_at_call 51; refine (NaN_anyA _).mono ?_; rintro e w' ⟨rfl, rfl⟩)
        | (clear hflag; refine wpList_narrow _ _ _ _ rfl Try.underlying22 Try.underlying50 (.inl av_nanA) ?_; intro r3 n3 hr3)
        | (refine wpList_narrow _ _ _ _ rfl Try.underlying22 Try.underlying50 (.inl av_nanA) ?_; intro r4 n4 hr4))
      go_ret
      rw [av_nanA] at hr3 hr4
      exact ⟨r3, r4, _, rfl, hr3, hr4, rfl⟩
    · obtain ⟨c, n, hc, hcv⟩ := run_farith (P := Try.prog) .sub .f64 b b w rfl
      have hz := sub_nonfinA rfl hf hcv
      have hsub : ∀ t, (binOp .sub t (.float .f64 b) (.float .f64 b)).run Try.prog w = .ok (.float .f64 c) (w.drewN n) := fun t => by rw [show binOp .sub t (.float .f64 b) (.float .f64 b) = Op.floatArith .sub .f64 b b from by simp [binOp]]; exact hc
      clear hc hcv hf
      go_enter Try.func49, Try.ntmps49
      go_wp2_with (first | (go_at_call 90; refine (l01From_any 2143289344 (by decide) _).mono ?_; rintro e w' ⟨rfl, rfl⟩))
      go_ret
      exact ⟨2143289344, 2143289344, _, rfl, ⟨by decide, by decide +kernel⟩, ⟨by decide, by decide +kernel⟩, rfl⟩
  | true =>
    obtain ⟨s, m, i, hb, hi⟩ := fin_number hbl hf
    by_cases hlt : val m i < 2 ^ (52 + K0)
    · obtain ⟨n, c, h⟩ := small_of b s m i hb hi hlt
      have hcl : c < 18446744073709551616 := aop_lt h.rest
      obtain ⟨c0, h0, a0, hform⟩ := frac_form h.avc hcl h.p2
      obtain ⟨q, g, d, hq⟩ := quart_of hform
      exact ⟨_, _, fun w => implPh_main b s m i n c c0 q g d hbl hb hi hlt h h0 a0 hq w, fun w => specPh_main b s m i n c c0 q g d hbl hb hi hlt h h0 a0 hq w⟩
    · refine ⟨some 1065353216, some 0, fun w => ?_, fun w => ?_⟩
      · have h1 : (FloatKind.f64.format.order (b % 9223372036854775808) 4841369599423283200 == some Ordering.gt || FloatKind.f64.format.order (b % 9223372036854775808) 4841369599423283200 == some Ordering.eq) = !decide (val m i < 2 ^ (52 + K0)) := abs_lim b s m i hb hi
        rw [decide_eq_false hlt, Bool.not_false] at h1
        have HF := Lib.hid hf
        clear hf hb hlt
        go_enter Try.func15, Try.ntmps15
        go_wp2_with (first | (go_at_call 50; fail))
        refine (isFiniteWide_any b hbl _).mono ?_
        rintro e w' ⟨rfl, rfl⟩
        rw [HF.out]
        go_wp2_with (go_at_call 52; refine (Abs_any _ hbl _).mono ?_; rintro e w' ⟨rfl, rfl⟩)
        go_ret
        exact ⟨1065353216, 0, 0, rfl, ⟨by decide, by decide +kernel⟩, ⟨by decide, by decide +kernel⟩, by rw [World.drewN_zero]⟩
      · obtain ⟨cs, hz1, hz0⟩ := self_sub b s m i hb
        rw [(fin_of b s m i hb).1] at hz1
        have h1 : (FloatKind.f64.format.order b 4841369599423283200 == some Ordering.gt || FloatKind.f64.format.order b 4841369599423283200 == some Ordering.eq) = (!s && !decide (val m i < 2 ^ (52 + K0))) := geq_lim b s m i hb hi
        have h2 : (FloatKind.f64.format.order b 14064741636278059008 == some Ordering.lt || FloatKind.f64.format.order b 14064741636278059008 == some Ordering.eq) = (s && !decide (val m i < 2 ^ (52 + K0))) := leq_lim b s m i hb hi
        rw [decide_eq_false hlt, Bool.not_false, Bool.and_true] at h1 h2
        have hsub : ∀ (t : TypeId) (w : World), (binOp .sub t (.float .f64 b) (.float .f64 b)).run Try.prog w = .ok (.float .f64 cs) w := fun t w => run_float_arith w _ _ _ _ _ _ hz1
        clear hf hb hlt hz1
        cases s
        all_goals
          simp only [Bool.not_false, Bool.not_true] at h1 h2
          go_enter Try.func49, Try.ntmps49
          go_wp2_with fail
          go_ret
          exact ⟨1065353216, 0, 0, rfl, ⟨by decide, by decide +kernel⟩, ⟨by decide, by decide +kernel⟩, by rw [World.drewN_zero]⟩
end Go.Proofs.Yticmnkgcolgpaaa.Fl
