/- Phasors: the model, of turns that are not great. -/
import Derived.Test.YticmnkgcolgpaaaPhg
import Derived.Laws.FloatArith
namespace Go.Proofs.Yticmnkgcolgpaaa.Fl
open Go Go.RowKit Ieee
set_option linter.unusedVariables false
set_option maxRecDepth 100000 in
set_option maxHeartbeats 4000000 in
theorem specPh_main (b : Nat) (s : Bool) (m : Nat) (i n : Int) (c c0 q g d : Nat) (hbl : b < 18446744073709551616) (hb : double.read b = .number s m i) (hi : -1074 ≤ i) (hlt : val m i < 2 ^ (52 + K0)) (h : Small b n c) (h0 : fr1 (some c) = some c0) (a0 : av .f64 c0 = some c0) (hq : Quart c0 q g d) (w : World) :
    Calls Try.prog 49 #[.float .f64 b] w (NumC (narrow (phRe q (sinV d) (sinV g))) (narrow (phIm q (sinV d) (sinV g))) w) := by
  obtain ⟨cs, hz1, hz0⟩ := self_sub b s m i hb
  rw [h.av] at hz1
  have h1 : (FloatKind.f64.format.order b 4841369599423283200 == some Ordering.gt || FloatKind.f64.format.order b 4841369599423283200 == some Ordering.eq) = (!s && !decide (val m i < 2 ^ (52 + K0))) := geq_lim b s m i hb hi
  have h2 : (FloatKind.f64.format.order b 14064741636278059008 == some Ordering.lt || FloatKind.f64.format.order b 14064741636278059008 == some Ordering.eq) = (s && !decide (val m i < 2 ^ (52 + K0))) := leq_lim b s m i hb hi
  rw [decide_eq_true hlt, Bool.not_true, Bool.and_false] at h1 h2
  have hsub : ∀ (t : TypeId) (w : World), (binOp .sub t (.float .f64 b) (.float .f64 b)).run Try.prog w = .ok (.float .f64 cs) w := fun t w => run_float_arith w _ _ _ _ _ _ hz1
  have HI := Lib.hid h.int
  have HAB := Lib.hid h.abs
  have HRE := Lib.hid h.rest
  have HQ := Lib.hid hq
  have H0 := Lib.hid (And.intro h0 a0)
  have hqf : (q : Int) ≤ 8 := by have := hq.few; omega
  have hord : (aord .f64 (some c) (some 0) == some Ordering.lt) = (FloatKind.f64.format.order c 0 == some Ordering.lt) := by
    have := aord_order .f64 c 0
    rw [h.avc, av_zero .f64] at this
    rw [this]
  have HC := Lib.hid h.avc
  obtain ⟨lz, hlz⟩ : ∃ z, (FloatKind.f64.format.order c 0 == some Ordering.lt) = z := ⟨_, rfl⟩
  have HADD : Hid ((lz = true → aop .add .f64 (some c) (some ONE) = some c0) ∧ (lz = false → c = c0)) := Lib.hid (by
    have h3 := h0
    unfold fr1 at h3
    rw [hord, hlz] at h3
    refine ⟨fun e => ?_, fun e => ?_⟩
    · rw [e, if_pos rfl] at h3; exact h3
    · rw [e, if_neg (by decide)] at h3; exact Option.some.inj h3)
  clear hb hlt h hq h0 a0 hz1 hord
  cases lz
  all_goals (try (obtain rfl := HADD.out.2 rfl))
  all_goals
    go_enter Try.func49, Try.ntmps49
    go_wp2_with (first
      | (refine wpList_toint _ _ _ _ n rfl Try.underlying22 Try.underlying2 HI.out HAB.out ?_)
      | (refine wpList_farith _ _ _ _ _ .f64 _ _ rfl rfl rfl ?_; intro r n1 hr; have e := hr.2; clear hr; first | (rw [HRE.out] at e; obtain rfl := av_eq e) | (rw [HC.out, av_one, HADD.out.1 rfl] at e; obtain rfl := av_eq e)))
    clear e h1 h2 hsub hz0 hlz
    go_loopw [3, 4] (fun x k wr => ∃ (j z t : Nat), j ≤ q ∧ k = .int .i64 j ∧ x = .float .f64 z ∧ gF (some r) j = some z ∧ av .f64 z = some z ∧ wr = w.drewN t) (fun _ k _ => q - (intOf k).toNat)
    case atStart => exact ⟨0, r, _, Nat.zero_le _, rfl, rfl, rfl, H0.out.2, rfl⟩
    case round =>
      obtain ⟨j, z, t, hj, rfl, rfl, hz, haz, rfl⟩ := hrel
      have HZ := Lib.hid (And.intro hz haz)
      have hjq : (j : Int) ≤ q := by omega
      by_cases hlt : j < q
      · obtain ⟨x, e1, e2, e3⟩ := HQ.out.step j hlt
        have hxz : x = z := by rw [hz] at e1; exact (Option.some.inj e1).symm
        subst hxz
        have ht : (FloatKind.f64.format.order x 4598175219545276416 == some Ordering.gt || FloatKind.f64.format.order x 4598175219545276416 == some Ordering.eq) = true := e3
        clear hz haz e1 e2 e3
        go_wp2_with (refine wpList_farith _ _ _ _ _ .f64 _ _ rfl rfl rfl ?_; intro r1 n1 h1)
        have HV : Hid (gF (some r) (j + 1) = some r1 ∧ av .f64 r1 = some r1) := Lib.hid (by
          have e4 : gF (some r) (j + 1) = av .f64 r1 := by
            show aop .sub .f64 (gF (some r) j) (some QUART) = _
            rw [h1.2, HZ.out.1, HZ.out.2, av_quartw]
          have e5 : ∃ y, gF (some r) (j + 1) = some y := by
            by_cases hlt2 : j + 1 < q
            · obtain ⟨y, e6, _⟩ := HQ.out.step (j + 1) hlt2; exact ⟨y, e6⟩
            · have : j + 1 = q := by omega
              rw [this]; exact ⟨g, HQ.out.last⟩
          obtain ⟨y, e6⟩ := e5
          rw [e6] at e4
          have e7 := av_eq e4.symm
          subst e7
          exact ⟨e6, e4.symm⟩)
        clear h1
        go_roundw
        case rel => exact ⟨j + 1, r1, _, by omega, by go_num, rfl, HV.out.1, HV.out.2, rfl⟩
        case measure => simp [intOf]; omega
      · obtain rfl : j = q := by omega
        have hzg : z = g := by have := HQ.out.last; rw [hz] at this; exact Option.some.inj this
        subst hzg
        have ht : (FloatKind.f64.format.order z 4598175219545276416 == some Ordering.gt || FloatKind.f64.format.order z 4598175219545276416 == some Ordering.eq) = false := HQ.out.tg
        clear hz haz hlt
        go_wp2_with (first | (go_at_call 91; fail) | (refine wpList_farith _ _ _ _ _ .f64 _ _ rfl rfl rfl ?_; intro r1 n1 h1))
        have e1 := h1.2
        rw [av_quartw, HQ.out.ag, HQ.out.sub] at e1
        obtain rfl := av_eq e1
        clear e1 h1 ht
        refine (sineM_any r1 HQ.out.pd (by omega) _).mono ?_
        rintro e w' ⟨rc, nc, rfl, hc, rfl⟩
        go_wp2_with (first | (go_at_call 91; fail))
        refine (sineM_any z HQ.out.pg (by omega) _).mono ?_
        rintro e w' ⟨rs, ns, rfl, hs, rfl⟩
        have HCS := Lib.hid (And.intro hc hs)
        have HOK : Hid (narOk (phRe j (sinV r1) (sinV z)) ∧ narOk (phIm j (sinV r1) (sinV z))) := Lib.hid ⟨phRe_ok (sinV_in HQ.out.pd (by omega)) (sinV_in HQ.out.pg (by omega)), phIm_ok (sinV_in HQ.out.pd (by omega)) (sinV_in HQ.out.pg (by omega))⟩
        clear hc hs HQ HZ
        by_cases q1 : j = 1
        · subst q1
          go_wp2_with (first | (go_at_call 92; fail) | (refine wpList_farith _ _ _ _ _ .f64 _ _ rfl rfl rfl ?_; intro r2 n2 h2))
          refine (l01Narrow_any r2 (phRe 1 (sinV r1) (sinV z)) (by rw [HCS.out.2.2, av_zero .f64] at h2; exact h2) HOK.out.1 _).mono ?_
          rintro e w' ⟨x1, m1, rfl, hx1, rfl⟩
          go_wp2_with (first | (go_at_call 92; fail))
          refine (l01Narrow_any rc (phIm 1 (sinV r1) (sinV z)) HCS.out.1 HOK.out.2 _).mono ?_
          rintro e w' ⟨x2, m2, rfl, hx2, rfl⟩
          go_wp2_with fail
          go_ret
          exact ⟨x1, x2, _, rfl, hx1, hx2, rfl⟩
        · by_cases q2 : j = 2
          · subst q2
            go_wp2_with (first | (go_at_call 92; fail) | (refine wpList_farith _ _ _ _ _ .f64 _ _ rfl rfl rfl ?_; intro r2 n2 h2))
            refine (l01Narrow_any r2 (phRe 2 (sinV r1) (sinV z)) (by rw [HCS.out.1.2, av_zero .f64] at h2; exact h2) HOK.out.1 _).mono ?_
            rintro e w' ⟨x1, m1, rfl, hx1, rfl⟩
            go_wp2_with (first | (go_at_call 92; fail) | (refine wpList_farith _ _ _ _ _ .f64 _ _ rfl rfl rfl ?_; intro r3 n3 h3))
            refine (l01Narrow_any r3 (phIm 2 (sinV r1) (sinV z)) (by rw [HCS.out.2.2, av_zero .f64] at h3; exact h3) HOK.out.2 _).mono ?_
            rintro e w' ⟨x2, m2, rfl, hx2, rfl⟩
            go_wp2_with fail
            go_ret
            exact ⟨x1, x2, _, rfl, hx1, hx2, rfl⟩
          · by_cases q3 : j = 3
            · subst q3
              go_wp2_with (first | (go_at_call 92; fail))
              refine (l01Narrow_any rs (phRe 3 (sinV r1) (sinV z)) HCS.out.2 HOK.out.1 _).mono ?_
              rintro e w' ⟨x1, m1, rfl, hx1, rfl⟩
              go_wp2_with (first | (go_at_call 92; fail) | (refine wpList_farith _ _ _ _ _ .f64 _ _ rfl rfl rfl ?_; intro r3 n3 h3))
              refine (l01Narrow_any r3 (phIm 3 (sinV r1) (sinV z)) (by rw [HCS.out.1.2, av_zero .f64] at h3; exact h3) HOK.out.2 _).mono ?_
              rintro e w' ⟨x2, m2, rfl, hx2, rfl⟩
              go_wp2_with fail
              go_ret
              exact ⟨x1, x2, _, rfl, hx1, hx2, rfl⟩
            · have e1 : ¬(j : Int) = 1 := by omega
              have e2 : ¬(j : Int) = 2 := by omega
              have e3 : ¬(j : Int) = 3 := by omega
              have HR : Hid (phRe j (sinV r1) (sinV z) = sinV r1 ∧ phIm j (sinV r1) (sinV z) = sinV z) := Lib.hid ⟨by unfold phRe; rw [if_neg q1, if_neg q2, if_neg q3], by unfold phIm; rw [if_neg q1, if_neg q2, if_neg q3]⟩
              go_wp2_with (first | (go_at_call 92; fail))
              refine (l01Narrow_any rc (phRe j (sinV r1) (sinV z)) (by rw [HR.out.1]; exact HCS.out.1) HOK.out.1 _).mono ?_
              rintro e w' ⟨x1, m1, rfl, hx1, rfl⟩
              go_wp2_with (first | (go_at_call 92; fail))
              refine (l01Narrow_any rs (phIm j (sinV r1) (sinV z)) (by rw [HR.out.2]; exact HCS.out.2) HOK.out.2 _).mono ?_
              rintro e w' ⟨x2, m2, rfl, hx2, rfl⟩
              go_wp2_with fail
              go_ret
              exact ⟨x1, x2, _, rfl, hx1, hx2, rfl⟩
end Go.Proofs.Yticmnkgcolgpaaa.Fl
