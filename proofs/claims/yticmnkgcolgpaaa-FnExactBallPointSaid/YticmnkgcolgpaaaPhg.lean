/- Phasors: the code, of turns that are not great. -/
import Derived.Test.YticmnkgcolgpaaaPhf
namespace Go.Proofs.Yticmnkgcolgpaaa.Fl
open Go Go.RowKit Ieee
set_option linter.unusedVariables false
/-- The two parts before they are narrowed: q quarters, and the sines of what is left to a quarter and of what is left. -/
def phRe (q : Nat) (C S : Option Nat) : Option Nat := if q = 1 then aop .sub .f64 (some 0) S else if q = 2 then aop .sub .f64 (some 0) C else if q = 3 then S else C
def phIm (q : Nat) (C S : Option Nat) : Option Nat := if q = 1 then C else if q = 2 then aop .sub .f64 (some 0) S else if q = 3 then aop .sub .f64 (some 0) C else S
theorem narOk_of {B : Nat} {v : Option Nat} (h : P2 B v) (hB : B ≤ 127) : narOk v := by
  obtain ⟨x, e, hx⟩ := h
  exact .inr (.inl ⟨x, e, Nat.le_trans hx (Nat.mul_le_mul_right _ (by omega))⟩)
theorem P2_zero0 : P2 0 (some 0) := ⟨_, rfl, by decide +kernel⟩
theorem neg_in {v : Option Nat} (h : P2 110 v) : P2 111 (aop .sub .f64 (some 0) v) := P2.sub (c := 110) P2_zero0 h (by omega) (by omega) (by omega)
theorem phRe_ok {q : Nat} {C S : Option Nat} (hC : P2 110 C) (hS : P2 110 S) : narOk (phRe q C S) := by
  unfold phRe
  split
  · exact narOk_of (neg_in hS) (by omega)
  · split
    · exact narOk_of (neg_in hC) (by omega)
    · split
      · exact narOk_of hS (by omega)
      · exact narOk_of hC (by omega)
theorem phIm_ok {q : Nat} {C S : Option Nat} (hC : P2 110 C) (hS : P2 110 S) : narOk (phIm q C S) := by
  unfold phIm
  split
  · exact narOk_of hC (by omega)
  · split
    · exact narOk_of (neg_in hS) (by omega)
    · split
      · exact narOk_of (neg_in hC) (by omega)
      · exact narOk_of hS (by omega)
set_option maxRecDepth 100000 in
set_option maxHeartbeats 2000000 in
theorem implPh_main (b : Nat) (s : Bool) (m : Nat) (i n : Int) (c c0 q g d : Nat) (hbl : b < 18446744073709551616) (hb : double.read b = .number s m i) (hi : -1074 ≤ i) (hlt : val m i < 2 ^ (52 + K0)) (h : Small b n c) (h0 : fr1 (some c) = some c0) (a0 : av .f64 c0 = some c0) (hq : Quart c0 q g d) (w : World) :
    Calls Try.prog 15 #[.float .f64 b] w (NumC (narrow (phRe q (sinV d) (sinV g))) (narrow (phIm q (sinV d) (sinV g))) w) := by
  have hf := (fin_of b s m i hb).2
  have h1 : (FloatKind.f64.format.order (b % 9223372036854775808) 4841369599423283200 == some Ordering.gt || FloatKind.f64.format.order (b % 9223372036854775808) 4841369599423283200 == some Ordering.eq) = !decide (val m i < 2 ^ (52 + K0)) := abs_lim b s m i hb hi
  rw [decide_eq_true hlt, Bool.not_true] at h1
  have HF : Hid (finA .f64 (av .f64 b) = true) := Lib.hid (by rw [h.av]; exact hf)
  have HS := Lib.hid h
  have HQ := Lib.hid hq
  have H0 := Lib.hid (And.intro h0 a0)
  have hqf : (q : Int) ≤ 8 := by have := hq.few; omega
  clear hf hb hlt h hq h0 a0
  go_enter Try.func15, Try.ntmps15
  go_wp2_with (first | (go_at_call 50; fail))
  refine (isFiniteWide_any b hbl _).mono ?_
  rintro e w' ⟨rfl, rfl⟩
  rw [HF.out]
  go_wp2_with (first | (go_at_call 52; refine (Abs_any _ hbl _).mono ?_; rintro e w' ⟨rfl, rfl⟩) | (go_at_call 53; fail))
  refine (fractionOf_any b n c HS.out _).mono ?_
  rw [H0.out.1]
  rintro e w' ⟨r0, n0, rfl, hr0, rfl⟩
  obtain rfl := av_eq hr0.2
  clear hr0 h1
  go_wp2_with fail
  go_loopw [3, 4] (fun x k wr => ∃ (j z t : Nat), j ≤ q ∧ k = .int .i64 j ∧ x = .float .f64 z ∧ gF (some r0) j = some z ∧ av .f64 z = some z ∧ wr = w.drewN t) (fun _ k _ => q - (intOf k).toNat)
  case atStart => exact ⟨0, r0, _, Nat.zero_le _, rfl, rfl, rfl, H0.out.2, rfl⟩
  case round =>
    obtain ⟨j, z, t, hj, rfl, rfl, hz, haz, rfl⟩ := hrel
    have HZ := Lib.hid (And.intro hz haz)
    have hjq : (j : Int) ≤ q := by omega
    by_cases hlt : j < q
    · obtain ⟨x, e1, e2, e3⟩ := HQ.out.step j hlt
      have hxz : x = z := by rw [hz] at e1; exact (Option.some.inj e1).symm
      subst hxz
      have ht : (FloatKind.f64.format.order x 4598175219545276416 == some Ordering.gt || FloatKind.f64.format.order x 4598175219545276416 == some Ordering.eq) = true := e3
      clear hz haz e1 e2 e3
      go_wp2_with (refine wpList_farith _ _ _ _ _ .f64 _ _ rfl rfl rfl ?_; intro r1 n1 h1)
      have HV : Hid (gF (some r0) (j + 1) = some r1 ∧ av .f64 r1 = some r1) := Lib.hid (by
        have e4 : gF (some r0) (j + 1) = av .f64 r1 := by
          show aop .sub .f64 (gF (some r0) j) (some QUART) = _
          rw [h1.2, HZ.out.1, HZ.out.2, av_quartw]
        have e5 : ∃ y, gF (some r0) (j + 1) = some y := by
          by_cases hlt2 : j + 1 < q
          · obtain ⟨y, e6, _⟩ := HQ.out.step (j + 1) hlt2; exact ⟨y, e6⟩
          · have : j + 1 = q := by omega
            rw [this]; exact ⟨g, HQ.out.last⟩
        obtain ⟨y, e6⟩ := e5
        rw [e6] at e4
        have e7 := av_eq e4.symm
        subst e7
        exact ⟨e6, e4.symm⟩)
      clear h1
      go_roundw
      case rel => exact ⟨j + 1, r1, _, by omega, by go_num, rfl, HV.out.1, HV.out.2, rfl⟩
      case measure => simp [intOf]; omega
    · obtain rfl : j = q := by omega
      have hzg : z = g := by have := HQ.out.last; rw [hz] at this; exact Option.some.inj this
      subst hzg
      have ht : (FloatKind.f64.format.order z 4598175219545276416 == some Ordering.gt || FloatKind.f64.format.order z 4598175219545276416 == some Ordering.eq) = false := HQ.out.tg
      clear hz haz hlt
      go_wp2_with (first | (go_at_call 54; fail) | (refine wpList_farith _ _ _ _ _ .f64 _ _ rfl rfl rfl ?_; intro r1 n1 h1))
      have e1 := h1.2
      rw [av_quartw, HQ.out.ag, HQ.out.sub] at e1
      obtain rfl := av_eq e1
      clear e1 h1 ht
      refine (sineC_any r1 HQ.out.pd (by omega) _).mono ?_
      rintro e w' ⟨rc, nc, rfl, hc, rfl⟩
      go_wp2_with (first | (go_at_call 54; fail))
      refine (sineC_any z HQ.out.pg (by omega) _).mono ?_
      rintro e w' ⟨rs, ns, rfl, hs, rfl⟩
      have HCS := Lib.hid (And.intro hc hs)
      have HOK : Hid (narOk (phRe j (sinV r1) (sinV z)) ∧ narOk (phIm j (sinV r1) (sinV z))) := Lib.hid ⟨phRe_ok (sinV_in HQ.out.pd (by omega)) (sinV_in HQ.out.pg (by omega)), phIm_ok (sinV_in HQ.out.pd (by omega)) (sinV_in HQ.out.pg (by omega))⟩
      clear hc hs HQ HZ
      have hflag : True := trivial
      by_cases q1 : j = 1
      · subst q1
        go_wp2_with (first | (go_at_call 55; fail) | (refine wpList_farith _ _ _ _ _ .f64 _ _ rfl rfl rfl ?_; intro r2 n2 h2))
        refine (narrowC_any r2 rc _ _ (by rw [HCS.out.2.2, av_zero .f64] at h2; exact h2) HCS.out.1 HOK.out.1 HOK.out.2 _).mono ?_
        rintro e w' ⟨x1, x2, n5, rfl, hx1, hx2, rfl⟩
        go_wp2_with fail
        go_ret
        exact ⟨x1, x2, _, rfl, hx1, hx2, rfl⟩
      · by_cases q2 : j = 2
        · subst q2
          go_wp2_with (first | (go_at_call 55; fail) | (clear hflag; refine wpList_farith _ _ _ _ _ .f64 _ _ rfl rfl rfl ?_; intro r2 n2 h2) | (refine wpList_farith _ _ _ _ _ .f64 _ _ rfl rfl rfl ?_; intro r3 n3 h3))
          refine (narrowC_any r2 r3 _ _ (by rw [HCS.out.1.2, av_zero .f64] at h2; exact h2) (by rw [HCS.out.2.2, av_zero .f64] at h3; exact h3) HOK.out.1 HOK.out.2 _).mono ?_
          rintro e w' ⟨x1, x2, n5, rfl, hx1, hx2, rfl⟩
          go_wp2_with fail
          go_ret
          exact ⟨x1, x2, _, rfl, hx1, hx2, rfl⟩
        · by_cases q3 : j = 3
          · subst q3
            go_wp2_with (first | (go_at_call 55; fail) | (refine wpList_farith _ _ _ _ _ .f64 _ _ rfl rfl rfl ?_; intro r2 n2 h2))
            refine (narrowC_any rs r2 _ _ HCS.out.2 (by rw [HCS.out.1.2, av_zero .f64] at h2; exact h2) HOK.out.1 HOK.out.2 _).mono ?_
            rintro e w' ⟨x1, x2, n5, rfl, hx1, hx2, rfl⟩
            go_wp2_with fail
            go_ret
            exact ⟨x1, x2, _, rfl, hx1, hx2, rfl⟩
          · have e1 : ¬(j : Int) = 1 := by omega
            have e2 : ¬(j : Int) = 2 := by omega
            have e3 : ¬(j : Int) = 3 := by omega
            have HR : Hid (phRe j (sinV r1) (sinV z) = sinV r1 ∧ phIm j (sinV r1) (sinV z) = sinV z) := Lib.hid ⟨by unfold phRe; rw [if_neg q1, if_neg q2, if_neg q3], by unfold phIm; rw [if_neg q1, if_neg q2, if_neg q3]⟩
            go_wp2_with (first | (go_at_call 55; fail))
            refine (narrowC_any rc rs (phRe j (sinV r1) (sinV z)) (phIm j (sinV r1) (sinV z)) (by rw [HR.out.1]; exact HCS.out.1) (by rw [HR.out.2]; exact HCS.out.2) HOK.out.1 HOK.out.2 _).mono ?_
            rintro e w' ⟨x1, x2, n5, rfl, hx1, hx2, rfl⟩
            go_wp2_with fail
            go_ret
            exact ⟨x1, x2, _, rfl, hx1, hx2, rfl⟩
end Go.Proofs.Yticmnkgcolgpaaa.Fl
