/- BalanceMiss of the model. -/
import Derived.Test.YtgeomaeccalceaaBmi
namespace Go.Proofs.Ytgeomaeccalceaa
open Go Go.RowKit Fl Vag
set_option linter.unusedVariables false
/-- A magnitude is written as it was read. -/
theorem write_back (s : Bool) {r : Nat} (h : r < Ieee.single.infRung) : Ieee.single.nearest s (magOf Ieee.single r * 2 ^ placeOf Ieee.single r) (-149) = Ieee.single.word s r := by
  have hlp : (-149 : Int) = -(K0 : Int) + (lp Ieee.single : Int) := single_least.symm.trans (show Ieee.single.leastPlace = -(K0 : Int) + (lp Ieee.single : Int) from lp_least .f32)
  have hf : Ieee.single.fractionBits ≤ lp Ieee.single := by decide
  have he : magOf Ieee.single r * 2 ^ placeOf Ieee.single r * 2 ^ lp Ieee.single = magOf Ieee.single r * 2 ^ (placeOf Ieee.single r + lp Ieee.single) := by rw [Nat.pow_add, Nat.mul_assoc]
  obtain ⟨a, h1, h2⟩ := nearest_le Ieee.single s (magOf Ieee.single r * 2 ^ placeOf Ieee.single r) (-(K0 : Int)) (lp Ieee.single) (lp Ieee.single) r (lp_least .f32) hf (Nat.le_of_eq he)
  obtain ⟨b, h3, h4, h5⟩ := nearest_ge Ieee.single s (magOf Ieee.single r * 2 ^ placeOf Ieee.single r) (-(K0 : Int)) (lp Ieee.single) (lp Ieee.single) r (lp_least .f32) hf (Nat.le_of_lt h) (Nat.le_of_eq he.symm)
  rw [hlp, h2]
  have h6 : Ieee.single.word s a = Ieee.single.word s b := by rw [← h2, ← h5]
  have h7 := (word_parts s (r := a) (by omega)).1
  rw [h6, (word_parts s h4).1] at h7
  have : a = r := by omega
  rw [this]
theorem zero_less {s : Bool} {r : Nat} (h : r ≤ Ieee.single.infRung) (h0 : s = true ∨ r = 0) : aop .sub .f32 (some 0) (some (Ieee.single.word s r)) = some (Ieee.single.word false r) := by
  by_cases e : r < Ieee.single.infRung
  · cases s with
    | false =>
      obtain rfl : r = 0 := by rcases h0 with h0 | h0; cases h0; exact h0
      decide +kernel
    | true =>
      have e1 : aop .sub .f32 (some 0) (some (Ieee.single.word true r)) = ((Ieee.single.read 0).sum (Ieee.single.read (Ieee.single.word true r)).opposite).map Ieee.single.write := rfl
      have er : Ieee.single.read 0 = .number false 0 (-149) := by decide +kernel
      rw [e1, read_word32 true r e, er]
      have q1 : (Ieee.Datum.number false 0 (-149)).sum (Ieee.Datum.number true (magOf Ieee.single r) (-149 + (placeOf Ieee.single r : Int))).opposite = some (.number (if Ieee.signed false 0 ((-149 : Int) - min (-149) (-149 + (placeOf Ieee.single r : Int))).toNat + Ieee.signed false (magOf Ieee.single r) (-149 + (placeOf Ieee.single r : Int) - min (-149) (-149 + (placeOf Ieee.single r : Int))).toNat = 0 then false && false else decide (Ieee.signed false 0 ((-149 : Int) - min (-149) (-149 + (placeOf Ieee.single r : Int))).toNat + Ieee.signed false (magOf Ieee.single r) (-149 + (placeOf Ieee.single r : Int) - min (-149) (-149 + (placeOf Ieee.single r : Int))).toNat < 0)) (Ieee.signed false 0 ((-149 : Int) - min (-149) (-149 + (placeOf Ieee.single r : Int))).toNat + Ieee.signed false (magOf Ieee.single r) (-149 + (placeOf Ieee.single r : Int) - min (-149) (-149 + (placeOf Ieee.single r : Int))).toNat).natAbs (min (-149) (-149 + (placeOf Ieee.single r : Int)))) := rfl
      rw [q1, Int.min_eq_left (show (-149 : Int) ≤ -149 + (placeOf Ieee.single r : Int) by omega), show (-149 + (placeOf Ieee.single r : Int) - -149).toNat = placeOf Ieee.single r by omega]
      have t1 : Ieee.signed false 0 ((-149 : Int) - -149).toNat = 0 := by decide
      have t2 : Ieee.signed false (magOf Ieee.single r) (placeOf Ieee.single r) = ((magOf Ieee.single r * 2 ^ placeOf Ieee.single r : Nat) : Int) := by unfold Ieee.signed; rw [Nat.shiftLeft_eq]; rfl
      rw [t1, t2, Int.zero_add, Int.natAbs_natCast]
      have t3 : (if ((magOf Ieee.single r * 2 ^ placeOf Ieee.single r : Nat) : Int) = 0 then false && false else decide (((magOf Ieee.single r * 2 ^ placeOf Ieee.single r : Nat) : Int) < 0)) = false := by
        split
        · rfl
        · exact decide_eq_false (by omega)
      rw [t3]
      exact congrArg some (write_back false e)
  · obtain rfl : r = Ieee.single.infRung := by omega
    cases s with
    | false => rcases h0 with h0 | h0; cases h0; exact absurd h0 (by decide)
    | true => decide +kernel
theorem le_zero {s : Bool} {r : Nat} (h : r ≤ Ieee.single.infRung) : (FloatKind.f32.format.order (Ieee.single.word s r) 0 == some Ordering.lt || FloatKind.f32.format.order (Ieee.single.word s r) 0 == some Ordering.eq) = decide (s = true ∨ r = 0) := by
  have ho := order_K (av_wordM s h) av_one.2
  rw [fK_wordM s h, fK_zero] at ho
  rw [ho, compare_int]
  have g := wK_ge r
  by_cases e : r = 0
  · subst e
    rw [wK_zero]
    cases s <;> decide
  · have g2 := wK_pos e h
    cases s with
    | true => simp only [if_true]; rw [if_pos (by omega)]; simp
    | false => simp only [Bool.false_eq_true, if_false]; rw [if_neg (by omega), if_neg (by omega)]; simp [e]
theorem gt_kind {M r : Nat} (hM : M ≤ Ieee.single.infRung) (hr : r ≤ Ieee.single.infRung) : (FloatKind.f32.format.order (Ieee.single.word false r) (Ieee.single.word false M) == some Ordering.gt) = decide (M < r) := gt_word hM hr
theorem l07Size_any (s : Bool) (r : Nat) (h : r ≤ Ieee.single.infRung) (w : World) :
    Calls Try.prog 84 #[.float .f32 (Ieee.single.word s r)] w (fun e w' => e = .returned (.float .f32 (Ieee.single.word false r)) ∧ w' = w) := by
  have hle := le_zero (s := s) h
  by_cases h0 : s = true ∨ r = 0
  · rw [decide_eq_true h0] at hle
    have e1 := zero_less h h0
    generalize Ieee.single.word s r = D at *
    generalize Ieee.single.word false r = N at *
    have hm : ∀ (t : TypeId) (w : World), (binOp .sub t (.float .f32 0) (.float .f32 D)).run Try.prog w = .ok (.float .f32 N) w := fun t w => run_float_arith w _ _ _ _ _ _ e1
    clear e1 h0 h
    go_enter Try.func84, Try.ntmps84
    go_wp2_with fail
    go_ret
    exact ⟨rfl, rfl⟩
  · rw [decide_eq_false h0] at hle
    obtain rfl : s = false := by
      cases s with
      | false => rfl
      | true => exact absurd (.inl rfl) h0
    generalize Ieee.single.word false r = D at *
    clear h0 h
    go_enter Try.func84, Try.ntmps84
    go_wp2_with fail
    go_ret
    exact ⟨rfl, rfl⟩
set_option maxRecDepth 100000 in
set_option maxHeartbeats 4000000 in
theorem specBal_no (s : Int) (ss xs : List Nat) (m k : Nat) (hm : ss.length = m) (hk : xs.length = k) (ao bo : Option Addr) (c d : Nat) (w : World) (hs : Holds w ao (fl .f32 ss)) (hx : Holds w bo (fl .f32 xs)) (hlen : m ≤ 1048576) (hlk : k ≤ 1048576) (h : ¬fits s ss xs) :
    Calls Try.prog 34 #[.agg #[.int .i64 s, .slice ao m c], .slice bo k d] w (RetB (.tuple #[.float .f32 0, .bool false]) w) := by
  have HX := Lib.hid (And.intro hs (And.intro hx (And.intro hm hk)))
  have HF := Lib.hid h
  have H0 : Hid (ChBox w (w.alloc (.cells #[.int .i64 s, .slice ao m c] 34)) s ao m c) := Lib.hid ⟨Whole.made _ _ _, (by repeat (first | with_reducible exact Below.refl _ _ | with_reducible exact HBL | with_reducible refine Below.drew ?_ | with_reducible refine Bel_drewN ?_ _ | with_reducible refine Below.alloc ?_ (by first | omega | (simp; done) | (simp; omega)) _ | with_reducible refine Below.setCell ?_ (by first | omega | (simp; done) | (simp; omega)) _))⟩
  clear hs hx hm hk h
  go_enter Try.func34, Try.ntmps34
  go_wp2_with (first | (go_at_call 83; fail))
  refine (l07Fits_any s ss xs m k HX.out.2.2.1 HX.out.2.2.2 ao bo c d _ _ H0.out.1 (HX.out.1.below H0.out.2) (HX.out.2.1.below H0.out.2) hlen hlk).mono ?_
  rintro e w1 ⟨q, n, rfl, hq, rfl⟩
  have H1 := Lib.hid (H0.out.drewN n)
  obtain rfl : q = false := by
    cases q with
    | false => rfl
    | true => exact absurd (hq.1 rfl) HF.out
  clear hq
  go_wp2_with fail
  go_ret2
  exact ⟨rfl, H1.out.2⟩
set_option maxRecDepth 100000 in
set_option maxHeartbeats 4000000 in
theorem specBal_yes (n : Nat) (ss xs : List Nat) (m : Nat) (hm : ss.length = m) (ao bo : Option Addr) (c d : Nat) (w : World) (hs : Holds w ao (fl .f32 ss)) (hx : Holds w bo (fl .f32 xs)) (hlen : m ≤ 1048576) (h : fits (n : Int) ss xs) :
    Calls Try.prog 34 #[.agg #[.int .i64 n, .slice ao m c], .slice bo n d] w (RetB (.tuple #[.float .f32 (balW n ss xs), .bool true]) w) := by
  obtain ⟨hB, hn1, hn⟩ := h.bal
  obtain ⟨b, o, rfl⟩ := chain_atM h.1 hs
  obtain ⟨b2, o2, rfl⟩ := row_atM hB.len hn1 hx
  have HB := Lib.hid hB
  have HM : Hid (m = n * n ∧ ss.length = m) := Lib.hid ⟨by rw [← hm]; exact hB.ssl, hm⟩
  have HX := Lib.hid (And.intro hs hx)
  have HF := Lib.hid h
  have HL := Lib.hid hB.len
  have hn12 : (n : Int) ≤ 12 := by omega
  have hm144 : (m : Int) ≤ 144 := by have := sq_le hn; have := HM.out.1; omega
  have H0 : Hid (ChBox w (w.alloc (.cells #[.int .i64 n, .slice (some ⟨b, o, none⟩) m c] 34)) n (some ⟨b, o, none⟩) m c) := Lib.hid ⟨Whole.made _ _ _, (by repeat (first | with_reducible exact Below.refl _ _ | with_reducible exact HBL | with_reducible refine Below.drew ?_ | with_reducible refine Bel_drewN ?_ _ | with_reducible refine Below.alloc ?_ (by first | omega | (simp; done) | (simp; omega)) _ | with_reducible refine Below.setCell ?_ (by first | omega | (simp; done) | (simp; omega)) _))⟩
  clear hs hx h hB hm
  go_enter Try.func34, Try.ntmps34
  go_wp2_with (first | (go_at_call 83; fail))
  refine (l07Fits_any n ss xs m n HM.out.2 HL.out _ _ c d _ _ H0.out.1 (HX.out.1.below H0.out.2) (HX.out.2.below H0.out.2) hlen (by omega)).mono ?_
  rintro e w1 ⟨q, n1, rfl, hq, rfl⟩
  have H1 := Lib.hid (H0.out.drewN n1)
  obtain rfl : q = true := hq.2 HF.out
  clear hq H0
  go_wp2_with fail
  go_loopw [6, 17] (fun v i wr => ∃ (j : Nat), j ≤ n ∧ i = .int .i64 j ∧ v = .float .f32 (Ieee.single.word false (upA n (magD n ss xs) j)) ∧ ChBox w wr n (some ⟨b, o, none⟩) m c) (fun _ i _ => n - (intOf i).toNat)
  case atStart => exact ⟨0, Nat.zero_le _, rfl, rfl, H1.out⟩
  case round =>
    obtain ⟨i, hi, rfl, rfl, hbox⟩ := hrel
    have HBO := Lib.hid hbox
    have hin : (i : Int) ≤ n := by omega
    clear H1
    by_cases hlt : i < n
    · have hlt' : (i : Int) < n := by omega
      clear hbox
      go_wp2_with fail
      go_loopw [6, 22] (fun v i2 wr => ∃ (k : Nat), k ≤ n ∧ i2 = .int .i64 k ∧ v = .float .f32 (Ieee.single.word false (upB n (magD n ss xs) i k)) ∧ ChBox w wr n (some ⟨b, o, none⟩) m c) (fun _ i2 _ => n - (intOf i2).toNat)
      case atStart => exact ⟨0, Nat.zero_le _, rfl, by rw [upB_zero], HBO.out⟩
      case round =>
        obtain ⟨k, hk, rfl, rfl, hbox⟩ := hrel
        have HBX := Lib.hid hbox
        have hz := hbox.1.lt
        have hkn : (k : Int) ≤ n := by omega
        clear HBO
        by_cases hlt2 : k < n
        · have hlt2' : (k : Int) < n := by omega
          have hcg := hbox.1.cell
          obtain ⟨b', o', e', hcx⟩ := (HX.out.2.below hbox.2) i (by rw [fl_len32, HL.out]; exact hlt)
          cases e'
          rw [fl_get _ _ _ (by rw [HL.out]; exact hlt)] at hcx
          obtain ⟨b', o', e', hcy⟩ := (HX.out.2.below hbox.2) k (by rw [fl_len32, HL.out]; exact hlt2)
          cases e'
          rw [fl_get _ _ _ (by rw [HL.out]; exact hlt2)] at hcy
          have hin1 := row_in hlt
          have hin2 := row_in hlt2
          obtain ⟨q1, hq1⟩ : ∃ q, i * n = q := ⟨_, rfl⟩
          obtain ⟨f1, hf1⟩ : ∃ f, q1 + k = f := ⟨_, rfl⟩
          obtain ⟨q2, hq2⟩ : ∃ q, k * n = q := ⟨_, rfl⟩
          obtain ⟨f2, hf2⟩ : ∃ f, q2 + i = f := ⟨_, rfl⟩
          have hfm1 : f1 < m := by rw [HM.out.1]; omega
          have hfm2 : f2 < m := by rw [HM.out.1]; omega
          have hw1 : IntKind.i64.wrap ((i : Int) * (n : Int)) = (q1 : Int) := by rw [← Int.natCast_mul, hq1, IntKind.wrap_i64]; omega
          have hw2 : IntKind.i64.wrap ((q1 : Int) + (k : Int)) = (f1 : Int) := by rw [IntKind.wrap_i64]; omega
          have hw3 : IntKind.i64.wrap ((k : Int) * (n : Int)) = (q2 : Int) := by rw [← Int.natCast_mul, hq2, IntKind.wrap_i64]; omega
          have hw4 : IntKind.i64.wrap ((q2 : Int) + (i : Int)) = (f2 : Int) := by rw [IntKind.wrap_i64]; omega
          obtain ⟨b', o', e', hcs⟩ := (HX.out.1.below hbox.2) f1 (by rw [fl_len32, HM.out.2]; exact hfm1)
          cases e'
          rw [fl_get _ _ _ (by rw [HM.out.2]; exact hfm1)] at hcs
          obtain ⟨b', o', e', hct⟩ := (HX.out.1.below hbox.2) f2 (by rw [fl_len32, HM.out.2]; exact hfm2)
          cases e'
          rw [fl_get _ _ _ (by rw [HM.out.2]; exact hfm2)] at hct
          obtain ⟨p, q, e1, e2, e3, hr, _, _⟩ := HB.out.pair hlt hlt2
          rw [hq1, hf1] at e1
          rw [hq2, hf2] at e2
          have hM := upB_le HB.out.magD_le hlt hk
          have hst := upB_step n (magD n ss xs) i k
          have HSZ := Lib.hid (l07Size_any (negD n ss xs i k) (magD n ss xs i k) hr)
          have hgt := gt_kind hM hr
          have HST := Lib.hid hst
          generalize xs[i]?.getD 0 = x at hcx e1
          generalize xs[k]?.getD 0 = y at hcy e2
          generalize ss[f1]?.getD 0 = z1 at hcs e1
          generalize ss[f2]?.getD 0 = z2 at hct e2
          generalize upB n (magD n ss xs) i k = M at hgt HST hM
          generalize magD n ss xs i k = r at hgt HST HSZ e3 hr
          obtain ⟨D, hD⟩ : ∃ D, Ieee.single.word (negD n ss xs i k) r = D := ⟨_, rfl⟩
          rw [hD] at HSZ e3
          have hm1 : ∀ (t : TypeId) (w : World), (binOp .mul t (.float .f32 x) (.float .f32 z1)).run Try.prog w = .ok (.float .f32 p) w := fun t w => run_float_arith w _ _ _ _ _ _ e1
          have hm2 : ∀ (t : TypeId) (w : World), (binOp .mul t (.float .f32 y) (.float .f32 z2)).run Try.prog w = .ok (.float .f32 q) w := fun t w => run_float_arith w _ _ _ _ _ _ e2
          have hm3 : ∀ (t : TypeId) (w : World), (binOp .sub t (.float .f32 p) (.float .f32 q)).run Try.prog w = .ok (.float .f32 D) w := fun t w => run_float_arith w _ _ _ _ _ _ e3
          have hf0 : (0 : Int) ≤ (f1 : Int) := by omega
          have hfl : (f1 : Int) < (m : Int) := by omega
          have hg0 : (0 : Int) ≤ (f2 : Int) := by omega
          have hgl : (f2 : Int) < (m : Int) := by omega
          clear hM hr hst hD e1 e2 e3 hbox hin1 hin2 hq1 hq2 hf1 hf2 hfm1 hfm2
          go_wp2_with fail
          go_quiet (fail)
          go_wp2_with fail
          go_quiet (fail)
          clear hcx hcy hcs hct hcg hm1 hm2 hw1 hw2 hw3 hw4
          by_cases hMr : M < r
          · rw [decide_eq_true hMr] at hgt
            have hv : upB n (magD n ss xs) i (k + 1) = r := by rw [HST.out]; omega
            go_wp2_with (go_at_call 84; refine (HSZ.out _).mono ?_; rintro e w1 ⟨rfl, rfl⟩)
            go_roundw
            case rel => exact ⟨k + 1, by omega, by go_num, by rw [hv], HBX.out.drewN _⟩
            case measure => simp [intOf]; omega
          · rw [decide_eq_false hMr] at hgt
            have hv : upB n (magD n ss xs) i (k + 1) = M := by rw [HST.out]; omega
            go_wp2_with (go_at_call 84; refine (HSZ.out _).mono ?_; rintro e w1 ⟨rfl, rfl⟩)
            go_roundw
            case rel => exact ⟨k + 1, by omega, by go_num, by rw [hv], HBX.out.drewN _⟩
            case measure => simp [intOf]; omega
        · obtain rfl : k = n := by omega
          clear hbox
          go_wp2_with fail
          go_roundw
          case rel => exact ⟨i + 1, by omega, by go_num, rfl, HBX.out⟩
          case measure => simp [intOf]; omega
    · obtain rfl : i = n := by omega
      go_wp2_with fail
      go_ret2
      exact ⟨rfl, HBO.out.2⟩
end Go.Proofs.Ytgeomaeccalceaa
