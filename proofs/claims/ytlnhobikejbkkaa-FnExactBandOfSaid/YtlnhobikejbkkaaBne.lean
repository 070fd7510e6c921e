/- BandOf: both sides (under way). -/
import Derived.Test.YtlnhobikejbkkaaBnd
import Derived.Test.YtlnhobikejbkkaaFz
import Derived.Test.YtlnhobikejbkkaaHt
namespace Go.Proofs.Ytlnhobikejbkkaa
open Go Go.RowKit Fl Vag
set_option linter.unusedVariables false

theorem band_k {x n : Nat} (h : partB x = true) (hx : gtB x 0 = true) (hn : n ≤ 256) : ∃ k : Nat, (Ieee.single.read (mulB x n)).toInt .zero = some (k : Int) ∧ (Ieee.double.read (floorB (Ieee.double.write (Ieee.single.read (mulB x n))))).toInt .zero = some (k : Int) ∧ k < 16777216 := by
  obtain ⟨_, h2, _⟩ := mulB_big h hx hn
  obtain ⟨m, i, e, hm, hi, h3⟩ := read_low h2
  have hw : whl m i < 16777216 := Nat.lt_of_le_of_lt (whl_low hi) hm
  refine ⟨whl m i, by rw [e]; exact toInt_pos m i, ?_, hw⟩
  by_cases h0 : m = 0
  · subst h0
    rw [e]
    show (Ieee.double.read (floorB (Ieee.double.nearest false 0 i))).toInt .zero = _
    have e1 : Ieee.double.nearest false 0 i = 0 := rfl
    have e2 : whl 0 i = 0 := by unfold whl; rw [Nat.zero_mul, Nat.zero_div]
    rw [e1, e2]
    decide +kernel
  · exact floor_trunc e h0 (h3 h0).1 (h3 h0).2.1 (h3 h0).2.2 (by omega)
/-- What BandOf asks. -/
def bandC (xs : List Nat) (x : Nat) : Prop := (1 ≤ xs.length ∧ xs.length ≤ 256) ∧ fins xs ∧ srt xs ∧ gtB x 0 = true ∧ leB x 1056964608 = true
theorem half_part {x : Nat} (h1 : gtB x 0 = true) (h2 : leB x 1056964608 = true) : partB x = true := by
  have hx : av .f32 x = some x := by
    by_cases hn : (FloatKind.f32.format.read x).isNaN = false
    · exact av_some hn
    · exfalso
      unfold gtB at h1
      have : FloatKind.f32.format.order x 0 = none := by
        rw [aord_order]
        have : av .f32 x = none := by unfold av; rw [if_pos (by simpa using hn)]
        rw [this]; rfl
      rw [this] at h1
      cases h1
  have h0 : av .f32 0 = some 0 := by decide +kernel
  have hh : av .f32 1056964608 = some 1056964608 := by decide +kernel
  have ho : av .f32 1065353216 = some 1065353216 := by decide +kernel
  rw [gtB_K hx h0] at h1
  rw [leB_K hx hh] at h2
  have h1 := of_decide_eq_true h1
  have h2 := of_decide_eq_true h2
  have hl : fK 1056964608 ≤ fK 1065353216 := by decide +kernel
  unfold partB
  rw [geB_K hx h0, leB_K hx ho, decide_eq_true (show fK 0 ≤ fK x by omega), decide_eq_true (show fK x ≤ fK 1065353216 by omega)]
  rfl
def bandK (x n : Nat) : Nat := min (((Ieee.single.read (mulB x n)).toInt .zero).getD 0).toNat ((n - 1) / 2)
theorem wpList_toint32 {P : Program} {w : World} {ops : Array Oper} {rest : List Oper} {a : Act} {Q : Exit → Act → World → Prop} {dst : Option Tmp} {ty : TypeId} {pos : String} {af : Array Edge} (src dt : TypeId) (x : Operand) (b : Nat) (n : Int) (hx : a.eval x = .float .f32 b) (hs : P.underlying src = some (.float .f32)) (hd : P.underlying dt = some (.int .i64))
    (h : (Ieee.single.read b).toInt .zero = some n) (hn : n.natAbs < 4503599627370496)
    (hK : wpList P ops Q rest (a.put dst (.int .i64 n)) w) :
    wpList P ops Q (⟨dst, .convert src dt x, ty, pos, af, none⟩ :: rest) a w := by
  refine wpList_plain rfl fun K hK' => ?_
  have h1 : IntKind.i64.min ≤ n := by have : IntKind.i64.min = -9223372036854775808 := by decide
                                      omega
  have h2 : n ≤ 9223372036854775807 := by omega
  unfold Oper.wp
  simp [execOp, hx, convert, run_underlying hs, run_underlying hd, Conv.floatToInt, FloatKind.decode, FloatKind.format, h, h1, h2]
  exact hK' _ _ hK
set_option maxRecDepth 100000 in
set_option maxHeartbeats 4000000 in
theorem implBand_yes (xs : List Nat) (x n : Nat) (hn : xs.length = n) (ao : Option Addr) (c : Nat) (w : World) (hv : bandC xs x) (hx : Holds w ao (fl .f32 xs)) :
    Calls Try.prog 17 #[.slice ao n c, .float .f32 x] w (RetB (.tuple #[.float .f32 (xs[bandK x n]?.getD 0), .float .f32 (xs[n - 1 - bandK x n]?.getD 0), .bool true]) w) := by
  have HX := Lib.hid (And.intro hx hn)
  have HV := Lib.hid hv
  obtain ⟨h1, h2⟩ := hv.1
  rw [hn] at h1 h2
  have hp := half_part hv.2.2.2.1 hv.2.2.2.2
  obtain ⟨kk, hk1, hk2, hk3⟩ := band_k hp hv.2.2.2.1 h2
  have HM := Lib.hid (mulB_big hp hv.2.2.2.1 h2)
  have HK := Lib.hid (And.intro hk1 hk3)
  have HP : Hid ((geB x 0 && leB x 1056964608) = true) := Lib.hid (by
    have : geB x 0 = true := by unfold partB at hp; rw [Bool.and_eq_true] at hp; exact hp.1
    rw [this, hv.2.2.2.2]; rfl)
  have h0 : (FloatKind.f32.format.order x 0 == some Ordering.eq) = false := by
    have := hv.2.2.2.1
    unfold gtB at this
    rw [beq_iff_eq] at this
    rw [this]; rfl
  have h1' : ¬ (n : Int) < 1 := by omega
  have h2' : ¬ (256 : Int) < n := by omega
  obtain ⟨q, hq, hqn⟩ : ∃ q, bandK x n = q ∧ q = min kk ((n - 1) / 2) := ⟨_, rfl, by unfold bandK; rw [hk1]; rfl⟩
  have HQ := Lib.hid hq
  obtain ⟨b, o, rfl, hcq⟩ := hx q (by simp [fl, hn]; omega)
  rw [fl_get _ _ _ (by rw [hn]; omega)] at hcq
  obtain ⟨b', o', e', hcr⟩ := hx (n - 1 - q) (by simp [fl, hn]; omega)
  rw [fl_get _ _ _ (by rw [hn]; omega)] at hcr
  obtain ⟨rfl, rfl⟩ : b = b' ∧ o = o' := by simpa using e'
  have HC := Lib.hid (And.intro hcq hcr)
  have hi1 : 0 ≤ (q : Int) ∧ (q : Int) < n := by omega
  have hi2 : 0 ≤ (n : Int) - 1 - q ∧ (n : Int) - 1 - q < n := by omega
  have hi3 : ((n : Int) - 1 - q).toNat = n - 1 - q := by omega
  have HI := Lib.hid (And.intro hi1 (And.intro hi2 hi3))
  clear hx hn hv hp hk1 hk2 e' hcq hcr hq hi1 hi2 hi3
  go_enter Try.func17, Try.ntmps17
  go_wp2_with (first | (go_at_call 56; fail))
  refine (areFinite_any xs n HX.out.2 _ _ _ HX.out.1 (by omega)).mono ?_
  rintro e w1 ⟨b, n1, rfl, hb, rfl⟩
  rw [hb.2 HV.out.2.1]
  clear hb
  go_wp2_with (first | (go_at_call 57; fail))
  refine (isSorted_any xs n HX.out.2 _ _ _ (HX.out.1.drewN _) HV.out.2.1 h1 (by omega)).mono ?_
  rintro e w1 ⟨b, n2, rfl, hb, rfl⟩
  rw [hb.2 HV.out.2.2.1]
  clear hb
  go_wp2_with (first | (go_at_call 58; fail))
  refine (isWithin_any _ _ _ _).mono ?_
  rintro e w1 ⟨rfl, rfl⟩
  rw [HP.out]
  have hkk : (kk : Int).natAbs < 4503599627370496 := by omega
  go_wp2_with (first | (refine wpList_farith _ _ _ _ _ .f32 x (floatOfInt .f32 (n : Int)) rfl rfl rfl ?_; intro d n4 hd; rw [HM.out.1] at hd; have ed := Fv_some hd; subst ed; clear hd) | (refine wpList_toint32 _ _ _ _ (kk : Int) rfl Try.underlying23 Try.underlying2 HK.out.1 hkk ?_))
  all_goals
    first
    | (have e1 : (kk : Int) = q := by omega
       rw [e1])
    | (have e2 : ((n : Int) - 1) / 2 = q := by omega
       rw [e2])
    obtain ⟨hcq, hcr⟩ := HC.out
    obtain ⟨hi1, hi2, hi3⟩ := HI.out
    have hw1 : IntKind.i64.wrap ((n : Int) - 1) = (n : Int) - 1 := by rw [IntKind.wrap_i64]; omega
    have hw2 : IntKind.i64.wrap ((n : Int) - 1 - q) = (n : Int) - 1 - q := by rw [IntKind.wrap_i64]; omega
    clear hqn
    go_region
    go_wp2_with fail
    go_ret3
    exact ⟨by rw [HQ.out]; rfl, (by repeat (first | with_reducible exact Below.refl _ _ | with_reducible exact HBL | with_reducible refine Below.drew ?_ | with_reducible refine Bel_drewN ?_ _ | with_reducible refine Below.alloc ?_ (by first | omega | (simp; done) | (simp; omega)) _ | with_reducible refine Below.setCell ?_ (by first | omega | (simp; done) | (simp; omega)) _))⟩
set_option maxRecDepth 100000 in
set_option maxHeartbeats 4000000 in
theorem implBand_no (xs : List Nat) (x n : Nat) (hn : xs.length = n) (ao : Option Addr) (c : Nat) (w : World) (hv : ¬ bandC xs x) (hx : Holds w ao (fl .f32 xs)) (hl : n ≤ 1048576) :
    Calls Try.prog 17 #[.slice ao n c, .float .f32 x] w (RetB (.tuple #[.float .f32 0, .float .f32 0, .bool false]) w) := by
  have HX := Lib.hid (And.intro hx hn)
  have HV := Lib.hid hv
  clear hx hv hn
  by_cases h1 : n < 1
  · have h1' : (n : Int) < 1 := by omega
    go_enter Try.func17, Try.ntmps17
    go_wp2_with fail
    go_ret3
    exact ⟨rfl, (by repeat (first | with_reducible exact Below.refl _ _ | with_reducible exact HBL | with_reducible refine Below.drew ?_ | with_reducible refine Bel_drewN ?_ _ | with_reducible refine Below.alloc ?_ (by first | omega | (simp; done) | (simp; omega)) _ | with_reducible refine Below.setCell ?_ (by first | omega | (simp; done) | (simp; omega)) _))⟩
  · have h1' : ¬ (n : Int) < 1 := by omega
    by_cases h2 : 256 < n
    · have h2' : (256 : Int) < n := by omega
      go_enter Try.func17, Try.ntmps17
      go_wp2_with fail
      go_ret3
      exact ⟨rfl, (by repeat (first | with_reducible exact Below.refl _ _ | with_reducible exact HBL | with_reducible refine Below.drew ?_ | with_reducible refine Bel_drewN ?_ _ | with_reducible refine Below.alloc ?_ (by first | omega | (simp; done) | (simp; omega)) _ | with_reducible refine Below.setCell ?_ (by first | omega | (simp; done) | (simp; omega)) _))⟩
    · have h2' : ¬ (256 : Int) < n := by omega
      by_cases hf : fins xs
      · have HF := Lib.hid hf
        by_cases hs : srt xs
        · have HS := Lib.hid hs
          clear hf hs
          cases hw : (geB x 0 && leB x 1056964608) with
          | false =>
            have HW := Lib.hid hw
            clear hw
            go_enter Try.func17, Try.ntmps17
            go_wp2_with (first | (go_at_call 56; fail))
            refine (areFinite_any xs n HX.out.2 _ _ _ HX.out.1 (by omega)).mono ?_
            rintro e w1 ⟨b, n1, rfl, hb, rfl⟩
            rw [hb.2 HF.out]
            clear hb
            go_wp2_with (first | (go_at_call 57; fail))
            refine (isSorted_any xs n HX.out.2 _ _ _ (HX.out.1.drewN _) HF.out (by omega) (by omega)).mono ?_
            rintro e w1 ⟨b, n2, rfl, hb, rfl⟩
            rw [hb.2 HS.out]
            clear hb
            go_wp2_with (first | (go_at_call 58; fail))
            refine (isWithin_any _ _ _ _).mono ?_
            rintro e w1 ⟨rfl, rfl⟩
            rw [HW.out]
            go_wp2_with fail
            go_ret3
            exact ⟨rfl, (by repeat (first | with_reducible exact Below.refl _ _ | with_reducible exact HBL | with_reducible refine Below.drew ?_ | with_reducible refine Bel_drewN ?_ _ | with_reducible refine Below.alloc ?_ (by first | omega | (simp; done) | (simp; omega)) _ | with_reducible refine Below.setCell ?_ (by first | omega | (simp; done) | (simp; omega)) _))⟩
          | true =>
            have HW := Lib.hid hw
            have h0 : (FloatKind.f32.format.order x 0 == some Ordering.eq) = true := by
              rw [Bool.and_eq_true] at hw
              have hg : gtB x 0 = false := by
                cases hg : gtB x 0 with
                | false => rfl
                | true => exact absurd ⟨⟨by have := HX.out.2; omega, by have := HX.out.2; omega⟩, HF.out, HS.out, hg, hw.2⟩ HV.out
              have h3 := hw.1
              unfold geB at h3
              unfold gtB at hg
              rw [hg] at h3
              simpa using h3
            clear hw
            go_enter Try.func17, Try.ntmps17
            go_wp2_with (first | (go_at_call 56; fail))
            refine (areFinite_any xs n HX.out.2 _ _ _ HX.out.1 (by omega)).mono ?_
            rintro e w1 ⟨b, n1, rfl, hb, rfl⟩
            rw [hb.2 HF.out]
            clear hb
            go_wp2_with (first | (go_at_call 57; fail))
            refine (isSorted_any xs n HX.out.2 _ _ _ (HX.out.1.drewN _) HF.out (by omega) (by omega)).mono ?_
            rintro e w1 ⟨b, n2, rfl, hb, rfl⟩
            rw [hb.2 HS.out]
            clear hb
            go_wp2_with (first | (go_at_call 58; fail))
            refine (isWithin_any _ _ _ _).mono ?_
            rintro e w1 ⟨rfl, rfl⟩
            rw [HW.out]
            go_wp2_with fail
            go_ret3
            exact ⟨rfl, (by repeat (first | with_reducible exact Below.refl _ _ | with_reducible exact HBL | with_reducible refine Below.drew ?_ | with_reducible refine Bel_drewN ?_ _ | with_reducible refine Below.alloc ?_ (by first | omega | (simp; done) | (simp; omega)) _ | with_reducible refine Below.setCell ?_ (by first | omega | (simp; done) | (simp; omega)) _))⟩
        · have HS := Lib.hid hs
          clear hf hs
          go_enter Try.func17, Try.ntmps17
          go_wp2_with (first | (go_at_call 56; fail))
          refine (areFinite_any xs n HX.out.2 _ _ _ HX.out.1 (by omega)).mono ?_
          rintro e w1 ⟨b, n1, rfl, hb, rfl⟩
          rw [hb.2 HF.out]
          clear hb
          go_wp2_with (first | (go_at_call 57; fail))
          refine (isSorted_any xs n HX.out.2 _ _ _ (HX.out.1.drewN _) HF.out (by omega) (by omega)).mono ?_
          rintro e w1 ⟨b, n2, rfl, hb, rfl⟩
          rw [show b = false by cases b with | false => rfl | true => exact absurd (hb.1 rfl) HS.out]
          clear hb
          go_wp2_with fail
          go_ret3
          exact ⟨rfl, (by repeat (first | with_reducible exact Below.refl _ _ | with_reducible exact HBL | with_reducible refine Below.drew ?_ | with_reducible refine Bel_drewN ?_ _ | with_reducible refine Below.alloc ?_ (by first | omega | (simp; done) | (simp; omega)) _ | with_reducible refine Below.setCell ?_ (by first | omega | (simp; done) | (simp; omega)) _))⟩
      · have HF := Lib.hid hf
        clear hf
        go_enter Try.func17, Try.ntmps17
        go_wp2_with (first | (go_at_call 56; fail))
        refine (areFinite_any xs n HX.out.2 _ _ _ HX.out.1 (by omega)).mono ?_
        rintro e w1 ⟨b, n1, rfl, hb, rfl⟩
        rw [show b = false by cases b with | false => rfl | true => exact absurd (hb.1 rfl) HF.out]
        clear hb
        go_wp2_with fail
        go_ret3
        exact ⟨rfl, (by repeat (first | with_reducible exact Below.refl _ _ | with_reducible exact HBL | with_reducible refine Below.drew ?_ | with_reducible refine Bel_drewN ?_ _ | with_reducible refine Below.alloc ?_ (by first | omega | (simp; done) | (simp; omega)) _ | with_reducible refine Below.setCell ?_ (by first | omega | (simp; done) | (simp; omega)) _))⟩
set_option maxRecDepth 100000 in
theorem l06List_any (xs : List Nat) (n : Nat) (hn : xs.length = n) (ao : Option Addr) (c : Nat) (w : World) (hx : Holds w ao (fl .f32 xs)) (hl : n ≤ 1048576) :
    Calls Try.prog 54 #[.slice ao n c, .int .i64 256] w (BoD ((1 ≤ n ∧ n ≤ 256) ∧ fins xs) w) := by
  have HX := Lib.hid (And.intro hx hn)
  clear hx hn
  by_cases h1 : 1 ≤ n
  · have h1' : (1 : Int) ≤ n := by omega
    by_cases h2 : n ≤ 256
    · have h2' : (n : Int) ≤ 256 := by omega
      go_enter Try.func54, Try.ntmps54
      go_wp2_with (first | (go_at_call 79; fail))
      refine (l02Finite_any xs n HX.out.2 _ _ _ HX.out.1 hl).mono ?_
      rintro e w1 ⟨b, n1, rfl, hb, rfl⟩
      have HB := Lib.hid hb
      clear hb
      go_wp2_with fail
      go_ret
      exact ⟨b, n1, rfl, by rw [HB.out]; exact ⟨fun h => ⟨⟨h1, h2⟩, h⟩, fun h => h.2⟩, rfl⟩
    · have h2' : ¬ (n : Int) ≤ 256 := by omega
      go_enter Try.func54, Try.ntmps54
      go_wp2_with fail
      go_ret
      exact ⟨false, 0, rfl, ⟨fun h => (by cases h), fun h => by first | exact h.elim | exact absurd h.1.2 h2⟩, rfl⟩
  · have h1' : ¬ (1 : Int) ≤ n := by omega
    go_enter Try.func54, Try.ntmps54
    go_wp2_with fail
    go_ret
    exact ⟨false, 0, rfl, ⟨fun h => (by cases h), fun h => by first | exact h.elim | exact absurd h.1.1 h1⟩, rfl⟩
set_option maxRecDepth 100000 in
set_option maxHeartbeats 4000000 in
theorem specBand_yes (xs : List Nat) (x n : Nat) (hn : xs.length = n) (ao : Option Addr) (c : Nat) (w : World) (hv : bandC xs x) (hx : Holds w ao (fl .f32 xs)) :
    Calls Try.prog 15 #[.slice ao n c, .float .f32 x] w (RetB (.tuple #[.float .f32 (xs[bandK x n]?.getD 0), .float .f32 (xs[n - 1 - bandK x n]?.getD 0), .bool true]) w) := by
  have HX := Lib.hid (And.intro hx hn)
  have HV := Lib.hid hv
  obtain ⟨h1, h2⟩ := hv.1
  rw [hn] at h1 h2
  have hp := half_part hv.2.2.2.1 hv.2.2.2.2
  obtain ⟨kk, hk1, hk2, hk3⟩ := band_k hp hv.2.2.2.1 h2
  have HM := Lib.hid (mulB_big hp hv.2.2.2.1 h2)
  have HK := Lib.hid (And.intro hk2 hk3)
  have HWD : Hid (widen (av .f32 (mulB x n)) = some (Ieee.double.write (Ieee.single.read (mulB x n)))) := Lib.hid (by
    rw [av_some (show (FloatKind.f32.format.read (mulB x n)).isNaN = false from HM.out.2.2)]; rfl)
  have HNN : Hid ((Ieee.double.read (Ieee.double.write (Ieee.single.read (mulB x n)))).isNaN = false) := Lib.hid (by
    cases hh : (Ieee.double.read (Ieee.double.write (Ieee.single.read (mulB x n)))).isNaN with
    | false => rfl
    | true =>
      exfalso
      have hbad := hk2
      unfold floorB at hbad
      cases hd : Ieee.double.read (Ieee.double.write (Ieee.single.read (mulB x n))) with
      | number s m i => rw [hd] at hh; cases hh
      | infinity s => rw [hd] at hh; cases hh
      | nan s f =>
        have hw := wide_same (mulB x n) HM.out.2.2
        rw [hd] at hw
        obtain ⟨m2, i2, e2, _⟩ := read_low HM.out.2.1
        rw [e2] at hw
        simp [SameNum] at hw)
  have hg : (FloatKind.f32.format.order x 0 == some Ordering.gt) = true := hv.2.2.2.1
  have hle : (FloatKind.f32.format.order x 1056964608 == some Ordering.lt || FloatKind.f32.format.order x 1056964608 == some Ordering.eq) = true := hv.2.2.2.2
  obtain ⟨q, hq, hqn⟩ : ∃ q, bandK x n = q ∧ q = min kk ((n - 1) / 2) := ⟨_, rfl, by unfold bandK; rw [hk1]; rfl⟩
  have HQ := Lib.hid hq
  obtain ⟨b, o, rfl, hcq⟩ := hx q (by simp [fl, hn]; omega)
  rw [fl_get _ _ _ (by rw [hn]; omega)] at hcq
  obtain ⟨b', o', e', hcr⟩ := hx (n - 1 - q) (by simp [fl, hn]; omega)
  rw [fl_get _ _ _ (by rw [hn]; omega)] at hcr
  obtain ⟨rfl, rfl⟩ : b = b' ∧ o = o' := by simpa using e'
  have HC := Lib.hid (And.intro hcq hcr)
  have hi1 : 0 ≤ (q : Int) ∧ (q : Int) < n := by omega
  have hi2 : 0 ≤ (n : Int) - 1 - q ∧ (n : Int) - 1 - q < n := by omega
  have hi3 : ((n : Int) - 1 - q).toNat = n - 1 - q := by omega
  have HI := Lib.hid (And.intro hi1 (And.intro hi2 hi3))
  clear hx hn hv hp hk1 hk2 e' hcq hcr hq hi1 hi2 hi3
  go_enter Try.func15, Try.ntmps15
  go_wp2_with (first | (go_at_call 54; fail))
  refine (l06List_any xs n HX.out.2 _ _ _ HX.out.1 (by omega)).mono ?_
  rintro e w1 ⟨b1, n1, rfl, hb, rfl⟩
  rw [hb.2 ⟨⟨h1, h2⟩, HV.out.2.1⟩]
  clear hb
  go_wp2_with fail
  go_loopw [7] (fun i wr => ∃ k : Nat, 1 ≤ k ∧ k ≤ n ∧ i = .int .i64 (k : Int) ∧ ∃ m, wr = w.drewN m) (fun i _ => n - (intOf i).toNat)
  case atStart => exact ⟨1, Nat.le_refl _, h1, rfl, _, rfl⟩
  case round =>
    obtain ⟨k, hk1, hk, rfl, m, rfl⟩ := hrel
    by_cases hlk : k < n
    · have hlk' : (k : Int) < n := by omega
      obtain ⟨b2, o2, e2, hcx⟩ := HX.out.1 k (by simp [fl, HX.out.2]; omega)
      rw [fl_get _ _ _ (by rw [HX.out.2]; omega)] at hcx
      obtain ⟨rfl, rfl⟩ : b = b2 ∧ o = o2 := by simpa using e2
      obtain ⟨b3, o3, e3, hcy⟩ := HX.out.1 (k - 1) (by simp [fl, HX.out.2]; omega)
      rw [fl_get _ _ _ (by rw [HX.out.2]; omega)] at hcy
      obtain ⟨rfl, rfl⟩ : b = b3 ∧ o = o3 := by simpa using e3
      have hlt := HV.out.2.2.1 (k - 1) (by rw [HX.out.2]; omega)
      rw [show k - 1 + 1 = k by omega] at hlt
      unfold ltB at hlt
      generalize xs[k]?.getD 0 = y1 at hcx hlt
      generalize xs[k - 1]?.getD 0 = y2 at hcy hlt
      have hj1 : 0 ≤ (k : Int) - 1 ∧ (k : Int) - 1 < n := by omega
      have hj2 : ((k : Int) - 1).toNat = k - 1 := by omega
      have hj3 : IntKind.i64.wrap ((k : Int) - 1) = (k : Int) - 1 := by rw [IntKind.wrap_i64]; omega
      clear e2 e3 hqn
      go_wp2_with fail
      go_region
      all_goals
        go_wp2_with fail
        go_roundw
        case rel => exact ⟨k + 1, by omega, by omega, by go_num, _, rfl⟩
        case measure => simp [intOf]; omega
    · have hlk' : ¬ (k : Int) < n := by omega
      have hkk : (kk : Int).natAbs < 4503599627370496 := by omega
      go_wp2_with (first | (go_at_call 55; fail) | (refine wpList_farith _ _ _ _ _ .f32 x (floatOfInt .f32 (n : Int)) rfl rfl rfl ?_; intro d n4 hd; rw [HM.out.1] at hd; have ed := Fv_some hd; subst ed; clear hd) | (refine wpList_widen _ _ _ _ rfl Try.underlying23 Try.underlying28 ?_; intro d2 n5 hd; rw [HWD.out] at hd; have ed := Fv_some hd; subst ed; clear hd))
      refine (Floor_any _ _ HNN.out).mono ?_
      rintro e w1 ⟨rfl, rfl⟩
      go_wp2_with (refine wpList_toint _ _ _ _ (kk : Int) rfl Try.underlying28 Try.underlying2 HK.out.1 hkk ?_)
      all_goals
        first
        | (have e1 : (kk : Int) = q := by omega
           rw [e1])
        | (have e2 : ((n : Int) - 1) / 2 = q := by omega
           rw [e2])
        obtain ⟨hcq, hcr⟩ := HC.out
        obtain ⟨hi1, hi2, hi3⟩ := HI.out
        have hw1 : IntKind.i64.wrap ((n : Int) - 1) = (n : Int) - 1 := by rw [IntKind.wrap_i64]; omega
        have hw2 : IntKind.i64.wrap ((n : Int) - 1 - q) = (n : Int) - 1 - q := by rw [IntKind.wrap_i64]; omega
        clear hqn
        go_region
        go_wp2_with fail
        go_ret3
        exact ⟨by rw [HQ.out]; rfl, (by repeat (first | with_reducible exact Below.refl _ _ | with_reducible exact HBL | with_reducible refine Below.drew ?_ | with_reducible refine Bel_drewN ?_ _ | with_reducible refine Below.alloc ?_ (by first | omega | (simp; done) | (simp; omega)) _ | with_reducible refine Below.setCell ?_ (by first | omega | (simp; done) | (simp; omega)) _))⟩
set_option maxRecDepth 100000 in
set_option maxHeartbeats 4000000 in
theorem specBand_no (xs : List Nat) (x n : Nat) (hn : xs.length = n) (ao : Option Addr) (c : Nat) (w : World) (hv : ¬ bandC xs x) (hx : Holds w ao (fl .f32 xs)) (hl : n ≤ 1048576) :
    Calls Try.prog 15 #[.slice ao n c, .float .f32 x] w (RetB (.tuple #[.float .f32 0, .float .f32 0, .bool false]) w) := by
  have HX := Lib.hid (And.intro hx hn)
  have HV := Lib.hid hv
  clear hx hv hn
  by_cases h1 : (1 ≤ n ∧ n ≤ 256) ∧ fins xs
  · have H1 := Lib.hid h1
    obtain ⟨⟨hn1, hn2⟩, _⟩ := h1
    cases hg : gtB x 0 with
    | false =>
      have hg' : (FloatKind.f32.format.order x 0 == some Ordering.gt) = false := hg
      clear hg
      go_enter Try.func15, Try.ntmps15
      go_wp2_with (first | (go_at_call 54; fail))
      refine (l06List_any xs n HX.out.2 _ _ _ HX.out.1 (by omega)).mono ?_
      rintro e w1 ⟨b1, n1, rfl, hb, rfl⟩
      rw [hb.2 H1.out]
      clear hb
      go_wp2_with fail
      go_ret3
      exact ⟨rfl, (by repeat (first | with_reducible exact Below.refl _ _ | with_reducible exact HBL | with_reducible refine Below.drew ?_ | with_reducible refine Bel_drewN ?_ _ | with_reducible refine Below.alloc ?_ (by first | omega | (simp; done) | (simp; omega)) _ | with_reducible refine Below.setCell ?_ (by first | omega | (simp; done) | (simp; omega)) _))⟩
    | true =>
      have hg' : (FloatKind.f32.format.order x 0 == some Ordering.gt) = true := hg
      cases hle : leB x 1056964608 with
      | false =>
        have hle' : (FloatKind.f32.format.order x 1056964608 == some Ordering.lt || FloatKind.f32.format.order x 1056964608 == some Ordering.eq) = false := hle
        clear hg hle
        go_enter Try.func15, Try.ntmps15
        go_wp2_with (first | (go_at_call 54; fail))
        refine (l06List_any xs n HX.out.2 _ _ _ HX.out.1 (by omega)).mono ?_
        rintro e w1 ⟨b1, n1, rfl, hb, rfl⟩
        rw [hb.2 H1.out]
        clear hb
        go_wp2_with fail
        go_ret3
        exact ⟨rfl, (by repeat (first | with_reducible exact Below.refl _ _ | with_reducible exact HBL | with_reducible refine Below.drew ?_ | with_reducible refine Bel_drewN ?_ _ | with_reducible refine Below.alloc ?_ (by first | omega | (simp; done) | (simp; omega)) _ | with_reducible refine Below.setCell ?_ (by first | omega | (simp; done) | (simp; omega)) _))⟩
      | true =>
        have hle' : (FloatKind.f32.format.order x 1056964608 == some Ordering.lt || FloatKind.f32.format.order x 1056964608 == some Ordering.eq) = true := hle
        have HNS : Hid (¬ srt xs) := Lib.hid (fun hs => HV.out ⟨by rw [HX.out.2]; exact ⟨hn1, hn2⟩, H1.out.2, hs, hg, hle⟩)
        clear hg hle
        go_enter Try.func15, Try.ntmps15
        go_wp2_with (first | (go_at_call 54; fail))
        refine (l06List_any xs n HX.out.2 _ _ _ HX.out.1 (by omega)).mono ?_
        rintro e w1 ⟨b1, n1, rfl, hb, rfl⟩
        rw [hb.2 H1.out]
        clear hb
        go_wp2_with fail
        go_loopw [7] (fun i wr => ∃ k : Nat, 1 ≤ k ∧ k ≤ n ∧ i = .int .i64 (k : Int) ∧ (∀ j : Nat, j + 1 < k → ltB (xs[j + 1]?.getD 0) (xs[j]?.getD 0) = false) ∧ ∃ m, wr = w.drewN m) (fun i _ => n - (intOf i).toNat)
        case atStart => exact ⟨1, Nat.le_refl _, hn1, rfl, fun j hj => by omega, _, rfl⟩
        case round =>
          obtain ⟨k, hk1, hk, rfl, hall, m, rfl⟩ := hrel
          have HALL := Lib.hid hall
          clear hall
          by_cases hlk : k < n
          · have hlk' : (k : Int) < n := by omega
            obtain ⟨b2, o2, rfl, hcx⟩ := HX.out.1 k (by simp [fl, HX.out.2]; omega)
            rw [fl_get _ _ _ (by rw [HX.out.2]; omega)] at hcx
            obtain ⟨b3, o3, e3, hcy⟩ := HX.out.1 (k - 1) (by simp [fl, HX.out.2]; omega)
            rw [fl_get _ _ _ (by rw [HX.out.2]; omega)] at hcy
            obtain ⟨rfl, rfl⟩ : b2 = b3 ∧ o2 = o3 := by simpa using e3
            have HST : Hid (ltB (xs[k]?.getD 0) (xs[k - 1]?.getD 0) = false → ∀ j : Nat, j + 1 < k + 1 → ltB (xs[j + 1]?.getD 0) (xs[j]?.getD 0) = false) := Lib.hid (fun h j hj => by
              by_cases e : j = k - 1
              · subst e; rw [show k - 1 + 1 = k by omega]; exact h
              · exact HALL.out j (by omega))
            generalize xs[k]?.getD 0 = y1 at hcx HST
            generalize xs[k - 1]?.getD 0 = y2 at hcy HST
            have hj1 : 0 ≤ (k : Int) - 1 ∧ (k : Int) - 1 < n := by omega
            have hj2 : ((k : Int) - 1).toNat = k - 1 := by omega
            have hj3 : IntKind.i64.wrap ((k : Int) - 1) = (k : Int) - 1 := by rw [IntKind.wrap_i64]; omega
            clear e3
            cases hlt : ltB y1 y2 with
            | true =>
              have hlt' : (FloatKind.f32.format.order y1 y2 == some Ordering.lt) = true := hlt
              clear hlt
              go_wp2_with fail
              go_region
              all_goals
                go_wp2_with fail
                go_ret3
                exact ⟨rfl, (by repeat (first | with_reducible exact Below.refl _ _ | with_reducible exact HBL | with_reducible refine Below.drew ?_ | with_reducible refine Bel_drewN ?_ _ | with_reducible refine Below.alloc ?_ (by first | omega | (simp; done) | (simp; omega)) _ | with_reducible refine Below.setCell ?_ (by first | omega | (simp; done) | (simp; omega)) _))⟩
            | false =>
              have hlt' : (FloatKind.f32.format.order y1 y2 == some Ordering.lt) = false := hlt
              have HLT := Lib.hid hlt
              clear hlt
              go_wp2_with fail
              go_region
              all_goals
                go_wp2_with fail
                go_roundw
                case rel => exact ⟨k + 1, by omega, by omega, by go_num, HST.out HLT.out, _, rfl⟩
                case measure => simp [intOf]; omega
          · exact absurd (fun i hi => HALL.out i (by rw [HX.out.2] at hi; omega)) HNS.out
  · have H1 := Lib.hid h1
    clear h1
    go_enter Try.func15, Try.ntmps15
    go_wp2_with (first | (go_at_call 54; fail))
    refine (l06List_any xs n HX.out.2 _ _ _ HX.out.1 hl).mono ?_
    rintro e w1 ⟨b1, n1, rfl, hb, rfl⟩
    rw [show b1 = false by cases b1 with | false => rfl | true => exact absurd (hb.1 rfl) H1.out]
    clear hb
    go_wp2_with fail
    go_ret3
    exact ⟨rfl, (by repeat (first | with_reducible exact Below.refl _ _ | with_reducible exact HBL | with_reducible refine Below.drew ?_ | with_reducible refine Bel_drewN ?_ _ | with_reducible refine Below.alloc ?_ (by first | omega | (simp; done) | (simp; omega)) _ | with_reducible refine Below.setCell ?_ (by first | omega | (simp; done) | (simp; omega)) _))⟩
end Go.Proofs.Ytlnhobikejbkkaa
