/- Tenths of decibels: what the code and its model return. -/
import Derived.Test.YtnofikeeobahjaaNg
namespace Go.Proofs.Ytnofikeeobahjaa
open Go Go.RowKit Fl
set_option linter.unusedVariables false

/-- The next whole number below. -/
def floorB (b : Nat) : Nat := Ieee.double.write ((Ieee.double.read b).integral .down)
theorem run_floor_raw (b : Nat) (w : World) : (callFunc 79 #[.float .f64 b]).run Try.prog w = ((Extern.MathFloor.toIntegral "math.archFloor" .down #[.float .f64 b]) >>= fun v => pure (Next.value v)).run Try.prog w := by kernel_rfl
theorem floor_eq (b : Nat) : Extern.MathFloor.toIntegral "math.archFloor" .down #[.float .f64 b] = (match FloatKind.f64.decode b with
    | .nan s t => if FloatKind.f64.format.quiet t = t then pure (.float .f64 b) else do
      let kept ← choose (.extern "math.Floor,Ceil,Trunc,RoundToEven.signallingNaN kept" 2)
      pure (.float .f64 (if kept == 1 then b else FloatKind.f64.encode (.nan s (FloatKind.f64.format.quiet t))))
    | d => pure (.float .f64 (FloatKind.f64.encode (d.integral .down)))) := rfl
theorem run_floor (b : Nat) (w : World) (h : (Ieee.double.read b).isNaN = false) : (callFunc 79 #[.float .f64 b]).run Try.prog w = .ok (.value (.float .f64 (floorB b))) w := by
  rw [run_floor_raw, floor_eq]
  unfold floorB
  have hd : FloatKind.f64.decode b = Ieee.double.read b := rfl
  rw [hd]
  cases he : Ieee.double.read b with
  | nan s t => rw [he] at h; cases h
  | number s m i => simp; rfl
  | infinity s => simp; rfl
theorem Floor_any (b : Nat) (w : World) (h : (Ieee.double.read b).isNaN = false) : Calls Try.prog 59 #[.float .f64 b] w (fun e w' => e = .returned (.float .f64 (floorB b)) ∧ w = w') := by
  have hr : ∀ w : World, (callFunc 79 #[.float .f64 b]).run Try.prog w = .ok (.value (.float .f64 (floorB b))) w := fun w => run_floor b w h
  clear h
  generalize floorB b = d at *
  go_enter Try.func59, Try.ntmps59
  go_wp2
  go_ret
  exact ⟨rfl, rfl⟩
theorem cut_down_le (s : Bool) (n d : Nat) : Ieee.Toward.down.cut s n d ≤ n / 2 ^ d + 1 := by
  rw [← cut_zero_way s n d]
  unfold Ieee.Toward.cut
  simp only []
  have := Bool.toNat_le (s && n % (1 <<< min d (n.log2 + 2)) != 0)
  simp only [Bool.toNat_false]
  omega
/-- What is whole of a number of at most 2^B. -/
theorem floor_in {B c : Nat} (hB : B ≤ 40) (h : P2 B (some c)) : (Ieee.double.read c).isNaN = false ∧ ∃ n : Int, (Ieee.double.read (floorB c)).toInt .zero = some n ∧ n.natAbs < 4503599627370496 := by
  have hK := K0_eq
  obtain ⟨b, s, m, i, e1, e2, e3, e4⟩ := In.read h (R2_lt _ (by omega))
  cases e1
  have e2' : Ieee.double.read c = .number s m i := e2
  have e3' : val m i ≤ vr Ieee.double (R2 B) := e3
  have e4' : (-1074 : Int) ≤ i := e4
  rw [vr_R2] at e3'
  refine ⟨by rw [e2']; rfl, ?_⟩
  have hq : Ieee.Toward.down.cut s (m <<< i.toNat) (-i).toNat ≤ truncN m i + 1 := cut_down_le _ _ _
  have ht := (trunc_le m i (by omega)).1
  have hP : P2 (B + 1) (some (floorB c)) := by
    unfold floorB
    rw [e2']
    refine write_in (k := .f64) (s := s) (m := Ieee.Toward.down.cut s (m <<< i.toNat) (-i).toNat) (i := 0) (by omega) (R2_lt _ (by omega)) ?_
    show val _ _ ≤ vr Ieee.double (R2 (B + 1))
    rw [vr_R2]
    unfold val
    rw [show ((0 : Int) + (K0 : Int)).toNat = K0 by omega]
    have h1 : Ieee.Toward.down.cut s (m <<< i.toNat) (-i).toNat * 2 ^ K0 ≤ (truncN m i + 1) * 2 ^ K0 := Nat.mul_le_mul_right _ hq
    rw [Nat.add_mul, Nat.one_mul] at h1
    have h2 : 2 ^ K0 ≤ 2 ^ (B + K0) := Nat.pow_le_pow_right (by omega) (by omega)
    have h3 : 2 ^ (B + 1 + K0) = 2 ^ (B + K0) + 2 ^ (B + K0) := by rw [show B + 1 + K0 = B + K0 + 1 by omega, Nat.pow_succ]; omega
    omega
  obtain ⟨b', s', M, P, f1, f2, f3, f4⟩ := In.read hP (R2_lt _ (by omega))
  cases f1
  have f2' : Ieee.double.read (floorB c) = .number s' M P := f2
  have f3' : val M P ≤ vr Ieee.double (R2 (B + 1)) := f3
  have f4' : (-1074 : Int) ≤ P := f4
  rw [vr_R2] at f3'
  refine ⟨_, by rw [f2']; exact toInt_trunc s' M P, ?_⟩
  have ht' := (trunc_le M P (by omega)).1
  have h5 : truncN M P * 2 ^ K0 ≤ 2 ^ (B + 1) * 2 ^ K0 := by rw [← Nat.pow_add]; exact Nat.le_trans ht' f3'
  have h6 : truncN M P ≤ 2 ^ (B + 1) := Nat.le_of_mul_le_mul_right h5 (Nat.two_pow_pos _)
  have h7 : 2 ^ (B + 1) ≤ 2 ^ 41 := Nat.pow_le_pow_right (by omega) (by omega)
  rw [signed_abs]
  have : (2 : Nat) ^ 41 = 2199023255552 := by decide
  omega
theorem av_ten : av .f64 4631308968768463603 = some 4631308968768463603 := by decide +kernel
theorem av_hf : av .f64 4602678819172646912 = some 4602678819172646912 := by decide +kernel
theorem P2_ten : P2 6 (some 4631308968768463603) := ⟨_, rfl, by decide +kernel⟩
theorem P2_hf : P2 0 (some 4602678819172646912) := ⟨_, rfl, by decide +kernel⟩
/-- What is rounded down: its steps. -/
structure Tens (V : Option Nat) (c1 c2 : Nat) (n : Int) : Prop where
  m : aop .mul .f64 V (some 4631308968768463603) = some c1
  a : aop .add .f64 (av .f64 c1) (some 4602678819172646912) = some c2
  nan : (Ieee.double.read c2).isNaN = false
  int : (Ieee.double.read (floorB c2)).toInt .zero = some n
  abs : n.natAbs < 4503599627370496
theorem tens_of {V : Option Nat} (h : P2 15 V) : ∃ c1 c2 n, Tens V c1 c2 n := by
  have hm := P2.mul h P2_ten (Nat.le_of_ble_eq_true rfl)
  obtain ⟨c1, e1⟩ := hm.has
  rw [e1] at hm
  have ha := P2.add hm P2_hf (Nat.le_refl _) (Nat.le_of_ble_eq_true rfl) (Nat.le_of_ble_eq_true rfl)
  obtain ⟨c2, e2⟩ := ha.has
  rw [e2] at ha
  obtain ⟨h1, n, h2, h3⟩ := floor_in (Nat.le_of_ble_eq_true rfl) ha
  exact ⟨c1, c2, n, e1, by rw [aop_av' e1]; exact e2, h1, h2, h3⟩
def TenP (n : Int) (w : World) (e : Ending) (w' : World) : Prop := ∃ m, e = .returned (.tuple #[.int .i64 n, .bool true]) ∧ w' = w.drewN m
def TenN (w : World) (e : Ending) (w' : World) : Prop := ∃ m, e = .returned (.tuple #[.int .i64 0, .bool false]) ∧ w' = w.drewN m
set_option maxRecDepth 100000 in
theorem implTen_yes (a L K J1 J2 : Nat) (hw : widen (av .f32 a) = some (nb L K)) (hN : Near L K J1 J2) (hx : aboveB a = true) (c1 c2 : Nat) (n : Int) (hT : Tens (lgA (nb (L - J1 + J2) K) ((J1 : Int) - J2)) c1 c2 n) (w : World) :
    Calls Try.prog 31 #[.float .f32 a] w (TenP n w) := by
  have hf : finA .f32 (av .f32 a) = true := by unfold aboveB at hx; simp at hx; exact hx.1
  have hg : gtB a 0 = true := by unfold aboveB at hx; simp at hx; exact hx.2
  have hl : (FloatKind.f32.format.order a 0 == some Ordering.lt || FloatKind.f32.format.order a 0 == some Ordering.eq) = false := by
    have := le_gt hf; rw [hg] at this; exact this
  have HF := Lib.hid hf
  have HW := Lib.hid (And.intro hw hN)
  have HT := Lib.hid hT
  clear hf hg hx hw hN hT
  go_enter Try.func31, Try.ntmps31
  go_wp2_with (first | (go_at_call 56; fail))
  refine (IsFinite_any _ _).mono ?_
  rintro e w' ⟨n1, rfl, rfl⟩
  rw [HF.out]
  go_wp2_with (first | (go_at_call 63; fail))
  refine (wideLog_any a L K J1 J2 _ HW.out.1 HW.out.2).mono ?_
  rintro e w' ⟨r, n2, rfl, hr, rfl⟩
  have HR := Lib.hid hr
  clear hr
  go_wp2_with (first | (go_at_call 59; fail) | (refine wpList_farith _ _ _ _ _ .f64 _ _ rfl rfl rfl ?_; intro r q hr; first | (have er := (Fv_of hr (by rw [HR.out.2, av_ten]; exact HT.out.m)).symm; subst er; clear hr) | (have er := (Fv_of hr (by rw [av_hf]; exact HT.out.a)).symm; subst er; clear hr)))
  refine (Floor_any _ _ HT.out.nan).mono ?_
  rintro e w' ⟨rfl, rfl⟩
  go_wp2_with (refine wpList_toint _ _ _ _ n rfl Try.underlying32 Try.underlying2 HT.out.int HT.out.abs ?_)
  go_ret2
  exact ⟨_, rfl, rfl⟩
set_option maxRecDepth 100000 in
theorem implTen_no (a : Nat) (hx : aboveB a = false) (w : World) : Calls Try.prog 31 #[.float .f32 a] w (TenN w) := by
  cases hf : finA .f32 (av .f32 a) with
  | false =>
    have HF := Lib.hid hf
    clear hf hx
    go_enter Try.func31, Try.ntmps31
    go_wp2_with (first | (go_at_call 56; fail))
    refine (IsFinite_any _ _).mono ?_
    rintro e w' ⟨n1, rfl, rfl⟩
    rw [HF.out]
    go_wp2
    go_ret2
    exact ⟨_, rfl, rfl⟩
  | true =>
    have hg : gtB a 0 = false := by unfold aboveB at hx; rw [hf] at hx; simpa using hx
    have hl : (FloatKind.f32.format.order a 0 == some Ordering.lt || FloatKind.f32.format.order a 0 == some Ordering.eq) = true := by
      have := le_gt hf; rw [hg] at this; exact this
    have HF := Lib.hid hf
    clear hf hx hg
    go_enter Try.func31, Try.ntmps31
    go_wp2_with (first | (go_at_call 56; fail))
    refine (IsFinite_any _ _).mono ?_
    rintro e w' ⟨n1, rfl, rfl⟩
    rw [HF.out]
    go_wp2
    go_ret2
    exact ⟨_, rfl, rfl⟩
set_option maxRecDepth 100000 in
theorem l01Tenths_any (a L K J1 J2 : Nat) (hw : widen (av .f32 a) = some (nb L K)) (hN : Near L K J1 J2) (c1 c2 : Nat) (n : Int) (hT : Tens (lgA (nb (L - J1 + J2) K) ((J1 : Int) - J2)) c1 c2 n) (w : World) :
    Calls Try.prog 64 #[.float .f32 a] w (fun e w' => ∃ m, e = .returned (.int .i64 n) ∧ w' = w.drewN m) := by
  have HW := Lib.hid (And.intro hw hN)
  have HT := Lib.hid hT
  clear hw hN hT
  go_enter Try.func64, Try.ntmps64
  go_wp2_with (first | (go_at_call 82; fail) | (refine wpList_widen _ _ _ _ rfl Try.underlying26 Try.underlying32 ?_; intro r q hr))
  have er := Fv_of hr HW.out.1
  subst er
  clear hr
  refine (l01LogWide_any L K J1 J2 _ HW.out.2).mono ?_
  rintro e w' ⟨r, n2, rfl, hr, rfl⟩
  have HR := Lib.hid hr
  clear hr
  go_wp2_with (first | (go_at_call 59; fail) | (refine wpList_farith _ _ _ _ _ .f64 _ _ rfl rfl rfl ?_; intro r q hr; first | (have er := (Fv_of hr (by rw [HR.out.2, av_ten]; exact HT.out.m)).symm; subst er; clear hr) | (have er := (Fv_of hr (by rw [av_hf]; exact HT.out.a)).symm; subst er; clear hr)))
  refine (Floor_any _ _ HT.out.nan).mono ?_
  rintro e w' ⟨rfl, rfl⟩
  go_wp2_with (refine wpList_toint _ _ _ _ n rfl Try.underlying32 Try.underlying2 HT.out.int HT.out.abs ?_)
  go_ret
  exact ⟨_, rfl, rfl⟩
set_option maxRecDepth 100000 in
theorem specTen_yes (a L K J1 J2 : Nat) (hw : widen (av .f32 a) = some (nb L K)) (hN : Near L K J1 J2) (hx : aboveB a = true) (c1 c2 : Nat) (n : Int) (hT : Tens (lgA (nb (L - J1 + J2) K) ((J1 : Int) - J2)) c1 c2 n) (w : World) :
    Calls Try.prog 30 #[.float .f32 a] w (TenP n w) := by
  have hf : finA .f32 (av .f32 a) = true := by unfold aboveB at hx; simp at hx; exact hx.1
  have hg : gtB a 0 = true := by unfold aboveB at hx; simp at hx; exact hx.2
  have hl : (FloatKind.f32.format.order a 0 == some Ordering.lt || FloatKind.f32.format.order a 0 == some Ordering.eq) = false := by
    have := le_gt hf; rw [hg] at this; exact this
  have HF := Lib.hid hf
  have HW := Lib.hid (And.intro hw (And.intro hN hT))
  clear hf hg hx hw hN hT
  go_enter Try.func30, Try.ntmps30
  go_wp2_with (first | (go_at_call 54; fail))
  refine (l01Finite_any _ _).mono ?_
  rintro e w' ⟨n1, rfl, rfl⟩
  rw [HF.out]
  go_wp2_with (first | (go_at_call 64; fail))
  refine (l01Tenths_any a L K J1 J2 HW.out.1 HW.out.2.1 c1 c2 n HW.out.2.2 _).mono ?_
  rintro e w' ⟨m, rfl, rfl⟩
  go_wp2
  go_ret2
  exact ⟨_, rfl, rfl⟩
set_option maxRecDepth 100000 in
theorem specTen_no (a : Nat) (hx : aboveB a = false) (w : World) : Calls Try.prog 30 #[.float .f32 a] w (TenN w) := by
  cases hf : finA .f32 (av .f32 a) with
  | false =>
    have HF := Lib.hid hf
    clear hf hx
    go_enter Try.func30, Try.ntmps30
    go_wp2_with (first | (go_at_call 54; fail))
    refine (l01Finite_any _ _).mono ?_
    rintro e w' ⟨n1, rfl, rfl⟩
    rw [HF.out]
    go_wp2
    go_ret2
    exact ⟨_, rfl, rfl⟩
  | true =>
    have hg : gtB a 0 = false := by unfold aboveB at hx; rw [hf] at hx; simpa using hx
    have hl : (FloatKind.f32.format.order a 0 == some Ordering.lt || FloatKind.f32.format.order a 0 == some Ordering.eq) = true := by
      have := le_gt hf; rw [hg] at this; exact this
    have HF := Lib.hid hf
    clear hf hx hg
    go_enter Try.func30, Try.ntmps30
    go_wp2_with (first | (go_at_call 54; fail))
    refine (l01Finite_any _ _).mono ?_
    rintro e w' ⟨n1, rfl, rfl⟩
    rw [HF.out]
    go_wp2
    go_ret2
    exact ⟨_, rfl, rfl⟩
theorem above_kind (a : Nat) (h : aboveB a = true) : ∃ L K J1 J2, widen (av .f32 a) = some (nb L K) ∧ Near L K J1 J2 := by
  have hf : finA .f32 (av .f32 a) = true := by unfold aboveB at h; simp at h; exact h.1
  have hg : gtB a 0 = true := by unfold aboveB at h; simp at h; exact h.2
  cases kind32 a with
  | nan e => rw [e] at hf; cases hf
  | inf e => rw [fin_inf e] at hf; cases hf
  | minf e => rw [fin_inf e] at hf; cases hf
  | zero s i e => unfold gtB at hg; rw [ord0_num e, if_pos rfl] at hg; cases hg
  | less m i h0 e => unfold gtB at hg; rw [ord0_num e, if_neg h0] at hg; cases hg
  | more m i h0 e L K J1 J2 hw hN => exact ⟨L, K, J1, J2, hw, hN⟩
theorem Bel_drewT {B : Nat} {W w' : World} (h : Below B W w') (n : Nat) : Below B W (w'.drewN n) := ⟨h.os, h.tape, h.output, h.size, h.block⟩
set_option maxRecDepth 100000 in
theorem FnExactTenthsOf_walk (a : Nat) (h_a : (Lit.float .f32 a).wf = true) (w : World) :
    Calls Try.prog 9 #[.float .f32 a] w fun e w' => e = .returned (.bool true) ∧ Below w.heap.size w w' := by
  cases hx : aboveB a with
  | true =>
    obtain ⟨L, K, J1, J2, hw, hN⟩ := above_kind a hx
    obtain ⟨c1, c2, n, hT⟩ := tens_of (lgA_in (L - J1 + J2) K ((J1 : Int) - J2) hN.k1 hN.k2 (by have := hN.lo; have := hN.hi; omega) (by have := hN.j1; have := hN.j2; omega))
    have H := Lib.hid (And.intro hw (And.intro hN (And.intro hx hT)))
    clear hw hN hx hT
    go_enter Try.func9, Try.ntmps9
    go_wp2_with (first | (go_at_call 30; refine (specTen_yes a L K J1 J2 H.out.1 H.out.2.1 H.out.2.2.1 c1 c2 n H.out.2.2.2 _).mono ?_; rintro e w' ⟨n1, rfl, rfl⟩) | (go_at_call 31; refine (implTen_yes a L K J1 J2 H.out.1 H.out.2.1 H.out.2.2.1 c1 c2 n H.out.2.2.2 _).mono ?_; rintro e w' ⟨n2, rfl, rfl⟩))
    go_ret
    exact ⟨rfl, Bel_drewT (Below.refl _ _) _⟩
  | false =>
    have H := Lib.hid hx
    clear hx
    go_enter Try.func9, Try.ntmps9
    go_wp2_with (first | (go_at_call 30; refine (specTen_no a H.out _).mono ?_; rintro e w' ⟨n1, rfl, rfl⟩) | (go_at_call 31; refine (implTen_no a H.out _).mono ?_; rintro e w' ⟨n2, rfl, rfl⟩))
    go_ret
    exact ⟨rfl, Bel_drewT (Below.refl _ _) _⟩
end Go.Proofs.Ytnofikeeobahjaa
