/- The logarithm of any 32-bit number, narrowed: both sides. -/
import Derived.Test.YticmnkgcolgpaaaLx
import Derived.Test.YticmnkgcolgpaaaGd
namespace Go.Proofs.Yticmnkgcolgpaaa
open Go Go.RowKit Fl
set_option linter.unusedVariables false

def Num32 (v : Option Nat) (w : World) (e : Ending) (w' : World) : Prop := ∃ r n, e = .returned (.float .f32 r) ∧ Fv .f32 v r ∧ w' = w.drewN n
theorem narrow_nan : narrow none = none := rfl
theorem narrow_mi : narrow (some 18442240474082181120) = some 4286578688 := by decide +kernel
theorem P2_R127 {B : Nat} {v : Option Nat} (h : P2 B v) (hB : B ≤ 127) : In .f64 R127 v := by
  obtain ⟨x, rfl, hx⟩ := h
  exact ⟨x, rfl, Nat.le_trans hx (Nat.mul_le_mul_right _ (by omega))⟩
theorem ok_of {v : Option Nat} {r : Nat} (hr : Fv .f64 v r) (h : v = none ∨ In .f64 R127 v ∨ ∃ b, v = some b ∧ (Ieee.double.read b).isInfinity = true) :
    av .f64 r = none ∨ In .f64 R127 (av .f64 r) ∨ (Ieee.double.read r).isInfinity = true := narrow_of hr h
theorem lg_ok {L K J1 J2 : Nat} (hN : Near L K J1 J2) : In .f64 R127 (lgA (nb (L - J1 + J2) K) ((J1 : Int) - J2)) :=
  P2_R127 (lgA_in _ K _ hN.k1 hN.k2 (by have := hN.lo; have := hN.hi; omega) (by have := hN.j1; have := hN.j2; omega)) (by decide)

set_option maxRecDepth 100000 in
theorem implLog_neg (a : Nat) (w : World) (h : av .f32 a = none ∨ (∃ c, av .f32 a = some c ∧ (FloatKind.f32.format.order a 0 == some Ordering.lt) = true)) : Calls Try.prog 102 #[.float .f32 a] w (Num32 none w) := by
  have hn : ∀ r : Nat, 9221120237041090561 = r → (av .f64 r = none ∨ In .f64 R127 (av .f64 r) ∨ (Ieee.double.read r).isInfinity = true) := fun r e => .inl (by rw [← e]; exact avn)
  have HN := Lib.hid (hn _ rfl)
  clear hn
  rcases h with h | ⟨c, h, h2⟩
  · have g1 := neq_self_nan .f32 a h
    go_enter Try.func102, Try.ntmps102
    go_wp2_with (first | (go_at_call 51; refine (NaNv_any _).mono ?_; rintro e w' ⟨rfl, rfl⟩) | (refine wpList_narrow _ _ _ _ rfl Try.underlying22 Try.underlying50 HN.out ?_; intro r n hr))
    go_ret
    exact ⟨_, _, rfl, by rw [← narrow_nan, ← avn]; assumption, rfl⟩
  · have g1 := neq_self_num .f32 a c h
    clear h
    go_enter Try.func102, Try.ntmps102
    go_wp2_with (first | (go_at_call 51; refine (NaNv_any _).mono ?_; rintro e w' ⟨rfl, rfl⟩) | (refine wpList_narrow _ _ _ _ rfl Try.underlying22 Try.underlying50 HN.out ?_; intro r n hr))
    go_ret
    exact ⟨_, _, rfl, by rw [← narrow_nan, ← avn]; assumption, rfl⟩
set_option maxRecDepth 100000 in
theorem implLog_zero (a : Nat) (w : World) (s : Bool) (i : Int) (h : Ieee.single.read a = .number s 0 i) : Calls Try.prog 102 #[.float .f32 a] w (Num32 (some 4286578688) w) := by
  have g1 := neq_self_num .f32 a _ (av_num h)
  have h0 := ord0_num h
  rw [if_pos rfl] at h0
  have g2 : (FloatKind.f32.format.order a 0 == some Ordering.lt) = false := by rw [h0]; rfl
  have g3 : (FloatKind.f32.format.order a 0 == some Ordering.eq) = true := by rw [h0]; rfl
  have HN : Hid (av .f64 18442240474082181120 = none ∨ In .f64 R127 (av .f64 18442240474082181120) ∨ (Ieee.double.read 18442240474082181120).isInfinity = true) := Lib.hid (.inr (.inr (by rw [read_mi]; rfl)))
  clear h h0
  go_enter Try.func102, Try.ntmps102
  go_wp2_with (first | (go_at_call 116; refine (InfM_any _).mono ?_; rintro e w' ⟨rfl, rfl⟩) | (refine wpList_narrow _ _ _ _ rfl Try.underlying22 Try.underlying50 HN.out ?_; intro r n hr))
  go_ret
  exact ⟨_, _, rfl, by rw [← narrow_mi, ← avi]; assumption, rfl⟩
set_option maxRecDepth 100000 in
theorem implLog_inf (a : Nat) (w : World) (ha : a < 4294967296) (h : Ieee.single.read a = .infinity false) : Calls Try.prog 102 #[.float .f32 a] w (Num32 (some a) w) := by
  have g1 := neq_self_num .f32 a _ (av_inf h)
  have h0 := ord0_inf h
  have g2 : (FloatKind.f32.format.order a 0 == some Ordering.lt) = false := by rw [h0]; rfl
  have g3 : (FloatKind.f32.format.order a 0 == some Ordering.eq) = false := by rw [h0]; rfl
  have HF := Lib.hid (fin_inf h)
  have HA := Lib.hid (av_inf h)
  clear h h0
  go_enter Try.func102, Try.ntmps102
  go_wp2_with (first | (go_at_call 83; fail))
  refine (IsFinite_any _ _).mono ?_
  rintro e w' ⟨n, rfl, rfl⟩
  rw [HF.out]
  go_wp2
  go_ret
  exact ⟨_, _, rfl, ⟨ha, HA.out⟩, rfl⟩
set_option maxRecDepth 100000 in
theorem implLog_more (a : Nat) (w : World) (m : Nat) (i : Int) (h0 : m ≠ 0) (h : Ieee.single.read a = .number false m i) (L K J1 J2 : Nat) (hw : widen (av .f32 a) = some (nb L K)) (hN : Near L K J1 J2) :
    Calls Try.prog 102 #[.float .f32 a] w (Num32 (narrow (lgA (nb (L - J1 + J2) K) ((J1 : Int) - J2))) w) := by
  have g1 := neq_self_num .f32 a _ (av_num h)
  have ho := ord0_num h
  rw [if_neg h0] at ho
  have g2 : (FloatKind.f32.format.order a 0 == some Ordering.lt) = false := by rw [ho]; rfl
  have g3 : (FloatKind.f32.format.order a 0 == some Ordering.eq) = false := by rw [ho]; rfl
  have HF := Lib.hid (fin_num h)
  have HW := Lib.hid (And.intro hw hN)
  clear h ho h0 hw hN
  go_enter Try.func102, Try.ntmps102
  go_wp2_with (first | (go_at_call 83; fail))
  refine (IsFinite_any _ _).mono ?_
  rintro e w' ⟨n, rfl, rfl⟩
  rw [HF.out]
  go_wp2_with (first | (go_at_call 117; fail))
  refine (wideLog_any a L K J1 J2 _ HW.out.1 HW.out.2).mono ?_
  rintro e w' ⟨r2, n2, rfl, hr2, rfl⟩
  have hk := ok_of hr2 (.inr (.inl (lg_ok HW.out.2)))
  have HR := Lib.hid hr2
  clear hr2
  go_wp2_with (refine wpList_narrow _ _ _ _ rfl Try.underlying22 Try.underlying50 hk ?_; intro r n hr)
  go_ret
  exact ⟨_, _, rfl, by rw [← HR.out.2]; assumption, rfl⟩
theorem l01Narrow_32 (b : Nat) (v : Option Nat) (hb : Fv .f64 v b) (h : v = none ∨ In .f64 R127 v ∨ ∃ b, v = some b ∧ (Ieee.double.read b).isInfinity = true) (w : World) :
    Calls Try.prog 92 #[.float .f64 b] w (Num32 (narrow v) w) := by
  have hw := narrow_of hb h
  have HB := Lib.hid hb
  clear hb h
  go_enter Try.func92, Try.ntmps92
  go_wp2_with (refine wpList_narrow _ _ _ _ rfl Try.underlying22 Try.underlying50 hw ?_; intro r3 n3 hr3)
  go_ret
  exact ⟨r3, _, rfl, by rw [HB.out.2] at hr3; exact hr3, rfl⟩
theorem ord64_0 {a r : Nat} (hr : Fv .f64 (widen (av .f32 a)) r) : FloatKind.f64.format.order r 0 = FloatKind.f32.format.order a 0 := by
  rw [aord_order .f64, aord_order .f32, hr.2, ← aord_widen' a 0]
  rfl
theorem av64_of {a r c : Nat} (hr : Fv .f64 (widen (av .f32 a)) r) (h : av .f32 a = some c) : ∃ d, av .f64 r = some d := by rw [hr.2, h]; exact ⟨_, rfl⟩
set_option maxRecDepth 100000 in
theorem logWide_neg (a r : Nat) (hr : Fv .f64 (widen (av .f32 a)) r) (w : World) (h : av .f32 a = none ∨ (∃ c, av .f32 a = some c ∧ (FloatKind.f32.format.order a 0 == some Ordering.lt) = true)) : Calls Try.prog 115 #[.float .f64 r] w (NumL none w) := by
  rcases h with h | ⟨c, h, h2⟩
  · have g1 := neq_self_nan .f64 r (by rw [hr.2, h]; rfl)
    clear hr h
    go_enter Try.func115, Try.ntmps115
    go_wp2_with (first | (go_at_call 51; refine (NaNv_any _).mono ?_; rintro e w' ⟨rfl, rfl⟩))
    go_ret
    exact ⟨_, 0, rfl, ⟨by decide, avn⟩, by rw [World.drewN_zero]⟩
  · obtain ⟨d, hd⟩ := av64_of hr h
    have g1 := neq_self_num .f64 r d hd
    have g2 : (FloatKind.f64.format.order r 0 == some Ordering.lt) = true := by rw [ord64_0 hr]; exact h2
    clear hr h h2 hd
    go_enter Try.func115, Try.ntmps115
    go_wp2_with (first | (go_at_call 51; refine (NaNv_any _).mono ?_; rintro e w' ⟨rfl, rfl⟩))
    go_ret
    exact ⟨_, 0, rfl, ⟨by decide, avn⟩, by rw [World.drewN_zero]⟩
set_option maxRecDepth 100000 in
theorem logWide_zero (a r : Nat) (hr : Fv .f64 (widen (av .f32 a)) r) (w : World) (s : Bool) (i : Int) (h : Ieee.single.read a = .number s 0 i) : Calls Try.prog 115 #[.float .f64 r] w (NumL (some 18442240474082181120) w) := by
  obtain ⟨d, hd⟩ := av64_of hr (av_num h)
  have g1 := neq_self_num .f64 r d hd
  have h0 := ord0_num h
  rw [if_pos rfl, ← ord64_0 hr] at h0
  have g2 : (FloatKind.f64.format.order r 0 == some Ordering.lt) = false := by rw [h0]; rfl
  have g3 : (FloatKind.f64.format.order r 0 == some Ordering.eq) = true := by rw [h0]; rfl
  clear hr h h0 hd
  go_enter Try.func115, Try.ntmps115
  go_wp2_with (first | (go_at_call 116; refine (InfM_any _).mono ?_; rintro e w' ⟨rfl, rfl⟩))
  go_ret
  exact ⟨_, 0, rfl, ⟨by decide, avi⟩, by rw [World.drewN_zero]⟩
set_option maxRecDepth 100000 in
theorem logWide_inf (w : World) : Calls Try.prog 115 #[.float .f64 9218868437227405312] w (NumL (some 9218868437227405312) w) := by
  have g1 : (FloatKind.f64.format.order 9218868437227405312 9218868437227405312 != some Ordering.eq) = false := by decide +kernel
  have g2 : (FloatKind.f64.format.order 9218868437227405312 0 == some Ordering.lt) = false := by decide +kernel
  have g3 : (FloatKind.f64.format.order 9218868437227405312 0 == some Ordering.eq) = false := by decide +kernel
  have g4 : (FloatKind.f64.format.order 9218868437227405312 9218868437227405311 == some Ordering.gt) = true := by decide +kernel
  have HA : Hid (av .f64 9218868437227405312 = some 9218868437227405312 ∧ 9218868437227405312 < 2 ^ FloatKind.f64.format.width) := Lib.hid (by decide +kernel)
  generalize 9218868437227405312 = r at *
  go_enter Try.func115, Try.ntmps115
  go_wp2_with (first | go_in)
  go_ret
  exact ⟨_, 0, rfl, ⟨HA.out.2, HA.out.1⟩, by rw [World.drewN_zero]⟩
set_option maxRecDepth 100000 in
theorem l01Log_of (a : Nat) (V : Option Nat) (w : World) (hV : V = none ∨ In .f64 R127 V ∨ ∃ b, V = some b ∧ (Ieee.double.read b).isInfinity = true)
    (h : ∀ r w, Fv .f64 (widen (av .f32 a)) r → Calls Try.prog 115 #[.float .f64 r] w (NumL V w)) : Calls Try.prog 101 #[.float .f32 a] w (Num32 (narrow V) w) := by
  have H := Lib.hid (And.intro hV h)
  clear hV h
  go_enter Try.func101, Try.ntmps101
  go_wp2_with (first | (go_at_call 115; fail) | (refine wpList_widen _ _ _ _ rfl Try.underlying50 Try.underlying22 ?_; intro r n hr))
  refine (H.out.2 r _ hr).mono ?_
  rintro e w' ⟨r2, n2, rfl, hr2, rfl⟩
  have HR := Lib.hid hr2
  clear hr hr2
  go_wp2_with fail
  refine (l01Narrow_32 _ _ HR.out H.out.1 _).mono ?_
  rintro e w' ⟨r3, n3, rfl, hr3, rfl⟩
  go_wp2_with fail
  go_ret
  exact ⟨r3, _, rfl, hr3, rfl⟩
theorem log_both (a : Nat) (ha : a < 4294967296) : ∃ V, (∀ w, Calls Try.prog 102 #[.float .f32 a] w (Num32 V w)) ∧ (∀ w, Calls Try.prog 101 #[.float .f32 a] w (Num32 V w)) := by
  cases kind32 a with
  | nan h => exact ⟨none, fun w => implLog_neg a w (.inl h), fun w => l01Log_of a none w (.inl rfl) (fun r w hr => logWide_neg a r hr w (.inl h))⟩
  | minf h =>
    have h2 : av .f32 a = none ∨ (∃ c, av .f32 a = some c ∧ (FloatKind.f32.format.order a 0 == some Ordering.lt) = true) := .inr ⟨a, av_inf h, by rw [ord0_inf h]; rfl⟩
    exact ⟨none, fun w => implLog_neg a w h2, fun w => l01Log_of a none w (.inl rfl) (fun r w hr => logWide_neg a r hr w h2)⟩
  | less m i h0 h =>
    have h2 : av .f32 a = none ∨ (∃ c, av .f32 a = some c ∧ (FloatKind.f32.format.order a 0 == some Ordering.lt) = true) := .inr ⟨a, av_num h, by rw [ord0_num h, if_neg h0]; rfl⟩
    exact ⟨none, fun w => implLog_neg a w h2, fun w => l01Log_of a none w (.inl rfl) (fun r w hr => logWide_neg a r hr w h2)⟩
  | zero s i h =>
    exact ⟨some 4286578688, fun w => implLog_zero a w s i h, fun w => by
      rw [← narrow_mi]
      exact l01Log_of a _ w (.inr (.inr ⟨_, rfl, by rw [read_mi]; rfl⟩)) (fun r w hr => logWide_zero a r hr w s i h)⟩
  | inf h =>
    have hw : widen (av .f32 a) = some 9218868437227405312 := by
      rw [av_inf h]; show some (Ieee.double.write (Ieee.single.read a)) = _; rw [h]; decide +kernel
    have ea : a = 2139095040 := by
      have h1 : Ieee.single.read a = .infinity false := h
      have hsw := single_sw
      have hin := single_inf
      have hbi := single_bin
      unfold Ieee.Format.read at h1
      simp only [hsw, hin, hbi] at h1
      split at h1
      · cases h1
      · split at h1
        · cases h1
        · split at h1
          · rename_i e
            injection h1 with h1
            have : a / 2147483648 % 2 ≠ 1 := by simpa using h1
            omega
          · cases h1
    refine ⟨some a, fun w => implLog_inf a w ha h, fun w => ?_⟩
    have e : narrow (some 9218868437227405312) = some a := by rw [ea]; decide +kernel
    rw [← e]
    exact l01Log_of a _ w (.inr (.inr ⟨_, rfl, by rw [read_pi]; rfl⟩)) (fun r w hr => by
      have er := Fv_of hr hw
      rw [er]
      exact logWide_inf w)
  | more m i h0 h L K J1 J2 hw hN =>
    exact ⟨_, fun w => implLog_more a w m i h0 h L K J1 J2 hw hN, fun w => l01Log_of a _ w (.inr (.inl (lg_ok hN))) (fun r w hr => by
      have er := Fv_of hr hw
      rw [er]
      exact l01LogWide_any L K J1 J2 w hN)⟩
open Classical in
/-- What the logarithm is. -/
noncomputable def logV (a : Nat) : Option Nat := if h : a < 4294967296 then Classical.choose (log_both a h) else none
theorem implLog_any (a : Nat) (ha : a < 4294967296) (w : World) : Calls Try.prog 102 #[.float .f32 a] w (Num32 (logV a) w) := by
  unfold logV; rw [dif_pos ha]; exact (Classical.choose_spec (log_both a ha)).1 w
theorem l01Log_any (a : Nat) (ha : a < 4294967296) (w : World) : Calls Try.prog 101 #[.float .f32 a] w (Num32 (logV a) w) := by
  unfold logV; rw [dif_pos ha]; exact (Classical.choose_spec (log_both a ha)).2 w
end Go.Proofs.Yticmnkgcolgpaaa
