/- Tenths of decibels: what the code and its model return. -/
import Derived.Test.YtlnhobikejbkkaaNg
namespace Go.Proofs.Ytlnhobikejbkkaa
open Go Go.RowKit Fl
set_option linter.unusedVariables false

/-- The next whole number below. -/
def floorB (b : Nat) : Nat := Ieee.double.write ((Ieee.double.read b).integral .down)
theorem run_floor_raw (b : Nat) (w : World) : (callFunc 101 #[.float .f64 b]).run Try.prog w = ((Extern.MathFloor.toIntegral "math.archFloor" .down #[.float .f64 b]) >>= fun v => pure (Next.value v)).run Try.prog w := by kernel_rfl
theorem floor_eq (b : Nat) : Extern.MathFloor.toIntegral "math.archFloor" .down #[.float .f64 b] = (match FloatKind.f64.decode b with
    | .nan s t => if FloatKind.f64.format.quiet t = t then pure (.float .f64 b) else do
      let kept ← choose (.extern "math.Floor,Ceil,Trunc,RoundToEven.signallingNaN kept" 2)
      pure (.float .f64 (if kept == 1 then b else FloatKind.f64.encode (.nan s (FloatKind.f64.format.quiet t))))
    | d => pure (.float .f64 (FloatKind.f64.encode (d.integral .down)))) := rfl
theorem run_floor (b : Nat) (w : World) (h : (Ieee.double.read b).isNaN = false) : (callFunc 101 #[.float .f64 b]).run Try.prog w = .ok (.value (.float .f64 (floorB b))) w := by
  rw [run_floor_raw, floor_eq]
  unfold floorB
  have hd : FloatKind.f64.decode b = Ieee.double.read b := rfl
  rw [hd]
  cases he : Ieee.double.read b with
  | nan s t => rw [he] at h; cases h
  | number s m i => simp; rfl
  | infinity s => simp; rfl
theorem Floor_any (b : Nat) (w : World) (h : (Ieee.double.read b).isNaN = false) : Calls Try.prog 55 #[.float .f64 b] w (fun e w' => e = .returned (.float .f64 (floorB b)) ∧ w = w') := by
  have hr : ∀ w : World, (callFunc 101 #[.float .f64 b]).run Try.prog w = .ok (.value (.float .f64 (floorB b))) w := fun w => run_floor b w h
  clear h
  generalize floorB b = d at *
  go_enter Try.func55, Try.ntmps55
  go_wp2
  go_ret
  exact ⟨rfl, rfl⟩
theorem cut_down_le (s : Bool) (n d : Nat) : Ieee.Toward.down.cut s n d ≤ n / 2 ^ d + 1 := by
  rw [← cut_zero_way s n d]
  unfold Ieee.Toward.cut
  simp only []
  have := Bool.toNat_le (s && n % (1 <<< min d (n.log2 + 2)) != 0)
  simp only [Bool.toNat_false]
  omega
/-- What is whole of a number of at most 2^B. -/
theorem floor_in {B c : Nat} (hB : B ≤ 40) (h : P2 B (some c)) : (Ieee.double.read c).isNaN = false ∧ ∃ n : Int, (Ieee.double.read (floorB c)).toInt .zero = some n ∧ n.natAbs < 4503599627370496 := by
  have hK := K0_eq
  obtain ⟨b, s, m, i, e1, e2, e3, e4⟩ := In.read h (R2_lt _ (by omega))
  cases e1
  have e2' : Ieee.double.read c = .number s m i := e2
  have e3' : val m i ≤ vr Ieee.double (R2 B) := e3
  have e4' : (-1074 : Int) ≤ i := e4
  rw [vr_R2] at e3'
  refine ⟨by rw [e2']; rfl, ?_⟩
  have hq : Ieee.Toward.down.cut s (m <<< i.toNat) (-i).toNat ≤ truncN m i + 1 := cut_down_le _ _ _
  have ht := (trunc_le m i (by omega)).1
  have hP : P2 (B + 1) (some (floorB c)) := by
    unfold floorB
    rw [e2']
    refine write_in (k := .f64) (s := s) (m := Ieee.Toward.down.cut s (m <<< i.toNat) (-i).toNat) (i := 0) (by omega) (R2_lt _ (by omega)) ?_
    show val _ _ ≤ vr Ieee.double (R2 (B + 1))
    rw [vr_R2]
    unfold val
    rw [show ((0 : Int) + (K0 : Int)).toNat = K0 by omega]
    have h1 : Ieee.Toward.down.cut s (m <<< i.toNat) (-i).toNat * 2 ^ K0 ≤ (truncN m i + 1) * 2 ^ K0 := Nat.mul_le_mul_right _ hq
    rw [Nat.add_mul, Nat.one_mul] at h1
    have h2 : 2 ^ K0 ≤ 2 ^ (B + K0) := Nat.pow_le_pow_right (by omega) (by omega)
    have h3 : 2 ^ (B + 1 + K0) = 2 ^ (B + K0) + 2 ^ (B + K0) := by rw [show B + 1 + K0 = B + K0 + 1 by omega, Nat.pow_succ]; omega
    omega
  obtain ⟨b', s', M, P, f1, f2, f3, f4⟩ := In.read hP (R2_lt _ (by omega))
  cases f1
  have f2' : Ieee.double.read (floorB c) = .number s' M P := f2
  have f3' : val M P ≤ vr Ieee.double (R2 (B + 1)) := f3
  have f4' : (-1074 : Int) ≤ P := f4
  rw [vr_R2] at f3'
  refine ⟨_, by rw [f2']; exact toInt_trunc s' M P, ?_⟩
  have ht' := (trunc_le M P (by omega)).1
  have h5 : truncN M P * 2 ^ K0 ≤ 2 ^ (B + 1) * 2 ^ K0 := by rw [← Nat.pow_add]; exact Nat.le_trans ht' f3'
  have h6 : truncN M P ≤ 2 ^ (B + 1) := Nat.le_of_mul_le_mul_right h5 (Nat.two_pow_pos _)
  have h7 : 2 ^ (B + 1) ≤ 2 ^ 41 := Nat.pow_le_pow_right (by omega) (by omega)
  rw [signed_abs]
  have : (2 : Nat) ^ 41 = 2199023255552 := by decide
  omega
theorem av_ten : av .f64 4631308968768463603 = some 4631308968768463603 := by decide +kernel
theorem av_hf : av .f64 4602678819172646912 = some 4602678819172646912 := by decide +kernel
theorem P2_ten : P2 6 (some 4631308968768463603) := ⟨_, rfl, by decide +kernel⟩
theorem P2_hf : P2 0 (some 4602678819172646912) := ⟨_, rfl, by decide +kernel⟩
/-- What is rounded down: its steps. -/
structure Tens (V : Option Nat) (c1 c2 : Nat) (n : Int) : Prop where
  m : aop .mul .f64 V (some 4631308968768463603) = some c1
  a : aop .add .f64 (av .f64 c1) (some 4602678819172646912) = some c2
  nan : (Ieee.double.read c2).isNaN = false
  int : (Ieee.double.read (floorB c2)).toInt .zero = some n
  abs : n.natAbs < 4503599627370496
theorem tens_of {V : Option Nat} (h : P2 15 V) : ∃ c1 c2 n, Tens V c1 c2 n := by
  have hm := P2.mul h P2_ten (Nat.le_of_ble_eq_true rfl)
  obtain ⟨c1, e1⟩ := hm.has
  rw [e1] at hm
  have ha := P2.add hm P2_hf (Nat.le_refl _) (Nat.le_of_ble_eq_true rfl) (Nat.le_of_ble_eq_true rfl)
  obtain ⟨c2, e2⟩ := ha.has
  rw [e2] at ha
  obtain ⟨h1, n, h2, h3⟩ := floor_in (Nat.le_of_ble_eq_true rfl) ha
  exact ⟨c1, c2, n, e1, by rw [aop_av' e1]; exact e2, h1, h2, h3⟩
def TenP (n : Int) (w : World) (e : Ending) (w' : World) : Prop := ∃ m, e = .returned (.tuple #[.int .i64 n, .bool true]) ∧ w' = w.drewN m
def TenN (w : World) (e : Ending) (w' : World) : Prop := ∃ m, e = .returned (.tuple #[.int .i64 0, .bool false]) ∧ w' = w.drewN m
theorem above_kind (a : Nat) (h : aboveB a = true) : ∃ L K J1 J2, widen (av .f32 a) = some (nb L K) ∧ Near L K J1 J2 := by
  have hf : finA .f32 (av .f32 a) = true := by unfold aboveB at h; simp at h; exact h.1
  have hg : gtB a 0 = true := by unfold aboveB at h; simp at h; exact h.2
  cases kind32 a with
  | nan e => rw [e] at hf; cases hf
  | inf e => rw [fin_inf e] at hf; cases hf
  | minf e => rw [fin_inf e] at hf; cases hf
  | zero s i e => unfold gtB at hg; rw [ord0_num e, if_pos rfl] at hg; cases hg
  | less m i h0 e => unfold gtB at hg; rw [ord0_num e, if_neg h0] at hg; cases hg
  | more m i h0 e L K J1 J2 hw hN => exact ⟨L, K, J1, J2, hw, hN⟩
theorem Bel_drewT {B : Nat} {W w' : World} (h : Below B W w') (n : Nat) : Below B W (w'.drewN n) := ⟨h.os, h.tape, h.output, h.size, h.block⟩
end Go.Proofs.Ytlnhobikejbkkaa
