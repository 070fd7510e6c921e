/- What the smallest functions on numbers return, of the code and of its model. -/
import Derived.Test.YtgkkimocmpgfkadSf
import Derived.KernelRfl
import Derived.Lib.Hide
namespace Go.Proofs.Ytgkkimocmpgfkad
open Go Go.RowKit Fl

/-- The bits of a number, of every not-a-number the same. -/
def bitsA : Option Nat → Nat
  | some b => b
  | none => 2143289344

@[go_sem] theorem run_f32bits (a : Nat) (w : World) : (callFunc 58 #[.float .f32 a]).run Try.prog w = .ok (.value (.int .u32 a)) w := by kernel_rfl
@[go_sem] theorem run_f32from (n : Int) (w : World) : (callFunc 59 #[.int .u32 n]).run Try.prog w = .ok (.value (.float .f32 n.toNat)) w := by kernel_rfl
@[go_sem] theorem run_f64bits (a : Nat) (w : World) : (callFunc 48 #[.float .f64 a]).run Try.prog w = .ok (.value (.int .u64 a)) w := by kernel_rfl
@[go_sem] theorem run_f64from (n : Int) (w : World) : (callFunc 47 #[.int .u64 n]).run Try.prog w = .ok (.value (.float .f64 n.toNat)) w := by kernel_rfl

theorem neq_self_nan (k : FloatKind) (a : Nat) (h : av k a = none) : (k.format.order a a != some Ordering.eq) = true := by rw [order_none k a a h]; rfl
theorem neq_self_num (k : FloatKind) (a c : Nat) (h : av k a = some c) : (k.format.order a a != some Ordering.eq) = false := by
  obtain rfl := av_eq h
  rw [order_self k a (av_notNaN h)]; rfl

theorem andNot_top (a : Nat) (ha : a < 18446744073709551616) : (bits .andNot .u64 (a : Int) 9223372036854775808).toNat = a % 9223372036854775808 := by
  have h := u64_andNot_nat a 9223372036854775808 ha (by omega)
  have e : ((9223372036854775808 : Nat) : Int) = 9223372036854775808 := rfl
  rw [e] at h
  rw [h]
  have := Nat.and_two_pow_sub_one_eq_mod a 63
  simpa using this

/-- math.Abs strikes the sign. -/
theorem Abs_any (a : Nat) (ha : a < 18446744073709551616) (w : World) :
    Calls Try.prog 33 #[.float .f64 a] w (fun e w' => e = .returned (.float .f64 (a % 9223372036854775808)) ∧ w = w') := by
  have H := Lib.hid (andNot_top a ha)
  go_enter Try.func33, Try.ntmps33
  go_wp2
  go_ret
  exact ⟨by simp [H.out], rfl⟩
theorem l01Bits_any (a : Nat) (v : Option Nat) (ha : Fv .f32 v a) (w : World) :
    Calls Try.prog 45 #[.float .f32 a] w (fun e w' => e = .returned (.int .i64 (bitsA v)) ∧ w = w') := by
  have hl : a < 4294967296 := ha.1
  cases v with
  | none =>
    have h1 := neq_self_nan .f32 a ha.2
    go_enter Try.func45, Try.ntmps45
    go_wp2
    go_ret
    exact ⟨rfl, rfl⟩
  | some c =>
    have h1 := neq_self_num .f32 a c ha.2
    obtain rfl := av_eq ha.2
    clear ha
    go_enter Try.func45, Try.ntmps45
    go_wp2
    go_ret
    exact ⟨rfl, rfl⟩

theorem isFiniteWide_any (a : Nat) (ha : a < 18446744073709551616) (w : World) :
    Calls Try.prog 31 #[.float .f64 a] w (fun e w' => e = .returned (.bool (finA .f64 (av .f64 a))) ∧ w = w') := by
  cases hv : av .f64 a with
  | none =>
    have h1 := neq_self_nan .f64 a hv
    clear hv
    go_enter Try.func31, Try.ntmps31
    go_wp2
    go_ret
    exact ⟨rfl, rfl⟩
  | some c =>
    have h1 := neq_self_num .f64 a c hv
    obtain rfl := av_eq hv
    have h2 : (FloatKind.f64.format.order (a % 9223372036854775808) 9218868437227405311 == some Ordering.gt) = (Ieee.double.read a).isInfinity := gt_max a (av_notNaN (k := .f64) hv)
    clear hv
    go_enter Try.func31, Try.ntmps31
    go_wp2_with (first | (go_at_call 33; refine (Abs_any _ ha _).mono ?_; rintro e w' ⟨rfl, rfl⟩) | go_in)
    go_ret
    exact ⟨rfl, rfl⟩
theorem IsFinite_any (a : Nat) (w : World) :
    Calls Try.prog 36 #[.float .f32 a] w (Ret (.bool (finA .f32 (av .f32 a))) w) := by
  go_enter Try.func36, Try.ntmps36
  go_wp2_with (first | (go_at_call 31; fail) | (refine wpList_widen _ _ _ _ rfl Try.underlying22 Try.underlying25 ?_; intro r n hr))
  refine (isFiniteWide_any r hr.1 _).mono ?_
  rintro e w' ⟨rfl, rfl⟩
  go_wp2
  go_ret
  exact ⟨n, by rw [hr.2, finA_widen _ (fun _ h => av_notNaN (k := .f32) h)]; rfl, rfl⟩
theorem l01From_any (n : Nat) (h : n < 4294967296) (w : World) :
    Calls Try.prog 46 #[.int .i64 n] w (fun e w' => e = .returned (.float .f32 n) ∧ w = w') := by
  have h' : (n : Int) < 4294967296 := by omega
  have h0 : (0 : Int) ≤ n := by omega
  go_enter Try.func46, Try.ntmps46
  go_wp2
  go_ret
  exact ⟨by simp, rfl⟩
end Go.Proofs.Ytgkkimocmpgfkad
