/- What the smallest functions on numbers return, of the code and of its model. -/
import Derived.Test.YtgeomaeccalceaaSf
import Derived.Test.YtgeomaeccalceaaIn0
import Derived.KernelRfl
import Derived.Lib.Hide
namespace Go.Proofs.Ytgeomaeccalceaa
open Go Go.RowKit Fl

/-- The bits of a number, of every not-a-number the same. -/
def bitsA : Option Nat → Nat
  | some b => b
  | none => 2143289344

@[go_sem] theorem run_f64bits (a : Nat) (w : World) : (callFunc 157 #[.float .f64 a]).run Try.prog w = .ok (.value (.int .u64 a)) w := by kernel_rfl
@[go_sem] theorem run_f64from (n : Int) (w : World) : (callFunc 156 #[.int .u64 n]).run Try.prog w = .ok (.value (.float .f64 n.toNat)) w := by kernel_rfl

theorem neq_self_nan (k : FloatKind) (a : Nat) (h : av k a = none) : (k.format.order a a != some Ordering.eq) = true := by rw [order_none k a a h]; rfl
theorem neq_self_num (k : FloatKind) (a c : Nat) (h : av k a = some c) : (k.format.order a a != some Ordering.eq) = false := by
  obtain rfl := av_eq h
  rw [order_self k a (av_notNaN h)]; rfl

theorem andNot_top (a : Nat) (ha : a < 18446744073709551616) : (bits .andNot .u64 (a : Int) 9223372036854775808).toNat = a % 9223372036854775808 := by
  have h := u64_andNot_nat a 9223372036854775808 ha (by omega)
  have e : ((9223372036854775808 : Nat) : Int) = 9223372036854775808 := rfl
  rw [e] at h
  rw [h]
  have := Nat.and_two_pow_sub_one_eq_mod a 63
  simpa using this

/-- math.Abs strikes the sign. -/
theorem Abs_any (a : Nat) (ha : a < 18446744073709551616) (w : World) :
    Calls Try.prog 154 #[.float .f64 a] w (fun e w' => e = .returned (.float .f64 (a % 9223372036854775808)) ∧ w = w') := by
  have H := Lib.hid (andNot_top a ha)
  go_enter Try.func154, Try.ntmps154
  go_wp2
  go_ret
  exact ⟨by simp [H.out], rfl⟩

theorem l01Finite_any (a : Nat) (w : World) :
    Calls Try.prog 125 #[.float .f32 a] w (Ret (.bool (finA .f32 (av .f32 a))) w) := by
  go_enter Try.func125, Try.ntmps125
  go_wp2_with (refine wpList_farith _ _ _ _ _ .f32 _ _ rfl rfl rfl ?_; intro r n hr)
  go_ret
  exact ⟨n, by rw [← sub_self_zero .f32 _ (fun _ h => av_notNaN h) r hr]; rfl, rfl⟩
theorem isFiniteWide_any (a : Nat) (ha : a < 18446744073709551616) (w : World) :
    Calls Try.prog 126 #[.float .f64 a] w (fun e w' => e = .returned (.bool (finA .f64 (av .f64 a))) ∧ w = w') := by
  cases hv : av .f64 a with
  | none =>
    have h1 := neq_self_nan .f64 a hv
    clear hv
    go_enter Try.func126, Try.ntmps126
    go_wp2
    go_ret
    exact ⟨rfl, rfl⟩
  | some c =>
    have h1 := neq_self_num .f64 a c hv
    obtain rfl := av_eq hv
    have h2 : (FloatKind.f64.format.order (a % 9223372036854775808) 9218868437227405311 == some Ordering.gt) = (Ieee.double.read a).isInfinity := gt_max a (av_notNaN (k := .f64) hv)
    clear hv
    go_enter Try.func126, Try.ntmps126
    go_wp2_with (first | (go_at_call 154; refine (Abs_any _ ha _).mono ?_; rintro e w' ⟨rfl, rfl⟩) | go_in)
    go_ret
    exact ⟨rfl, rfl⟩
set_option maxRecDepth 100000 in
theorem IsFinite_any (a : Nat) (w : World) :
    Calls Try.prog 89 #[.float .f32 a] w (Ret (.bool (finA .f32 (av .f32 a))) w) := by
  go_enter Try.func89, Try.ntmps89
  go_wp2_with (first | (go_at_call 126; fail) | (refine wpList_widen _ _ _ _ rfl Try.underlying47 Try.underlying52 ?_; intro r n hr))
  refine (isFiniteWide_any r hr.1 _).mono ?_
  rintro e w' ⟨rfl, rfl⟩
  go_wp2
  go_ret
  exact ⟨n, by rw [hr.2, finA_widen _ (fun _ h => av_notNaN (k := .f32) h)]; rfl, rfl⟩
end Go.Proofs.Ytgeomaeccalceaa
