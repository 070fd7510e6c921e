/- What the smallest functions on numbers return, of the code and of its model. -/
import Derived.Test.YticmnkgcolgpaaaSf
import Derived.Test.YticmnkgcolgpaaaIn0
import Derived.KernelRfl
import Derived.Lib.Hide
namespace Go.Proofs.Yticmnkgcolgpaaa
open Go Go.RowKit Fl

/-- The bits of a number, of every not-a-number the same. -/
def bitsA : Option Nat → Nat
  | some b => b
  | none => 2143289344

@[go_sem] theorem run_f32from (n : Int) (w : World) : (callFunc 110 #[.int .u32 n]).run Try.prog w = .ok (.value (.float .f32 n.toNat)) w := by kernel_rfl
@[go_sem] theorem run_f64bits (a : Nat) (w : World) : (callFunc 96 #[.float .f64 a]).run Try.prog w = .ok (.value (.int .u64 a)) w := by kernel_rfl
@[go_sem] theorem run_f64from (n : Int) (w : World) : (callFunc 95 #[.int .u64 n]).run Try.prog w = .ok (.value (.float .f64 n.toNat)) w := by kernel_rfl

theorem neq_self_nan (k : FloatKind) (a : Nat) (h : av k a = none) : (k.format.order a a != some Ordering.eq) = true := by rw [order_none k a a h]; rfl
theorem neq_self_num (k : FloatKind) (a c : Nat) (h : av k a = some c) : (k.format.order a a != some Ordering.eq) = false := by
  obtain rfl := av_eq h
  rw [order_self k a (av_notNaN h)]; rfl

theorem andNot_top (a : Nat) (ha : a < 18446744073709551616) : (bits .andNot .u64 (a : Int) 9223372036854775808).toNat = a % 9223372036854775808 := by
  have h := u64_andNot_nat a 9223372036854775808 ha (by omega)
  have e : ((9223372036854775808 : Nat) : Int) = 9223372036854775808 := rfl
  rw [e] at h
  rw [h]
  have := Nat.and_two_pow_sub_one_eq_mod a 63
  simpa using this

/-- math.Abs strikes the sign. -/
theorem Abs_any (a : Nat) (ha : a < 18446744073709551616) (w : World) :
    Calls Try.prog 52 #[.float .f64 a] w (fun e w' => e = .returned (.float .f64 (a % 9223372036854775808)) ∧ w = w') := by
  have H := Lib.hid (andNot_top a ha)
  go_enter Try.func52, Try.ntmps52
  go_wp2
  go_ret
  exact ⟨by simp [H.out], rfl⟩

theorem isFiniteWide_any (a : Nat) (ha : a < 18446744073709551616) (w : World) :
    Calls Try.prog 50 #[.float .f64 a] w (fun e w' => e = .returned (.bool (finA .f64 (av .f64 a))) ∧ w = w') := by
  cases hv : av .f64 a with
  | none =>
    have h1 := neq_self_nan .f64 a hv
    clear hv
    go_enter Try.func50, Try.ntmps50
    go_wp2
    go_ret
    exact ⟨rfl, rfl⟩
  | some c =>
    have h1 := neq_self_num .f64 a c hv
    obtain rfl := av_eq hv
    have h2 : (FloatKind.f64.format.order (a % 9223372036854775808) 9218868437227405311 == some Ordering.gt) = (Ieee.double.read a).isInfinity := gt_max a (av_notNaN (k := .f64) hv)
    clear hv
    go_enter Try.func50, Try.ntmps50
    go_wp2_with (first | (go_at_call 52; refine (Abs_any _ ha _).mono ?_; rintro e w' ⟨rfl, rfl⟩) | go_in)
    go_ret
    exact ⟨rfl, rfl⟩
set_option maxRecDepth 100000 in
theorem IsFinite_any (a : Nat) (w : World) :
    Calls Try.prog 83 #[.float .f32 a] w (Ret (.bool (finA .f32 (av .f32 a))) w) := by
  go_enter Try.func83, Try.ntmps83
  go_wp2_with (first | (go_at_call 50; fail) | (refine wpList_widen _ _ _ _ rfl Try.underlying50 Try.underlying22 ?_; intro r n hr))
  refine (isFiniteWide_any r hr.1 _).mono ?_
  rintro e w' ⟨rfl, rfl⟩
  go_wp2
  go_ret
  exact ⟨n, by rw [hr.2, finA_widen _ (fun _ h => av_notNaN (k := .f32) h)]; rfl, rfl⟩
theorem l01From_any (n : Nat) (h : n < 4294967296) (w : World) :
    Calls Try.prog 90 #[.int .i64 n] w (fun e w' => e = .returned (.float .f32 n) ∧ w = w') := by
  have h' : (n : Int) < 4294967296 := by omega
  have h0 : (0 : Int) ≤ n := by omega
  go_enter Try.func90, Try.ntmps90
  go_wp2
  go_ret
  exact ⟨by simp, rfl⟩
end Go.Proofs.Yticmnkgcolgpaaa
