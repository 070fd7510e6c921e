/- What the smallest functions on numbers return, of the code and of its model. -/
import Derived.Test.YtfbllggnndodoaaSf
import Derived.Test.YtfbllggnndodoaaIn0
import Derived.KernelRfl
import Derived.Lib.Hide
namespace Go.Proofs.Ytfbllggnndodoaa
open Go Go.RowKit Fl

/-- The bits of a number, of every not-a-number the same. -/
def bitsA : Option Nat → Nat
  | some b => b
  | none => 2143289344

@[go_sem] theorem run_f32bits (a : Nat) (w : World) : (callFunc 94 #[.float .f32 a]).run Try.prog w = .ok (.value (.int .u32 a)) w := by kernel_rfl
@[go_sem] theorem run_f64bits (a : Nat) (w : World) : (callFunc 101 #[.float .f64 a]).run Try.prog w = .ok (.value (.int .u64 a)) w := by kernel_rfl
@[go_sem] theorem run_f64from (n : Int) (w : World) : (callFunc 100 #[.int .u64 n]).run Try.prog w = .ok (.value (.float .f64 n.toNat)) w := by kernel_rfl

theorem neq_self_nan (k : FloatKind) (a : Nat) (h : av k a = none) : (k.format.order a a != some Ordering.eq) = true := by rw [order_none k a a h]; rfl
theorem neq_self_num (k : FloatKind) (a c : Nat) (h : av k a = some c) : (k.format.order a a != some Ordering.eq) = false := by
  obtain rfl := av_eq h
  rw [order_self k a (av_notNaN h)]; rfl

theorem andNot_top (a : Nat) (ha : a < 18446744073709551616) : (bits .andNot .u64 (a : Int) 9223372036854775808).toNat = a % 9223372036854775808 := by
  have h := u64_andNot_nat a 9223372036854775808 ha (by omega)
  have e : ((9223372036854775808 : Nat) : Int) = 9223372036854775808 := rfl
  rw [e] at h
  rw [h]
  have := Nat.and_two_pow_sub_one_eq_mod a 63
  simpa using this

/-- math.Abs strikes the sign. -/
theorem Abs_any (a : Nat) (ha : a < 18446744073709551616) (w : World) :
    Calls Try.prog 99 #[.float .f64 a] w (fun e w' => e = .returned (.float .f64 (a % 9223372036854775808)) ∧ w = w') := by
  have H := Lib.hid (andNot_top a ha)
  go_enter Try.func99, Try.ntmps99
  go_wp2
  go_ret
  exact ⟨by simp [H.out], rfl⟩
theorem l01Bits_any (a : Nat) (v : Option Nat) (ha : Fv .f32 v a) (w : World) :
    Calls Try.prog 93 #[.float .f32 a] w (fun e w' => e = .returned (.int .i64 (bitsA v)) ∧ w = w') := by
  have hl : a < 4294967296 := ha.1
  cases v with
  | none =>
    have h1 := neq_self_nan .f32 a ha.2
    go_enter Try.func93, Try.ntmps93
    go_wp2
    go_ret
    exact ⟨rfl, rfl⟩
  | some c =>
    have h1 := neq_self_num .f32 a c ha.2
    obtain rfl := av_eq ha.2
    clear ha
    go_enter Try.func93, Try.ntmps93
    go_wp2
    go_ret
    exact ⟨rfl, rfl⟩

theorem BitsOf_any (a : Nat) (v : Option Nat) (ha : Fv .f32 v a) (w : World) :
    Calls Try.prog 88 #[.float .f32 a] w (fun e w' => e = .returned (.int .i64 (bitsA v)) ∧ w = w') := by
  have hl : a < 4294967296 := ha.1
  cases v with
  | none =>
    have h1 := neq_self_nan .f32 a ha.2
    go_enter Try.func88, Try.ntmps88
    go_wp2
    go_ret
    exact ⟨rfl, rfl⟩
  | some c =>
    have h1 := neq_self_num .f32 a c ha.2
    obtain rfl := av_eq ha.2
    clear ha
    go_enter Try.func88, Try.ntmps88
    go_wp2
    go_ret
    exact ⟨rfl, rfl⟩
theorem l01Same_any (a b : Nat) (u v : Option Nat) (ha : Fv .f32 u a) (hb : Fv .f32 v b) (w : World) :
    Calls Try.prog 87 #[.float .f32 a, .float .f32 b] w (fun e w' => e = .returned (.bool ((bitsA u : Int) == (bitsA v : Int))) ∧ w = w') := by
  have Ha := Lib.hid ha
  have Hb := Lib.hid hb
  clear ha hb
  go_enter Try.func87, Try.ntmps87
  go_wp2_with fail
  refine (l01Bits_any _ _ Ha.out _).mono ?_
  rintro e w' ⟨rfl, rfl⟩
  go_wp2_with fail
  refine (l01Bits_any _ _ Hb.out _).mono ?_
  rintro e w' ⟨rfl, rfl⟩
  go_wp2_with fail
  go_ret
  exact ⟨rfl, rfl⟩
theorem SameNumber_any (a b : Nat) (u v : Option Nat) (ha : Fv .f32 u a) (hb : Fv .f32 v b) (w : World) :
    Calls Try.prog 56 #[.float .f32 a, .float .f32 b] w (fun e w' => e = .returned (.bool ((bitsA u : Int) == (bitsA v : Int))) ∧ w = w') := by
  have Ha := Lib.hid ha
  have Hb := Lib.hid hb
  clear ha hb
  go_enter Try.func56, Try.ntmps56
  go_wp2_with fail
  refine (BitsOf_any _ _ Ha.out _).mono ?_
  rintro e w' ⟨rfl, rfl⟩
  go_wp2_with fail
  refine (BitsOf_any _ _ Hb.out _).mono ?_
  rintro e w' ⟨rfl, rfl⟩
  go_wp2_with fail
  go_ret
  exact ⟨rfl, rfl⟩
theorem l01Finite_any (a : Nat) (w : World) :
    Calls Try.prog 89 #[.float .f32 a] w (Ret (.bool (finA .f32 (av .f32 a))) w) := by
  go_enter Try.func89, Try.ntmps89
  go_wp2_with (refine wpList_farith _ _ _ _ _ .f32 _ _ rfl rfl rfl ?_; intro r n hr)
  go_ret
  exact ⟨n, by rw [← sub_self_zero .f32 _ (fun _ h => av_notNaN h) r hr]; rfl, rfl⟩
theorem isFiniteWide_any (a : Nat) (ha : a < 18446744073709551616) (w : World) :
    Calls Try.prog 90 #[.float .f64 a] w (fun e w' => e = .returned (.bool (finA .f64 (av .f64 a))) ∧ w = w') := by
  cases hv : av .f64 a with
  | none =>
    have h1 := neq_self_nan .f64 a hv
    clear hv
    go_enter Try.func90, Try.ntmps90
    go_wp2
    go_ret
    exact ⟨rfl, rfl⟩
  | some c =>
    have h1 := neq_self_num .f64 a c hv
    obtain rfl := av_eq hv
    have h2 : (FloatKind.f64.format.order (a % 9223372036854775808) 9218868437227405311 == some Ordering.gt) = (Ieee.double.read a).isInfinity := gt_max a (av_notNaN (k := .f64) hv)
    clear hv
    go_enter Try.func90, Try.ntmps90
    go_wp2_with (first | (go_at_call 99; refine (Abs_any _ ha _).mono ?_; rintro e w' ⟨rfl, rfl⟩) | go_in)
    go_ret
    exact ⟨rfl, rfl⟩
set_option maxRecDepth 100000 in
theorem IsFinite_any (a : Nat) (w : World) :
    Calls Try.prog 74 #[.float .f32 a] w (Ret (.bool (finA .f32 (av .f32 a))) w) := by
  go_enter Try.func74, Try.ntmps74
  go_wp2_with (first | (go_at_call 90; fail) | (refine wpList_widen _ _ _ _ rfl Try.underlying32 Try.underlying55 ?_; intro r n hr))
  refine (isFiniteWide_any r hr.1 _).mono ?_
  rintro e w' ⟨rfl, rfl⟩
  go_wp2
  go_ret
  exact ⟨n, by rw [hr.2, finA_widen _ (fun _ h => av_notNaN (k := .f32) h)]; rfl, rfl⟩
end Go.Proofs.Ytfbllggnndodoaa
