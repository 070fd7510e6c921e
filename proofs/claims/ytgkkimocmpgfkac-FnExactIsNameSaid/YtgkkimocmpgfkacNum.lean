/- What the smallest functions on numbers return, of the code and of its model. -/
import Derived.Test.YtgkkimocmpgfkacSf
import Derived.KernelRfl
import Derived.Lib.Hide
namespace Go.Proofs.Ytgkkimocmpgfkac
open Go Go.RowKit Fl

/-- The bits of a number, of every not-a-number the same. -/
def bitsA : Option Nat → Nat
  | some b => b
  | none => 2143289344

@[go_sem] theorem run_f32bits (a : Nat) (w : World) : (callFunc 20 #[.float .f32 a]).run Try.prog w = .ok (.value (.int .u32 a)) w := by kernel_rfl

theorem neq_self_nan (k : FloatKind) (a : Nat) (h : av k a = none) : (k.format.order a a != some Ordering.eq) = true := by rw [order_none k a a h]; rfl
theorem neq_self_num (k : FloatKind) (a c : Nat) (h : av k a = some c) : (k.format.order a a != some Ordering.eq) = false := by
  obtain rfl := av_eq h
  rw [order_self k a (av_notNaN h)]; rfl

theorem l00In_yes (n lo hi : Int) (h1 : lo ≤ n) (h2 : n ≤ hi) (w : World) :
    Calls Try.prog 16 #[.int .i64 n, .int .i64 lo, .int .i64 hi] w (fun e w' => e = .returned (.bool true) ∧ w = w') := by
  go_enter Try.func16, Try.ntmps16
  go_wp2
  go_ret
  exact ⟨by simp, rfl⟩
theorem l00In_no (n lo hi : Int) (h : n < lo ∨ hi < n) (w : World) :
    Calls Try.prog 16 #[.int .i64 n, .int .i64 lo, .int .i64 hi] w (fun e w' => e = .returned (.bool false) ∧ w = w') := by
  by_cases h1 : n < lo
  · have hd : decide (lo ≤ n) = false := by simp; omega
    clear h
    go_enter Try.func16, Try.ntmps16
    go_wp2
    go_ret
    exact ⟨rfl, rfl⟩
  · have h2 : lo ≤ n := by omega
    have hd : decide (n ≤ hi) = false := by simp; omega
    clear h h1
    go_enter Try.func16, Try.ntmps16
    go_wp2
    go_ret
    exact ⟨by simp, rfl⟩
theorem l01Bits_any (a : Nat) (v : Option Nat) (ha : Fv .f32 v a) (w : World) :
    Calls Try.prog 19 #[.float .f32 a] w (fun e w' => e = .returned (.int .i64 (bitsA v)) ∧ w = w') := by
  have hl : a < 4294967296 := ha.1
  cases v with
  | none =>
    have h1 := neq_self_nan .f32 a ha.2
    go_enter Try.func19, Try.ntmps19
    go_wp2
    go_ret
    exact ⟨rfl, rfl⟩
  | some c =>
    have h1 := neq_self_num .f32 a c ha.2
    obtain rfl := av_eq ha.2
    clear ha
    go_enter Try.func19, Try.ntmps19
    go_wp2
    go_ret
    exact ⟨rfl, rfl⟩

end Go.Proofs.Ytgkkimocmpgfkac
