/- What the smallest functions on numbers return, of the code and of its model. -/
import Derived.Test.YtfgkimhcbboipaaDoorSf
import Derived.Test.YtfgkimhcbboipaaDoorIn0
import Derived.KernelRfl
import Derived.Lib.Hide
namespace Go.Proofs.YtfgkimhcbboipaaDoor
open Go Go.RowKit Fl

/-- The bits of a number, of every not-a-number the same. -/
def bitsA : Option Nat → Nat
  | some b => b
  | none => 2143289344

@[go_sem] theorem run_f32bits (a : Nat) (w : World) : (callFunc 147 #[.float .f32 a]).run Tryd.prog w = .ok (.value (.int .u32 a)) w := by kernel_rfl
@[go_sem] theorem run_f32from (n : Int) (w : World) : (callFunc 148 #[.int .u32 n]).run Tryd.prog w = .ok (.value (.float .f32 n.toNat)) w := by kernel_rfl

theorem neq_self_nan (k : FloatKind) (a : Nat) (h : av k a = none) : (k.format.order a a != some Ordering.eq) = true := by rw [order_none k a a h]; rfl
theorem neq_self_num (k : FloatKind) (a c : Nat) (h : av k a = some c) : (k.format.order a a != some Ordering.eq) = false := by
  obtain rfl := av_eq h
  rw [order_self k a (av_notNaN h)]; rfl

theorem l01Bits_any (a : Nat) (v : Option Nat) (ha : Fv .f32 v a) (w : World) :
    Calls Tryd.prog 107 #[.float .f32 a] w (fun e w' => e = .returned (.int .i64 (bitsA v)) ∧ w = w') := by
  have hl : a < 4294967296 := ha.1
  cases v with
  | none =>
    have h1 := neq_self_nan .f32 a ha.2
    go_enter Tryd.func107, Tryd.ntmps107
    go_wp2
    go_ret
    exact ⟨rfl, rfl⟩
  | some c =>
    have h1 := neq_self_num .f32 a c ha.2
    obtain rfl := av_eq ha.2
    clear ha
    go_enter Tryd.func107, Tryd.ntmps107
    go_wp2
    go_ret
    exact ⟨rfl, rfl⟩

theorem BitsOf_any (a : Nat) (v : Option Nat) (ha : Fv .f32 v a) (w : World) :
    Calls Tryd.prog 105 #[.float .f32 a] w (fun e w' => e = .returned (.int .i64 (bitsA v)) ∧ w = w') := by
  have hl : a < 4294967296 := ha.1
  cases v with
  | none =>
    have h1 := neq_self_nan .f32 a ha.2
    go_enter Tryd.func105, Tryd.ntmps105
    go_wp2
    go_ret
    exact ⟨rfl, rfl⟩
  | some c =>
    have h1 := neq_self_num .f32 a c ha.2
    obtain rfl := av_eq ha.2
    clear ha
    go_enter Tryd.func105, Tryd.ntmps105
    go_wp2
    go_ret
    exact ⟨rfl, rfl⟩
theorem implFromBits_in (n : Int) (h1 : 0 ≤ n) (h2 : n ≤ 4294967295) (w : World) :
    Calls Tryd.prog 109 #[.int .i64 n] w (fun e w' => e = .returned (.tuple #[.float .f32 n.toNat, .bool true]) ∧ w = w') := by
  go_enter Tryd.func109, Tryd.ntmps109
  go_wp2
  go_ret2
  exact ⟨rfl, rfl⟩
theorem implFromBits_out (n : Int) (h : n < 0 ∨ 4294967295 < n) (w : World) :
    Calls Tryd.prog 109 #[.int .i64 n] w (fun e w' => e = .returned (.tuple #[.float .f32 0, .bool false]) ∧ w = w') := by
  rcases h with h | h
  all_goals
    go_enter Tryd.func109, Tryd.ntmps109
    go_wp2
    go_ret2
    exact ⟨rfl, rfl⟩
theorem l01From_any (n : Nat) (h : n < 4294967296) (w : World) :
    Calls Tryd.prog 106 #[.int .i64 n] w (fun e w' => e = .returned (.float .f32 n) ∧ w = w') := by
  have h' : (n : Int) < 4294967296 := by omega
  have h0 : (0 : Int) ≤ n := by omega
  go_enter Tryd.func106, Tryd.ntmps106
  go_wp2
  go_ret
  exact ⟨by simp, rfl⟩
end Go.Proofs.YtfgkimhcbboipaaDoor
