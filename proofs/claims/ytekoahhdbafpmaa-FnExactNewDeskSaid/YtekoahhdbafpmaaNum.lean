/- What the smallest functions on numbers return, of the code and of its model. -/
import Derived.Test.YtekoahhdbafpmaaSf
import Derived.Test.YtekoahhdbafpmaaIn0
import Derived.KernelRfl
import Derived.Lib.Hide
namespace Go.Proofs.Ytekoahhdbafpmaa
open Go Go.RowKit Fl

/-- The bits of a number, of every not-a-number the same. -/
def bitsA : Option Nat → Nat
  | some b => b
  | none => 2143289344

@[go_sem] theorem run_f32bits (a : Nat) (w : World) : (callFunc 65 #[.float .f32 a]).run Try.prog w = .ok (.value (.int .u32 a)) w := by kernel_rfl

theorem neq_self_nan (k : FloatKind) (a : Nat) (h : av k a = none) : (k.format.order a a != some Ordering.eq) = true := by rw [order_none k a a h]; rfl
theorem neq_self_num (k : FloatKind) (a c : Nat) (h : av k a = some c) : (k.format.order a a != some Ordering.eq) = false := by
  obtain rfl := av_eq h
  rw [order_self k a (av_notNaN h)]; rfl

theorem l01Bits_any (a : Nat) (v : Option Nat) (ha : Fv .f32 v a) (w : World) :
    Calls Try.prog 64 #[.float .f32 a] w (fun e w' => e = .returned (.int .i64 (bitsA v)) ∧ w = w') := by
  have hl : a < 4294967296 := ha.1
  cases v with
  | none =>
    have h1 := neq_self_nan .f32 a ha.2
    go_enter Try.func64, Try.ntmps64
    go_wp2
    go_ret
    exact ⟨rfl, rfl⟩
  | some c =>
    have h1 := neq_self_num .f32 a c ha.2
    obtain rfl := av_eq ha.2
    clear ha
    go_enter Try.func64, Try.ntmps64
    go_wp2
    go_ret
    exact ⟨rfl, rfl⟩

theorem BitsOf_any (a : Nat) (v : Option Nat) (ha : Fv .f32 v a) (w : World) :
    Calls Try.prog 58 #[.float .f32 a] w (fun e w' => e = .returned (.int .i64 (bitsA v)) ∧ w = w') := by
  have hl : a < 4294967296 := ha.1
  cases v with
  | none =>
    have h1 := neq_self_nan .f32 a ha.2
    go_enter Try.func58, Try.ntmps58
    go_wp2
    go_ret
    exact ⟨rfl, rfl⟩
  | some c =>
    have h1 := neq_self_num .f32 a c ha.2
    obtain rfl := av_eq ha.2
    clear ha
    go_enter Try.func58, Try.ntmps58
    go_wp2
    go_ret
    exact ⟨rfl, rfl⟩
theorem l01Same_any (a b : Nat) (u v : Option Nat) (ha : Fv .f32 u a) (hb : Fv .f32 v b) (w : World) :
    Calls Try.prog 57 #[.float .f32 a, .float .f32 b] w (fun e w' => e = .returned (.bool ((bitsA u : Int) == (bitsA v : Int))) ∧ w = w') := by
  have Ha := Lib.hid ha
  have Hb := Lib.hid hb
  clear ha hb
  go_enter Try.func57, Try.ntmps57
  go_wp2_with fail
  refine (l01Bits_any _ _ Ha.out _).mono ?_
  rintro e w' ⟨rfl, rfl⟩
  go_wp2_with fail
  refine (l01Bits_any _ _ Hb.out _).mono ?_
  rintro e w' ⟨rfl, rfl⟩
  go_wp2_with fail
  go_ret
  exact ⟨rfl, rfl⟩
theorem SameNumber_any (a b : Nat) (u v : Option Nat) (ha : Fv .f32 u a) (hb : Fv .f32 v b) (w : World) :
    Calls Try.prog 40 #[.float .f32 a, .float .f32 b] w (fun e w' => e = .returned (.bool ((bitsA u : Int) == (bitsA v : Int))) ∧ w = w') := by
  have Ha := Lib.hid ha
  have Hb := Lib.hid hb
  clear ha hb
  go_enter Try.func40, Try.ntmps40
  go_wp2_with fail
  refine (BitsOf_any _ _ Ha.out _).mono ?_
  rintro e w' ⟨rfl, rfl⟩
  go_wp2_with fail
  refine (BitsOf_any _ _ Hb.out _).mono ?_
  rintro e w' ⟨rfl, rfl⟩
  go_wp2_with fail
  go_ret
  exact ⟨rfl, rfl⟩
end Go.Proofs.Ytekoahhdbafpmaa
