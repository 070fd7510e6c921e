/- Hits: how many shares are less than a share. -/
import Derived.Test.YticmnkgcolgpaaaSh
import Derived.Test.YticmnkgcolgpaaaIn0
import Derived.LoopTactic
namespace Go.Proofs.Yticmnkgcolgpaaa
open Go Go.RowKit Fl
set_option linter.unusedVariables false

def geB (x y : Nat) : Bool := FloatKind.f32.format.order x y == some Ordering.gt || FloatKind.f32.format.order x y == some Ordering.eq
def leB (x y : Nat) : Bool := FloatKind.f32.format.order x y == some Ordering.lt || FloatKind.f32.format.order x y == some Ordering.eq
def ltB (x y : Nat) : Bool := FloatKind.f32.format.order x y == some Ordering.lt
def gtB (x y : Nat) : Bool := FloatKind.f32.format.order x y == some Ordering.gt
def partB (x : Nat) : Bool := geB x 0 && leB x 1065353216
theorem isWithin_any (x lo hi : Nat) (w : World) : Calls Try.prog 106 #[.float .f32 x, .float .f32 lo, .float .f32 hi] w (fun e w' => e = .returned (.bool (geB x lo && leB x hi)) ∧ w = w') := by
  cases hg : geB x lo with
  | true =>
    have hg' : (FloatKind.f32.format.order x lo == some Ordering.gt || FloatKind.f32.format.order x lo == some Ordering.eq) = true := hg
    clear hg
    go_enter Try.func106, Try.ntmps106
    go_wp2
    go_ret
    exact ⟨rfl, rfl⟩
  | false =>
    have hg' : (FloatKind.f32.format.order x lo == some Ordering.gt || FloatKind.f32.format.order x lo == some Ordering.eq) = false := hg
    clear hg
    go_enter Try.func106, Try.ntmps106
    go_wp2
    go_ret
    exact ⟨rfl, rfl⟩
theorem l02Part_any (x : Nat) (w : World) : Calls Try.prog 77 #[.float .f32 x] w (fun e w' => e = .returned (.bool (partB x)) ∧ w = w') := by
  cases hg : geB x 0 with
  | true =>
    have hp : partB x = leB x 1065353216 := by unfold partB; rw [hg]; rfl
    have HP := Lib.hid hp
    have hg' : (FloatKind.f32.format.order x 0 == some Ordering.gt || FloatKind.f32.format.order x 0 == some Ordering.eq) = true := hg
    clear hg hp
    go_enter Try.func77, Try.ntmps77
    go_wp2
    go_ret
    exact ⟨by rw [HP.out]; rfl, rfl⟩
  | false =>
    have hp : partB x = false := by unfold partB; rw [hg]; rfl
    have HP := Lib.hid hp
    have hg' : (FloatKind.f32.format.order x 0 == some Ordering.gt || FloatKind.f32.format.order x 0 == some Ordering.eq) = false := hg
    clear hg hp
    go_enter Try.func77, Try.ntmps77
    go_wp2
    go_ret
    exact ⟨by rw [HP.out]; rfl, rfl⟩
/-- How many of the first j shares are less than x. -/
def hitsN (k : Int) (a b x : Nat) : Nat → Nat
  | 0 => 0
  | j + 1 => if ltB (shK k (sdK k a b j).1 (sdK k a b j).2) x = true then hitsN k a b x j + 1 else hitsN k a b x j
theorem hitsN_le (k : Int) (a b x j : Nat) : hitsN k a b x j ≤ j := by
  induction j with
  | zero => exact Nat.le_refl _
  | succ j ih => unfold hitsN; split <;> omega
end Go.Proofs.Yticmnkgcolgpaaa
