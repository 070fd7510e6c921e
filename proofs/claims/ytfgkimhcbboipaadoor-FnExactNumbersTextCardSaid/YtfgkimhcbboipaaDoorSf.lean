/- What the law's helper sameFloat answers of two numbers that are the same but for a not-a-number's bits. -/
import Derived.Test.YtfgkimhcbboipaaDoorChecked
import Derived.Test.YtfgkimhcbboipaaDoorFl
import Derived.Laws.Cover2
namespace Go.Proofs.YtfgkimhcbboipaaDoor
open Go Go.RowKit Fl

/-- It returns v, and has drawn at most. -/
def Ret (v : Value) (w : World) (e : Ending) (w' : World) : Prop := ∃ n, e = .returned v ∧ w' = w.drewN n

theorem order_self (k : FloatKind) (c : Nat) (h : (k.format.read c).isNaN = false) : k.format.order c c = some .eq := by
  unfold Ieee.Format.order
  cases hd : k.format.read c with
  | number s m i => rw [order_number s s m m i i i (by omega) (by omega)]; simp
  | infinity s => simp [Ieee.Datum.order]
  | nan _ _ => rw [hd] at h; simp [Ieee.Datum.isNaN] at h

theorem av_eq {k : FloatKind} {a c : Nat} (h : av k a = some c) : a = c := by
  unfold av at h; split at h <;> cases h; rfl

theorem order_none (k : FloatKind) (a b : Nat) (h : av k a = none) : k.format.order a b = none := by
  rw [aord_order, h]; cases av k b <;> rfl

theorem recip_same {v : Option Nat} {a b : Nat} (ha : Fv .f64 v a) (hb : Fv .f64 v b) :
    Ending.returned (.bool ((FloatKind.f64.format.order a 0 == some .gt) == (FloatKind.f64.format.order b 0 == some .gt))) = .returned (.bool true) := by
  rw [aord_order, aord_order .f64 b, ha.2, hb.2]; simp

theorem sameFloat_nan (a b : Nat) (ha : av .f64 a = none) (hb : av .f64 b = none) (w : World) :
    Calls Tryd.prog 70 #[.float .f64 a, .float .f64 b] w (Ret (.bool true) w) := by
  have h1 : (FloatKind.f64.format.order a a != some Ordering.eq) = true := by rw [order_none .f64 a a ha]; rfl
  have h2 : (FloatKind.f64.format.order b b != some Ordering.eq) = true := by rw [order_none .f64 b b hb]; rfl
  go_enter Tryd.func70, Tryd.ntmps70
  go_wp2
  go_ret
  exact ⟨0, rfl, rfl⟩

theorem sameFloat_zero (a : Nat) (ha : av .f64 a = some a) (hz : (FloatKind.f64.format.order a 0 == some Ordering.eq) = true) (w : World) :
    Calls Tryd.prog 70 #[.float .f64 a, .float .f64 a] w (Ret (.bool true) w) := by
  have h1 : (FloatKind.f64.format.order a a != some Ordering.eq) = false := by rw [order_self .f64 a (av_notNaN ha)]; rfl
  clear ha
  go_enter Tryd.func70, Tryd.ntmps70
  go_wp2_with (refine wpList_farith _ _ _ _ _ .f64 _ _ rfl rfl rfl ?_; intro r n hr)
  go_ret
  exact ⟨_, recip_same (by assumption) (by assumption), rfl⟩

theorem sameFloat_same (a : Nat) (ha : av .f64 a = some a) (hz : (FloatKind.f64.format.order a 0 == some Ordering.eq) = false) (w : World) :
    Calls Tryd.prog 70 #[.float .f64 a, .float .f64 a] w (Ret (.bool true) w) := by
  have h1 : (FloatKind.f64.format.order a a != some Ordering.eq) = false := by rw [order_self .f64 a (av_notNaN ha)]; rfl
  have h2 : (FloatKind.f64.format.order a a == some Ordering.eq) = true := by rw [order_self .f64 a (av_notNaN ha)]; rfl
  clear ha
  go_enter Tryd.func70, Tryd.ntmps70
  go_wp2
  go_ret
  exact ⟨0, rfl, rfl⟩
/-- Two numbers that are the same but for a not-a-number's bits. -/
theorem sameFloat_any (a b : Nat) (v : Option Nat) (ha : Fv .f64 v a) (hb : Fv .f64 v b) (w : World) :
    Calls Tryd.prog 70 #[.float .f64 a, .float .f64 b] w (Ret (.bool true) w) := by
  cases v with
  | none => exact sameFloat_nan a b ha.2 hb.2 w
  | some c =>
    have h1 := av_eq ha.2
    have h2 := av_eq hb.2
    subst h1 h2
    cases hz : (FloatKind.f64.format.order b 0 == some Ordering.eq) with
    | true => exact sameFloat_zero _ ha.2 hz w
    | false => exact sameFloat_same _ ha.2 hz w

end Go.Proofs.YtfgkimhcbboipaaDoor
