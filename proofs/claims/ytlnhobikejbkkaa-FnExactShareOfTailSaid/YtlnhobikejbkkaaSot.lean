/- The share of a tail: both sides. -/
import Derived.Test.YtlnhobikejbkkaaSh
import Derived.Test.YtlnhobikejbkkaaIn0
namespace Go.Proofs.Ytlnhobikejbkkaa
open Go Go.RowKit Fl
set_option linter.unusedVariables false

def sotC (p a : Int) : Prop := 1 ≤ a ∧ 0 ≤ p ∧ p ≤ a
def sotV (p a : Int) : Option Nat := aop .quo .f32 (av .f32 (floatOfInt .f32 p)) (av .f32 (floatOfInt .f32 a))
set_option maxRecDepth 100000 in
theorem implSot_yes (p a : Int) (w : World) (h : sotC p a) : Calls Try.prog 21 #[.int .i64 p, .int .i64 a] w (RetF (fun r => .tuple #[.float .f32 r, .bool true]) (sotV p a) w) := by
  obtain ⟨h1, h2, h3⟩ := h
  go_enter Try.func21, Try.ntmps21
  go_wp2_with (refine wpList_farith _ _ _ _ _ .f32 (floatOfInt .f32 p) (floatOfInt .f32 a) rfl rfl rfl ?_; intro d n hd)
  have HD := Lib.hid hd
  clear hd
  go_wp2_with fail
  go_ret2
  exact ⟨d, rfl, HD.out, (by repeat (first | with_reducible exact Below.refl _ _ | with_reducible exact HBL | with_reducible refine Below.drew ?_ | with_reducible refine Bel_drewN ?_ _ | with_reducible refine Below.alloc ?_ (by first | omega | (simp; done) | (simp; omega)) _ | with_reducible refine Below.setCell ?_ (by first | omega | (simp; done) | (simp; omega)) _))⟩
theorem implSot_no (p a : Int) (w : World) (h : ¬sotC p a) : Calls Try.prog 21 #[.int .i64 p, .int .i64 a] w (RetB (.tuple #[.float .f32 0, .bool false]) w) := by
  unfold sotC at h
  by_cases h1 : a < 1
  · clear h
    go_enter Try.func21, Try.ntmps21
    go_wp2
    go_ret2
    exact ⟨rfl, Below.refl _ _⟩
  · by_cases h2 : p < 0
    · clear h
      go_enter Try.func21, Try.ntmps21
      go_wp2
      go_ret2
      exact ⟨rfl, Below.refl _ _⟩
    · have h3 : a < p := by omega
      clear h
      go_enter Try.func21, Try.ntmps21
      go_wp2
      go_ret2
      exact ⟨rfl, Below.refl _ _⟩
set_option maxRecDepth 100000 in
theorem specSot_yes (p a : Int) (w : World) (h : sotC p a) : Calls Try.prog 20 #[.int .i64 p, .int .i64 a] w (RetF (fun r => .tuple #[.float .f32 r, .bool true]) (sotV p a) w) := by
  obtain ⟨h1, h2, h3⟩ := h
  have H := Lib.hid (And.intro h2 h3)
  go_enter Try.func20, Try.ntmps20
  go_wp2_with fail
  refine (l00In_yes _ _ _ H.out.1 H.out.2 _).mono ?_
  rintro e w1 ⟨rfl, rfl⟩
  go_wp2_with (refine wpList_farith _ _ _ _ _ .f32 (floatOfInt .f32 p) (floatOfInt .f32 a) rfl rfl rfl ?_; intro d n hd)
  have HD := Lib.hid hd
  clear hd
  go_wp2_with fail
  go_ret2
  exact ⟨d, rfl, HD.out, (by repeat (first | with_reducible exact Below.refl _ _ | with_reducible exact HBL | with_reducible refine Below.drew ?_ | with_reducible refine Bel_drewN ?_ _ | with_reducible refine Below.alloc ?_ (by first | omega | (simp; done) | (simp; omega)) _ | with_reducible refine Below.setCell ?_ (by first | omega | (simp; done) | (simp; omega)) _))⟩
theorem specSot_no (p a : Int) (w : World) (h : ¬sotC p a) : Calls Try.prog 20 #[.int .i64 p, .int .i64 a] w (RetB (.tuple #[.float .f32 0, .bool false]) w) := by
  unfold sotC at h
  by_cases h1 : a < 1
  · clear h
    go_enter Try.func20, Try.ntmps20
    go_wp2_with fail
    go_ret2
    exact ⟨rfl, Below.refl _ _⟩
  · have H : Hid (p < 0 ∨ a < p) := Lib.hid (by omega)
    clear h
    go_enter Try.func20, Try.ntmps20
    go_wp2_with fail
    refine (l00In_no _ _ _ H.out _).mono ?_
    rintro e w1 ⟨rfl, rfl⟩
    go_wp2_with fail
    go_ret2
    exact ⟨rfl, Below.refl _ _⟩
theorem RetF.zro {w w' : World} {e : Ending} {f : Nat → Value} (h : RetB (f 0) w e w') : RetF f (av .f32 0) w e w' := ⟨0, h.1, ⟨by decide, rfl⟩, h.2⟩
end Go.Proofs.Ytlnhobikejbkkaa
