/- BellBelow: what the code and its model return. -/
import Derived.Test.YtjnnfiimimmmnaaBl
import Derived.Test.YtjnnfiimimmmnaaQu
namespace Go.Proofs.Ytjnnfiimimmmnaa
open Go Go.RowKit Fl
set_option linter.unusedVariables false

set_option maxRecDepth 100000 in
theorem implBb_yes (x : Nat) (h : finA .f32 (av .f32 x) = true) (w : World) : Calls Try.prog 47 #[.float .f32 x] w (RetA (fun r => .tuple #[.float .f32 r, .bool true]) (av .f32 (bellR x)) w) := by
  have HF := Lib.hid h
  clear h
  go_enter Try.func47, Try.ntmps47
  go_wp2_with (first | (go_at_call 51; fail))
  refine (IsFinite_any _ _).mono ?_
  rintro e w' ⟨n, rfl, rfl⟩
  rw [HF.out]
  go_wp2_with (first | (go_at_call 84; fail))
  refine (implBell_any x HF.out _).mono ?_
  rintro e w' ⟨n2, rfl, rfl⟩
  go_wp2
  go_ret2
  exact ⟨_, rfl, ⟨trivial, rfl⟩, (by repeat (first | with_reducible exact Below.refl _ _ | with_reducible exact HBL | with_reducible refine Below.drew ?_ | with_reducible refine Bel_drewN ?_ _ | with_reducible refine Below.alloc ?_ (by first | omega | (simp; done) | (simp; omega)) _ | with_reducible refine Below.setCell ?_ (by first | omega | (simp; done) | (simp; omega)) _))⟩
set_option maxRecDepth 100000 in
theorem implBb_no (x : Nat) (h : finA .f32 (av .f32 x) = false) (w : World) : Calls Try.prog 47 #[.float .f32 x] w (RetA (fun r => .tuple #[.float .f32 r, .bool false]) (av .f32 0) w) := by
  have HF := Lib.hid h
  clear h
  go_enter Try.func47, Try.ntmps47
  go_wp2_with (first | (go_at_call 51; fail))
  refine (IsFinite_any _ _).mono ?_
  rintro e w' ⟨n, rfl, rfl⟩
  rw [HF.out]
  go_wp2
  go_ret2
  exact ⟨_, rfl, ⟨trivial, rfl⟩, (by repeat (first | with_reducible exact Below.refl _ _ | with_reducible exact HBL | with_reducible refine Below.drew ?_ | with_reducible refine Bel_drewN ?_ _ | with_reducible refine Below.alloc ?_ (by first | omega | (simp; done) | (simp; omega)) _ | with_reducible refine Below.setCell ?_ (by first | omega | (simp; done) | (simp; omega)) _))⟩
set_option maxRecDepth 100000 in
theorem specBb_yes (x : Nat) (h : finA .f32 (av .f32 x) = true) (w : World) : Calls Try.prog 46 #[.float .f32 x] w (RetA (fun r => .tuple #[.float .f32 r, .bool true]) (av .f32 (bellR x)) w) := by
  have HF := Lib.hid h
  clear h
  go_enter Try.func46, Try.ntmps46
  go_wp2_with (first | (go_at_call 61; fail))
  refine (l01Fin_is _ _ HF.out _).mono ?_
  rintro e w' ⟨n, rfl, rfl⟩
  go_wp2_with (first | (go_at_call 83; fail))
  refine (l05Bell_any x HF.out _).mono ?_
  rintro e w' ⟨n2, rfl, rfl⟩
  go_wp2
  go_ret2
  exact ⟨_, rfl, ⟨trivial, rfl⟩, (by repeat (first | with_reducible exact Below.refl _ _ | with_reducible exact HBL | with_reducible refine Below.drew ?_ | with_reducible refine Bel_drewN ?_ _ | with_reducible refine Below.alloc ?_ (by first | omega | (simp; done) | (simp; omega)) _ | with_reducible refine Below.setCell ?_ (by first | omega | (simp; done) | (simp; omega)) _))⟩
set_option maxRecDepth 100000 in
theorem specBb_no (x : Nat) (h : finA .f32 (av .f32 x) = false) (w : World) : Calls Try.prog 46 #[.float .f32 x] w (RetA (fun r => .tuple #[.float .f32 r, .bool false]) (av .f32 0) w) := by
  have HF := Lib.hid h
  clear h
  go_enter Try.func46, Try.ntmps46
  go_wp2_with (first | (go_at_call 61; fail))
  refine (l01Fin_is _ _ HF.out _).mono ?_
  rintro e w' ⟨n, rfl, rfl⟩
  go_wp2
  go_ret2
  exact ⟨_, rfl, ⟨trivial, rfl⟩, (by repeat (first | with_reducible exact Below.refl _ _ | with_reducible exact HBL | with_reducible refine Below.drew ?_ | with_reducible refine Bel_drewN ?_ _ | with_reducible refine Below.alloc ?_ (by first | omega | (simp; done) | (simp; omega)) _ | with_reducible refine Below.setCell ?_ (by first | omega | (simp; done) | (simp; omega)) _))⟩
end Go.Proofs.Ytjnnfiimimmmnaa
