/- Chains that are the same, both sides. -/
import Derived.Test.YtfbllggnndodoaaChn
namespace Go.Proofs.Ytfbllggnndodoaa
open Go Go.RowKit Fl Vag
set_option linter.unusedVariables false

def sameC (s t : Int) (xs us : List Nat) : Prop := s = t ∧ sameL xs us
set_option maxRecDepth 100000 in
set_option maxHeartbeats 1000000 in
theorem implSameC_any (s t : Int) (xs us : List Nat) (ax au : Option Addr) (cx cu : Nat) (w : World) (hx : Holds w ax (fl .f32 xs)) (hu : Holds w au (fl .f32 us)) (lx : xs.length ≤ 1048576) (lu : us.length ≤ 1048576) (wx : wfl xs) (wu : wfl us) :
    Calls Try.prog 21 #[.agg #[.int .i64 s, .slice ax xs.length cx], .agg #[.int .i64 t, .slice au us.length cu]] w (Bo (sameC s t xs us) w) := by
  have HX := Lib.hid (And.intro hx hu)
  have HW := Lib.hid (And.intro wx wu)
  clear hx hu wx wu
  by_cases he : s = t
  · subst he
    go_enter Try.func21, Try.ntmps21
    go_wp2_with fail
    generalize hW : World.alloc (World.alloc _ _) _ = w0
    have H0 : Hid (Below w.heap.size w w0) := Lib.hid (by rw [← hW]; exact (by repeat (first | with_reducible exact Below.refl _ _ | with_reducible exact HBL | with_reducible refine Below.drew ?_ | with_reducible refine Bel_drewN ?_ _ | with_reducible refine Below.alloc ?_ (by first | omega | (simp; done) | (simp; omega)) _ | with_reducible refine Below.setCell ?_ (by first | omega | (simp; done) | (simp; omega)) _)))
    clear hW
    refine (equalF_any xs us _ _ _ _ _ (HX.out.1.below H0.out) (HX.out.2.below H0.out) lx lu HW.out.1 HW.out.2).mono ?_
    rintro e w' ⟨b, rfl, hb, rfl⟩
    have HB := Lib.hid hb
    clear hb
    go_wp2
    go_ret
    exact Bo.mk _ ⟨fun h => ⟨rfl, HB.out.1 h⟩, fun h => HB.out.2 h.2⟩ H0.out
  · have he' : (s == t) = false := by simpa using he
    have HN := Lib.hid he
    clear he
    go_enter Try.func21, Try.ntmps21
    go_wp2
    go_ret
    exact Bo.mk _ (falseIs fun h => HN.out h.1) (by repeat (first | with_reducible exact Below.refl _ _ | with_reducible exact HBL | with_reducible refine Below.drew ?_ | with_reducible refine Bel_drewN ?_ _ | with_reducible refine Below.alloc ?_ (by first | omega | (simp; done) | (simp; omega)) _ | with_reducible refine Below.setCell ?_ (by first | omega | (simp; done) | (simp; omega)) _))
set_option maxRecDepth 100000 in
set_option maxHeartbeats 1000000 in
theorem specSameC_any (s t : Int) (xs us : List Nat) (ax au : Option Addr) (cx cu : Nat) (w : World) (hx : Holds w ax (fl .f32 xs)) (hu : Holds w au (fl .f32 us)) (lx : xs.length ≤ 1048576) (lu : us.length ≤ 1048576) (wx : wfl xs) (wu : wfl us) :
    Calls Try.prog 20 #[.agg #[.int .i64 s, .slice ax xs.length cx], .agg #[.int .i64 t, .slice au us.length cu]] w (Bo (sameC s t xs us) w) := by
  have HX := Lib.hid (And.intro hx hu)
  have HW := Lib.hid (And.intro wx wu)
  clear hx hu wx wu
  by_cases he : s = t
  · subst he
    go_enter Try.func20, Try.ntmps20
    go_wp2_with fail
    generalize hW : World.alloc (World.alloc _ _) _ = w0
    have H0 : Hid (Below w.heap.size w w0) := Lib.hid (by rw [← hW]; exact (by repeat (first | with_reducible exact Below.refl _ _ | with_reducible exact HBL | with_reducible refine Below.drew ?_ | with_reducible refine Bel_drewN ?_ _ | with_reducible refine Below.alloc ?_ (by first | omega | (simp; done) | (simp; omega)) _ | with_reducible refine Below.setCell ?_ (by first | omega | (simp; done) | (simp; omega)) _)))
    clear hW
    refine (l01SameAll_any xs us _ _ _ _ _ (HX.out.1.below H0.out) (HX.out.2.below H0.out) lx lu HW.out.1 HW.out.2).mono ?_
    rintro e w' ⟨b, n, rfl, hb, rfl⟩
    have HB := Lib.hid hb
    clear hb
    go_wp2
    go_ret
    exact Bo.mk _ ⟨fun h => ⟨rfl, HB.out.1 h⟩, fun h => HB.out.2 h.2⟩ (Bel_drewN H0.out _)
  · have he' : (s == t) = false := by simpa using he
    have HN := Lib.hid he
    clear he
    go_enter Try.func20, Try.ntmps20
    go_wp2
    go_ret
    exact Bo.mk _ (falseIs fun h => HN.out h.1) (by repeat (first | with_reducible exact Below.refl _ _ | with_reducible exact HBL | with_reducible refine Below.drew ?_ | with_reducible refine Bel_drewN ?_ _ | with_reducible refine Below.alloc ?_ (by first | omega | (simp; done) | (simp; omega)) _ | with_reducible refine Below.setCell ?_ (by first | omega | (simp; done) | (simp; omega)) _))
end Go.Proofs.Ytfbllggnndodoaa
