/- Lists of float32 that are known but for not-a-numbers' bits. -/
import Derived.Test.YticmnkgcolgpaaaFr
namespace Go.Proofs.Yticmnkgcolgpaaa
open Go Go.RowKit Fl Vag
set_option linter.unusedVariables false
/-- A list of so many numbers, each known but for a not-a-number's bits. -/
def LikeL (n : Nat) (f : Nat → Option Nat) (ds : List Nat) : Prop := ds.length = n ∧ ∀ i, i < n → av .f32 (ds[i]?.getD 0) = f i
theorem LikeL.alike {n : Nat} {f : Nat → Option Nat} {xs ys : List Nat} (hx : LikeL n f xs) (hy : LikeL n f ys) : Alike .f32 xs ys :=
  ⟨hx.1.trans hy.1.symm, fun i hi => by rw [hx.2 i (by rw [← hx.1]; exact hi), hy.2 i (by rw [← hx.1]; exact hi)]⟩
/-- It returns a list in memory of its own among other results, each number known but for a not-a-number's bits, and has turned only memory of its own. -/
def RetLA (n : Nat) (f : Nat → Option Nat) (F : Value → Value) (w : World) (e : Ending) (w' : World) : Prop :=
  ∃ ds ao c, e = .returned (F (.slice ao n c)) ∧ LikeL n f ds ∧ Row w' w.heap.size w'.heap.size ao (fl .f32 ds) ∧ Below w.heap.size w w'
theorem eqFloat32S_like {n : Nat} {f : Nat → Option Nat} {xs ys : List Nat} (hx1 : LikeL n f xs) (hy1 : LikeL n f ys) (ao bo : Option Addr) (ca cb : Nat) (w : World) (hx : Holds w ao (fl .f32 xs)) (hy : Holds w bo (fl .f32 ys)) (hlen : n ≤ 1048576) :
    Calls Try.prog 25 #[.slice ao n ca, .slice bo n cb] w (RetB (.bool true) w) := by
  have hA := hx1.alike hy1
  obtain ⟨e, _⟩ := hx1
  subst e
  refine (eqFloat32S_yes xs ys hA ao bo ca cb w hx hy hlen).mono ?_
  rintro e w' ⟨n, rfl, rfl⟩
  exact ⟨rfl, Bel_drewN (Below.refl _ _) _⟩
end Go.Proofs.Yticmnkgcolgpaaa
