/- The walks of the laws on single numbers. -/
import Derived.Test.YtgkkimocmpgfkacNum
import Derived.Below
namespace Go.Proofs.Ytgkkimocmpgfkac
open Go Go.RowKit Fl

theorem Fv_self (k : FloatKind) (a : Nat) (h : (Lit.float k a).wf = true) : Fv k (av k a) a := by
  refine ⟨?_, rfl⟩
  cases k
  · have : a < 4294967296 := by simpa [Lit.wf] using h
    exact this
  · have : a < 18446744073709551616 := by simpa [Lit.wf] using h
    exact this

theorem Below_drewN {B : Nat} {W w' : World} (h : Below B W w') (n : Nat) : Below B W (w'.drewN n) := ⟨h.os, h.tape, h.output, h.size, h.block⟩

end Go.Proofs.Ytgkkimocmpgfkac
