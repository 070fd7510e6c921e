/- Operations on floats that are guarded, in the walk. -/
import Derived.Test.YticmnkgcolgpaaaFl
import Derived.BigFrame
namespace Go.Proofs.Yticmnkgcolgpaaa.Fl
open Go Ieee
section
variable {P : Program} {ops : Array Oper} {Q : Exit → Act → World → Prop} {rest : List Oper} {a : Act} {w : World} {dst : Option Tmp} {ty : TypeId} {pos : String} {af : Array Edge} {g : Option (Nat × Bool)}
/-- 'float64(x)' of a float32, behind a guard. -/
theorem wpList_widen_g (src dt : TypeId) (x : Operand) (b : Nat) (hx : a.eval x = .float .f32 b) (hs : P.underlying src = some (.float .f32)) (hd : P.underlying dt = some (.float .f64))
    (hw : Region.wanted ⟨dst, .convert src dt x, ty, pos, af, g⟩ (yielded ops a.tmps) = true)
    (hK : ∀ r n, Fv .f64 (widen (av .f32 b)) r → wpList P ops Q rest (a.put dst (.float .f64 r)) (w.drewN n)) :
    wpList P ops Q (⟨dst, .convert src dt x, ty, pos, af, g⟩ :: rest) a w := by
  refine BigFrame.wpList_want hw fun K hK' => ?_
  obtain ⟨r, n, hrun, hr⟩ := run_widen (P := P) b w
  unfold Oper.wp
  simp [execOp, hx, convert, run_underlying hs, run_underlying hd, hrun]
  exact hK' _ _ (hK r n hr)
theorem wpList_farith_g (op : BinOp) (t : TypeId) (x y : Operand) (z : TypeId) (k : FloatKind) (bx by_ : Nat) (hx : a.eval x = .float k bx) (hy : a.eval y = .float k by_) (hop : isArith op = true)
    (hw : Region.wanted ⟨dst, .binOp op t x y z, ty, pos, af, g⟩ (yielded ops a.tmps) = true)
    (hK : ∀ r n, Fv k (aop op k (av k bx) (av k by_)) r → wpList P ops Q rest (a.put dst (.float k r)) (w.drewN n)) :
    wpList P ops Q (⟨dst, .binOp op t x y z, ty, pos, af, g⟩ :: rest) a w := by
  refine BigFrame.wpList_want hw fun K hK' => ?_
  obtain ⟨r, n, hrun, hr⟩ := run_farith (P := P) op k bx by_ w hop
  have hb : binOp op t (.float k bx) (.float k by_) = Op.floatArith op k bx by_ := by
    cases op <;> simp [isArith] at hop <;> simp [binOp]
  have hg : ∀ w, (eqGuard op t x y (.float k bx) (.float k by_)).run P w = .ok () w := by
    intro w; cases op <;> simp [isArith] at hop <;> simp [eqGuard]
  unfold Oper.wp
  simp [execOp, hx, hy, hb, hg, hrun]
  exact hK' _ _ (hK r n hr)
end
end Go.Proofs.Yticmnkgcolgpaaa.Fl
