/- Products of two lists of float32: what the code and its model return, and the law's walk. -/
import Derived.Test.YtlnhobikejbkkaaLst
namespace Go.Proofs.Ytlnhobikejbkkaa
open Go Go.RowKit Fl Vag

/-- The sum of products, from left to right, beginning with +0, each product rounded. -/
def dotA (k : FloatKind) (xs ys : List Nat) : Option Nat := (xs.zip ys).foldl (fun s p => aop .add k s (aop .mul k (av k p.1) (av k p.2))) (some 0)
theorem dotA_next (k : FloatKind) (xs ys : List Nat) (i : Nat) (h : i < xs.length) (h' : i < ys.length) :
    dotA k (xs.take (i + 1)) (ys.take (i + 1)) = aop .add k (dotA k (xs.take i) (ys.take i)) (aop .mul k (av k (xs[i]?.getD 0)) (av k (ys[i]?.getD 0))) := by
  have e : (xs.take i).length = (ys.take i).length := by simp; omega
  unfold dotA
  rw [take_next xs i h, take_next ys i h', List.zip_append e]
  simp
theorem dot_first (k : FloatKind) (s : Option Nat) (x y p r : Nat) (hp : Fv k (aop .mul k (av k x) (av k y)) p) (hr : Fv k (aop .add k s (av k p)) r) : Fv k (aop .add k s (aop .mul k (av k x) (av k y))) r := by rw [← hp.2]; exact hr

end Go.Proofs.Ytlnhobikejbkkaa
