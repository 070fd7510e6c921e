/- Shares of seeds. -/
import Derived.Test.YtekoahhdbafpmaaSe
import Derived.Test.YtekoahhdbafpmaaSv
import Derived.Test.YtekoahhdbafpmaaFs
import Derived.Test.YtekoahhdbafpmaaSf
import Derived.Test.YtekoahhdbafpmaaGd
import Derived.Laws.FloatArith
namespace Go.Proofs.Ytekoahhdbafpmaa
open Go Go.RowKit Fl
set_option linter.unusedVariables false

/-- The bits of the share that is drawn. -/
def shK (k : Int) (a b : Nat) : Nat := shF (nxW k a b / 256)
theorem shK_lt {k : Int} {a b : Nat} (hk : 0 ≤ k ∧ k ≤ 3) : nxW k a b / 256 < 16777216 := by have := nxW_lt k a b hk; omega
theorem ofInt_nat (x : Nat) : floatOfInt .f32 (x : Int) = Ieee.single.nearest false x 0 := by
  show Ieee.single.write (.number (decide ((x : Int) < 0)) (x : Int).natAbs 0) = _
  rw [decide_eq_false (by omega), Int.natAbs_natCast]; rfl
theorem mul_share (x : Nat) (hx : x < 16777216) : floatBits .mul .f32 (floatOfInt .f32 (x : Int)) 864026624 = some (shF x) := by
  rw [ofInt_nat]; exact share_mul x hx
theorem quo_share (x : Nat) (hx : x < 16777216) : floatBits .quo .f32 (floatOfInt .f32 (x : Int)) 1266679808 = some (shF x) := by
  rw [ofInt_nat]; exact share_div x hx

/-- It returns a number among other results, known but for a not-a-number's bits, and has turned only memory of its own. -/
def RetF (f : Nat → Value) (v : Option Nat) (w : World) (e : Ending) (w' : World) : Prop := ∃ r, e = .returned (f r) ∧ Fv .f32 v r ∧ Below w.heap.size w w'
theorem RetB.toF {P : Program} {F : FuncId} {args : Array Value} {w : World} {f : Nat → Value} {r : Nat} (h : Calls P F args w (RetB (f r) w)) (hr : r < 4294967296) : Calls P F args w (RetF f (av .f32 r) w) :=
  h.mono fun e w' ⟨he, hb⟩ => ⟨r, he, ⟨hr, rfl⟩, hb⟩
theorem shK_w {k : Int} {a b : Nat} (hs : sOk k a b) : shK k a b < 4294967296 := (shF_lt _ (shK_lt hs.kind)).1
end Go.Proofs.Ytekoahhdbafpmaa
