/- Lists of bools: the law's helpers. -/
import Derived.Test.YtbjcomjokkhaeaaChecked
import Derived.Test.YtbjcomjokkhaeaaIl
import Derived.LoopTactic
import Derived.Deep.QuietTactic
import Derived.BigQuiet
namespace Go.Proofs.Ytbjcomjokkhaeaa
open Go Go.RowKit
set_option linter.unusedVariables false

def bl (xs : List Bool) : List Value := xs.map Value.bool
theorem bl_len (xs : List Bool) : (bl xs).length = xs.length := by simp [bl]
theorem bl_get (xs : List Bool) (i : Nat) (h : i < xs.length) : (bl xs).getD i undef = .bool (xs[i]?.getD false) := by simp [bl, List.getD, h]
/-- The bmarks: k, k + 1, and so on. -/
def bmarks (k n : Nat) : List Bool := (List.range n).map fun i : Nat => ((k : Int) + (i : Int)) % 3 == 0
theorem bmarks_len (k n : Nat) : (bmarks k n).length = n := by simp [bmarks]

end Go.Proofs.Ytbjcomjokkhaeaa
