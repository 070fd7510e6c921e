/- Lists of int64: the law's helpers. -/
import Derived.Test.YtfbllggnndodoaaChecked
import Derived.Test.YtfbllggnndodoaaMm
import Derived.LoopTactic
import Derived.Deep.QuietTactic
import Derived.BigQuiet
namespace Go.Proofs.Ytfbllggnndodoaa
open Go Go.RowKit
set_option linter.unusedVariables false

def il (xs : List Int) : List Value := xs.map (Value.int .i64)
theorem il_len (xs : List Int) : (il xs).length = xs.length := by simp [il]
theorem il_get (xs : List Int) (i : Nat) (h : i < xs.length) : (il xs).getD i undef = .int .i64 (xs[i]?.getD 0) := by simp [il, List.getD, h]
theorem quiet_same' {P : Program} {f : FuncId} {args : Array Value} {w : World} {n : Nat} {v : Value}
    (h : Calls P f args (w.drewN n) fun e w' => e = .returned v ∧ w.drewN n = w') : Calls P f args (w.drewN n) fun e w'' => e = .returned v ∧ ∃ m, w'' = w.drewN m :=
  h.mono fun _ _ ⟨he, hm⟩ => ⟨he, n, hm.symm⟩
/-- It returns v, and has drawn at most. -/
def RetD (v : Value) (w : World) (e : Ending) (w' : World) : Prop := ∃ n, e = .returned v ∧ w' = w.drewN n

/-- The marks: k, k + 1, and so on. -/
def marks (k n : Nat) : List Int := (List.range n).map fun i => ((k + i : Nat) : Int)
theorem marks_len (k n : Nat) : (marks k n).length = n := by simp [marks]

end Go.Proofs.Ytfbllggnndodoaa
