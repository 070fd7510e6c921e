/-
  No cell of these rows narrows 'for every input' (looked for: loops, veiled, ifaces, maps, wideKeys, modest, calm, conditions, laid).
  DERIVED. THE GIVEN ROWS OF THIS SEAT. 9 by the template 'for every input the law returns true; each argument reads behind the call as it read before'; 0 by the template 'total and deterministic' (their statements: YtbjcomjokkhaeaaTotals.lean).
  GIVEN WITH THE SEED: the statements are not yours to turn. If you find one false, say at which input.
  Laid BY PROGRAM, IN A SANDBOX (cutbox-rows.mjs): the forced cells as the released guide's own fill.sh prints them over the translation f3a5d1bf2d27456c… (all of the seat's roots in one cut). By AI agents, Wed Nov 11 2026. No macro, syntax, notation, axiom, sorry.
-/
import Derived.Test.YtbjcomjokkhaeaaChecked
import GoSem.Claim
import GoSem.ClaimJoined
import GoSem.ClaimMapViews
import Derived.JoinedTies
import Derived.KernelRfl
namespace Go.Proofs.Ytbjcomjokkhaeaa
/- THE CELL 'sum', in the pinned program and in every row, IS THE sha256 OF THE DUMP (.gsa) THAT YtbjcomjokkhaeaaProg.lean LOADS. Nothing in Lean hashes anything: it is a label: what it is worth is what the hold of that sum in a sandbox is worth. -/
noncomputable def Try.pinned : Pinned := { name := "ytbjcomjokkhaeaa", sum := "f3a5d1bf2d27456c42923d5028e628ac4e7c30bddf5e130c6c78b4d8895a245b", checked := Try.checked }
namespace Rows
def none {H : Type} : Left H := { results := [], args := [] }

/-- 'laws.FnExactRankTail': WHATEVER THE INPUT: true; the input reads as it did. -/
def fnExactRankTailSpec : ChangeSpec := { name := "fnExactRankTail", fn := fun _ => fun
  | [d1, d2] => { results := [.lit (.bool true)], args := [d1, d2] }
  | _ => none }
def fnExactRankTailRow : OpenClaim := { program := "ytbjcomjokkhaeaa", sum := "f3a5d1bf2d27456c42923d5028e628ac4e7c30bddf5e130c6c78b4d8895a245b", func := "loop.example/g01339/laws.FnExactRankTail", spec := "fnExactRankTail", plainKeys := false, apart := false }
def FnExactRankTailSaid : Prop := fnExactRankTailRow.holds Try.pinned (OpenSpec.ofChange fnExactRankTailSpec)

/-- ITS FALSE NEIGHBOUR: 'it returns false'. Refute it at one input. -/
def fnExactRankTailWrong : ChangeSpec := { name := "fnExactRankTail", fn := fun _ => fun
  | [d1, d2] => { results := [.lit (.bool false)], args := [d1, d2] }
  | _ => none }
def FnExactRankTailWrongFalsely : Prop := fnExactRankTailRow.holds Try.pinned (OpenSpec.ofChange fnExactRankTailWrong)

/-- 'laws.FnExactSignedTail': WHATEVER THE INPUT: true; the input reads as it did. -/
def fnExactSignedTailSpec : ChangeSpec := { name := "fnExactSignedTail", fn := fun _ => fun
  | [d] => { results := [.lit (.bool true)], args := [d] }
  | _ => none }
def fnExactSignedTailRow : OpenClaim := { program := "ytbjcomjokkhaeaa", sum := "f3a5d1bf2d27456c42923d5028e628ac4e7c30bddf5e130c6c78b4d8895a245b", func := "loop.example/g01339/laws.FnExactSignedTail", spec := "fnExactSignedTail", unfollowed := true, recurses := true, plainKeys := false, apart := false }
def FnExactSignedTailSaid : Prop := fnExactSignedTailRow.holds Try.pinned (OpenSpec.ofChange fnExactSignedTailSpec)

/-- ITS FALSE NEIGHBOUR: 'it returns false'. Refute it at one input. -/
def fnExactSignedTailWrong : ChangeSpec := { name := "fnExactSignedTail", fn := fun _ => fun
  | [d] => { results := [.lit (.bool false)], args := [d] }
  | _ => none }
def FnExactSignedTailWrongFalsely : Prop := fnExactSignedTailRow.holds Try.pinned (OpenSpec.ofChange fnExactSignedTailWrong)

/-- 'laws.FnExactSumTail': WHATEVER THE INPUT: true; the input reads as it did. -/
def fnExactSumTailSpec : ChangeSpec := { name := "fnExactSumTail", fn := fun _ => fun
  | [d1, d2] => { results := [.lit (.bool true)], args := [d1, d2] }
  | _ => none }
def fnExactSumTailRow : OpenClaim := { program := "ytbjcomjokkhaeaa", sum := "f3a5d1bf2d27456c42923d5028e628ac4e7c30bddf5e130c6c78b4d8895a245b", func := "loop.example/g01339/laws.FnExactSumTail", spec := "fnExactSumTail", plainKeys := false, apart := false }
def FnExactSumTailSaid : Prop := fnExactSumTailRow.holds Try.pinned (OpenSpec.ofChange fnExactSumTailSpec)

/-- ITS FALSE NEIGHBOUR: 'it returns false'. Refute it at one input. -/
def fnExactSumTailWrong : ChangeSpec := { name := "fnExactSumTail", fn := fun _ => fun
  | [d1, d2] => { results := [.lit (.bool false)], args := [d1, d2] }
  | _ => none }
def FnExactSumTailWrongFalsely : Prop := fnExactSumTailRow.holds Try.pinned (OpenSpec.ofChange fnExactSumTailWrong)

/-- 'laws.FnExactTablesWith': WHATEVER THE INPUT: true; the input reads as it did. -/
def fnExactTablesWithSpec : ChangeSpec := { name := "fnExactTablesWith", fn := fun _ => fun
  | [d1, d2] => { results := [.lit (.bool true)], args := [d1, d2] }
  | _ => none }
def fnExactTablesWithRow : OpenClaim := { program := "ytbjcomjokkhaeaa", sum := "f3a5d1bf2d27456c42923d5028e628ac4e7c30bddf5e130c6c78b4d8895a245b", func := "loop.example/g01339/laws.FnExactTablesWith", spec := "fnExactTablesWith", unfollowed := true, recurses := true, plainKeys := false, apart := false }
def FnExactTablesWithSaid : Prop := fnExactTablesWithRow.holds Try.pinned (OpenSpec.ofChange fnExactTablesWithSpec)

/-- ITS FALSE NEIGHBOUR: 'it returns false'. Refute it at one input. -/
def fnExactTablesWithWrong : ChangeSpec := { name := "fnExactTablesWith", fn := fun _ => fun
  | [d1, d2] => { results := [.lit (.bool false)], args := [d1, d2] }
  | _ => none }
def FnExactTablesWithWrongFalsely : Prop := fnExactTablesWithRow.holds Try.pinned (OpenSpec.ofChange fnExactTablesWithWrong)

/-- 'laws.FnExactExactTail': WHATEVER THE INPUT: true; the input reads as it did. -/
def fnExactExactTailSpec : ChangeSpec := { name := "fnExactExactTail", fn := fun _ => fun
  | [d] => { results := [.lit (.bool true)], args := [d] }
  | _ => none }
def fnExactExactTailRow : OpenClaim := { program := "ytbjcomjokkhaeaa", sum := "f3a5d1bf2d27456c42923d5028e628ac4e7c30bddf5e130c6c78b4d8895a245b", func := "loop.example/g01339/laws.FnExactExactTail", spec := "fnExactExactTail", unfollowed := true, recurses := true, plainKeys := false, apart := false }
def FnExactExactTailSaid : Prop := fnExactExactTailRow.holds Try.pinned (OpenSpec.ofChange fnExactExactTailSpec)

/-- ITS FALSE NEIGHBOUR: 'it returns false'. Refute it at one input. -/
def fnExactExactTailWrong : ChangeSpec := { name := "fnExactExactTail", fn := fun _ => fun
  | [d] => { results := [.lit (.bool false)], args := [d] }
  | _ => none }
def FnExactExactTailWrongFalsely : Prop := fnExactExactTailRow.holds Try.pinned (OpenSpec.ofChange fnExactExactTailWrong)

/-- 'laws.FnExactCodeOfTree': WHATEVER THE INPUT: true; the input reads as it did. -/
def fnExactCodeOfTreeSpec : ChangeSpec := { name := "fnExactCodeOfTree", fn := fun _ => fun
  | [d1, d2] => { results := [.lit (.bool true)], args := [d1, d2] }
  | _ => none }
def fnExactCodeOfTreeRow : OpenClaim := { program := "ytbjcomjokkhaeaa", sum := "f3a5d1bf2d27456c42923d5028e628ac4e7c30bddf5e130c6c78b4d8895a245b", func := "loop.example/g01339/laws.FnExactCodeOfTree", spec := "fnExactCodeOfTree", unfollowed := true, recurses := true, plainKeys := false, apart := false }
def FnExactCodeOfTreeSaid : Prop := fnExactCodeOfTreeRow.holds Try.pinned (OpenSpec.ofChange fnExactCodeOfTreeSpec)

/-- ITS FALSE NEIGHBOUR: 'it returns false'. Refute it at one input. -/
def fnExactCodeOfTreeWrong : ChangeSpec := { name := "fnExactCodeOfTree", fn := fun _ => fun
  | [d1, d2] => { results := [.lit (.bool false)], args := [d1, d2] }
  | _ => none }
def FnExactCodeOfTreeWrongFalsely : Prop := fnExactCodeOfTreeRow.holds Try.pinned (OpenSpec.ofChange fnExactCodeOfTreeWrong)

/-- 'laws.FnExactTreeOfCode': WHATEVER THE INPUT: true; the input reads as it did. -/
def fnExactTreeOfCodeSpec : ChangeSpec := { name := "fnExactTreeOfCode", fn := fun _ => fun
  | [d] => { results := [.lit (.bool true)], args := [d] }
  | _ => none }
def fnExactTreeOfCodeRow : OpenClaim := { program := "ytbjcomjokkhaeaa", sum := "f3a5d1bf2d27456c42923d5028e628ac4e7c30bddf5e130c6c78b4d8895a245b", func := "loop.example/g01339/laws.FnExactTreeOfCode", spec := "fnExactTreeOfCode", unfollowed := true, recurses := true, plainKeys := false, apart := false }
def FnExactTreeOfCodeSaid : Prop := fnExactTreeOfCodeRow.holds Try.pinned (OpenSpec.ofChange fnExactTreeOfCodeSpec)

/-- ITS FALSE NEIGHBOUR: 'it returns false'. Refute it at one input. -/
def fnExactTreeOfCodeWrong : ChangeSpec := { name := "fnExactTreeOfCode", fn := fun _ => fun
  | [d] => { results := [.lit (.bool false)], args := [d] }
  | _ => none }
def FnExactTreeOfCodeWrongFalsely : Prop := fnExactTreeOfCodeRow.holds Try.pinned (OpenSpec.ofChange fnExactTreeOfCodeWrong)

/-- 'laws.FnExactCanBeDegrees': WHATEVER THE INPUT: true; the input reads as it did. -/
def fnExactCanBeDegreesSpec : ChangeSpec := { name := "fnExactCanBeDegrees", fn := fun _ => fun
  | [d] => { results := [.lit (.bool true)], args := [d] }
  | _ => none }
def fnExactCanBeDegreesRow : OpenClaim := { program := "ytbjcomjokkhaeaa", sum := "f3a5d1bf2d27456c42923d5028e628ac4e7c30bddf5e130c6c78b4d8895a245b", func := "loop.example/g01339/laws.FnExactCanBeDegrees", spec := "fnExactCanBeDegrees", unfollowed := true, recurses := true, plainKeys := false, apart := false }
def FnExactCanBeDegreesSaid : Prop := fnExactCanBeDegreesRow.holds Try.pinned (OpenSpec.ofChange fnExactCanBeDegreesSpec)

/-- ITS FALSE NEIGHBOUR: 'it returns false'. Refute it at one input. -/
def fnExactCanBeDegreesWrong : ChangeSpec := { name := "fnExactCanBeDegrees", fn := fun _ => fun
  | [d] => { results := [.lit (.bool false)], args := [d] }
  | _ => none }
def FnExactCanBeDegreesWrongFalsely : Prop := fnExactCanBeDegreesRow.holds Try.pinned (OpenSpec.ofChange fnExactCanBeDegreesWrong)

/-- 'laws.FnExactGraphOfDegrees': WHATEVER THE INPUT: true; the input reads as it did. -/
def fnExactGraphOfDegreesSpec : ChangeSpec := { name := "fnExactGraphOfDegrees", fn := fun _ => fun
  | [d] => { results := [.lit (.bool true)], args := [d] }
  | _ => none }
def fnExactGraphOfDegreesRow : OpenClaim := { program := "ytbjcomjokkhaeaa", sum := "f3a5d1bf2d27456c42923d5028e628ac4e7c30bddf5e130c6c78b4d8895a245b", func := "loop.example/g01339/laws.FnExactGraphOfDegrees", spec := "fnExactGraphOfDegrees", unfollowed := true, recurses := true, plainKeys := false, apart := false }
def FnExactGraphOfDegreesSaid : Prop := fnExactGraphOfDegreesRow.holds Try.pinned (OpenSpec.ofChange fnExactGraphOfDegreesSpec)

/-- ITS FALSE NEIGHBOUR: 'it returns false'. Refute it at one input. -/
def fnExactGraphOfDegreesWrong : ChangeSpec := { name := "fnExactGraphOfDegrees", fn := fun _ => fun
  | [d] => { results := [.lit (.bool false)], args := [d] }
  | _ => none }
def FnExactGraphOfDegreesWrongFalsely : Prop := fnExactGraphOfDegreesRow.holds Try.pinned (OpenSpec.ofChange fnExactGraphOfDegreesWrong)

/- THE SECOND FORM. 'bulk': how many values and letters a reading holds, each counted each time it is reached (what is shared counts as often as it is met; a slice's spare places count too). A statement '..UptoSaid' is the law's where the arguments, and the package variables that the reading takes, are together of bulk at most 1048576: NARROWER than '..Said'. Prove '..Said' where nothing that the law and all that it calls make is longer than what came in: it says more and counts as full. Else prove '..UptoSaid'. A law counts once. -/
mutual
def uptoBulk {H : Type} : DataW H → Nat
  | .lit (.string bytes) => bytes.length + 1
  | .lit _ => 1
  | .nil => 1
  | .ptr d => uptoBulk d + 1
  | .slice elems spare => uptoBulkAll elems + uptoBulkAll spare + 1
  | .agg parts => uptoBulkAll parts + 1
  | .iface _ d => uptoBulk d + 1
  | .map entries => uptoBulkEntries entries + 1
  | .held _ => 1
def uptoBulkAll {H : Type} : List (DataW H) → Nat
  | [] => 0
  | d :: r => uptoBulk d + uptoBulkAll r
def uptoBulkEntries {H : Type} : List (Lit × DataW H) → Nat
  | [] => 0
  | x :: r => uptoBulkEntry x + uptoBulkEntries r
def uptoBulkEntry {H : Type} : Lit × DataW H → Nat
  | (.string bytes, d) => bytes.length + uptoBulk d + 1
  | (_, d) => uptoBulk d + 1
 end
def uptoSmall : (H : Type) → List (DataW H) → Bool := fun _ ds => decide (uptoBulkAll ds ≤ 1048576)
def OpenSpec.upto (s : _root_.Go.ChangeSpec) : _root_.Go.OpenSpec := { _root_.Go.OpenSpec.ofChange s with cond := some uptoSmall }

/-- 'laws.FnExactRankTail', WHERE WHAT IT READS IS OF BULK AT MOST 1048576: true; the input reads as it did. -/
def fnExactRankTailUptoRow : OpenClaim := { program := "ytbjcomjokkhaeaa", sum := "f3a5d1bf2d27456c42923d5028e628ac4e7c30bddf5e130c6c78b4d8895a245b", func := "loop.example/g01339/laws.FnExactRankTail", spec := "fnExactRankTail", plainKeys := false, apart := false, narrowed := true }
def FnExactRankTailUptoSaid : Prop := fnExactRankTailUptoRow.holds Try.pinned (OpenSpec.upto fnExactRankTailSpec)

/-- 'laws.FnExactSignedTail', WHERE WHAT IT READS IS OF BULK AT MOST 1048576: true; the input reads as it did. -/
def fnExactSignedTailUptoRow : OpenClaim := { program := "ytbjcomjokkhaeaa", sum := "f3a5d1bf2d27456c42923d5028e628ac4e7c30bddf5e130c6c78b4d8895a245b", func := "loop.example/g01339/laws.FnExactSignedTail", spec := "fnExactSignedTail", unfollowed := true, recurses := true, plainKeys := false, apart := false, narrowed := true }
def FnExactSignedTailUptoSaid : Prop := fnExactSignedTailUptoRow.holds Try.pinned (OpenSpec.upto fnExactSignedTailSpec)

/-- 'laws.FnExactSumTail', WHERE WHAT IT READS IS OF BULK AT MOST 1048576: true; the input reads as it did. -/
def fnExactSumTailUptoRow : OpenClaim := { program := "ytbjcomjokkhaeaa", sum := "f3a5d1bf2d27456c42923d5028e628ac4e7c30bddf5e130c6c78b4d8895a245b", func := "loop.example/g01339/laws.FnExactSumTail", spec := "fnExactSumTail", plainKeys := false, apart := false, narrowed := true }
def FnExactSumTailUptoSaid : Prop := fnExactSumTailUptoRow.holds Try.pinned (OpenSpec.upto fnExactSumTailSpec)

/-- 'laws.FnExactTablesWith', WHERE WHAT IT READS IS OF BULK AT MOST 1048576: true; the input reads as it did. -/
def fnExactTablesWithUptoRow : OpenClaim := { program := "ytbjcomjokkhaeaa", sum := "f3a5d1bf2d27456c42923d5028e628ac4e7c30bddf5e130c6c78b4d8895a245b", func := "loop.example/g01339/laws.FnExactTablesWith", spec := "fnExactTablesWith", unfollowed := true, recurses := true, plainKeys := false, apart := false, narrowed := true }
def FnExactTablesWithUptoSaid : Prop := fnExactTablesWithUptoRow.holds Try.pinned (OpenSpec.upto fnExactTablesWithSpec)

/-- 'laws.FnExactExactTail', WHERE WHAT IT READS IS OF BULK AT MOST 1048576: true; the input reads as it did. -/
def fnExactExactTailUptoRow : OpenClaim := { program := "ytbjcomjokkhaeaa", sum := "f3a5d1bf2d27456c42923d5028e628ac4e7c30bddf5e130c6c78b4d8895a245b", func := "loop.example/g01339/laws.FnExactExactTail", spec := "fnExactExactTail", unfollowed := true, recurses := true, plainKeys := false, apart := false, narrowed := true }
def FnExactExactTailUptoSaid : Prop := fnExactExactTailUptoRow.holds Try.pinned (OpenSpec.upto fnExactExactTailSpec)

/-- 'laws.FnExactCodeOfTree', WHERE WHAT IT READS IS OF BULK AT MOST 1048576: true; the input reads as it did. -/
def fnExactCodeOfTreeUptoRow : OpenClaim := { program := "ytbjcomjokkhaeaa", sum := "f3a5d1bf2d27456c42923d5028e628ac4e7c30bddf5e130c6c78b4d8895a245b", func := "loop.example/g01339/laws.FnExactCodeOfTree", spec := "fnExactCodeOfTree", unfollowed := true, recurses := true, plainKeys := false, apart := false, narrowed := true }
def FnExactCodeOfTreeUptoSaid : Prop := fnExactCodeOfTreeUptoRow.holds Try.pinned (OpenSpec.upto fnExactCodeOfTreeSpec)

/-- 'laws.FnExactTreeOfCode', WHERE WHAT IT READS IS OF BULK AT MOST 1048576: true; the input reads as it did. -/
def fnExactTreeOfCodeUptoRow : OpenClaim := { program := "ytbjcomjokkhaeaa", sum := "f3a5d1bf2d27456c42923d5028e628ac4e7c30bddf5e130c6c78b4d8895a245b", func := "loop.example/g01339/laws.FnExactTreeOfCode", spec := "fnExactTreeOfCode", unfollowed := true, recurses := true, plainKeys := false, apart := false, narrowed := true }
def FnExactTreeOfCodeUptoSaid : Prop := fnExactTreeOfCodeUptoRow.holds Try.pinned (OpenSpec.upto fnExactTreeOfCodeSpec)

/-- 'laws.FnExactCanBeDegrees', WHERE WHAT IT READS IS OF BULK AT MOST 1048576: true; the input reads as it did. -/
def fnExactCanBeDegreesUptoRow : OpenClaim := { program := "ytbjcomjokkhaeaa", sum := "f3a5d1bf2d27456c42923d5028e628ac4e7c30bddf5e130c6c78b4d8895a245b", func := "loop.example/g01339/laws.FnExactCanBeDegrees", spec := "fnExactCanBeDegrees", unfollowed := true, recurses := true, plainKeys := false, apart := false, narrowed := true }
def FnExactCanBeDegreesUptoSaid : Prop := fnExactCanBeDegreesUptoRow.holds Try.pinned (OpenSpec.upto fnExactCanBeDegreesSpec)

/-- 'laws.FnExactGraphOfDegrees', WHERE WHAT IT READS IS OF BULK AT MOST 1048576: true; the input reads as it did. -/
def fnExactGraphOfDegreesUptoRow : OpenClaim := { program := "ytbjcomjokkhaeaa", sum := "f3a5d1bf2d27456c42923d5028e628ac4e7c30bddf5e130c6c78b4d8895a245b", func := "loop.example/g01339/laws.FnExactGraphOfDegrees", spec := "fnExactGraphOfDegrees", unfollowed := true, recurses := true, plainKeys := false, apart := false, narrowed := true }
def FnExactGraphOfDegreesUptoSaid : Prop := fnExactGraphOfDegreesUptoRow.holds Try.pinned (OpenSpec.upto fnExactGraphOfDegreesSpec)

end Rows
end Go.Proofs.Ytbjcomjokkhaeaa
