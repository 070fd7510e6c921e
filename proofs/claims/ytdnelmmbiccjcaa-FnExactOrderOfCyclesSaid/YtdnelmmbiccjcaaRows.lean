/-
  No cell of these rows narrows 'for every input' (looked for: loops, veiled, ifaces, maps, wideKeys, modest, calm, conditions, laid).
  DERIVED. THE GIVEN ROWS OF THIS SEAT. 12 by the template 'for every input the law returns true; each argument reads behind the call as it read before'; 0 by the template 'total and deterministic' (their statements: YtdnelmmbiccjcaaTotals.lean).
  GIVEN WITH THE SEED: the statements are not yours to turn. If you find one false, say at which input.
  Laid BY PROGRAM, IN A SANDBOX (cutbox-rows.mjs): the forced cells as the released guide's own fill.sh prints them over the translation c73b84da1b3b04b0… (all of the seat's roots in one cut). By AI agents, Wed Nov 11 2026. No macro, syntax, notation, axiom, sorry.
-/
import Derived.Test.YtdnelmmbiccjcaaChecked
import GoSem.Claim
import GoSem.ClaimJoined
import GoSem.ClaimMapViews
import Derived.JoinedTies
import Derived.KernelRfl
namespace Go.Proofs.Ytdnelmmbiccjcaa
/- THE CELL 'sum', in the pinned program and in every row, IS THE sha256 OF THE DUMP (.gsa) THAT YtdnelmmbiccjcaaProg.lean LOADS. Nothing in Lean hashes anything: it is a label: what it is worth is what the hold of that sum in a sandbox is worth. -/
noncomputable def Try.pinned : Pinned := { name := "ytdnelmmbiccjcaa", sum := "c73b84da1b3b04b07ae55a2f4559ea7a650a8a3790272d38a457ece8e120d4d5", checked := Try.checked }
namespace Rows
def none {H : Type} : Left H := { results := [], args := [] }

/-- 'laws.FnExactStreamWords': WHATEVER THE INPUT: true; the input reads as it did. -/
def fnExactStreamWordsSpec : ChangeSpec := { name := "fnExactStreamWords", fn := fun _ => fun
  | [d1, d2, d3] => { results := [.lit (.bool true)], args := [d1, d2, d3] }
  | _ => none }
def fnExactStreamWordsRow : OpenClaim := { program := "ytdnelmmbiccjcaa", sum := "c73b84da1b3b04b07ae55a2f4559ea7a650a8a3790272d38a457ece8e120d4d5", func := "loop.example/g01339/laws.FnExactStreamWords", spec := "fnExactStreamWords", plainKeys := false, apart := false }
def FnExactStreamWordsSaid : Prop := fnExactStreamWordsRow.holds Try.pinned (OpenSpec.ofChange fnExactStreamWordsSpec)

/-- ITS FALSE NEIGHBOUR: 'it returns false'. Refute it at one input. -/
def fnExactStreamWordsWrong : ChangeSpec := { name := "fnExactStreamWords", fn := fun _ => fun
  | [d1, d2, d3] => { results := [.lit (.bool false)], args := [d1, d2, d3] }
  | _ => none }
def FnExactStreamWordsWrongFalsely : Prop := fnExactStreamWordsRow.holds Try.pinned (OpenSpec.ofChange fnExactStreamWordsWrong)

/-- 'laws.FnExactOrderOfCycles': WHATEVER THE INPUT: true; the input reads as it did. -/
def fnExactOrderOfCyclesSpec : ChangeSpec := { name := "fnExactOrderOfCycles", fn := fun _ => fun
  | [d1, d2] => { results := [.lit (.bool true)], args := [d1, d2] }
  | _ => none }
def fnExactOrderOfCyclesRow : OpenClaim := { program := "ytdnelmmbiccjcaa", sum := "c73b84da1b3b04b07ae55a2f4559ea7a650a8a3790272d38a457ece8e120d4d5", func := "loop.example/g01339/laws.FnExactOrderOfCycles", spec := "fnExactOrderOfCycles", plainKeys := false, apart := false }
def FnExactOrderOfCyclesSaid : Prop := fnExactOrderOfCyclesRow.holds Try.pinned (OpenSpec.ofChange fnExactOrderOfCyclesSpec)

/-- ITS FALSE NEIGHBOUR: 'it returns false'. Refute it at one input. -/
def fnExactOrderOfCyclesWrong : ChangeSpec := { name := "fnExactOrderOfCycles", fn := fun _ => fun
  | [d1, d2] => { results := [.lit (.bool false)], args := [d1, d2] }
  | _ => none }
def FnExactOrderOfCyclesWrongFalsely : Prop := fnExactOrderOfCyclesRow.holds Try.pinned (OpenSpec.ofChange fnExactOrderOfCyclesWrong)

/-- 'laws.FnExactTreeOfCode': WHATEVER THE INPUT: true; the input reads as it did. -/
def fnExactTreeOfCodeSpec : ChangeSpec := { name := "fnExactTreeOfCode", fn := fun _ => fun
  | [d] => { results := [.lit (.bool true)], args := [d] }
  | _ => none }
def fnExactTreeOfCodeRow : OpenClaim := { program := "ytdnelmmbiccjcaa", sum := "c73b84da1b3b04b07ae55a2f4559ea7a650a8a3790272d38a457ece8e120d4d5", func := "loop.example/g01339/laws.FnExactTreeOfCode", spec := "fnExactTreeOfCode", unfollowed := true, recurses := true, plainKeys := false, apart := false }
def FnExactTreeOfCodeSaid : Prop := fnExactTreeOfCodeRow.holds Try.pinned (OpenSpec.ofChange fnExactTreeOfCodeSpec)

/-- ITS FALSE NEIGHBOUR: 'it returns false'. Refute it at one input. -/
def fnExactTreeOfCodeWrong : ChangeSpec := { name := "fnExactTreeOfCode", fn := fun _ => fun
  | [d] => { results := [.lit (.bool false)], args := [d] }
  | _ => none }
def FnExactTreeOfCodeWrongFalsely : Prop := fnExactTreeOfCodeRow.holds Try.pinned (OpenSpec.ofChange fnExactTreeOfCodeWrong)

/-- 'laws.FnExactCodeOfTree': WHATEVER THE INPUT: true; the input reads as it did. -/
def fnExactCodeOfTreeSpec : ChangeSpec := { name := "fnExactCodeOfTree", fn := fun _ => fun
  | [d1, d2] => { results := [.lit (.bool true)], args := [d1, d2] }
  | _ => none }
def fnExactCodeOfTreeRow : OpenClaim := { program := "ytdnelmmbiccjcaa", sum := "c73b84da1b3b04b07ae55a2f4559ea7a650a8a3790272d38a457ece8e120d4d5", func := "loop.example/g01339/laws.FnExactCodeOfTree", spec := "fnExactCodeOfTree", unfollowed := true, recurses := true, plainKeys := false, apart := false }
def FnExactCodeOfTreeSaid : Prop := fnExactCodeOfTreeRow.holds Try.pinned (OpenSpec.ofChange fnExactCodeOfTreeSpec)

/-- ITS FALSE NEIGHBOUR: 'it returns false'. Refute it at one input. -/
def fnExactCodeOfTreeWrong : ChangeSpec := { name := "fnExactCodeOfTree", fn := fun _ => fun
  | [d1, d2] => { results := [.lit (.bool false)], args := [d1, d2] }
  | _ => none }
def FnExactCodeOfTreeWrongFalsely : Prop := fnExactCodeOfTreeRow.holds Try.pinned (OpenSpec.ofChange fnExactCodeOfTreeWrong)

/-- 'laws.FnExactCanBeDegrees': WHATEVER THE INPUT: true; the input reads as it did. -/
def fnExactCanBeDegreesSpec : ChangeSpec := { name := "fnExactCanBeDegrees", fn := fun _ => fun
  | [d] => { results := [.lit (.bool true)], args := [d] }
  | _ => none }
def fnExactCanBeDegreesRow : OpenClaim := { program := "ytdnelmmbiccjcaa", sum := "c73b84da1b3b04b07ae55a2f4559ea7a650a8a3790272d38a457ece8e120d4d5", func := "loop.example/g01339/laws.FnExactCanBeDegrees", spec := "fnExactCanBeDegrees", unfollowed := true, recurses := true, plainKeys := false, apart := false }
def FnExactCanBeDegreesSaid : Prop := fnExactCanBeDegreesRow.holds Try.pinned (OpenSpec.ofChange fnExactCanBeDegreesSpec)

/-- ITS FALSE NEIGHBOUR: 'it returns false'. Refute it at one input. -/
def fnExactCanBeDegreesWrong : ChangeSpec := { name := "fnExactCanBeDegrees", fn := fun _ => fun
  | [d] => { results := [.lit (.bool false)], args := [d] }
  | _ => none }
def FnExactCanBeDegreesWrongFalsely : Prop := fnExactCanBeDegreesRow.holds Try.pinned (OpenSpec.ofChange fnExactCanBeDegreesWrong)

/-- 'laws.FnExactGraphOfDegrees': WHATEVER THE INPUT: true; the input reads as it did. -/
def fnExactGraphOfDegreesSpec : ChangeSpec := { name := "fnExactGraphOfDegrees", fn := fun _ => fun
  | [d] => { results := [.lit (.bool true)], args := [d] }
  | _ => none }
def fnExactGraphOfDegreesRow : OpenClaim := { program := "ytdnelmmbiccjcaa", sum := "c73b84da1b3b04b07ae55a2f4559ea7a650a8a3790272d38a457ece8e120d4d5", func := "loop.example/g01339/laws.FnExactGraphOfDegrees", spec := "fnExactGraphOfDegrees", unfollowed := true, recurses := true, plainKeys := false, apart := false }
def FnExactGraphOfDegreesSaid : Prop := fnExactGraphOfDegreesRow.holds Try.pinned (OpenSpec.ofChange fnExactGraphOfDegreesSpec)

/-- ITS FALSE NEIGHBOUR: 'it returns false'. Refute it at one input. -/
def fnExactGraphOfDegreesWrong : ChangeSpec := { name := "fnExactGraphOfDegrees", fn := fun _ => fun
  | [d] => { results := [.lit (.bool false)], args := [d] }
  | _ => none }
def FnExactGraphOfDegreesWrongFalsely : Prop := fnExactGraphOfDegreesRow.holds Try.pinned (OpenSpec.ofChange fnExactGraphOfDegreesWrong)

/-- 'laws.FnExactSpreadPoints': WHATEVER THE INPUT: true; the input reads as it did. -/
def fnExactSpreadPointsSpec : ChangeSpec := { name := "fnExactSpreadPoints", fn := fun _ => fun
  | [d1, d2] => { results := [.lit (.bool true)], args := [d1, d2] }
  | _ => none }
def fnExactSpreadPointsRow : OpenClaim := { program := "ytdnelmmbiccjcaa", sum := "c73b84da1b3b04b07ae55a2f4559ea7a650a8a3790272d38a457ece8e120d4d5", func := "loop.example/g01339/laws.FnExactSpreadPoints", spec := "fnExactSpreadPoints", plainKeys := false, apart := false }
def FnExactSpreadPointsSaid : Prop := fnExactSpreadPointsRow.holds Try.pinned (OpenSpec.ofChange fnExactSpreadPointsSpec)

/-- ITS FALSE NEIGHBOUR: 'it returns false'. Refute it at one input. -/
def fnExactSpreadPointsWrong : ChangeSpec := { name := "fnExactSpreadPoints", fn := fun _ => fun
  | [d1, d2] => { results := [.lit (.bool false)], args := [d1, d2] }
  | _ => none }
def FnExactSpreadPointsWrongFalsely : Prop := fnExactSpreadPointsRow.holds Try.pinned (OpenSpec.ofChange fnExactSpreadPointsWrong)

/-- 'laws.FnExactGapOfPoints': WHATEVER THE INPUT: true; the input reads as it did. -/
def fnExactGapOfPointsSpec : ChangeSpec := { name := "fnExactGapOfPoints", fn := fun _ => fun
  | [d] => { results := [.lit (.bool true)], args := [d] }
  | _ => none }
def fnExactGapOfPointsRow : OpenClaim := { program := "ytdnelmmbiccjcaa", sum := "c73b84da1b3b04b07ae55a2f4559ea7a650a8a3790272d38a457ece8e120d4d5", func := "loop.example/g01339/laws.FnExactGapOfPoints", spec := "fnExactGapOfPoints", unfollowed := true, recurses := true, plainKeys := false, apart := false }
def FnExactGapOfPointsSaid : Prop := fnExactGapOfPointsRow.holds Try.pinned (OpenSpec.ofChange fnExactGapOfPointsSpec)

/-- ITS FALSE NEIGHBOUR: 'it returns false'. Refute it at one input. -/
def fnExactGapOfPointsWrong : ChangeSpec := { name := "fnExactGapOfPoints", fn := fun _ => fun
  | [d] => { results := [.lit (.bool false)], args := [d] }
  | _ => none }
def FnExactGapOfPointsWrongFalsely : Prop := fnExactGapOfPointsRow.holds Try.pinned (OpenSpec.ofChange fnExactGapOfPointsWrong)

/-- 'laws.FnExactSimplexPoint': WHATEVER THE INPUT: true; the input reads as it did. -/
def fnExactSimplexPointSpec : ChangeSpec := { name := "fnExactSimplexPoint", fn := fun _ => fun
  | [d1, d2] => { results := [.lit (.bool true)], args := [d1, d2] }
  | _ => none }
def fnExactSimplexPointRow : OpenClaim := { program := "ytdnelmmbiccjcaa", sum := "c73b84da1b3b04b07ae55a2f4559ea7a650a8a3790272d38a457ece8e120d4d5", func := "loop.example/g01339/laws.FnExactSimplexPoint", spec := "fnExactSimplexPoint", recurses := true, plainKeys := false, apart := false }
def FnExactSimplexPointSaid : Prop := fnExactSimplexPointRow.holds Try.pinned (OpenSpec.ofChange fnExactSimplexPointSpec)

/-- ITS FALSE NEIGHBOUR: 'it returns false'. Refute it at one input. -/
def fnExactSimplexPointWrong : ChangeSpec := { name := "fnExactSimplexPoint", fn := fun _ => fun
  | [d1, d2] => { results := [.lit (.bool false)], args := [d1, d2] }
  | _ => none }
def FnExactSimplexPointWrongFalsely : Prop := fnExactSimplexPointRow.holds Try.pinned (OpenSpec.ofChange fnExactSimplexPointWrong)

/-- 'laws.FnExactCirclePoint': WHATEVER THE INPUT: true; the input reads as it did. -/
def fnExactCirclePointSpec : ChangeSpec := { name := "fnExactCirclePoint", fn := fun _ => fun
  | [d] => { results := [.lit (.bool true)], args := [d] }
  | _ => none }
def fnExactCirclePointRow : OpenClaim := { program := "ytdnelmmbiccjcaa", sum := "c73b84da1b3b04b07ae55a2f4559ea7a650a8a3790272d38a457ece8e120d4d5", func := "loop.example/g01339/laws.FnExactCirclePoint", spec := "fnExactCirclePoint", inPlace := ["math.Float32frombits", "math.Float64frombits", "math.Float64bits"], plainKeys := false, apart := false }
def FnExactCirclePointSaid : Prop := fnExactCirclePointRow.holds Try.pinned (OpenSpec.ofChange fnExactCirclePointSpec)

/-- ITS FALSE NEIGHBOUR: 'it returns false'. Refute it at one input. -/
def fnExactCirclePointWrong : ChangeSpec := { name := "fnExactCirclePoint", fn := fun _ => fun
  | [d] => { results := [.lit (.bool false)], args := [d] }
  | _ => none }
def FnExactCirclePointWrongFalsely : Prop := fnExactCirclePointRow.holds Try.pinned (OpenSpec.ofChange fnExactCirclePointWrong)

/-- 'laws.FnExactDiscPoint': WHATEVER THE INPUT: true; the input reads as it did. -/
def fnExactDiscPointSpec : ChangeSpec := { name := "fnExactDiscPoint", fn := fun _ => fun
  | [d] => { results := [.lit (.bool true)], args := [d] }
  | _ => none }
def fnExactDiscPointRow : OpenClaim := { program := "ytdnelmmbiccjcaa", sum := "c73b84da1b3b04b07ae55a2f4559ea7a650a8a3790272d38a457ece8e120d4d5", func := "loop.example/g01339/laws.FnExactDiscPoint", spec := "fnExactDiscPoint", unfollowed := true, recurses := true, plainKeys := false, apart := false }
def FnExactDiscPointSaid : Prop := fnExactDiscPointRow.holds Try.pinned (OpenSpec.ofChange fnExactDiscPointSpec)

/-- ITS FALSE NEIGHBOUR: 'it returns false'. Refute it at one input. -/
def fnExactDiscPointWrong : ChangeSpec := { name := "fnExactDiscPoint", fn := fun _ => fun
  | [d] => { results := [.lit (.bool false)], args := [d] }
  | _ => none }
def FnExactDiscPointWrongFalsely : Prop := fnExactDiscPointRow.holds Try.pinned (OpenSpec.ofChange fnExactDiscPointWrong)

/-- 'laws.FnExactBallPoint': WHATEVER THE INPUT: true; the input reads as it did. -/
def fnExactBallPointSpec : ChangeSpec := { name := "fnExactBallPoint", fn := fun _ => fun
  | [d] => { results := [.lit (.bool true)], args := [d] }
  | _ => none }
def fnExactBallPointRow : OpenClaim := { program := "ytdnelmmbiccjcaa", sum := "c73b84da1b3b04b07ae55a2f4559ea7a650a8a3790272d38a457ece8e120d4d5", func := "loop.example/g01339/laws.FnExactBallPoint", spec := "fnExactBallPoint", inPlace := ["math.sqrt"], unfollowed := true, recurses := true, plainKeys := false, apart := false }
def FnExactBallPointSaid : Prop := fnExactBallPointRow.holds Try.pinned (OpenSpec.ofChange fnExactBallPointSpec)

/-- ITS FALSE NEIGHBOUR: 'it returns false'. Refute it at one input. -/
def fnExactBallPointWrong : ChangeSpec := { name := "fnExactBallPoint", fn := fun _ => fun
  | [d] => { results := [.lit (.bool false)], args := [d] }
  | _ => none }
def FnExactBallPointWrongFalsely : Prop := fnExactBallPointRow.holds Try.pinned (OpenSpec.ofChange fnExactBallPointWrong)

/- THE SECOND FORM. 'bulk': how many values and letters a reading holds, each counted each time it is reached (what is shared counts as often as it is met; a slice's spare places count too). A statement '..UptoSaid' is the law's where the arguments, and the package variables that the reading takes, are together of bulk at most 1048576: NARROWER than '..Said'. Prove '..Said' where nothing that the law and all that it calls make is longer than what came in: it says more and counts as full. Else prove '..UptoSaid'. A law counts once. -/
mutual
def uptoBulk {H : Type} : DataW H → Nat
  | .lit (.string bytes) => bytes.length + 1
  | .lit _ => 1
  | .nil => 1
  | .ptr d => uptoBulk d + 1
  | .slice elems spare => uptoBulkAll elems + uptoBulkAll spare + 1
  | .agg parts => uptoBulkAll parts + 1
  | .iface _ d => uptoBulk d + 1
  | .map entries => uptoBulkEntries entries + 1
  | .held _ => 1
def uptoBulkAll {H : Type} : List (DataW H) → Nat
  | [] => 0
  | d :: r => uptoBulk d + uptoBulkAll r
def uptoBulkEntries {H : Type} : List (Lit × DataW H) → Nat
  | [] => 0
  | x :: r => uptoBulkEntry x + uptoBulkEntries r
def uptoBulkEntry {H : Type} : Lit × DataW H → Nat
  | (.string bytes, d) => bytes.length + uptoBulk d + 1
  | (_, d) => uptoBulk d + 1
 end
def uptoSmall : (H : Type) → List (DataW H) → Bool := fun _ ds => decide (uptoBulkAll ds ≤ 1048576)
def OpenSpec.upto (s : _root_.Go.ChangeSpec) : _root_.Go.OpenSpec := { _root_.Go.OpenSpec.ofChange s with cond := some uptoSmall }

/-- 'laws.FnExactStreamWords', WHERE WHAT IT READS IS OF BULK AT MOST 1048576: true; the input reads as it did. -/
def fnExactStreamWordsUptoRow : OpenClaim := { program := "ytdnelmmbiccjcaa", sum := "c73b84da1b3b04b07ae55a2f4559ea7a650a8a3790272d38a457ece8e120d4d5", func := "loop.example/g01339/laws.FnExactStreamWords", spec := "fnExactStreamWords", plainKeys := false, apart := false, narrowed := true }
def FnExactStreamWordsUptoSaid : Prop := fnExactStreamWordsUptoRow.holds Try.pinned (OpenSpec.upto fnExactStreamWordsSpec)

/-- 'laws.FnExactOrderOfCycles', WHERE WHAT IT READS IS OF BULK AT MOST 1048576: true; the input reads as it did. -/
def fnExactOrderOfCyclesUptoRow : OpenClaim := { program := "ytdnelmmbiccjcaa", sum := "c73b84da1b3b04b07ae55a2f4559ea7a650a8a3790272d38a457ece8e120d4d5", func := "loop.example/g01339/laws.FnExactOrderOfCycles", spec := "fnExactOrderOfCycles", plainKeys := false, apart := false, narrowed := true }
def FnExactOrderOfCyclesUptoSaid : Prop := fnExactOrderOfCyclesUptoRow.holds Try.pinned (OpenSpec.upto fnExactOrderOfCyclesSpec)

/-- 'laws.FnExactTreeOfCode', WHERE WHAT IT READS IS OF BULK AT MOST 1048576: true; the input reads as it did. -/
def fnExactTreeOfCodeUptoRow : OpenClaim := { program := "ytdnelmmbiccjcaa", sum := "c73b84da1b3b04b07ae55a2f4559ea7a650a8a3790272d38a457ece8e120d4d5", func := "loop.example/g01339/laws.FnExactTreeOfCode", spec := "fnExactTreeOfCode", unfollowed := true, recurses := true, plainKeys := false, apart := false, narrowed := true }
def FnExactTreeOfCodeUptoSaid : Prop := fnExactTreeOfCodeUptoRow.holds Try.pinned (OpenSpec.upto fnExactTreeOfCodeSpec)

/-- 'laws.FnExactCodeOfTree', WHERE WHAT IT READS IS OF BULK AT MOST 1048576: true; the input reads as it did. -/
def fnExactCodeOfTreeUptoRow : OpenClaim := { program := "ytdnelmmbiccjcaa", sum := "c73b84da1b3b04b07ae55a2f4559ea7a650a8a3790272d38a457ece8e120d4d5", func := "loop.example/g01339/laws.FnExactCodeOfTree", spec := "fnExactCodeOfTree", unfollowed := true, recurses := true, plainKeys := false, apart := false, narrowed := true }
def FnExactCodeOfTreeUptoSaid : Prop := fnExactCodeOfTreeUptoRow.holds Try.pinned (OpenSpec.upto fnExactCodeOfTreeSpec)

/-- 'laws.FnExactCanBeDegrees', WHERE WHAT IT READS IS OF BULK AT MOST 1048576: true; the input reads as it did. -/
def fnExactCanBeDegreesUptoRow : OpenClaim := { program := "ytdnelmmbiccjcaa", sum := "c73b84da1b3b04b07ae55a2f4559ea7a650a8a3790272d38a457ece8e120d4d5", func := "loop.example/g01339/laws.FnExactCanBeDegrees", spec := "fnExactCanBeDegrees", unfollowed := true, recurses := true, plainKeys := false, apart := false, narrowed := true }
def FnExactCanBeDegreesUptoSaid : Prop := fnExactCanBeDegreesUptoRow.holds Try.pinned (OpenSpec.upto fnExactCanBeDegreesSpec)

/-- 'laws.FnExactGraphOfDegrees', WHERE WHAT IT READS IS OF BULK AT MOST 1048576: true; the input reads as it did. -/
def fnExactGraphOfDegreesUptoRow : OpenClaim := { program := "ytdnelmmbiccjcaa", sum := "c73b84da1b3b04b07ae55a2f4559ea7a650a8a3790272d38a457ece8e120d4d5", func := "loop.example/g01339/laws.FnExactGraphOfDegrees", spec := "fnExactGraphOfDegrees", unfollowed := true, recurses := true, plainKeys := false, apart := false, narrowed := true }
def FnExactGraphOfDegreesUptoSaid : Prop := fnExactGraphOfDegreesUptoRow.holds Try.pinned (OpenSpec.upto fnExactGraphOfDegreesSpec)

/-- 'laws.FnExactSpreadPoints', WHERE WHAT IT READS IS OF BULK AT MOST 1048576: true; the input reads as it did. -/
def fnExactSpreadPointsUptoRow : OpenClaim := { program := "ytdnelmmbiccjcaa", sum := "c73b84da1b3b04b07ae55a2f4559ea7a650a8a3790272d38a457ece8e120d4d5", func := "loop.example/g01339/laws.FnExactSpreadPoints", spec := "fnExactSpreadPoints", plainKeys := false, apart := false, narrowed := true }
def FnExactSpreadPointsUptoSaid : Prop := fnExactSpreadPointsUptoRow.holds Try.pinned (OpenSpec.upto fnExactSpreadPointsSpec)

/-- 'laws.FnExactGapOfPoints', WHERE WHAT IT READS IS OF BULK AT MOST 1048576: true; the input reads as it did. -/
def fnExactGapOfPointsUptoRow : OpenClaim := { program := "ytdnelmmbiccjcaa", sum := "c73b84da1b3b04b07ae55a2f4559ea7a650a8a3790272d38a457ece8e120d4d5", func := "loop.example/g01339/laws.FnExactGapOfPoints", spec := "fnExactGapOfPoints", unfollowed := true, recurses := true, plainKeys := false, apart := false, narrowed := true }
def FnExactGapOfPointsUptoSaid : Prop := fnExactGapOfPointsUptoRow.holds Try.pinned (OpenSpec.upto fnExactGapOfPointsSpec)

/-- 'laws.FnExactSimplexPoint', WHERE WHAT IT READS IS OF BULK AT MOST 1048576: true; the input reads as it did. -/
def fnExactSimplexPointUptoRow : OpenClaim := { program := "ytdnelmmbiccjcaa", sum := "c73b84da1b3b04b07ae55a2f4559ea7a650a8a3790272d38a457ece8e120d4d5", func := "loop.example/g01339/laws.FnExactSimplexPoint", spec := "fnExactSimplexPoint", recurses := true, plainKeys := false, apart := false, narrowed := true }
def FnExactSimplexPointUptoSaid : Prop := fnExactSimplexPointUptoRow.holds Try.pinned (OpenSpec.upto fnExactSimplexPointSpec)

/-- 'laws.FnExactCirclePoint', WHERE WHAT IT READS IS OF BULK AT MOST 1048576: true; the input reads as it did. -/
def fnExactCirclePointUptoRow : OpenClaim := { program := "ytdnelmmbiccjcaa", sum := "c73b84da1b3b04b07ae55a2f4559ea7a650a8a3790272d38a457ece8e120d4d5", func := "loop.example/g01339/laws.FnExactCirclePoint", spec := "fnExactCirclePoint", inPlace := ["math.Float32frombits", "math.Float64frombits", "math.Float64bits"], plainKeys := false, apart := false, narrowed := true }
def FnExactCirclePointUptoSaid : Prop := fnExactCirclePointUptoRow.holds Try.pinned (OpenSpec.upto fnExactCirclePointSpec)

/-- 'laws.FnExactDiscPoint', WHERE WHAT IT READS IS OF BULK AT MOST 1048576: true; the input reads as it did. -/
def fnExactDiscPointUptoRow : OpenClaim := { program := "ytdnelmmbiccjcaa", sum := "c73b84da1b3b04b07ae55a2f4559ea7a650a8a3790272d38a457ece8e120d4d5", func := "loop.example/g01339/laws.FnExactDiscPoint", spec := "fnExactDiscPoint", unfollowed := true, recurses := true, plainKeys := false, apart := false, narrowed := true }
def FnExactDiscPointUptoSaid : Prop := fnExactDiscPointUptoRow.holds Try.pinned (OpenSpec.upto fnExactDiscPointSpec)

/-- 'laws.FnExactBallPoint', WHERE WHAT IT READS IS OF BULK AT MOST 1048576: true; the input reads as it did. -/
def fnExactBallPointUptoRow : OpenClaim := { program := "ytdnelmmbiccjcaa", sum := "c73b84da1b3b04b07ae55a2f4559ea7a650a8a3790272d38a457ece8e120d4d5", func := "loop.example/g01339/laws.FnExactBallPoint", spec := "fnExactBallPoint", inPlace := ["math.sqrt"], unfollowed := true, recurses := true, plainKeys := false, apart := false, narrowed := true }
def FnExactBallPointUptoSaid : Prop := fnExactBallPointUptoRow.holds Try.pinned (OpenSpec.upto fnExactBallPointSpec)

end Rows
end Go.Proofs.Ytdnelmmbiccjcaa
