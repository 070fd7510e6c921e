/-
  No cell of these rows narrows 'for every input' (looked for: loops, veiled, ifaces, maps, wideKeys, modest, calm, conditions, laid).
  DERIVED. THE GIVEN ROWS OF THIS SEAT. 11 by the template 'for every input the law returns true; each argument reads behind the call as it read before'; 0 by the template 'total and deterministic' (their statements: YticmnkgcolgpaaaTotals.lean).
  GIVEN WITH THE SEED: the statements are not yours to turn. If you find one false, say at which input.
  Laid BY PROGRAM, IN A SANDBOX (cutbox-rows.mjs): the forced cells as the released guide's own fill.sh prints them over the translation cfd1e0afc5898dd2… (all of the seat's roots in one cut). By AI agents, Wed Nov 11 2026. No macro, syntax, notation, axiom, sorry.
-/
import Derived.Test.YticmnkgcolgpaaaChecked
import GoSem.Claim
import GoSem.ClaimJoined
import GoSem.ClaimMapViews
import Derived.JoinedTies
import Derived.KernelRfl
namespace Go.Proofs.Yticmnkgcolgpaaa
/- THE CELL 'sum', in the pinned program and in every row, IS THE sha256 OF THE DUMP (.gsa) THAT YticmnkgcolgpaaaProg.lean LOADS. Nothing in Lean hashes anything: it is a label: what it is worth is what the hold of that sum in a sandbox is worth. -/
noncomputable def Try.pinned : Pinned := { name := "yticmnkgcolgpaaa", sum := "cfd1e0afc5898dd25d6293ae4d2fb23d17462a7f85a69bf3d206db6d2a949f49", checked := Try.checked }
namespace Rows
def none {H : Type} : Left H := { results := [], args := [] }

/-- 'laws.FnExactPhasorOf': WHATEVER THE INPUT: true; the input reads as it did. -/
def fnExactPhasorOfSpec : ChangeSpec := { name := "fnExactPhasorOf", fn := fun _ => fun
  | [d] => { results := [.lit (.bool true)], args := [d] }
  | _ => none }
def fnExactPhasorOfRow : OpenClaim := { program := "yticmnkgcolgpaaa", sum := "cfd1e0afc5898dd25d6293ae4d2fb23d17462a7f85a69bf3d206db6d2a949f49", func := "loop.example/g01339/laws.FnExactPhasorOf", spec := "fnExactPhasorOf", inPlace := ["math.Float32frombits", "math.Float64frombits", "math.Float64bits"], apart := false }
def FnExactPhasorOfSaid : Prop := fnExactPhasorOfRow.holds Try.pinned (OpenSpec.ofChange fnExactPhasorOfSpec)

/-- ITS FALSE NEIGHBOUR: 'it returns false'. Refute it at one input. -/
def fnExactPhasorOfWrong : ChangeSpec := { name := "fnExactPhasorOf", fn := fun _ => fun
  | [d] => { results := [.lit (.bool false)], args := [d] }
  | _ => none }
def FnExactPhasorOfWrongFalsely : Prop := fnExactPhasorOfRow.holds Try.pinned (OpenSpec.ofChange fnExactPhasorOfWrong)

/-- 'laws.FnExactCirclePoint': WHATEVER THE INPUT: true; the input reads as it did. -/
def fnExactCirclePointSpec : ChangeSpec := { name := "fnExactCirclePoint", fn := fun _ => fun
  | [d] => { results := [.lit (.bool true)], args := [d] }
  | _ => none }
def fnExactCirclePointRow : OpenClaim := { program := "yticmnkgcolgpaaa", sum := "cfd1e0afc5898dd25d6293ae4d2fb23d17462a7f85a69bf3d206db6d2a949f49", func := "loop.example/g01339/laws.FnExactCirclePoint", spec := "fnExactCirclePoint", inPlace := ["math.Float32frombits", "math.Float64frombits", "math.Float64bits"], apart := false }
def FnExactCirclePointSaid : Prop := fnExactCirclePointRow.holds Try.pinned (OpenSpec.ofChange fnExactCirclePointSpec)

/-- ITS FALSE NEIGHBOUR: 'it returns false'. Refute it at one input. -/
def fnExactCirclePointWrong : ChangeSpec := { name := "fnExactCirclePoint", fn := fun _ => fun
  | [d] => { results := [.lit (.bool false)], args := [d] }
  | _ => none }
def FnExactCirclePointWrongFalsely : Prop := fnExactCirclePointRow.holds Try.pinned (OpenSpec.ofChange fnExactCirclePointWrong)

/-- 'laws.FnExactDiscPoint': WHATEVER THE INPUT: true; the input reads as it did. -/
def fnExactDiscPointSpec : ChangeSpec := { name := "fnExactDiscPoint", fn := fun _ => fun
  | [d] => { results := [.lit (.bool true)], args := [d] }
  | _ => none }
def fnExactDiscPointRow : OpenClaim := { program := "yticmnkgcolgpaaa", sum := "cfd1e0afc5898dd25d6293ae4d2fb23d17462a7f85a69bf3d206db6d2a949f49", func := "loop.example/g01339/laws.FnExactDiscPoint", spec := "fnExactDiscPoint", unfollowed := true, recurses := true, apart := false }
def FnExactDiscPointSaid : Prop := fnExactDiscPointRow.holds Try.pinned (OpenSpec.ofChange fnExactDiscPointSpec)

/-- ITS FALSE NEIGHBOUR: 'it returns false'. Refute it at one input. -/
def fnExactDiscPointWrong : ChangeSpec := { name := "fnExactDiscPoint", fn := fun _ => fun
  | [d] => { results := [.lit (.bool false)], args := [d] }
  | _ => none }
def FnExactDiscPointWrongFalsely : Prop := fnExactDiscPointRow.holds Try.pinned (OpenSpec.ofChange fnExactDiscPointWrong)

/-- 'laws.FnExactBallPoint': WHATEVER THE INPUT: true; the input reads as it did. -/
def fnExactBallPointSpec : ChangeSpec := { name := "fnExactBallPoint", fn := fun _ => fun
  | [d] => { results := [.lit (.bool true)], args := [d] }
  | _ => none }
def fnExactBallPointRow : OpenClaim := { program := "yticmnkgcolgpaaa", sum := "cfd1e0afc5898dd25d6293ae4d2fb23d17462a7f85a69bf3d206db6d2a949f49", func := "loop.example/g01339/laws.FnExactBallPoint", spec := "fnExactBallPoint", inPlace := ["math.sqrt"], unfollowed := true, recurses := true, apart := false }
def FnExactBallPointSaid : Prop := fnExactBallPointRow.holds Try.pinned (OpenSpec.ofChange fnExactBallPointSpec)

/-- ITS FALSE NEIGHBOUR: 'it returns false'. Refute it at one input. -/
def fnExactBallPointWrong : ChangeSpec := { name := "fnExactBallPoint", fn := fun _ => fun
  | [d] => { results := [.lit (.bool false)], args := [d] }
  | _ => none }
def FnExactBallPointWrongFalsely : Prop := fnExactBallPointRow.holds Try.pinned (OpenSpec.ofChange fnExactBallPointWrong)

/-- 'laws.FnExactBellPair': WHATEVER THE INPUT: true; the input reads as it did. -/
def fnExactBellPairSpec : ChangeSpec := { name := "fnExactBellPair", fn := fun _ => fun
  | [d] => { results := [.lit (.bool true)], args := [d] }
  | _ => none }
def fnExactBellPairRow : OpenClaim := { program := "yticmnkgcolgpaaa", sum := "cfd1e0afc5898dd25d6293ae4d2fb23d17462a7f85a69bf3d206db6d2a949f49", func := "loop.example/g01339/laws.FnExactBellPair", spec := "fnExactBellPair", inPlace := ["math.Float32frombits", "math.Float64frombits", "math.Float64bits", "math.sqrt"], apart := false }
def FnExactBellPairSaid : Prop := fnExactBellPairRow.holds Try.pinned (OpenSpec.ofChange fnExactBellPairSpec)

/-- ITS FALSE NEIGHBOUR: 'it returns false'. Refute it at one input. -/
def fnExactBellPairWrong : ChangeSpec := { name := "fnExactBellPair", fn := fun _ => fun
  | [d] => { results := [.lit (.bool false)], args := [d] }
  | _ => none }
def FnExactBellPairWrongFalsely : Prop := fnExactBellPairRow.holds Try.pinned (OpenSpec.ofChange fnExactBellPairWrong)

/-- 'laws.FnExactSimplexPoint': WHATEVER THE INPUT: true; the input reads as it did. -/
def fnExactSimplexPointSpec : ChangeSpec := { name := "fnExactSimplexPoint", fn := fun _ => fun
  | [d1, d2] => { results := [.lit (.bool true)], args := [d1, d2] }
  | _ => none }
def fnExactSimplexPointRow : OpenClaim := { program := "yticmnkgcolgpaaa", sum := "cfd1e0afc5898dd25d6293ae4d2fb23d17462a7f85a69bf3d206db6d2a949f49", func := "loop.example/g01339/laws.FnExactSimplexPoint", spec := "fnExactSimplexPoint", recurses := true, apart := false }
def FnExactSimplexPointSaid : Prop := fnExactSimplexPointRow.holds Try.pinned (OpenSpec.ofChange fnExactSimplexPointSpec)

/-- ITS FALSE NEIGHBOUR: 'it returns false'. Refute it at one input. -/
def fnExactSimplexPointWrong : ChangeSpec := { name := "fnExactSimplexPoint", fn := fun _ => fun
  | [d1, d2] => { results := [.lit (.bool false)], args := [d1, d2] }
  | _ => none }
def FnExactSimplexPointWrongFalsely : Prop := fnExactSimplexPointRow.holds Try.pinned (OpenSpec.ofChange fnExactSimplexPointWrong)

/-- 'laws.FnExactSpreadPoints': WHATEVER THE INPUT: true; the input reads as it did. -/
def fnExactSpreadPointsSpec : ChangeSpec := { name := "fnExactSpreadPoints", fn := fun _ => fun
  | [d1, d2] => { results := [.lit (.bool true)], args := [d1, d2] }
  | _ => none }
def fnExactSpreadPointsRow : OpenClaim := { program := "yticmnkgcolgpaaa", sum := "cfd1e0afc5898dd25d6293ae4d2fb23d17462a7f85a69bf3d206db6d2a949f49", func := "loop.example/g01339/laws.FnExactSpreadPoints", spec := "fnExactSpreadPoints", apart := false }
def FnExactSpreadPointsSaid : Prop := fnExactSpreadPointsRow.holds Try.pinned (OpenSpec.ofChange fnExactSpreadPointsSpec)

/-- ITS FALSE NEIGHBOUR: 'it returns false'. Refute it at one input. -/
def fnExactSpreadPointsWrong : ChangeSpec := { name := "fnExactSpreadPoints", fn := fun _ => fun
  | [d1, d2] => { results := [.lit (.bool false)], args := [d1, d2] }
  | _ => none }
def FnExactSpreadPointsWrongFalsely : Prop := fnExactSpreadPointsRow.holds Try.pinned (OpenSpec.ofChange fnExactSpreadPointsWrong)

/-- 'laws.FnExactGapOfPoints': WHATEVER THE INPUT: true; the input reads as it did. -/
def fnExactGapOfPointsSpec : ChangeSpec := { name := "fnExactGapOfPoints", fn := fun _ => fun
  | [d] => { results := [.lit (.bool true)], args := [d] }
  | _ => none }
def fnExactGapOfPointsRow : OpenClaim := { program := "yticmnkgcolgpaaa", sum := "cfd1e0afc5898dd25d6293ae4d2fb23d17462a7f85a69bf3d206db6d2a949f49", func := "loop.example/g01339/laws.FnExactGapOfPoints", spec := "fnExactGapOfPoints", unfollowed := true, recurses := true, apart := false }
def FnExactGapOfPointsSaid : Prop := fnExactGapOfPointsRow.holds Try.pinned (OpenSpec.ofChange fnExactGapOfPointsSpec)

/-- ITS FALSE NEIGHBOUR: 'it returns false'. Refute it at one input. -/
def fnExactGapOfPointsWrong : ChangeSpec := { name := "fnExactGapOfPoints", fn := fun _ => fun
  | [d] => { results := [.lit (.bool false)], args := [d] }
  | _ => none }
def FnExactGapOfPointsWrongFalsely : Prop := fnExactGapOfPointsRow.holds Try.pinned (OpenSpec.ofChange fnExactGapOfPointsWrong)

/-- 'laws.FnExactAngleTurns': WHATEVER THE INPUT: true; the input reads as it did. -/
def fnExactAngleTurnsSpec : ChangeSpec := { name := "fnExactAngleTurns", fn := fun _ => fun
  | [d1, d2] => { results := [.lit (.bool true)], args := [d1, d2] }
  | _ => none }
def fnExactAngleTurnsRow : OpenClaim := { program := "yticmnkgcolgpaaa", sum := "cfd1e0afc5898dd25d6293ae4d2fb23d17462a7f85a69bf3d206db6d2a949f49", func := "loop.example/g01339/laws.FnExactAngleTurns", spec := "fnExactAngleTurns", inPlace := ["math.Float64frombits", "math.Float64bits", "math.sqrt"], apart := false }
def FnExactAngleTurnsSaid : Prop := fnExactAngleTurnsRow.holds Try.pinned (OpenSpec.ofChange fnExactAngleTurnsSpec)

/-- ITS FALSE NEIGHBOUR: 'it returns false'. Refute it at one input. -/
def fnExactAngleTurnsWrong : ChangeSpec := { name := "fnExactAngleTurns", fn := fun _ => fun
  | [d1, d2] => { results := [.lit (.bool false)], args := [d1, d2] }
  | _ => none }
def FnExactAngleTurnsWrongFalsely : Prop := fnExactAngleTurnsRow.holds Try.pinned (OpenSpec.ofChange fnExactAngleTurnsWrong)

/-- 'laws.FnExactRankOfBits': WHATEVER THE INPUT: true; the input reads as it did. -/
def fnExactRankOfBitsSpec : ChangeSpec := { name := "fnExactRankOfBits", fn := fun _ => fun
  | [d] => { results := [.lit (.bool true)], args := [d] }
  | _ => none }
def fnExactRankOfBitsRow : OpenClaim := { program := "yticmnkgcolgpaaa", sum := "cfd1e0afc5898dd25d6293ae4d2fb23d17462a7f85a69bf3d206db6d2a949f49", func := "loop.example/g01339/laws.FnExactRankOfBits", spec := "fnExactRankOfBits", apart := false }
def FnExactRankOfBitsSaid : Prop := fnExactRankOfBitsRow.holds Try.pinned (OpenSpec.ofChange fnExactRankOfBitsSpec)

/-- ITS FALSE NEIGHBOUR: 'it returns false'. Refute it at one input. -/
def fnExactRankOfBitsWrong : ChangeSpec := { name := "fnExactRankOfBits", fn := fun _ => fun
  | [d] => { results := [.lit (.bool false)], args := [d] }
  | _ => none }
def FnExactRankOfBitsWrongFalsely : Prop := fnExactRankOfBitsRow.holds Try.pinned (OpenSpec.ofChange fnExactRankOfBitsWrong)

/-- 'laws.FnExactLatticeOf': WHATEVER THE INPUT: true; the input reads as it did. -/
def fnExactLatticeOfSpec : ChangeSpec := { name := "fnExactLatticeOf", fn := fun _ => fun
  | [d1, d2] => { results := [.lit (.bool true)], args := [d1, d2] }
  | _ => none }
def fnExactLatticeOfRow : OpenClaim := { program := "yticmnkgcolgpaaa", sum := "cfd1e0afc5898dd25d6293ae4d2fb23d17462a7f85a69bf3d206db6d2a949f49", func := "loop.example/g01339/laws.FnExactLatticeOf", spec := "fnExactLatticeOf", apart := false }
def FnExactLatticeOfSaid : Prop := fnExactLatticeOfRow.holds Try.pinned (OpenSpec.ofChange fnExactLatticeOfSpec)

/-- ITS FALSE NEIGHBOUR: 'it returns false'. Refute it at one input. -/
def fnExactLatticeOfWrong : ChangeSpec := { name := "fnExactLatticeOf", fn := fun _ => fun
  | [d1, d2] => { results := [.lit (.bool false)], args := [d1, d2] }
  | _ => none }
def FnExactLatticeOfWrongFalsely : Prop := fnExactLatticeOfRow.holds Try.pinned (OpenSpec.ofChange fnExactLatticeOfWrong)

/- THE SECOND FORM. 'bulk': how many values and letters a reading holds, each counted each time it is reached (what is shared counts as often as it is met; a slice's spare places count too). A statement '..UptoSaid' is the law's where the arguments, and the package variables that the reading takes, are together of bulk at most 1048576: NARROWER than '..Said'. Prove '..Said' where nothing that the law and all that it calls make is longer than what came in: it says more and counts as full. Else prove '..UptoSaid'. A law counts once. -/
mutual
def uptoBulk {H : Type} : DataW H → Nat
  | .lit (.string bytes) => bytes.length + 1
  | .lit _ => 1
  | .nil => 1
  | .ptr d => uptoBulk d + 1
  | .slice elems spare => uptoBulkAll elems + uptoBulkAll spare + 1
  | .agg parts => uptoBulkAll parts + 1
  | .iface _ d => uptoBulk d + 1
  | .map entries => uptoBulkEntries entries + 1
  | .held _ => 1
def uptoBulkAll {H : Type} : List (DataW H) → Nat
  | [] => 0
  | d :: r => uptoBulk d + uptoBulkAll r
def uptoBulkEntries {H : Type} : List (Lit × DataW H) → Nat
  | [] => 0
  | x :: r => uptoBulkEntry x + uptoBulkEntries r
def uptoBulkEntry {H : Type} : Lit × DataW H → Nat
  | (.string bytes, d) => bytes.length + uptoBulk d + 1
  | (_, d) => uptoBulk d + 1
 end
def uptoSmall : (H : Type) → List (DataW H) → Bool := fun _ ds => decide (uptoBulkAll ds ≤ 1048576)
def OpenSpec.upto (s : _root_.Go.ChangeSpec) : _root_.Go.OpenSpec := { _root_.Go.OpenSpec.ofChange s with cond := some uptoSmall }

/-- 'laws.FnExactPhasorOf', WHERE WHAT IT READS IS OF BULK AT MOST 1048576: true; the input reads as it did. -/
def fnExactPhasorOfUptoRow : OpenClaim := { program := "yticmnkgcolgpaaa", sum := "cfd1e0afc5898dd25d6293ae4d2fb23d17462a7f85a69bf3d206db6d2a949f49", func := "loop.example/g01339/laws.FnExactPhasorOf", spec := "fnExactPhasorOf", inPlace := ["math.Float32frombits", "math.Float64frombits", "math.Float64bits"], apart := false, narrowed := true }
def FnExactPhasorOfUptoSaid : Prop := fnExactPhasorOfUptoRow.holds Try.pinned (OpenSpec.upto fnExactPhasorOfSpec)

/-- 'laws.FnExactCirclePoint', WHERE WHAT IT READS IS OF BULK AT MOST 1048576: true; the input reads as it did. -/
def fnExactCirclePointUptoRow : OpenClaim := { program := "yticmnkgcolgpaaa", sum := "cfd1e0afc5898dd25d6293ae4d2fb23d17462a7f85a69bf3d206db6d2a949f49", func := "loop.example/g01339/laws.FnExactCirclePoint", spec := "fnExactCirclePoint", inPlace := ["math.Float32frombits", "math.Float64frombits", "math.Float64bits"], apart := false, narrowed := true }
def FnExactCirclePointUptoSaid : Prop := fnExactCirclePointUptoRow.holds Try.pinned (OpenSpec.upto fnExactCirclePointSpec)

/-- 'laws.FnExactDiscPoint', WHERE WHAT IT READS IS OF BULK AT MOST 1048576: true; the input reads as it did. -/
def fnExactDiscPointUptoRow : OpenClaim := { program := "yticmnkgcolgpaaa", sum := "cfd1e0afc5898dd25d6293ae4d2fb23d17462a7f85a69bf3d206db6d2a949f49", func := "loop.example/g01339/laws.FnExactDiscPoint", spec := "fnExactDiscPoint", unfollowed := true, recurses := true, apart := false, narrowed := true }
def FnExactDiscPointUptoSaid : Prop := fnExactDiscPointUptoRow.holds Try.pinned (OpenSpec.upto fnExactDiscPointSpec)

/-- 'laws.FnExactBallPoint', WHERE WHAT IT READS IS OF BULK AT MOST 1048576: true; the input reads as it did. -/
def fnExactBallPointUptoRow : OpenClaim := { program := "yticmnkgcolgpaaa", sum := "cfd1e0afc5898dd25d6293ae4d2fb23d17462a7f85a69bf3d206db6d2a949f49", func := "loop.example/g01339/laws.FnExactBallPoint", spec := "fnExactBallPoint", inPlace := ["math.sqrt"], unfollowed := true, recurses := true, apart := false, narrowed := true }
def FnExactBallPointUptoSaid : Prop := fnExactBallPointUptoRow.holds Try.pinned (OpenSpec.upto fnExactBallPointSpec)

/-- 'laws.FnExactBellPair', WHERE WHAT IT READS IS OF BULK AT MOST 1048576: true; the input reads as it did. -/
def fnExactBellPairUptoRow : OpenClaim := { program := "yticmnkgcolgpaaa", sum := "cfd1e0afc5898dd25d6293ae4d2fb23d17462a7f85a69bf3d206db6d2a949f49", func := "loop.example/g01339/laws.FnExactBellPair", spec := "fnExactBellPair", inPlace := ["math.Float32frombits", "math.Float64frombits", "math.Float64bits", "math.sqrt"], apart := false, narrowed := true }
def FnExactBellPairUptoSaid : Prop := fnExactBellPairUptoRow.holds Try.pinned (OpenSpec.upto fnExactBellPairSpec)

/-- 'laws.FnExactSimplexPoint', WHERE WHAT IT READS IS OF BULK AT MOST 1048576: true; the input reads as it did. -/
def fnExactSimplexPointUptoRow : OpenClaim := { program := "yticmnkgcolgpaaa", sum := "cfd1e0afc5898dd25d6293ae4d2fb23d17462a7f85a69bf3d206db6d2a949f49", func := "loop.example/g01339/laws.FnExactSimplexPoint", spec := "fnExactSimplexPoint", recurses := true, apart := false, narrowed := true }
def FnExactSimplexPointUptoSaid : Prop := fnExactSimplexPointUptoRow.holds Try.pinned (OpenSpec.upto fnExactSimplexPointSpec)

/-- 'laws.FnExactSpreadPoints', WHERE WHAT IT READS IS OF BULK AT MOST 1048576: true; the input reads as it did. -/
def fnExactSpreadPointsUptoRow : OpenClaim := { program := "yticmnkgcolgpaaa", sum := "cfd1e0afc5898dd25d6293ae4d2fb23d17462a7f85a69bf3d206db6d2a949f49", func := "loop.example/g01339/laws.FnExactSpreadPoints", spec := "fnExactSpreadPoints", apart := false, narrowed := true }
def FnExactSpreadPointsUptoSaid : Prop := fnExactSpreadPointsUptoRow.holds Try.pinned (OpenSpec.upto fnExactSpreadPointsSpec)

/-- 'laws.FnExactGapOfPoints', WHERE WHAT IT READS IS OF BULK AT MOST 1048576: true; the input reads as it did. -/
def fnExactGapOfPointsUptoRow : OpenClaim := { program := "yticmnkgcolgpaaa", sum := "cfd1e0afc5898dd25d6293ae4d2fb23d17462a7f85a69bf3d206db6d2a949f49", func := "loop.example/g01339/laws.FnExactGapOfPoints", spec := "fnExactGapOfPoints", unfollowed := true, recurses := true, apart := false, narrowed := true }
def FnExactGapOfPointsUptoSaid : Prop := fnExactGapOfPointsUptoRow.holds Try.pinned (OpenSpec.upto fnExactGapOfPointsSpec)

/-- 'laws.FnExactAngleTurns', WHERE WHAT IT READS IS OF BULK AT MOST 1048576: true; the input reads as it did. -/
def fnExactAngleTurnsUptoRow : OpenClaim := { program := "yticmnkgcolgpaaa", sum := "cfd1e0afc5898dd25d6293ae4d2fb23d17462a7f85a69bf3d206db6d2a949f49", func := "loop.example/g01339/laws.FnExactAngleTurns", spec := "fnExactAngleTurns", inPlace := ["math.Float64frombits", "math.Float64bits", "math.sqrt"], apart := false, narrowed := true }
def FnExactAngleTurnsUptoSaid : Prop := fnExactAngleTurnsUptoRow.holds Try.pinned (OpenSpec.upto fnExactAngleTurnsSpec)

/-- 'laws.FnExactRankOfBits', WHERE WHAT IT READS IS OF BULK AT MOST 1048576: true; the input reads as it did. -/
def fnExactRankOfBitsUptoRow : OpenClaim := { program := "yticmnkgcolgpaaa", sum := "cfd1e0afc5898dd25d6293ae4d2fb23d17462a7f85a69bf3d206db6d2a949f49", func := "loop.example/g01339/laws.FnExactRankOfBits", spec := "fnExactRankOfBits", apart := false, narrowed := true }
def FnExactRankOfBitsUptoSaid : Prop := fnExactRankOfBitsUptoRow.holds Try.pinned (OpenSpec.upto fnExactRankOfBitsSpec)

/-- 'laws.FnExactLatticeOf', WHERE WHAT IT READS IS OF BULK AT MOST 1048576: true; the input reads as it did. -/
def fnExactLatticeOfUptoRow : OpenClaim := { program := "yticmnkgcolgpaaa", sum := "cfd1e0afc5898dd25d6293ae4d2fb23d17462a7f85a69bf3d206db6d2a949f49", func := "loop.example/g01339/laws.FnExactLatticeOf", spec := "fnExactLatticeOf", apart := false, narrowed := true }
def FnExactLatticeOfUptoSaid : Prop := fnExactLatticeOfUptoRow.holds Try.pinned (OpenSpec.upto fnExactLatticeOfSpec)

end Rows
end Go.Proofs.Yticmnkgcolgpaaa
