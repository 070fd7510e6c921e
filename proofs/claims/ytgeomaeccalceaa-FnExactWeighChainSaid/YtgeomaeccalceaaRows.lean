/-
  No cell of these rows narrows 'for every input' (looked for: loops, veiled, ifaces, maps, wideKeys, modest, calm, conditions, laid).
  DERIVED. THE GIVEN ROWS OF THIS SEAT. 12 by the template 'for every input the law returns true; each argument reads behind the call as it read before'; 0 by the template 'total and deterministic' (their statements: YtgeomaeccalceaaTotals.lean).
  GIVEN WITH THE SEED: the statements are not yours to turn. If you find one false, say at which input.
  Laid BY PROGRAM, IN A SANDBOX (cutbox-rows.mjs): the forced cells as the released guide's own fill.sh prints them over the translation 4854139e4d9744d0… (all of the seat's roots in one cut). By AI agents, Wed Nov 11 2026. No macro, syntax, notation, axiom, sorry.
-/
import Derived.Test.YtgeomaeccalceaaChecked
import GoSem.Claim
import GoSem.ClaimJoined
import GoSem.ClaimMapViews
import Derived.JoinedTies
import Derived.KernelRfl
namespace Go.Proofs.Ytgeomaeccalceaa
/- THE CELL 'sum', in the pinned program and in every row, IS THE sha256 OF THE DUMP (.gsa) THAT YtgeomaeccalceaaProg.lean LOADS. Nothing in Lean hashes anything: it is a label: what it is worth is what the hold of that sum in a sandbox is worth. -/
noncomputable def Try.pinned : Pinned := { name := "ytgeomaeccalceaa", sum := "4854139e4d9744d0ab8d1ceb74d3c200d4efb0ceea72539cc7208c4ff6b6ed2f", checked := Try.checked }
namespace Rows
def none {H : Type} : Left H := { results := [], args := [] }

/-- 'laws.FnExactWalkChain': WHATEVER THE INPUT: true; the input reads as it did. -/
def fnExactWalkChainSpec : ChangeSpec := { name := "fnExactWalkChain", fn := fun _ => fun
  | [d1, d2, d3, d4] => { results := [.lit (.bool true)], args := [d1, d2, d3, d4] }
  | _ => none }
def fnExactWalkChainRow : OpenClaim := { program := "ytgeomaeccalceaa", sum := "4854139e4d9744d0ab8d1ceb74d3c200d4efb0ceea72539cc7208c4ff6b6ed2f", func := "loop.example/g01339/laws.FnExactWalkChain", spec := "fnExactWalkChain", apart := false }
def FnExactWalkChainSaid : Prop := fnExactWalkChainRow.holds Try.pinned (OpenSpec.ofChange fnExactWalkChainSpec)

/-- ITS FALSE NEIGHBOUR: 'it returns false'. Refute it at one input. -/
def fnExactWalkChainWrong : ChangeSpec := { name := "fnExactWalkChain", fn := fun _ => fun
  | [d1, d2, d3, d4] => { results := [.lit (.bool false)], args := [d1, d2, d3, d4] }
  | _ => none }
def FnExactWalkChainWrongFalsely : Prop := fnExactWalkChainRow.holds Try.pinned (OpenSpec.ofChange fnExactWalkChainWrong)

/-- 'laws.FnExactMeetWalks': WHATEVER THE INPUT: true; the input reads as it did. -/
def fnExactMeetWalksSpec : ChangeSpec := { name := "fnExactMeetWalks", fn := fun _ => fun
  | [d1, d2, d3, d4, d5] => { results := [.lit (.bool true)], args := [d1, d2, d3, d4, d5] }
  | _ => none }
def fnExactMeetWalksRow : OpenClaim := { program := "ytgeomaeccalceaa", sum := "4854139e4d9744d0ab8d1ceb74d3c200d4efb0ceea72539cc7208c4ff6b6ed2f", func := "loop.example/g01339/laws.FnExactMeetWalks", spec := "fnExactMeetWalks", unfollowed := true, recurses := true, apart := false }
def FnExactMeetWalksSaid : Prop := fnExactMeetWalksRow.holds Try.pinned (OpenSpec.ofChange fnExactMeetWalksSpec)

/-- ITS FALSE NEIGHBOUR: 'it returns false'. Refute it at one input. -/
def fnExactMeetWalksWrong : ChangeSpec := { name := "fnExactMeetWalks", fn := fun _ => fun
  | [d1, d2, d3, d4, d5] => { results := [.lit (.bool false)], args := [d1, d2, d3, d4, d5] }
  | _ => none }
def FnExactMeetWalksWrongFalsely : Prop := fnExactMeetWalksRow.holds Try.pinned (OpenSpec.ofChange fnExactMeetWalksWrong)

/-- 'laws.FnExactPastDraw': WHATEVER THE INPUT: true; the input reads as it did. -/
def fnExactPastDrawSpec : ChangeSpec := { name := "fnExactPastDraw", fn := fun _ => fun
  | [d1, d2, d3] => { results := [.lit (.bool true)], args := [d1, d2, d3] }
  | _ => none }
def fnExactPastDrawRow : OpenClaim := { program := "ytgeomaeccalceaa", sum := "4854139e4d9744d0ab8d1ceb74d3c200d4efb0ceea72539cc7208c4ff6b6ed2f", func := "loop.example/g01339/laws.FnExactPastDraw", spec := "fnExactPastDraw", unfollowed := true, recurses := true, apart := false }
def FnExactPastDrawSaid : Prop := fnExactPastDrawRow.holds Try.pinned (OpenSpec.ofChange fnExactPastDrawSpec)

/-- ITS FALSE NEIGHBOUR: 'it returns false'. Refute it at one input. -/
def fnExactPastDrawWrong : ChangeSpec := { name := "fnExactPastDraw", fn := fun _ => fun
  | [d1, d2, d3] => { results := [.lit (.bool false)], args := [d1, d2, d3] }
  | _ => none }
def FnExactPastDrawWrongFalsely : Prop := fnExactPastDrawRow.holds Try.pinned (OpenSpec.ofChange fnExactPastDrawWrong)

/-- 'laws.FnExactRareChance': WHATEVER THE INPUT: true; the input reads as it did. -/
def fnExactRareChanceSpec : ChangeSpec := { name := "fnExactRareChance", fn := fun _ => fun
  | [d1, d2, d3, d4, d5] => { results := [.lit (.bool true)], args := [d1, d2, d3, d4, d5] }
  | _ => none }
def fnExactRareChanceRow : OpenClaim := { program := "ytgeomaeccalceaa", sum := "4854139e4d9744d0ab8d1ceb74d3c200d4efb0ceea72539cc7208c4ff6b6ed2f", func := "loop.example/g01339/laws.FnExactRareChance", spec := "fnExactRareChance", unfollowed := true, recurses := true, apart := false }
def FnExactRareChanceSaid : Prop := fnExactRareChanceRow.holds Try.pinned (OpenSpec.ofChange fnExactRareChanceSpec)

/-- ITS FALSE NEIGHBOUR: 'it returns false'. Refute it at one input. -/
def fnExactRareChanceWrong : ChangeSpec := { name := "fnExactRareChance", fn := fun _ => fun
  | [d1, d2, d3, d4, d5] => { results := [.lit (.bool false)], args := [d1, d2, d3, d4, d5] }
  | _ => none }
def FnExactRareChanceWrongFalsely : Prop := fnExactRareChanceRow.holds Try.pinned (OpenSpec.ofChange fnExactRareChanceWrong)

/-- 'laws.FnExactBalanceMiss': WHATEVER THE INPUT: true; the input reads as it did. -/
def fnExactBalanceMissSpec : ChangeSpec := { name := "fnExactBalanceMiss", fn := fun _ => fun
  | [d1, d2] => { results := [.lit (.bool true)], args := [d1, d2] }
  | _ => none }
def fnExactBalanceMissRow : OpenClaim := { program := "ytgeomaeccalceaa", sum := "4854139e4d9744d0ab8d1ceb74d3c200d4efb0ceea72539cc7208c4ff6b6ed2f", func := "loop.example/g01339/laws.FnExactBalanceMiss", spec := "fnExactBalanceMiss", inPlace := ["math.Float64bits", "math.Float64frombits"], apart := false }
def FnExactBalanceMissSaid : Prop := fnExactBalanceMissRow.holds Try.pinned (OpenSpec.ofChange fnExactBalanceMissSpec)

/-- ITS FALSE NEIGHBOUR: 'it returns false'. Refute it at one input. -/
def fnExactBalanceMissWrong : ChangeSpec := { name := "fnExactBalanceMiss", fn := fun _ => fun
  | [d1, d2] => { results := [.lit (.bool false)], args := [d1, d2] }
  | _ => none }
def FnExactBalanceMissWrongFalsely : Prop := fnExactBalanceMissRow.holds Try.pinned (OpenSpec.ofChange fnExactBalanceMissWrong)

/-- 'laws.FnExactRestOf': WHATEVER THE INPUT: true; the input reads as it did. -/
def fnExactRestOfSpec : ChangeSpec := { name := "fnExactRestOf", fn := fun _ => fun
  | [d1, d2, d3] => { results := [.lit (.bool true)], args := [d1, d2, d3] }
  | _ => none }
def fnExactRestOfRow : OpenClaim := { program := "ytgeomaeccalceaa", sum := "4854139e4d9744d0ab8d1ceb74d3c200d4efb0ceea72539cc7208c4ff6b6ed2f", func := "loop.example/g01339/laws.FnExactRestOf", spec := "fnExactRestOf", inPlace := ["math.Float64bits", "math.Float64frombits"], apart := false }
def FnExactRestOfSaid : Prop := fnExactRestOfRow.holds Try.pinned (OpenSpec.ofChange fnExactRestOfSpec)

/-- ITS FALSE NEIGHBOUR: 'it returns false'. Refute it at one input. -/
def fnExactRestOfWrong : ChangeSpec := { name := "fnExactRestOf", fn := fun _ => fun
  | [d1, d2, d3] => { results := [.lit (.bool false)], args := [d1, d2, d3] }
  | _ => none }
def FnExactRestOfWrongFalsely : Prop := fnExactRestOfRow.holds Try.pinned (OpenSpec.ofChange fnExactRestOfWrong)

/-- 'laws.FnExactWeighChain': WHATEVER THE INPUT: true; the input reads as it did. -/
def fnExactWeighChainSpec : ChangeSpec := { name := "fnExactWeighChain", fn := fun _ => fun
  | [d1, d2] => { results := [.lit (.bool true)], args := [d1, d2] }
  | _ => none }
def fnExactWeighChainRow : OpenClaim := { program := "ytgeomaeccalceaa", sum := "4854139e4d9744d0ab8d1ceb74d3c200d4efb0ceea72539cc7208c4ff6b6ed2f", func := "loop.example/g01339/laws.FnExactWeighChain", spec := "fnExactWeighChain", inPlace := ["math.Float64bits", "math.Float64frombits"], unfollowed := true, recurses := true, apart := false }
def FnExactWeighChainSaid : Prop := fnExactWeighChainRow.holds Try.pinned (OpenSpec.ofChange fnExactWeighChainSpec)

/-- ITS FALSE NEIGHBOUR: 'it returns false'. Refute it at one input. -/
def fnExactWeighChainWrong : ChangeSpec := { name := "fnExactWeighChain", fn := fun _ => fun
  | [d1, d2] => { results := [.lit (.bool false)], args := [d1, d2] }
  | _ => none }
def FnExactWeighChainWrongFalsely : Prop := fnExactWeighChainRow.holds Try.pinned (OpenSpec.ofChange fnExactWeighChainWrong)

/-- 'laws.FnExactTimesTo': WHATEVER THE INPUT: true; the input reads as it did. -/
def fnExactTimesToSpec : ChangeSpec := { name := "fnExactTimesTo", fn := fun _ => fun
  | [d1, d2] => { results := [.lit (.bool true)], args := [d1, d2] }
  | _ => none }
def fnExactTimesToRow : OpenClaim := { program := "ytgeomaeccalceaa", sum := "4854139e4d9744d0ab8d1ceb74d3c200d4efb0ceea72539cc7208c4ff6b6ed2f", func := "loop.example/g01339/laws.FnExactTimesTo", spec := "fnExactTimesTo", inPlace := ["math.Float64bits", "math.Float64frombits"], unfollowed := true, recurses := true, apart := false }
def FnExactTimesToSaid : Prop := fnExactTimesToRow.holds Try.pinned (OpenSpec.ofChange fnExactTimesToSpec)

/-- ITS FALSE NEIGHBOUR: 'it returns false'. Refute it at one input. -/
def fnExactTimesToWrong : ChangeSpec := { name := "fnExactTimesTo", fn := fun _ => fun
  | [d1, d2] => { results := [.lit (.bool false)], args := [d1, d2] }
  | _ => none }
def FnExactTimesToWrongFalsely : Prop := fnExactTimesToRow.holds Try.pinned (OpenSpec.ofChange fnExactTimesToWrong)

/-- 'laws.FnExactChancesTo': WHATEVER THE INPUT: true; the input reads as it did. -/
def fnExactChancesToSpec : ChangeSpec := { name := "fnExactChancesTo", fn := fun _ => fun
  | [d1, d2, d3] => { results := [.lit (.bool true)], args := [d1, d2, d3] }
  | _ => none }
def fnExactChancesToRow : OpenClaim := { program := "ytgeomaeccalceaa", sum := "4854139e4d9744d0ab8d1ceb74d3c200d4efb0ceea72539cc7208c4ff6b6ed2f", func := "loop.example/g01339/laws.FnExactChancesTo", spec := "fnExactChancesTo", inPlace := ["math.Float64bits", "math.Float64frombits"], unfollowed := true, recurses := true, apart := false }
def FnExactChancesToSaid : Prop := fnExactChancesToRow.holds Try.pinned (OpenSpec.ofChange fnExactChancesToSpec)

/-- ITS FALSE NEIGHBOUR: 'it returns false'. Refute it at one input. -/
def fnExactChancesToWrong : ChangeSpec := { name := "fnExactChancesTo", fn := fun _ => fun
  | [d1, d2, d3] => { results := [.lit (.bool false)], args := [d1, d2, d3] }
  | _ => none }
def FnExactChancesToWrongFalsely : Prop := fnExactChancesToRow.holds Try.pinned (OpenSpec.ofChange fnExactChancesToWrong)

/-- 'laws.FnExactValidRecord': WHATEVER THE INPUT: true; the input reads as it did. -/
def fnExactValidRecordSpec : ChangeSpec := { name := "fnExactValidRecord", fn := fun _ => fun
  | [d] => { results := [.lit (.bool true)], args := [d] }
  | _ => none }
def fnExactValidRecordRow : OpenClaim := { program := "ytgeomaeccalceaa", sum := "4854139e4d9744d0ab8d1ceb74d3c200d4efb0ceea72539cc7208c4ff6b6ed2f", func := "loop.example/g01339/laws.FnExactValidRecord", spec := "fnExactValidRecord", apart := false }
def FnExactValidRecordSaid : Prop := fnExactValidRecordRow.holds Try.pinned (OpenSpec.ofChange fnExactValidRecordSpec)

/-- ITS FALSE NEIGHBOUR: 'it returns false'. Refute it at one input. -/
def fnExactValidRecordWrong : ChangeSpec := { name := "fnExactValidRecord", fn := fun _ => fun
  | [d] => { results := [.lit (.bool false)], args := [d] }
  | _ => none }
def FnExactValidRecordWrongFalsely : Prop := fnExactValidRecordRow.holds Try.pinned (OpenSpec.ofChange fnExactValidRecordWrong)

/-- 'laws.FnExactSameRecords': WHATEVER THE INPUT: true; the input reads as it did. -/
def fnExactSameRecordsSpec : ChangeSpec := { name := "fnExactSameRecords", fn := fun _ => fun
  | [d1, d2] => { results := [.lit (.bool true)], args := [d1, d2] }
  | _ => none }
def fnExactSameRecordsRow : OpenClaim := { program := "ytgeomaeccalceaa", sum := "4854139e4d9744d0ab8d1ceb74d3c200d4efb0ceea72539cc7208c4ff6b6ed2f", func := "loop.example/g01339/laws.FnExactSameRecords", spec := "fnExactSameRecords", unfollowed := true, recurses := true, apart := false }
def FnExactSameRecordsSaid : Prop := fnExactSameRecordsRow.holds Try.pinned (OpenSpec.ofChange fnExactSameRecordsSpec)

/-- ITS FALSE NEIGHBOUR: 'it returns false'. Refute it at one input. -/
def fnExactSameRecordsWrong : ChangeSpec := { name := "fnExactSameRecords", fn := fun _ => fun
  | [d1, d2] => { results := [.lit (.bool false)], args := [d1, d2] }
  | _ => none }
def FnExactSameRecordsWrongFalsely : Prop := fnExactSameRecordsRow.holds Try.pinned (OpenSpec.ofChange fnExactSameRecordsWrong)

/-- 'laws.FnExactGroupsOfChain': WHATEVER THE INPUT: true; the input reads as it did. -/
def fnExactGroupsOfChainSpec : ChangeSpec := { name := "fnExactGroupsOfChain", fn := fun _ => fun
  | [d] => { results := [.lit (.bool true)], args := [d] }
  | _ => none }
def fnExactGroupsOfChainRow : OpenClaim := { program := "ytgeomaeccalceaa", sum := "4854139e4d9744d0ab8d1ceb74d3c200d4efb0ceea72539cc7208c4ff6b6ed2f", func := "loop.example/g01339/laws.FnExactGroupsOfChain", spec := "fnExactGroupsOfChain", apart := false }
def FnExactGroupsOfChainSaid : Prop := fnExactGroupsOfChainRow.holds Try.pinned (OpenSpec.ofChange fnExactGroupsOfChainSpec)

/-- ITS FALSE NEIGHBOUR: 'it returns false'. Refute it at one input. -/
def fnExactGroupsOfChainWrong : ChangeSpec := { name := "fnExactGroupsOfChain", fn := fun _ => fun
  | [d] => { results := [.lit (.bool false)], args := [d] }
  | _ => none }
def FnExactGroupsOfChainWrongFalsely : Prop := fnExactGroupsOfChainRow.holds Try.pinned (OpenSpec.ofChange fnExactGroupsOfChainWrong)

/- THE SECOND FORM. 'bulk': how many values and letters a reading holds, each counted each time it is reached (what is shared counts as often as it is met; a slice's spare places count too). A statement '..UptoSaid' is the law's where the arguments, and the package variables that the reading takes, are together of bulk at most 1048576: NARROWER than '..Said'. Prove '..Said' where nothing that the law and all that it calls make is longer than what came in: it says more and counts as full. Else prove '..UptoSaid'. A law counts once. -/
mutual
def uptoBulk {H : Type} : DataW H → Nat
  | .lit (.string bytes) => bytes.length + 1
  | .lit _ => 1
  | .nil => 1
  | .ptr d => uptoBulk d + 1
  | .slice elems spare => uptoBulkAll elems + uptoBulkAll spare + 1
  | .agg parts => uptoBulkAll parts + 1
  | .iface _ d => uptoBulk d + 1
  | .map entries => uptoBulkEntries entries + 1
  | .held _ => 1
def uptoBulkAll {H : Type} : List (DataW H) → Nat
  | [] => 0
  | d :: r => uptoBulk d + uptoBulkAll r
def uptoBulkEntries {H : Type} : List (Lit × DataW H) → Nat
  | [] => 0
  | x :: r => uptoBulkEntry x + uptoBulkEntries r
def uptoBulkEntry {H : Type} : Lit × DataW H → Nat
  | (.string bytes, d) => bytes.length + uptoBulk d + 1
  | (_, d) => uptoBulk d + 1
 end
def uptoSmall : (H : Type) → List (DataW H) → Bool := fun _ ds => decide (uptoBulkAll ds ≤ 1048576)
def OpenSpec.upto (s : _root_.Go.ChangeSpec) : _root_.Go.OpenSpec := { _root_.Go.OpenSpec.ofChange s with cond := some uptoSmall }

/-- 'laws.FnExactWalkChain', WHERE WHAT IT READS IS OF BULK AT MOST 1048576: true; the input reads as it did. -/
def fnExactWalkChainUptoRow : OpenClaim := { program := "ytgeomaeccalceaa", sum := "4854139e4d9744d0ab8d1ceb74d3c200d4efb0ceea72539cc7208c4ff6b6ed2f", func := "loop.example/g01339/laws.FnExactWalkChain", spec := "fnExactWalkChain", apart := false, narrowed := true }
def FnExactWalkChainUptoSaid : Prop := fnExactWalkChainUptoRow.holds Try.pinned (OpenSpec.upto fnExactWalkChainSpec)

/-- 'laws.FnExactMeetWalks', WHERE WHAT IT READS IS OF BULK AT MOST 1048576: true; the input reads as it did. -/
def fnExactMeetWalksUptoRow : OpenClaim := { program := "ytgeomaeccalceaa", sum := "4854139e4d9744d0ab8d1ceb74d3c200d4efb0ceea72539cc7208c4ff6b6ed2f", func := "loop.example/g01339/laws.FnExactMeetWalks", spec := "fnExactMeetWalks", unfollowed := true, recurses := true, apart := false, narrowed := true }
def FnExactMeetWalksUptoSaid : Prop := fnExactMeetWalksUptoRow.holds Try.pinned (OpenSpec.upto fnExactMeetWalksSpec)

/-- 'laws.FnExactPastDraw', WHERE WHAT IT READS IS OF BULK AT MOST 1048576: true; the input reads as it did. -/
def fnExactPastDrawUptoRow : OpenClaim := { program := "ytgeomaeccalceaa", sum := "4854139e4d9744d0ab8d1ceb74d3c200d4efb0ceea72539cc7208c4ff6b6ed2f", func := "loop.example/g01339/laws.FnExactPastDraw", spec := "fnExactPastDraw", unfollowed := true, recurses := true, apart := false, narrowed := true }
def FnExactPastDrawUptoSaid : Prop := fnExactPastDrawUptoRow.holds Try.pinned (OpenSpec.upto fnExactPastDrawSpec)

/-- 'laws.FnExactRareChance', WHERE WHAT IT READS IS OF BULK AT MOST 1048576: true; the input reads as it did. -/
def fnExactRareChanceUptoRow : OpenClaim := { program := "ytgeomaeccalceaa", sum := "4854139e4d9744d0ab8d1ceb74d3c200d4efb0ceea72539cc7208c4ff6b6ed2f", func := "loop.example/g01339/laws.FnExactRareChance", spec := "fnExactRareChance", unfollowed := true, recurses := true, apart := false, narrowed := true }
def FnExactRareChanceUptoSaid : Prop := fnExactRareChanceUptoRow.holds Try.pinned (OpenSpec.upto fnExactRareChanceSpec)

/-- 'laws.FnExactBalanceMiss', WHERE WHAT IT READS IS OF BULK AT MOST 1048576: true; the input reads as it did. -/
def fnExactBalanceMissUptoRow : OpenClaim := { program := "ytgeomaeccalceaa", sum := "4854139e4d9744d0ab8d1ceb74d3c200d4efb0ceea72539cc7208c4ff6b6ed2f", func := "loop.example/g01339/laws.FnExactBalanceMiss", spec := "fnExactBalanceMiss", inPlace := ["math.Float64bits", "math.Float64frombits"], apart := false, narrowed := true }
def FnExactBalanceMissUptoSaid : Prop := fnExactBalanceMissUptoRow.holds Try.pinned (OpenSpec.upto fnExactBalanceMissSpec)

/-- 'laws.FnExactRestOf', WHERE WHAT IT READS IS OF BULK AT MOST 1048576: true; the input reads as it did. -/
def fnExactRestOfUptoRow : OpenClaim := { program := "ytgeomaeccalceaa", sum := "4854139e4d9744d0ab8d1ceb74d3c200d4efb0ceea72539cc7208c4ff6b6ed2f", func := "loop.example/g01339/laws.FnExactRestOf", spec := "fnExactRestOf", inPlace := ["math.Float64bits", "math.Float64frombits"], apart := false, narrowed := true }
def FnExactRestOfUptoSaid : Prop := fnExactRestOfUptoRow.holds Try.pinned (OpenSpec.upto fnExactRestOfSpec)

/-- 'laws.FnExactWeighChain', WHERE WHAT IT READS IS OF BULK AT MOST 1048576: true; the input reads as it did. -/
def fnExactWeighChainUptoRow : OpenClaim := { program := "ytgeomaeccalceaa", sum := "4854139e4d9744d0ab8d1ceb74d3c200d4efb0ceea72539cc7208c4ff6b6ed2f", func := "loop.example/g01339/laws.FnExactWeighChain", spec := "fnExactWeighChain", inPlace := ["math.Float64bits", "math.Float64frombits"], unfollowed := true, recurses := true, apart := false, narrowed := true }
def FnExactWeighChainUptoSaid : Prop := fnExactWeighChainUptoRow.holds Try.pinned (OpenSpec.upto fnExactWeighChainSpec)

/-- 'laws.FnExactTimesTo', WHERE WHAT IT READS IS OF BULK AT MOST 1048576: true; the input reads as it did. -/
def fnExactTimesToUptoRow : OpenClaim := { program := "ytgeomaeccalceaa", sum := "4854139e4d9744d0ab8d1ceb74d3c200d4efb0ceea72539cc7208c4ff6b6ed2f", func := "loop.example/g01339/laws.FnExactTimesTo", spec := "fnExactTimesTo", inPlace := ["math.Float64bits", "math.Float64frombits"], unfollowed := true, recurses := true, apart := false, narrowed := true }
def FnExactTimesToUptoSaid : Prop := fnExactTimesToUptoRow.holds Try.pinned (OpenSpec.upto fnExactTimesToSpec)

/-- 'laws.FnExactChancesTo', WHERE WHAT IT READS IS OF BULK AT MOST 1048576: true; the input reads as it did. -/
def fnExactChancesToUptoRow : OpenClaim := { program := "ytgeomaeccalceaa", sum := "4854139e4d9744d0ab8d1ceb74d3c200d4efb0ceea72539cc7208c4ff6b6ed2f", func := "loop.example/g01339/laws.FnExactChancesTo", spec := "fnExactChancesTo", inPlace := ["math.Float64bits", "math.Float64frombits"], unfollowed := true, recurses := true, apart := false, narrowed := true }
def FnExactChancesToUptoSaid : Prop := fnExactChancesToUptoRow.holds Try.pinned (OpenSpec.upto fnExactChancesToSpec)

/-- 'laws.FnExactValidRecord', WHERE WHAT IT READS IS OF BULK AT MOST 1048576: true; the input reads as it did. -/
def fnExactValidRecordUptoRow : OpenClaim := { program := "ytgeomaeccalceaa", sum := "4854139e4d9744d0ab8d1ceb74d3c200d4efb0ceea72539cc7208c4ff6b6ed2f", func := "loop.example/g01339/laws.FnExactValidRecord", spec := "fnExactValidRecord", apart := false, narrowed := true }
def FnExactValidRecordUptoSaid : Prop := fnExactValidRecordUptoRow.holds Try.pinned (OpenSpec.upto fnExactValidRecordSpec)

/-- 'laws.FnExactSameRecords', WHERE WHAT IT READS IS OF BULK AT MOST 1048576: true; the input reads as it did. -/
def fnExactSameRecordsUptoRow : OpenClaim := { program := "ytgeomaeccalceaa", sum := "4854139e4d9744d0ab8d1ceb74d3c200d4efb0ceea72539cc7208c4ff6b6ed2f", func := "loop.example/g01339/laws.FnExactSameRecords", spec := "fnExactSameRecords", unfollowed := true, recurses := true, apart := false, narrowed := true }
def FnExactSameRecordsUptoSaid : Prop := fnExactSameRecordsUptoRow.holds Try.pinned (OpenSpec.upto fnExactSameRecordsSpec)

/-- 'laws.FnExactGroupsOfChain', WHERE WHAT IT READS IS OF BULK AT MOST 1048576: true; the input reads as it did. -/
def fnExactGroupsOfChainUptoRow : OpenClaim := { program := "ytgeomaeccalceaa", sum := "4854139e4d9744d0ab8d1ceb74d3c200d4efb0ceea72539cc7208c4ff6b6ed2f", func := "loop.example/g01339/laws.FnExactGroupsOfChain", spec := "fnExactGroupsOfChain", apart := false, narrowed := true }
def FnExactGroupsOfChainUptoSaid : Prop := fnExactGroupsOfChainUptoRow.holds Try.pinned (OpenSpec.upto fnExactGroupsOfChainSpec)

end Rows
end Go.Proofs.Ytgeomaeccalceaa
