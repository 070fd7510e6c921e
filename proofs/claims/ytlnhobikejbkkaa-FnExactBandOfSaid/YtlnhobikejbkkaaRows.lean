/-
  No cell of these rows narrows 'for every input' (looked for: loops, veiled, ifaces, maps, wideKeys, modest, calm, conditions, laid).
  DERIVED. THE GIVEN ROWS OF THIS SEAT. 12 by the template 'for every input the law returns true; each argument reads behind the call as it read before'; 0 by the template 'total and deterministic' (their statements: YtlnhobikejbkkaaTotals.lean).
  GIVEN WITH THE SEED: the statements are not yours to turn. If you find one false, say at which input.
  Laid BY PROGRAM, IN A SANDBOX (cutbox-rows.mjs): the forced cells as the released guide's own fill.sh prints them over the translation 76d862bc8408190a… (all of the seat's roots in one cut). By AI agents, Wed Nov 11 2026. No macro, syntax, notation, axiom, sorry.
-/
import Derived.Test.YtlnhobikejbkkaaChecked
import GoSem.Claim
import GoSem.ClaimJoined
import GoSem.ClaimMapViews
import Derived.JoinedTies
import Derived.KernelRfl
namespace Go.Proofs.Ytlnhobikejbkkaa
/- THE CELL 'sum', in the pinned program and in every row, IS THE sha256 OF THE DUMP (.gsa) THAT YtlnhobikejbkkaaProg.lean LOADS. Nothing in Lean hashes anything: it is a label: what it is worth is what the hold of that sum in a sandbox is worth. -/
noncomputable def Try.pinned : Pinned := { name := "ytlnhobikejbkkaa", sum := "76d862bc8408190a1a66476fe3fa9fa7b4a74c26f8a593f6bfde05f543c2b7df", checked := Try.checked }
namespace Rows
def none {H : Type} : Left H := { results := [], args := [] }

/-- 'laws.FnExactBandOf': WHATEVER THE INPUT: true; the input reads as it did. -/
def fnExactBandOfSpec : ChangeSpec := { name := "fnExactBandOf", fn := fun _ => fun
  | [d1, d2] => { results := [.lit (.bool true)], args := [d1, d2] }
  | _ => none }
def fnExactBandOfRow : OpenClaim := { program := "ytlnhobikejbkkaa", sum := "76d862bc8408190a1a66476fe3fa9fa7b4a74c26f8a593f6bfde05f543c2b7df", func := "loop.example/g01339/laws.FnExactBandOf", spec := "fnExactBandOf", inPlace := ["math.archFloor", "math.Float64bits", "math.Float64frombits", "math.archTrunc"], apart := false }
def FnExactBandOfSaid : Prop := fnExactBandOfRow.holds Try.pinned (OpenSpec.ofChange fnExactBandOfSpec)

/-- ITS FALSE NEIGHBOUR: 'it returns false'. Refute it at one input. -/
def fnExactBandOfWrong : ChangeSpec := { name := "fnExactBandOf", fn := fun _ => fun
  | [d1, d2] => { results := [.lit (.bool false)], args := [d1, d2] }
  | _ => none }
def FnExactBandOfWrongFalsely : Prop := fnExactBandOfRow.holds Try.pinned (OpenSpec.ofChange fnExactBandOfWrong)

/-- 'laws.FnExactShareOfTail': WHATEVER THE INPUT: true; the input reads as it did. -/
def fnExactShareOfTailSpec : ChangeSpec := { name := "fnExactShareOfTail", fn := fun _ => fun
  | [d1, d2] => { results := [.lit (.bool true)], args := [d1, d2] }
  | _ => none }
def fnExactShareOfTailRow : OpenClaim := { program := "ytlnhobikejbkkaa", sum := "76d862bc8408190a1a66476fe3fa9fa7b4a74c26f8a593f6bfde05f543c2b7df", func := "loop.example/g01339/laws.FnExactShareOfTail", spec := "fnExactShareOfTail", apart := false }
def FnExactShareOfTailSaid : Prop := fnExactShareOfTailRow.holds Try.pinned (OpenSpec.ofChange fnExactShareOfTailSpec)

/-- ITS FALSE NEIGHBOUR: 'it returns false'. Refute it at one input. -/
def fnExactShareOfTailWrong : ChangeSpec := { name := "fnExactShareOfTail", fn := fun _ => fun
  | [d1, d2] => { results := [.lit (.bool false)], args := [d1, d2] }
  | _ => none }
def FnExactShareOfTailWrongFalsely : Prop := fnExactShareOfTailRow.holds Try.pinned (OpenSpec.ofChange fnExactShareOfTailWrong)

/-- 'laws.FnExactPlainMany': WHATEVER THE INPUT: true; the input reads as it did. -/
def fnExactPlainManySpec : ChangeSpec := { name := "fnExactPlainMany", fn := fun _ => fun
  | [d] => { results := [.lit (.bool true)], args := [d] }
  | _ => none }
def fnExactPlainManyRow : OpenClaim := { program := "ytlnhobikejbkkaa", sum := "76d862bc8408190a1a66476fe3fa9fa7b4a74c26f8a593f6bfde05f543c2b7df", func := "loop.example/g01339/laws.FnExactPlainMany", spec := "fnExactPlainMany", apart := false }
def FnExactPlainManySaid : Prop := fnExactPlainManyRow.holds Try.pinned (OpenSpec.ofChange fnExactPlainManySpec)

/-- ITS FALSE NEIGHBOUR: 'it returns false'. Refute it at one input. -/
def fnExactPlainManyWrong : ChangeSpec := { name := "fnExactPlainMany", fn := fun _ => fun
  | [d] => { results := [.lit (.bool false)], args := [d] }
  | _ => none }
def FnExactPlainManyWrongFalsely : Prop := fnExactPlainManyRow.holds Try.pinned (OpenSpec.ofChange fnExactPlainManyWrong)

/-- 'laws.FnExactHolmMany': WHATEVER THE INPUT: true; the input reads as it did. -/
def fnExactHolmManySpec : ChangeSpec := { name := "fnExactHolmMany", fn := fun _ => fun
  | [d] => { results := [.lit (.bool true)], args := [d] }
  | _ => none }
def fnExactHolmManyRow : OpenClaim := { program := "ytlnhobikejbkkaa", sum := "76d862bc8408190a1a66476fe3fa9fa7b4a74c26f8a593f6bfde05f543c2b7df", func := "loop.example/g01339/laws.FnExactHolmMany", spec := "fnExactHolmMany", unfollowed := true, recurses := true, apart := false }
def FnExactHolmManySaid : Prop := fnExactHolmManyRow.holds Try.pinned (OpenSpec.ofChange fnExactHolmManySpec)

/-- ITS FALSE NEIGHBOUR: 'it returns false'. Refute it at one input. -/
def fnExactHolmManyWrong : ChangeSpec := { name := "fnExactHolmMany", fn := fun _ => fun
  | [d] => { results := [.lit (.bool false)], args := [d] }
  | _ => none }
def FnExactHolmManyWrongFalsely : Prop := fnExactHolmManyRow.holds Try.pinned (OpenSpec.ofChange fnExactHolmManyWrong)

/-- 'laws.FnExactStepMany': WHATEVER THE INPUT: true; the input reads as it did. -/
def fnExactStepManySpec : ChangeSpec := { name := "fnExactStepMany", fn := fun _ => fun
  | [d] => { results := [.lit (.bool true)], args := [d] }
  | _ => none }
def fnExactStepManyRow : OpenClaim := { program := "ytlnhobikejbkkaa", sum := "76d862bc8408190a1a66476fe3fa9fa7b4a74c26f8a593f6bfde05f543c2b7df", func := "loop.example/g01339/laws.FnExactStepMany", spec := "fnExactStepMany", unfollowed := true, recurses := true, apart := false }
def FnExactStepManySaid : Prop := fnExactStepManyRow.holds Try.pinned (OpenSpec.ofChange fnExactStepManySpec)

/-- ITS FALSE NEIGHBOUR: 'it returns false'. Refute it at one input. -/
def fnExactStepManyWrong : ChangeSpec := { name := "fnExactStepMany", fn := fun _ => fun
  | [d] => { results := [.lit (.bool false)], args := [d] }
  | _ => none }
def FnExactStepManyWrongFalsely : Prop := fnExactStepManyRow.holds Try.pinned (OpenSpec.ofChange fnExactStepManyWrong)

/-- 'laws.FnExactRatioWalk': WHATEVER THE INPUT: true; the input reads as it did. -/
def fnExactRatioWalkSpec : ChangeSpec := { name := "fnExactRatioWalk", fn := fun _ => fun
  | [d1, d2, d3] => { results := [.lit (.bool true)], args := [d1, d2, d3] }
  | _ => none }
def fnExactRatioWalkRow : OpenClaim := { program := "ytlnhobikejbkkaa", sum := "76d862bc8408190a1a66476fe3fa9fa7b4a74c26f8a593f6bfde05f543c2b7df", func := "loop.example/g01339/laws.FnExactRatioWalk", spec := "fnExactRatioWalk", inPlace := ["math.Float64frombits", "math.Float64bits"], unfollowed := true, recurses := true, apart := false }
def FnExactRatioWalkSaid : Prop := fnExactRatioWalkRow.holds Try.pinned (OpenSpec.ofChange fnExactRatioWalkSpec)

/-- ITS FALSE NEIGHBOUR: 'it returns false'. Refute it at one input. -/
def fnExactRatioWalkWrong : ChangeSpec := { name := "fnExactRatioWalk", fn := fun _ => fun
  | [d1, d2, d3] => { results := [.lit (.bool false)], args := [d1, d2, d3] }
  | _ => none }
def FnExactRatioWalkWrongFalsely : Prop := fnExactRatioWalkRow.holds Try.pinned (OpenSpec.ofChange fnExactRatioWalkWrong)

/-- 'laws.FnExactRatioStop': WHATEVER THE INPUT: true; the input reads as it did. -/
def fnExactRatioStopSpec : ChangeSpec := { name := "fnExactRatioStop", fn := fun _ => fun
  | [d1, d2, d3, d4, d5] => { results := [.lit (.bool true)], args := [d1, d2, d3, d4, d5] }
  | _ => none }
def fnExactRatioStopRow : OpenClaim := { program := "ytlnhobikejbkkaa", sum := "76d862bc8408190a1a66476fe3fa9fa7b4a74c26f8a593f6bfde05f543c2b7df", func := "loop.example/g01339/laws.FnExactRatioStop", spec := "fnExactRatioStop", inPlace := ["math.Float64frombits", "math.Float64bits"], unfollowed := true, recurses := true, apart := false }
def FnExactRatioStopSaid : Prop := fnExactRatioStopRow.holds Try.pinned (OpenSpec.ofChange fnExactRatioStopSpec)

/-- ITS FALSE NEIGHBOUR: 'it returns false'. Refute it at one input. -/
def fnExactRatioStopWrong : ChangeSpec := { name := "fnExactRatioStop", fn := fun _ => fun
  | [d1, d2, d3, d4, d5] => { results := [.lit (.bool false)], args := [d1, d2, d3, d4, d5] }
  | _ => none }
def FnExactRatioStopWrongFalsely : Prop := fnExactRatioStopRow.holds Try.pinned (OpenSpec.ofChange fnExactRatioStopWrong)

/-- 'laws.FnExactBetWealth': WHATEVER THE INPUT: true; the input reads as it did. -/
def fnExactBetWealthSpec : ChangeSpec := { name := "fnExactBetWealth", fn := fun _ => fun
  | [d1, d2, d3] => { results := [.lit (.bool true)], args := [d1, d2, d3] }
  | _ => none }
def fnExactBetWealthRow : OpenClaim := { program := "ytlnhobikejbkkaa", sum := "76d862bc8408190a1a66476fe3fa9fa7b4a74c26f8a593f6bfde05f543c2b7df", func := "loop.example/g01339/laws.FnExactBetWealth", spec := "fnExactBetWealth", inPlace := ["math.Float64bits", "math.Float64frombits"], unfollowed := true, recurses := true, apart := false }
def FnExactBetWealthSaid : Prop := fnExactBetWealthRow.holds Try.pinned (OpenSpec.ofChange fnExactBetWealthSpec)

/-- ITS FALSE NEIGHBOUR: 'it returns false'. Refute it at one input. -/
def fnExactBetWealthWrong : ChangeSpec := { name := "fnExactBetWealth", fn := fun _ => fun
  | [d1, d2, d3] => { results := [.lit (.bool false)], args := [d1, d2, d3] }
  | _ => none }
def FnExactBetWealthWrongFalsely : Prop := fnExactBetWealthRow.holds Try.pinned (OpenSpec.ofChange fnExactBetWealthWrong)

/-- 'laws.FnExactDrawnMeans': WHATEVER THE INPUT: true; the input reads as it did. -/
def fnExactDrawnMeansSpec : ChangeSpec := { name := "fnExactDrawnMeans", fn := fun _ => fun
  | [d1, d2, d3] => { results := [.lit (.bool true)], args := [d1, d2, d3] }
  | _ => none }
def fnExactDrawnMeansRow : OpenClaim := { program := "ytlnhobikejbkkaa", sum := "76d862bc8408190a1a66476fe3fa9fa7b4a74c26f8a593f6bfde05f543c2b7df", func := "loop.example/g01339/laws.FnExactDrawnMeans", spec := "fnExactDrawnMeans", inPlace := ["math.Float64bits", "math.Float64frombits"], unfollowed := true, recurses := true, apart := false }
def FnExactDrawnMeansSaid : Prop := fnExactDrawnMeansRow.holds Try.pinned (OpenSpec.ofChange fnExactDrawnMeansSpec)

/-- ITS FALSE NEIGHBOUR: 'it returns false'. Refute it at one input. -/
def fnExactDrawnMeansWrong : ChangeSpec := { name := "fnExactDrawnMeans", fn := fun _ => fun
  | [d1, d2, d3] => { results := [.lit (.bool false)], args := [d1, d2, d3] }
  | _ => none }
def FnExactDrawnMeansWrongFalsely : Prop := fnExactDrawnMeansRow.holds Try.pinned (OpenSpec.ofChange fnExactDrawnMeansWrong)

/-- 'laws.FnExactMixtureAt': WHATEVER THE INPUT: true; the input reads as it did. -/
def fnExactMixtureAtSpec : ChangeSpec := { name := "fnExactMixtureAt", fn := fun _ => fun
  | [d1, d2] => { results := [.lit (.bool true)], args := [d1, d2] }
  | _ => none }
def fnExactMixtureAtRow : OpenClaim := { program := "ytlnhobikejbkkaa", sum := "76d862bc8408190a1a66476fe3fa9fa7b4a74c26f8a593f6bfde05f543c2b7df", func := "loop.example/g01339/laws.FnExactMixtureAt", spec := "fnExactMixtureAt", inPlace := ["math.Float64frombits", "math.Float64bits"], apart := false }
def FnExactMixtureAtSaid : Prop := fnExactMixtureAtRow.holds Try.pinned (OpenSpec.ofChange fnExactMixtureAtSpec)

/-- ITS FALSE NEIGHBOUR: 'it returns false'. Refute it at one input. -/
def fnExactMixtureAtWrong : ChangeSpec := { name := "fnExactMixtureAt", fn := fun _ => fun
  | [d1, d2] => { results := [.lit (.bool false)], args := [d1, d2] }
  | _ => none }
def FnExactMixtureAtWrongFalsely : Prop := fnExactMixtureAtRow.holds Try.pinned (OpenSpec.ofChange fnExactMixtureAtWrong)

/-- 'laws.FnExactLikeOf': WHATEVER THE INPUT: true; the input reads as it did. -/
def fnExactLikeOfSpec : ChangeSpec := { name := "fnExactLikeOf", fn := fun _ => fun
  | [d1, d2] => { results := [.lit (.bool true)], args := [d1, d2] }
  | _ => none }
def fnExactLikeOfRow : OpenClaim := { program := "ytlnhobikejbkkaa", sum := "76d862bc8408190a1a66476fe3fa9fa7b4a74c26f8a593f6bfde05f543c2b7df", func := "loop.example/g01339/laws.FnExactLikeOf", spec := "fnExactLikeOf", inPlace := ["math.Float64frombits", "math.Float64bits"], apart := false }
def FnExactLikeOfSaid : Prop := fnExactLikeOfRow.holds Try.pinned (OpenSpec.ofChange fnExactLikeOfSpec)

/-- ITS FALSE NEIGHBOUR: 'it returns false'. Refute it at one input. -/
def fnExactLikeOfWrong : ChangeSpec := { name := "fnExactLikeOf", fn := fun _ => fun
  | [d1, d2] => { results := [.lit (.bool false)], args := [d1, d2] }
  | _ => none }
def FnExactLikeOfWrongFalsely : Prop := fnExactLikeOfRow.holds Try.pinned (OpenSpec.ofChange fnExactLikeOfWrong)

/-- 'laws.FnExactDrawnTail': WHATEVER THE INPUT: true; the input reads as it did. -/
def fnExactDrawnTailSpec : ChangeSpec := { name := "fnExactDrawnTail", fn := fun _ => fun
  | [d1, d2, d3, d4] => { results := [.lit (.bool true)], args := [d1, d2, d3, d4] }
  | _ => none }
def fnExactDrawnTailRow : OpenClaim := { program := "ytlnhobikejbkkaa", sum := "76d862bc8408190a1a66476fe3fa9fa7b4a74c26f8a593f6bfde05f543c2b7df", func := "loop.example/g01339/laws.FnExactDrawnTail", spec := "fnExactDrawnTail", unfollowed := true, recurses := true, apart := false }
def FnExactDrawnTailSaid : Prop := fnExactDrawnTailRow.holds Try.pinned (OpenSpec.ofChange fnExactDrawnTailSpec)

/-- ITS FALSE NEIGHBOUR: 'it returns false'. Refute it at one input. -/
def fnExactDrawnTailWrong : ChangeSpec := { name := "fnExactDrawnTail", fn := fun _ => fun
  | [d1, d2, d3, d4] => { results := [.lit (.bool false)], args := [d1, d2, d3, d4] }
  | _ => none }
def FnExactDrawnTailWrongFalsely : Prop := fnExactDrawnTailRow.holds Try.pinned (OpenSpec.ofChange fnExactDrawnTailWrong)

/- THE SECOND FORM. 'bulk': how many values and letters a reading holds, each counted each time it is reached (what is shared counts as often as it is met; a slice's spare places count too). A statement '..UptoSaid' is the law's where the arguments, and the package variables that the reading takes, are together of bulk at most 1048576: NARROWER than '..Said'. Prove '..Said' where nothing that the law and all that it calls make is longer than what came in: it says more and counts as full. Else prove '..UptoSaid'. A law counts once. -/
mutual
def uptoBulk {H : Type} : DataW H → Nat
  | .lit (.string bytes) => bytes.length + 1
  | .lit _ => 1
  | .nil => 1
  | .ptr d => uptoBulk d + 1
  | .slice elems spare => uptoBulkAll elems + uptoBulkAll spare + 1
  | .agg parts => uptoBulkAll parts + 1
  | .iface _ d => uptoBulk d + 1
  | .map entries => uptoBulkEntries entries + 1
  | .held _ => 1
def uptoBulkAll {H : Type} : List (DataW H) → Nat
  | [] => 0
  | d :: r => uptoBulk d + uptoBulkAll r
def uptoBulkEntries {H : Type} : List (Lit × DataW H) → Nat
  | [] => 0
  | x :: r => uptoBulkEntry x + uptoBulkEntries r
def uptoBulkEntry {H : Type} : Lit × DataW H → Nat
  | (.string bytes, d) => bytes.length + uptoBulk d + 1
  | (_, d) => uptoBulk d + 1
 end
def uptoSmall : (H : Type) → List (DataW H) → Bool := fun _ ds => decide (uptoBulkAll ds ≤ 1048576)
def OpenSpec.upto (s : _root_.Go.ChangeSpec) : _root_.Go.OpenSpec := { _root_.Go.OpenSpec.ofChange s with cond := some uptoSmall }

/-- 'laws.FnExactBandOf', WHERE WHAT IT READS IS OF BULK AT MOST 1048576: true; the input reads as it did. -/
def fnExactBandOfUptoRow : OpenClaim := { program := "ytlnhobikejbkkaa", sum := "76d862bc8408190a1a66476fe3fa9fa7b4a74c26f8a593f6bfde05f543c2b7df", func := "loop.example/g01339/laws.FnExactBandOf", spec := "fnExactBandOf", inPlace := ["math.archFloor", "math.Float64bits", "math.Float64frombits", "math.archTrunc"], apart := false, narrowed := true }
def FnExactBandOfUptoSaid : Prop := fnExactBandOfUptoRow.holds Try.pinned (OpenSpec.upto fnExactBandOfSpec)

/-- 'laws.FnExactShareOfTail', WHERE WHAT IT READS IS OF BULK AT MOST 1048576: true; the input reads as it did. -/
def fnExactShareOfTailUptoRow : OpenClaim := { program := "ytlnhobikejbkkaa", sum := "76d862bc8408190a1a66476fe3fa9fa7b4a74c26f8a593f6bfde05f543c2b7df", func := "loop.example/g01339/laws.FnExactShareOfTail", spec := "fnExactShareOfTail", apart := false, narrowed := true }
def FnExactShareOfTailUptoSaid : Prop := fnExactShareOfTailUptoRow.holds Try.pinned (OpenSpec.upto fnExactShareOfTailSpec)

/-- 'laws.FnExactPlainMany', WHERE WHAT IT READS IS OF BULK AT MOST 1048576: true; the input reads as it did. -/
def fnExactPlainManyUptoRow : OpenClaim := { program := "ytlnhobikejbkkaa", sum := "76d862bc8408190a1a66476fe3fa9fa7b4a74c26f8a593f6bfde05f543c2b7df", func := "loop.example/g01339/laws.FnExactPlainMany", spec := "fnExactPlainMany", apart := false, narrowed := true }
def FnExactPlainManyUptoSaid : Prop := fnExactPlainManyUptoRow.holds Try.pinned (OpenSpec.upto fnExactPlainManySpec)

/-- 'laws.FnExactHolmMany', WHERE WHAT IT READS IS OF BULK AT MOST 1048576: true; the input reads as it did. -/
def fnExactHolmManyUptoRow : OpenClaim := { program := "ytlnhobikejbkkaa", sum := "76d862bc8408190a1a66476fe3fa9fa7b4a74c26f8a593f6bfde05f543c2b7df", func := "loop.example/g01339/laws.FnExactHolmMany", spec := "fnExactHolmMany", unfollowed := true, recurses := true, apart := false, narrowed := true }
def FnExactHolmManyUptoSaid : Prop := fnExactHolmManyUptoRow.holds Try.pinned (OpenSpec.upto fnExactHolmManySpec)

/-- 'laws.FnExactStepMany', WHERE WHAT IT READS IS OF BULK AT MOST 1048576: true; the input reads as it did. -/
def fnExactStepManyUptoRow : OpenClaim := { program := "ytlnhobikejbkkaa", sum := "76d862bc8408190a1a66476fe3fa9fa7b4a74c26f8a593f6bfde05f543c2b7df", func := "loop.example/g01339/laws.FnExactStepMany", spec := "fnExactStepMany", unfollowed := true, recurses := true, apart := false, narrowed := true }
def FnExactStepManyUptoSaid : Prop := fnExactStepManyUptoRow.holds Try.pinned (OpenSpec.upto fnExactStepManySpec)

/-- 'laws.FnExactRatioWalk', WHERE WHAT IT READS IS OF BULK AT MOST 1048576: true; the input reads as it did. -/
def fnExactRatioWalkUptoRow : OpenClaim := { program := "ytlnhobikejbkkaa", sum := "76d862bc8408190a1a66476fe3fa9fa7b4a74c26f8a593f6bfde05f543c2b7df", func := "loop.example/g01339/laws.FnExactRatioWalk", spec := "fnExactRatioWalk", inPlace := ["math.Float64frombits", "math.Float64bits"], unfollowed := true, recurses := true, apart := false, narrowed := true }
def FnExactRatioWalkUptoSaid : Prop := fnExactRatioWalkUptoRow.holds Try.pinned (OpenSpec.upto fnExactRatioWalkSpec)

/-- 'laws.FnExactRatioStop', WHERE WHAT IT READS IS OF BULK AT MOST 1048576: true; the input reads as it did. -/
def fnExactRatioStopUptoRow : OpenClaim := { program := "ytlnhobikejbkkaa", sum := "76d862bc8408190a1a66476fe3fa9fa7b4a74c26f8a593f6bfde05f543c2b7df", func := "loop.example/g01339/laws.FnExactRatioStop", spec := "fnExactRatioStop", inPlace := ["math.Float64frombits", "math.Float64bits"], unfollowed := true, recurses := true, apart := false, narrowed := true }
def FnExactRatioStopUptoSaid : Prop := fnExactRatioStopUptoRow.holds Try.pinned (OpenSpec.upto fnExactRatioStopSpec)

/-- 'laws.FnExactBetWealth', WHERE WHAT IT READS IS OF BULK AT MOST 1048576: true; the input reads as it did. -/
def fnExactBetWealthUptoRow : OpenClaim := { program := "ytlnhobikejbkkaa", sum := "76d862bc8408190a1a66476fe3fa9fa7b4a74c26f8a593f6bfde05f543c2b7df", func := "loop.example/g01339/laws.FnExactBetWealth", spec := "fnExactBetWealth", inPlace := ["math.Float64bits", "math.Float64frombits"], unfollowed := true, recurses := true, apart := false, narrowed := true }
def FnExactBetWealthUptoSaid : Prop := fnExactBetWealthUptoRow.holds Try.pinned (OpenSpec.upto fnExactBetWealthSpec)

/-- 'laws.FnExactDrawnMeans', WHERE WHAT IT READS IS OF BULK AT MOST 1048576: true; the input reads as it did. -/
def fnExactDrawnMeansUptoRow : OpenClaim := { program := "ytlnhobikejbkkaa", sum := "76d862bc8408190a1a66476fe3fa9fa7b4a74c26f8a593f6bfde05f543c2b7df", func := "loop.example/g01339/laws.FnExactDrawnMeans", spec := "fnExactDrawnMeans", inPlace := ["math.Float64bits", "math.Float64frombits"], unfollowed := true, recurses := true, apart := false, narrowed := true }
def FnExactDrawnMeansUptoSaid : Prop := fnExactDrawnMeansUptoRow.holds Try.pinned (OpenSpec.upto fnExactDrawnMeansSpec)

/-- 'laws.FnExactMixtureAt', WHERE WHAT IT READS IS OF BULK AT MOST 1048576: true; the input reads as it did. -/
def fnExactMixtureAtUptoRow : OpenClaim := { program := "ytlnhobikejbkkaa", sum := "76d862bc8408190a1a66476fe3fa9fa7b4a74c26f8a593f6bfde05f543c2b7df", func := "loop.example/g01339/laws.FnExactMixtureAt", spec := "fnExactMixtureAt", inPlace := ["math.Float64frombits", "math.Float64bits"], apart := false, narrowed := true }
def FnExactMixtureAtUptoSaid : Prop := fnExactMixtureAtUptoRow.holds Try.pinned (OpenSpec.upto fnExactMixtureAtSpec)

/-- 'laws.FnExactLikeOf', WHERE WHAT IT READS IS OF BULK AT MOST 1048576: true; the input reads as it did. -/
def fnExactLikeOfUptoRow : OpenClaim := { program := "ytlnhobikejbkkaa", sum := "76d862bc8408190a1a66476fe3fa9fa7b4a74c26f8a593f6bfde05f543c2b7df", func := "loop.example/g01339/laws.FnExactLikeOf", spec := "fnExactLikeOf", inPlace := ["math.Float64frombits", "math.Float64bits"], apart := false, narrowed := true }
def FnExactLikeOfUptoSaid : Prop := fnExactLikeOfUptoRow.holds Try.pinned (OpenSpec.upto fnExactLikeOfSpec)

/-- 'laws.FnExactDrawnTail', WHERE WHAT IT READS IS OF BULK AT MOST 1048576: true; the input reads as it did. -/
def fnExactDrawnTailUptoRow : OpenClaim := { program := "ytlnhobikejbkkaa", sum := "76d862bc8408190a1a66476fe3fa9fa7b4a74c26f8a593f6bfde05f543c2b7df", func := "loop.example/g01339/laws.FnExactDrawnTail", spec := "fnExactDrawnTail", unfollowed := true, recurses := true, apart := false, narrowed := true }
def FnExactDrawnTailUptoSaid : Prop := fnExactDrawnTailUptoRow.holds Try.pinned (OpenSpec.upto fnExactDrawnTailSpec)

end Rows
end Go.Proofs.Ytlnhobikejbkkaa
