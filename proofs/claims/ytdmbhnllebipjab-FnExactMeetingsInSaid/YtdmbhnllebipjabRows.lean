/-
  No cell of these rows narrows 'for every input' (looked for: loops, veiled, ifaces, maps, wideKeys, modest, calm, conditions, laid).
  DERIVED. THE GIVEN ROWS OF THIS SEAT. 12 by the template 'for every input the law returns true; each argument reads behind the call as it read before'; 0 by the template 'total and deterministic' (their statements: YtdmbhnllebipjabTotals.lean).
  GIVEN WITH THE SEED: the statements are not yours to turn. If you find one false, say at which input.
  Laid BY PROGRAM, IN A SANDBOX (cutbox-rows.mjs): the forced cells as the released guide's own fill.sh prints them over the translation c9c0c1db4efc8d83… (all of the seat's roots in one cut). By AI agents, Wed Nov 11 2026. No macro, syntax, notation, axiom, sorry.
-/
import Derived.Test.YtdmbhnllebipjabChecked
import GoSem.Claim
import GoSem.ClaimJoined
import GoSem.ClaimMapViews
import Derived.JoinedTies
import Derived.KernelRfl
namespace Go.Proofs.Ytdmbhnllebipjab
/- THE CELL 'sum', in the pinned program and in every row, IS THE sha256 OF THE DUMP (.gsa) THAT YtdmbhnllebipjabProg.lean LOADS. Nothing in Lean hashes anything: it is a label: what it is worth is what the hold of that sum in a sandbox is worth. -/
noncomputable def Try.pinned : Pinned := { name := "ytdmbhnllebipjab", sum := "c9c0c1db4efc8d8384a123af3db33210f8536da4a2001d18aac362f6f083e5be", checked := Try.checked }
namespace Rows
def none {H : Type} : Left H := { results := [], args := [] }

/-- 'laws.FnExactCombineSeeds': WHATEVER THE INPUT: true; the input reads as it did. -/
def fnExactCombineSeedsSpec : ChangeSpec := { name := "fnExactCombineSeeds", fn := fun _ => fun
  | [d1, d2, d3] => { results := [.lit (.bool true)], args := [d1, d2, d3] }
  | _ => none }
def fnExactCombineSeedsRow : OpenClaim := { program := "ytdmbhnllebipjab", sum := "c9c0c1db4efc8d8384a123af3db33210f8536da4a2001d18aac362f6f083e5be", func := "loop.example/g01339/laws.FnExactCombineSeeds", spec := "fnExactCombineSeeds", apart := false }
def FnExactCombineSeedsSaid : Prop := fnExactCombineSeedsRow.holds Try.pinned (OpenSpec.ofChange fnExactCombineSeedsSpec)

/-- ITS FALSE NEIGHBOUR: 'it returns false'. Refute it at one input. -/
def fnExactCombineSeedsWrong : ChangeSpec := { name := "fnExactCombineSeeds", fn := fun _ => fun
  | [d1, d2, d3] => { results := [.lit (.bool false)], args := [d1, d2, d3] }
  | _ => none }
def FnExactCombineSeedsWrongFalsely : Prop := fnExactCombineSeedsRow.holds Try.pinned (OpenSpec.ofChange fnExactCombineSeedsWrong)

/-- 'laws.FnExactBelowSeed': WHATEVER THE INPUT: true; the input reads as it did. -/
def fnExactBelowSeedSpec : ChangeSpec := { name := "fnExactBelowSeed", fn := fun _ => fun
  | [d1, d2] => { results := [.lit (.bool true)], args := [d1, d2] }
  | _ => none }
def fnExactBelowSeedRow : OpenClaim := { program := "ytdmbhnllebipjab", sum := "c9c0c1db4efc8d8384a123af3db33210f8536da4a2001d18aac362f6f083e5be", func := "loop.example/g01339/laws.FnExactBelowSeed", spec := "fnExactBelowSeed", apart := false }
def FnExactBelowSeedSaid : Prop := fnExactBelowSeedRow.holds Try.pinned (OpenSpec.ofChange fnExactBelowSeedSpec)

/-- ITS FALSE NEIGHBOUR: 'it returns false'. Refute it at one input. -/
def fnExactBelowSeedWrong : ChangeSpec := { name := "fnExactBelowSeed", fn := fun _ => fun
  | [d1, d2] => { results := [.lit (.bool false)], args := [d1, d2] }
  | _ => none }
def FnExactBelowSeedWrongFalsely : Prop := fnExactBelowSeedRow.holds Try.pinned (OpenSpec.ofChange fnExactBelowSeedWrong)

/-- 'laws.FnExactShareSeed': WHATEVER THE INPUT: true; the input reads as it did. -/
def fnExactShareSeedSpec : ChangeSpec := { name := "fnExactShareSeed", fn := fun _ => fun
  | [d] => { results := [.lit (.bool true)], args := [d] }
  | _ => none }
def fnExactShareSeedRow : OpenClaim := { program := "ytdmbhnllebipjab", sum := "c9c0c1db4efc8d8384a123af3db33210f8536da4a2001d18aac362f6f083e5be", func := "loop.example/g01339/laws.FnExactShareSeed", spec := "fnExactShareSeed", apart := false }
def FnExactShareSeedSaid : Prop := fnExactShareSeedRow.holds Try.pinned (OpenSpec.ofChange fnExactShareSeedSpec)

/-- ITS FALSE NEIGHBOUR: 'it returns false'. Refute it at one input. -/
def fnExactShareSeedWrong : ChangeSpec := { name := "fnExactShareSeed", fn := fun _ => fun
  | [d] => { results := [.lit (.bool false)], args := [d] }
  | _ => none }
def FnExactShareSeedWrongFalsely : Prop := fnExactShareSeedRow.holds Try.pinned (OpenSpec.ofChange fnExactShareSeedWrong)

/-- 'laws.FnExactBitsOfWords': WHATEVER THE INPUT: true; the input reads as it did. -/
def fnExactBitsOfWordsSpec : ChangeSpec := { name := "fnExactBitsOfWords", fn := fun _ => fun
  | [d1, d2] => { results := [.lit (.bool true)], args := [d1, d2] }
  | _ => none }
def fnExactBitsOfWordsRow : OpenClaim := { program := "ytdmbhnllebipjab", sum := "c9c0c1db4efc8d8384a123af3db33210f8536da4a2001d18aac362f6f083e5be", func := "loop.example/g01339/laws.FnExactBitsOfWords", spec := "fnExactBitsOfWords", apart := false }
def FnExactBitsOfWordsSaid : Prop := fnExactBitsOfWordsRow.holds Try.pinned (OpenSpec.ofChange fnExactBitsOfWordsSpec)

/-- ITS FALSE NEIGHBOUR: 'it returns false'. Refute it at one input. -/
def fnExactBitsOfWordsWrong : ChangeSpec := { name := "fnExactBitsOfWords", fn := fun _ => fun
  | [d1, d2] => { results := [.lit (.bool false)], args := [d1, d2] }
  | _ => none }
def FnExactBitsOfWordsWrongFalsely : Prop := fnExactBitsOfWordsRow.holds Try.pinned (OpenSpec.ofChange fnExactBitsOfWordsWrong)

/-- 'laws.FnExactAreWords': WHATEVER THE INPUT: true; the input reads as it did. -/
def fnExactAreWordsSpec : ChangeSpec := { name := "fnExactAreWords", fn := fun _ => fun
  | [d] => { results := [.lit (.bool true)], args := [d] }
  | _ => none }
def fnExactAreWordsRow : OpenClaim := { program := "ytdmbhnllebipjab", sum := "c9c0c1db4efc8d8384a123af3db33210f8536da4a2001d18aac362f6f083e5be", func := "loop.example/g01339/laws.FnExactAreWords", spec := "fnExactAreWords", apart := false }
def FnExactAreWordsSaid : Prop := fnExactAreWordsRow.holds Try.pinned (OpenSpec.ofChange fnExactAreWordsSpec)

/-- ITS FALSE NEIGHBOUR: 'it returns false'. Refute it at one input. -/
def fnExactAreWordsWrong : ChangeSpec := { name := "fnExactAreWords", fn := fun _ => fun
  | [d] => { results := [.lit (.bool false)], args := [d] }
  | _ => none }
def FnExactAreWordsWrongFalsely : Prop := fnExactAreWordsRow.holds Try.pinned (OpenSpec.ofChange fnExactAreWordsWrong)

/-- 'laws.FnExactRunsIn': WHATEVER THE INPUT: true; the input reads as it did. -/
def fnExactRunsInSpec : ChangeSpec := { name := "fnExactRunsIn", fn := fun _ => fun
  | [d] => { results := [.lit (.bool true)], args := [d] }
  | _ => none }
def fnExactRunsInRow : OpenClaim := { program := "ytdmbhnllebipjab", sum := "c9c0c1db4efc8d8384a123af3db33210f8536da4a2001d18aac362f6f083e5be", func := "loop.example/g01339/laws.FnExactRunsIn", spec := "fnExactRunsIn", apart := false }
def FnExactRunsInSaid : Prop := fnExactRunsInRow.holds Try.pinned (OpenSpec.ofChange fnExactRunsInSpec)

/-- ITS FALSE NEIGHBOUR: 'it returns false'. Refute it at one input. -/
def fnExactRunsInWrong : ChangeSpec := { name := "fnExactRunsIn", fn := fun _ => fun
  | [d] => { results := [.lit (.bool false)], args := [d] }
  | _ => none }
def FnExactRunsInWrongFalsely : Prop := fnExactRunsInRow.holds Try.pinned (OpenSpec.ofChange fnExactRunsInWrong)

/-- 'laws.FnExactGapsIn': WHATEVER THE INPUT: true; the input reads as it did. -/
def fnExactGapsInSpec : ChangeSpec := { name := "fnExactGapsIn", fn := fun _ => fun
  | [d1, d2] => { results := [.lit (.bool true)], args := [d1, d2] }
  | _ => none }
def fnExactGapsInRow : OpenClaim := { program := "ytdmbhnllebipjab", sum := "c9c0c1db4efc8d8384a123af3db33210f8536da4a2001d18aac362f6f083e5be", func := "loop.example/g01339/laws.FnExactGapsIn", spec := "fnExactGapsIn", apart := false }
def FnExactGapsInSaid : Prop := fnExactGapsInRow.holds Try.pinned (OpenSpec.ofChange fnExactGapsInSpec)

/-- ITS FALSE NEIGHBOUR: 'it returns false'. Refute it at one input. -/
def fnExactGapsInWrong : ChangeSpec := { name := "fnExactGapsIn", fn := fun _ => fun
  | [d1, d2] => { results := [.lit (.bool false)], args := [d1, d2] }
  | _ => none }
def FnExactGapsInWrongFalsely : Prop := fnExactGapsInRow.holds Try.pinned (OpenSpec.ofChange fnExactGapsInWrong)

/-- 'laws.FnExactHandsIn': WHATEVER THE INPUT: true; the input reads as it did. -/
def fnExactHandsInSpec : ChangeSpec := { name := "fnExactHandsIn", fn := fun _ => fun
  | [d] => { results := [.lit (.bool true)], args := [d] }
  | _ => none }
def fnExactHandsInRow : OpenClaim := { program := "ytdmbhnllebipjab", sum := "c9c0c1db4efc8d8384a123af3db33210f8536da4a2001d18aac362f6f083e5be", func := "loop.example/g01339/laws.FnExactHandsIn", spec := "fnExactHandsIn", apart := false }
def FnExactHandsInSaid : Prop := fnExactHandsInRow.holds Try.pinned (OpenSpec.ofChange fnExactHandsInSpec)

/-- ITS FALSE NEIGHBOUR: 'it returns false'. Refute it at one input. -/
def fnExactHandsInWrong : ChangeSpec := { name := "fnExactHandsIn", fn := fun _ => fun
  | [d] => { results := [.lit (.bool false)], args := [d] }
  | _ => none }
def FnExactHandsInWrongFalsely : Prop := fnExactHandsInRow.holds Try.pinned (OpenSpec.ofChange fnExactHandsInWrong)

/-- 'laws.FnExactPairsIn': WHATEVER THE INPUT: true; the input reads as it did. -/
def fnExactPairsInSpec : ChangeSpec := { name := "fnExactPairsIn", fn := fun _ => fun
  | [d1, d2] => { results := [.lit (.bool true)], args := [d1, d2] }
  | _ => none }
def fnExactPairsInRow : OpenClaim := { program := "ytdmbhnllebipjab", sum := "c9c0c1db4efc8d8384a123af3db33210f8536da4a2001d18aac362f6f083e5be", func := "loop.example/g01339/laws.FnExactPairsIn", spec := "fnExactPairsIn", apart := false }
def FnExactPairsInSaid : Prop := fnExactPairsInRow.holds Try.pinned (OpenSpec.ofChange fnExactPairsInSpec)

/-- ITS FALSE NEIGHBOUR: 'it returns false'. Refute it at one input. -/
def fnExactPairsInWrong : ChangeSpec := { name := "fnExactPairsIn", fn := fun _ => fun
  | [d1, d2] => { results := [.lit (.bool false)], args := [d1, d2] }
  | _ => none }
def FnExactPairsInWrongFalsely : Prop := fnExactPairsInRow.holds Try.pinned (OpenSpec.ofChange fnExactPairsInWrong)

/-- 'laws.FnExactRankOfBits': WHATEVER THE INPUT: true; the input reads as it did. -/
def fnExactRankOfBitsSpec : ChangeSpec := { name := "fnExactRankOfBits", fn := fun _ => fun
  | [d] => { results := [.lit (.bool true)], args := [d] }
  | _ => none }
def fnExactRankOfBitsRow : OpenClaim := { program := "ytdmbhnllebipjab", sum := "c9c0c1db4efc8d8384a123af3db33210f8536da4a2001d18aac362f6f083e5be", func := "loop.example/g01339/laws.FnExactRankOfBits", spec := "fnExactRankOfBits", apart := false }
def FnExactRankOfBitsSaid : Prop := fnExactRankOfBitsRow.holds Try.pinned (OpenSpec.ofChange fnExactRankOfBitsSpec)

/-- ITS FALSE NEIGHBOUR: 'it returns false'. Refute it at one input. -/
def fnExactRankOfBitsWrong : ChangeSpec := { name := "fnExactRankOfBits", fn := fun _ => fun
  | [d] => { results := [.lit (.bool false)], args := [d] }
  | _ => none }
def FnExactRankOfBitsWrongFalsely : Prop := fnExactRankOfBitsRow.holds Try.pinned (OpenSpec.ofChange fnExactRankOfBitsWrong)

/-- 'laws.FnExactMeetingsIn': WHATEVER THE INPUT: true; the input reads as it did. -/
def fnExactMeetingsInSpec : ChangeSpec := { name := "fnExactMeetingsIn", fn := fun _ => fun
  | [d1, d2] => { results := [.lit (.bool true)], args := [d1, d2] }
  | _ => none }
def fnExactMeetingsInRow : OpenClaim := { program := "ytdmbhnllebipjab", sum := "c9c0c1db4efc8d8384a123af3db33210f8536da4a2001d18aac362f6f083e5be", func := "loop.example/g01339/laws.FnExactMeetingsIn", spec := "fnExactMeetingsIn", recurses := true, apart := false }
def FnExactMeetingsInSaid : Prop := fnExactMeetingsInRow.holds Try.pinned (OpenSpec.ofChange fnExactMeetingsInSpec)

/-- ITS FALSE NEIGHBOUR: 'it returns false'. Refute it at one input. -/
def fnExactMeetingsInWrong : ChangeSpec := { name := "fnExactMeetingsIn", fn := fun _ => fun
  | [d1, d2] => { results := [.lit (.bool false)], args := [d1, d2] }
  | _ => none }
def FnExactMeetingsInWrongFalsely : Prop := fnExactMeetingsInRow.holds Try.pinned (OpenSpec.ofChange fnExactMeetingsInWrong)

/-- 'laws.FnExactChiOf': WHATEVER THE INPUT: true; the input reads as it did. -/
def fnExactChiOfSpec : ChangeSpec := { name := "fnExactChiOf", fn := fun _ => fun
  | [d1, d2] => { results := [.lit (.bool true)], args := [d1, d2] }
  | _ => none }
def fnExactChiOfRow : OpenClaim := { program := "ytdmbhnllebipjab", sum := "c9c0c1db4efc8d8384a123af3db33210f8536da4a2001d18aac362f6f083e5be", func := "loop.example/g01339/laws.FnExactChiOf", spec := "fnExactChiOf", inPlace := ["math.Float64bits", "math.Float64frombits"], apart := false }
def FnExactChiOfSaid : Prop := fnExactChiOfRow.holds Try.pinned (OpenSpec.ofChange fnExactChiOfSpec)

/-- ITS FALSE NEIGHBOUR: 'it returns false'. Refute it at one input. -/
def fnExactChiOfWrong : ChangeSpec := { name := "fnExactChiOf", fn := fun _ => fun
  | [d1, d2] => { results := [.lit (.bool false)], args := [d1, d2] }
  | _ => none }
def FnExactChiOfWrongFalsely : Prop := fnExactChiOfRow.holds Try.pinned (OpenSpec.ofChange fnExactChiOfWrong)

/- THE SECOND FORM. 'bulk': how many values and letters a reading holds, each counted each time it is reached (what is shared counts as often as it is met; a slice's spare places count too). A statement '..UptoSaid' is the law's where the arguments, and the package variables that the reading takes, are together of bulk at most 1048576: NARROWER than '..Said'. Prove '..Said' where nothing that the law and all that it calls make is longer than what came in: it says more and counts as full. Else prove '..UptoSaid'. A law counts once. -/
mutual
def uptoBulk {H : Type} : DataW H → Nat
  | .lit (.string bytes) => bytes.length + 1
  | .lit _ => 1
  | .nil => 1
  | .ptr d => uptoBulk d + 1
  | .slice elems spare => uptoBulkAll elems + uptoBulkAll spare + 1
  | .agg parts => uptoBulkAll parts + 1
  | .iface _ d => uptoBulk d + 1
  | .map entries => uptoBulkEntries entries + 1
  | .held _ => 1
def uptoBulkAll {H : Type} : List (DataW H) → Nat
  | [] => 0
  | d :: r => uptoBulk d + uptoBulkAll r
def uptoBulkEntries {H : Type} : List (Lit × DataW H) → Nat
  | [] => 0
  | x :: r => uptoBulkEntry x + uptoBulkEntries r
def uptoBulkEntry {H : Type} : Lit × DataW H → Nat
  | (.string bytes, d) => bytes.length + uptoBulk d + 1
  | (_, d) => uptoBulk d + 1
 end
def uptoSmall : (H : Type) → List (DataW H) → Bool := fun _ ds => decide (uptoBulkAll ds ≤ 1048576)
def OpenSpec.upto (s : _root_.Go.ChangeSpec) : _root_.Go.OpenSpec := { _root_.Go.OpenSpec.ofChange s with cond := some uptoSmall }

/-- 'laws.FnExactCombineSeeds', WHERE WHAT IT READS IS OF BULK AT MOST 1048576: true; the input reads as it did. -/
def fnExactCombineSeedsUptoRow : OpenClaim := { program := "ytdmbhnllebipjab", sum := "c9c0c1db4efc8d8384a123af3db33210f8536da4a2001d18aac362f6f083e5be", func := "loop.example/g01339/laws.FnExactCombineSeeds", spec := "fnExactCombineSeeds", apart := false, narrowed := true }
def FnExactCombineSeedsUptoSaid : Prop := fnExactCombineSeedsUptoRow.holds Try.pinned (OpenSpec.upto fnExactCombineSeedsSpec)

/-- 'laws.FnExactBelowSeed', WHERE WHAT IT READS IS OF BULK AT MOST 1048576: true; the input reads as it did. -/
def fnExactBelowSeedUptoRow : OpenClaim := { program := "ytdmbhnllebipjab", sum := "c9c0c1db4efc8d8384a123af3db33210f8536da4a2001d18aac362f6f083e5be", func := "loop.example/g01339/laws.FnExactBelowSeed", spec := "fnExactBelowSeed", apart := false, narrowed := true }
def FnExactBelowSeedUptoSaid : Prop := fnExactBelowSeedUptoRow.holds Try.pinned (OpenSpec.upto fnExactBelowSeedSpec)

/-- 'laws.FnExactShareSeed', WHERE WHAT IT READS IS OF BULK AT MOST 1048576: true; the input reads as it did. -/
def fnExactShareSeedUptoRow : OpenClaim := { program := "ytdmbhnllebipjab", sum := "c9c0c1db4efc8d8384a123af3db33210f8536da4a2001d18aac362f6f083e5be", func := "loop.example/g01339/laws.FnExactShareSeed", spec := "fnExactShareSeed", apart := false, narrowed := true }
def FnExactShareSeedUptoSaid : Prop := fnExactShareSeedUptoRow.holds Try.pinned (OpenSpec.upto fnExactShareSeedSpec)

/-- 'laws.FnExactBitsOfWords', WHERE WHAT IT READS IS OF BULK AT MOST 1048576: true; the input reads as it did. -/
def fnExactBitsOfWordsUptoRow : OpenClaim := { program := "ytdmbhnllebipjab", sum := "c9c0c1db4efc8d8384a123af3db33210f8536da4a2001d18aac362f6f083e5be", func := "loop.example/g01339/laws.FnExactBitsOfWords", spec := "fnExactBitsOfWords", apart := false, narrowed := true }
def FnExactBitsOfWordsUptoSaid : Prop := fnExactBitsOfWordsUptoRow.holds Try.pinned (OpenSpec.upto fnExactBitsOfWordsSpec)

/-- 'laws.FnExactAreWords', WHERE WHAT IT READS IS OF BULK AT MOST 1048576: true; the input reads as it did. -/
def fnExactAreWordsUptoRow : OpenClaim := { program := "ytdmbhnllebipjab", sum := "c9c0c1db4efc8d8384a123af3db33210f8536da4a2001d18aac362f6f083e5be", func := "loop.example/g01339/laws.FnExactAreWords", spec := "fnExactAreWords", apart := false, narrowed := true }
def FnExactAreWordsUptoSaid : Prop := fnExactAreWordsUptoRow.holds Try.pinned (OpenSpec.upto fnExactAreWordsSpec)

/-- 'laws.FnExactRunsIn', WHERE WHAT IT READS IS OF BULK AT MOST 1048576: true; the input reads as it did. -/
def fnExactRunsInUptoRow : OpenClaim := { program := "ytdmbhnllebipjab", sum := "c9c0c1db4efc8d8384a123af3db33210f8536da4a2001d18aac362f6f083e5be", func := "loop.example/g01339/laws.FnExactRunsIn", spec := "fnExactRunsIn", apart := false, narrowed := true }
def FnExactRunsInUptoSaid : Prop := fnExactRunsInUptoRow.holds Try.pinned (OpenSpec.upto fnExactRunsInSpec)

/-- 'laws.FnExactGapsIn', WHERE WHAT IT READS IS OF BULK AT MOST 1048576: true; the input reads as it did. -/
def fnExactGapsInUptoRow : OpenClaim := { program := "ytdmbhnllebipjab", sum := "c9c0c1db4efc8d8384a123af3db33210f8536da4a2001d18aac362f6f083e5be", func := "loop.example/g01339/laws.FnExactGapsIn", spec := "fnExactGapsIn", apart := false, narrowed := true }
def FnExactGapsInUptoSaid : Prop := fnExactGapsInUptoRow.holds Try.pinned (OpenSpec.upto fnExactGapsInSpec)

/-- 'laws.FnExactHandsIn', WHERE WHAT IT READS IS OF BULK AT MOST 1048576: true; the input reads as it did. -/
def fnExactHandsInUptoRow : OpenClaim := { program := "ytdmbhnllebipjab", sum := "c9c0c1db4efc8d8384a123af3db33210f8536da4a2001d18aac362f6f083e5be", func := "loop.example/g01339/laws.FnExactHandsIn", spec := "fnExactHandsIn", apart := false, narrowed := true }
def FnExactHandsInUptoSaid : Prop := fnExactHandsInUptoRow.holds Try.pinned (OpenSpec.upto fnExactHandsInSpec)

/-- 'laws.FnExactPairsIn', WHERE WHAT IT READS IS OF BULK AT MOST 1048576: true; the input reads as it did. -/
def fnExactPairsInUptoRow : OpenClaim := { program := "ytdmbhnllebipjab", sum := "c9c0c1db4efc8d8384a123af3db33210f8536da4a2001d18aac362f6f083e5be", func := "loop.example/g01339/laws.FnExactPairsIn", spec := "fnExactPairsIn", apart := false, narrowed := true }
def FnExactPairsInUptoSaid : Prop := fnExactPairsInUptoRow.holds Try.pinned (OpenSpec.upto fnExactPairsInSpec)

/-- 'laws.FnExactRankOfBits', WHERE WHAT IT READS IS OF BULK AT MOST 1048576: true; the input reads as it did. -/
def fnExactRankOfBitsUptoRow : OpenClaim := { program := "ytdmbhnllebipjab", sum := "c9c0c1db4efc8d8384a123af3db33210f8536da4a2001d18aac362f6f083e5be", func := "loop.example/g01339/laws.FnExactRankOfBits", spec := "fnExactRankOfBits", apart := false, narrowed := true }
def FnExactRankOfBitsUptoSaid : Prop := fnExactRankOfBitsUptoRow.holds Try.pinned (OpenSpec.upto fnExactRankOfBitsSpec)

/-- 'laws.FnExactMeetingsIn', WHERE WHAT IT READS IS OF BULK AT MOST 1048576: true; the input reads as it did. -/
def fnExactMeetingsInUptoRow : OpenClaim := { program := "ytdmbhnllebipjab", sum := "c9c0c1db4efc8d8384a123af3db33210f8536da4a2001d18aac362f6f083e5be", func := "loop.example/g01339/laws.FnExactMeetingsIn", spec := "fnExactMeetingsIn", recurses := true, apart := false, narrowed := true }
def FnExactMeetingsInUptoSaid : Prop := fnExactMeetingsInUptoRow.holds Try.pinned (OpenSpec.upto fnExactMeetingsInSpec)

/-- 'laws.FnExactChiOf', WHERE WHAT IT READS IS OF BULK AT MOST 1048576: true; the input reads as it did. -/
def fnExactChiOfUptoRow : OpenClaim := { program := "ytdmbhnllebipjab", sum := "c9c0c1db4efc8d8384a123af3db33210f8536da4a2001d18aac362f6f083e5be", func := "loop.example/g01339/laws.FnExactChiOf", spec := "fnExactChiOf", inPlace := ["math.Float64bits", "math.Float64frombits"], apart := false, narrowed := true }
def FnExactChiOfUptoSaid : Prop := fnExactChiOfUptoRow.holds Try.pinned (OpenSpec.upto fnExactChiOfSpec)

end Rows
end Go.Proofs.Ytdmbhnllebipjab
