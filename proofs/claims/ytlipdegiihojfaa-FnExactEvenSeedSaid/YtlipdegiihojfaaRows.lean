/-
  No cell of these rows narrows 'for every input' (looked for: loops, veiled, ifaces, maps, wideKeys, modest, calm, conditions, laid).
  DERIVED. THE GIVEN ROWS OF THIS SEAT. 12 by the template 'for every input the law returns true; each argument reads behind the call as it read before'; 0 by the template 'total and deterministic' (their statements: YtlipdegiihojfaaTotals.lean).
  GIVEN WITH THE SEED: the statements are not yours to turn. If you find one false, say at which input.
  Laid BY PROGRAM, IN A SANDBOX (cutbox-rows.mjs): the forced cells as the released guide's own fill.sh prints them over the translation 7f3296c5f2b23bb0… (all of the seat's roots in one cut). By AI agents, Wed Nov 11 2026. No macro, syntax, notation, axiom, sorry.
-/
import Derived.Test.YtlipdegiihojfaaChecked
import GoSem.Claim
import GoSem.ClaimJoined
import GoSem.ClaimMapViews
import Derived.JoinedTies
import Derived.KernelRfl
namespace Go.Proofs.Ytlipdegiihojfaa
/- THE CELL 'sum', in the pinned program and in every row, IS THE sha256 OF THE DUMP (.gsa) THAT YtlipdegiihojfaaProg.lean LOADS. Nothing in Lean hashes anything: it is a label: what it is worth is what the hold of that sum in a sandbox is worth. -/
noncomputable def Try.pinned : Pinned := { name := "ytlipdegiihojfaa", sum := "7f3296c5f2b23bb041f153aecd751a7f7a71b21ecb89afd8beeac8520d4b32e7", checked := Try.checked }
namespace Rows
def none {H : Type} : Left H := { results := [], args := [] }

/-- 'laws.FnExactFirstSeed': WHATEVER THE INPUT: true; the input reads as it did. -/
def fnExactFirstSeedSpec : ChangeSpec := { name := "fnExactFirstSeed", fn := fun _ => fun
  | [d1, d2] => { results := [.lit (.bool true)], args := [d1, d2] }
  | _ => none }
def fnExactFirstSeedRow : OpenClaim := { program := "ytlipdegiihojfaa", sum := "7f3296c5f2b23bb041f153aecd751a7f7a71b21ecb89afd8beeac8520d4b32e7", func := "loop.example/g01339/laws.FnExactFirstSeed", spec := "fnExactFirstSeed", inPlace := ["math.Float64frombits", "math.Float64bits", "math.archFloor", "math.archTrunc"], apart := false }
def FnExactFirstSeedSaid : Prop := fnExactFirstSeedRow.holds Try.pinned (OpenSpec.ofChange fnExactFirstSeedSpec)

/-- ITS FALSE NEIGHBOUR: 'it returns false'. Refute it at one input. -/
def fnExactFirstSeedWrong : ChangeSpec := { name := "fnExactFirstSeed", fn := fun _ => fun
  | [d1, d2] => { results := [.lit (.bool false)], args := [d1, d2] }
  | _ => none }
def FnExactFirstSeedWrongFalsely : Prop := fnExactFirstSeedRow.holds Try.pinned (OpenSpec.ofChange fnExactFirstSeedWrong)

/-- 'laws.FnExactCountSeed': WHATEVER THE INPUT: true; the input reads as it did. -/
def fnExactCountSeedSpec : ChangeSpec := { name := "fnExactCountSeed", fn := fun _ => fun
  | [d1, d2] => { results := [.lit (.bool true)], args := [d1, d2] }
  | _ => none }
def fnExactCountSeedRow : OpenClaim := { program := "ytlipdegiihojfaa", sum := "7f3296c5f2b23bb041f153aecd751a7f7a71b21ecb89afd8beeac8520d4b32e7", func := "loop.example/g01339/laws.FnExactCountSeed", spec := "fnExactCountSeed", inPlace := ["math.Float64frombits"], apart := false }
def FnExactCountSeedSaid : Prop := fnExactCountSeedRow.holds Try.pinned (OpenSpec.ofChange fnExactCountSeedSpec)

/-- ITS FALSE NEIGHBOUR: 'it returns false'. Refute it at one input. -/
def fnExactCountSeedWrong : ChangeSpec := { name := "fnExactCountSeed", fn := fun _ => fun
  | [d1, d2] => { results := [.lit (.bool false)], args := [d1, d2] }
  | _ => none }
def FnExactCountSeedWrongFalsely : Prop := fnExactCountSeedRow.holds Try.pinned (OpenSpec.ofChange fnExactCountSeedWrong)

/-- 'laws.FnExactArePicks': WHATEVER THE INPUT: true; the input reads as it did. -/
def fnExactArePicksSpec : ChangeSpec := { name := "fnExactArePicks", fn := fun _ => fun
  | [d] => { results := [.lit (.bool true)], args := [d] }
  | _ => none }
def fnExactArePicksRow : OpenClaim := { program := "ytlipdegiihojfaa", sum := "7f3296c5f2b23bb041f153aecd751a7f7a71b21ecb89afd8beeac8520d4b32e7", func := "loop.example/g01339/laws.FnExactArePicks", spec := "fnExactArePicks", inPlace := ["math.Float64bits", "math.Float64frombits"], apart := false }
def FnExactArePicksSaid : Prop := fnExactArePicksRow.holds Try.pinned (OpenSpec.ofChange fnExactArePicksSpec)

/-- ITS FALSE NEIGHBOUR: 'it returns false'. Refute it at one input. -/
def fnExactArePicksWrong : ChangeSpec := { name := "fnExactArePicks", fn := fun _ => fun
  | [d] => { results := [.lit (.bool false)], args := [d] }
  | _ => none }
def FnExactArePicksWrongFalsely : Prop := fnExactArePicksRow.holds Try.pinned (OpenSpec.ofChange fnExactArePicksWrong)

/-- 'laws.FnExactPickSeed': WHATEVER THE INPUT: true; the input reads as it did. -/
def fnExactPickSeedSpec : ChangeSpec := { name := "fnExactPickSeed", fn := fun _ => fun
  | [d1, d2] => { results := [.lit (.bool true)], args := [d1, d2] }
  | _ => none }
def fnExactPickSeedRow : OpenClaim := { program := "ytlipdegiihojfaa", sum := "7f3296c5f2b23bb041f153aecd751a7f7a71b21ecb89afd8beeac8520d4b32e7", func := "loop.example/g01339/laws.FnExactPickSeed", spec := "fnExactPickSeed", inPlace := ["math.Float64bits", "math.Float64frombits"], apart := false }
def FnExactPickSeedSaid : Prop := fnExactPickSeedRow.holds Try.pinned (OpenSpec.ofChange fnExactPickSeedSpec)

/-- ITS FALSE NEIGHBOUR: 'it returns false'. Refute it at one input. -/
def fnExactPickSeedWrong : ChangeSpec := { name := "fnExactPickSeed", fn := fun _ => fun
  | [d1, d2] => { results := [.lit (.bool false)], args := [d1, d2] }
  | _ => none }
def FnExactPickSeedWrongFalsely : Prop := fnExactPickSeedRow.holds Try.pinned (OpenSpec.ofChange fnExactPickSeedWrong)

/-- 'laws.FnExactValidAlias': WHATEVER THE INPUT: true; the input reads as it did. -/
def fnExactValidAliasSpec : ChangeSpec := { name := "fnExactValidAlias", fn := fun _ => fun
  | [d] => { results := [.lit (.bool true)], args := [d] }
  | _ => none }
def fnExactValidAliasRow : OpenClaim := { program := "ytlipdegiihojfaa", sum := "7f3296c5f2b23bb041f153aecd751a7f7a71b21ecb89afd8beeac8520d4b32e7", func := "loop.example/g01339/laws.FnExactValidAlias", spec := "fnExactValidAlias", apart := false }
def FnExactValidAliasSaid : Prop := fnExactValidAliasRow.holds Try.pinned (OpenSpec.ofChange fnExactValidAliasSpec)

/-- ITS FALSE NEIGHBOUR: 'it returns false'. Refute it at one input. -/
def fnExactValidAliasWrong : ChangeSpec := { name := "fnExactValidAlias", fn := fun _ => fun
  | [d] => { results := [.lit (.bool false)], args := [d] }
  | _ => none }
def FnExactValidAliasWrongFalsely : Prop := fnExactValidAliasRow.holds Try.pinned (OpenSpec.ofChange fnExactValidAliasWrong)

/-- 'laws.FnExactAliasOf': WHATEVER THE INPUT: true; the input reads as it did. -/
def fnExactAliasOfSpec : ChangeSpec := { name := "fnExactAliasOf", fn := fun _ => fun
  | [d] => { results := [.lit (.bool true)], args := [d] }
  | _ => none }
def fnExactAliasOfRow : OpenClaim := { program := "ytlipdegiihojfaa", sum := "7f3296c5f2b23bb041f153aecd751a7f7a71b21ecb89afd8beeac8520d4b32e7", func := "loop.example/g01339/laws.FnExactAliasOf", spec := "fnExactAliasOf", inPlace := ["math.Float64bits", "math.Float64frombits"], apart := false }
def FnExactAliasOfSaid : Prop := fnExactAliasOfRow.holds Try.pinned (OpenSpec.ofChange fnExactAliasOfSpec)

/-- ITS FALSE NEIGHBOUR: 'it returns false'. Refute it at one input. -/
def fnExactAliasOfWrong : ChangeSpec := { name := "fnExactAliasOf", fn := fun _ => fun
  | [d] => { results := [.lit (.bool false)], args := [d] }
  | _ => none }
def FnExactAliasOfWrongFalsely : Prop := fnExactAliasOfRow.holds Try.pinned (OpenSpec.ofChange fnExactAliasOfWrong)

/-- 'laws.FnExactAliasSeed': WHATEVER THE INPUT: true; the input reads as it did. -/
def fnExactAliasSeedSpec : ChangeSpec := { name := "fnExactAliasSeed", fn := fun _ => fun
  | [d1, d2] => { results := [.lit (.bool true)], args := [d1, d2] }
  | _ => none }
def fnExactAliasSeedRow : OpenClaim := { program := "ytlipdegiihojfaa", sum := "7f3296c5f2b23bb041f153aecd751a7f7a71b21ecb89afd8beeac8520d4b32e7", func := "loop.example/g01339/laws.FnExactAliasSeed", spec := "fnExactAliasSeed", apart := false }
def FnExactAliasSeedSaid : Prop := fnExactAliasSeedRow.holds Try.pinned (OpenSpec.ofChange fnExactAliasSeedSpec)

/-- ITS FALSE NEIGHBOUR: 'it returns false'. Refute it at one input. -/
def fnExactAliasSeedWrong : ChangeSpec := { name := "fnExactAliasSeed", fn := fun _ => fun
  | [d1, d2] => { results := [.lit (.bool false)], args := [d1, d2] }
  | _ => none }
def FnExactAliasSeedWrongFalsely : Prop := fnExactAliasSeedRow.holds Try.pinned (OpenSpec.ofChange fnExactAliasSeedWrong)

/-- 'laws.FnExactSplitCounts': WHATEVER THE INPUT: true; the input reads as it did. -/
def fnExactSplitCountsSpec : ChangeSpec := { name := "fnExactSplitCounts", fn := fun _ => fun
  | [d1, d2, d3] => { results := [.lit (.bool true)], args := [d1, d2, d3] }
  | _ => none }
def fnExactSplitCountsRow : OpenClaim := { program := "ytlipdegiihojfaa", sum := "7f3296c5f2b23bb041f153aecd751a7f7a71b21ecb89afd8beeac8520d4b32e7", func := "loop.example/g01339/laws.FnExactSplitCounts", spec := "fnExactSplitCounts", inPlace := ["math.Float64bits", "math.Float64frombits"], apart := false }
def FnExactSplitCountsSaid : Prop := fnExactSplitCountsRow.holds Try.pinned (OpenSpec.ofChange fnExactSplitCountsSpec)

/-- ITS FALSE NEIGHBOUR: 'it returns false'. Refute it at one input. -/
def fnExactSplitCountsWrong : ChangeSpec := { name := "fnExactSplitCounts", fn := fun _ => fun
  | [d1, d2, d3] => { results := [.lit (.bool false)], args := [d1, d2, d3] }
  | _ => none }
def FnExactSplitCountsWrongFalsely : Prop := fnExactSplitCountsRow.holds Try.pinned (OpenSpec.ofChange fnExactSplitCountsWrong)

/-- 'laws.FnExactEvenSeed': WHATEVER THE INPUT: true; the input reads as it did. -/
def fnExactEvenSeedSpec : ChangeSpec := { name := "fnExactEvenSeed", fn := fun _ => fun
  | [d] => { results := [.lit (.bool true)], args := [d] }
  | _ => none }
def fnExactEvenSeedRow : OpenClaim := { program := "ytlipdegiihojfaa", sum := "7f3296c5f2b23bb041f153aecd751a7f7a71b21ecb89afd8beeac8520d4b32e7", func := "loop.example/g01339/laws.FnExactEvenSeed", spec := "fnExactEvenSeed", inPlace := ["math.Float64bits", "math.Float64frombits"], apart := false }
def FnExactEvenSeedSaid : Prop := fnExactEvenSeedRow.holds Try.pinned (OpenSpec.ofChange fnExactEvenSeedSpec)

/-- ITS FALSE NEIGHBOUR: 'it returns false'. Refute it at one input. -/
def fnExactEvenSeedWrong : ChangeSpec := { name := "fnExactEvenSeed", fn := fun _ => fun
  | [d] => { results := [.lit (.bool false)], args := [d] }
  | _ => none }
def FnExactEvenSeedWrongFalsely : Prop := fnExactEvenSeedRow.holds Try.pinned (OpenSpec.ofChange fnExactEvenSeedWrong)

/-- 'laws.FnExactChiOf': WHATEVER THE INPUT: true; the input reads as it did. -/
def fnExactChiOfSpec : ChangeSpec := { name := "fnExactChiOf", fn := fun _ => fun
  | [d1, d2] => { results := [.lit (.bool true)], args := [d1, d2] }
  | _ => none }
def fnExactChiOfRow : OpenClaim := { program := "ytlipdegiihojfaa", sum := "7f3296c5f2b23bb041f153aecd751a7f7a71b21ecb89afd8beeac8520d4b32e7", func := "loop.example/g01339/laws.FnExactChiOf", spec := "fnExactChiOf", inPlace := ["math.Float64bits", "math.Float64frombits"], apart := false }
def FnExactChiOfSaid : Prop := fnExactChiOfRow.holds Try.pinned (OpenSpec.ofChange fnExactChiOfSpec)

/-- ITS FALSE NEIGHBOUR: 'it returns false'. Refute it at one input. -/
def fnExactChiOfWrong : ChangeSpec := { name := "fnExactChiOf", fn := fun _ => fun
  | [d1, d2] => { results := [.lit (.bool false)], args := [d1, d2] }
  | _ => none }
def FnExactChiOfWrongFalsely : Prop := fnExactChiOfRow.holds Try.pinned (OpenSpec.ofChange fnExactChiOfWrong)

/-- 'laws.FnExactBellQuotient': WHATEVER THE INPUT: true; the input reads as it did. -/
def fnExactBellQuotientSpec : ChangeSpec := { name := "fnExactBellQuotient", fn := fun _ => fun
  | [d] => { results := [.lit (.bool true)], args := [d] }
  | _ => none }
def fnExactBellQuotientRow : OpenClaim := { program := "ytlipdegiihojfaa", sum := "7f3296c5f2b23bb041f153aecd751a7f7a71b21ecb89afd8beeac8520d4b32e7", func := "loop.example/g01339/laws.FnExactBellQuotient", spec := "fnExactBellQuotient", inPlace := ["math.Float64frombits", "math.Float64bits"], unfollowed := true, recurses := true, apart := false }
def FnExactBellQuotientSaid : Prop := fnExactBellQuotientRow.holds Try.pinned (OpenSpec.ofChange fnExactBellQuotientSpec)

/-- ITS FALSE NEIGHBOUR: 'it returns false'. Refute it at one input. -/
def fnExactBellQuotientWrong : ChangeSpec := { name := "fnExactBellQuotient", fn := fun _ => fun
  | [d] => { results := [.lit (.bool false)], args := [d] }
  | _ => none }
def FnExactBellQuotientWrongFalsely : Prop := fnExactBellQuotientRow.holds Try.pinned (OpenSpec.ofChange fnExactBellQuotientWrong)

/-- 'laws.FnExactStreamWords': WHATEVER THE INPUT: true; the input reads as it did. -/
def fnExactStreamWordsSpec : ChangeSpec := { name := "fnExactStreamWords", fn := fun _ => fun
  | [d1, d2, d3] => { results := [.lit (.bool true)], args := [d1, d2, d3] }
  | _ => none }
def fnExactStreamWordsRow : OpenClaim := { program := "ytlipdegiihojfaa", sum := "7f3296c5f2b23bb041f153aecd751a7f7a71b21ecb89afd8beeac8520d4b32e7", func := "loop.example/g01339/laws.FnExactStreamWords", spec := "fnExactStreamWords", apart := false }
def FnExactStreamWordsSaid : Prop := fnExactStreamWordsRow.holds Try.pinned (OpenSpec.ofChange fnExactStreamWordsSpec)

/-- ITS FALSE NEIGHBOUR: 'it returns false'. Refute it at one input. -/
def fnExactStreamWordsWrong : ChangeSpec := { name := "fnExactStreamWords", fn := fun _ => fun
  | [d1, d2, d3] => { results := [.lit (.bool false)], args := [d1, d2, d3] }
  | _ => none }
def FnExactStreamWordsWrongFalsely : Prop := fnExactStreamWordsRow.holds Try.pinned (OpenSpec.ofChange fnExactStreamWordsWrong)

/- THE SECOND FORM. 'bulk': how many values and letters a reading holds, each counted each time it is reached (what is shared counts as often as it is met; a slice's spare places count too). A statement '..UptoSaid' is the law's where the arguments, and the package variables that the reading takes, are together of bulk at most 1048576: NARROWER than '..Said'. Prove '..Said' where nothing that the law and all that it calls make is longer than what came in: it says more and counts as full. Else prove '..UptoSaid'. A law counts once. -/
mutual
def uptoBulk {H : Type} : DataW H → Nat
  | .lit (.string bytes) => bytes.length + 1
  | .lit _ => 1
  | .nil => 1
  | .ptr d => uptoBulk d + 1
  | .slice elems spare => uptoBulkAll elems + uptoBulkAll spare + 1
  | .agg parts => uptoBulkAll parts + 1
  | .iface _ d => uptoBulk d + 1
  | .map entries => uptoBulkEntries entries + 1
  | .held _ => 1
def uptoBulkAll {H : Type} : List (DataW H) → Nat
  | [] => 0
  | d :: r => uptoBulk d + uptoBulkAll r
def uptoBulkEntries {H : Type} : List (Lit × DataW H) → Nat
  | [] => 0
  | x :: r => uptoBulkEntry x + uptoBulkEntries r
def uptoBulkEntry {H : Type} : Lit × DataW H → Nat
  | (.string bytes, d) => bytes.length + uptoBulk d + 1
  | (_, d) => uptoBulk d + 1
 end
def uptoSmall : (H : Type) → List (DataW H) → Bool := fun _ ds => decide (uptoBulkAll ds ≤ 1048576)
def OpenSpec.upto (s : _root_.Go.ChangeSpec) : _root_.Go.OpenSpec := { _root_.Go.OpenSpec.ofChange s with cond := some uptoSmall }

/-- 'laws.FnExactFirstSeed', WHERE WHAT IT READS IS OF BULK AT MOST 1048576: true; the input reads as it did. -/
def fnExactFirstSeedUptoRow : OpenClaim := { program := "ytlipdegiihojfaa", sum := "7f3296c5f2b23bb041f153aecd751a7f7a71b21ecb89afd8beeac8520d4b32e7", func := "loop.example/g01339/laws.FnExactFirstSeed", spec := "fnExactFirstSeed", inPlace := ["math.Float64frombits", "math.Float64bits", "math.archFloor", "math.archTrunc"], apart := false, narrowed := true }
def FnExactFirstSeedUptoSaid : Prop := fnExactFirstSeedUptoRow.holds Try.pinned (OpenSpec.upto fnExactFirstSeedSpec)

/-- 'laws.FnExactCountSeed', WHERE WHAT IT READS IS OF BULK AT MOST 1048576: true; the input reads as it did. -/
def fnExactCountSeedUptoRow : OpenClaim := { program := "ytlipdegiihojfaa", sum := "7f3296c5f2b23bb041f153aecd751a7f7a71b21ecb89afd8beeac8520d4b32e7", func := "loop.example/g01339/laws.FnExactCountSeed", spec := "fnExactCountSeed", inPlace := ["math.Float64frombits"], apart := false, narrowed := true }
def FnExactCountSeedUptoSaid : Prop := fnExactCountSeedUptoRow.holds Try.pinned (OpenSpec.upto fnExactCountSeedSpec)

/-- 'laws.FnExactArePicks', WHERE WHAT IT READS IS OF BULK AT MOST 1048576: true; the input reads as it did. -/
def fnExactArePicksUptoRow : OpenClaim := { program := "ytlipdegiihojfaa", sum := "7f3296c5f2b23bb041f153aecd751a7f7a71b21ecb89afd8beeac8520d4b32e7", func := "loop.example/g01339/laws.FnExactArePicks", spec := "fnExactArePicks", inPlace := ["math.Float64bits", "math.Float64frombits"], apart := false, narrowed := true }
def FnExactArePicksUptoSaid : Prop := fnExactArePicksUptoRow.holds Try.pinned (OpenSpec.upto fnExactArePicksSpec)

/-- 'laws.FnExactPickSeed', WHERE WHAT IT READS IS OF BULK AT MOST 1048576: true; the input reads as it did. -/
def fnExactPickSeedUptoRow : OpenClaim := { program := "ytlipdegiihojfaa", sum := "7f3296c5f2b23bb041f153aecd751a7f7a71b21ecb89afd8beeac8520d4b32e7", func := "loop.example/g01339/laws.FnExactPickSeed", spec := "fnExactPickSeed", inPlace := ["math.Float64bits", "math.Float64frombits"], apart := false, narrowed := true }
def FnExactPickSeedUptoSaid : Prop := fnExactPickSeedUptoRow.holds Try.pinned (OpenSpec.upto fnExactPickSeedSpec)

/-- 'laws.FnExactValidAlias', WHERE WHAT IT READS IS OF BULK AT MOST 1048576: true; the input reads as it did. -/
def fnExactValidAliasUptoRow : OpenClaim := { program := "ytlipdegiihojfaa", sum := "7f3296c5f2b23bb041f153aecd751a7f7a71b21ecb89afd8beeac8520d4b32e7", func := "loop.example/g01339/laws.FnExactValidAlias", spec := "fnExactValidAlias", apart := false, narrowed := true }
def FnExactValidAliasUptoSaid : Prop := fnExactValidAliasUptoRow.holds Try.pinned (OpenSpec.upto fnExactValidAliasSpec)

/-- 'laws.FnExactAliasOf', WHERE WHAT IT READS IS OF BULK AT MOST 1048576: true; the input reads as it did. -/
def fnExactAliasOfUptoRow : OpenClaim := { program := "ytlipdegiihojfaa", sum := "7f3296c5f2b23bb041f153aecd751a7f7a71b21ecb89afd8beeac8520d4b32e7", func := "loop.example/g01339/laws.FnExactAliasOf", spec := "fnExactAliasOf", inPlace := ["math.Float64bits", "math.Float64frombits"], apart := false, narrowed := true }
def FnExactAliasOfUptoSaid : Prop := fnExactAliasOfUptoRow.holds Try.pinned (OpenSpec.upto fnExactAliasOfSpec)

/-- 'laws.FnExactAliasSeed', WHERE WHAT IT READS IS OF BULK AT MOST 1048576: true; the input reads as it did. -/
def fnExactAliasSeedUptoRow : OpenClaim := { program := "ytlipdegiihojfaa", sum := "7f3296c5f2b23bb041f153aecd751a7f7a71b21ecb89afd8beeac8520d4b32e7", func := "loop.example/g01339/laws.FnExactAliasSeed", spec := "fnExactAliasSeed", apart := false, narrowed := true }
def FnExactAliasSeedUptoSaid : Prop := fnExactAliasSeedUptoRow.holds Try.pinned (OpenSpec.upto fnExactAliasSeedSpec)

/-- 'laws.FnExactSplitCounts', WHERE WHAT IT READS IS OF BULK AT MOST 1048576: true; the input reads as it did. -/
def fnExactSplitCountsUptoRow : OpenClaim := { program := "ytlipdegiihojfaa", sum := "7f3296c5f2b23bb041f153aecd751a7f7a71b21ecb89afd8beeac8520d4b32e7", func := "loop.example/g01339/laws.FnExactSplitCounts", spec := "fnExactSplitCounts", inPlace := ["math.Float64bits", "math.Float64frombits"], apart := false, narrowed := true }
def FnExactSplitCountsUptoSaid : Prop := fnExactSplitCountsUptoRow.holds Try.pinned (OpenSpec.upto fnExactSplitCountsSpec)

/-- 'laws.FnExactEvenSeed', WHERE WHAT IT READS IS OF BULK AT MOST 1048576: true; the input reads as it did. -/
def fnExactEvenSeedUptoRow : OpenClaim := { program := "ytlipdegiihojfaa", sum := "7f3296c5f2b23bb041f153aecd751a7f7a71b21ecb89afd8beeac8520d4b32e7", func := "loop.example/g01339/laws.FnExactEvenSeed", spec := "fnExactEvenSeed", inPlace := ["math.Float64bits", "math.Float64frombits"], apart := false, narrowed := true }
def FnExactEvenSeedUptoSaid : Prop := fnExactEvenSeedUptoRow.holds Try.pinned (OpenSpec.upto fnExactEvenSeedSpec)

/-- 'laws.FnExactChiOf', WHERE WHAT IT READS IS OF BULK AT MOST 1048576: true; the input reads as it did. -/
def fnExactChiOfUptoRow : OpenClaim := { program := "ytlipdegiihojfaa", sum := "7f3296c5f2b23bb041f153aecd751a7f7a71b21ecb89afd8beeac8520d4b32e7", func := "loop.example/g01339/laws.FnExactChiOf", spec := "fnExactChiOf", inPlace := ["math.Float64bits", "math.Float64frombits"], apart := false, narrowed := true }
def FnExactChiOfUptoSaid : Prop := fnExactChiOfUptoRow.holds Try.pinned (OpenSpec.upto fnExactChiOfSpec)

/-- 'laws.FnExactBellQuotient', WHERE WHAT IT READS IS OF BULK AT MOST 1048576: true; the input reads as it did. -/
def fnExactBellQuotientUptoRow : OpenClaim := { program := "ytlipdegiihojfaa", sum := "7f3296c5f2b23bb041f153aecd751a7f7a71b21ecb89afd8beeac8520d4b32e7", func := "loop.example/g01339/laws.FnExactBellQuotient", spec := "fnExactBellQuotient", inPlace := ["math.Float64frombits", "math.Float64bits"], unfollowed := true, recurses := true, apart := false, narrowed := true }
def FnExactBellQuotientUptoSaid : Prop := fnExactBellQuotientUptoRow.holds Try.pinned (OpenSpec.upto fnExactBellQuotientSpec)

/-- 'laws.FnExactStreamWords', WHERE WHAT IT READS IS OF BULK AT MOST 1048576: true; the input reads as it did. -/
def fnExactStreamWordsUptoRow : OpenClaim := { program := "ytlipdegiihojfaa", sum := "7f3296c5f2b23bb041f153aecd751a7f7a71b21ecb89afd8beeac8520d4b32e7", func := "loop.example/g01339/laws.FnExactStreamWords", spec := "fnExactStreamWords", apart := false, narrowed := true }
def FnExactStreamWordsUptoSaid : Prop := fnExactStreamWordsUptoRow.holds Try.pinned (OpenSpec.upto fnExactStreamWordsSpec)

end Rows
end Go.Proofs.Ytlipdegiihojfaa
