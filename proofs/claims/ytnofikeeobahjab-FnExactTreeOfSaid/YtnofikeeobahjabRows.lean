/-
  No cell of these rows narrows 'for every input' (looked for: loops, veiled, ifaces, maps, wideKeys, modest, calm, conditions, laid).
  DERIVED. THE GIVEN ROWS OF THIS SEAT. 12 by the template 'for every input the law returns true; each argument reads behind the call as it read before'; 0 by the template 'total and deterministic' (their statements: YtnofikeeobahjabTotals.lean).
  GIVEN WITH THE SEED: the statements are not yours to turn. If you find one false, say at which input.
  Laid BY PROGRAM, IN A SANDBOX (cutbox-rows.mjs): the forced cells as the released guide's own fill.sh prints them over the translation 7d79c475f0e393d2… (all of the seat's roots in one cut). By AI agents, Wed Nov 11 2026. No macro, syntax, notation, axiom, sorry.
-/
import Derived.Test.YtnofikeeobahjabChecked
import GoSem.Claim
import GoSem.ClaimJoined
import GoSem.ClaimMapViews
import Derived.JoinedTies
import Derived.KernelRfl
namespace Go.Proofs.Ytnofikeeobahjab
/- THE CELL 'sum', in the pinned program and in every row, IS THE sha256 OF THE DUMP (.gsa) THAT YtnofikeeobahjabProg.lean LOADS. Nothing in Lean hashes anything: it is a label: what it is worth is what the hold of that sum in a sandbox is worth. -/
noncomputable def Try.pinned : Pinned := { name := "ytnofikeeobahjab", sum := "7d79c475f0e393d265ded41c3b4e4112b2a758689795b88d808a8c377006803b", checked := Try.checked }
namespace Rows
def none {H : Type} : Left H := { results := [], args := [] }

/-- 'laws.FnExactCardsSeed': WHATEVER THE INPUT: true; the input reads as it did. -/
def fnExactCardsSeedSpec : ChangeSpec := { name := "fnExactCardsSeed", fn := fun _ => fun
  | [d1, d2] => { results := [.lit (.bool true)], args := [d1, d2] }
  | _ => none }
def fnExactCardsSeedRow : OpenClaim := { program := "ytnofikeeobahjab", sum := "7d79c475f0e393d265ded41c3b4e4112b2a758689795b88d808a8c377006803b", func := "loop.example/g01339/laws.FnExactCardsSeed", spec := "fnExactCardsSeed", apart := false }
def FnExactCardsSeedSaid : Prop := fnExactCardsSeedRow.holds Try.pinned (OpenSpec.ofChange fnExactCardsSeedSpec)

/-- ITS FALSE NEIGHBOUR: 'it returns false'. Refute it at one input. -/
def fnExactCardsSeedWrong : ChangeSpec := { name := "fnExactCardsSeed", fn := fun _ => fun
  | [d1, d2] => { results := [.lit (.bool false)], args := [d1, d2] }
  | _ => none }
def FnExactCardsSeedWrongFalsely : Prop := fnExactCardsSeedRow.holds Try.pinned (OpenSpec.ofChange fnExactCardsSeedWrong)

/-- 'laws.FnExactSampleSeed': WHATEVER THE INPUT: true; the input reads as it did. -/
def fnExactSampleSeedSpec : ChangeSpec := { name := "fnExactSampleSeed", fn := fun _ => fun
  | [d1, d2, d3] => { results := [.lit (.bool true)], args := [d1, d2, d3] }
  | _ => none }
def fnExactSampleSeedRow : OpenClaim := { program := "ytnofikeeobahjab", sum := "7d79c475f0e393d265ded41c3b4e4112b2a758689795b88d808a8c377006803b", func := "loop.example/g01339/laws.FnExactSampleSeed", spec := "fnExactSampleSeed", apart := false }
def FnExactSampleSeedSaid : Prop := fnExactSampleSeedRow.holds Try.pinned (OpenSpec.ofChange fnExactSampleSeedSpec)

/-- ITS FALSE NEIGHBOUR: 'it returns false'. Refute it at one input. -/
def fnExactSampleSeedWrong : ChangeSpec := { name := "fnExactSampleSeed", fn := fun _ => fun
  | [d1, d2, d3] => { results := [.lit (.bool false)], args := [d1, d2, d3] }
  | _ => none }
def FnExactSampleSeedWrongFalsely : Prop := fnExactSampleSeedRow.holds Try.pinned (OpenSpec.ofChange fnExactSampleSeedWrong)

/-- 'laws.FnExactReturnSeed': WHATEVER THE INPUT: true; the input reads as it did. -/
def fnExactReturnSeedSpec : ChangeSpec := { name := "fnExactReturnSeed", fn := fun _ => fun
  | [d1, d2, d3] => { results := [.lit (.bool true)], args := [d1, d2, d3] }
  | _ => none }
def fnExactReturnSeedRow : OpenClaim := { program := "ytnofikeeobahjab", sum := "7d79c475f0e393d265ded41c3b4e4112b2a758689795b88d808a8c377006803b", func := "loop.example/g01339/laws.FnExactReturnSeed", spec := "fnExactReturnSeed", apart := false }
def FnExactReturnSeedSaid : Prop := fnExactReturnSeedRow.holds Try.pinned (OpenSpec.ofChange fnExactReturnSeedSpec)

/-- ITS FALSE NEIGHBOUR: 'it returns false'. Refute it at one input. -/
def fnExactReturnSeedWrong : ChangeSpec := { name := "fnExactReturnSeed", fn := fun _ => fun
  | [d1, d2, d3] => { results := [.lit (.bool false)], args := [d1, d2, d3] }
  | _ => none }
def FnExactReturnSeedWrongFalsely : Prop := fnExactReturnSeedRow.holds Try.pinned (OpenSpec.ofChange fnExactReturnSeedWrong)

/-- 'laws.FnExactStreamSeed': WHATEVER THE INPUT: true; the input reads as it did. -/
def fnExactStreamSeedSpec : ChangeSpec := { name := "fnExactStreamSeed", fn := fun _ => fun
  | [d1, d2, d3] => { results := [.lit (.bool true)], args := [d1, d2, d3] }
  | _ => none }
def fnExactStreamSeedRow : OpenClaim := { program := "ytnofikeeobahjab", sum := "7d79c475f0e393d265ded41c3b4e4112b2a758689795b88d808a8c377006803b", func := "loop.example/g01339/laws.FnExactStreamSeed", spec := "fnExactStreamSeed", apart := false }
def FnExactStreamSeedSaid : Prop := fnExactStreamSeedRow.holds Try.pinned (OpenSpec.ofChange fnExactStreamSeedSpec)

/-- ITS FALSE NEIGHBOUR: 'it returns false'. Refute it at one input. -/
def fnExactStreamSeedWrong : ChangeSpec := { name := "fnExactStreamSeed", fn := fun _ => fun
  | [d1, d2, d3] => { results := [.lit (.bool false)], args := [d1, d2, d3] }
  | _ => none }
def FnExactStreamSeedWrongFalsely : Prop := fnExactStreamSeedRow.holds Try.pinned (OpenSpec.ofChange fnExactStreamSeedWrong)

/-- 'laws.FnExactTreeOf': WHATEVER THE INPUT: true; the input reads as it did. -/
def fnExactTreeOfSpec : ChangeSpec := { name := "fnExactTreeOf", fn := fun _ => fun
  | [d] => { results := [.lit (.bool true)], args := [d] }
  | _ => none }
def fnExactTreeOfRow : OpenClaim := { program := "ytnofikeeobahjab", sum := "7d79c475f0e393d265ded41c3b4e4112b2a758689795b88d808a8c377006803b", func := "loop.example/g01339/laws.FnExactTreeOf", spec := "fnExactTreeOf", apart := false }
def FnExactTreeOfSaid : Prop := fnExactTreeOfRow.holds Try.pinned (OpenSpec.ofChange fnExactTreeOfSpec)

/-- ITS FALSE NEIGHBOUR: 'it returns false'. Refute it at one input. -/
def fnExactTreeOfWrong : ChangeSpec := { name := "fnExactTreeOf", fn := fun _ => fun
  | [d] => { results := [.lit (.bool false)], args := [d] }
  | _ => none }
def FnExactTreeOfWrongFalsely : Prop := fnExactTreeOfRow.holds Try.pinned (OpenSpec.ofChange fnExactTreeOfWrong)

/-- 'laws.FnExactTreeAdd': WHATEVER THE INPUT: true; the input reads as it did. -/
def fnExactTreeAddSpec : ChangeSpec := { name := "fnExactTreeAdd", fn := fun _ => fun
  | [d1, d2, d3] => { results := [.lit (.bool true)], args := [d1, d2, d3] }
  | _ => none }
def fnExactTreeAddRow : OpenClaim := { program := "ytnofikeeobahjab", sum := "7d79c475f0e393d265ded41c3b4e4112b2a758689795b88d808a8c377006803b", func := "loop.example/g01339/laws.FnExactTreeAdd", spec := "fnExactTreeAdd", apart := false }
def FnExactTreeAddSaid : Prop := fnExactTreeAddRow.holds Try.pinned (OpenSpec.ofChange fnExactTreeAddSpec)

/-- ITS FALSE NEIGHBOUR: 'it returns false'. Refute it at one input. -/
def fnExactTreeAddWrong : ChangeSpec := { name := "fnExactTreeAdd", fn := fun _ => fun
  | [d1, d2, d3] => { results := [.lit (.bool false)], args := [d1, d2, d3] }
  | _ => none }
def FnExactTreeAddWrongFalsely : Prop := fnExactTreeAddRow.holds Try.pinned (OpenSpec.ofChange fnExactTreeAddWrong)

/-- 'laws.FnExactTreeSum': WHATEVER THE INPUT: true; the input reads as it did. -/
def fnExactTreeSumSpec : ChangeSpec := { name := "fnExactTreeSum", fn := fun _ => fun
  | [d1, d2] => { results := [.lit (.bool true)], args := [d1, d2] }
  | _ => none }
def fnExactTreeSumRow : OpenClaim := { program := "ytnofikeeobahjab", sum := "7d79c475f0e393d265ded41c3b4e4112b2a758689795b88d808a8c377006803b", func := "loop.example/g01339/laws.FnExactTreeSum", spec := "fnExactTreeSum", apart := false }
def FnExactTreeSumSaid : Prop := fnExactTreeSumRow.holds Try.pinned (OpenSpec.ofChange fnExactTreeSumSpec)

/-- ITS FALSE NEIGHBOUR: 'it returns false'. Refute it at one input. -/
def fnExactTreeSumWrong : ChangeSpec := { name := "fnExactTreeSum", fn := fun _ => fun
  | [d1, d2] => { results := [.lit (.bool false)], args := [d1, d2] }
  | _ => none }
def FnExactTreeSumWrongFalsely : Prop := fnExactTreeSumRow.holds Try.pinned (OpenSpec.ofChange fnExactTreeSumWrong)

/-- 'laws.FnExactTreeSeed': WHATEVER THE INPUT: true; the input reads as it did. -/
def fnExactTreeSeedSpec : ChangeSpec := { name := "fnExactTreeSeed", fn := fun _ => fun
  | [d1, d2] => { results := [.lit (.bool true)], args := [d1, d2] }
  | _ => none }
def fnExactTreeSeedRow : OpenClaim := { program := "ytnofikeeobahjab", sum := "7d79c475f0e393d265ded41c3b4e4112b2a758689795b88d808a8c377006803b", func := "loop.example/g01339/laws.FnExactTreeSeed", spec := "fnExactTreeSeed", apart := false }
def FnExactTreeSeedSaid : Prop := fnExactTreeSeedRow.holds Try.pinned (OpenSpec.ofChange fnExactTreeSeedSpec)

/-- ITS FALSE NEIGHBOUR: 'it returns false'. Refute it at one input. -/
def fnExactTreeSeedWrong : ChangeSpec := { name := "fnExactTreeSeed", fn := fun _ => fun
  | [d1, d2] => { results := [.lit (.bool false)], args := [d1, d2] }
  | _ => none }
def FnExactTreeSeedWrongFalsely : Prop := fnExactTreeSeedRow.holds Try.pinned (OpenSpec.ofChange fnExactTreeSeedWrong)

/-- 'laws.FnExactRankOfBits': WHATEVER THE INPUT: true; the input reads as it did. -/
def fnExactRankOfBitsSpec : ChangeSpec := { name := "fnExactRankOfBits", fn := fun _ => fun
  | [d] => { results := [.lit (.bool true)], args := [d] }
  | _ => none }
def fnExactRankOfBitsRow : OpenClaim := { program := "ytnofikeeobahjab", sum := "7d79c475f0e393d265ded41c3b4e4112b2a758689795b88d808a8c377006803b", func := "loop.example/g01339/laws.FnExactRankOfBits", spec := "fnExactRankOfBits", apart := false }
def FnExactRankOfBitsSaid : Prop := fnExactRankOfBitsRow.holds Try.pinned (OpenSpec.ofChange fnExactRankOfBitsSpec)

/-- ITS FALSE NEIGHBOUR: 'it returns false'. Refute it at one input. -/
def fnExactRankOfBitsWrong : ChangeSpec := { name := "fnExactRankOfBits", fn := fun _ => fun
  | [d] => { results := [.lit (.bool false)], args := [d] }
  | _ => none }
def FnExactRankOfBitsWrongFalsely : Prop := fnExactRankOfBitsRow.holds Try.pinned (OpenSpec.ofChange fnExactRankOfBitsWrong)

/-- 'laws.FnExactLatticeOf': WHATEVER THE INPUT: true; the input reads as it did. -/
def fnExactLatticeOfSpec : ChangeSpec := { name := "fnExactLatticeOf", fn := fun _ => fun
  | [d1, d2] => { results := [.lit (.bool true)], args := [d1, d2] }
  | _ => none }
def fnExactLatticeOfRow : OpenClaim := { program := "ytnofikeeobahjab", sum := "7d79c475f0e393d265ded41c3b4e4112b2a758689795b88d808a8c377006803b", func := "loop.example/g01339/laws.FnExactLatticeOf", spec := "fnExactLatticeOf", apart := false }
def FnExactLatticeOfSaid : Prop := fnExactLatticeOfRow.holds Try.pinned (OpenSpec.ofChange fnExactLatticeOfSpec)

/-- ITS FALSE NEIGHBOUR: 'it returns false'. Refute it at one input. -/
def fnExactLatticeOfWrong : ChangeSpec := { name := "fnExactLatticeOf", fn := fun _ => fun
  | [d1, d2] => { results := [.lit (.bool false)], args := [d1, d2] }
  | _ => none }
def FnExactLatticeOfWrongFalsely : Prop := fnExactLatticeOfRow.holds Try.pinned (OpenSpec.ofChange fnExactLatticeOfWrong)

/-- 'laws.FnExactStreamWords': WHATEVER THE INPUT: true; the input reads as it did. -/
def fnExactStreamWordsSpec : ChangeSpec := { name := "fnExactStreamWords", fn := fun _ => fun
  | [d1, d2, d3] => { results := [.lit (.bool true)], args := [d1, d2, d3] }
  | _ => none }
def fnExactStreamWordsRow : OpenClaim := { program := "ytnofikeeobahjab", sum := "7d79c475f0e393d265ded41c3b4e4112b2a758689795b88d808a8c377006803b", func := "loop.example/g01339/laws.FnExactStreamWords", spec := "fnExactStreamWords", apart := false }
def FnExactStreamWordsSaid : Prop := fnExactStreamWordsRow.holds Try.pinned (OpenSpec.ofChange fnExactStreamWordsSpec)

/-- ITS FALSE NEIGHBOUR: 'it returns false'. Refute it at one input. -/
def fnExactStreamWordsWrong : ChangeSpec := { name := "fnExactStreamWords", fn := fun _ => fun
  | [d1, d2, d3] => { results := [.lit (.bool false)], args := [d1, d2, d3] }
  | _ => none }
def FnExactStreamWordsWrongFalsely : Prop := fnExactStreamWordsRow.holds Try.pinned (OpenSpec.ofChange fnExactStreamWordsWrong)

/-- 'laws.FnExactValidAlias': WHATEVER THE INPUT: true; the input reads as it did. -/
def fnExactValidAliasSpec : ChangeSpec := { name := "fnExactValidAlias", fn := fun _ => fun
  | [d] => { results := [.lit (.bool true)], args := [d] }
  | _ => none }
def fnExactValidAliasRow : OpenClaim := { program := "ytnofikeeobahjab", sum := "7d79c475f0e393d265ded41c3b4e4112b2a758689795b88d808a8c377006803b", func := "loop.example/g01339/laws.FnExactValidAlias", spec := "fnExactValidAlias", apart := false }
def FnExactValidAliasSaid : Prop := fnExactValidAliasRow.holds Try.pinned (OpenSpec.ofChange fnExactValidAliasSpec)

/-- ITS FALSE NEIGHBOUR: 'it returns false'. Refute it at one input. -/
def fnExactValidAliasWrong : ChangeSpec := { name := "fnExactValidAlias", fn := fun _ => fun
  | [d] => { results := [.lit (.bool false)], args := [d] }
  | _ => none }
def FnExactValidAliasWrongFalsely : Prop := fnExactValidAliasRow.holds Try.pinned (OpenSpec.ofChange fnExactValidAliasWrong)

/- THE SECOND FORM. 'bulk': how many values and letters a reading holds, each counted each time it is reached (what is shared counts as often as it is met; a slice's spare places count too). A statement '..UptoSaid' is the law's where the arguments, and the package variables that the reading takes, are together of bulk at most 1048576: NARROWER than '..Said'. Prove '..Said' where nothing that the law and all that it calls make is longer than what came in: it says more and counts as full. Else prove '..UptoSaid'. A law counts once. -/
mutual
def uptoBulk {H : Type} : DataW H → Nat
  | .lit (.string bytes) => bytes.length + 1
  | .lit _ => 1
  | .nil => 1
  | .ptr d => uptoBulk d + 1
  | .slice elems spare => uptoBulkAll elems + uptoBulkAll spare + 1
  | .agg parts => uptoBulkAll parts + 1
  | .iface _ d => uptoBulk d + 1
  | .map entries => uptoBulkEntries entries + 1
  | .held _ => 1
def uptoBulkAll {H : Type} : List (DataW H) → Nat
  | [] => 0
  | d :: r => uptoBulk d + uptoBulkAll r
def uptoBulkEntries {H : Type} : List (Lit × DataW H) → Nat
  | [] => 0
  | x :: r => uptoBulkEntry x + uptoBulkEntries r
def uptoBulkEntry {H : Type} : Lit × DataW H → Nat
  | (.string bytes, d) => bytes.length + uptoBulk d + 1
  | (_, d) => uptoBulk d + 1
 end
def uptoSmall : (H : Type) → List (DataW H) → Bool := fun _ ds => decide (uptoBulkAll ds ≤ 1048576)
def OpenSpec.upto (s : _root_.Go.ChangeSpec) : _root_.Go.OpenSpec := { _root_.Go.OpenSpec.ofChange s with cond := some uptoSmall }

/-- 'laws.FnExactCardsSeed', WHERE WHAT IT READS IS OF BULK AT MOST 1048576: true; the input reads as it did. -/
def fnExactCardsSeedUptoRow : OpenClaim := { program := "ytnofikeeobahjab", sum := "7d79c475f0e393d265ded41c3b4e4112b2a758689795b88d808a8c377006803b", func := "loop.example/g01339/laws.FnExactCardsSeed", spec := "fnExactCardsSeed", apart := false, narrowed := true }
def FnExactCardsSeedUptoSaid : Prop := fnExactCardsSeedUptoRow.holds Try.pinned (OpenSpec.upto fnExactCardsSeedSpec)

/-- 'laws.FnExactSampleSeed', WHERE WHAT IT READS IS OF BULK AT MOST 1048576: true; the input reads as it did. -/
def fnExactSampleSeedUptoRow : OpenClaim := { program := "ytnofikeeobahjab", sum := "7d79c475f0e393d265ded41c3b4e4112b2a758689795b88d808a8c377006803b", func := "loop.example/g01339/laws.FnExactSampleSeed", spec := "fnExactSampleSeed", apart := false, narrowed := true }
def FnExactSampleSeedUptoSaid : Prop := fnExactSampleSeedUptoRow.holds Try.pinned (OpenSpec.upto fnExactSampleSeedSpec)

/-- 'laws.FnExactReturnSeed', WHERE WHAT IT READS IS OF BULK AT MOST 1048576: true; the input reads as it did. -/
def fnExactReturnSeedUptoRow : OpenClaim := { program := "ytnofikeeobahjab", sum := "7d79c475f0e393d265ded41c3b4e4112b2a758689795b88d808a8c377006803b", func := "loop.example/g01339/laws.FnExactReturnSeed", spec := "fnExactReturnSeed", apart := false, narrowed := true }
def FnExactReturnSeedUptoSaid : Prop := fnExactReturnSeedUptoRow.holds Try.pinned (OpenSpec.upto fnExactReturnSeedSpec)

/-- 'laws.FnExactStreamSeed', WHERE WHAT IT READS IS OF BULK AT MOST 1048576: true; the input reads as it did. -/
def fnExactStreamSeedUptoRow : OpenClaim := { program := "ytnofikeeobahjab", sum := "7d79c475f0e393d265ded41c3b4e4112b2a758689795b88d808a8c377006803b", func := "loop.example/g01339/laws.FnExactStreamSeed", spec := "fnExactStreamSeed", apart := false, narrowed := true }
def FnExactStreamSeedUptoSaid : Prop := fnExactStreamSeedUptoRow.holds Try.pinned (OpenSpec.upto fnExactStreamSeedSpec)

/-- 'laws.FnExactTreeOf', WHERE WHAT IT READS IS OF BULK AT MOST 1048576: true; the input reads as it did. -/
def fnExactTreeOfUptoRow : OpenClaim := { program := "ytnofikeeobahjab", sum := "7d79c475f0e393d265ded41c3b4e4112b2a758689795b88d808a8c377006803b", func := "loop.example/g01339/laws.FnExactTreeOf", spec := "fnExactTreeOf", apart := false, narrowed := true }
def FnExactTreeOfUptoSaid : Prop := fnExactTreeOfUptoRow.holds Try.pinned (OpenSpec.upto fnExactTreeOfSpec)

/-- 'laws.FnExactTreeAdd', WHERE WHAT IT READS IS OF BULK AT MOST 1048576: true; the input reads as it did. -/
def fnExactTreeAddUptoRow : OpenClaim := { program := "ytnofikeeobahjab", sum := "7d79c475f0e393d265ded41c3b4e4112b2a758689795b88d808a8c377006803b", func := "loop.example/g01339/laws.FnExactTreeAdd", spec := "fnExactTreeAdd", apart := false, narrowed := true }
def FnExactTreeAddUptoSaid : Prop := fnExactTreeAddUptoRow.holds Try.pinned (OpenSpec.upto fnExactTreeAddSpec)

/-- 'laws.FnExactTreeSum', WHERE WHAT IT READS IS OF BULK AT MOST 1048576: true; the input reads as it did. -/
def fnExactTreeSumUptoRow : OpenClaim := { program := "ytnofikeeobahjab", sum := "7d79c475f0e393d265ded41c3b4e4112b2a758689795b88d808a8c377006803b", func := "loop.example/g01339/laws.FnExactTreeSum", spec := "fnExactTreeSum", apart := false, narrowed := true }
def FnExactTreeSumUptoSaid : Prop := fnExactTreeSumUptoRow.holds Try.pinned (OpenSpec.upto fnExactTreeSumSpec)

/-- 'laws.FnExactTreeSeed', WHERE WHAT IT READS IS OF BULK AT MOST 1048576: true; the input reads as it did. -/
def fnExactTreeSeedUptoRow : OpenClaim := { program := "ytnofikeeobahjab", sum := "7d79c475f0e393d265ded41c3b4e4112b2a758689795b88d808a8c377006803b", func := "loop.example/g01339/laws.FnExactTreeSeed", spec := "fnExactTreeSeed", apart := false, narrowed := true }
def FnExactTreeSeedUptoSaid : Prop := fnExactTreeSeedUptoRow.holds Try.pinned (OpenSpec.upto fnExactTreeSeedSpec)

/-- 'laws.FnExactRankOfBits', WHERE WHAT IT READS IS OF BULK AT MOST 1048576: true; the input reads as it did. -/
def fnExactRankOfBitsUptoRow : OpenClaim := { program := "ytnofikeeobahjab", sum := "7d79c475f0e393d265ded41c3b4e4112b2a758689795b88d808a8c377006803b", func := "loop.example/g01339/laws.FnExactRankOfBits", spec := "fnExactRankOfBits", apart := false, narrowed := true }
def FnExactRankOfBitsUptoSaid : Prop := fnExactRankOfBitsUptoRow.holds Try.pinned (OpenSpec.upto fnExactRankOfBitsSpec)

/-- 'laws.FnExactLatticeOf', WHERE WHAT IT READS IS OF BULK AT MOST 1048576: true; the input reads as it did. -/
def fnExactLatticeOfUptoRow : OpenClaim := { program := "ytnofikeeobahjab", sum := "7d79c475f0e393d265ded41c3b4e4112b2a758689795b88d808a8c377006803b", func := "loop.example/g01339/laws.FnExactLatticeOf", spec := "fnExactLatticeOf", apart := false, narrowed := true }
def FnExactLatticeOfUptoSaid : Prop := fnExactLatticeOfUptoRow.holds Try.pinned (OpenSpec.upto fnExactLatticeOfSpec)

/-- 'laws.FnExactStreamWords', WHERE WHAT IT READS IS OF BULK AT MOST 1048576: true; the input reads as it did. -/
def fnExactStreamWordsUptoRow : OpenClaim := { program := "ytnofikeeobahjab", sum := "7d79c475f0e393d265ded41c3b4e4112b2a758689795b88d808a8c377006803b", func := "loop.example/g01339/laws.FnExactStreamWords", spec := "fnExactStreamWords", apart := false, narrowed := true }
def FnExactStreamWordsUptoSaid : Prop := fnExactStreamWordsUptoRow.holds Try.pinned (OpenSpec.upto fnExactStreamWordsSpec)

/-- 'laws.FnExactValidAlias', WHERE WHAT IT READS IS OF BULK AT MOST 1048576: true; the input reads as it did. -/
def fnExactValidAliasUptoRow : OpenClaim := { program := "ytnofikeeobahjab", sum := "7d79c475f0e393d265ded41c3b4e4112b2a758689795b88d808a8c377006803b", func := "loop.example/g01339/laws.FnExactValidAlias", spec := "fnExactValidAlias", apart := false, narrowed := true }
def FnExactValidAliasUptoSaid : Prop := fnExactValidAliasUptoRow.holds Try.pinned (OpenSpec.upto fnExactValidAliasSpec)

end Rows
end Go.Proofs.Ytnofikeeobahjab
