/-
  No cell of these rows narrows 'for every input' (looked for: loops, veiled, ifaces, maps, wideKeys, modest, calm, conditions, laid).
  DERIVED. THE GIVEN ROWS OF THIS SEAT. 12 by the template 'for every input the law returns true; each argument reads behind the call as it read before'; 0 by the template 'total and deterministic' (their statements: YtdmbhnllebipjaaTotals.lean).
  GIVEN WITH THE SEED: the statements are not yours to turn. If you find one false, say at which input.
  Laid BY PROGRAM, IN A SANDBOX (cutbox-rows.mjs): the forced cells as the released guide's own fill.sh prints them over the translation e24ab47a911b9bdd… (all of the seat's roots in one cut). By AI agents, Wed Nov 11 2026. No macro, syntax, notation, axiom, sorry.
-/
import Derived.Test.YtdmbhnllebipjaaChecked
import GoSem.Claim
import GoSem.ClaimJoined
import GoSem.ClaimMapViews
import Derived.JoinedTies
import Derived.KernelRfl
namespace Go.Proofs.Ytdmbhnllebipjaa
/- THE CELL 'sum', in the pinned program and in every row, IS THE sha256 OF THE DUMP (.gsa) THAT YtdmbhnllebipjaaProg.lean LOADS. Nothing in Lean hashes anything: it is a label: what it is worth is what the hold of that sum in a sandbox is worth. -/
noncomputable def Try.pinned : Pinned := { name := "ytdmbhnllebipjaa", sum := "e24ab47a911b9bdd3d4b30c68c5a5778de5dc7fffd35e913800e0aba9f222634", checked := Try.checked }
namespace Rows
def none {H : Type} : Left H := { results := [], args := [] }

/-- 'laws.FnStreamsSharedOfAll': WHATEVER THE INPUT: true; the input reads as it did. -/
def fnStreamsSharedOfAllSpec : ChangeSpec := { name := "fnStreamsSharedOfAll", fn := fun _ => fun
  | [d1, d2, d3, d4, d5] => { results := [.lit (.bool true)], args := [d1, d2, d3, d4, d5] }
  | _ => none }
def fnStreamsSharedOfAllRow : OpenClaim := { program := "ytdmbhnllebipjaa", sum := "e24ab47a911b9bdd3d4b30c68c5a5778de5dc7fffd35e913800e0aba9f222634", func := "loop.example/g01339/laws.FnStreamsSharedOfAll", spec := "fnStreamsSharedOfAll", inPlace := ["(*sync.WaitGroup).Add", "internal/race.ReleaseMerge", "internal/race.Disable", "internal/race.Enable", "internal/synctest.IsInBubble", "internal/synctest.Associate[sync.WaitGroup]", "sync.fatal", "sync/atomic.OrUint64", "sync/atomic.AddUint64", "internal/race.Read", "sync/atomic.LoadUint64", "sync/atomic.StoreUint64", "internal/synctest.Disassociate[sync.WaitGroup]", "sync.runtime_Semrelease", "(*sync.WaitGroup).Done", "(*sync.WaitGroup).Wait", "internal/race.Acquire", "internal/synctest.IsAssociated[sync.WaitGroup]", "sync/atomic.CompareAndSwapUint64", "internal/race.Write", "sync.runtime_SemacquireWaitGroup"], unfollowed := true, recurses := true, leaving := true, apart := false }
def FnStreamsSharedOfAllSaid : Prop := fnStreamsSharedOfAllRow.holds Try.pinned (OpenSpec.ofChange fnStreamsSharedOfAllSpec)

/-- ITS FALSE NEIGHBOUR: 'it returns false'. Refute it at one input. -/
def fnStreamsSharedOfAllWrong : ChangeSpec := { name := "fnStreamsSharedOfAll", fn := fun _ => fun
  | [d1, d2, d3, d4, d5] => { results := [.lit (.bool false)], args := [d1, d2, d3, d4, d5] }
  | _ => none }
def FnStreamsSharedOfAllWrongFalsely : Prop := fnStreamsSharedOfAllRow.holds Try.pinned (OpenSpec.ofChange fnStreamsSharedOfAllWrong)

/-- 'laws.FnSeeds': WHATEVER THE INPUT: true; the input reads as it did. -/
def fnSeedsSpec : ChangeSpec := { name := "fnSeeds", fn := fun _ => fun
  | [d1, d2] => { results := [.lit (.bool true)], args := [d1, d2] }
  | _ => none }
def fnSeedsRow : OpenClaim := { program := "ytdmbhnllebipjaa", sum := "e24ab47a911b9bdd3d4b30c68c5a5778de5dc7fffd35e913800e0aba9f222634", func := "loop.example/g01339/laws.FnSeeds", spec := "fnSeeds", inPlace := ["(*sync.WaitGroup).Add", "internal/race.ReleaseMerge", "internal/race.Disable", "internal/race.Enable", "internal/synctest.IsInBubble", "internal/synctest.Associate[sync.WaitGroup]", "sync.fatal", "sync/atomic.OrUint64", "sync/atomic.AddUint64", "internal/race.Read", "sync/atomic.LoadUint64", "sync/atomic.StoreUint64", "internal/synctest.Disassociate[sync.WaitGroup]", "sync.runtime_Semrelease", "(*sync.WaitGroup).Done", "(*sync.WaitGroup).Wait", "internal/race.Acquire", "internal/synctest.IsAssociated[sync.WaitGroup]", "sync/atomic.CompareAndSwapUint64", "internal/race.Write", "sync.runtime_SemacquireWaitGroup"], unfollowed := true, recurses := true, leaving := true, apart := false }
def FnSeedsSaid : Prop := fnSeedsRow.holds Try.pinned (OpenSpec.ofChange fnSeedsSpec)

/-- ITS FALSE NEIGHBOUR: 'it returns false'. Refute it at one input. -/
def fnSeedsWrong : ChangeSpec := { name := "fnSeeds", fn := fun _ => fun
  | [d1, d2] => { results := [.lit (.bool false)], args := [d1, d2] }
  | _ => none }
def FnSeedsWrongFalsely : Prop := fnSeedsRow.holds Try.pinned (OpenSpec.ofChange fnSeedsWrong)

/-- 'laws.FnWords': WHATEVER THE INPUT: true; the input reads as it did. -/
def fnWordsSpec : ChangeSpec := { name := "fnWords", fn := fun _ => fun
  | [d1, d2] => { results := [.lit (.bool true)], args := [d1, d2] }
  | _ => none }
def fnWordsRow : OpenClaim := { program := "ytdmbhnllebipjaa", sum := "e24ab47a911b9bdd3d4b30c68c5a5778de5dc7fffd35e913800e0aba9f222634", func := "loop.example/g01339/laws.FnWords", spec := "fnWords", inPlace := ["math.Float64bits", "math.Float64frombits"], recurses := true, apart := false }
def FnWordsSaid : Prop := fnWordsRow.holds Try.pinned (OpenSpec.ofChange fnWordsSpec)

/-- ITS FALSE NEIGHBOUR: 'it returns false'. Refute it at one input. -/
def fnWordsWrong : ChangeSpec := { name := "fnWords", fn := fun _ => fun
  | [d1, d2] => { results := [.lit (.bool false)], args := [d1, d2] }
  | _ => none }
def FnWordsWrongFalsely : Prop := fnWordsRow.holds Try.pinned (OpenSpec.ofChange fnWordsWrong)

/-- 'laws.FnExactValidSeed': WHATEVER THE INPUT: true; the input reads as it did. -/
def fnExactValidSeedSpec : ChangeSpec := { name := "fnExactValidSeed", fn := fun _ => fun
  | [d] => { results := [.lit (.bool true)], args := [d] }
  | _ => none }
def fnExactValidSeedRow : OpenClaim := { program := "ytdmbhnllebipjaa", sum := "e24ab47a911b9bdd3d4b30c68c5a5778de5dc7fffd35e913800e0aba9f222634", func := "loop.example/g01339/laws.FnExactValidSeed", spec := "fnExactValidSeed", apart := false }
def FnExactValidSeedSaid : Prop := fnExactValidSeedRow.holds Try.pinned (OpenSpec.ofChange fnExactValidSeedSpec)

/-- ITS FALSE NEIGHBOUR: 'it returns false'. Refute it at one input. -/
def fnExactValidSeedWrong : ChangeSpec := { name := "fnExactValidSeed", fn := fun _ => fun
  | [d] => { results := [.lit (.bool false)], args := [d] }
  | _ => none }
def FnExactValidSeedWrongFalsely : Prop := fnExactValidSeedRow.holds Try.pinned (OpenSpec.ofChange fnExactValidSeedWrong)

/-- 'laws.FnExactSameSeed': WHATEVER THE INPUT: true; the input reads as it did. -/
def fnExactSameSeedSpec : ChangeSpec := { name := "fnExactSameSeed", fn := fun _ => fun
  | [d1, d2] => { results := [.lit (.bool true)], args := [d1, d2] }
  | _ => none }
def fnExactSameSeedRow : OpenClaim := { program := "ytdmbhnllebipjaa", sum := "e24ab47a911b9bdd3d4b30c68c5a5778de5dc7fffd35e913800e0aba9f222634", func := "loop.example/g01339/laws.FnExactSameSeed", spec := "fnExactSameSeed", apart := false }
def FnExactSameSeedSaid : Prop := fnExactSameSeedRow.holds Try.pinned (OpenSpec.ofChange fnExactSameSeedSpec)

/-- ITS FALSE NEIGHBOUR: 'it returns false'. Refute it at one input. -/
def fnExactSameSeedWrong : ChangeSpec := { name := "fnExactSameSeed", fn := fun _ => fun
  | [d1, d2] => { results := [.lit (.bool false)], args := [d1, d2] }
  | _ => none }
def FnExactSameSeedWrongFalsely : Prop := fnExactSameSeedRow.holds Try.pinned (OpenSpec.ofChange fnExactSameSeedWrong)

/-- 'laws.FnExactMixWord': WHATEVER THE INPUT: true; the input reads as it did. -/
def fnExactMixWordSpec : ChangeSpec := { name := "fnExactMixWord", fn := fun _ => fun
  | [d] => { results := [.lit (.bool true)], args := [d] }
  | _ => none }
def fnExactMixWordRow : OpenClaim := { program := "ytdmbhnllebipjaa", sum := "e24ab47a911b9bdd3d4b30c68c5a5778de5dc7fffd35e913800e0aba9f222634", func := "loop.example/g01339/laws.FnExactMixWord", spec := "fnExactMixWord", apart := false }
def FnExactMixWordSaid : Prop := fnExactMixWordRow.holds Try.pinned (OpenSpec.ofChange fnExactMixWordSpec)

/-- ITS FALSE NEIGHBOUR: 'it returns false'. Refute it at one input. -/
def fnExactMixWordWrong : ChangeSpec := { name := "fnExactMixWord", fn := fun _ => fun
  | [d] => { results := [.lit (.bool false)], args := [d] }
  | _ => none }
def FnExactMixWordWrongFalsely : Prop := fnExactMixWordRow.holds Try.pinned (OpenSpec.ofChange fnExactMixWordWrong)

/-- 'laws.FnExactNextSeed': WHATEVER THE INPUT: true; the input reads as it did. -/
def fnExactNextSeedSpec : ChangeSpec := { name := "fnExactNextSeed", fn := fun _ => fun
  | [d] => { results := [.lit (.bool true)], args := [d] }
  | _ => none }
def fnExactNextSeedRow : OpenClaim := { program := "ytdmbhnllebipjaa", sum := "e24ab47a911b9bdd3d4b30c68c5a5778de5dc7fffd35e913800e0aba9f222634", func := "loop.example/g01339/laws.FnExactNextSeed", spec := "fnExactNextSeed", apart := false }
def FnExactNextSeedSaid : Prop := fnExactNextSeedRow.holds Try.pinned (OpenSpec.ofChange fnExactNextSeedSpec)

/-- ITS FALSE NEIGHBOUR: 'it returns false'. Refute it at one input. -/
def fnExactNextSeedWrong : ChangeSpec := { name := "fnExactNextSeed", fn := fun _ => fun
  | [d] => { results := [.lit (.bool false)], args := [d] }
  | _ => none }
def FnExactNextSeedWrongFalsely : Prop := fnExactNextSeedRow.holds Try.pinned (OpenSpec.ofChange fnExactNextSeedWrong)

/-- 'laws.FnExactWordsOf': WHATEVER THE INPUT: true; the input reads as it did. -/
def fnExactWordsOfSpec : ChangeSpec := { name := "fnExactWordsOf", fn := fun _ => fun
  | [d1, d2] => { results := [.lit (.bool true)], args := [d1, d2] }
  | _ => none }
def fnExactWordsOfRow : OpenClaim := { program := "ytdmbhnllebipjaa", sum := "e24ab47a911b9bdd3d4b30c68c5a5778de5dc7fffd35e913800e0aba9f222634", func := "loop.example/g01339/laws.FnExactWordsOf", spec := "fnExactWordsOf", apart := false }
def FnExactWordsOfSaid : Prop := fnExactWordsOfRow.holds Try.pinned (OpenSpec.ofChange fnExactWordsOfSpec)

/-- ITS FALSE NEIGHBOUR: 'it returns false'. Refute it at one input. -/
def fnExactWordsOfWrong : ChangeSpec := { name := "fnExactWordsOf", fn := fun _ => fun
  | [d1, d2] => { results := [.lit (.bool false)], args := [d1, d2] }
  | _ => none }
def FnExactWordsOfWrongFalsely : Prop := fnExactWordsOfRow.holds Try.pinned (OpenSpec.ofChange fnExactWordsOfWrong)

/-- 'laws.FnExactSkipSeed': WHATEVER THE INPUT: true; the input reads as it did. -/
def fnExactSkipSeedSpec : ChangeSpec := { name := "fnExactSkipSeed", fn := fun _ => fun
  | [d1, d2] => { results := [.lit (.bool true)], args := [d1, d2] }
  | _ => none }
def fnExactSkipSeedRow : OpenClaim := { program := "ytdmbhnllebipjaa", sum := "e24ab47a911b9bdd3d4b30c68c5a5778de5dc7fffd35e913800e0aba9f222634", func := "loop.example/g01339/laws.FnExactSkipSeed", spec := "fnExactSkipSeed", apart := false }
def FnExactSkipSeedSaid : Prop := fnExactSkipSeedRow.holds Try.pinned (OpenSpec.ofChange fnExactSkipSeedSpec)

/-- ITS FALSE NEIGHBOUR: 'it returns false'. Refute it at one input. -/
def fnExactSkipSeedWrong : ChangeSpec := { name := "fnExactSkipSeed", fn := fun _ => fun
  | [d1, d2] => { results := [.lit (.bool false)], args := [d1, d2] }
  | _ => none }
def FnExactSkipSeedWrongFalsely : Prop := fnExactSkipSeedRow.holds Try.pinned (OpenSpec.ofChange fnExactSkipSeedWrong)

/-- 'laws.FnExactSplitSeed': WHATEVER THE INPUT: true; the input reads as it did. -/
def fnExactSplitSeedSpec : ChangeSpec := { name := "fnExactSplitSeed", fn := fun _ => fun
  | [d1, d2] => { results := [.lit (.bool true)], args := [d1, d2] }
  | _ => none }
def fnExactSplitSeedRow : OpenClaim := { program := "ytdmbhnllebipjaa", sum := "e24ab47a911b9bdd3d4b30c68c5a5778de5dc7fffd35e913800e0aba9f222634", func := "loop.example/g01339/laws.FnExactSplitSeed", spec := "fnExactSplitSeed", apart := false }
def FnExactSplitSeedSaid : Prop := fnExactSplitSeedRow.holds Try.pinned (OpenSpec.ofChange fnExactSplitSeedSpec)

/-- ITS FALSE NEIGHBOUR: 'it returns false'. Refute it at one input. -/
def fnExactSplitSeedWrong : ChangeSpec := { name := "fnExactSplitSeed", fn := fun _ => fun
  | [d1, d2] => { results := [.lit (.bool false)], args := [d1, d2] }
  | _ => none }
def FnExactSplitSeedWrongFalsely : Prop := fnExactSplitSeedRow.holds Try.pinned (OpenSpec.ofChange fnExactSplitSeedWrong)

/-- 'laws.FnExactStreamWords': WHATEVER THE INPUT: true; the input reads as it did. -/
def fnExactStreamWordsSpec : ChangeSpec := { name := "fnExactStreamWords", fn := fun _ => fun
  | [d1, d2, d3] => { results := [.lit (.bool true)], args := [d1, d2, d3] }
  | _ => none }
def fnExactStreamWordsRow : OpenClaim := { program := "ytdmbhnllebipjaa", sum := "e24ab47a911b9bdd3d4b30c68c5a5778de5dc7fffd35e913800e0aba9f222634", func := "loop.example/g01339/laws.FnExactStreamWords", spec := "fnExactStreamWords", apart := false }
def FnExactStreamWordsSaid : Prop := fnExactStreamWordsRow.holds Try.pinned (OpenSpec.ofChange fnExactStreamWordsSpec)

/-- ITS FALSE NEIGHBOUR: 'it returns false'. Refute it at one input. -/
def fnExactStreamWordsWrong : ChangeSpec := { name := "fnExactStreamWords", fn := fun _ => fun
  | [d1, d2, d3] => { results := [.lit (.bool false)], args := [d1, d2, d3] }
  | _ => none }
def FnExactStreamWordsWrongFalsely : Prop := fnExactStreamWordsRow.holds Try.pinned (OpenSpec.ofChange fnExactStreamWordsWrong)

/-- 'laws.FnExactStreamsShared': WHATEVER THE INPUT: true; the input reads as it did. -/
def fnExactStreamsSharedSpec : ChangeSpec := { name := "fnExactStreamsShared", fn := fun _ => fun
  | [d1, d2, d3, d4] => { results := [.lit (.bool true)], args := [d1, d2, d3, d4] }
  | _ => none }
def fnExactStreamsSharedRow : OpenClaim := { program := "ytdmbhnllebipjaa", sum := "e24ab47a911b9bdd3d4b30c68c5a5778de5dc7fffd35e913800e0aba9f222634", func := "loop.example/g01339/laws.FnExactStreamsShared", spec := "fnExactStreamsShared", inPlace := ["(*sync.WaitGroup).Add", "internal/race.ReleaseMerge", "internal/race.Disable", "internal/race.Enable", "internal/synctest.IsInBubble", "internal/synctest.Associate[sync.WaitGroup]", "sync.fatal", "sync/atomic.OrUint64", "sync/atomic.AddUint64", "internal/race.Read", "sync/atomic.LoadUint64", "sync/atomic.StoreUint64", "internal/synctest.Disassociate[sync.WaitGroup]", "sync.runtime_Semrelease", "(*sync.WaitGroup).Done", "(*sync.WaitGroup).Wait", "internal/race.Acquire", "internal/synctest.IsAssociated[sync.WaitGroup]", "sync/atomic.CompareAndSwapUint64", "internal/race.Write", "sync.runtime_SemacquireWaitGroup"], unfollowed := true, recurses := true, leaving := true, apart := false }
def FnExactStreamsSharedSaid : Prop := fnExactStreamsSharedRow.holds Try.pinned (OpenSpec.ofChange fnExactStreamsSharedSpec)

/-- ITS FALSE NEIGHBOUR: 'it returns false'. Refute it at one input. -/
def fnExactStreamsSharedWrong : ChangeSpec := { name := "fnExactStreamsShared", fn := fun _ => fun
  | [d1, d2, d3, d4] => { results := [.lit (.bool false)], args := [d1, d2, d3, d4] }
  | _ => none }
def FnExactStreamsSharedWrongFalsely : Prop := fnExactStreamsSharedRow.holds Try.pinned (OpenSpec.ofChange fnExactStreamsSharedWrong)

/- THE SECOND FORM. 'bulk': how many values and letters a reading holds, each counted each time it is reached (what is shared counts as often as it is met; a slice's spare places count too). A statement '..UptoSaid' is the law's where the arguments, and the package variables that the reading takes, are together of bulk at most 1048576: NARROWER than '..Said'. Prove '..Said' where nothing that the law and all that it calls make is longer than what came in: it says more and counts as full. Else prove '..UptoSaid'. A law counts once. -/
mutual
def uptoBulk {H : Type} : DataW H → Nat
  | .lit (.string bytes) => bytes.length + 1
  | .lit _ => 1
  | .nil => 1
  | .ptr d => uptoBulk d + 1
  | .slice elems spare => uptoBulkAll elems + uptoBulkAll spare + 1
  | .agg parts => uptoBulkAll parts + 1
  | .iface _ d => uptoBulk d + 1
  | .map entries => uptoBulkEntries entries + 1
  | .held _ => 1
def uptoBulkAll {H : Type} : List (DataW H) → Nat
  | [] => 0
  | d :: r => uptoBulk d + uptoBulkAll r
def uptoBulkEntries {H : Type} : List (Lit × DataW H) → Nat
  | [] => 0
  | x :: r => uptoBulkEntry x + uptoBulkEntries r
def uptoBulkEntry {H : Type} : Lit × DataW H → Nat
  | (.string bytes, d) => bytes.length + uptoBulk d + 1
  | (_, d) => uptoBulk d + 1
 end
def uptoSmall : (H : Type) → List (DataW H) → Bool := fun _ ds => decide (uptoBulkAll ds ≤ 1048576)
def OpenSpec.upto (s : _root_.Go.ChangeSpec) : _root_.Go.OpenSpec := { _root_.Go.OpenSpec.ofChange s with cond := some uptoSmall }

/-- 'laws.FnStreamsSharedOfAll', WHERE WHAT IT READS IS OF BULK AT MOST 1048576: true; the input reads as it did. -/
def fnStreamsSharedOfAllUptoRow : OpenClaim := { program := "ytdmbhnllebipjaa", sum := "e24ab47a911b9bdd3d4b30c68c5a5778de5dc7fffd35e913800e0aba9f222634", func := "loop.example/g01339/laws.FnStreamsSharedOfAll", spec := "fnStreamsSharedOfAll", inPlace := ["(*sync.WaitGroup).Add", "internal/race.ReleaseMerge", "internal/race.Disable", "internal/race.Enable", "internal/synctest.IsInBubble", "internal/synctest.Associate[sync.WaitGroup]", "sync.fatal", "sync/atomic.OrUint64", "sync/atomic.AddUint64", "internal/race.Read", "sync/atomic.LoadUint64", "sync/atomic.StoreUint64", "internal/synctest.Disassociate[sync.WaitGroup]", "sync.runtime_Semrelease", "(*sync.WaitGroup).Done", "(*sync.WaitGroup).Wait", "internal/race.Acquire", "internal/synctest.IsAssociated[sync.WaitGroup]", "sync/atomic.CompareAndSwapUint64", "internal/race.Write", "sync.runtime_SemacquireWaitGroup"], unfollowed := true, recurses := true, leaving := true, apart := false, narrowed := true }
def FnStreamsSharedOfAllUptoSaid : Prop := fnStreamsSharedOfAllUptoRow.holds Try.pinned (OpenSpec.upto fnStreamsSharedOfAllSpec)

/-- 'laws.FnSeeds', WHERE WHAT IT READS IS OF BULK AT MOST 1048576: true; the input reads as it did. -/
def fnSeedsUptoRow : OpenClaim := { program := "ytdmbhnllebipjaa", sum := "e24ab47a911b9bdd3d4b30c68c5a5778de5dc7fffd35e913800e0aba9f222634", func := "loop.example/g01339/laws.FnSeeds", spec := "fnSeeds", inPlace := ["(*sync.WaitGroup).Add", "internal/race.ReleaseMerge", "internal/race.Disable", "internal/race.Enable", "internal/synctest.IsInBubble", "internal/synctest.Associate[sync.WaitGroup]", "sync.fatal", "sync/atomic.OrUint64", "sync/atomic.AddUint64", "internal/race.Read", "sync/atomic.LoadUint64", "sync/atomic.StoreUint64", "internal/synctest.Disassociate[sync.WaitGroup]", "sync.runtime_Semrelease", "(*sync.WaitGroup).Done", "(*sync.WaitGroup).Wait", "internal/race.Acquire", "internal/synctest.IsAssociated[sync.WaitGroup]", "sync/atomic.CompareAndSwapUint64", "internal/race.Write", "sync.runtime_SemacquireWaitGroup"], unfollowed := true, recurses := true, leaving := true, apart := false, narrowed := true }
def FnSeedsUptoSaid : Prop := fnSeedsUptoRow.holds Try.pinned (OpenSpec.upto fnSeedsSpec)

/-- 'laws.FnWords', WHERE WHAT IT READS IS OF BULK AT MOST 1048576: true; the input reads as it did. -/
def fnWordsUptoRow : OpenClaim := { program := "ytdmbhnllebipjaa", sum := "e24ab47a911b9bdd3d4b30c68c5a5778de5dc7fffd35e913800e0aba9f222634", func := "loop.example/g01339/laws.FnWords", spec := "fnWords", inPlace := ["math.Float64bits", "math.Float64frombits"], recurses := true, apart := false, narrowed := true }
def FnWordsUptoSaid : Prop := fnWordsUptoRow.holds Try.pinned (OpenSpec.upto fnWordsSpec)

/-- 'laws.FnExactValidSeed', WHERE WHAT IT READS IS OF BULK AT MOST 1048576: true; the input reads as it did. -/
def fnExactValidSeedUptoRow : OpenClaim := { program := "ytdmbhnllebipjaa", sum := "e24ab47a911b9bdd3d4b30c68c5a5778de5dc7fffd35e913800e0aba9f222634", func := "loop.example/g01339/laws.FnExactValidSeed", spec := "fnExactValidSeed", apart := false, narrowed := true }
def FnExactValidSeedUptoSaid : Prop := fnExactValidSeedUptoRow.holds Try.pinned (OpenSpec.upto fnExactValidSeedSpec)

/-- 'laws.FnExactSameSeed', WHERE WHAT IT READS IS OF BULK AT MOST 1048576: true; the input reads as it did. -/
def fnExactSameSeedUptoRow : OpenClaim := { program := "ytdmbhnllebipjaa", sum := "e24ab47a911b9bdd3d4b30c68c5a5778de5dc7fffd35e913800e0aba9f222634", func := "loop.example/g01339/laws.FnExactSameSeed", spec := "fnExactSameSeed", apart := false, narrowed := true }
def FnExactSameSeedUptoSaid : Prop := fnExactSameSeedUptoRow.holds Try.pinned (OpenSpec.upto fnExactSameSeedSpec)

/-- 'laws.FnExactMixWord', WHERE WHAT IT READS IS OF BULK AT MOST 1048576: true; the input reads as it did. -/
def fnExactMixWordUptoRow : OpenClaim := { program := "ytdmbhnllebipjaa", sum := "e24ab47a911b9bdd3d4b30c68c5a5778de5dc7fffd35e913800e0aba9f222634", func := "loop.example/g01339/laws.FnExactMixWord", spec := "fnExactMixWord", apart := false, narrowed := true }
def FnExactMixWordUptoSaid : Prop := fnExactMixWordUptoRow.holds Try.pinned (OpenSpec.upto fnExactMixWordSpec)

/-- 'laws.FnExactNextSeed', WHERE WHAT IT READS IS OF BULK AT MOST 1048576: true; the input reads as it did. -/
def fnExactNextSeedUptoRow : OpenClaim := { program := "ytdmbhnllebipjaa", sum := "e24ab47a911b9bdd3d4b30c68c5a5778de5dc7fffd35e913800e0aba9f222634", func := "loop.example/g01339/laws.FnExactNextSeed", spec := "fnExactNextSeed", apart := false, narrowed := true }
def FnExactNextSeedUptoSaid : Prop := fnExactNextSeedUptoRow.holds Try.pinned (OpenSpec.upto fnExactNextSeedSpec)

/-- 'laws.FnExactWordsOf', WHERE WHAT IT READS IS OF BULK AT MOST 1048576: true; the input reads as it did. -/
def fnExactWordsOfUptoRow : OpenClaim := { program := "ytdmbhnllebipjaa", sum := "e24ab47a911b9bdd3d4b30c68c5a5778de5dc7fffd35e913800e0aba9f222634", func := "loop.example/g01339/laws.FnExactWordsOf", spec := "fnExactWordsOf", apart := false, narrowed := true }
def FnExactWordsOfUptoSaid : Prop := fnExactWordsOfUptoRow.holds Try.pinned (OpenSpec.upto fnExactWordsOfSpec)

/-- 'laws.FnExactSkipSeed', WHERE WHAT IT READS IS OF BULK AT MOST 1048576: true; the input reads as it did. -/
def fnExactSkipSeedUptoRow : OpenClaim := { program := "ytdmbhnllebipjaa", sum := "e24ab47a911b9bdd3d4b30c68c5a5778de5dc7fffd35e913800e0aba9f222634", func := "loop.example/g01339/laws.FnExactSkipSeed", spec := "fnExactSkipSeed", apart := false, narrowed := true }
def FnExactSkipSeedUptoSaid : Prop := fnExactSkipSeedUptoRow.holds Try.pinned (OpenSpec.upto fnExactSkipSeedSpec)

/-- 'laws.FnExactSplitSeed', WHERE WHAT IT READS IS OF BULK AT MOST 1048576: true; the input reads as it did. -/
def fnExactSplitSeedUptoRow : OpenClaim := { program := "ytdmbhnllebipjaa", sum := "e24ab47a911b9bdd3d4b30c68c5a5778de5dc7fffd35e913800e0aba9f222634", func := "loop.example/g01339/laws.FnExactSplitSeed", spec := "fnExactSplitSeed", apart := false, narrowed := true }
def FnExactSplitSeedUptoSaid : Prop := fnExactSplitSeedUptoRow.holds Try.pinned (OpenSpec.upto fnExactSplitSeedSpec)

/-- 'laws.FnExactStreamWords', WHERE WHAT IT READS IS OF BULK AT MOST 1048576: true; the input reads as it did. -/
def fnExactStreamWordsUptoRow : OpenClaim := { program := "ytdmbhnllebipjaa", sum := "e24ab47a911b9bdd3d4b30c68c5a5778de5dc7fffd35e913800e0aba9f222634", func := "loop.example/g01339/laws.FnExactStreamWords", spec := "fnExactStreamWords", apart := false, narrowed := true }
def FnExactStreamWordsUptoSaid : Prop := fnExactStreamWordsUptoRow.holds Try.pinned (OpenSpec.upto fnExactStreamWordsSpec)

/-- 'laws.FnExactStreamsShared', WHERE WHAT IT READS IS OF BULK AT MOST 1048576: true; the input reads as it did. -/
def fnExactStreamsSharedUptoRow : OpenClaim := { program := "ytdmbhnllebipjaa", sum := "e24ab47a911b9bdd3d4b30c68c5a5778de5dc7fffd35e913800e0aba9f222634", func := "loop.example/g01339/laws.FnExactStreamsShared", spec := "fnExactStreamsShared", inPlace := ["(*sync.WaitGroup).Add", "internal/race.ReleaseMerge", "internal/race.Disable", "internal/race.Enable", "internal/synctest.IsInBubble", "internal/synctest.Associate[sync.WaitGroup]", "sync.fatal", "sync/atomic.OrUint64", "sync/atomic.AddUint64", "internal/race.Read", "sync/atomic.LoadUint64", "sync/atomic.StoreUint64", "internal/synctest.Disassociate[sync.WaitGroup]", "sync.runtime_Semrelease", "(*sync.WaitGroup).Done", "(*sync.WaitGroup).Wait", "internal/race.Acquire", "internal/synctest.IsAssociated[sync.WaitGroup]", "sync/atomic.CompareAndSwapUint64", "internal/race.Write", "sync.runtime_SemacquireWaitGroup"], unfollowed := true, recurses := true, leaving := true, apart := false, narrowed := true }
def FnExactStreamsSharedUptoSaid : Prop := fnExactStreamsSharedUptoRow.holds Try.pinned (OpenSpec.upto fnExactStreamsSharedSpec)

end Rows
end Go.Proofs.Ytdmbhnllebipjaa
