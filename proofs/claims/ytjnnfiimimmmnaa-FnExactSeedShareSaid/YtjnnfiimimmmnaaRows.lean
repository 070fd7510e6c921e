/-
  No cell of these rows narrows 'for every input' (looked for: loops, veiled, ifaces, maps, wideKeys, modest, calm, conditions, laid).
  DERIVED. THE GIVEN ROWS OF THIS SEAT. 12 by the template 'for every input the law returns true; each argument reads behind the call as it read before'; 0 by the template 'total and deterministic' (their statements: YtjnnfiimimmmnaaTotals.lean).
  GIVEN WITH THE SEED: the statements are not yours to turn. If you find one false, say at which input.
  Laid BY PROGRAM, IN A SANDBOX (cutbox-rows.mjs): the forced cells as the released guide's own fill.sh prints them over the translation b2a3148ab3ce3c11… (all of the seat's roots in one cut). By AI agents, Wed Nov 11 2026. No macro, syntax, notation, axiom, sorry.
-/
import Derived.Test.YtjnnfiimimmmnaaChecked
import GoSem.Claim
import GoSem.ClaimJoined
import GoSem.ClaimMapViews
import Derived.JoinedTies
import Derived.KernelRfl
namespace Go.Proofs.Ytjnnfiimimmmnaa
/- THE CELL 'sum', in the pinned program and in every row, IS THE sha256 OF THE DUMP (.gsa) THAT YtjnnfiimimmmnaaProg.lean LOADS. Nothing in Lean hashes anything: it is a label: what it is worth is what the hold of that sum in a sandbox is worth. -/
noncomputable def Try.pinned : Pinned := { name := "ytjnnfiimimmmnaa", sum := "b2a3148ab3ce3c113ef915a47c0095201bd895039a817479a407035ed4c5dc4e", checked := Try.checked }
namespace Rows
def none {H : Type} : Left H := { results := [], args := [] }

/-- 'laws.FnExactValidShare': WHATEVER THE INPUT: true; the input reads as it did. -/
def fnExactValidShareSpec : ChangeSpec := { name := "fnExactValidShare", fn := fun _ => fun
  | [d] => { results := [.lit (.bool true)], args := [d] }
  | _ => none }
def fnExactValidShareRow : OpenClaim := { program := "ytjnnfiimimmmnaa", sum := "b2a3148ab3ce3c113ef915a47c0095201bd895039a817479a407035ed4c5dc4e", func := "loop.example/g01339/laws.FnExactValidShare", spec := "fnExactValidShare", inPlace := ["math.Float64bits", "math.Float64frombits"], apart := false }
def FnExactValidShareSaid : Prop := fnExactValidShareRow.holds Try.pinned (OpenSpec.ofChange fnExactValidShareSpec)

/-- ITS FALSE NEIGHBOUR: 'it returns false'. Refute it at one input. -/
def fnExactValidShareWrong : ChangeSpec := { name := "fnExactValidShare", fn := fun _ => fun
  | [d] => { results := [.lit (.bool false)], args := [d] }
  | _ => none }
def FnExactValidShareWrongFalsely : Prop := fnExactValidShareRow.holds Try.pinned (OpenSpec.ofChange fnExactValidShareWrong)

/-- 'laws.FnExactSameShare': WHATEVER THE INPUT: true; the input reads as it did. -/
def fnExactSameShareSpec : ChangeSpec := { name := "fnExactSameShare", fn := fun _ => fun
  | [d1, d2] => { results := [.lit (.bool true)], args := [d1, d2] }
  | _ => none }
def fnExactSameShareRow : OpenClaim := { program := "ytjnnfiimimmmnaa", sum := "b2a3148ab3ce3c113ef915a47c0095201bd895039a817479a407035ed4c5dc4e", func := "loop.example/g01339/laws.FnExactSameShare", spec := "fnExactSameShare", inPlace := ["math.Float32bits"], unfollowed := true, recurses := true, apart := false }
def FnExactSameShareSaid : Prop := fnExactSameShareRow.holds Try.pinned (OpenSpec.ofChange fnExactSameShareSpec)

/-- ITS FALSE NEIGHBOUR: 'it returns false'. Refute it at one input. -/
def fnExactSameShareWrong : ChangeSpec := { name := "fnExactSameShare", fn := fun _ => fun
  | [d1, d2] => { results := [.lit (.bool false)], args := [d1, d2] }
  | _ => none }
def FnExactSameShareWrongFalsely : Prop := fnExactSameShareRow.holds Try.pinned (OpenSpec.ofChange fnExactSameShareWrong)

/-- 'laws.FnExactMeanOfShare': WHATEVER THE INPUT: true; the input reads as it did. -/
def fnExactMeanOfShareSpec : ChangeSpec := { name := "fnExactMeanOfShare", fn := fun _ => fun
  | [d] => { results := [.lit (.bool true)], args := [d] }
  | _ => none }
def fnExactMeanOfShareRow : OpenClaim := { program := "ytjnnfiimimmmnaa", sum := "b2a3148ab3ce3c113ef915a47c0095201bd895039a817479a407035ed4c5dc4e", func := "loop.example/g01339/laws.FnExactMeanOfShare", spec := "fnExactMeanOfShare", inPlace := ["math.Float64bits", "math.Float64frombits"], apart := false }
def FnExactMeanOfShareSaid : Prop := fnExactMeanOfShareRow.holds Try.pinned (OpenSpec.ofChange fnExactMeanOfShareSpec)

/-- ITS FALSE NEIGHBOUR: 'it returns false'. Refute it at one input. -/
def fnExactMeanOfShareWrong : ChangeSpec := { name := "fnExactMeanOfShare", fn := fun _ => fun
  | [d] => { results := [.lit (.bool false)], args := [d] }
  | _ => none }
def FnExactMeanOfShareWrongFalsely : Prop := fnExactMeanOfShareRow.holds Try.pinned (OpenSpec.ofChange fnExactMeanOfShareWrong)

/-- 'laws.FnExactMomentOf': WHATEVER THE INPUT: true; the input reads as it did. -/
def fnExactMomentOfSpec : ChangeSpec := { name := "fnExactMomentOf", fn := fun _ => fun
  | [d1, d2] => { results := [.lit (.bool true)], args := [d1, d2] }
  | _ => none }
def fnExactMomentOfRow : OpenClaim := { program := "ytjnnfiimimmmnaa", sum := "b2a3148ab3ce3c113ef915a47c0095201bd895039a817479a407035ed4c5dc4e", func := "loop.example/g01339/laws.FnExactMomentOf", spec := "fnExactMomentOf", inPlace := ["math.Float64bits", "math.Float64frombits"], apart := false }
def FnExactMomentOfSaid : Prop := fnExactMomentOfRow.holds Try.pinned (OpenSpec.ofChange fnExactMomentOfSpec)

/-- ITS FALSE NEIGHBOUR: 'it returns false'. Refute it at one input. -/
def fnExactMomentOfWrong : ChangeSpec := { name := "fnExactMomentOf", fn := fun _ => fun
  | [d1, d2] => { results := [.lit (.bool false)], args := [d1, d2] }
  | _ => none }
def FnExactMomentOfWrongFalsely : Prop := fnExactMomentOfRow.holds Try.pinned (OpenSpec.ofChange fnExactMomentOfWrong)

/-- 'laws.FnExactChanceBelow': WHATEVER THE INPUT: true; the input reads as it did. -/
def fnExactChanceBelowSpec : ChangeSpec := { name := "fnExactChanceBelow", fn := fun _ => fun
  | [d1, d2] => { results := [.lit (.bool true)], args := [d1, d2] }
  | _ => none }
def fnExactChanceBelowRow : OpenClaim := { program := "ytjnnfiimimmmnaa", sum := "b2a3148ab3ce3c113ef915a47c0095201bd895039a817479a407035ed4c5dc4e", func := "loop.example/g01339/laws.FnExactChanceBelow", spec := "fnExactChanceBelow", inPlace := ["math.Float64bits", "math.Float64frombits"], apart := false }
def FnExactChanceBelowSaid : Prop := fnExactChanceBelowRow.holds Try.pinned (OpenSpec.ofChange fnExactChanceBelowSpec)

/-- ITS FALSE NEIGHBOUR: 'it returns false'. Refute it at one input. -/
def fnExactChanceBelowWrong : ChangeSpec := { name := "fnExactChanceBelow", fn := fun _ => fun
  | [d1, d2] => { results := [.lit (.bool false)], args := [d1, d2] }
  | _ => none }
def FnExactChanceBelowWrongFalsely : Prop := fnExactChanceBelowRow.holds Try.pinned (OpenSpec.ofChange fnExactChanceBelowWrong)

/-- 'laws.FnExactQuantileOf': WHATEVER THE INPUT: true; the input reads as it did. -/
def fnExactQuantileOfSpec : ChangeSpec := { name := "fnExactQuantileOf", fn := fun _ => fun
  | [d1, d2] => { results := [.lit (.bool true)], args := [d1, d2] }
  | _ => none }
def fnExactQuantileOfRow : OpenClaim := { program := "ytjnnfiimimmmnaa", sum := "b2a3148ab3ce3c113ef915a47c0095201bd895039a817479a407035ed4c5dc4e", func := "loop.example/g01339/laws.FnExactQuantileOf", spec := "fnExactQuantileOf", inPlace := ["math.Float64bits", "math.Float64frombits"], unfollowed := true, recurses := true, apart := false }
def FnExactQuantileOfSaid : Prop := fnExactQuantileOfRow.holds Try.pinned (OpenSpec.ofChange fnExactQuantileOfSpec)

/-- ITS FALSE NEIGHBOUR: 'it returns false'. Refute it at one input. -/
def fnExactQuantileOfWrong : ChangeSpec := { name := "fnExactQuantileOf", fn := fun _ => fun
  | [d1, d2] => { results := [.lit (.bool false)], args := [d1, d2] }
  | _ => none }
def FnExactQuantileOfWrongFalsely : Prop := fnExactQuantileOfRow.holds Try.pinned (OpenSpec.ofChange fnExactQuantileOfWrong)

/-- 'laws.FnExactSeedShare': WHATEVER THE INPUT: true; the input reads as it did. -/
def fnExactSeedShareSpec : ChangeSpec := { name := "fnExactSeedShare", fn := fun _ => fun
  | [d1, d2] => { results := [.lit (.bool true)], args := [d1, d2] }
  | _ => none }
def fnExactSeedShareRow : OpenClaim := { program := "ytjnnfiimimmmnaa", sum := "b2a3148ab3ce3c113ef915a47c0095201bd895039a817479a407035ed4c5dc4e", func := "loop.example/g01339/laws.FnExactSeedShare", spec := "fnExactSeedShare", inPlace := ["math.Float64bits", "math.Float64frombits"], unfollowed := true, recurses := true, apart := false }
def FnExactSeedShareSaid : Prop := fnExactSeedShareRow.holds Try.pinned (OpenSpec.ofChange fnExactSeedShareSpec)

/-- ITS FALSE NEIGHBOUR: 'it returns false'. Refute it at one input. -/
def fnExactSeedShareWrong : ChangeSpec := { name := "fnExactSeedShare", fn := fun _ => fun
  | [d1, d2] => { results := [.lit (.bool false)], args := [d1, d2] }
  | _ => none }
def FnExactSeedShareWrongFalsely : Prop := fnExactSeedShareRow.holds Try.pinned (OpenSpec.ofChange fnExactSeedShareWrong)

/-- 'laws.FnExactEntropyOf': WHATEVER THE INPUT: true; the input reads as it did. -/
def fnExactEntropyOfSpec : ChangeSpec := { name := "fnExactEntropyOf", fn := fun _ => fun
  | [d] => { results := [.lit (.bool true)], args := [d] }
  | _ => none }
def fnExactEntropyOfRow : OpenClaim := { program := "ytjnnfiimimmmnaa", sum := "b2a3148ab3ce3c113ef915a47c0095201bd895039a817479a407035ed4c5dc4e", func := "loop.example/g01339/laws.FnExactEntropyOf", spec := "fnExactEntropyOf", inPlace := ["math.Float64frombits", "math.Float64bits"], apart := false }
def FnExactEntropyOfSaid : Prop := fnExactEntropyOfRow.holds Try.pinned (OpenSpec.ofChange fnExactEntropyOfSpec)

/-- ITS FALSE NEIGHBOUR: 'it returns false'. Refute it at one input. -/
def fnExactEntropyOfWrong : ChangeSpec := { name := "fnExactEntropyOf", fn := fun _ => fun
  | [d] => { results := [.lit (.bool false)], args := [d] }
  | _ => none }
def FnExactEntropyOfWrongFalsely : Prop := fnExactEntropyOfRow.holds Try.pinned (OpenSpec.ofChange fnExactEntropyOfWrong)

/-- 'laws.FnExactValidMixture': WHATEVER THE INPUT: true; the input reads as it did. -/
def fnExactValidMixtureSpec : ChangeSpec := { name := "fnExactValidMixture", fn := fun _ => fun
  | [d] => { results := [.lit (.bool true)], args := [d] }
  | _ => none }
def fnExactValidMixtureRow : OpenClaim := { program := "ytjnnfiimimmmnaa", sum := "b2a3148ab3ce3c113ef915a47c0095201bd895039a817479a407035ed4c5dc4e", func := "loop.example/g01339/laws.FnExactValidMixture", spec := "fnExactValidMixture", inPlace := ["math.Float64bits", "math.Float64frombits"], apart := false }
def FnExactValidMixtureSaid : Prop := fnExactValidMixtureRow.holds Try.pinned (OpenSpec.ofChange fnExactValidMixtureSpec)

/-- ITS FALSE NEIGHBOUR: 'it returns false'. Refute it at one input. -/
def fnExactValidMixtureWrong : ChangeSpec := { name := "fnExactValidMixture", fn := fun _ => fun
  | [d] => { results := [.lit (.bool false)], args := [d] }
  | _ => none }
def FnExactValidMixtureWrongFalsely : Prop := fnExactValidMixtureRow.holds Try.pinned (OpenSpec.ofChange fnExactValidMixtureWrong)

/-- 'laws.FnExactMixtureAt': WHATEVER THE INPUT: true; the input reads as it did. -/
def fnExactMixtureAtSpec : ChangeSpec := { name := "fnExactMixtureAt", fn := fun _ => fun
  | [d1, d2] => { results := [.lit (.bool true)], args := [d1, d2] }
  | _ => none }
def fnExactMixtureAtRow : OpenClaim := { program := "ytjnnfiimimmmnaa", sum := "b2a3148ab3ce3c113ef915a47c0095201bd895039a817479a407035ed4c5dc4e", func := "loop.example/g01339/laws.FnExactMixtureAt", spec := "fnExactMixtureAt", inPlace := ["math.Float64frombits", "math.Float64bits"], apart := false }
def FnExactMixtureAtSaid : Prop := fnExactMixtureAtRow.holds Try.pinned (OpenSpec.ofChange fnExactMixtureAtSpec)

/-- ITS FALSE NEIGHBOUR: 'it returns false'. Refute it at one input. -/
def fnExactMixtureAtWrong : ChangeSpec := { name := "fnExactMixtureAt", fn := fun _ => fun
  | [d1, d2] => { results := [.lit (.bool false)], args := [d1, d2] }
  | _ => none }
def FnExactMixtureAtWrongFalsely : Prop := fnExactMixtureAtRow.holds Try.pinned (OpenSpec.ofChange fnExactMixtureAtWrong)

/-- 'laws.FnExactStepsApart': WHATEVER THE INPUT: true; the input reads as it did. -/
def fnExactStepsApartSpec : ChangeSpec := { name := "fnExactStepsApart", fn := fun _ => fun
  | [d1, d2] => { results := [.lit (.bool true)], args := [d1, d2] }
  | _ => none }
def fnExactStepsApartRow : OpenClaim := { program := "ytjnnfiimimmmnaa", sum := "b2a3148ab3ce3c113ef915a47c0095201bd895039a817479a407035ed4c5dc4e", func := "loop.example/g01339/laws.FnExactStepsApart", spec := "fnExactStepsApart", inPlace := ["math.Float64bits", "math.Float64frombits"], apart := false }
def FnExactStepsApartSaid : Prop := fnExactStepsApartRow.holds Try.pinned (OpenSpec.ofChange fnExactStepsApartSpec)

/-- ITS FALSE NEIGHBOUR: 'it returns false'. Refute it at one input. -/
def fnExactStepsApartWrong : ChangeSpec := { name := "fnExactStepsApart", fn := fun _ => fun
  | [d1, d2] => { results := [.lit (.bool false)], args := [d1, d2] }
  | _ => none }
def FnExactStepsApartWrongFalsely : Prop := fnExactStepsApartRow.holds Try.pinned (OpenSpec.ofChange fnExactStepsApartWrong)

/-- 'laws.FnExactBellBelow': WHATEVER THE INPUT: true; the input reads as it did. -/
def fnExactBellBelowSpec : ChangeSpec := { name := "fnExactBellBelow", fn := fun _ => fun
  | [d] => { results := [.lit (.bool true)], args := [d] }
  | _ => none }
def fnExactBellBelowRow : OpenClaim := { program := "ytjnnfiimimmmnaa", sum := "b2a3148ab3ce3c113ef915a47c0095201bd895039a817479a407035ed4c5dc4e", func := "loop.example/g01339/laws.FnExactBellBelow", spec := "fnExactBellBelow", inPlace := ["math.Float64frombits", "math.Float64bits"], apart := false }
def FnExactBellBelowSaid : Prop := fnExactBellBelowRow.holds Try.pinned (OpenSpec.ofChange fnExactBellBelowSpec)

/-- ITS FALSE NEIGHBOUR: 'it returns false'. Refute it at one input. -/
def fnExactBellBelowWrong : ChangeSpec := { name := "fnExactBellBelow", fn := fun _ => fun
  | [d] => { results := [.lit (.bool false)], args := [d] }
  | _ => none }
def FnExactBellBelowWrongFalsely : Prop := fnExactBellBelowRow.holds Try.pinned (OpenSpec.ofChange fnExactBellBelowWrong)

/- THE SECOND FORM. 'bulk': how many values and letters a reading holds, each counted each time it is reached (what is shared counts as often as it is met; a slice's spare places count too). A statement '..UptoSaid' is the law's where the arguments, and the package variables that the reading takes, are together of bulk at most 1048576: NARROWER than '..Said'. Prove '..Said' where nothing that the law and all that it calls make is longer than what came in: it says more and counts as full. Else prove '..UptoSaid'. A law counts once. -/
mutual
def uptoBulk {H : Type} : DataW H → Nat
  | .lit (.string bytes) => bytes.length + 1
  | .lit _ => 1
  | .nil => 1
  | .ptr d => uptoBulk d + 1
  | .slice elems spare => uptoBulkAll elems + uptoBulkAll spare + 1
  | .agg parts => uptoBulkAll parts + 1
  | .iface _ d => uptoBulk d + 1
  | .map entries => uptoBulkEntries entries + 1
  | .held _ => 1
def uptoBulkAll {H : Type} : List (DataW H) → Nat
  | [] => 0
  | d :: r => uptoBulk d + uptoBulkAll r
def uptoBulkEntries {H : Type} : List (Lit × DataW H) → Nat
  | [] => 0
  | x :: r => uptoBulkEntry x + uptoBulkEntries r
def uptoBulkEntry {H : Type} : Lit × DataW H → Nat
  | (.string bytes, d) => bytes.length + uptoBulk d + 1
  | (_, d) => uptoBulk d + 1
 end
def uptoSmall : (H : Type) → List (DataW H) → Bool := fun _ ds => decide (uptoBulkAll ds ≤ 1048576)
def OpenSpec.upto (s : _root_.Go.ChangeSpec) : _root_.Go.OpenSpec := { _root_.Go.OpenSpec.ofChange s with cond := some uptoSmall }

/-- 'laws.FnExactValidShare', WHERE WHAT IT READS IS OF BULK AT MOST 1048576: true; the input reads as it did. -/
def fnExactValidShareUptoRow : OpenClaim := { program := "ytjnnfiimimmmnaa", sum := "b2a3148ab3ce3c113ef915a47c0095201bd895039a817479a407035ed4c5dc4e", func := "loop.example/g01339/laws.FnExactValidShare", spec := "fnExactValidShare", inPlace := ["math.Float64bits", "math.Float64frombits"], apart := false, narrowed := true }
def FnExactValidShareUptoSaid : Prop := fnExactValidShareUptoRow.holds Try.pinned (OpenSpec.upto fnExactValidShareSpec)

/-- 'laws.FnExactSameShare', WHERE WHAT IT READS IS OF BULK AT MOST 1048576: true; the input reads as it did. -/
def fnExactSameShareUptoRow : OpenClaim := { program := "ytjnnfiimimmmnaa", sum := "b2a3148ab3ce3c113ef915a47c0095201bd895039a817479a407035ed4c5dc4e", func := "loop.example/g01339/laws.FnExactSameShare", spec := "fnExactSameShare", inPlace := ["math.Float32bits"], unfollowed := true, recurses := true, apart := false, narrowed := true }
def FnExactSameShareUptoSaid : Prop := fnExactSameShareUptoRow.holds Try.pinned (OpenSpec.upto fnExactSameShareSpec)

/-- 'laws.FnExactMeanOfShare', WHERE WHAT IT READS IS OF BULK AT MOST 1048576: true; the input reads as it did. -/
def fnExactMeanOfShareUptoRow : OpenClaim := { program := "ytjnnfiimimmmnaa", sum := "b2a3148ab3ce3c113ef915a47c0095201bd895039a817479a407035ed4c5dc4e", func := "loop.example/g01339/laws.FnExactMeanOfShare", spec := "fnExactMeanOfShare", inPlace := ["math.Float64bits", "math.Float64frombits"], apart := false, narrowed := true }
def FnExactMeanOfShareUptoSaid : Prop := fnExactMeanOfShareUptoRow.holds Try.pinned (OpenSpec.upto fnExactMeanOfShareSpec)

/-- 'laws.FnExactMomentOf', WHERE WHAT IT READS IS OF BULK AT MOST 1048576: true; the input reads as it did. -/
def fnExactMomentOfUptoRow : OpenClaim := { program := "ytjnnfiimimmmnaa", sum := "b2a3148ab3ce3c113ef915a47c0095201bd895039a817479a407035ed4c5dc4e", func := "loop.example/g01339/laws.FnExactMomentOf", spec := "fnExactMomentOf", inPlace := ["math.Float64bits", "math.Float64frombits"], apart := false, narrowed := true }
def FnExactMomentOfUptoSaid : Prop := fnExactMomentOfUptoRow.holds Try.pinned (OpenSpec.upto fnExactMomentOfSpec)

/-- 'laws.FnExactChanceBelow', WHERE WHAT IT READS IS OF BULK AT MOST 1048576: true; the input reads as it did. -/
def fnExactChanceBelowUptoRow : OpenClaim := { program := "ytjnnfiimimmmnaa", sum := "b2a3148ab3ce3c113ef915a47c0095201bd895039a817479a407035ed4c5dc4e", func := "loop.example/g01339/laws.FnExactChanceBelow", spec := "fnExactChanceBelow", inPlace := ["math.Float64bits", "math.Float64frombits"], apart := false, narrowed := true }
def FnExactChanceBelowUptoSaid : Prop := fnExactChanceBelowUptoRow.holds Try.pinned (OpenSpec.upto fnExactChanceBelowSpec)

/-- 'laws.FnExactQuantileOf', WHERE WHAT IT READS IS OF BULK AT MOST 1048576: true; the input reads as it did. -/
def fnExactQuantileOfUptoRow : OpenClaim := { program := "ytjnnfiimimmmnaa", sum := "b2a3148ab3ce3c113ef915a47c0095201bd895039a817479a407035ed4c5dc4e", func := "loop.example/g01339/laws.FnExactQuantileOf", spec := "fnExactQuantileOf", inPlace := ["math.Float64bits", "math.Float64frombits"], unfollowed := true, recurses := true, apart := false, narrowed := true }
def FnExactQuantileOfUptoSaid : Prop := fnExactQuantileOfUptoRow.holds Try.pinned (OpenSpec.upto fnExactQuantileOfSpec)

/-- 'laws.FnExactSeedShare', WHERE WHAT IT READS IS OF BULK AT MOST 1048576: true; the input reads as it did. -/
def fnExactSeedShareUptoRow : OpenClaim := { program := "ytjnnfiimimmmnaa", sum := "b2a3148ab3ce3c113ef915a47c0095201bd895039a817479a407035ed4c5dc4e", func := "loop.example/g01339/laws.FnExactSeedShare", spec := "fnExactSeedShare", inPlace := ["math.Float64bits", "math.Float64frombits"], unfollowed := true, recurses := true, apart := false, narrowed := true }
def FnExactSeedShareUptoSaid : Prop := fnExactSeedShareUptoRow.holds Try.pinned (OpenSpec.upto fnExactSeedShareSpec)

/-- 'laws.FnExactEntropyOf', WHERE WHAT IT READS IS OF BULK AT MOST 1048576: true; the input reads as it did. -/
def fnExactEntropyOfUptoRow : OpenClaim := { program := "ytjnnfiimimmmnaa", sum := "b2a3148ab3ce3c113ef915a47c0095201bd895039a817479a407035ed4c5dc4e", func := "loop.example/g01339/laws.FnExactEntropyOf", spec := "fnExactEntropyOf", inPlace := ["math.Float64frombits", "math.Float64bits"], apart := false, narrowed := true }
def FnExactEntropyOfUptoSaid : Prop := fnExactEntropyOfUptoRow.holds Try.pinned (OpenSpec.upto fnExactEntropyOfSpec)

/-- 'laws.FnExactValidMixture', WHERE WHAT IT READS IS OF BULK AT MOST 1048576: true; the input reads as it did. -/
def fnExactValidMixtureUptoRow : OpenClaim := { program := "ytjnnfiimimmmnaa", sum := "b2a3148ab3ce3c113ef915a47c0095201bd895039a817479a407035ed4c5dc4e", func := "loop.example/g01339/laws.FnExactValidMixture", spec := "fnExactValidMixture", inPlace := ["math.Float64bits", "math.Float64frombits"], apart := false, narrowed := true }
def FnExactValidMixtureUptoSaid : Prop := fnExactValidMixtureUptoRow.holds Try.pinned (OpenSpec.upto fnExactValidMixtureSpec)

/-- 'laws.FnExactMixtureAt', WHERE WHAT IT READS IS OF BULK AT MOST 1048576: true; the input reads as it did. -/
def fnExactMixtureAtUptoRow : OpenClaim := { program := "ytjnnfiimimmmnaa", sum := "b2a3148ab3ce3c113ef915a47c0095201bd895039a817479a407035ed4c5dc4e", func := "loop.example/g01339/laws.FnExactMixtureAt", spec := "fnExactMixtureAt", inPlace := ["math.Float64frombits", "math.Float64bits"], apart := false, narrowed := true }
def FnExactMixtureAtUptoSaid : Prop := fnExactMixtureAtUptoRow.holds Try.pinned (OpenSpec.upto fnExactMixtureAtSpec)

/-- 'laws.FnExactStepsApart', WHERE WHAT IT READS IS OF BULK AT MOST 1048576: true; the input reads as it did. -/
def fnExactStepsApartUptoRow : OpenClaim := { program := "ytjnnfiimimmmnaa", sum := "b2a3148ab3ce3c113ef915a47c0095201bd895039a817479a407035ed4c5dc4e", func := "loop.example/g01339/laws.FnExactStepsApart", spec := "fnExactStepsApart", inPlace := ["math.Float64bits", "math.Float64frombits"], apart := false, narrowed := true }
def FnExactStepsApartUptoSaid : Prop := fnExactStepsApartUptoRow.holds Try.pinned (OpenSpec.upto fnExactStepsApartSpec)

/-- 'laws.FnExactBellBelow', WHERE WHAT IT READS IS OF BULK AT MOST 1048576: true; the input reads as it did. -/
def fnExactBellBelowUptoRow : OpenClaim := { program := "ytjnnfiimimmmnaa", sum := "b2a3148ab3ce3c113ef915a47c0095201bd895039a817479a407035ed4c5dc4e", func := "loop.example/g01339/laws.FnExactBellBelow", spec := "fnExactBellBelow", inPlace := ["math.Float64frombits", "math.Float64bits"], apart := false, narrowed := true }
def FnExactBellBelowUptoSaid : Prop := fnExactBellBelowUptoRow.holds Try.pinned (OpenSpec.upto fnExactBellBelowSpec)

end Rows
end Go.Proofs.Ytjnnfiimimmmnaa
