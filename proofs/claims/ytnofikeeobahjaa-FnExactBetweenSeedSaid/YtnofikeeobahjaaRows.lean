/-
  No cell of these rows narrows 'for every input' (looked for: loops, veiled, ifaces, maps, wideKeys, modest, calm, conditions, laid).
  DERIVED. THE GIVEN ROWS OF THIS SEAT. 12 by the template 'for every input the law returns true; each argument reads behind the call as it read before'; 0 by the template 'total and deterministic' (their statements: YtnofikeeobahjaaTotals.lean).
  GIVEN WITH THE SEED: the statements are not yours to turn. If you find one false, say at which input.
  Laid BY PROGRAM, IN A SANDBOX (cutbox-rows.mjs): the forced cells as the released guide's own fill.sh prints them over the translation 95daa3d70062872e… (all of the seat's roots in one cut). By AI agents, Wed Nov 11 2026. No macro, syntax, notation, axiom, sorry.
-/
import Derived.Test.YtnofikeeobahjaaChecked
import GoSem.Claim
import GoSem.ClaimJoined
import GoSem.ClaimMapViews
import Derived.JoinedTies
import Derived.KernelRfl
namespace Go.Proofs.Ytnofikeeobahjaa
/- THE CELL 'sum', in the pinned program and in every row, IS THE sha256 OF THE DUMP (.gsa) THAT YtnofikeeobahjaaProg.lean LOADS. Nothing in Lean hashes anything: it is a label: what it is worth is what the hold of that sum in a sandbox is worth. -/
noncomputable def Try.pinned : Pinned := { name := "ytnofikeeobahjaa", sum := "95daa3d70062872e822902055d48c23406cbe8d40838106465a888f1162a50ed", checked := Try.checked }
namespace Rows
def none {H : Type} : Left H := { results := [], args := [] }

/-- 'laws.FnExactShareSeed': WHATEVER THE INPUT: true; the input reads as it did. -/
def fnExactShareSeedSpec : ChangeSpec := { name := "fnExactShareSeed", fn := fun _ => fun
  | [d] => { results := [.lit (.bool true)], args := [d] }
  | _ => none }
def fnExactShareSeedRow : OpenClaim := { program := "ytnofikeeobahjaa", sum := "95daa3d70062872e822902055d48c23406cbe8d40838106465a888f1162a50ed", func := "loop.example/g01339/laws.FnExactShareSeed", spec := "fnExactShareSeed", apart := false }
def FnExactShareSeedSaid : Prop := fnExactShareSeedRow.holds Try.pinned (OpenSpec.ofChange fnExactShareSeedSpec)

/-- ITS FALSE NEIGHBOUR: 'it returns false'. Refute it at one input. -/
def fnExactShareSeedWrong : ChangeSpec := { name := "fnExactShareSeed", fn := fun _ => fun
  | [d] => { results := [.lit (.bool false)], args := [d] }
  | _ => none }
def FnExactShareSeedWrongFalsely : Prop := fnExactShareSeedRow.holds Try.pinned (OpenSpec.ofChange fnExactShareSeedWrong)

/-- 'laws.FnExactHitsSeed': WHATEVER THE INPUT: true; the input reads as it did. -/
def fnExactHitsSeedSpec : ChangeSpec := { name := "fnExactHitsSeed", fn := fun _ => fun
  | [d1, d2, d3] => { results := [.lit (.bool true)], args := [d1, d2, d3] }
  | _ => none }
def fnExactHitsSeedRow : OpenClaim := { program := "ytnofikeeobahjaa", sum := "95daa3d70062872e822902055d48c23406cbe8d40838106465a888f1162a50ed", func := "loop.example/g01339/laws.FnExactHitsSeed", spec := "fnExactHitsSeed", apart := false }
def FnExactHitsSeedSaid : Prop := fnExactHitsSeedRow.holds Try.pinned (OpenSpec.ofChange fnExactHitsSeedSpec)

/-- ITS FALSE NEIGHBOUR: 'it returns false'. Refute it at one input. -/
def fnExactHitsSeedWrong : ChangeSpec := { name := "fnExactHitsSeed", fn := fun _ => fun
  | [d1, d2, d3] => { results := [.lit (.bool false)], args := [d1, d2, d3] }
  | _ => none }
def FnExactHitsSeedWrongFalsely : Prop := fnExactHitsSeedRow.holds Try.pinned (OpenSpec.ofChange fnExactHitsSeedWrong)

/-- 'laws.FnExactBetweenSeed': WHATEVER THE INPUT: true; the input reads as it did. -/
def fnExactBetweenSeedSpec : ChangeSpec := { name := "fnExactBetweenSeed", fn := fun _ => fun
  | [d1, d2, d3] => { results := [.lit (.bool true)], args := [d1, d2, d3] }
  | _ => none }
def fnExactBetweenSeedRow : OpenClaim := { program := "ytnofikeeobahjaa", sum := "95daa3d70062872e822902055d48c23406cbe8d40838106465a888f1162a50ed", func := "loop.example/g01339/laws.FnExactBetweenSeed", spec := "fnExactBetweenSeed", inPlace := ["math.Float64bits", "math.Float64frombits"], apart := false }
def FnExactBetweenSeedSaid : Prop := fnExactBetweenSeedRow.holds Try.pinned (OpenSpec.ofChange fnExactBetweenSeedSpec)

/-- ITS FALSE NEIGHBOUR: 'it returns false'. Refute it at one input. -/
def fnExactBetweenSeedWrong : ChangeSpec := { name := "fnExactBetweenSeed", fn := fun _ => fun
  | [d1, d2, d3] => { results := [.lit (.bool false)], args := [d1, d2, d3] }
  | _ => none }
def FnExactBetweenSeedWrongFalsely : Prop := fnExactBetweenSeedRow.holds Try.pinned (OpenSpec.ofChange fnExactBetweenSeedWrong)

/-- 'laws.FnExactWaitSeed': WHATEVER THE INPUT: true; the input reads as it did. -/
def fnExactWaitSeedSpec : ChangeSpec := { name := "fnExactWaitSeed", fn := fun _ => fun
  | [d1, d2] => { results := [.lit (.bool true)], args := [d1, d2] }
  | _ => none }
def fnExactWaitSeedRow : OpenClaim := { program := "ytnofikeeobahjaa", sum := "95daa3d70062872e822902055d48c23406cbe8d40838106465a888f1162a50ed", func := "loop.example/g01339/laws.FnExactWaitSeed", spec := "fnExactWaitSeed", inPlace := ["math.Float64frombits", "math.Float64bits"], apart := false }
def FnExactWaitSeedSaid : Prop := fnExactWaitSeedRow.holds Try.pinned (OpenSpec.ofChange fnExactWaitSeedSpec)

/-- ITS FALSE NEIGHBOUR: 'it returns false'. Refute it at one input. -/
def fnExactWaitSeedWrong : ChangeSpec := { name := "fnExactWaitSeed", fn := fun _ => fun
  | [d1, d2] => { results := [.lit (.bool false)], args := [d1, d2] }
  | _ => none }
def FnExactWaitSeedWrongFalsely : Prop := fnExactWaitSeedRow.holds Try.pinned (OpenSpec.ofChange fnExactWaitSeedWrong)

/-- 'laws.FnExactFirstSeed': WHATEVER THE INPUT: true; the input reads as it did. -/
def fnExactFirstSeedSpec : ChangeSpec := { name := "fnExactFirstSeed", fn := fun _ => fun
  | [d1, d2] => { results := [.lit (.bool true)], args := [d1, d2] }
  | _ => none }
def fnExactFirstSeedRow : OpenClaim := { program := "ytnofikeeobahjaa", sum := "95daa3d70062872e822902055d48c23406cbe8d40838106465a888f1162a50ed", func := "loop.example/g01339/laws.FnExactFirstSeed", spec := "fnExactFirstSeed", inPlace := ["math.Float64frombits", "math.Float64bits", "math.archFloor", "math.archTrunc"], apart := false }
def FnExactFirstSeedSaid : Prop := fnExactFirstSeedRow.holds Try.pinned (OpenSpec.ofChange fnExactFirstSeedSpec)

/-- ITS FALSE NEIGHBOUR: 'it returns false'. Refute it at one input. -/
def fnExactFirstSeedWrong : ChangeSpec := { name := "fnExactFirstSeed", fn := fun _ => fun
  | [d1, d2] => { results := [.lit (.bool false)], args := [d1, d2] }
  | _ => none }
def FnExactFirstSeedWrongFalsely : Prop := fnExactFirstSeedRow.holds Try.pinned (OpenSpec.ofChange fnExactFirstSeedWrong)

/-- 'laws.FnExactLogNumber': WHATEVER THE INPUT: true; the input reads as it did. -/
def fnExactLogNumberSpec : ChangeSpec := { name := "fnExactLogNumber", fn := fun _ => fun
  | [d] => { results := [.lit (.bool true)], args := [d] }
  | _ => none }
def fnExactLogNumberRow : OpenClaim := { program := "ytnofikeeobahjaa", sum := "95daa3d70062872e822902055d48c23406cbe8d40838106465a888f1162a50ed", func := "loop.example/g01339/laws.FnExactLogNumber", spec := "fnExactLogNumber", inPlace := ["math.Float64frombits", "math.Float64bits"], apart := false }
def FnExactLogNumberSaid : Prop := fnExactLogNumberRow.holds Try.pinned (OpenSpec.ofChange fnExactLogNumberSpec)

/-- ITS FALSE NEIGHBOUR: 'it returns false'. Refute it at one input. -/
def fnExactLogNumberWrong : ChangeSpec := { name := "fnExactLogNumber", fn := fun _ => fun
  | [d] => { results := [.lit (.bool false)], args := [d] }
  | _ => none }
def FnExactLogNumberWrongFalsely : Prop := fnExactLogNumberRow.holds Try.pinned (OpenSpec.ofChange fnExactLogNumberWrong)

/-- 'laws.FnExactTenthsOf': WHATEVER THE INPUT: true; the input reads as it did. -/
def fnExactTenthsOfSpec : ChangeSpec := { name := "fnExactTenthsOf", fn := fun _ => fun
  | [d] => { results := [.lit (.bool true)], args := [d] }
  | _ => none }
def fnExactTenthsOfRow : OpenClaim := { program := "ytnofikeeobahjaa", sum := "95daa3d70062872e822902055d48c23406cbe8d40838106465a888f1162a50ed", func := "loop.example/g01339/laws.FnExactTenthsOf", spec := "fnExactTenthsOf", inPlace := ["math.Float64frombits", "math.Float64bits", "math.archFloor", "math.archTrunc"], apart := false }
def FnExactTenthsOfSaid : Prop := fnExactTenthsOfRow.holds Try.pinned (OpenSpec.ofChange fnExactTenthsOfSpec)

/-- ITS FALSE NEIGHBOUR: 'it returns false'. Refute it at one input. -/
def fnExactTenthsOfWrong : ChangeSpec := { name := "fnExactTenthsOf", fn := fun _ => fun
  | [d] => { results := [.lit (.bool false)], args := [d] }
  | _ => none }
def FnExactTenthsOfWrongFalsely : Prop := fnExactTenthsOfRow.holds Try.pinned (OpenSpec.ofChange fnExactTenthsOfWrong)

/-- 'laws.FnExactEvenSeed': WHATEVER THE INPUT: true; the input reads as it did. -/
def fnExactEvenSeedSpec : ChangeSpec := { name := "fnExactEvenSeed", fn := fun _ => fun
  | [d] => { results := [.lit (.bool true)], args := [d] }
  | _ => none }
def fnExactEvenSeedRow : OpenClaim := { program := "ytnofikeeobahjaa", sum := "95daa3d70062872e822902055d48c23406cbe8d40838106465a888f1162a50ed", func := "loop.example/g01339/laws.FnExactEvenSeed", spec := "fnExactEvenSeed", inPlace := ["math.Float64bits", "math.Float64frombits"], apart := false }
def FnExactEvenSeedSaid : Prop := fnExactEvenSeedRow.holds Try.pinned (OpenSpec.ofChange fnExactEvenSeedSpec)

/-- ITS FALSE NEIGHBOUR: 'it returns false'. Refute it at one input. -/
def fnExactEvenSeedWrong : ChangeSpec := { name := "fnExactEvenSeed", fn := fun _ => fun
  | [d] => { results := [.lit (.bool false)], args := [d] }
  | _ => none }
def FnExactEvenSeedWrongFalsely : Prop := fnExactEvenSeedRow.holds Try.pinned (OpenSpec.ofChange fnExactEvenSeedWrong)

/-- 'laws.FnExactCountSeed': WHATEVER THE INPUT: true; the input reads as it did. -/
def fnExactCountSeedSpec : ChangeSpec := { name := "fnExactCountSeed", fn := fun _ => fun
  | [d1, d2] => { results := [.lit (.bool true)], args := [d1, d2] }
  | _ => none }
def fnExactCountSeedRow : OpenClaim := { program := "ytnofikeeobahjaa", sum := "95daa3d70062872e822902055d48c23406cbe8d40838106465a888f1162a50ed", func := "loop.example/g01339/laws.FnExactCountSeed", spec := "fnExactCountSeed", inPlace := ["math.Float64frombits"], apart := false }
def FnExactCountSeedSaid : Prop := fnExactCountSeedRow.holds Try.pinned (OpenSpec.ofChange fnExactCountSeedSpec)

/-- ITS FALSE NEIGHBOUR: 'it returns false'. Refute it at one input. -/
def fnExactCountSeedWrong : ChangeSpec := { name := "fnExactCountSeed", fn := fun _ => fun
  | [d1, d2] => { results := [.lit (.bool false)], args := [d1, d2] }
  | _ => none }
def FnExactCountSeedWrongFalsely : Prop := fnExactCountSeedRow.holds Try.pinned (OpenSpec.ofChange fnExactCountSeedWrong)

/-- 'laws.FnExactBellQuotient': WHATEVER THE INPUT: true; the input reads as it did. -/
def fnExactBellQuotientSpec : ChangeSpec := { name := "fnExactBellQuotient", fn := fun _ => fun
  | [d] => { results := [.lit (.bool true)], args := [d] }
  | _ => none }
def fnExactBellQuotientRow : OpenClaim := { program := "ytnofikeeobahjaa", sum := "95daa3d70062872e822902055d48c23406cbe8d40838106465a888f1162a50ed", func := "loop.example/g01339/laws.FnExactBellQuotient", spec := "fnExactBellQuotient", inPlace := ["math.Float64frombits", "math.Float64bits"], unfollowed := true, recurses := true, apart := false }
def FnExactBellQuotientSaid : Prop := fnExactBellQuotientRow.holds Try.pinned (OpenSpec.ofChange fnExactBellQuotientSpec)

/-- ITS FALSE NEIGHBOUR: 'it returns false'. Refute it at one input. -/
def fnExactBellQuotientWrong : ChangeSpec := { name := "fnExactBellQuotient", fn := fun _ => fun
  | [d] => { results := [.lit (.bool false)], args := [d] }
  | _ => none }
def FnExactBellQuotientWrongFalsely : Prop := fnExactBellQuotientRow.holds Try.pinned (OpenSpec.ofChange fnExactBellQuotientWrong)

/-- 'laws.FnExactChiOf': WHATEVER THE INPUT: true; the input reads as it did. -/
def fnExactChiOfSpec : ChangeSpec := { name := "fnExactChiOf", fn := fun _ => fun
  | [d1, d2] => { results := [.lit (.bool true)], args := [d1, d2] }
  | _ => none }
def fnExactChiOfRow : OpenClaim := { program := "ytnofikeeobahjaa", sum := "95daa3d70062872e822902055d48c23406cbe8d40838106465a888f1162a50ed", func := "loop.example/g01339/laws.FnExactChiOf", spec := "fnExactChiOf", inPlace := ["math.Float64bits", "math.Float64frombits"], apart := false }
def FnExactChiOfSaid : Prop := fnExactChiOfRow.holds Try.pinned (OpenSpec.ofChange fnExactChiOfSpec)

/-- ITS FALSE NEIGHBOUR: 'it returns false'. Refute it at one input. -/
def fnExactChiOfWrong : ChangeSpec := { name := "fnExactChiOf", fn := fun _ => fun
  | [d1, d2] => { results := [.lit (.bool false)], args := [d1, d2] }
  | _ => none }
def FnExactChiOfWrongFalsely : Prop := fnExactChiOfRow.holds Try.pinned (OpenSpec.ofChange fnExactChiOfWrong)

/-- 'laws.FnExactArePicks': WHATEVER THE INPUT: true; the input reads as it did. -/
def fnExactArePicksSpec : ChangeSpec := { name := "fnExactArePicks", fn := fun _ => fun
  | [d] => { results := [.lit (.bool true)], args := [d] }
  | _ => none }
def fnExactArePicksRow : OpenClaim := { program := "ytnofikeeobahjaa", sum := "95daa3d70062872e822902055d48c23406cbe8d40838106465a888f1162a50ed", func := "loop.example/g01339/laws.FnExactArePicks", spec := "fnExactArePicks", inPlace := ["math.Float64bits", "math.Float64frombits"], apart := false }
def FnExactArePicksSaid : Prop := fnExactArePicksRow.holds Try.pinned (OpenSpec.ofChange fnExactArePicksSpec)

/-- ITS FALSE NEIGHBOUR: 'it returns false'. Refute it at one input. -/
def fnExactArePicksWrong : ChangeSpec := { name := "fnExactArePicks", fn := fun _ => fun
  | [d] => { results := [.lit (.bool false)], args := [d] }
  | _ => none }
def FnExactArePicksWrongFalsely : Prop := fnExactArePicksRow.holds Try.pinned (OpenSpec.ofChange fnExactArePicksWrong)

/- THE SECOND FORM. 'bulk': how many values and letters a reading holds, each counted each time it is reached (what is shared counts as often as it is met; a slice's spare places count too). A statement '..UptoSaid' is the law's where the arguments, and the package variables that the reading takes, are together of bulk at most 1048576: NARROWER than '..Said'. Prove '..Said' where nothing that the law and all that it calls make is longer than what came in: it says more and counts as full. Else prove '..UptoSaid'. A law counts once. -/
mutual
def uptoBulk {H : Type} : DataW H → Nat
  | .lit (.string bytes) => bytes.length + 1
  | .lit _ => 1
  | .nil => 1
  | .ptr d => uptoBulk d + 1
  | .slice elems spare => uptoBulkAll elems + uptoBulkAll spare + 1
  | .agg parts => uptoBulkAll parts + 1
  | .iface _ d => uptoBulk d + 1
  | .map entries => uptoBulkEntries entries + 1
  | .held _ => 1
def uptoBulkAll {H : Type} : List (DataW H) → Nat
  | [] => 0
  | d :: r => uptoBulk d + uptoBulkAll r
def uptoBulkEntries {H : Type} : List (Lit × DataW H) → Nat
  | [] => 0
  | x :: r => uptoBulkEntry x + uptoBulkEntries r
def uptoBulkEntry {H : Type} : Lit × DataW H → Nat
  | (.string bytes, d) => bytes.length + uptoBulk d + 1
  | (_, d) => uptoBulk d + 1
 end
def uptoSmall : (H : Type) → List (DataW H) → Bool := fun _ ds => decide (uptoBulkAll ds ≤ 1048576)
def OpenSpec.upto (s : _root_.Go.ChangeSpec) : _root_.Go.OpenSpec := { _root_.Go.OpenSpec.ofChange s with cond := some uptoSmall }

/-- 'laws.FnExactShareSeed', WHERE WHAT IT READS IS OF BULK AT MOST 1048576: true; the input reads as it did. -/
def fnExactShareSeedUptoRow : OpenClaim := { program := "ytnofikeeobahjaa", sum := "95daa3d70062872e822902055d48c23406cbe8d40838106465a888f1162a50ed", func := "loop.example/g01339/laws.FnExactShareSeed", spec := "fnExactShareSeed", apart := false, narrowed := true }
def FnExactShareSeedUptoSaid : Prop := fnExactShareSeedUptoRow.holds Try.pinned (OpenSpec.upto fnExactShareSeedSpec)

/-- 'laws.FnExactHitsSeed', WHERE WHAT IT READS IS OF BULK AT MOST 1048576: true; the input reads as it did. -/
def fnExactHitsSeedUptoRow : OpenClaim := { program := "ytnofikeeobahjaa", sum := "95daa3d70062872e822902055d48c23406cbe8d40838106465a888f1162a50ed", func := "loop.example/g01339/laws.FnExactHitsSeed", spec := "fnExactHitsSeed", apart := false, narrowed := true }
def FnExactHitsSeedUptoSaid : Prop := fnExactHitsSeedUptoRow.holds Try.pinned (OpenSpec.upto fnExactHitsSeedSpec)

/-- 'laws.FnExactBetweenSeed', WHERE WHAT IT READS IS OF BULK AT MOST 1048576: true; the input reads as it did. -/
def fnExactBetweenSeedUptoRow : OpenClaim := { program := "ytnofikeeobahjaa", sum := "95daa3d70062872e822902055d48c23406cbe8d40838106465a888f1162a50ed", func := "loop.example/g01339/laws.FnExactBetweenSeed", spec := "fnExactBetweenSeed", inPlace := ["math.Float64bits", "math.Float64frombits"], apart := false, narrowed := true }
def FnExactBetweenSeedUptoSaid : Prop := fnExactBetweenSeedUptoRow.holds Try.pinned (OpenSpec.upto fnExactBetweenSeedSpec)

/-- 'laws.FnExactWaitSeed', WHERE WHAT IT READS IS OF BULK AT MOST 1048576: true; the input reads as it did. -/
def fnExactWaitSeedUptoRow : OpenClaim := { program := "ytnofikeeobahjaa", sum := "95daa3d70062872e822902055d48c23406cbe8d40838106465a888f1162a50ed", func := "loop.example/g01339/laws.FnExactWaitSeed", spec := "fnExactWaitSeed", inPlace := ["math.Float64frombits", "math.Float64bits"], apart := false, narrowed := true }
def FnExactWaitSeedUptoSaid : Prop := fnExactWaitSeedUptoRow.holds Try.pinned (OpenSpec.upto fnExactWaitSeedSpec)

/-- 'laws.FnExactFirstSeed', WHERE WHAT IT READS IS OF BULK AT MOST 1048576: true; the input reads as it did. -/
def fnExactFirstSeedUptoRow : OpenClaim := { program := "ytnofikeeobahjaa", sum := "95daa3d70062872e822902055d48c23406cbe8d40838106465a888f1162a50ed", func := "loop.example/g01339/laws.FnExactFirstSeed", spec := "fnExactFirstSeed", inPlace := ["math.Float64frombits", "math.Float64bits", "math.archFloor", "math.archTrunc"], apart := false, narrowed := true }
def FnExactFirstSeedUptoSaid : Prop := fnExactFirstSeedUptoRow.holds Try.pinned (OpenSpec.upto fnExactFirstSeedSpec)

/-- 'laws.FnExactLogNumber', WHERE WHAT IT READS IS OF BULK AT MOST 1048576: true; the input reads as it did. -/
def fnExactLogNumberUptoRow : OpenClaim := { program := "ytnofikeeobahjaa", sum := "95daa3d70062872e822902055d48c23406cbe8d40838106465a888f1162a50ed", func := "loop.example/g01339/laws.FnExactLogNumber", spec := "fnExactLogNumber", inPlace := ["math.Float64frombits", "math.Float64bits"], apart := false, narrowed := true }
def FnExactLogNumberUptoSaid : Prop := fnExactLogNumberUptoRow.holds Try.pinned (OpenSpec.upto fnExactLogNumberSpec)

/-- 'laws.FnExactTenthsOf', WHERE WHAT IT READS IS OF BULK AT MOST 1048576: true; the input reads as it did. -/
def fnExactTenthsOfUptoRow : OpenClaim := { program := "ytnofikeeobahjaa", sum := "95daa3d70062872e822902055d48c23406cbe8d40838106465a888f1162a50ed", func := "loop.example/g01339/laws.FnExactTenthsOf", spec := "fnExactTenthsOf", inPlace := ["math.Float64frombits", "math.Float64bits", "math.archFloor", "math.archTrunc"], apart := false, narrowed := true }
def FnExactTenthsOfUptoSaid : Prop := fnExactTenthsOfUptoRow.holds Try.pinned (OpenSpec.upto fnExactTenthsOfSpec)

/-- 'laws.FnExactEvenSeed', WHERE WHAT IT READS IS OF BULK AT MOST 1048576: true; the input reads as it did. -/
def fnExactEvenSeedUptoRow : OpenClaim := { program := "ytnofikeeobahjaa", sum := "95daa3d70062872e822902055d48c23406cbe8d40838106465a888f1162a50ed", func := "loop.example/g01339/laws.FnExactEvenSeed", spec := "fnExactEvenSeed", inPlace := ["math.Float64bits", "math.Float64frombits"], apart := false, narrowed := true }
def FnExactEvenSeedUptoSaid : Prop := fnExactEvenSeedUptoRow.holds Try.pinned (OpenSpec.upto fnExactEvenSeedSpec)

/-- 'laws.FnExactCountSeed', WHERE WHAT IT READS IS OF BULK AT MOST 1048576: true; the input reads as it did. -/
def fnExactCountSeedUptoRow : OpenClaim := { program := "ytnofikeeobahjaa", sum := "95daa3d70062872e822902055d48c23406cbe8d40838106465a888f1162a50ed", func := "loop.example/g01339/laws.FnExactCountSeed", spec := "fnExactCountSeed", inPlace := ["math.Float64frombits"], apart := false, narrowed := true }
def FnExactCountSeedUptoSaid : Prop := fnExactCountSeedUptoRow.holds Try.pinned (OpenSpec.upto fnExactCountSeedSpec)

/-- 'laws.FnExactBellQuotient', WHERE WHAT IT READS IS OF BULK AT MOST 1048576: true; the input reads as it did. -/
def fnExactBellQuotientUptoRow : OpenClaim := { program := "ytnofikeeobahjaa", sum := "95daa3d70062872e822902055d48c23406cbe8d40838106465a888f1162a50ed", func := "loop.example/g01339/laws.FnExactBellQuotient", spec := "fnExactBellQuotient", inPlace := ["math.Float64frombits", "math.Float64bits"], unfollowed := true, recurses := true, apart := false, narrowed := true }
def FnExactBellQuotientUptoSaid : Prop := fnExactBellQuotientUptoRow.holds Try.pinned (OpenSpec.upto fnExactBellQuotientSpec)

/-- 'laws.FnExactChiOf', WHERE WHAT IT READS IS OF BULK AT MOST 1048576: true; the input reads as it did. -/
def fnExactChiOfUptoRow : OpenClaim := { program := "ytnofikeeobahjaa", sum := "95daa3d70062872e822902055d48c23406cbe8d40838106465a888f1162a50ed", func := "loop.example/g01339/laws.FnExactChiOf", spec := "fnExactChiOf", inPlace := ["math.Float64bits", "math.Float64frombits"], apart := false, narrowed := true }
def FnExactChiOfUptoSaid : Prop := fnExactChiOfUptoRow.holds Try.pinned (OpenSpec.upto fnExactChiOfSpec)

/-- 'laws.FnExactArePicks', WHERE WHAT IT READS IS OF BULK AT MOST 1048576: true; the input reads as it did. -/
def fnExactArePicksUptoRow : OpenClaim := { program := "ytnofikeeobahjaa", sum := "95daa3d70062872e822902055d48c23406cbe8d40838106465a888f1162a50ed", func := "loop.example/g01339/laws.FnExactArePicks", spec := "fnExactArePicks", inPlace := ["math.Float64bits", "math.Float64frombits"], apart := false, narrowed := true }
def FnExactArePicksUptoSaid : Prop := fnExactArePicksUptoRow.holds Try.pinned (OpenSpec.upto fnExactArePicksSpec)

end Rows
end Go.Proofs.Ytnofikeeobahjaa
