/-
  No cell of these rows narrows 'for every input' (looked for: loops, veiled, ifaces, maps, wideKeys, modest, calm, conditions, laid).
  DERIVED. THE GIVEN ROWS OF THIS SEAT. 12 by the template 'for every input the law returns true; each argument reads behind the call as it read before'; 0 by the template 'total and deterministic' (their statements: YtncebfnfmjimmaaTotals.lean).
  GIVEN WITH THE SEED: the statements are not yours to turn. If you find one false, say at which input.
  Laid BY PROGRAM, IN A SANDBOX (cutbox-rows.mjs): the forced cells as the released guide's own fill.sh prints them over the translation 7f04c268eafed1ab… (all of the seat's roots in one cut). By AI agents, Wed Nov 11 2026. No macro, syntax, notation, axiom, sorry.
-/
import Derived.Test.YtncebfnfmjimmaaChecked
import GoSem.Claim
import GoSem.ClaimJoined
import GoSem.ClaimMapViews
import Derived.JoinedTies
import Derived.KernelRfl
namespace Go.Proofs.Ytncebfnfmjimmaa
/- THE CELL 'sum', in the pinned program and in every row, IS THE sha256 OF THE DUMP (.gsa) THAT YtncebfnfmjimmaaProg.lean LOADS. Nothing in Lean hashes anything: it is a label: what it is worth is what the hold of that sum in a sandbox is worth. -/
noncomputable def Try.pinned : Pinned := { name := "ytncebfnfmjimmaa", sum := "7f04c268eafed1ab091c8e0e16ca6f0ba9b2a9afdf28d26638112af47a33cb7b", checked := Try.checked }
namespace Rows
def none {H : Type} : Left H := { results := [], args := [] }

/-- 'laws.FnExactIsOrder': WHATEVER THE INPUT: true; the input reads as it did. -/
def fnExactIsOrderSpec : ChangeSpec := { name := "fnExactIsOrder", fn := fun _ => fun
  | [d] => { results := [.lit (.bool true)], args := [d] }
  | _ => none }
def fnExactIsOrderRow : OpenClaim := { program := "ytncebfnfmjimmaa", sum := "7f04c268eafed1ab091c8e0e16ca6f0ba9b2a9afdf28d26638112af47a33cb7b", func := "loop.example/g01339/laws.FnExactIsOrder", spec := "fnExactIsOrder", apart := false }
def FnExactIsOrderSaid : Prop := fnExactIsOrderRow.holds Try.pinned (OpenSpec.ofChange fnExactIsOrderSpec)

/-- ITS FALSE NEIGHBOUR: 'it returns false'. Refute it at one input. -/
def fnExactIsOrderWrong : ChangeSpec := { name := "fnExactIsOrder", fn := fun _ => fun
  | [d] => { results := [.lit (.bool false)], args := [d] }
  | _ => none }
def FnExactIsOrderWrongFalsely : Prop := fnExactIsOrderRow.holds Try.pinned (OpenSpec.ofChange fnExactIsOrderWrong)

/-- 'laws.FnExactCodeOfOrder': WHATEVER THE INPUT: true; the input reads as it did. -/
def fnExactCodeOfOrderSpec : ChangeSpec := { name := "fnExactCodeOfOrder", fn := fun _ => fun
  | [d] => { results := [.lit (.bool true)], args := [d] }
  | _ => none }
def fnExactCodeOfOrderRow : OpenClaim := { program := "ytncebfnfmjimmaa", sum := "7f04c268eafed1ab091c8e0e16ca6f0ba9b2a9afdf28d26638112af47a33cb7b", func := "loop.example/g01339/laws.FnExactCodeOfOrder", spec := "fnExactCodeOfOrder", apart := false }
def FnExactCodeOfOrderSaid : Prop := fnExactCodeOfOrderRow.holds Try.pinned (OpenSpec.ofChange fnExactCodeOfOrderSpec)

/-- ITS FALSE NEIGHBOUR: 'it returns false'. Refute it at one input. -/
def fnExactCodeOfOrderWrong : ChangeSpec := { name := "fnExactCodeOfOrder", fn := fun _ => fun
  | [d] => { results := [.lit (.bool false)], args := [d] }
  | _ => none }
def FnExactCodeOfOrderWrongFalsely : Prop := fnExactCodeOfOrderRow.holds Try.pinned (OpenSpec.ofChange fnExactCodeOfOrderWrong)

/-- 'laws.FnExactOrderOfCode': WHATEVER THE INPUT: true; the input reads as it did. -/
def fnExactOrderOfCodeSpec : ChangeSpec := { name := "fnExactOrderOfCode", fn := fun _ => fun
  | [d] => { results := [.lit (.bool true)], args := [d] }
  | _ => none }
def fnExactOrderOfCodeRow : OpenClaim := { program := "ytncebfnfmjimmaa", sum := "7f04c268eafed1ab091c8e0e16ca6f0ba9b2a9afdf28d26638112af47a33cb7b", func := "loop.example/g01339/laws.FnExactOrderOfCode", spec := "fnExactOrderOfCode", apart := false }
def FnExactOrderOfCodeSaid : Prop := fnExactOrderOfCodeRow.holds Try.pinned (OpenSpec.ofChange fnExactOrderOfCodeSpec)

/-- ITS FALSE NEIGHBOUR: 'it returns false'. Refute it at one input. -/
def fnExactOrderOfCodeWrong : ChangeSpec := { name := "fnExactOrderOfCode", fn := fun _ => fun
  | [d] => { results := [.lit (.bool false)], args := [d] }
  | _ => none }
def FnExactOrderOfCodeWrongFalsely : Prop := fnExactOrderOfCodeRow.holds Try.pinned (OpenSpec.ofChange fnExactOrderOfCodeWrong)

/-- 'laws.FnExactNumberOfOrder': WHATEVER THE INPUT: true; the input reads as it did. -/
def fnExactNumberOfOrderSpec : ChangeSpec := { name := "fnExactNumberOfOrder", fn := fun _ => fun
  | [d] => { results := [.lit (.bool true)], args := [d] }
  | _ => none }
def fnExactNumberOfOrderRow : OpenClaim := { program := "ytncebfnfmjimmaa", sum := "7f04c268eafed1ab091c8e0e16ca6f0ba9b2a9afdf28d26638112af47a33cb7b", func := "loop.example/g01339/laws.FnExactNumberOfOrder", spec := "fnExactNumberOfOrder", apart := false }
def FnExactNumberOfOrderSaid : Prop := fnExactNumberOfOrderRow.holds Try.pinned (OpenSpec.ofChange fnExactNumberOfOrderSpec)

/-- ITS FALSE NEIGHBOUR: 'it returns false'. Refute it at one input. -/
def fnExactNumberOfOrderWrong : ChangeSpec := { name := "fnExactNumberOfOrder", fn := fun _ => fun
  | [d] => { results := [.lit (.bool false)], args := [d] }
  | _ => none }
def FnExactNumberOfOrderWrongFalsely : Prop := fnExactNumberOfOrderRow.holds Try.pinned (OpenSpec.ofChange fnExactNumberOfOrderWrong)

/-- 'laws.FnExactOrderOfNumber': WHATEVER THE INPUT: true; the input reads as it did. -/
def fnExactOrderOfNumberSpec : ChangeSpec := { name := "fnExactOrderOfNumber", fn := fun _ => fun
  | [d1, d2] => { results := [.lit (.bool true)], args := [d1, d2] }
  | _ => none }
def fnExactOrderOfNumberRow : OpenClaim := { program := "ytncebfnfmjimmaa", sum := "7f04c268eafed1ab091c8e0e16ca6f0ba9b2a9afdf28d26638112af47a33cb7b", func := "loop.example/g01339/laws.FnExactOrderOfNumber", spec := "fnExactOrderOfNumber", apart := false }
def FnExactOrderOfNumberSaid : Prop := fnExactOrderOfNumberRow.holds Try.pinned (OpenSpec.ofChange fnExactOrderOfNumberSpec)

/-- ITS FALSE NEIGHBOUR: 'it returns false'. Refute it at one input. -/
def fnExactOrderOfNumberWrong : ChangeSpec := { name := "fnExactOrderOfNumber", fn := fun _ => fun
  | [d1, d2] => { results := [.lit (.bool false)], args := [d1, d2] }
  | _ => none }
def FnExactOrderOfNumberWrongFalsely : Prop := fnExactOrderOfNumberRow.holds Try.pinned (OpenSpec.ofChange fnExactOrderOfNumberWrong)

/-- 'laws.FnExactTurnedDigits': WHATEVER THE INPUT: true; the input reads as it did. -/
def fnExactTurnedDigitsSpec : ChangeSpec := { name := "fnExactTurnedDigits", fn := fun _ => fun
  | [d1, d2, d3] => { results := [.lit (.bool true)], args := [d1, d2, d3] }
  | _ => none }
def fnExactTurnedDigitsRow : OpenClaim := { program := "ytncebfnfmjimmaa", sum := "7f04c268eafed1ab091c8e0e16ca6f0ba9b2a9afdf28d26638112af47a33cb7b", func := "loop.example/g01339/laws.FnExactTurnedDigits", spec := "fnExactTurnedDigits", apart := false }
def FnExactTurnedDigitsSaid : Prop := fnExactTurnedDigitsRow.holds Try.pinned (OpenSpec.ofChange fnExactTurnedDigitsSpec)

/-- ITS FALSE NEIGHBOUR: 'it returns false'. Refute it at one input. -/
def fnExactTurnedDigitsWrong : ChangeSpec := { name := "fnExactTurnedDigits", fn := fun _ => fun
  | [d1, d2, d3] => { results := [.lit (.bool false)], args := [d1, d2, d3] }
  | _ => none }
def FnExactTurnedDigitsWrongFalsely : Prop := fnExactTurnedDigitsRow.holds Try.pinned (OpenSpec.ofChange fnExactTurnedDigitsWrong)

/-- 'laws.FnExactDrawnOrder': WHATEVER THE INPUT: true; the input reads as it did. -/
def fnExactDrawnOrderSpec : ChangeSpec := { name := "fnExactDrawnOrder", fn := fun _ => fun
  | [d1, d2] => { results := [.lit (.bool true)], args := [d1, d2] }
  | _ => none }
def fnExactDrawnOrderRow : OpenClaim := { program := "ytncebfnfmjimmaa", sum := "7f04c268eafed1ab091c8e0e16ca6f0ba9b2a9afdf28d26638112af47a33cb7b", func := "loop.example/g01339/laws.FnExactDrawnOrder", spec := "fnExactDrawnOrder", unfollowed := true, recurses := true, apart := false }
def FnExactDrawnOrderSaid : Prop := fnExactDrawnOrderRow.holds Try.pinned (OpenSpec.ofChange fnExactDrawnOrderSpec)

/-- ITS FALSE NEIGHBOUR: 'it returns false'. Refute it at one input. -/
def fnExactDrawnOrderWrong : ChangeSpec := { name := "fnExactDrawnOrder", fn := fun _ => fun
  | [d1, d2] => { results := [.lit (.bool false)], args := [d1, d2] }
  | _ => none }
def FnExactDrawnOrderWrongFalsely : Prop := fnExactDrawnOrderRow.holds Try.pinned (OpenSpec.ofChange fnExactDrawnOrderWrong)

/-- 'laws.FnExactRingOrder': WHATEVER THE INPUT: true; the input reads as it did. -/
def fnExactRingOrderSpec : ChangeSpec := { name := "fnExactRingOrder", fn := fun _ => fun
  | [d1, d2] => { results := [.lit (.bool true)], args := [d1, d2] }
  | _ => none }
def fnExactRingOrderRow : OpenClaim := { program := "ytncebfnfmjimmaa", sum := "7f04c268eafed1ab091c8e0e16ca6f0ba9b2a9afdf28d26638112af47a33cb7b", func := "loop.example/g01339/laws.FnExactRingOrder", spec := "fnExactRingOrder", unfollowed := true, recurses := true, apart := false }
def FnExactRingOrderSaid : Prop := fnExactRingOrderRow.holds Try.pinned (OpenSpec.ofChange fnExactRingOrderSpec)

/-- ITS FALSE NEIGHBOUR: 'it returns false'. Refute it at one input. -/
def fnExactRingOrderWrong : ChangeSpec := { name := "fnExactRingOrder", fn := fun _ => fun
  | [d1, d2] => { results := [.lit (.bool false)], args := [d1, d2] }
  | _ => none }
def FnExactRingOrderWrongFalsely : Prop := fnExactRingOrderRow.holds Try.pinned (OpenSpec.ofChange fnExactRingOrderWrong)

/-- 'laws.FnExactMovedOrder': WHATEVER THE INPUT: true; the input reads as it did. -/
def fnExactMovedOrderSpec : ChangeSpec := { name := "fnExactMovedOrder", fn := fun _ => fun
  | [d1, d2] => { results := [.lit (.bool true)], args := [d1, d2] }
  | _ => none }
def fnExactMovedOrderRow : OpenClaim := { program := "ytncebfnfmjimmaa", sum := "7f04c268eafed1ab091c8e0e16ca6f0ba9b2a9afdf28d26638112af47a33cb7b", func := "loop.example/g01339/laws.FnExactMovedOrder", spec := "fnExactMovedOrder", unfollowed := true, recurses := true, apart := false }
def FnExactMovedOrderSaid : Prop := fnExactMovedOrderRow.holds Try.pinned (OpenSpec.ofChange fnExactMovedOrderSpec)

/-- ITS FALSE NEIGHBOUR: 'it returns false'. Refute it at one input. -/
def fnExactMovedOrderWrong : ChangeSpec := { name := "fnExactMovedOrder", fn := fun _ => fun
  | [d1, d2] => { results := [.lit (.bool false)], args := [d1, d2] }
  | _ => none }
def FnExactMovedOrderWrongFalsely : Prop := fnExactMovedOrderRow.holds Try.pinned (OpenSpec.ofChange fnExactMovedOrderWrong)

/-- 'laws.FnExactAreEdges': WHATEVER THE INPUT: true; the input reads as it did. -/
def fnExactAreEdgesSpec : ChangeSpec := { name := "fnExactAreEdges", fn := fun _ => fun
  | [d1, d2] => { results := [.lit (.bool true)], args := [d1, d2] }
  | _ => none }
def fnExactAreEdgesRow : OpenClaim := { program := "ytncebfnfmjimmaa", sum := "7f04c268eafed1ab091c8e0e16ca6f0ba9b2a9afdf28d26638112af47a33cb7b", func := "loop.example/g01339/laws.FnExactAreEdges", spec := "fnExactAreEdges", apart := false }
def FnExactAreEdgesSaid : Prop := fnExactAreEdgesRow.holds Try.pinned (OpenSpec.ofChange fnExactAreEdgesSpec)

/-- ITS FALSE NEIGHBOUR: 'it returns false'. Refute it at one input. -/
def fnExactAreEdgesWrong : ChangeSpec := { name := "fnExactAreEdges", fn := fun _ => fun
  | [d1, d2] => { results := [.lit (.bool false)], args := [d1, d2] }
  | _ => none }
def FnExactAreEdgesWrongFalsely : Prop := fnExactAreEdgesRow.holds Try.pinned (OpenSpec.ofChange fnExactAreEdgesWrong)

/-- 'laws.FnExactDegreesOf': WHATEVER THE INPUT: true; the input reads as it did. -/
def fnExactDegreesOfSpec : ChangeSpec := { name := "fnExactDegreesOf", fn := fun _ => fun
  | [d1, d2] => { results := [.lit (.bool true)], args := [d1, d2] }
  | _ => none }
def fnExactDegreesOfRow : OpenClaim := { program := "ytncebfnfmjimmaa", sum := "7f04c268eafed1ab091c8e0e16ca6f0ba9b2a9afdf28d26638112af47a33cb7b", func := "loop.example/g01339/laws.FnExactDegreesOf", spec := "fnExactDegreesOf", apart := false }
def FnExactDegreesOfSaid : Prop := fnExactDegreesOfRow.holds Try.pinned (OpenSpec.ofChange fnExactDegreesOfSpec)

/-- ITS FALSE NEIGHBOUR: 'it returns false'. Refute it at one input. -/
def fnExactDegreesOfWrong : ChangeSpec := { name := "fnExactDegreesOf", fn := fun _ => fun
  | [d1, d2] => { results := [.lit (.bool false)], args := [d1, d2] }
  | _ => none }
def FnExactDegreesOfWrongFalsely : Prop := fnExactDegreesOfRow.holds Try.pinned (OpenSpec.ofChange fnExactDegreesOfWrong)

/-- 'laws.FnExactCyclesOf': WHATEVER THE INPUT: true; the input reads as it did. -/
def fnExactCyclesOfSpec : ChangeSpec := { name := "fnExactCyclesOf", fn := fun _ => fun
  | [d] => { results := [.lit (.bool true)], args := [d] }
  | _ => none }
def fnExactCyclesOfRow : OpenClaim := { program := "ytncebfnfmjimmaa", sum := "7f04c268eafed1ab091c8e0e16ca6f0ba9b2a9afdf28d26638112af47a33cb7b", func := "loop.example/g01339/laws.FnExactCyclesOf", spec := "fnExactCyclesOf", apart := false }
def FnExactCyclesOfSaid : Prop := fnExactCyclesOfRow.holds Try.pinned (OpenSpec.ofChange fnExactCyclesOfSpec)

/-- ITS FALSE NEIGHBOUR: 'it returns false'. Refute it at one input. -/
def fnExactCyclesOfWrong : ChangeSpec := { name := "fnExactCyclesOf", fn := fun _ => fun
  | [d] => { results := [.lit (.bool false)], args := [d] }
  | _ => none }
def FnExactCyclesOfWrongFalsely : Prop := fnExactCyclesOfRow.holds Try.pinned (OpenSpec.ofChange fnExactCyclesOfWrong)

/- THE SECOND FORM. 'bulk': how many values and letters a reading holds, each counted each time it is reached (what is shared counts as often as it is met; a slice's spare places count too). A statement '..UptoSaid' is the law's where the arguments, and the package variables that the reading takes, are together of bulk at most 1048576: NARROWER than '..Said'. Prove '..Said' where nothing that the law and all that it calls make is longer than what came in: it says more and counts as full. Else prove '..UptoSaid'. A law counts once. -/
mutual
def uptoBulk {H : Type} : DataW H → Nat
  | .lit (.string bytes) => bytes.length + 1
  | .lit _ => 1
  | .nil => 1
  | .ptr d => uptoBulk d + 1
  | .slice elems spare => uptoBulkAll elems + uptoBulkAll spare + 1
  | .agg parts => uptoBulkAll parts + 1
  | .iface _ d => uptoBulk d + 1
  | .map entries => uptoBulkEntries entries + 1
  | .held _ => 1
def uptoBulkAll {H : Type} : List (DataW H) → Nat
  | [] => 0
  | d :: r => uptoBulk d + uptoBulkAll r
def uptoBulkEntries {H : Type} : List (Lit × DataW H) → Nat
  | [] => 0
  | x :: r => uptoBulkEntry x + uptoBulkEntries r
def uptoBulkEntry {H : Type} : Lit × DataW H → Nat
  | (.string bytes, d) => bytes.length + uptoBulk d + 1
  | (_, d) => uptoBulk d + 1
 end
def uptoSmall : (H : Type) → List (DataW H) → Bool := fun _ ds => decide (uptoBulkAll ds ≤ 1048576)
def OpenSpec.upto (s : _root_.Go.ChangeSpec) : _root_.Go.OpenSpec := { _root_.Go.OpenSpec.ofChange s with cond := some uptoSmall }

/-- 'laws.FnExactIsOrder', WHERE WHAT IT READS IS OF BULK AT MOST 1048576: true; the input reads as it did. -/
def fnExactIsOrderUptoRow : OpenClaim := { program := "ytncebfnfmjimmaa", sum := "7f04c268eafed1ab091c8e0e16ca6f0ba9b2a9afdf28d26638112af47a33cb7b", func := "loop.example/g01339/laws.FnExactIsOrder", spec := "fnExactIsOrder", apart := false, narrowed := true }
def FnExactIsOrderUptoSaid : Prop := fnExactIsOrderUptoRow.holds Try.pinned (OpenSpec.upto fnExactIsOrderSpec)

/-- 'laws.FnExactCodeOfOrder', WHERE WHAT IT READS IS OF BULK AT MOST 1048576: true; the input reads as it did. -/
def fnExactCodeOfOrderUptoRow : OpenClaim := { program := "ytncebfnfmjimmaa", sum := "7f04c268eafed1ab091c8e0e16ca6f0ba9b2a9afdf28d26638112af47a33cb7b", func := "loop.example/g01339/laws.FnExactCodeOfOrder", spec := "fnExactCodeOfOrder", apart := false, narrowed := true }
def FnExactCodeOfOrderUptoSaid : Prop := fnExactCodeOfOrderUptoRow.holds Try.pinned (OpenSpec.upto fnExactCodeOfOrderSpec)

/-- 'laws.FnExactOrderOfCode', WHERE WHAT IT READS IS OF BULK AT MOST 1048576: true; the input reads as it did. -/
def fnExactOrderOfCodeUptoRow : OpenClaim := { program := "ytncebfnfmjimmaa", sum := "7f04c268eafed1ab091c8e0e16ca6f0ba9b2a9afdf28d26638112af47a33cb7b", func := "loop.example/g01339/laws.FnExactOrderOfCode", spec := "fnExactOrderOfCode", apart := false, narrowed := true }
def FnExactOrderOfCodeUptoSaid : Prop := fnExactOrderOfCodeUptoRow.holds Try.pinned (OpenSpec.upto fnExactOrderOfCodeSpec)

/-- 'laws.FnExactNumberOfOrder', WHERE WHAT IT READS IS OF BULK AT MOST 1048576: true; the input reads as it did. -/
def fnExactNumberOfOrderUptoRow : OpenClaim := { program := "ytncebfnfmjimmaa", sum := "7f04c268eafed1ab091c8e0e16ca6f0ba9b2a9afdf28d26638112af47a33cb7b", func := "loop.example/g01339/laws.FnExactNumberOfOrder", spec := "fnExactNumberOfOrder", apart := false, narrowed := true }
def FnExactNumberOfOrderUptoSaid : Prop := fnExactNumberOfOrderUptoRow.holds Try.pinned (OpenSpec.upto fnExactNumberOfOrderSpec)

/-- 'laws.FnExactOrderOfNumber', WHERE WHAT IT READS IS OF BULK AT MOST 1048576: true; the input reads as it did. -/
def fnExactOrderOfNumberUptoRow : OpenClaim := { program := "ytncebfnfmjimmaa", sum := "7f04c268eafed1ab091c8e0e16ca6f0ba9b2a9afdf28d26638112af47a33cb7b", func := "loop.example/g01339/laws.FnExactOrderOfNumber", spec := "fnExactOrderOfNumber", apart := false, narrowed := true }
def FnExactOrderOfNumberUptoSaid : Prop := fnExactOrderOfNumberUptoRow.holds Try.pinned (OpenSpec.upto fnExactOrderOfNumberSpec)

/-- 'laws.FnExactTurnedDigits', WHERE WHAT IT READS IS OF BULK AT MOST 1048576: true; the input reads as it did. -/
def fnExactTurnedDigitsUptoRow : OpenClaim := { program := "ytncebfnfmjimmaa", sum := "7f04c268eafed1ab091c8e0e16ca6f0ba9b2a9afdf28d26638112af47a33cb7b", func := "loop.example/g01339/laws.FnExactTurnedDigits", spec := "fnExactTurnedDigits", apart := false, narrowed := true }
def FnExactTurnedDigitsUptoSaid : Prop := fnExactTurnedDigitsUptoRow.holds Try.pinned (OpenSpec.upto fnExactTurnedDigitsSpec)

/-- 'laws.FnExactDrawnOrder', WHERE WHAT IT READS IS OF BULK AT MOST 1048576: true; the input reads as it did. -/
def fnExactDrawnOrderUptoRow : OpenClaim := { program := "ytncebfnfmjimmaa", sum := "7f04c268eafed1ab091c8e0e16ca6f0ba9b2a9afdf28d26638112af47a33cb7b", func := "loop.example/g01339/laws.FnExactDrawnOrder", spec := "fnExactDrawnOrder", unfollowed := true, recurses := true, apart := false, narrowed := true }
def FnExactDrawnOrderUptoSaid : Prop := fnExactDrawnOrderUptoRow.holds Try.pinned (OpenSpec.upto fnExactDrawnOrderSpec)

/-- 'laws.FnExactRingOrder', WHERE WHAT IT READS IS OF BULK AT MOST 1048576: true; the input reads as it did. -/
def fnExactRingOrderUptoRow : OpenClaim := { program := "ytncebfnfmjimmaa", sum := "7f04c268eafed1ab091c8e0e16ca6f0ba9b2a9afdf28d26638112af47a33cb7b", func := "loop.example/g01339/laws.FnExactRingOrder", spec := "fnExactRingOrder", unfollowed := true, recurses := true, apart := false, narrowed := true }
def FnExactRingOrderUptoSaid : Prop := fnExactRingOrderUptoRow.holds Try.pinned (OpenSpec.upto fnExactRingOrderSpec)

/-- 'laws.FnExactMovedOrder', WHERE WHAT IT READS IS OF BULK AT MOST 1048576: true; the input reads as it did. -/
def fnExactMovedOrderUptoRow : OpenClaim := { program := "ytncebfnfmjimmaa", sum := "7f04c268eafed1ab091c8e0e16ca6f0ba9b2a9afdf28d26638112af47a33cb7b", func := "loop.example/g01339/laws.FnExactMovedOrder", spec := "fnExactMovedOrder", unfollowed := true, recurses := true, apart := false, narrowed := true }
def FnExactMovedOrderUptoSaid : Prop := fnExactMovedOrderUptoRow.holds Try.pinned (OpenSpec.upto fnExactMovedOrderSpec)

/-- 'laws.FnExactAreEdges', WHERE WHAT IT READS IS OF BULK AT MOST 1048576: true; the input reads as it did. -/
def fnExactAreEdgesUptoRow : OpenClaim := { program := "ytncebfnfmjimmaa", sum := "7f04c268eafed1ab091c8e0e16ca6f0ba9b2a9afdf28d26638112af47a33cb7b", func := "loop.example/g01339/laws.FnExactAreEdges", spec := "fnExactAreEdges", apart := false, narrowed := true }
def FnExactAreEdgesUptoSaid : Prop := fnExactAreEdgesUptoRow.holds Try.pinned (OpenSpec.upto fnExactAreEdgesSpec)

/-- 'laws.FnExactDegreesOf', WHERE WHAT IT READS IS OF BULK AT MOST 1048576: true; the input reads as it did. -/
def fnExactDegreesOfUptoRow : OpenClaim := { program := "ytncebfnfmjimmaa", sum := "7f04c268eafed1ab091c8e0e16ca6f0ba9b2a9afdf28d26638112af47a33cb7b", func := "loop.example/g01339/laws.FnExactDegreesOf", spec := "fnExactDegreesOf", apart := false, narrowed := true }
def FnExactDegreesOfUptoSaid : Prop := fnExactDegreesOfUptoRow.holds Try.pinned (OpenSpec.upto fnExactDegreesOfSpec)

/-- 'laws.FnExactCyclesOf', WHERE WHAT IT READS IS OF BULK AT MOST 1048576: true; the input reads as it did. -/
def fnExactCyclesOfUptoRow : OpenClaim := { program := "ytncebfnfmjimmaa", sum := "7f04c268eafed1ab091c8e0e16ca6f0ba9b2a9afdf28d26638112af47a33cb7b", func := "loop.example/g01339/laws.FnExactCyclesOf", spec := "fnExactCyclesOf", apart := false, narrowed := true }
def FnExactCyclesOfUptoSaid : Prop := fnExactCyclesOfUptoRow.holds Try.pinned (OpenSpec.upto fnExactCyclesOfSpec)

end Rows
end Go.Proofs.Ytncebfnfmjimmaa
