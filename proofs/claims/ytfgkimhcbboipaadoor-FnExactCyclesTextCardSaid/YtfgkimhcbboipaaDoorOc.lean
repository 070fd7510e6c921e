/- Orders of codes: both sides. -/
import Derived.Test.YtfgkimhcbboipaaDoorDl
import Derived.Deep.CutRange
namespace Go.Proofs.YtfgkimhcbboipaaDoor
open Go Go.RowKit
set_option linter.unusedVariables false

/-- It returns a list and yes, if p holds, and nothing and no, if not. -/
def ListP (p : Prop) (vs : List Int) (w : World) (e : Ending) (w' : World) : Prop :=
  (p → RetL vs.length (il vs) (fun s => .tuple #[s, .bool true]) w e w') ∧ (¬p → RetB (.tuple #[.slice none 0 0, .bool false]) w e w')
theorem ListP.yes {p : Prop} {vs : List Int} {w w' : World} {e : Ending} (h : p) (hr : RetL vs.length (il vs) (fun s => .tuple #[s, .bool true]) w e w') : ListP p vs w e w' := ⟨fun _ => hr, fun hn => absurd h hn⟩
theorem ListP.no {p : Prop} {vs : List Int} {w w' : World} {e : Ending} (h : ¬p) (hr : RetB (.tuple #[.slice none 0 0, .bool false]) w e w') : ListP p vs w e w' := ⟨fun hp => absurd hp h, fun _ => hr⟩
theorem ListP.some {P : Program} {F : FuncId} {args : Array Value} {w : World} {p : Prop} {vs : List Int} (h : p) (hc : Calls P F args w (ListP p vs w)) :
    Calls P F args w (RetL vs.length (il vs) (fun s => .tuple #[s, .bool true]) w) := hc.mono fun e w' H => H.1 h
theorem ListP.none {P : Program} {F : FuncId} {args : Array Value} {w : World} {p : Prop} {vs : List Int} (h : ¬p) (hc : Calls P F args w (ListP p vs w)) :
    Calls P F args w (RetB (.tuple #[.slice none 0 0, .bool false]) w) := hc.mono fun e w' H => H.2 h

/-- A block of another type than an owned row's is not that row's. -/
theorem own_type {w : World} {base n g : Nat} {e t : TypeId} {v : Value} {xs : List Value} {cs : List Int} (h : w.ownsRow base e 1 v n xs) (hr : RowAt w g t cs) (ht : t ≠ e) : some g ≠ v.ownBlock := by
  intro hg
  rcases h.2 with ⟨rfl, _⟩ | ⟨g', cap, cur, rfl, _, hgg, _⟩
  · simp [Value.ownBlock] at hg
  · simp [Value.ownBlock] at hg
    subst hg
    obtain ⟨cur', hw, _⟩ := hr
    unfold Whole at hw
    rw [hw] at hgg
    injection hgg with hgg
    injection hgg with _ h2
    exact ht h2

/-- The first k numbers of a code lie where they can. -/
def codTo (cs : List Int) (k : Nat) : Prop := ∀ i : Nat, i < k → 0 ≤ cs[i]?.getD 0 ∧ cs[i]?.getD 0 < (cs.length : Int) - i
def isCod (cs : List Int) : Prop := (1 ≤ cs.length ∧ cs.length ≤ 64) ∧ codTo cs cs.length
theorem codTo_next {cs : List Int} {k : Nat} (h : codTo cs k) (hk : 0 ≤ cs[k]?.getD 0 ∧ cs[k]?.getD 0 < (cs.length : Int) - k) : codTo cs (k + 1) := fun i hi => by
  by_cases e : i = k
  · subst e; exact hk
  · exact h i (by omega)
/-- What is left behind k numbers of a code, and what has been taken. -/
def leftK (cs : List Int) : Nat → List Int
  | 0 => idL cs.length
  | k + 1 => (leftK cs k).eraseIdx (cs[k]?.getD 0).toNat
def ordK (cs : List Int) : Nat → List Int
  | 0 => []
  | k + 1 => ordK cs k ++ [(leftK cs k)[(cs[k]?.getD 0).toNat]?.getD 0]
def ordL (cs : List Int) : List Int := ordK cs cs.length
theorem ordK_len (cs : List Int) (k : Nat) : (ordK cs k).length = k := by
  induction k with
  | zero => rfl
  | succ k ih => simp [ordK, ih]
theorem ordL_len (cs : List Int) : (ordL cs).length = cs.length := ordK_len _ _
theorem leftK_len {cs : List Int} {k : Nat} (h : codTo cs k) (hk : k ≤ cs.length) : (leftK cs k).length = cs.length - k := by
  induction k with
  | zero => simp [leftK, idL_len]
  | succ k ih =>
    have h' : codTo cs k := fun i hi => h i (by omega)
    have := h k (by omega)
    rw [leftK, eraseIdx_len _ _ (by rw [ih h' (by omega)]; omega), ih h' (by omega)]; omega
end Go.Proofs.YtfgkimhcbboipaaDoor
