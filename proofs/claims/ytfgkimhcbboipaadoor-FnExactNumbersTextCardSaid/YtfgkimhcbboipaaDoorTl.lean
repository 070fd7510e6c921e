/- Tallies in memory. -/
import Derived.Test.YtfgkimhcbboipaaDoorIl
namespace Go.Proofs.YtfgkimhcbboipaaDoor
open Go Go.RowKit
set_option linter.unusedVariables false

def bump (cs : List Int) (j : Nat) : List Int := cs.set j (cs[j]?.getD 0 + 1)
theorem bump_len (cs : List Int) (j : Nat) : (bump cs j).length = cs.length := by simp [bump]
/-- All numbers from 0 to m. -/
def upTo (m : Nat) (cs : List Int) : Prop := ∀ j : Nat, 0 ≤ cs[j]?.getD 0 ∧ cs[j]?.getD 0 ≤ m
theorem upTo.more {m n : Nat} {cs : List Int} (h : upTo m cs) (hn : m ≤ n) : upTo n cs := fun j => by have := h j; omega
theorem upTo.bump {m : Nat} {cs : List Int} (h : upTo m cs) (j : Nat) : upTo (m + 1) (bump cs j) := fun i => by
  have h1 := h i
  have h2 := h j
  unfold Go.Proofs.YtfgkimhcbboipaaDoor.bump
  rw [List.getElem?_set]
  split
  · split
    · simp; omega
    · simp; omega
  · omega
theorem upTo_zero (n : Nat) : upTo 0 (List.replicate n 0) := fun j => by
  rw [List.getElem?_replicate]; split <;> simp
theorem tally_cell {w : World} {g : Nat} {t : TypeId} {cs : List Int} (h : Whole w g t (il cs).toArray) (j : Nat) (hj : j < cs.length) : w.cell? ⟨g, j, none⟩ = some (.int .i64 (cs[j]?.getD 0)) := by
  rw [h.cell]; simp [il, hj]
theorem tally_put {w : World} {g : Nat} {t : TypeId} {cs : List Int} (h : Whole w g t (il cs).toArray) (j : Nat) (v : Int) : Whole (w.setCell ⟨g, j, none⟩ (.int .i64 v)) g t (il (cs.set j v)).toArray := by
  have := h.put j (.int .i64 v)
  rwa [show (il cs).toArray.setIfInBounds j (.int .i64 v) = (il (cs.set j v)).toArray by simp [il, List.map_set]] at this
theorem tally_row {w : World} {g lo hi : Nat} {t : TypeId} {cs : List Int} (h : Whole w g t (il cs).toArray) (h1 : lo ≤ g) (h2 : g < hi) : Row w lo hi (some ⟨g, 0, none⟩) (il cs) :=
  .inr ⟨g, _, t, rfl, h1, h2, h, fun i hi => by simp [List.getD, hi]⟩
theorem tally_new (w : World) (n : Nat) (t : TypeId) : Whole (w.alloc (.cells (Array.replicate n (.int .i64 0)) t)) w.heap.size t (il (List.replicate n 0)).toArray := by
  have := Whole.made w t (Array.replicate n (.int .i64 0))
  rwa [show (il (List.replicate n 0)).toArray = Array.replicate n (Value.int .i64 0) by simp [il]]
theorem run_mk16 {P : Program} (w : World) (t e : TypeId) (n : Nat) (hn : n ≤ 1048577) (ht : P.underlying t = some (.slice e)) (hi : (P.info? e).map (fun i => (i.zero, i.size, i.bytes)) = some (some (.int .i64 0), 1, 8)) :
    (Instr.makeSlice t (.int .i64 (n : Int)) (.int .i64 (n : Int))).run P w = .ok (.slice (some ⟨w.heap.size, 0, none⟩) n n) (w.alloc (.cells (Array.replicate n (.int .i64 0)) e)) :=
  run_mk w t e (.int .i64 0) 8 n ht hi rfl (by omega) hn

/-! ### append of one value onto a row of the call's own -/
theorem own_ne {w : World} {base : Nat} {e : TypeId} {size : Nat} {v : Value} {n : Nat} {xs : List Value} (h : w.ownsRow base e size v n xs) {g : Nat} (hg : g < base) : v.ownBlock = none ∨ v.ownBlock ≠ some g := by
  right; intro hv; have := h.lt g hv; omega
theorem own_ne' {w : World} {base : Nat} {e : TypeId} {size : Nat} {v : Value} {n : Nat} {xs : List Value} (h : w.ownsRow base e size v n xs) {g : Nat} (hg : g < base) : some g ≠ v.ownBlock := by
  intro hv; have := h.lt g hv.symm; omega
theorem grown_more {a b c : World} {row row' : Option Nat} (h : a.grownBy b row) (k : b.grownBy c row') (hr : ∀ i, row' = some i → a.heap.size ≤ i) : a.grownBy c row :=
  ⟨k.os.trans h.os, k.tape.trans h.tape, k.output.trans h.output, Nat.le_trans h.size k.size, fun i hi hne =>
    (k.block i (Nat.lt_of_lt_of_le hi h.size) (fun e => by have := hr i e.symm; omega)).trans (h.block i hi hne)⟩
theorem own_form {w : World} {base : Nat} {e : TypeId} {size : Nat} {v : Value} {n : Nat} {xs : List Value} (h : w.ownsRow base e size v n xs) : ∃ ao c, v = .slice ao n c := by
  rcases h.2 with ⟨rfl, rfl⟩ | ⟨g', cap, cur, rfl, _⟩
  · exact ⟨_, _, rfl⟩
  · exact ⟨_, _, rfl⟩
theorem own_ge {w : World} {base : Nat} {e : TypeId} {size : Nat} {v : Value} {n : Nat} {xs : List Value} (h : w.ownsRow base e size v n xs) : ∀ i, v.ownBlock = some i → base ≤ i := fun i hi => (h.lt i hi).1
theorem wpList_app1 {P : Program} {w : World} {ops : Array Oper} {rest : List Oper} {o : Oper} {a : Act} {Q : Exit → Act → World → Prop} (hgd : o.guard = none) (s x : Operand) (t : TypeId)
    (ho : o.op = .call { callee := .builtin .append, args := #[s, x], argTypes := #[t, t] })
    (base : Nat) (e : TypeId) (z : Value) (bytes : Nat) (ht : P.underlying t = some (.slice e)) (hi : (P.info? e).map (fun i => (i.zero, i.size, i.bytes)) = some (some z, 1, bytes)) (hz : z.cells.size = 1)
    (v : Value) (n : Nat) (xs : List Value) (hs : a.eval s = v) (hown : w.ownsRow base e 1 v n xs)
    (g c : Nat) (u : Value) (hx : a.eval x = .slice (some ⟨g, 0, none⟩) 1 c) (hc : w.cell? ⟨g, 0, none⟩ = some u) (h1 : u.oneCell' = true)
    (hn : (n + 1) * bytes ≤ 140737488355328 ∧ n + 1 ≤ 140737488355328) (hbase : base ≤ w.heap.size)
    (h : ∀ v' w', w'.ownsRow base e 1 v' (n + 1) (xs ++ [u]) → w.grownBy w' v.ownBlock → wpList P ops Q rest (a.put o.dst v') w') : wpList P ops Q (o :: rest) a w := by
  obtain ⟨i, hi, h1', h2, h3⟩ := info_parts hi
  refine wpList_append_own w hgd s x t ho base e i z 1 bytes ht hi h1' h2 h3 hz (by decide) v n xs hs hown ⟨g, 0, none⟩ 1 c [u] hx rfl ?_ ?_ ?_ hn.1 hbase (fun v' w' a1 a2 _ => h v' w' a1 a2)
  · intro j y hy
    cases j with
    | zero => simp at hy; subst hy; exact hc
    | succ j => simp at hy
  · intro y hy; simp at hy; subst hy; exact h1
  · unfold maxLen; omega
end Go.Proofs.YtfgkimhcbboipaaDoor
