/- Tallies in memory. -/
import Derived.Test.YtdmbhnllebipjabIl
namespace Go.Proofs.Ytdmbhnllebipjab
open Go Go.RowKit
set_option linter.unusedVariables false

def bump (cs : List Int) (j : Nat) : List Int := cs.set j (cs[j]?.getD 0 + 1)
theorem bump_len (cs : List Int) (j : Nat) : (bump cs j).length = cs.length := by simp [bump]
/-- All numbers from 0 to m. -/
def upTo (m : Nat) (cs : List Int) : Prop := ∀ j : Nat, 0 ≤ cs[j]?.getD 0 ∧ cs[j]?.getD 0 ≤ m
theorem upTo.more {m n : Nat} {cs : List Int} (h : upTo m cs) (hn : m ≤ n) : upTo n cs := fun j => by have := h j; omega
theorem upTo.bump {m : Nat} {cs : List Int} (h : upTo m cs) (j : Nat) : upTo (m + 1) (bump cs j) := fun i => by
  have h1 := h i
  have h2 := h j
  unfold Go.Proofs.Ytdmbhnllebipjab.bump
  rw [List.getElem?_set]
  split
  · split
    · simp; omega
    · simp; omega
  · omega
theorem upTo_zero (n : Nat) : upTo 0 (List.replicate n 0) := fun j => by
  rw [List.getElem?_replicate]; split <;> simp
theorem tally_cell {w : World} {g : Nat} {t : TypeId} {cs : List Int} (h : Whole w g t (il cs).toArray) (j : Nat) (hj : j < cs.length) : w.cell? ⟨g, j, none⟩ = some (.int .i64 (cs[j]?.getD 0)) := by
  rw [h.cell]; simp [il, hj]
theorem tally_put {w : World} {g : Nat} {t : TypeId} {cs : List Int} (h : Whole w g t (il cs).toArray) (j : Nat) (v : Int) : Whole (w.setCell ⟨g, j, none⟩ (.int .i64 v)) g t (il (cs.set j v)).toArray := by
  have := h.put j (.int .i64 v)
  rwa [show (il cs).toArray.setIfInBounds j (.int .i64 v) = (il (cs.set j v)).toArray by simp [il, List.map_set]] at this
theorem tally_row {w : World} {g lo hi : Nat} {t : TypeId} {cs : List Int} (h : Whole w g t (il cs).toArray) (h1 : lo ≤ g) (h2 : g < hi) : Row w lo hi (some ⟨g, 0, none⟩) (il cs) :=
  .inr ⟨g, _, t, rfl, h1, h2, h, fun i hi => by simp [List.getD, hi]⟩
theorem tally_new (w : World) (n : Nat) (t : TypeId) : Whole (w.alloc (.cells (Array.replicate n (.int .i64 0)) t)) w.heap.size t (il (List.replicate n 0)).toArray := by
  have := Whole.made w t (Array.replicate n (.int .i64 0))
  rwa [show (il (List.replicate n 0)).toArray = Array.replicate n (Value.int .i64 0) by simp [il]]
theorem run_mk16 {P : Program} (w : World) (t e : TypeId) (n : Nat) (hn : n ≤ 1048577) (ht : P.underlying t = some (.slice e)) (hi : (P.info? e).map (fun i => (i.zero, i.size, i.bytes)) = some (some (.int .i64 0), 1, 8)) :
    (Instr.makeSlice t (.int .i64 (n : Int)) (.int .i64 (n : Int))).run P w = .ok (.slice (some ⟨w.heap.size, 0, none⟩) n n) (w.alloc (.cells (Array.replicate n (.int .i64 0)) e)) :=
  run_mk w t e (.int .i64 0) 8 n ht hi rfl (by omega) hn
end Go.Proofs.Ytdmbhnllebipjab
