/- Rows of numbers told by a function of their index. -/
import Derived.Test.YtfgkimhcbboipaaDoorTl
namespace Go.Proofs.YtfgkimhcbboipaaDoor
open Go Go.RowKit
set_option linter.unusedVariables false

def fnL (n : Nat) (f : Nat → Int) : List Int := (List.range n).map f
theorem fnL_len (n : Nat) (f : Nat → Int) : (fnL n f).length = n := by simp [fnL]
theorem fnL_get (n : Nat) (f : Nat → Int) (i : Nat) (h : i < n) : (fnL n f)[i]?.getD 0 = f i := by simp [fnL, h]
theorem fnL_ext {n : Nat} {f g : Nat → Int} (h : ∀ i, i < n → f i = g i) : fnL n f = fnL n g := by
  unfold fnL
  exact List.map_congr_left (fun i hi => h i (by simpa using hi))
theorem fnL_set (n : Nat) (f : Nat → Int) (j : Nat) (v : Int) : (fnL n f).set j v = fnL n (fun t => if t = j then v else f t) := by
  apply List.ext_getElem
  · simp [fnL]
  · intro i h1 h2
    simp only [fnL, List.getElem_set, List.getElem_map, List.getElem_range]
    by_cases e : j = i
    · subst e; simp
    · rw [if_neg e, if_neg (fun h => e h.symm)]
theorem fnL_zero (n : Nat) : List.replicate n (0 : Int) = fnL n (fun _ => 0) := by
  apply List.ext_getElem
  · simp [fnL]
  · intro i h1 h2; simp [fnL]
section
variable {w : World} {g : Nat} {t : TypeId} {n : Nat} {f : Nat → Int}
/-- The block g holds the row told by f. -/
def FRow (w : World) (g : Nat) (t : TypeId) (n : Nat) (f : Nat → Int) : Prop := Whole w g t (il (fnL n f)).toArray
theorem FRow.new (w : World) (n : Nat) (t : TypeId) : FRow (w.alloc (.cells (Array.replicate n (.int .i64 0)) t)) w.heap.size t n (fun _ => 0) := by
  unfold FRow; rw [← fnL_zero]; exact tally_new w n t
theorem FRow.new1 (w : World) (n : Nat) (t : TypeId) (v : Int) : FRow (w.alloc (.cells ((Array.replicate n (.int .i64 0)).setIfInBounds 0 (.int .i64 v)) t)) w.heap.size t n (fun i => if i = 0 then v else 0) := by
  unfold FRow; rw [← fnL_set, ← fnL_zero]
  have := Whole.made w t ((Array.replicate n (.int .i64 0)).setIfInBounds 0 (.int .i64 v))
  rwa [show (il ((List.replicate n 0).set 0 v)).toArray = (Array.replicate n (Value.int .i64 0)).setIfInBounds 0 (.int .i64 v) by simp [il, List.map_set, ← List.setIfInBounds_toArray]]
theorem FRow.cell (h : FRow w g t n f) (j : Nat) (hj : j < n) : w.cell? ⟨g, j, none⟩ = some (.int .i64 (f j)) := by
  have := tally_cell h j (by rw [fnL_len]; exact hj)
  rwa [fnL_get _ _ _ hj] at this
theorem FRow.frozen (h : FRow w g t n f) (j : Nat) : w.frozen? ⟨g, j, none⟩ = false := Whole.frozen h j
theorem FRow.lt (h : FRow w g t n f) : g < w.heap.size := Whole.lt h
theorem FRow.put (h : FRow w g t n f) (j : Nat) (v : Int) : FRow (w.setCell ⟨g, j, none⟩ (.int .i64 v)) g t n (fun t => if t = j then v else f t) := by
  unfold FRow; rw [← fnL_set]; exact tally_put h j v
theorem FRow.to (h : FRow w g t n f) {f' : Nat → Int} (e : ∀ i, i < n → f i = f' i) : FRow w g t n f' := by
  unfold FRow; rw [← fnL_ext e]; exact h
theorem FRow.below {w' : World} (h : FRow w g t n f) (hb : Below w.heap.size w w') : FRow w' g t n f := Whole.below h hb
theorem FRow.far (h : FRow w g t n f) {p : Addr} (hp : g ≠ p.block) (u : Value) : FRow (w.setCell p u) g t n f := Whole.far h hp u
theorem FRow.alloc (h : FRow w g t n f) (o : Obj) : FRow (w.alloc o) g t n f := Whole.alloc h o
theorem FRow.drew (h : FRow w g t n f) : FRow w.drew g t n f := h
theorem FRow.drewN (h : FRow w g t n f) (k : Nat) : FRow (w.drewN k) g t n f := h
theorem FRow.row (h : FRow w g t n f) {lo hi : Nat} (h1 : lo ≤ g) (h2 : g < hi) : Row w lo hi (some ⟨g, 0, none⟩) (il (fnL n f)) := tally_row h h1 h2
end
end Go.Proofs.YtfgkimhcbboipaaDoor
