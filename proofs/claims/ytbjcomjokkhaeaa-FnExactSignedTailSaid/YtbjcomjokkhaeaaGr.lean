/- Lists of rows of numbers that one has made oneself, each behind the one before. -/
import Derived.Test.YtbjcomjokkhaeaaFn
namespace Go.Proofs.Ytbjcomjokkhaeaa
open Go Go.RowKit
set_option linter.unusedVariables false

/-- The outer list behind j rows. -/
def gridC (G n m j : Nat) : Array Value := ((List.range n).map fun k => if k < j then Value.slice (some ⟨G + 1 + k, 0, none⟩) m m else Value.slice none 0 0).toArray
theorem gridC_zero (G n m : Nat) : gridC G n m 0 = Array.replicate n (Value.slice none 0 0) := by
  apply Array.ext
  · simp [gridC]
  · intro i h1 h2; simp [gridC]
theorem gridC_size (G n m j : Nat) : (gridC G n m j).size = n := by simp [gridC]
theorem gridC_put (G n m j : Nat) (h : j < n) : (gridC G n m j).setIfInBounds j (Value.slice (some ⟨G + 1 + j, 0, none⟩) m m) = gridC G n m (j + 1) := by
  apply Array.ext
  · simp [gridC]
  · intro i h1 h2
    have hi : i < n := by simpa [gridC] using h2
    rw [Array.getElem_setIfInBounds (by simpa [gridC] using hi)]
    by_cases e : j = i
    · subst e; simp [gridC]
    · rw [if_neg e]
      simp only [gridC, List.getElem_toArray, List.getElem_map, List.getElem_range]
      by_cases h3 : i < j
      · rw [if_pos h3, if_pos (by omega)]
      · rw [if_neg h3, if_neg (by omega)]
theorem gridC_get (G n m j k : Nat) (h : k < n) (hj : k < j) : (gridC G n m j)[k]? = some (Value.slice (some ⟨G + 1 + k, 0, none⟩) m m) := by simp [gridC, h, hj]
theorem gridC_old (G n m j k : Nat) (h : k < n) (hj : j ≤ k) : (gridC G n m j)[k]? = some (Value.slice none 0 0) := by
  have : ¬ k < j := by omega
  simp [gridC, h, this]
/-- n rows of m numbers each, told by a function. -/
def Grid (w : World) (G : Nat) (T0 T1 : TypeId) (n m : Nat) (f : Nat → Nat → Int) : Prop :=
  Whole w G T0 (gridC G n m n) ∧ ∀ k : Nat, k < n → FRow w (G + 1 + k) T1 m (f k)
/-- The same, of which only j rows are made. -/
def GridM (w : World) (G : Nat) (T0 T1 : TypeId) (n m j : Nat) : Prop :=
  w.heap.size = G + 1 + j ∧ Whole w G T0 (gridC G n m j) ∧ ∀ k : Nat, k < j → FRow w (G + 1 + k) T1 m (fun _ => 0)
section
variable {w : World} {G : Nat} {T0 T1 : TypeId} {n m : Nat} {f : Nat → Nat → Int}
theorem Grid.cell0 (h : Grid w G T0 T1 n m f) (k : Nat) (hk : k < n) : w.cell? ⟨G, k, none⟩ = some (.slice (some ⟨G + 1 + k, 0, none⟩) m m) := by
  rw [h.1.cell, gridC_get _ _ _ _ _ hk hk]
theorem Grid.cell (h : Grid w G T0 T1 n m f) (k s : Nat) (hk : k < n) (hs : s < m) : w.cell? ⟨G + 1 + k, s, none⟩ = some (.int .i64 (f k s)) := (h.2 k hk).cell s hs
theorem Grid.frozen (h : Grid w G T0 T1 n m f) (k s : Nat) (hk : k < n) : w.frozen? ⟨G + 1 + k, s, none⟩ = false := (h.2 k hk).frozen s
theorem Grid.lt (h : Grid w G T0 T1 n m f) (k : Nat) (hk : k < n) : G + 1 + k < w.heap.size := (h.2 k hk).lt
theorem Grid.put (h : Grid w G T0 T1 n m f) (k s : Nat) (hk : k < n) (v : Int) : Grid (w.setCell ⟨G + 1 + k, s, none⟩ (.int .i64 v)) G T0 T1 n m (fun j t => if j = k ∧ t = s then v else f j t) := by
  refine ⟨h.1.far (by show G ≠ G + 1 + k; omega) _, fun j hj => ?_⟩
  by_cases e : j = k
  · subst e
    exact ((h.2 j hj).put s v).to (fun t _ => by simp)
  · exact ((h.2 j hj).far (by show G + 1 + j ≠ G + 1 + k; omega) _).to (fun t _ => by show f j t = if j = k ∧ t = s then v else f j t; rw [if_neg (fun h => e h.1)])
theorem Grid.to (h : Grid w G T0 T1 n m f) {f' : Nat → Nat → Int} (e : ∀ k t, k < n → t < m → f k t = f' k t) : Grid w G T0 T1 n m f' :=
  ⟨h.1, fun k hk => (h.2 k hk).to (fun t ht => e k t hk ht)⟩
theorem Grid.drew (h : Grid w G T0 T1 n m f) : Grid w.drew G T0 T1 n m f := h
theorem Grid.drewN (h : Grid w G T0 T1 n m f) (q : Nat) : Grid (w.drewN q) G T0 T1 n m f := h
theorem Grid.below {w' : World} (h : Grid w G T0 T1 n m f) (hb : Below w.heap.size w w') : Grid w' G T0 T1 n m f :=
  ⟨h.1.below hb, fun k hk => (h.2 k hk).below hb⟩
theorem GridM.start (w : World) (T0 T1 : TypeId) (n m : Nat) : GridM (w.alloc (.cells (Array.replicate n (Value.slice none 0 0)) T0)) w.heap.size T0 T1 n m 0 := by
  refine ⟨by simp, ?_, fun k hk => absurd hk (Nat.not_lt_zero _)⟩
  rw [gridC_zero]; exact Whole.made _ _ _
theorem setCell_size (w : World) (p : Addr) (u : Value) : (w.setCell p u).heap.size = w.heap.size := by simp [World.setCell]
theorem GridM.next {j : Nat} (h : GridM w G T0 T1 n m j) (hj : j < n) :
    GridM ((w.setCell ⟨G, j, none⟩ (.slice (some ⟨w.heap.size, 0, none⟩) m m)).alloc (.cells (Array.replicate m (.int .i64 0)) T1)) G T0 T1 n m (j + 1) := by
  obtain ⟨h1, h2, h3⟩ := h
  refine ⟨by simp [h1]; omega, ?_, fun k hk => ?_⟩
  · rw [h1, ← gridC_put G n m j hj]
    exact (h2.put j _).alloc _
  · by_cases e : k = j
    · subst e
      have := FRow.new (w.setCell ⟨G, k, none⟩ (.slice (some ⟨w.heap.size, 0, none⟩) m m)) m T1
      rw [setCell_size, h1] at this
      rw [h1]
      exact this
    · exact ((h3 k (by omega)).far (by show G + 1 + k ≠ G; omega) _).alloc _
theorem GridM.all (h : GridM w G T0 T1 n m n) : Grid w G T0 T1 n m (fun _ _ => 0) := ⟨h.2.1, h.2.2⟩
end
theorem run_mkII {P : Program} (w : World) (t e : TypeId) (n : Nat) (hn : n ≤ 1048577) (ht : P.underlying t = some (.slice e)) (hi : (P.info? e).map (fun i => (i.zero, i.size, i.bytes)) = some (some (.slice none 0 0), 1, 24)) :
    (Instr.makeSlice t (.int .i64 (n : Int)) (.int .i64 (n : Int))).run P w = .ok (.slice (some ⟨w.heap.size, 0, none⟩) n n) (w.alloc (.cells (Array.replicate n (.slice none 0 0)) e)) :=
  run_mk w t e (.slice none 0 0) 24 n ht hi rfl (by omega) hn
theorem run_mkI0 {P : Program} (w : World) (t e : TypeId) (n : Nat) (ht : P.underlying t = some (.slice e)) (hi : (P.info? e).map (fun i => (i.zero, i.size, i.bytes)) = some (some (.int .i64 0), 1, 8)) (hn : n ≤ 1048577) :
    (Instr.makeSlice t (.int .i64 0) (.int .i64 (n : Int))).run P w = .ok (.slice (some ⟨w.heap.size, 0, none⟩) 0 n) (w.alloc (.cells (Array.replicate n (.int .i64 0)) e)) := by
  obtain ⟨i, hi, h1, h2, h3⟩ := info_parts hi
  have hb' : (i.bytes : Int) * (n : Int) ≤ 281474976710656 := by rw [h3]; omega
  rw [run_make w t e i (.int .i64 0) ht hi h1 .i64 .i64 0 n (by omega) (by omega) hb' (by omega)]
  have : madeCells (Value.int .i64 0).cells ((n : Int).toNat * i.size) = Array.replicate n (.int .i64 0) := by
    rw [show (Value.int .i64 0).cells = #[.int .i64 0] from rfl, h2, Int.toNat_natCast, Nat.mul_one]
    unfold madeCells
    apply Array.ext
    · simp
    · intro j h1 h2
      simp [Nat.mod_one]
  rw [this]; simp
end Go.Proofs.Ytbjcomjokkhaeaa
