/- The library's sort, as the walk of impl.MeetingsIn reads it. 'Sl' is made by the shelf's commands at the seat (NOTES). -/
import Derived.Test.YtdmbhnllebipjabMu
import Derived.Test.YtdmbhnllebipjabSl
namespace Go.Proofs.Ytdmbhnllebipjab
open Go Go.RowKit
set_option linter.unusedVariables false

def mrg (X : List Int) : List Int := X.mergeSort fun x y => decide (x ≤ y)
theorem mrg_len (X : List Int) : (mrg X).length = X.length := List.length_mergeSort X
theorem sort_any (X : List Int) (hX : X.length ≤ 1000) (g c : Nat) (w : World) (t : TypeId) (cs : Array Value) (hw : Whole w g t cs) (hc : Cellsd cs X) :
    Calls Try.prog 67 #[.slice (some ⟨g, 0, none⟩) X.length c] w (fun e w' => e = .returned (.tuple #[]) ∧ Holds w' (some ⟨g, 0, none⟩) (il (mrg X)) ∧ w.grownBy w' (some g)) := by
  have hH : Go.Sort.Holds (Value.int .i64) w g 0 X.toArray := fun j hj => by
    have hj' : j < X.length := by simpa using hj
    refine ⟨?_, ?_⟩
    · rw [Nat.zero_add, hw.cell, hc j hj']
      simp [hj']
    · rw [Nat.zero_add]; exact hw.frozen j
  have h : Calls Try.prog 67 #[.slice (some ⟨g, 0, none⟩) X.length c] w _ := Go.Proofs.AnyM.slices_Sort_int Go.Proofs.Try.laysSort g 0 c X w hH hw.lt (by omega)
  refine h.mono ?_
  rintro e w' ⟨rfl, n, os, rfl⟩
  have hg : g < (Go.Sort.putRow (Value.int .i64) (Go.Sort.ahead w n) g 0 (mrg X).toArray).heap.size := by rw [Go.Sort.size_putRow]; exact hw.lt
  refine ⟨rfl, fun i hi => ⟨g, 0, rfl, ?_⟩, ⟨rfl, rfl, rfl, ?_, fun k hk hne => ?_⟩⟩
  · have hi' : i < (mrg X).length := by simpa [il] using hi
    rw [World.cell?_of_block (w := Go.Sort.putRow (Value.int .i64) (Go.Sort.ahead w n) g 0 (mrg X).toArray) (by show (_ ++ _)[g]? = _; exact Array.getElem?_append_left hg)]
    rw [Go.Sort.cell?_putRow (Value.int .i64) (Go.Sort.ahead w n) g 0 X.toArray (mrg X).toArray hH (by simp [mrg_len]) i (by simpa using hi')]
    rw [il_get _ _ hi']
    simp [hi']
  · show w.heap.size ≤ ((Go.Sort.putRow (Value.int .i64) (Go.Sort.ahead w n) g 0 (mrg X).toArray).heap ++ os).size
    have e := Go.Sort.size_putRow (Value.int .i64) (Go.Sort.ahead w n) g 0 (mrg X).toArray
    rw [Array.size_append, e]; exact Nat.le_add_right _ _
  · have hk2 : k < (Go.Sort.putRow (Value.int .i64) (Go.Sort.ahead w n) g 0 (mrg X).toArray).heap.size := by rw [Go.Sort.size_putRow]; exact hk
    show (_ ++ _)[k]? = _
    refine (Array.getElem?_append_left hk2).trans ?_
    show (w.heap.modify g _)[k]? = w.heap[k]?
    rw [Array.getElem?_modify, if_neg (fun h => hne (by rw [h]))]
end Go.Proofs.Ytdmbhnllebipjab
