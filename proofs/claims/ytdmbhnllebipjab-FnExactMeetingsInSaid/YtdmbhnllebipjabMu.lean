/- Towards impl.MeetingsIn: sorted lists are one, a made list with room. -/
import Derived.Test.YtdmbhnllebipjabMt
namespace Go.Proofs.Ytdmbhnllebipjab
open Go Go.RowKit
set_option linter.unusedVariables false

theorem srt_pair {L : List Int} (h : Srt L L.length) : L.Pairwise (· ≤ ·) := by
  rw [List.pairwise_iff_getElem]
  intro i j hi hj hij
  have := h i j hij hj
  rwa [List.getElem?_eq_getElem hi, List.getElem?_eq_getElem hj] at this
theorem srt_one {L M : List Int} (hp : L.Perm M) (hl : Srt L L.length) (hm : Srt M M.length) : L = M :=
  List.Perm.eq_of_pairwise (fun a b _ _ h1 h2 => Int.le_antisymm h1 h2) (srt_pair hl) (srt_pair hm) hp
theorem srt_merge (X : List Int) : Srt (X.mergeSort fun x y => decide (x ≤ y)) (X.mergeSort fun x y => decide (x ≤ y)).length := by
  have h := List.pairwise_mergeSort (le := fun x y : Int => decide (x ≤ y)) (fun a b c h1 h2 => by simp at *; omega) (fun a b => by simp; omega) X
  rw [List.pairwise_iff_getElem] at h
  intro i j hij hj
  have := h i j (by omega) hj hij
  rw [List.getElem?_eq_getElem (by omega), List.getElem?_eq_getElem hj]
  simpa using this
/-- What the specification's insertion gives is what the library's sort gives. -/
theorem srt_is_merge {L X : List Int} (hp : L.Perm X) (hl : Srt L L.length) : L = X.mergeSort fun x y => decide (x ≤ y) :=
  srt_one (hp.trans (List.mergeSort_perm X _).symm) hl (srt_merge X)
theorem run_mk0 {P : Program} (w : World) (t e : TypeId) (z : Value) (bytes n : Nat) (ht : P.underlying t = some (.slice e)) (hi : (P.info? e).map (fun i => (i.zero, i.size, i.bytes)) = some (some z, 1, bytes)) (hz : z.cells = #[z])
    (hb : bytes * n ≤ 281474976710656) (hn : n ≤ 1048577) :
    (Instr.makeSlice t (.int .i64 0) (.int .i64 n)).run P w = .ok (.slice (some ⟨w.heap.size, 0, none⟩) 0 n) (w.alloc (.cells (Array.replicate n z) e)) := by
  obtain ⟨i, hi, h1, h2, h3⟩ := info_parts hi
  have hb' : (i.bytes : Int) * (n : Int) ≤ 281474976710656 := by
    rw [h3]
    have h : ((bytes * n : Nat) : Int) ≤ 281474976710656 := by omega
    rwa [Int.natCast_mul] at h
  rw [run_make w t e i z ht hi h1 .i64 .i64 0 n (by omega) (by omega) hb' (by omega)]
  have : madeCells z.cells ((n : Int).toNat * i.size) = Array.replicate n z := by
    rw [hz, h2, Int.toNat_natCast, Nat.mul_one]
    unfold madeCells
    apply Array.ext
    · simp
    · intro j h1 h2
      simp [Nat.mod_one]
  rw [this]; simp
end Go.Proofs.Ytdmbhnllebipjab
