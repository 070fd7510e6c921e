/- Rows of bools that are known cell by cell; an empty row with room. -/
import Derived.Test.YticmnkgcolgpaaaRa
namespace Go.Proofs.Yticmnkgcolgpaaa
open Go Go.RowKit
set_option linter.unusedVariables false

def BRow (w : World) (g : Nat) (t : TypeId) (tk : List Bool) : Prop := ∃ cur : Array Value, Whole w g t cur ∧ ∀ i, i < tk.length → cur[i]? = some (.bool (tk[i]?.getD false))
section
variable {w w' : World} {g : Nat} {t : TypeId} {tk : List Bool}
theorem BRow.lt (h : BRow w g t tk) : g < w.heap.size := by obtain ⟨cur, h, _⟩ := h; exact h.lt
theorem BRow.cell (h : BRow w g t tk) (i : Nat) (hi : i < tk.length) : w.cell? ⟨g, i, none⟩ = some (.bool (tk[i]?.getD false)) := by
  obtain ⟨cur, h, hc⟩ := h; rw [h.cell]; exact hc i hi
theorem BRow.frozen (h : BRow w g t tk) (i : Nat) : w.frozen? ⟨g, i, none⟩ = false := by obtain ⟨cur, h, hc⟩ := h; exact h.frozen i
theorem BRow.put (h : BRow w g t tk) (i : Nat) (v : Bool) : BRow (w.setCell ⟨g, i, none⟩ (.bool v)) g t (tk.set i v) := by
  obtain ⟨cur, h, hc⟩ := h
  refine ⟨_, h.put i _, fun x hx => ?_⟩
  have hx' : x < tk.length := by simpa using hx
  have hsz : x < cur.size := (Array.getElem?_eq_some_iff.1 (hc x hx')).1
  by_cases e : i = x
  · subst e
    rw [Array.getElem?_setIfInBounds_self_of_lt hsz, List.getElem?_set_self hx']; rfl
  · rw [Array.getElem?_setIfInBounds_ne e, List.getElem?_set_ne e]; exact hc x hx'
theorem BRow.far (h : BRow w g t tk) {p : Addr} (hp : g ≠ p.block) (u : Value) : BRow (w.setCell p u) g t tk := by obtain ⟨cur, h, hc⟩ := h; exact ⟨cur, h.far hp u, hc⟩
theorem BRow.alloc (h : BRow w g t tk) (o : Obj) : BRow (w.alloc o) g t tk := by obtain ⟨cur, h, hc⟩ := h; exact ⟨cur, h.alloc o, hc⟩
theorem BRow.below (h : BRow w g t tk) (hb : Below w.heap.size w w') : BRow w' g t tk := by obtain ⟨cur, h, hc⟩ := h; exact ⟨cur, h.below hb, hc⟩
theorem BRow.grown {row : Option Nat} (h : BRow w g t tk) (hb : w.grownBy w' row) (hg : some g ≠ row) : BRow w' g t tk := by obtain ⟨cur, h, hc⟩ := h; exact ⟨cur, h.grown hb hg, hc⟩
theorem brow_new (w : World) (n : Nat) (t : TypeId) : BRow (w.alloc (.cells (Array.replicate n (.bool false)) t)) w.heap.size t (List.replicate n false) :=
  ⟨_, Whole.made w t _, fun i hi => by
    have hi' : i < n := by simpa using hi
    simp [hi']⟩
end
theorem run_mkB {P : Program} (w : World) (t e : TypeId) (n : Nat) (hn : n ≤ 1048577) (ht : P.underlying t = some (.slice e)) (hi : (P.info? e).map (fun i => (i.zero, i.size, i.bytes)) = some (some (.bool false), 1, 1)) :
    (Instr.makeSlice t (.int .i64 (n : Int)) (.int .i64 (n : Int))).run P w = .ok (.slice (some ⟨w.heap.size, 0, none⟩) n n) (w.alloc (.cells (Array.replicate n (.bool false)) e)) :=
  run_mk w t e (.bool false) 1 n ht hi rfl (by omega) hn
theorem run_mk0 {P : Program} (w : World) (t e : TypeId) (n : Nat) (hn : n ≤ 1048577) (ht : P.underlying t = some (.slice e)) (hi : (P.info? e).map (fun i => (i.zero, i.size, i.bytes)) = some (some (.int .i64 0), 1, 8)) :
    (Instr.makeSlice t (.int .i64 0) (.int .i64 (n : Int))).run P w = .ok (.slice (some ⟨w.heap.size, 0, none⟩) 0 n) (w.alloc (.cells (Array.replicate n (.int .i64 0)) e)) := by
  obtain ⟨i, hi, h1, h2, h3⟩ := info_parts hi
  have hb' : (i.bytes : Int) * (n : Int) ≤ 281474976710656 := by rw [h3]; omega
  rw [run_make w t e i (.int .i64 0) ht hi h1 .i64 .i64 0 n (Int.le_refl _) (by omega) hb' (by omega)]
  have : madeCells (Value.int .i64 0).cells ((n : Int).toNat * i.size) = Array.replicate n (.int .i64 0) := by
    rw [show (Value.int .i64 0).cells = #[.int .i64 0] from rfl, h2, Int.toNat_natCast, Nat.mul_one]
    unfold madeCells
    apply Array.ext
    · simp
    · intro j h1 h2
      simp [Nat.mod_one]
  rw [this]; simp
end Go.Proofs.Yticmnkgcolgpaaa
