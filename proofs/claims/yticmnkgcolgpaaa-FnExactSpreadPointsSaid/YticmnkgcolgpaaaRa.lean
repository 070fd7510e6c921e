/- Rows of int64 that are known cell by cell; chains of steps that may fail; a seed and a list among results. -/
import Derived.Test.YticmnkgcolgpaaaTl
import Derived.Test.YticmnkgcolgpaaaSv
namespace Go.Proofs.Yticmnkgcolgpaaa
open Go Go.RowKit
set_option linter.unusedVariables false

/-- At the head of the block g the values of cs lie, and its cells can be written. -/
def RowAt (w : World) (g : Nat) (t : TypeId) (cs : List Int) : Prop := ∃ cur : Array Value, Whole w g t cur ∧ ∀ i, i < cs.length → cur[i]? = some (.int .i64 (cs[i]?.getD 0))
section
variable {w w' : World} {g : Nat} {t : TypeId} {cs : List Int}
theorem RowAt.lt (h : RowAt w g t cs) : g < w.heap.size := by obtain ⟨cur, h, _⟩ := h; exact h.lt
theorem RowAt.cell (h : RowAt w g t cs) (i : Nat) (hi : i < cs.length) : w.cell? ⟨g, i, none⟩ = some (.int .i64 (cs[i]?.getD 0)) := by
  obtain ⟨cur, h, hc⟩ := h; rw [h.cell]; exact hc i hi
theorem RowAt.frozen (h : RowAt w g t cs) (i : Nat) : w.frozen? ⟨g, i, none⟩ = false := by obtain ⟨cur, h, hc⟩ := h; exact h.frozen i
theorem RowAt.put (h : RowAt w g t cs) (i : Nat) (v : Int) : RowAt (w.setCell ⟨g, i, none⟩ (.int .i64 v)) g t (cs.set i v) := by
  obtain ⟨cur, h, hc⟩ := h
  refine ⟨_, h.put i _, fun x hx => ?_⟩
  have hx' : x < cs.length := by simpa using hx
  have hsz : x < cur.size := (Array.getElem?_eq_some_iff.1 (hc x hx')).1
  by_cases e : i = x
  · subst e
    rw [Array.getElem?_setIfInBounds_self_of_lt hsz, List.getElem?_set_self hx']; rfl
  · rw [Array.getElem?_setIfInBounds_ne e, List.getElem?_set_ne e]; exact hc x hx'
theorem RowAt.far (h : RowAt w g t cs) {p : Addr} (hp : g ≠ p.block) (u : Value) : RowAt (w.setCell p u) g t cs := by obtain ⟨cur, h, hc⟩ := h; exact ⟨cur, h.far hp u, hc⟩
theorem RowAt.alloc (h : RowAt w g t cs) (o : Obj) : RowAt (w.alloc o) g t cs := by obtain ⟨cur, h, hc⟩ := h; exact ⟨cur, h.alloc o, hc⟩
theorem RowAt.drew (h : RowAt w g t cs) : RowAt w.drew g t cs := h
theorem RowAt.drewN (h : RowAt w g t cs) (n : Nat) : RowAt (w.drewN n) g t cs := h
theorem RowAt.below (h : RowAt w g t cs) (hb : Below w.heap.size w w') : RowAt w' g t cs := by obtain ⟨cur, h, hc⟩ := h; exact ⟨cur, h.below hb, hc⟩
theorem RowAt.grown {row : Option Nat} (h : RowAt w g t cs) (hb : w.grownBy w' row) (hg : some g ≠ row) : RowAt w' g t cs := by obtain ⟨cur, h, hc⟩ := h; exact ⟨cur, h.grown hb hg, hc⟩
theorem RowAt.row {lo hi : Nat} (h : RowAt w g t cs) (h1 : lo ≤ g) (h2 : g < hi) : Row w lo hi (some ⟨g, 0, none⟩) (il cs) := by
  obtain ⟨cur, h, hc⟩ := h
  refine .inr ⟨g, cur, t, rfl, h1, h2, h, fun i hi => ?_⟩
  have hi' : i < cs.length := by simpa [il] using hi
  rw [hc i hi', il_get _ _ hi']
theorem RowAt.take (h : RowAt w g t cs) (n : Nat) : RowAt w g t (cs.take n) := by
  obtain ⟨cur, h, hc⟩ := h
  refine ⟨cur, h, fun i hi => ?_⟩
  have hi' : i < n ∧ i < cs.length := by simp at hi; omega
  rw [hc i hi'.2, List.getElem?_take_of_lt hi'.1]
theorem Whole.rowAt (h : Whole w g t (il cs).toArray) : RowAt w g t cs := ⟨_, h, fun i hi => by simp [il, hi]⟩
theorem RowAt.of_own {base : Nat} {v : Value} {n : Nat} (h : w.ownsRow base t 1 v n (il cs)) (hn : 0 < n) : ∃ g cap, v = .slice (some ⟨g, 0, none⟩) n cap ∧ base ≤ g ∧ RowAt w g t cs := by
  obtain ⟨hl, h⟩ := h
  rcases h with ⟨_, h0⟩ | ⟨g, cap, cur, hv, hg, hh, hn', _, hsz, ht⟩
  · omega
  · refine ⟨g, cap, hv, hg, cur, hh, fun i hi => ?_⟩
    have hil : (il cs).length = cs.length := il_len cs
    have hc : i < cur.size := by omega
    have hin : i < n * 1 := by omega
    have e : (il cs)[i]? = some cur[i] := by rw [← ht, List.getElem?_take_of_lt hin, Array.getElem?_toList, Array.getElem?_eq_getElem hc]
    rw [show cur[i]? = some cur[i] from Array.getElem?_eq_getElem hc, ← e]
    simp [il, hi]
end

/-- Steps one after another, each of which may fail. -/
def chainO {σ : Type} (step : Nat → σ → Option σ) (s : σ) : Nat → Option σ
  | 0 => some s
  | j + 1 => match chainO step s j with
    | some x => step j x
    | none => none
theorem chainO_next {σ : Type} {step : Nat → σ → Option σ} {s x : σ} {j : Nat} (h : chainO step s j = some x) : chainO step s (j + 1) = step j x := by
  show (match chainO step s j with | some x => step j x | none => none) = _
  rw [h]
theorem chainO_none {σ : Type} {step : Nat → σ → Option σ} {s : σ} {j m : Nat} (h : chainO step s j = none) (hm : j ≤ m) : chainO step s m = none := by
  obtain ⟨d, rfl⟩ := Nat.exists_eq_add_of_le hm
  clear hm
  induction d with
  | zero => exact h
  | succ d ih => show (match chainO step s (j + d) with | some x => step (j + d) x | none => none) = none; rw [ih]
theorem chainO_inv {σ : Type} {step : Nat → σ → Option σ} {s : σ} (I : Nat → σ → Prop) (h0 : I 0 s) (m : Nat) (hs : ∀ j x y, j < m → I j x → step j x = some y → I (j + 1) y) :
    ∀ j x, j ≤ m → chainO step s j = some x → I j x := by
  intro j
  induction j with
  | zero => intro x _ h; cases h; exact h0
  | succ j ih =>
    intro x hj h
    cases hc : chainO step s j with
    | none => rw [chainO_none hc (Nat.le_succ j)] at h; cases h
    | some y => rw [chainO_next hc] at h; exact hs j y x (by omega) (ih y (by omega) hc) h

/-- A seed and a list, or nothing. -/
def SeedL (k : Int) (o : Option (Nat × Nat × List Int)) (w : World) (e : Ending) (w' : World) : Prop :=
  (∀ A B cs, o = some (A, B, cs) → RetL cs.length (il cs) (fun s => .tuple #[sd k A B, s, .bool true]) w e w') ∧
  (o = none → RetB (.tuple #[sd 0 0 0, .slice none 0 0, .bool false]) w e w')
theorem SeedL_some {P : Program} {F : FuncId} {args : Array Value} {w : World} {k : Int} {o : Option (Nat × Nat × List Int)} {A B : Nat} {cs : List Int} (h : o = some (A, B, cs)) (hc : Calls P F args w (SeedL k o w)) :
    Calls P F args w (RetL cs.length (il cs) (fun s => .tuple #[sd k A B, s, .bool true]) w) := hc.mono fun e w' H => H.1 A B cs h
theorem SeedL_none {P : Program} {F : FuncId} {args : Array Value} {w : World} {k : Int} {o : Option (Nat × Nat × List Int)} (h : o = none) (hc : Calls P F args w (SeedL k o w)) :
    Calls P F args w (RetB (.tuple #[sd 0 0 0, .slice none 0 0, .bool false]) w) := hc.mono fun e w' H => H.2 h
theorem SeedL.no {k : Int} {o : Option (Nat × Nat × List Int)} {w w' : World} {e : Ending} (h : o = none) (hr : RetB (.tuple #[sd 0 0 0, .slice none 0 0, .bool false]) w e w') : SeedL k o w e w' :=
  ⟨(fun A B cs h' => by rw [h] at h'; cases h'), fun _ => hr⟩
theorem SeedL.yes {k : Int} {o : Option (Nat × Nat × List Int)} {A B : Nat} {cs : List Int} {w w' : World} {e : Ending} (h : o = some (A, B, cs)) (hr : RetL cs.length (il cs) (fun s => .tuple #[sd k A B, s, .bool true]) w e w') : SeedL k o w e w' :=
  ⟨(fun A' B' cs' h' => by rw [h] at h'; cases h'; exact hr), (fun h' => by rw [h] at h'; cases h')⟩
end Go.Proofs.Yticmnkgcolgpaaa
