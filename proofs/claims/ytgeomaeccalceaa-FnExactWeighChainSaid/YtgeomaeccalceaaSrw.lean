/- A row behind a step, both sides. -/
import Derived.Test.YtgeomaeccalceaaChv
import Derived.Test.YtgeomaeccalceaaIsr
import Derived.Test.YtgeomaeccalceaaTl
import Derived.Deep.QuietTactic
namespace Go.Proofs.Ytgeomaeccalceaa
open Go Go.RowKit Fl Vag
set_option linter.unusedVariables false

/-- The sum of the first j products for the column k. -/
def accV (n : Nat) (ss : List Nat) (vs : Nat → Option Nat) (k : Nat) : Nat → Option Nat
  | 0 => some 0
  | j + 1 => aop .add .f32 (accV n ss vs k j) (aop .mul .f32 (vs j) (av .f32 (ss[j * n + k]?.getD 0)))
theorem accV_same {n : Nat} {ss : List Nat} {vs us : Nat → Option Nat} {k : Nat} : ∀ {j : Nat}, (∀ i, i < j → vs i = us i) → accV n ss vs k j = accV n ss us k j
  | 0, _ => rfl
  | j + 1, h => by
    show aop _ _ _ _ = aop _ _ _ _
    rw [accV_same (j := j) (fun i hi => h i (by omega)), h j (by omega)]
/-- A list in memory of its own, whose numbers are known but for not-a-numbers' bits. -/
def RetFz (n : Nat) (f : Nat → Option Nat) (w : World) (e : Ending) (w' : World) : Prop :=
  ∃ ds ao c, e = .returned (.slice ao n c) ∧ ds.length = n ∧ (∀ i, i < n → av .f32 (ds[i]?.getD 0) = f i) ∧ Row w' w.heap.size w'.heap.size ao (fl .f32 ds) ∧ Below w.heap.size w w'
theorem fl_put {w : World} {g : Nat} {t : TypeId} {cs : List Nat} (h : Whole w g t (fl .f32 cs).toArray) (j : Nat) (v : Nat) : Whole (w.setCell ⟨g, j, none⟩ (.float .f32 v)) g t (fl .f32 (cs.set j v)).toArray := by
  have := h.put j (.float .f32 v)
  rwa [show (fl .f32 cs).toArray.setIfInBounds j (.float .f32 v) = (fl .f32 (cs.set j v)).toArray by simp [fl, List.map_set]] at this
theorem fl_cell {w : World} {g : Nat} {t : TypeId} {cs : List Nat} (h : Whole w g t (fl .f32 cs).toArray) (j : Nat) (hj : j < cs.length) : w.cell? ⟨g, j, none⟩ = some (.float .f32 (cs[j]?.getD 0)) := by
  rw [h.cell]; simp [fl, hj]
theorem fl_row {w : World} {g lo hi : Nat} {t : TypeId} {cs : List Nat} (h : Whole w g t (fl .f32 cs).toArray) (h1 : lo ≤ g) (h2 : g < hi) : Row w lo hi (some ⟨g, 0, none⟩) (fl .f32 cs) :=
  .inr ⟨g, _, t, rfl, h1, h2, h, fun i hi => by simp [List.getD, hi]⟩
/-- What a row being made holds: the first k sums whole, the one at k with i products, +0 behind. -/
structure Made (n : Nat) (f : Nat → Nat → Option Nat) (k i : Nat) (ds : List Nat) : Prop where
  len : ds.length = n
  front : ∀ j, j < k → av .f32 (ds[j]?.getD 0) = f j n
  here : k < n → av .f32 (ds[k]?.getD 0) = f k i
  back : ∀ j, k < j → j < n → ds[j]?.getD 0 = 0
theorem Made.start (n : Nat) (f : Nat → Nat → Option Nat) (h : ∀ k, f k 0 = some 0) : Made n f 0 0 (List.replicate n 0) := by
  have hz : ∀ j : Nat, (List.replicate n 0)[j]?.getD 0 = 0 := fun j => by rw [List.getElem?_replicate]; split <;> rfl
  exact ⟨by simp, fun j hj => absurd hj (Nat.not_lt_zero _), fun _ => by rw [hz, h]; exact av_zero .f32, fun j _ _ => hz j⟩
theorem Made.step {n : Nat} {f : Nat → Nat → Option Nat} {k i : Nat} {ds : List Nat} (h : Made n f k i ds) (hk : k < n) (r : Nat) (hr : av .f32 r = f k (i + 1)) : Made n f k (i + 1) (ds.set k r) := by
  have hl := h.len
  refine ⟨by rw [List.length_set, hl], fun j hj => ?_, fun _ => ?_, fun j h1 h2 => ?_⟩
  · rw [List.getElem?_set_ne (by omega)]; exact h.front j hj
  · rw [List.getElem?_set_self (by omega)]; exact hr
  · rw [List.getElem?_set_ne (by omega)]; exact h.back j h1 h2
theorem Made.next {n : Nat} {f : Nat → Nat → Option Nat} {k : Nat} {ds : List Nat} (h : Made n f k n ds) (hk : k < n) (h0 : ∀ k, f k 0 = some 0) : Made n f (k + 1) 0 ds :=
  ⟨h.len, fun j hj => by
    by_cases e : j = k
    · subst e; exact h.here hk
    · exact h.front j (by omega), fun hn => by rw [h.back (k + 1) (by omega) hn, h0]; exact av_zero .f32, fun j h1 h2 => h.back j (by omega) h2⟩
set_option maxRecDepth 100000 in
theorem step_any (ss : List Nat) (n i k b o m c : Nat) (w : World) (hx : Holds w (some ⟨b, o, none⟩) (fl .f32 ss)) (hi : i < n) (hk : k < n) (hn : n ≤ 12) (hm : m = n * n) (hl : ss.length = m) :
    Calls Try.prog 86 #[.agg #[.int .i64 n, .slice (some ⟨b, o, none⟩) m c], .int .i64 i, .int .i64 k] w (fun e w' => e = .returned (.float .f32 (ss[i * n + k]?.getD 0)) ∧ w' = w.alloc (.cells #[.int .i64 n, .slice (some ⟨b, o, none⟩) m c] 34)) := by
  have h1 := row_in hi
  have h2 := sq_le hn
  obtain ⟨q, hq⟩ : ∃ q, i * n = q := ⟨_, rfl⟩
  obtain ⟨f, hf⟩ : ∃ f, q + k = f := ⟨_, rfl⟩
  have hfm : f < m := by omega
  obtain ⟨b', o', e', hc⟩ := hx f (by rw [fl_len32, hl]; exact hfm)
  cases e'
  rw [fl_get _ _ _ (by rw [hl]; exact hfm)] at hc
  have hc2 := cell_old w (.cells #[.int .i64 n, .slice (some ⟨b, o, none⟩) m c] 34) hc
  rw [hq, hf]
  obtain ⟨x, hx2⟩ : ∃ x, ss[f]?.getD 0 = x := ⟨_, rfl⟩
  rw [hx2] at hc2 ⊢
  have e1 : (i : Int) * (n : Int) = (q : Int) := by rw [← hq]; simp
  have e2 : (q : Int) + (k : Int) = (f : Int) := by omega
  have b1 : (q : Int) ≤ 144 := by omega
  have b2 : (f : Int) ≤ 144 := by omega
  have b3 : (f : Int) < m := by omega
  have b4 : (i : Int) ≤ 12 := by omega
  have b5 : (n : Int) ≤ 12 := by omega
  have b6 : (k : Int) ≤ 12 := by omega
  clear hq hf hi hk hn hm h1 h2 hc hx hl hx2 hfm
  go_enter Try.func86, Try.ntmps86
  go_wp2
  go_ret
  exact ⟨rfl, rfl⟩
end Go.Proofs.Ytgeomaeccalceaa
