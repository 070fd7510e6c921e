/- How many values are at most x. -/
import Derived.Test.YtlnhobikejbkkaaShr
namespace Go.Proofs.Ytlnhobikejbkkaa
open Go Go.RowKit Fl Vag
set_option linter.unusedVariables false

/-- The key of a value of a list. -/
def vK (vs : List Nat) (i : Nat) : Int := fK (vs[i]?.getD 0)
theorem fin_at {vs : List Nat} (h : fins vs) {i : Nat} (hi : i < vs.length) : av .f32 (vs[i]?.getD 0) = some (vs[i]?.getD 0) := fin_self (h i hi)
theorem vK_next {vs : List Nat} (hf : fins vs) (hu : ups vs) (i : Nat) (h : i + 1 < vs.length) : vK vs i < vK vs (i + 1) := by
  have h1 := hu i h
  rw [leB_K (fin_at hf h) (fin_at hf (by omega))] at h1
  have := of_decide_eq_false h1
  unfold vK; omega
theorem vK_lt {vs : List Nat} (hf : fins vs) (hu : ups vs) (i : Nat) : ∀ j, i < j → j < vs.length → vK vs i < vK vs j
  | 0, h, _ => absurd h (Nat.not_lt_zero _)
  | j + 1, h, hl => by
    have h1 := vK_next hf hu j hl
    by_cases e : i = j
    · subst e; exact h1
    · exact Int.lt_trans (vK_lt hf hu i j (by omega) (by omega)) h1
theorem vK_le {vs : List Nat} (hf : fins vs) (hu : ups vs) {i j : Nat} (h : i ≤ j) (hl : j < vs.length) : vK vs i ≤ vK vs j := by
  by_cases e : i = j
  · subst e; exact Int.le_refl _
  · exact Int.le_of_lt (vK_lt hf hu i j (by omega) hl)
/-- Where a number belongs. -/
def Place (vs : List Nat) (x i : Nat) : Prop := i ≤ vs.length ∧ (∀ j, j < i → vK vs j < fK x) ∧ ∀ j, i ≤ j → j < vs.length → fK x ≤ vK vs j
/-- How many are at most x. -/
def Upto (vs : List Nat) (x c : Nat) : Prop := c ≤ vs.length ∧ (∀ j, j < c → leB (vs[j]?.getD 0) x = true) ∧ ∀ j, c ≤ j → j < vs.length → leB (vs[j]?.getD 0) x = false
theorem Upto.same {vs : List Nat} {x c d : Nat} (h : Upto vs x c) (k : Upto vs x d) : c = d := by
  rcases Nat.lt_trichotomy c d with e | e | e
  · have h1 := h.2.2 c (Nat.le_refl _) (by have := k.1; omega)
    rw [k.2.1 c e] at h1; cases h1
  · exact e
  · have h1 := k.2.2 d (Nat.le_refl _) (by have := h.1; omega)
    rw [h.2.1 d e] at h1; cases h1
theorem Place.found {vs : List Nat} {x i : Nat} (hf : fins vs) (hu : ups vs) (hx : av .f32 x = some x) (h : Place vs x i) (hi : i < vs.length) (he : fK x = vK vs i) : Upto vs x (i + 1) := by
  refine ⟨hi, fun j hj => ?_, fun j hj hl => ?_⟩
  · rw [leB_K (fin_at hf (by omega)) hx]
    have := vK_le hf hu (i := j) (j := i) (by omega) hi
    exact decide_eq_true (by unfold vK at *; omega)
  · rw [leB_K (fin_at hf hl) hx]
    have := vK_lt hf hu i j (by omega) hl
    exact decide_eq_false (by unfold vK at *; omega)
theorem Place.not {vs : List Nat} {x i : Nat} (hf : fins vs) (hu : ups vs) (hx : av .f32 x = some x) (h : Place vs x i) (he : i < vs.length → fK x ≠ vK vs i) : Upto vs x i := by
  refine ⟨h.1, fun j hj => ?_, fun j hj hl => ?_⟩
  · rw [leB_K (fin_at hf (by have := h.1; omega)) hx]
    have := h.2.1 j hj
    exact decide_eq_true (by unfold vK at *; omega)
  · rw [leB_K (fin_at hf hl) hx]
    have h1 := h.2.2 i (Nat.le_refl _) (by omega)
    have h2 := he (by omega)
    have := vK_le hf hu (i := i) (j := j) hj hl
    exact decide_eq_false (by unfold vK at *; omega)
theorem neq_fin {x : Nat} (h : av .f32 x = some x) : (FloatKind.f32.format.order x x != some Ordering.eq) = false := neq_self_num .f32 x _ h
theorem cmpNaN_fin (x : Nat) (h : av .f32 x = some x) (w : World) : Calls Try.prog 116 #[.float .f32 x] w (fun e w' => e = .returned (.bool false) ∧ w = w') := by
  have hn := neq_fin h
  go_enter Try.func116, Try.ntmps116
  go_wp2
  go_ret
  exact ⟨rfl, rfl⟩
theorem cmpLess_fin (x y : Nat) (h : av .f32 x = some x) (w : World) : Calls Try.prog 103 #[.float .f32 x, .float .f32 y] w (fun e w' => e = .returned (.bool (ltB x y)) ∧ w = w') := by
  go_enter Try.func103, Try.ntmps103
  go_wp2_with (first | (go_at_call 116; refine (cmpNaN_fin x h _).mono ?_; rintro e w' ⟨rfl, rfl⟩))
  go_ret
  exact ⟨rfl, rfl⟩
theorem eq_K {x y : Nat} (hx : av .f32 x = some x) (hy : av .f32 y = some y) : (FloatKind.f32.format.order x y == some Ordering.eq) = decide (fK x = fK y) := by rw [order_K hx hy, cmp_eq]
theorem Holds.take {w : World} {ao : Option Addr} {xs : List Nat} (h : Holds w ao (fl .f32 xs)) (k : Nat) : Holds w ao (fl .f32 (xs.take k)) := fun i hi => by
  have hi' : i < xs.length ∧ i < k := by simp [fl] at hi; omega
  obtain ⟨b, o, e, hc⟩ := h i (by simpa [fl] using hi'.1)
  refine ⟨b, o, e, ?_⟩
  rw [hc, fl_get _ _ _ hi'.1, fl_get _ _ _ (by simp; omega)]
  simp [hi'.2]
theorem implSum_len (xs : List Nat) (n : Nat) (hn : xs.length = n) (ao : Option Addr) (c : Nat) (w : World) (hx : Holds w ao (fl .f32 xs)) (hlen : n ≤ 256) :
    Calls Try.prog 121 #[.slice ao n c] w (Two .f32 (sumA .f32 xs) w) := by
  subst hn; exact implSum_in xs ao c w hx hlen
end Go.Proofs.Ytlnhobikejbkkaa
