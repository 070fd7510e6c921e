/- Orders: lists in which each number from 0 on is once; both sides' test of them. -/
import Derived.Test.YticmnkgcolgpaaaBr
import Derived.Test.YticmnkgcolgpaaaIn0
namespace Go.Proofs.Yticmnkgcolgpaaa
open Go Go.RowKit
set_option linter.unusedVariables false

/-- The first k numbers lie in the range, and are different. -/
def ordTo (xs : List Int) (k : Nat) : Prop := ∀ i : Nat, i < k → (0 ≤ xs[i]?.getD 0 ∧ xs[i]?.getD 0 < xs.length) ∧ ∀ j : Nat, j < i → xs[j]?.getD 0 ≠ xs[i]?.getD 0
def isOrd (xs : List Int) : Prop := (1 ≤ xs.length ∧ xs.length ≤ 64) ∧ ordTo xs xs.length
open Classical in
noncomputable def ordB (xs : List Int) : Bool := decide (isOrd xs)
theorem ordB_yes {xs : List Int} (h : isOrd xs) : ordB xs = true := by unfold ordB; simpa using h
theorem ordB_no {xs : List Int} (h : ¬isOrd xs) : ordB xs = false := by unfold ordB; simpa using h
theorem ordTo_next {xs : List Int} {k x : Nat} (h : ordTo xs k) (e : xs[k]?.getD 0 = (x : Int)) (hx : x < xs.length) (hn : ∀ j : Nat, j < k → xs[j]?.getD 0 ≠ (x : Int)) : ordTo xs (k + 1) := fun i hi => by
  by_cases ei : i = k
  · subst ei; rw [e]; exact ⟨⟨by omega, by omega⟩, hn⟩
  · exact h i (by omega)
theorem ord_bad {xs : List Int} {k : Nat} (hk : k < xs.length) (h : ¬(0 ≤ xs[k]?.getD 0 ∧ xs[k]?.getD 0 < xs.length)) : ordB xs = false := ordB_no (fun ho => h (ho.2 k hk).1)
theorem ord_twice {xs : List Int} {k j : Nat} (hk : k < xs.length) (hj : j < k) (h : xs[j]?.getD 0 = xs[k]?.getD 0) : ordB xs = false := ordB_no (fun ho => (ho.2 k hk).2 j hj h)
/-- What has been seen behind k numbers. -/
def seenTo (n : Nat) (xs : List Int) : Nat → List Bool
  | 0 => List.replicate n false
  | k + 1 => (seenTo n xs k).set (xs[k]?.getD 0).toNat true
theorem seenTo_len (n : Nat) (xs : List Int) (k : Nat) : (seenTo n xs k).length = n := by
  induction k with
  | zero => simp [seenTo]
  | succ k ih => simp [seenTo, ih]
theorem seenTo_get {n : Nat} {xs : List Int} {k : Nat} (h : ordTo xs k) (hn : xs.length ≤ n) (x : Nat) (hx : x < n) : ((seenTo n xs k)[x]?.getD false = true) ↔ ∃ j : Nat, j < k ∧ xs[j]?.getD 0 = (x : Int) := by
  induction k with
  | zero => simp [seenTo, hx]
  | succ k ih =>
    have h' : ordTo xs k := fun i hi => h i (by omega)
    have hk := (h k (by omega)).1
    have ih := ih h'
    obtain ⟨y, hy⟩ : ∃ y : Nat, xs[k]?.getD 0 = (y : Int) := ⟨_, (Int.toNat_of_nonneg hk.1).symm⟩
    have hyt : (xs[k]?.getD 0).toNat = y := by omega
    show ((seenTo n xs k).set (xs[k]?.getD 0).toNat true)[x]?.getD false = true ↔ _
    rw [hyt, List.getElem?_set]
    by_cases e : y = x
    · subst e
      rw [if_pos rfl, if_pos (by rw [seenTo_len]; exact hx)]
      simp only [Option.getD_some, true_iff]
      exact ⟨k, by omega, hy⟩
    · rw [if_neg e, ih]
      constructor
      · rintro ⟨j, h1, h2⟩; exact ⟨j, by omega, h2⟩
      · rintro ⟨j, h1, h2⟩
        rcases Nat.lt_or_ge j k with h3 | h3
        · exact ⟨j, h3, h2⟩
        · have : j = k := by omega
          subst this
          exact absurd (by rw [hy] at h2; omega) e
theorem isOrderSize_any (n : Int) (w : World) : Calls Try.prog 70 #[.int .i64 n] w (fun e w' => e = .returned (.bool (decide (1 ≤ n ∧ n ≤ 64))) ∧ w = w') := by
  by_cases h0 : 1 ≤ n
  · have e : decide (1 ≤ n ∧ n ≤ 64) = decide (n ≤ 64) := by rw [Bool.eq_iff_iff]; simp; omega
    have E := Lib.hid e
    clear e
    go_enter Try.func70, Try.ntmps70
    go_wp2
    go_ret
    exact ⟨by first | rfl | (rw [E.out]; rfl), rfl⟩
  · have h1 : decide (1 ≤ n) = false := by simpa using h0
    have e : decide (1 ≤ n ∧ n ≤ 64) = false := by simp; omega
    have E := Lib.hid e
    clear e
    go_enter Try.func70, Try.ntmps70
    go_wp2
    go_ret
    exact ⟨by first | rfl | (rw [E.out]; rfl), rfl⟩
theorem isBelow_any (k n : Int) (w : World) : Calls Try.prog 89 #[.int .i64 k, .int .i64 n] w (fun e w' => e = .returned (.bool (decide (0 ≤ k ∧ k < n))) ∧ w = w') := by
  by_cases h0 : 0 ≤ k
  · have e : decide (0 ≤ k ∧ k < n) = decide (k < n) := by rw [Bool.eq_iff_iff]; simp; omega
    have E := Lib.hid e
    clear e
    go_enter Try.func89, Try.ntmps89
    go_wp2
    go_ret
    exact ⟨by first | rfl | (rw [E.out]; rfl), rfl⟩
  · have h1 : decide (0 ≤ k) = false := by simpa using h0
    have e : decide (0 ≤ k ∧ k < n) = false := by simp; omega
    have E := Lib.hid e
    clear e
    go_enter Try.func89, Try.ntmps89
    go_wp2
    go_ret
    exact ⟨by first | rfl | (rw [E.out]; rfl), rfl⟩
theorem l04Count_any (n : Int) (w : World) : Calls Try.prog 68 #[.int .i64 n] w (fun e w' => e = .returned (.bool (decide (1 ≤ n ∧ n ≤ 64))) ∧ w = w') := by
  go_enter Try.func68, Try.ntmps68
  go_wp2_with fail
  refine (l00In_any _ _ _ _).mono ?_
  rintro e w1 ⟨rfl, rfl⟩
  go_wp2
  go_ret
  exact ⟨by simp, rfl⟩
end Go.Proofs.Yticmnkgcolgpaaa
