/- Rows: IsRow, both sides. -/
import Derived.Test.YtgeomaeccalceaaMx
namespace Go.Proofs.Ytgeomaeccalceaa
open Go Go.RowKit Fl Vag
set_option linter.unusedVariables false

/-- A row: 1 to 12 finite numbers of at least 0. -/
def isRow (xs : List Nat) : Prop := (1 ≤ xs.length ∧ xs.length ≤ 12) ∧ leasts xs
open Classical in
noncomputable def rowB (xs : List Nat) : Bool := decide (isRow xs)
theorem rowB_yes {xs : List Nat} (h : isRow xs) : rowB xs = true := by unfold rowB; simpa using h
theorem rowB_no {xs : List Nat} (h : ¬isRow xs) : rowB xs = false := by unfold rowB; simpa using h
theorem rowB_of {xs : List Nat} {b : Bool} (h : b = true ↔ isRow xs) : b = rowB xs := by
  cases b with
  | true => rw [rowB_yes (h.1 rfl)]
  | false => rw [rowB_no (fun k => by have := h.2 k; cases this)]
theorem least_fins {xs : List Nat} (h : leasts xs) : fins xs := fun i hi => by
  have := h i hi
  unfold leastB at this
  simp only [Bool.and_eq_true] at this
  exact this.1
set_option maxRecDepth 100000 in
set_option maxHeartbeats 1000000 in
theorem implIsRow_bo (xs : List Nat) (n : Nat) (hn : xs.length = n) (ao : Option Addr) (c : Nat) (w : World) (hx : Holds w ao (fl .f32 xs)) (hlen : n ≤ 1048576) :
    Calls Try.prog 124 #[.slice ao n c] w (BoD (isRow xs) w) := by
  subst hn
  have HX := Lib.hid hx
  clear hx
  go_enter Try.func124, Try.ntmps124
  go_wp2
  go_loopw [7] (fun i wr => ∃ k : Nat, k ≤ xs.length ∧ i = .int .i64 k ∧ (∀ i, i < k → ltB (xs[i]?.getD 0) 0 = false) ∧ wr = w) (fun i _ => xs.length - (intOf i).toNat)
  case atStart => exact ⟨0, Nat.zero_le _, rfl, fun i hi => absurd hi (Nat.not_lt_zero _), rfl⟩
  case round =>
    obtain ⟨k, hk, rfl, hall, rfl⟩ := hrel
    have HA := Lib.hid hall
    clear hall
    by_cases hlt : k < xs.length
    · obtain ⟨b, o, rfl, hc⟩ := HX.out k (by simpa [fl] using hlt)
      rw [fl_get _ _ _ hlt] at hc
      obtain ⟨x, hx⟩ : ∃ x, x = xs[k]?.getD 0 := ⟨_, rfl⟩
      rw [← hx] at hc
      have HE := Lib.hid hx
      clear hx
      cases hb : ltB x 0 with
      | true =>
        have HB := Lib.hid hb
        have hb' := lt_factB hb
        clear hb
        go_wp2
        go_ret
        refine BoD.mk false 0 (falseIs fun h => ?_)
        have := h.2 k hlt
        rw [← HE.out, lt_least HB.out] at this
        cases this
      | false =>
        have HB := Lib.hid hb
        have hb' := lt_factB hb
        clear hb
        go_wp2
        go_roundw
        case rel =>
          refine ⟨k + 1, by omega, by go_num, fun i hi => ?_, trivial⟩
          by_cases e : i = k
          · subst e; rw [← HE.out]; exact HB.out
          · exact HA.out i (by omega)
        case measure => simp [intOf]; omega
    · obtain rfl : k = xs.length := by omega
      by_cases h1 : 1 ≤ xs.length
      · have h1' : (1 : Int) ≤ xs.length := by omega
        by_cases h2 : xs.length ≤ 12
        · have h2' : (xs.length : Int) ≤ 12 := by omega
          clear h1
          go_wp2_with (first | (go_at_call 142; fail))
          refine (areFinite_any xs _ rfl _ _ _ HX.out (by omega)).mono ?_
          rintro e w' ⟨b, n, rfl, hb, rfl⟩
          have HB := Lib.hid hb
          clear hb
          go_wp2
          go_ret
          refine BoD.mk _ _ (HB.out.trans ⟨fun h => ⟨⟨by omega, h2⟩, fun i hi => ?_⟩, fun h => least_fins h.2⟩)
          unfold leastB
          rw [h i hi, lt_ge (h i hi), HA.out i hi]; rfl
        · have h2' : (12 : Int) < xs.length := by omega
          clear h1 h2
          go_wp2_with (first | (go_at_call 142; fail))
          go_ret
          exact BoD.mk _ 0 (falseIs fun h => by have := h.1.2; omega)
      · have h1' : (xs.length : Int) < 1 := by omega
        clear h1
        go_wp2_with (first | (go_at_call 142; fail))
        go_ret
        exact BoD.mk _ 0 (falseIs fun h => by have := h.1.1; omega)
theorem implIsRow_any (xs : List Nat) (n : Nat) (hn : xs.length = n) (ao : Option Addr) (c : Nat) (w : World) (hx : Holds w ao (fl .f32 xs)) (hlen : n ≤ 1048576) :
    Calls Try.prog 124 #[.slice ao n c] w (RetB (.bool (rowB xs)) w) :=
  (implIsRow_bo xs n hn ao c w hx hlen).mono fun e w1 ⟨b, k, he, hb, hw⟩ => ⟨by rw [he, rowB_of hb], by rw [hw]; exact Bel_drewN (Below.refl _ _) _⟩
set_option maxRecDepth 100000 in
set_option maxHeartbeats 1000000 in
theorem l07Row_any (xs : List Nat) (n : Nat) (hn : xs.length = n) (ao : Option Addr) (c : Nat) (w : World) (hx : Holds w ao (fl .f32 xs)) (hlen : n ≤ 1048576) :
    Calls Try.prog 123 #[.slice ao n c] w (BoD (isRow xs) w) := by
  subst hn
  have HX := Lib.hid hx
  clear hx
  go_enter Try.func123, Try.ntmps123
  go_wp2
  go_loopw [6] (fun i wr => ∃ k : Nat, k ≤ xs.length ∧ i = .int .i64 k ∧ (∀ i, i < k → leastB (xs[i]?.getD 0) = true) ∧ ∃ n, wr = w.drewN n) (fun i _ => xs.length - (intOf i).toNat)
  case atStart => exact ⟨0, Nat.zero_le _, rfl, fun i hi => absurd hi (Nat.not_lt_zero _), 0, rfl⟩
  case round =>
    obtain ⟨k, hk, rfl, hall, n, rfl⟩ := hrel
    have HA := Lib.hid hall
    clear hall
    by_cases hlt : k < xs.length
    · obtain ⟨b, o, rfl, hc⟩ := HX.out k (by simpa [fl] using hlt)
      rw [fl_get _ _ _ hlt] at hc
      obtain ⟨x, hx⟩ : ∃ x, x = xs[k]?.getD 0 := ⟨_, rfl⟩
      rw [← hx] at hc
      have HE := Lib.hid hx
      clear hx
      cases hb : leastB x with
      | true =>
        have HB := Lib.hid hb
        clear hb
        go_wp2_with (first | (go_at_call 87; fail))
        refine (l02Least_is _ _ HB.out _).mono ?_
        rintro e w' ⟨n2, rfl, rfl⟩
        go_wp2
        go_roundw
        case rel =>
          refine ⟨k + 1, by omega, by go_num, fun i hi => ?_, _, rfl⟩
          by_cases e : i = k
          · subst e; rw [← HE.out]; exact HB.out
          · exact HA.out i (by omega)
        case measure => simp [intOf]; omega
      | false =>
        have HB := Lib.hid hb
        clear hb
        go_wp2_with (first | (go_at_call 87; fail))
        refine (l02Least_is _ _ HB.out _).mono ?_
        rintro e w' ⟨n2, rfl, rfl⟩
        go_wp2
        go_ret
        refine BoD.mk _ _ (falseIs fun h => ?_)
        have := h.2 k hlt
        rw [← HE.out, HB.out] at this
        cases this
    · obtain rfl : k = xs.length := by omega
      by_cases h1 : 1 ≤ xs.length
      · have h1' : (1 : Int) ≤ xs.length := by omega
        by_cases h2 : xs.length ≤ 12
        · have h2' : (xs.length : Int) ≤ 12 := by omega
          clear h1
          go_wp2
          go_ret
          exact BoD.mk _ _ ⟨fun _ => ⟨⟨by omega, h2⟩, HA.out⟩, fun _ => rfl⟩
        · have h2' : (12 : Int) < xs.length := by omega
          clear h1 h2
          go_wp2
          go_ret
          exact BoD.mk _ _ ⟨fun h => by simp at h; omega, fun h => by have := h.1.2; omega⟩
      · have h1' : (xs.length : Int) < 1 := by omega
        clear h1
        go_wp2
        go_ret
        exact BoD.mk _ _ (falseIs fun h => by have := h.1.1; omega)
end Go.Proofs.Ytgeomaeccalceaa
