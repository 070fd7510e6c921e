/- Chains that are valid: what both sides ask. -/
import Derived.Test.YtgeomaeccalceaaSs5
namespace Go.Proofs.Ytgeomaeccalceaa
open Go Go.RowKit Fl Vag
set_option linter.unusedVariables false

/-- The numbers from the state i on. -/
def rowA (n i : Nat) (ss : List Nat) : List Nat := (ss.drop (i * n)).take n
theorem rowA_len {n i : Nat} {ss : List Nat} (h : i * n + n ≤ ss.length) : (rowA n i ss).length = n := by unfold rowA; simp; omega
theorem rowA_get {n i k : Nat} {ss : List Nat} (hk : k < n) : (rowA n i ss)[k]?.getD 0 = ss[i * n + k]?.getD 0 := by
  unfold rowA; rw [List.getElem?_take_of_lt hk, List.getElem?_drop]
theorem row_in {n i : Nat} (hi : i < n) : i * n + n ≤ n * n := by
  have h : (i + 1) * n ≤ n * n := Nat.mul_le_mul_right n hi
  rwa [Nat.add_mul, Nat.one_mul] at h
theorem Holds.take {w : World} {ao : Option Addr} {xs : List Value} (h : Holds w ao xs) (k : Nat) : Holds w ao (xs.take k) := fun i hi => by
  have hi' : i < k ∧ i < xs.length := by rw [List.length_take] at hi; omega
  obtain ⟨b, o, e, hc⟩ := h i hi'.2
  exact ⟨b, o, e, by rw [hc]; simp only [List.getD, List.getElem?_take_of_lt hi'.1]⟩
theorem Holds.rowA {w : World} {b o : Nat} {ss : List Nat} (h : Holds w (some ⟨b, o, none⟩) (fl .f32 ss)) (n i : Nat) : Holds w (some ⟨b, o + i * n, none⟩) (fl .f32 (rowA n i ss)) := by
  have h1 := (h.drop (i * n)).take n
  have e : fl .f32 (Go.Proofs.Ytgeomaeccalceaa.rowA n i ss) = ((fl .f32 ss).drop (i * n)).take n := by unfold Go.Proofs.Ytgeomaeccalceaa.rowA fl; rw [List.map_take, List.map_drop]
  rw [e]; exact h1
def parts (xs : List Nat) : Prop := ∀ i, i < xs.length → partB (xs[i]?.getD 0) = true
/-- Numbers from 0 to 1 with the sum 1, nearly. -/
def okRow (xs : List Nat) : Prop := parts xs ∧ nearV (sumA .f32 xs) = true
theorem part_ge {x : Nat} (h : partB x = true) : geB x 0 = true := by unfold partB at h; simp only [Bool.and_eq_true] at h; exact h.1
theorem okRow.ones {xs : List Nat} (h : okRow xs) : ones xs := ⟨fun i hi => by unfold leastB; rw [sum_fin (near_fin h.2) i hi, part_ge (h.1 i hi)]; rfl, h.2⟩
theorem parts.ones {xs : List Nat} (h : parts xs) : ones xs ↔ okRow xs := ⟨fun k => ⟨h, k.2⟩, fun k => k.ones⟩
/-- A valid chain. -/
structure isChain (s : Int) (ss : List Nat) : Prop where
  side : 1 ≤ s ∧ s ≤ 12
  len : (ss.length : Int) = s * s
  rows : ∀ i : Nat, i < s.toNat → okRow (rowA s.toNat i ss)
open Classical in
noncomputable def chainB (s : Int) (ss : List Nat) : Bool := decide (isChain s ss)
theorem chainB_yes {s : Int} {ss : List Nat} (h : isChain s ss) : chainB s ss = true := by unfold chainB; simpa using h
theorem chainB_no {s : Int} {ss : List Nat} (h : ¬isChain s ss) : chainB s ss = false := by unfold chainB; simpa using h
theorem sq_le {n : Nat} (h : n ≤ 12) : n * n ≤ 144 := Nat.le_trans (Nat.mul_le_mul h h) (by omega)
theorem isChain.nat {s : Int} {ss : List Nat} (h : isChain s ss) : ∃ n : Nat, s = n ∧ 1 ≤ n ∧ n ≤ 12 ∧ ss.length = n * n ∧ ∀ i, i < n → okRow (rowA n i ss) := by
  obtain ⟨n, rfl⟩ : ∃ n : Nat, s = n := ⟨s.toNat, by have := h.side; omega⟩
  refine ⟨n, rfl, by have := h.side; omega, by have := h.side; omega, ?_, fun i hi => ?_⟩
  · have := h.len; rw [← Int.natCast_mul] at this; omega
  · have := h.rows i (by simpa using hi); simpa using this
theorem isChain.of {n : Nat} {ss : List Nat} (h1 : 1 ≤ n) (h2 : n ≤ 12) (hl : ss.length = n * n) (h : ∀ i, i < n → okRow (rowA n i ss)) : isChain n ss :=
  ⟨by omega, by rw [← Int.natCast_mul]; omega, fun i hi => by simpa using h i (by simpa using hi)⟩
/-- The first rows are as they must be. -/
def rowsTo (n : Nat) (ss : List Nat) (k : Nat) : Prop := ∀ i, i < k → okRow (rowA n i ss)
theorem rowsTo_zero (n : Nat) (ss : List Nat) : rowsTo n ss 0 := fun i hi => absurd hi (Nat.not_lt_zero _)
theorem rowsTo_next {n : Nat} {ss : List Nat} {k : Nat} (h : rowsTo n ss k) (hk : okRow (rowA n k ss)) : rowsTo n ss (k + 1) := fun i hi => by
  by_cases e : i = k
  · subst e; exact hk
  · exact h i (by omega)
theorem not_row {n i : Nat} {ss : List Nat} (hi : i < n) (h : ¬okRow (rowA n i ss)) : ¬isChain n ss := fun k => by
  have := k.rows i (by simpa using hi); exact h (by simpa using this)
theorem partB_le {x : Nat} (h : geB x 0 = true) : partB x = leB x 1065353216 := by unfold partB; rw [h]; rfl
set_option maxRecDepth 100000 in
theorem areWithin_any (xs : List Nat) (n : Nat) (hn : xs.length = n) (ao : Option Addr) (c : Nat) (w : World) (hx : Holds w ao (fl .f32 xs)) (hlen : n ≤ 1048576) :
    Calls Try.prog 114 #[.slice ao n c] w (BoS (parts xs) w) := by
  subst hn
  have HX := Lib.hid hx
  clear hx
  go_enter Try.func114, Try.ntmps114
  go_wp2
  go_loopw [7] (fun i wr => ∃ k : Nat, k ≤ xs.length ∧ i = .int .i64 k ∧ (∀ j, j < k → partB (xs[j]?.getD 0) = true) ∧ wr = w) (fun i _ => xs.length - (intOf i).toNat)
  case atStart => exact ⟨0, Nat.zero_le _, rfl, fun j hj => absurd hj (Nat.not_lt_zero _), rfl⟩
  case round =>
    obtain ⟨k, hk, rfl, hall, rfl⟩ := hrel
    have HA := Lib.hid hall
    clear hall
    by_cases hlt : k < xs.length
    · obtain ⟨b, o, rfl, hc⟩ := HX.out k (by simpa [fl] using hlt)
      rw [fl_get _ _ _ hlt] at hc
      obtain ⟨x, hx⟩ : ∃ x, x = xs[k]?.getD 0 := ⟨_, rfl⟩
      rw [← hx] at hc
      have HE := Lib.hid hx
      clear hx
      go_wp2_with (first | (go_at_call 139; fail))
      refine (isWithin_any _ _ _ _).mono ?_
      rintro e w' ⟨rfl, rfl⟩
      cases hf : (geB x 0 && leB x 1065353216) with
      | true =>
        have HF : Hid (partB x = true) := Lib.hid hf
        clear hf
        go_wp2
        go_roundw
        case rel =>
          refine ⟨k + 1, by omega, by go_num, fun j hj => ?_, trivial⟩
          by_cases e : j = k
          · subst e; rw [← HE.out]; exact HF.out
          · exact HA.out j (by omega)
        case measure => simp [intOf]; omega
      | false =>
        have HF : Hid (partB x = false) := Lib.hid hf
        clear hf
        go_wp2
        go_ret
        refine BoS.mk _ (falseIs fun h => ?_)
        have := h k hlt
        rw [← HE.out, HF.out] at this
        cases this
    · obtain rfl : k = xs.length := by omega
      go_wp2
      go_ret
      exact BoS.mk _ ⟨fun _ => HA.out, fun _ => rfl⟩
end Go.Proofs.Ytgeomaeccalceaa
