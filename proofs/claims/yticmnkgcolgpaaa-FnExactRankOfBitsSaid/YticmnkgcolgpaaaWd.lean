/- Lists of words: what the tests of them return. -/
import Derived.Test.YticmnkgcolgpaaaIl
import Derived.Test.YticmnkgcolgpaaaIn0
namespace Go.Proofs.Yticmnkgcolgpaaa
open Go Go.RowKit
set_option linter.unusedVariables false

/-- Are these words? -/
def wordsB (xs : List Int) : Bool := decide ((∀ i, i < xs.length → 0 ≤ xs[i]?.getD 0 ∧ xs[i]?.getD 0 ≤ 4294967295) ∧ 1 ≤ xs.length ∧ xs.length ≤ 256)
theorem wordsB_no {xs : List Int} {k : Nat} (h : k < xs.length) (hb : xs[k]?.getD 0 < 0 ∨ 4294967295 < xs[k]?.getD 0) : wordsB xs = false := by
  unfold wordsB; rw [decide_eq_false_iff_not]; rintro ⟨h1, _⟩; have := h1 k h; omega
theorem wordsB_end {xs : List Int} (h : ∀ i, i < xs.length → 0 ≤ xs[i]?.getD 0 ∧ xs[i]?.getD 0 ≤ 4294967295) : wordsB xs = (decide ((1 : Int) ≤ xs.length) && decide ((xs.length : Int) ≤ 256)) := by
  unfold wordsB; rw [Bool.eq_iff_iff]; simp; constructor
  · rintro ⟨_, a, b⟩; omega
  · rintro ⟨a, b⟩; exact ⟨fun i hi => by simpa using h i hi, by omega, by omega⟩
theorem wordsB_get {xs : List Int} (h : wordsB xs = true) {k : Nat} (hk : k < xs.length) : 0 ≤ xs[k]?.getD 0 ∧ xs[k]?.getD 0 ≤ 4294967295 := by
  unfold wordsB at h; exact (of_decide_eq_true h).1 k hk
theorem wordsB_len {xs : List Int} (h : wordsB xs = true) : 1 ≤ xs.length ∧ xs.length ≤ 256 := by
  unfold wordsB at h; exact (of_decide_eq_true h).2

theorem l02AreWords_any (xs : List Int) (ao : Option Addr) (c : Nat) (w : World) (hx : Holds w ao (il xs)) (hlen : xs.length ≤ 1048576) :
    Calls Try.prog 85 #[.slice ao xs.length c] w (fun e w' => e = .returned (.bool (wordsB xs)) ∧ w = w') := by
  have HX := Lib.hid hx
  clear hx
  go_enter Try.func85, Try.ntmps85
  go_wp2
  go_loop [3] (fun i => ∃ k : Nat, k ≤ xs.length ∧ i = .int .i64 k ∧ ∀ i, i < k → 0 ≤ xs[i]?.getD 0 ∧ xs[i]?.getD 0 ≤ 4294967295) (fun i => xs.length - (intOf i).toNat)
  case atStart => exact ⟨0, Nat.zero_le _, rfl, fun i hi => absurd hi (Nat.not_lt_zero _)⟩
  case round =>
    obtain ⟨k, hk, rfl, hall⟩ := hrel
    have HA := Lib.hid hall
    clear hall
    by_cases hlt : k < xs.length
    · obtain ⟨b, o, rfl, hc⟩ := HX.out k (by simpa [il] using hlt)
      rw [il_get _ _ hlt] at hc
      by_cases hr : 0 ≤ xs[k]?.getD 0 ∧ xs[k]?.getD 0 ≤ 4294967295
      · have HR := Lib.hid hr
        obtain ⟨x, hx⟩ : ∃ x, x = xs[k]?.getD 0 := ⟨_, rfl⟩
        rw [← hx] at hc hr
        clear hx
        go_wp2_with (go_at_call 72; refine (l00In_yes _ _ _ hr.1 hr.2 _).mono ?_; rintro e w' ⟨rfl, rfl⟩)
        go_round
        case rel => exact ⟨k + 1, by omega, by go_num, fun i hi => by
          by_cases e : i = k
          · rw [e]; exact HR.out
          · exact HA.out i (by omega)⟩
        case measure => simp [intOf]; omega
      · have HN := Lib.hid (wordsB_no hlt (by omega))
        obtain ⟨x, hx⟩ : ∃ x, x = xs[k]?.getD 0 := ⟨_, rfl⟩
        rw [← hx] at hc hr
        clear hx
        go_wp2_with (go_at_call 72; refine (l00In_no _ _ _ (by omega) _).mono ?_; rintro e w' ⟨rfl, rfl⟩)
        go_ret
        exact ⟨by rw [HN.out]; rfl, rfl⟩
    · have HE := Lib.hid (wordsB_end (xs := xs) (fun i hi => HA.out i (by omega)))
      by_cases h1 : (1 : Int) ≤ xs.length
      · go_wp2
        go_ret
        exact ⟨by rw [HE.out]; simp; omega, rfl⟩
      · have h1' : decide ((1 : Int) ≤ xs.length) = false := by simpa using h1
        go_wp2
        go_ret
        exact ⟨by rw [HE.out, h1']; rfl, rfl⟩
theorem implWords_any (xs : List Int) (ao : Option Addr) (c : Nat) (w : World) (hx : Holds w ao (il xs)) (hlen : xs.length ≤ 1048576) :
    Calls Try.prog 86 #[.slice ao xs.length c] w (RetB (.bool (wordsB xs)) w) := by
  have HX := Lib.hid hx
  clear hx
  go_enter Try.func86, Try.ntmps86
  go_wp2
  go_loop [7] (fun i => ∃ k : Nat, k ≤ xs.length ∧ i = .int .i64 k ∧ ∀ i, i < k → 0 ≤ xs[i]?.getD 0 ∧ xs[i]?.getD 0 ≤ 4294967295) (fun i => xs.length - (intOf i).toNat)
  case atStart => exact ⟨0, Nat.zero_le _, rfl, fun i hi => absurd hi (Nat.not_lt_zero _)⟩
  case round =>
    obtain ⟨k, hk, rfl, hall⟩ := hrel
    have HA := Lib.hid hall
    clear hall
    by_cases hlt : k < xs.length
    · obtain ⟨b, o, rfl, hc⟩ := HX.out k (by simpa [il] using hlt)
      rw [il_get _ _ hlt] at hc
      by_cases hr : 0 ≤ xs[k]?.getD 0 ∧ xs[k]?.getD 0 ≤ 4294967295
      · have HR := Lib.hid hr
        obtain ⟨x, hx⟩ : ∃ x, x = xs[k]?.getD 0 := ⟨_, rfl⟩
        rw [← hx] at hc hr
        clear hx
        have h2 : decide (4294967296 ≤ x) = false := by simp; omega
        go_wp2
        go_round
        case rel => exact ⟨k + 1, by omega, by go_num, fun i hi => by
          by_cases e : i = k
          · rw [e]; exact HR.out
          · exact HA.out i (by omega)⟩
        case measure => simp [intOf]; omega
      · have HN := Lib.hid (wordsB_no hlt (by omega))
        obtain ⟨x, hx⟩ : ∃ x, x = xs[k]?.getD 0 := ⟨_, rfl⟩
        rw [← hx] at hc hr
        clear hx
        by_cases hx0 : x < 0
        · go_wp2
          go_ret
          exact ⟨by rw [HN.out]; rfl, Below.refl _ _⟩
        · have hx1 : 4294967296 ≤ x := by omega
          go_wp2
          go_ret
          exact ⟨by rw [HN.out]; rfl, Below.refl _ _⟩
    · have HE := Lib.hid (wordsB_end (xs := xs) (fun i hi => HA.out i (by omega)))
      by_cases h1 : (1 : Int) ≤ xs.length
      · go_wp2
        go_ret
        exact ⟨by rw [HE.out]; simp; omega, Below.refl _ _⟩
      · have h1' : decide ((1 : Int) ≤ xs.length) = false := by simpa using h1
        go_wp2
        go_ret
        exact ⟨by rw [HE.out, h1']; rfl, Below.refl _ _⟩
end Go.Proofs.Yticmnkgcolgpaaa
