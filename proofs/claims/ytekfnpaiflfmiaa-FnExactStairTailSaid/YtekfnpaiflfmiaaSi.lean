/- SignTail: both sides. -/
import Derived.Test.YtekfnpaiflfmiaaCc
import Derived.Lib.MinMax
import Derived.Deep.QuietTactic
import Derived.BigQuiet
namespace Go.Proofs.Ytekfnpaiflfmiaa
open Go Go.RowKit
set_option linter.unusedVariables false

theorem wf_i64b {n : Int} (h : (Lit.int .i64 n).wf = true) : -9223372036854775808 ≤ n ∧ n ≤ 9223372036854775807 := by
  have h' : IntKind.i64.min ≤ n ∧ n ≤ IntKind.i64.max := by simpa [Lit.wf] using h
  have e1 : IntKind.i64.min = -9223372036854775808 := by decide
  have e2 : IntKind.i64.max = 9223372036854775807 := by decide
  rw [e1, e2] at h'
  exact h'
def sgC (l m : Int) : Prop := 0 ≤ l ∧ 0 ≤ m ∧ l + m ≤ 60
/-- The part of the tail: all, if the lesser one is half of them. -/
def sgP (n r : Nat) : Int := if n ≤ 2 * r then wrap64 (2 ^ n) else ((2 * binS n (r + 1) : Nat) : Int)
theorem sgP_all {n r : Nat} (h : ¬ (2 : Int) * r < n) : sgP n r = wrap64 (2 ^ n) := if_pos (by omega)
theorem sgP_part {n r : Nat} (h : (2 : Int) * r < n) : sgP n r = ((2 * binS n (r + 1) : Nat) : Int) := if_neg (by omega)
set_option maxHeartbeats 1000000 in
theorem implSign_yes (l m r n : Nat) (w : World) (hn : l + m = n) (hr : min (l : Int) (m : Int) = (r : Int)) (hn60 : n ≤ 60) : Calls Try.prog 33 #[.int .i64 l, .int .i64 m] w (RetB (.tuple #[.int .i64 (sgP n r), .int .i64 (wrap64 (2 ^ n)), .bool true]) w) := by
  have e1 : (l : Int) + (m : Int) = (n : Int) := by omega
  have h1 : (m : Int) ≤ 60 - l := by omega
  have h2 : (l : Int) ≤ 60 := by omega
  have h3 : (r : Int) ≤ 60 := by omega
  clear hn
  by_cases hq : (2 : Int) * r < n
  · have HQ := Lib.hid (sgP_part hq)
    have h4 : (r : Int) < n := by omega
    go_enter Try.func33, Try.ntmps33
    go_wp2_with fail
    go_quiet (fail)
    go_wp2_with fail
    go_loop [9, 40] (fun v i => ∃ j : Nat, j ≤ r + 1 ∧ v = .int .i64 ((2 * binS n j : Nat) : Int) ∧ i = .int .i64 j) (fun _ i => r + 1 - (intOf i).toNat)
    case atStart => exact ⟨0, Nat.zero_le _, rfl, rfl⟩
    case round =>
      obtain ⟨j, hj, rfl, rfl⟩ := hrel
      by_cases hlt : j < r + 1
      · have b1 := bin_fits n j hn60
        have b2 := Nat.le_trans (binS_le n j) (pow60 n hn60)
        have HE := Lib.hid (show binS n (j + 1) = binS n j + bin n j from rfl)
        have hlt' : (j : Int) < r + 1 := by omega
        go_wp2_with fail
        refine (choose_any n j _ hn60 (by omega)).mono ?_
        rintro e w1 ⟨rfl, rfl⟩
        go_wp2_with fail
        go_round
        case rel => exact ⟨j + 1, by omega, by rw [HE.out]; go_num, by go_num⟩
        case measure => simp [intOf]; omega
      · have E : Hid (r + 1 = j) := Lib.hid (by omega)
        go_wp2_with fail
        go_ret3
        exact ⟨by rw [HQ.out, E.out]; rfl, Bel_drewN (Below.refl _ _) _⟩
  · have HQ := Lib.hid (sgP_all hq)
    go_enter Try.func33, Try.ntmps33
    go_wp2_with fail
    go_quiet (fail)
    go_wp2_with fail
    go_ret3
    exact ⟨by rw [HQ.out]; rfl, Bel_drewN (Below.refl _ _) _⟩
theorem implSign_no (l m : Int) (w : World) (h : ¬ sgC l m) (hl : -9223372036854775808 ≤ l ∧ l ≤ 9223372036854775807) (hm : -9223372036854775808 ≤ m ∧ m ≤ 9223372036854775807) : Calls Try.prog 33 #[.int .i64 l, .int .i64 m] w (RetB (.tuple #[.int .i64 0, .int .i64 0, .bool false]) w) := by
  unfold sgC at h
  obtain ⟨hl1, hl2⟩ := hl
  obtain ⟨hm1, hm2⟩ := hm
  by_cases h1 : l < 0
  · clear h
    go_enter Try.func33, Try.ntmps33
    go_wp2
    go_ret3
    exact ⟨rfl, Below.refl _ _⟩
  · by_cases h2 : m < 0
    · clear h
      go_enter Try.func33, Try.ntmps33
      go_wp2
      go_ret3
      exact ⟨rfl, Below.refl _ _⟩
    · have h3 : 60 - l < m := by omega
      clear h
      go_enter Try.func33, Try.ntmps33
      go_wp2
      go_ret3
      exact ⟨rfl, Below.refl _ _⟩
theorem l00Min_any (x y r : Int) (w : World) (h : min x y = r) : Calls Try.prog 59 #[.int .i64 x, .int .i64 y] w (fun e w' => e = .returned (.int .i64 r) ∧ w = w') := by
  have H := Lib.hid h
  clear h
  by_cases h : x < y
  · have E : Hid (r = x) := Lib.hid (by have := H.out; omega)
    go_enter Try.func59, Try.ntmps59
    go_wp2
    go_ret
    exact ⟨by rw [E.out]; rfl, rfl⟩
  · have E : Hid (r = y) := Lib.hid (by have := H.out; omega)
    go_enter Try.func59, Try.ntmps59
    go_wp2
    go_ret
    exact ⟨by rw [E.out]; rfl, rfl⟩
set_option maxHeartbeats 1000000 in
theorem specSign_yes (l m r n : Nat) (w : World) (hn : l + m = n) (hr : min (l : Int) (m : Int) = (r : Int)) (hn60 : n ≤ 60) : Calls Try.prog 32 #[.int .i64 l, .int .i64 m] w (RetB (.tuple #[.int .i64 (sgP n r), .int .i64 (wrap64 (2 ^ n)), .bool true]) w) := by
  have e1 : (l : Int) + (m : Int) = (n : Int) := by omega
  have h1 : (m : Int) ≤ 60 := by omega
  have h2 : (l : Int) ≤ 60 := by omega
  have h3 : (r : Int) ≤ 60 := by omega
  have HR := Lib.hid hr
  clear hn hr
  by_cases hq : (2 : Int) * r < n
  · have HQ := Lib.hid (sgP_part hq)
    have h4 : (r : Int) < n := by omega
    go_enter Try.func32, Try.ntmps32
    go_wp2_with (first | (go_at_call 56; refine (l00In_yes _ _ _ (by omega) (by omega) _).mono ?_; rintro e w1 ⟨rfl, rfl⟩) | (go_at_call 59; refine (l00Min_any _ _ _ _ HR.out).mono ?_; rintro e w1 ⟨rfl, rfl⟩))
    go_loopw [10, 11] (fun v i wr => ∃ j : Nat, j ≤ r + 1 ∧ v = .int .i64 ((2 * binS n j : Nat) : Int) ∧ i = .int .i64 j ∧ Below w.heap.size w wr) (fun _ i _ => r + 1 - (intOf i).toNat)
    case atStart => exact ⟨0, Nat.zero_le _, rfl, rfl, Below.refl _ _⟩
    case round =>
      obtain ⟨j, hj, rfl, rfl, hbel⟩ := hrel
      by_cases hlt : j < r + 1
      · have b1 := bin_fits n j hn60
        have b2 := Nat.le_trans (binS_le n j) (pow60 n hn60)
        have HE := Lib.hid (show binS n (j + 1) = binS n j + bin n j from rfl)
        have hlt' : (j : Int) ≤ r := by omega
        have HB := Lib.hid hbel
        clear hbel
        go_wp2_with fail
        refine (l06Choose_any n j _ hn60 (by omega)).mono ?_
        rintro e w1 ⟨rfl, hb⟩
        have HB1 := Lib.hid (Bel_next HB.out hb)
        clear hb
        go_wp2_with fail
        go_roundw
        case rel => exact ⟨j + 1, by omega, by rw [HE.out]; go_num, by go_num, HB1.out⟩
        case measure => simp [intOf]; omega
      · have E : Hid (r + 1 = j) := Lib.hid (by omega)
        have HB := Lib.hid hbel
        clear hbel
        go_wp2_with fail
        go_ret3
        exact ⟨by rw [HQ.out, E.out]; rfl, HB.out⟩
  · have HQ := Lib.hid (sgP_all hq)
    go_enter Try.func32, Try.ntmps32
    go_wp2_with (first | (go_at_call 56; refine (l00In_yes _ _ _ (by omega) (by omega) _).mono ?_; rintro e w1 ⟨rfl, rfl⟩) | (go_at_call 59; refine (l00Min_any _ _ _ _ HR.out).mono ?_; rintro e w1 ⟨rfl, rfl⟩))
    go_ret3
    exact ⟨by rw [HQ.out]; rfl, Below.refl _ _⟩
theorem specSign_no (l m : Int) (w : World) (h : ¬ sgC l m) (hl : -9223372036854775808 ≤ l ∧ l ≤ 9223372036854775807) (hm : -9223372036854775808 ≤ m ∧ m ≤ 9223372036854775807) : Calls Try.prog 32 #[.int .i64 l, .int .i64 m] w (RetB (.tuple #[.int .i64 0, .int .i64 0, .bool false]) w) := by
  unfold sgC at h
  obtain ⟨hl1, hl2⟩ := hl
  obtain ⟨hm1, hm2⟩ := hm
  by_cases h1 : 0 ≤ l ∧ l ≤ 60
  · by_cases h2 : 0 ≤ m ∧ m ≤ 60
    · have h3 : 60 < l + m := by omega
      obtain ⟨h1, h1'⟩ := h1
      obtain ⟨h2, h2'⟩ := h2
      clear h
      go_enter Try.func32, Try.ntmps32
      go_wp2_with (go_at_call 56; refine (l00In_yes _ _ _ (by omega) (by omega) _).mono ?_; rintro e w1 ⟨rfl, rfl⟩)
      go_ret3
      exact ⟨rfl, Below.refl _ _⟩
    · obtain ⟨h1, h1'⟩ := h1
      have H2 : Hid (m < 0 ∨ 60 < m) := Lib.hid (by omega)
      clear h h2
      go_enter Try.func32, Try.ntmps32
      go_wp2_with fail
      refine (l00In_yes _ _ _ h1 h1' _).mono ?_
      rintro e w1 ⟨rfl, rfl⟩
      go_wp2_with fail
      refine (l00In_no _ _ _ H2.out _).mono ?_
      rintro e w1 ⟨rfl, rfl⟩
      go_wp2_with fail
      go_ret3
      exact ⟨rfl, Below.refl _ _⟩
  · have H2 : Hid (l < 0 ∨ 60 < l) := Lib.hid (by omega)
    clear h h1
    go_enter Try.func32, Try.ntmps32
    go_wp2_with fail
    refine (l00In_no _ _ _ H2.out _).mono ?_
    rintro e w1 ⟨rfl, rfl⟩
    go_wp2_with fail
    go_ret3
    exact ⟨rfl, Below.refl _ _⟩
end Go.Proofs.Ytekfnpaiflfmiaa
