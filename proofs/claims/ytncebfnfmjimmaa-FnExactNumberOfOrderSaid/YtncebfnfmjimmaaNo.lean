/- The number of an order: both sides. -/
import Derived.Test.YtncebfnfmjimmaaCo
namespace Go.Proofs.Ytncebfnfmjimmaa
open Go Go.RowKit
set_option linter.unusedVariables false

/-- The number that k digits of a code tell, with the bases n, n - 1, and so on. -/
def numK (cs : List Int) (n : Nat) : Nat → Int
  | 0 => 0
  | k + 1 => wrap64 (wrap64 (numK cs n k * ((n : Int) - k)) + cs[k]?.getD 0)
set_option maxRecDepth 100000 in
set_option maxHeartbeats 1000000 in
theorem implNumber_yes (xs : List Int) (ao : Option Addr) (w : World) (hv : isOrd xs ∧ xs.length ≤ 20) (hx : Holds w ao (il xs)) :
    Calls Try.prog 26 #[.slice ao xs.length xs.length] w (RetB (.tuple #[.int .i64 (numK (codeL xs) xs.length xs.length), .bool true]) w) := by
  have HX := Lib.hid hx
  have HV := Lib.hid hv
  have hn20 : (xs.length : Int) ≤ 20 := by omega
  clear hx hv
  go_enter Try.func26, Try.ntmps26
  go_wp2_with fail
  refine (implCode_yes xs _ _ HV.out.1 HX.out).mono ?_
  rintro e w1 ⟨ao1, c1, rfl, hrow, hb⟩
  have H := Lib.hid (And.intro hrow.holds hb)
  have HL := codeL_len xs
  clear hrow hb HX
  go_wp2
  go_loopw [6, 23] (fun s i wr => ∃ k : Nat, k ≤ xs.length ∧ i = .int .i64 k ∧ s = .int .i64 (numK (codeL xs) xs.length k) ∧ wr = w1) (fun _ i _ => xs.length - (intOf i).toNat)
  case atStart => exact ⟨0, Nat.zero_le _, rfl, rfl, rfl⟩
  case round =>
    obtain ⟨k, hk, rfl, rfl, rfl⟩ := hrel
    by_cases hlt : k < xs.length
    · obtain ⟨b, o, rfl, hc⟩ := H.out.1 k (by simp [il, HL]; exact hlt)
      rw [il_get _ _ (by rw [HL]; exact hlt)] at hc
      have HS : Hid (numK (codeL xs) xs.length (k + 1) = wrap64 (wrap64 (numK (codeL xs) xs.length k * ((xs.length : Int) - k)) + (codeL xs)[k]?.getD 0)) := Lib.hid rfl
      generalize numK (codeL xs) xs.length k = s at HS ⊢
      generalize (codeL xs)[k]?.getD 0 = x at HS hc
      have hlt' : (k : Int) < xs.length := by omega
      go_wp2
      go_roundw
      case rel => exact ⟨k + 1, by omega, by go_num, by rw [HS.out], by trivial⟩
      case measure => simp [intOf]; omega
    · go_wp2
      go_ret2
      have hkn : k = xs.length := by omega
      subst hkn
      exact ⟨rfl, H.out.2⟩
theorem implNumber_no (xs : List Int) (ao : Option Addr) (w : World) (hv : ¬(isOrd xs ∧ xs.length ≤ 20)) (hx : Holds w ao (il xs)) (hl : xs.length ≤ 1048576) :
    Calls Try.prog 26 #[.slice ao xs.length xs.length] w (RetB (.tuple #[.int .i64 0, .bool false]) w) := by
  by_cases ho : isOrd xs
  · have hn20 : (20 : Int) < xs.length := by rcases Nat.lt_or_ge 20 xs.length with h | h; omega; exact absurd ⟨ho, h⟩ hv
    have HO := Lib.hid ho
    have HX := Lib.hid hx
    clear ho hx hv
    go_enter Try.func26, Try.ntmps26
    go_wp2_with fail
    refine (implCode_yes xs _ _ HO.out HX.out).mono ?_
    rintro e w1 ⟨ao1, c1, rfl, hrow, hb⟩
    have HB := Lib.hid hb
    clear hrow hb HX
    go_wp2
    go_ret2
    exact ⟨rfl, HB.out⟩
  · have HO := Lib.hid ho
    have HX := Lib.hid hx
    clear ho hx hv
    go_enter Try.func26, Try.ntmps26
    go_wp2_with fail
    refine (implCode_no xs _ _ _ HO.out HX.out hl).mono ?_
    rintro e w1 ⟨rfl, hb⟩
    have HB := Lib.hid hb
    clear hb HX
    go_wp2
    go_ret2
    exact ⟨rfl, HB.out⟩
set_option maxRecDepth 100000 in
set_option maxHeartbeats 1000000 in
theorem specNumber_yes (xs : List Int) (ao : Option Addr) (c : Nat) (w : World) (hv : isOrd xs ∧ xs.length ≤ 20) (hx : Holds w ao (il xs)) :
    Calls Try.prog 25 #[.slice ao xs.length c] w (RetB (.tuple #[.int .i64 (numK (codeL xs) xs.length xs.length), .bool true]) w) := by
  have HX := Lib.hid hx
  have HV := Lib.hid hv
  have hn20 : (xs.length : Int) ≤ 20 := by omega
  clear hx hv
  go_enter Try.func25, Try.ntmps25
  go_wp2_with fail
  refine (l04Order_any xs _ _ _ HX.out (by omega)).mono ?_
  rintro e w1 ⟨rfl, hb⟩
  rw [ordB_yes HV.out.1]
  have HB := Lib.hid hb
  clear hb
  go_wp2_with fail
  refine (l04Code_any xs _ _ _ (by omega) (HX.out.below HB.out)).mono ?_
  rintro e w2 ⟨ao1, c1, rfl, hrow, hb⟩
  have H := Lib.hid (And.intro hrow.holds hb)
  have HL := codeL_len xs
  clear hrow hb HX
  go_wp2
  go_loopw [5, 6] (fun s i wr => ∃ k : Nat, k ≤ xs.length ∧ i = .int .i64 k ∧ s = .int .i64 (numK (codeL xs) xs.length k) ∧ wr = w2) (fun _ i _ => xs.length - (intOf i).toNat)
  case atStart => exact ⟨0, Nat.zero_le _, rfl, rfl, rfl⟩
  case round =>
    obtain ⟨k, hk, rfl, rfl, rfl⟩ := hrel
    by_cases hlt : k < xs.length
    · obtain ⟨b, o, rfl, hc⟩ := H.out.1 k (by simp [il, HL]; exact hlt)
      rw [il_get _ _ (by rw [HL]; exact hlt)] at hc
      have HS : Hid (numK (codeL xs) xs.length (k + 1) = wrap64 (wrap64 (numK (codeL xs) xs.length k * ((xs.length : Int) - k)) + (codeL xs)[k]?.getD 0)) := Lib.hid rfl
      generalize numK (codeL xs) xs.length k = s at HS ⊢
      generalize (codeL xs)[k]?.getD 0 = x at HS hc
      have hlt' : (k : Int) < xs.length := by omega
      go_wp2
      go_roundw
      case rel => exact ⟨k + 1, by omega, by go_num, by rw [HS.out], by trivial⟩
      case measure => simp [intOf]; omega
    · go_wp2
      go_ret2
      have hkn : k = xs.length := by omega
      subst hkn
      exact ⟨rfl, Bel_next HB.out H.out.2⟩
theorem specNumber_no (xs : List Int) (ao : Option Addr) (c : Nat) (w : World) (hv : ¬(isOrd xs ∧ xs.length ≤ 20)) (hx : Holds w ao (il xs)) (hl : xs.length ≤ 1048576) :
    Calls Try.prog 25 #[.slice ao xs.length c] w (RetB (.tuple #[.int .i64 0, .bool false]) w) := by
  by_cases ho : isOrd xs
  · have hn20 : (20 : Int) < xs.length := by rcases Nat.lt_or_ge 20 xs.length with h | h; omega; exact absurd ⟨ho, h⟩ hv
    have HO := Lib.hid ho
    have HX := Lib.hid hx
    clear ho hx hv
    go_enter Try.func25, Try.ntmps25
    go_wp2_with fail
    refine (l04Order_any xs _ _ _ HX.out hl).mono ?_
    rintro e w1 ⟨rfl, hb⟩
    rw [ordB_yes HO.out]
    have HB := Lib.hid hb
    clear hb HX
    go_wp2
    go_ret2
    exact ⟨rfl, HB.out⟩
  · have HO := Lib.hid ho
    have HX := Lib.hid hx
    clear ho hx hv
    go_enter Try.func25, Try.ntmps25
    go_wp2_with fail
    refine (l04Order_any xs _ _ _ HX.out hl).mono ?_
    rintro e w1 ⟨rfl, hb⟩
    rw [ordB_no HO.out]
    have HB := Lib.hid hb
    clear hb HX
    go_wp2
    go_ret2
    exact ⟨rfl, HB.out⟩
end Go.Proofs.Ytncebfnfmjimmaa
