/- Equal ones in a list: counted two ways. -/
import Derived.Test.YtdmbhnllebipjabTl
import Derived.Test.YtdmbhnllebipjabWd
import Derived.Deep.QuietTactic
import Derived.BigQuiet
namespace Go.Proofs.Ytdmbhnllebipjab
open Go Go.RowKit
set_option linter.unusedVariables false

/-- How many of a list stand in what is behind them. -/
def dupR : List Int → Nat
  | [] => 0
  | x :: xs => dupR xs + if x ∈ xs then 1 else 0
theorem dupR_perm {xs ys : List Int} (h : xs.Perm ys) : dupR xs = dupR ys := by
  induction h with
  | nil => rfl
  | cons x h ih => simp only [dupR, ih, h.mem_iff]
  | swap x y l =>
    simp only [dupR, List.mem_cons]
    by_cases e : x = y
    · subst e; rfl
    · have e' : ¬ y = x := fun h => e h.symm
      simp only [e, e', false_or]; omega
  | trans _ _ h1 h2 => exact h1.trans h2
/-- How many of the first k stand before themselves. -/
def eqP (xs : List Int) : Nat → Nat
  | 0 => 0
  | k + 1 => eqP xs k + if xs[k]?.getD 0 ∈ xs.take k then 1 else 0
theorem eqP_rev (xs : List Int) (k : Nat) (h : k ≤ xs.length) : eqP xs k = dupR (xs.take k).reverse := by
  induction k with
  | zero => simp [eqP, dupR]
  | succ k ih =>
    have hk : k < xs.length := by omega
    rw [List.take_succ_eq_append_getElem hk, List.reverse_append]
    show eqP xs k + _ = dupR (xs[k] :: (xs.take k).reverse)
    rw [dupR, ih (by omega), List.getElem?_eq_getElem hk]
    simp
theorem eqP_perm {xs ys : List Int} (h : xs.Perm ys) : eqP xs xs.length = eqP ys ys.length := by
  rw [eqP_rev _ _ (Nat.le_refl _), eqP_rev _ _ (Nat.le_refl _), List.take_length, List.take_length]
  exact dupR_perm ((List.reverse_perm xs).trans (h.trans (List.reverse_perm ys).symm))
/-- How many of the first k are as the one before. -/
def adjP (xs : List Int) : Nat → Nat
  | 0 => 0
  | 1 => 0
  | k + 2 => adjP xs (k + 1) + if xs[k + 1]?.getD 0 = xs[k]?.getD 0 then 1 else 0
theorem adjP_eq (xs : List Int) (h : ∀ i j : Nat, i ≤ j → j < xs.length → xs[i]?.getD 0 ≤ xs[j]?.getD 0) (k : Nat) (hk : k ≤ xs.length) : adjP xs k = eqP xs k := by
  induction k with
  | zero => rfl
  | succ k ih =>
    cases k with
    | zero => simp [adjP, eqP]
    | succ k =>
      show adjP xs (k + 1) + _ = eqP xs (k + 1) + _
      rw [ih (by omega)]
      congr 1
      have e : (xs[k + 1]?.getD 0 = xs[k]?.getD 0) ↔ xs[k + 1]?.getD 0 ∈ xs.take (k + 1) := by
        constructor
        · intro h1
          rw [h1, List.mem_iff_getElem?]
          exact ⟨k, by rw [List.getElem?_take, if_pos (by omega), List.getElem?_eq_getElem (by omega)]; simp⟩
        · intro h1
          rw [List.mem_iff_getElem?] at h1
          obtain ⟨i, hi⟩ := h1
          rw [List.getElem?_take] at hi
          split at hi
          · rename_i hik
            have h2 := h i k (by omega) (by omega)
            have h3 := h k (k + 1) (by omega) (by omega)
            rw [hi] at h2
            simp at h2
            omega
          · cases hi
      by_cases h1 : xs[k + 1]?.getD 0 = xs[k]?.getD 0
      · rw [if_pos h1, if_pos (e.1 h1)]
      · rw [if_neg h1, if_neg (fun hh => h1 (e.2 hh))]
theorem eqP_le (xs : List Int) (k : Nat) : eqP xs k ≤ k := by
  induction k with
  | zero => exact Nat.le_refl _
  | succ k ih => show eqP xs k + _ ≤ _; split <;> omega
theorem adjP_le (xs : List Int) (k : Nat) : adjP xs k ≤ k := by
  induction k with
  | zero => exact Nat.le_refl _
  | succ k ih =>
    cases k with
    | zero => exact Nat.zero_le _
    | succ k => show adjP xs (k + 1) + _ ≤ _; split <;> omega

theorem eqP_in {xs : List Int} {i : Nat} (h : xs[i]?.getD 0 ∈ xs.take i) : eqP xs (i + 1) = eqP xs i + 1 := by
  show eqP xs i + _ = _; rw [if_pos h]
theorem eqP_out {xs : List Int} {i : Nat} (h : ¬ xs[i]?.getD 0 ∈ xs.take i) : eqP xs (i + 1) = eqP xs i := by
  show eqP xs i + _ = _; rw [if_neg h]; rfl
theorem take_mem (xs : List Int) (j i : Nat) (hj : j < i) (hl : j < xs.length) : xs[j]?.getD 0 ∈ xs.take i := by
  rw [List.mem_iff_getElem?]
  exact ⟨j, by rw [List.getElem?_take, if_pos hj, List.getElem?_eq_getElem hl]; simp⟩
theorem take_not (xs : List Int) (j : Nat) (x : Int) (h : ¬ x ∈ xs.take j) (hl : j < xs.length) (hx : ¬ xs[j]?.getD 0 = x) : ¬ x ∈ xs.take (j + 1) := by
  rw [List.take_succ_eq_append_getElem hl, List.mem_append]
  rintro (h1 | h1)
  · exact h h1
  · rw [List.mem_singleton] at h1
    apply hx
    rw [List.getElem?_eq_getElem hl, h1]; rfl

set_option maxHeartbeats 400000 in
theorem l02Equal_any (xs : List Int) (n : Nat) (hn : xs.length = n) (hn8 : n ≤ 1000) (ao : Option Addr) (c : Nat) (w : World) (hx : Holds w ao (il xs)) :
    Calls Try.prog 66 #[.slice ao n c] w (RetB (.int .i64 (eqP xs n : Int)) w) := by
  have HX := Lib.hid hx
  have HN := Lib.hid hn
  clear hx hn
  go_enter Try.func66, Try.ntmps66
  go_wp2
  go_loopw [3, 4] (fun q iv wr => ∃ i : Nat, i ≤ n ∧ iv = .int .i64 i ∧ q = .int .i64 (eqP xs i : Int) ∧ ∃ d, wr = w.drewN d) (fun _ iv _ => n - (intOf iv).toNat)
  case atStart => exact ⟨0, Nat.zero_le _, rfl, rfl, 0, rfl⟩
  case round =>
    obtain ⟨i, hi, rfl, rfl, d, rfl⟩ := hrel
    have hle := eqP_le xs i
    obtain ⟨q, eq⟩ : ∃ q, q = eqP xs i := ⟨_, rfl⟩
    have HQ := Lib.hid eq
    rw [← eq] at hle ⊢
    clear eq
    by_cases hlt : i < n
    · obtain ⟨b, o, rfl, hc⟩ := HX.out i (by simp [il, HN.out]; exact hlt)
      rw [il_get _ _ (by rw [HN.out]; exact hlt)] at hc
      obtain ⟨x, ex⟩ : ∃ x, x = xs[i]?.getD 0 := ⟨_, rfl⟩
      rw [← ex] at hc
      have HXX := Lib.hid ex
      clear ex
      go_wp2
      go_loopw [3, 5] (fun q' jv wr => ∃ j : Nat, j ≤ i ∧ jv = .int .i64 j ∧ q' = .int .i64 (q : Int) ∧ x ∉ xs.take j ∧ ∃ d, wr = w.drewN d) (fun _ jv _ => i - (intOf jv).toNat)
      case atStart => exact ⟨0, Nat.zero_le _, rfl, rfl, by simp, d, rfl⟩
      case round =>
        obtain ⟨j, hj, rfl, rfl, hno, d', rfl⟩ := hrel
        have HNO := Lib.hid hno
        clear hno
        by_cases hjl : j < i
        · obtain ⟨b', o', e', hcj⟩ := HX.out j (by simp [il, HN.out]; omega)
          cases e'
          rw [il_get _ _ (by rw [HN.out]; omega)] at hcj
          obtain ⟨y, ey⟩ : ∃ y, y = xs[j]?.getD 0 := ⟨_, rfl⟩
          rw [← ey] at hcj
          have HY := Lib.hid ey
          clear ey
          by_cases he : y = x
          · have HM := Lib.hid (take_mem xs j i hjl (by rw [HN.out]; omega))
            subst he
            go_wp2
            go_quiet (fail)
            go_wp2
            go_roundw
            case rel => exact ⟨i + 1, by omega, by go_num, by rw [eqP_in (by rw [← HXX.out, HY.out]; exact HM.out), ← HQ.out]; go_num, _, rfl⟩
            case measure => simp [intOf]; omega
          · have he' : (y == x) = false := by rw [beq_eq_false_iff_ne]; exact he
            have HM := Lib.hid (take_not xs j x HNO.out (by rw [HN.out]; omega) (by rw [← HY.out]; exact he))
            go_wp2
            go_quiet (fail)
            go_wp2
            go_roundw
            case rel => exact ⟨j + 1, by omega, by go_num, rfl, HM.out, _, rfl⟩
            case measure => simp [intOf]; omega
        · have E : Hid (j = i) := Lib.hid (by omega)
          go_wp2
          go_roundw
          case rel => exact ⟨i + 1, by omega, by go_num, by rw [eqP_out (by rw [← HXX.out, ← E.out]; exact HNO.out), ← HQ.out], _, rfl⟩
          case measure => simp [intOf]; omega
    · have E : Hid (i = n) := Lib.hid (by omega)
      have HQ' : Hid (eqP xs n = q) := Lib.hid (by rw [← E.out]; exact HQ.out.symm)
      go_wp2
      go_ret
      exact ⟨by rw [HQ'.out]; rfl, by first | exact Below.refl _ _ | exact Bel_drewN (Below.refl _ _) _⟩
set_option maxHeartbeats 400000 in
theorem meetings_any (xs : List Int) (n : Nat) (hn : xs.length = n) (hn8 : n ≤ 1000) (ao : Option Addr) (c : Nat) (w : World) (hx : Holds w ao (il xs)) :
    Calls Try.prog 68 #[.slice ao n c] w (RetB (.int .i64 (adjP xs n : Int)) w) := by
  have HX := Lib.hid hx
  have HN := Lib.hid hn
  clear hx hn
  by_cases hn0 : n = 0
  · subst hn0
    go_enter Try.func68, Try.ntmps68
    go_wp2
    go_loopw [3, 4] (fun q iv wr => iv = .int .i64 1 ∧ q = .int .i64 0 ∧ wr = w) (fun _ _ _ => 0)
    case atStart => exact ⟨rfl, rfl, rfl⟩
    case round =>
      obtain ⟨rfl, rfl, rfl⟩ := hrel
      go_wp2
      go_ret
      exact ⟨rfl, Below.refl _ _⟩
  have hn1 : 1 ≤ n := by omega
  clear hn0
  go_enter Try.func68, Try.ntmps68
  go_wp2
  go_loopw [3, 4] (fun q iv wr => ∃ i f : Nat, f = i + 1 ∧ f ≤ n ∧ iv = .int .i64 (f : Int) ∧ q = .int .i64 (adjP xs f : Int) ∧ ∃ d, wr = w.drewN d) (fun _ iv _ => n - (intOf iv).toNat)
  case atStart => exact ⟨0, 1, rfl, hn1, rfl, rfl, 0, rfl⟩
  case round =>
    obtain ⟨i, f, hf, hi, rfl, rfl, d, rfl⟩ := hrel
    have hle := adjP_le xs f
    obtain ⟨q, eq⟩ : ∃ q, q = adjP xs f := ⟨_, rfl⟩
    have HQ := Lib.hid eq
    have HF := Lib.hid hf
    rw [← eq] at hle ⊢
    clear eq
    by_cases hlt : f < n
    · obtain ⟨b, o, rfl, hc⟩ := HX.out f (by simp [il, HN.out]; exact hlt)
      rw [il_get _ _ (by rw [HN.out]; exact hlt)] at hc
      obtain ⟨b', o', e', hcj⟩ := HX.out i (by simp [il, HN.out]; omega)
      cases e'
      rw [il_get _ _ (by rw [HN.out]; omega)] at hcj
      obtain ⟨x, ex⟩ : ∃ x, x = xs[f]?.getD 0 := ⟨_, rfl⟩
      obtain ⟨y, ey⟩ : ∃ y, y = xs[i]?.getD 0 := ⟨_, rfl⟩
      rw [← ex] at hc
      rw [← ey] at hcj
      have hstep : adjP xs (f + 1) = q + if x = y then 1 else 0 := by rw [HQ.out, ex, ey, hf]; rfl
      have hfi : (f : Int) - 1 = i := by omega
      have hil : i < n := by omega
      clear ex ey hf
      by_cases he : x = y
      · subst he
        rw [if_pos rfl] at hstep
        have HS := Lib.hid hstep
        clear hstep
        go_wp2
        go_quiet (fail)
        go_wp2
        go_roundw
        case rel => exact ⟨f, f + 1, rfl, by omega, by go_num, by rw [HS.out]; go_num, _, rfl⟩
        case measure => simp [intOf]; omega
      · rw [if_neg he] at hstep
        have HS := Lib.hid hstep
        have he' : (x == y) = false := by rw [beq_eq_false_iff_ne]; exact he
        clear hstep
        go_wp2
        go_quiet (fail)
        go_wp2
        go_roundw
        case rel => exact ⟨f, f + 1, rfl, by omega, by go_num, by rw [HS.out]; rfl, _, rfl⟩
        case measure => simp [intOf]; omega
    · have E : Hid (f = n) := Lib.hid (by omega)
      have HQ' : Hid (adjP xs n = q) := Lib.hid (by rw [← E.out]; exact HQ.out.symm)
      clear hf
      go_wp2
      go_ret
      exact ⟨by rw [HQ'.out]; rfl, by first | exact Below.refl _ _ | exact Bel_drewN (Below.refl _ _) _⟩
end Go.Proofs.Ytdmbhnllebipjab
