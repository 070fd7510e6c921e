/- Pairs of digits. -/
import Derived.Test.YtdmbhnllebipjabTl
import Derived.Test.YtdmbhnllebipjabWd
import Derived.IntWalk
namespace Go.Proofs.Ytdmbhnllebipjab
open Go Go.RowKit
set_option linter.unusedVariables false

/-- The digit of a word. -/
def digP (d : Nat) (xs : List Int) (i : Nat) : Nat := ((xs[i]?.getD 0).toNat * d) / 4294967296
theorem digP_lt (d : Nat) (xs : List Int) (i : Nat) (h : wordsB xs = true) (hi : i < xs.length) (hd : 1 ≤ d) : digP d xs i < d := by
  have := wordsB_get h hi
  unfold digP
  rw [Nat.div_lt_iff_lt_mul (by decide)]
  have h1 : (xs[i]?.getD 0).toNat < 4294967296 := by omega
  calc (xs[i]?.getD 0).toNat * d < 4294967296 * d := Nat.mul_lt_mul_of_pos_right h1 (by omega)
    _ = d * 4294967296 := Nat.mul_comm _ _
/-- The counts behind k pairs. -/
def pairsK (d : Nat) (xs : List Int) : Nat → List Int
  | 0 => List.replicate (d * d) 0
  | k + 1 => bump (pairsK d xs k) (d * digP d xs (2 * k) + digP d xs (2 * k + 1))
theorem pairsK_inv (d : Nat) (xs : List Int) (k : Nat) : (pairsK d xs k).length = d * d ∧ upTo k (pairsK d xs k) := by
  induction k with
  | zero => exact ⟨by simp [pairsK], upTo_zero _⟩
  | succ k ih => exact ⟨by simp [pairsK, bump_len, ih.1], ih.2.bump _⟩
theorem pair_lt (d a b : Nat) (ha : a < d) (hb : b < d) : d * a + b < d * d := by
  have : d * a + d ≤ d * d := by rw [← Nat.mul_succ]; exact Nat.mul_le_mul_left _ ha
  omega

theorem specPairs_yes (xs : List Int) (d : Nat) (ao : Option Addr) (c : Nat) (w : World) (hv : wordsB xs = true ∧ 1 ≤ d ∧ d ≤ 16) (hx : Holds w ao (il xs)) :
    Calls Try.prog 42 #[.slice ao xs.length c, .int .i64 d] w (RetL (d * d) (il (pairsK d xs (xs.length / 2))) (fun s => .tuple #[s, .bool true]) w) := by
  have HX := Lib.hid hx
  have hlen := wordsB_len hv.1
  have HV := Lib.hid hv
  have h1 : (1 : Int) ≤ d := by omega
  have h2 : (d : Int) ≤ 16 := by omega
  have hdd : (d : Int) * d ≤ 256 := by
    have : d * d ≤ 16 * 16 := Nat.mul_le_mul (by omega) (by omega)
    rw [← Int.natCast_mul]; omega
  have hdd0 : 0 ≤ (d : Int) * d := by rw [← Int.natCast_mul]; omega
  have hmk := run_mk16 (P := Try.prog) w 25 2 (d * d) (by rw [← Int.natCast_mul] at hdd; omega) Try.underlying25 (by kernel_rfl)
  rw [Int.natCast_mul] at hmk
  clear hx hv
  go_enter Try.func42, Try.ntmps42
  go_wp2_with fail
  refine (l02AreWords_any xs _ _ _ HX.out (by omega)).mono ?_
  rintro e w1 ⟨rfl, rfl⟩
  have hw := HV.out.1
  go_wp2_with fail
  refine (l00In_yes _ _ _ h1 h2 _).mono ?_
  rintro e w1 ⟨rfl, rfl⟩
  go_wp2_with fail
  clear hmk
  go_loopw [7] (fun i wr => ∃ k i' : Nat, i' = 2 * k ∧ i' ≤ xs.length ∧ i = .int .i64 i' ∧ Below w.heap.size w wr ∧ Whole wr w.heap.size 2 (il (pairsK d xs k)).toArray) (fun i _ => xs.length - (intOf i).toNat)
  case atStart => exact ⟨0, 0, rfl, Nat.zero_le _, rfl, (Below.refl _ _).alloc (Nat.le_refl _) _, tally_new _ _ _⟩
  case round =>
    obtain ⟨k, i, hik, hi, rfl, hbel, hwh⟩ := hrel
    obtain ⟨i1, i2⟩ := pairsK_inv d xs k
    have HW := Lib.hid (And.intro hbel hwh)
    have hsz := hwh.lt
    by_cases hlt : i + 1 < xs.length
    · obtain ⟨b, o, rfl, hc0⟩ := (Holds.below HX.out hbel) i (by simp [il]; omega)
      obtain ⟨b', o', e', hc1⟩ := (Holds.below HX.out hbel) (i + 1) (by simpa [il] using hlt)
      cases e'
      rw [il_get _ _ (by omega)] at hc0
      rw [il_get _ _ hlt] at hc1
      have g0 := wordsB_get hw (show i < xs.length by omega)
      have g1 := wordsB_get hw hlt
      have q0 := digP_lt d xs i hw (by omega) (by omega)
      have q1 := digP_lt d xs (i + 1) hw hlt (by omega)
      have hS : pairsK d xs (k + 1) = bump (pairsK d xs k) (d * digP d xs i + digP d xs (i + 1)) := by rw [hik]; rfl
      have hj := pair_lt d _ _ q0 q1
      obtain ⟨n0, en0⟩ : ∃ n : Nat, xs[i]?.getD 0 = n := ⟨_, (Int.toNat_of_nonneg g0.1).symm⟩
      obtain ⟨n1, en1⟩ : ∃ n : Nat, xs[i + 1]?.getD 0 = n := ⟨_, (Int.toNat_of_nonneg g1.1).symm⟩
      have d0 : (n0 : Int) * d / 4294967296 = (digP d xs i : Nat) := by unfold digP; rw [en0]; simp
      have d1 : (n1 : Int) * d / 4294967296 = (digP d xs (i + 1) : Nat) := by unfold digP; rw [en1]; simp
      rw [en0] at hc0 g0
      rw [en1] at hc1 g1
      have m0 : 0 ≤ (n0 : Int) * d ∧ (n0 : Int) * d ≤ 68719476736 := by
        have : n0 * d ≤ 4294967296 * 16 := Nat.mul_le_mul (by omega) (by omega)
        rw [← Int.natCast_mul]; omega
      have m1 : 0 ≤ (n1 : Int) * d ∧ (n1 : Int) * d ≤ 68719476736 := by
        have : n1 * d ≤ 4294967296 * 16 := Nat.mul_le_mul (by omega) (by omega)
        rw [← Int.natCast_mul]; omega
      generalize digP d xs i = a at *
      generalize digP d xs (i + 1) = b2 at *
      have m2 : 0 ≤ (a : Int) * d ∧ (a : Int) * d ≤ 256 := by
        have : a * d ≤ 16 * 16 := Nat.mul_le_mul (by omega) (by omega)
        rw [← Int.natCast_mul]; omega
      obtain ⟨j, ej⟩ : ∃ j, j = d * a + b2 := ⟨_, rfl⟩
      have ej' : (a : Int) * d + b2 = j := by rw [ej, Int.natCast_add, Int.natCast_mul, Int.mul_comm]
      rw [← ej] at hS hj
      have hcell := tally_cell hwh j (by rw [i1]; exact hj)
      have hfr := hwh.frozen j
      have hbd := i2 j
      have hjl : j < d * d := hj
      have hjl' : (j : Int) < d * d := by rw [← Int.natCast_mul]; omega
      obtain ⟨v, hv⟩ : ∃ v, v = (pairsK d xs k)[j]?.getD 0 := ⟨_, rfl⟩
      rw [← hv] at hcell hbd
      have HS := Lib.hid hS
      have HVV := Lib.hid hv
      have HIK := Lib.hid hik
      have hkk : k ≤ 256 := by omega
      clear hv hS hwh hbel i2 en0 en1 hj ej hik i1
      go_wp2
      go_roundw
      case rel =>
        refine ⟨k + 1, i + 2, by rw [HIK.out]; omega, by omega, by go_num, HW.out.1.setCell (Nat.le_refl _) _, ?_⟩
        rw [HS.out]
        unfold bump
        rw [← HVV.out]
        exact tally_put HW.out.2 _ _
      case measure => simp [intOf]; omega
    · have E : Hid (k = xs.length / 2) := Lib.hid (by omega)
      have hn : ¬ ((i : Int) + 2 ≤ xs.length) := by omega
      have hn' : (xs.length : Int) < i + 2 := by omega
      have hi8 : (i : Int) ≤ 256 := by omega
      clear hwh hbel i1 i2 hik hn
      go_wp2
      go_ret2
      rw [E.out] at HW
      exact ⟨_, _, rfl, tally_row HW.out.2 (Nat.le_refl _) HW.out.2.lt, HW.out.1⟩
theorem specPairs_no (xs : List Int) (d : Int) (ao : Option Addr) (c : Nat) (w : World) (hv : ¬(wordsB xs = true ∧ 1 ≤ d ∧ d ≤ 16)) (hx : Holds w ao (il xs)) (hlen : xs.length ≤ 1048576) :
    Calls Try.prog 42 #[.slice ao xs.length c, .int .i64 d] w (RetB (.tuple #[.slice none 0 0, .bool false]) w) := by
  have HX := Lib.hid hx
  have HV := Lib.hid hv
  clear hx hv
  go_enter Try.func42, Try.ntmps42
  go_wp2_with fail
  refine (l02AreWords_any xs _ _ _ HX.out hlen).mono ?_
  rintro e w1 ⟨rfl, rfl⟩
  cases hw : wordsB xs with
  | false =>
    go_wp2_with fail
    go_ret2
    exact ⟨rfl, Below.refl _ _⟩
  | true =>
    go_wp2_with fail
    refine (l00In_no _ _ _ (by have h := HV.out; simp [hw] at h; omega) _).mono ?_
    rintro e w1 ⟨rfl, rfl⟩
    go_wp2_with fail
    go_ret2
    exact ⟨rfl, Below.refl _ _⟩
theorem implPairs_no (xs : List Int) (d : Int) (ao : Option Addr) (c : Nat) (w : World) (hv : ¬(wordsB xs = true ∧ 1 ≤ d ∧ d ≤ 16)) (hx : Holds w ao (il xs)) (hlen : xs.length ≤ 1048576) :
    Calls Try.prog 43 #[.slice ao xs.length c, .int .i64 d] w (RetB (.tuple #[.slice none 0 0, .bool false]) w) := by
  have HX := Lib.hid hx
  have HV := Lib.hid hv
  clear hx hv
  go_enter Try.func43, Try.ntmps43
  go_wp2_with fail
  refine (implWords_any xs _ _ _ HX.out hlen).mono ?_
  rintro e w1 ⟨rfl, hb⟩
  have HB := Lib.hid hb
  clear hb
  cases hw : wordsB xs with
  | false =>
    go_wp2
    go_ret2
    exact ⟨rfl, HB.out⟩
  | true =>
    by_cases h1 : d < 1
    · go_wp2
      go_ret2
      exact ⟨rfl, HB.out⟩
    · have h2 : 16 < d := by have h := HV.out; simp [hw] at h; omega
      have h1' : 1 ≤ d := by omega
      clear h1
      go_wp2
      go_ret2
      exact ⟨rfl, HB.out⟩
theorem implPairs_yes (xs : List Int) (d : Nat) (ao : Option Addr) (w : World) (hv : wordsB xs = true ∧ 1 ≤ d ∧ d ≤ 16) (hx : Holds w ao (il xs)) :
    Calls Try.prog 43 #[.slice ao xs.length xs.length, .int .i64 d] w (RetL (d * d) (il (pairsK d xs (xs.length / 2))) (fun s => .tuple #[s, .bool true]) w) := by
  have HX := Lib.hid hx
  have hlen := wordsB_len hv.1
  have HV := Lib.hid hv
  have h1 : (1 : Int) ≤ d := by omega
  have h2 : (d : Int) ≤ 16 := by omega
  have hdd : (d : Int) * d ≤ 256 := by
    have : d * d ≤ 16 * 16 := Nat.mul_le_mul (by omega) (by omega)
    rw [← Int.natCast_mul]; omega
  have hdd0 : 0 ≤ (d : Int) * d := by rw [← Int.natCast_mul]; omega
  have hmk : ∀ w : World, (Instr.makeSlice 25 (.int .i64 ((d : Int) * d)) (.int .i64 ((d : Int) * d))).run Try.prog w = .ok (.slice (some ⟨w.heap.size, 0, none⟩) (d * d) (d * d)) (w.alloc (.cells (Array.replicate (d * d) (.int .i64 0)) 2)) := fun w => by
    have := run_mk16 (P := Try.prog) w 25 2 (d * d) (by rw [← Int.natCast_mul] at hdd; omega) Try.underlying25 (by kernel_rfl)
    rwa [Int.natCast_mul] at this
  clear hx hv
  go_enter Try.func43, Try.ntmps43
  go_wp2_with fail
  refine (implWords_any xs _ _ _ HX.out (by omega)).mono ?_
  rintro e w1 ⟨rfl, hb⟩
  have HB := Lib.hid hb
  clear hb
  have hw := HV.out.1
  go_wp2_with fail
  clear hmk
  go_loopw [0] (fun s wr => ∃ (k i n : Nat) (A : Option Addr), i = 2 * k ∧ n + i = xs.length ∧ s = .slice A n n ∧ Holds w1 A (il (xs.drop i)) ∧ Below w1.heap.size w1 wr ∧ Whole wr w1.heap.size 2 (il (pairsK d xs k)).toArray) (fun s _ => match s with | .slice _ n _ => n | _ => 0)
  case atStart => exact ⟨0, 0, xs.length, ao, rfl, rfl, rfl, HX.out.below HB.out, (Below.refl _ _).alloc (Nat.le_refl _) _, tally_new _ _ _⟩
  case round =>
    obtain ⟨k, i, n, A, hik, hin, rfl, hol, hbel, hwh⟩ := hrel
    obtain ⟨i1, i2⟩ := pairsK_inv d xs k
    have HW := Lib.hid (And.intro hbel hwh)
    have hsz := hwh.lt
    have HO := Lib.hid hol
    have hn8 : n ≤ 256 := by omega
    by_cases hlt : 2 ≤ n
    · obtain ⟨b, o, rfl, hc0⟩ := (Holds.below hol hbel) 0 (by simp [il]; omega)
      obtain ⟨b', o', e', hc1⟩ := (Holds.below hol hbel) 1 (by simp [il]; omega)
      cases e'
      rw [il_get _ _ (by simp; omega), show (xs.drop i)[0]?.getD 0 = xs[i]?.getD 0 by simp, Nat.add_zero] at hc0
      rw [il_get _ _ (by simp; omega), show (xs.drop i)[1]?.getD 0 = xs[i + 1]?.getD 0 by simp] at hc1
      have g0 := wordsB_get hw (show i < xs.length by omega)
      have g1 := wordsB_get hw (show i + 1 < xs.length by omega)
      have q0 := digP_lt d xs i hw (by omega) (by omega)
      have q1 := digP_lt d xs (i + 1) hw (by omega) (by omega)
      have hS : pairsK d xs (k + 1) = bump (pairsK d xs k) (d * digP d xs i + digP d xs (i + 1)) := by rw [hik]; rfl
      have hj := pair_lt d _ _ q0 q1
      obtain ⟨n0, en0⟩ : ∃ n : Nat, xs[i]?.getD 0 = n := ⟨_, (Int.toNat_of_nonneg g0.1).symm⟩
      obtain ⟨n1, en1⟩ : ∃ n : Nat, xs[i + 1]?.getD 0 = n := ⟨_, (Int.toNat_of_nonneg g1.1).symm⟩
      have d0 : (n0 : Int) * d / 4294967296 = (digP d xs i : Nat) := by unfold digP; rw [en0]; simp
      have d1 : (n1 : Int) * d / 4294967296 = (digP d xs (i + 1) : Nat) := by unfold digP; rw [en1]; simp
      rw [en0] at hc0 g0
      rw [en1] at hc1 g1
      have m0 : 0 ≤ (n0 : Int) * d ∧ (n0 : Int) * d ≤ 68719476736 := by
        have : n0 * d ≤ 4294967296 * 16 := Nat.mul_le_mul (by omega) (by omega)
        rw [← Int.natCast_mul]; omega
      have m1 : 0 ≤ (n1 : Int) * d ∧ (n1 : Int) * d ≤ 68719476736 := by
        have : n1 * d ≤ 4294967296 * 16 := Nat.mul_le_mul (by omega) (by omega)
        rw [← Int.natCast_mul]; omega
      generalize digP d xs i = a at *
      generalize digP d xs (i + 1) = b2 at *
      have m2 : 0 ≤ (d : Int) * a ∧ (d : Int) * a ≤ 256 := by
        have : d * a ≤ 16 * 16 := Nat.mul_le_mul (by omega) (by omega)
        rw [← Int.natCast_mul]; omega
      obtain ⟨j, ej⟩ : ∃ j, j = d * a + b2 := ⟨_, rfl⟩
      have ej' : (d : Int) * a + b2 = j := by rw [ej, Int.natCast_add, Int.natCast_mul]
      rw [← ej] at hS hj
      have hcell := tally_cell hwh j (by rw [i1]; exact hj)
      have hfr := hwh.frozen j
      have hbd := i2 j
      have hjl : j < d * d := hj
      have hjl' : (j : Int) < d * d := by rw [← Int.natCast_mul]; omega
      obtain ⟨v, hv⟩ : ∃ v, v = (pairsK d xs k)[j]?.getD 0 := ⟨_, rfl⟩
      rw [← hv] at hcell hbd
      have HS := Lib.hid hS
      have HVV := Lib.hid hv
      have HIK := Lib.hid hik
      have HIN := Lib.hid hin
      have hkk : k ≤ 256 := by omega
      have hn1 : (1 : Int) < n := by omega
      have hn0 : 0 < n := by omega
      clear hv hS hwh hbel i2 en0 en1 hj ej hik i1 hin hol
      have r0 : IntKind.i64.wrap ((n0 : Int) * d) = (n0 : Int) * d := IntWalk.i64_in _ (by omega)
      have r1 : IntKind.i64.wrap ((n1 : Int) * d) = (n1 : Int) * d := IntWalk.i64_in _ (by omega)
      have r2 : IntKind.i64.wrap (((n0 : Int) * d).tdiv 4294967296) = (a : Int) := by rw [IntWalk.i64_quo _ _ (by omega)]; exact d0
      have r3 : IntKind.i64.wrap (((n1 : Int) * d).tdiv 4294967296) = (b2 : Int) := by rw [IntWalk.i64_quo _ _ (by omega)]; exact d1
      have R := Lib.hid (And.intro r0 (And.intro r1 (And.intro r2 r3)))
      by_cases hcap : n = 2
      · subst hcap
        go_wp2
        go_quiet (fail)
        clear r0 r1 r2 r3
        go_wp2
        go_roundw
        case rel =>
          refine ⟨k + 1, i + 2, 0, _, by rw [HIK.out]; omega, by have := HIN.out; omega, rfl, by rw [show xs.drop (i + 2) = [] from List.drop_eq_nil_of_le (by have := HIN.out; omega)]; exact Holds.nil _ _, (Bel_drewN HW.out.1 _).setCell (Nat.le_refl _) _, ?_⟩
          rw [HS.out]
          unfold bump
          rw [← HVV.out]
          exact tally_put (HW.out.2.drewN _) _ _
        case measure => simp
      · go_wp2
        go_quiet (fail)
        clear r0 r1 r2 r3
        go_wp2
        go_roundw
        case rel =>
          refine ⟨k + 1, i + 2, n - 2, _, by rw [HIK.out]; omega, by have := HIN.out; omega, rfl, ?_, (Bel_drewN HW.out.1 _).setCell (Nat.le_refl _) _, ?_⟩
          · have := (HO.out.drop 2)
            rwa [show (il (xs.drop i)).drop 2 = il (xs.drop (i + 2)) by simp [il, List.map_drop]] at this
          · rw [HS.out]
            unfold bump
            rw [← HVV.out]
            exact tally_put (HW.out.2.drewN _) _ _
        case measure => simp; omega
    · have E : Hid (k = xs.length / 2) := Lib.hid (by omega)
      have hn' : (n : Int) < 2 := by omega
      clear hwh hbel i1 i2 hik hol hlt
      go_wp2
      go_ret2
      rw [E.out] at HW
      exact ⟨_, _, rfl, tally_row HW.out.2 HB.out.size HW.out.2.lt, Bel_next HB.out HW.out.1⟩
end Go.Proofs.Ytdmbhnllebipjab
