/- Gaps. -/
import Derived.Test.YtdmbhnllebipjabTl
import Derived.Test.YtdmbhnllebipjabWd
namespace Go.Proofs.Ytdmbhnllebipjab
open Go Go.RowKit
set_option linter.unusedVariables false

/-- The counts and the last place behind k words. -/
def gapsK (level : Int) (xs : List Int) : Nat → List Int × Int
  | 0 => (List.replicate 16 0, -1)
  | k + 1 =>
    let s := gapsK level xs k
    if level ≤ xs[k]?.getD 0 then s else (if 0 ≤ s.2 then bump s.1 (min (k - s.2.toNat) 16 - 1) else s.1, k)
theorem gapsK_inv (level : Int) (xs : List Int) (k : Nat) : (gapsK level xs k).1.length = 16 ∧ upTo k (gapsK level xs k).1 ∧ -1 ≤ (gapsK level xs k).2 ∧ (gapsK level xs k).2 < k := by
  induction k with
  | zero => exact ⟨by simp [gapsK], upTo_zero _, by simp [gapsK], by simp [gapsK]⟩
  | succ k ih =>
    obtain ⟨h1, h2, h3, h4⟩ := ih
    unfold gapsK
    dsimp only
    split
    · exact ⟨h1, h2.more (by omega), h3, by omega⟩
    · split
      · exact ⟨by rw [bump_len]; exact h1, h2.bump _, by omega, by simp; omega⟩
      · exact ⟨h1, h2.more (by omega), by omega, by simp; omega⟩
theorem gapsK_skip {level : Int} {xs : List Int} {k : Nat} (h : level ≤ xs[k]?.getD 0) : gapsK level xs (k + 1) = gapsK level xs k := by
  show (if _ then _ else _) = _; rw [if_pos h]
theorem gapsK_first {level : Int} {xs : List Int} {k : Nat} (h : ¬ level ≤ xs[k]?.getD 0) (hn : (gapsK level xs k).2 < 0) : gapsK level xs (k + 1) = ((gapsK level xs k).1, (k : Int)) := by
  show (if _ then _ else _) = _; rw [if_neg h, if_neg (by omega)]
theorem gapsK_next {level : Int} {xs : List Int} {k p : Nat} (h : ¬ level ≤ xs[k]?.getD 0) (hn : (gapsK level xs k).2 = p) : gapsK level xs (k + 1) = (bump (gapsK level xs k).1 (min (k - p) 16 - 1), (k : Int)) := by
  show (if _ then _ else _) = _; rw [if_neg h, if_pos (by omega), hn]; rfl

theorem implGaps_yes (xs : List Int) (level : Int) (ao : Option Addr) (c : Nat) (w : World) (hv : wordsB xs = true ∧ 1 ≤ level ∧ level ≤ 4294967296) (hx : Holds w ao (il xs)) :
    Calls Try.prog 39 #[.slice ao xs.length c, .int .i64 level] w (RetL 16 (il (gapsK level xs xs.length).1) (fun s => .tuple #[s, .bool true]) w) := by
  have HX := Lib.hid hx
  have hlen := wordsB_len hv.1
  have HV := Lib.hid hv
  have h2 : decide (level ≤ 4294967296) = true := by simp; omega
  have h1 : 1 ≤ level := hv.2.1
  have h1' : level ≤ 4294967296 := hv.2.2
  have hmk : ∀ w : World, (Instr.makeSlice 25 (.int .i64 16) (.int .i64 16)).run Try.prog w = .ok (.slice (some ⟨w.heap.size, 0, none⟩) 16 16) (w.alloc (.cells (Array.replicate 16 (.int .i64 0)) 2)) := fun w => run_mk16 w 25 2 16 (by omega) Try.underlying25 (by kernel_rfl)
  clear hx hv
  go_enter Try.func39, Try.ntmps39
  go_wp2_with fail
  refine (implWords_any xs _ _ _ HX.out (by omega)).mono ?_
  rintro e w1 ⟨rfl, hb⟩
  have hw := HV.out.1
  go_wp2_with fail
  have HB := Lib.hid hb
  clear hb hw
  go_loopw [7, 24] (fun l i wr => ∃ k : Nat, k ≤ xs.length ∧ i = .int .i64 k ∧ l = .int .i64 (gapsK level xs k).2 ∧ Below w1.heap.size w1 wr ∧ Whole wr w1.heap.size 2 (il (gapsK level xs k).1).toArray) (fun _ i _ => xs.length - (intOf i).toNat)
  case atStart => exact ⟨0, Nat.zero_le _, rfl, rfl, (Below.refl _ _).alloc (Nat.le_refl _) _, tally_new _ _ _⟩
  case round =>
    obtain ⟨k, hk, rfl, rfl, hbel, hwh⟩ := hrel
    obtain ⟨i1, i2, i3, i4⟩ := gapsK_inv level xs k
    have HW := Lib.hid (And.intro hbel hwh)
    have hsz := hwh.lt
    by_cases hlt : k < xs.length
    · obtain ⟨b, o, rfl, hc⟩ := (Holds.below (HX.out.below HB.out) hbel) k (by simpa [il] using hlt)
      rw [il_get _ _ hlt] at hc
      obtain ⟨l, hl⟩ : ∃ l, l = (gapsK level xs k).2 := ⟨_, rfl⟩
      rw [← hl] at i3 i4
      have HLL := Lib.hid hl
      rw [← hl]
      by_cases hge : level ≤ xs[k]?.getD 0
      · have HS := Lib.hid (gapsK_skip hge)
        obtain ⟨x, hx⟩ : ∃ x, x = xs[k]?.getD 0 := ⟨_, rfl⟩
        rw [← hx] at hc hge
        clear hx hwh hbel i2 hl
        go_wp2
        go_roundw
        case rel => exact ⟨k + 1, by omega, by go_num, by rw [HS.out, HLL.out], by rw [HS.out]; exact HW.out⟩
        case measure => simp [intOf]; omega
      · have hlv := Lib.hid hge
        obtain ⟨x, hx⟩ : ∃ x, x = xs[k]?.getD 0 := ⟨_, rfl⟩
        rw [← hx] at hc hge
        have hge' : x < level := by omega
        clear hge
        by_cases hl0 : l < 0
        · have HS := Lib.hid (gapsK_first hlv.out (by rw [← hl]; exact hl0))
          have hl0' : decide (0 ≤ l) = false := by simp; omega
          clear hx hwh hbel i2 hl hl0
          go_wp2
          go_roundw
          case rel => exact ⟨k + 1, by omega, by go_num, by rw [HS.out], by rw [HS.out]; exact HW.out⟩
          case measure => simp [intOf]; omega
        · obtain ⟨p, rfl⟩ : ∃ p : Nat, l = p := ⟨l.toNat, by omega⟩
          have hpk : p < k := by omega
          have HS := Lib.hid (gapsK_next hlv.out hl.symm)
          clear hl0
          by_cases hd : k - p ≤ 16
          · have hcell := tally_cell hwh (k - p - 1) (by rw [i1]; omega)
            have hfr := hwh.frozen (k - p - 1)
            have hbd := i2 (k - p - 1)
            have HJ : Hid (min (k - p) 16 - 1 = k - p - 1) := Lib.hid (by omega)
            obtain ⟨v, hv⟩ : ∃ v, v = (gapsK level xs k).1[k - p - 1]?.getD 0 := ⟨_, rfl⟩
            rw [← hv] at hcell hbd
            have HVV := Lib.hid hv
            clear hx hwh hbel hl hv i2
            go_wp2
            go_roundw
            case rel =>
              refine ⟨k + 1, by omega, by go_num, by rw [HS.out], ?_⟩
              rw [HS.out, HJ.out]
              refine ⟨HW.out.1.setCell (Nat.le_refl _) _, ?_⟩
              unfold bump
              rw [← HVV.out]
              exact tally_put HW.out.2 _ _
            case measure => simp [intOf]; omega
          · have hcell := tally_cell hwh (15) (by rw [i1]; omega)
            have hfr := hwh.frozen (15)
            have hbd := i2 (15)
            have HJ : Hid (min (k - p) 16 - 1 = 15) := Lib.hid (by omega)
            obtain ⟨v, hv⟩ : ∃ v, v = (gapsK level xs k).1[15]?.getD 0 := ⟨_, rfl⟩
            rw [← hv] at hcell hbd
            have HVV := Lib.hid hv
            clear hx hwh hbel hl hv i2
            go_wp2
            go_roundw
            case rel =>
              refine ⟨k + 1, by omega, by go_num, by rw [HS.out], ?_⟩
              rw [HS.out, HJ.out]
              refine ⟨HW.out.1.setCell (Nat.le_refl _) _, ?_⟩
              unfold bump
              rw [← HVV.out]
              exact tally_put HW.out.2 _ _
            case measure => simp [intOf]; omega
    · have E : Hid (k = xs.length) := Lib.hid (by omega)
      clear hwh hbel i1 i2 i3 i4
      go_wp2
      go_ret2
      rw [E.out] at HW
      exact ⟨_, _, rfl, tally_row HW.out.2 (Nat.le_trans HB.out.size (Nat.le_refl _)) HW.out.2.lt, Bel_next HB.out HW.out.1⟩
theorem implGaps_no (xs : List Int) (level : Int) (ao : Option Addr) (c : Nat) (w : World) (hv : ¬(wordsB xs = true ∧ 1 ≤ level ∧ level ≤ 4294967296)) (hx : Holds w ao (il xs)) (hlen : xs.length ≤ 1048576) :
    Calls Try.prog 39 #[.slice ao xs.length c, .int .i64 level] w (RetB (.tuple #[.slice none 0 0, .bool false]) w) := by
  have HX := Lib.hid hx
  have HV := Lib.hid hv
  clear hx hv
  go_enter Try.func39, Try.ntmps39
  go_wp2_with fail
  refine (implWords_any xs _ _ _ HX.out hlen).mono ?_
  rintro e w1 ⟨rfl, hb⟩
  have HB := Lib.hid hb
  clear hb
  cases hw : wordsB xs with
  | false =>
    go_wp2
    go_ret2
    exact ⟨rfl, HB.out⟩
  | true =>
    by_cases h1 : level < 1
    · go_wp2
      go_ret2
      exact ⟨rfl, HB.out⟩
    · have h2 : 4294967296 < level := by have h := HV.out; simp [hw] at h; omega
      have h1' : 1 ≤ level := by omega
      clear h1
      go_wp2
      go_ret2
      exact ⟨rfl, HB.out⟩
theorem specGaps_yes (xs : List Int) (level : Int) (ao : Option Addr) (c : Nat) (w : World) (hv : wordsB xs = true ∧ 1 ≤ level ∧ level ≤ 4294967296) (hx : Holds w ao (il xs)) :
    Calls Try.prog 38 #[.slice ao xs.length c, .int .i64 level] w (RetL 16 (il (gapsK level xs xs.length).1) (fun s => .tuple #[s, .bool true]) w) := by
  have HX := Lib.hid hx
  have hlen := wordsB_len hv.1
  have HV := Lib.hid hv
  have h2 : decide (level ≤ 4294967296) = true := by simp; omega
  have h1 : 1 ≤ level := hv.2.1
  have h1' : level ≤ 4294967296 := hv.2.2
  have hmk : ∀ w : World, (Instr.makeSlice 25 (.int .i64 16) (.int .i64 16)).run Try.prog w = .ok (.slice (some ⟨w.heap.size, 0, none⟩) 16 16) (w.alloc (.cells (Array.replicate 16 (.int .i64 0)) 2)) := fun w => run_mk16 w 25 2 16 (by omega) Try.underlying25 (by kernel_rfl)
  clear hx hv
  go_enter Try.func38, Try.ntmps38
  go_wp2_with fail
  refine (l02AreWords_any xs _ _ _ HX.out (by omega)).mono ?_
  rintro e w ⟨rfl, rfl⟩
  have hb := Below.refl w.heap.size w
  have hw := HV.out.1
  go_wp2_with fail
  refine (l00In_yes _ _ _ h1 h1' _).mono ?_
  rintro e w ⟨rfl, rfl⟩
  go_wp2_with fail
  have HB := Lib.hid hb
  clear hb hw
  go_loopw [7, 8] (fun l i wr => ∃ k : Nat, k ≤ xs.length ∧ i = .int .i64 k ∧ l = .int .i64 (gapsK level xs k).2 ∧ Below w.heap.size w wr ∧ Whole wr w.heap.size 2 (il (gapsK level xs k).1).toArray) (fun _ i _ => xs.length - (intOf i).toNat)
  case atStart => exact ⟨0, Nat.zero_le _, rfl, rfl, (Below.refl _ _).alloc (Nat.le_refl _) _, tally_new _ _ _⟩
  case round =>
    obtain ⟨k, hk, rfl, rfl, hbel, hwh⟩ := hrel
    obtain ⟨i1, i2, i3, i4⟩ := gapsK_inv level xs k
    have HW := Lib.hid (And.intro hbel hwh)
    have hsz := hwh.lt
    by_cases hlt : k < xs.length
    · obtain ⟨b, o, rfl, hc⟩ := (Holds.below (HX.out.below HB.out) hbel) k (by simpa [il] using hlt)
      rw [il_get _ _ hlt] at hc
      obtain ⟨l, hl⟩ : ∃ l, l = (gapsK level xs k).2 := ⟨_, rfl⟩
      rw [← hl] at i3 i4
      have HLL := Lib.hid hl
      rw [← hl]
      by_cases hge : level ≤ xs[k]?.getD 0
      · have HS := Lib.hid (gapsK_skip hge)
        obtain ⟨x, hx⟩ : ∃ x, x = xs[k]?.getD 0 := ⟨_, rfl⟩
        rw [← hx] at hc hge
        clear hx hwh hbel i2 hl
        go_wp2
        go_roundw
        case rel => exact ⟨k + 1, by omega, by go_num, by rw [HS.out, HLL.out], by rw [HS.out]; exact HW.out⟩
        case measure => simp [intOf]; omega
      · have hlv := Lib.hid hge
        obtain ⟨x, hx⟩ : ∃ x, x = xs[k]?.getD 0 := ⟨_, rfl⟩
        rw [← hx] at hc hge
        have hge' : x < level := by omega
        clear hge
        by_cases hl0 : l < 0
        · have HS := Lib.hid (gapsK_first hlv.out (by rw [← hl]; exact hl0))
          have hl0' : decide (0 ≤ l) = false := by simp; omega
          clear hx hwh hbel i2 hl hl0
          go_wp2
          go_roundw
          case rel => exact ⟨k + 1, by omega, by go_num, by rw [HS.out], by rw [HS.out]; exact HW.out⟩
          case measure => simp [intOf]; omega
        · obtain ⟨p, rfl⟩ : ∃ p : Nat, l = p := ⟨l.toNat, by omega⟩
          have hpk : p < k := by omega
          have HS := Lib.hid (gapsK_next hlv.out hl.symm)
          clear hl0
          by_cases hd : k - p ≤ 16
          · have hcell := tally_cell hwh (k - p - 1) (by rw [i1]; omega)
            have hfr := hwh.frozen (k - p - 1)
            have hbd := i2 (k - p - 1)
            have HJ : Hid (min (k - p) 16 - 1 = k - p - 1) := Lib.hid (by omega)
            obtain ⟨v, hv⟩ : ∃ v, v = (gapsK level xs k).1[k - p - 1]?.getD 0 := ⟨_, rfl⟩
            rw [← hv] at hcell hbd
            have HVV := Lib.hid hv
            clear hx hwh hbel hl hv i2
            go_wp2
            go_roundw
            case rel =>
              refine ⟨k + 1, by omega, by go_num, by rw [HS.out], ?_⟩
              rw [HS.out, HJ.out]
              refine ⟨HW.out.1.setCell (Nat.le_refl _) _, ?_⟩
              unfold bump
              rw [← HVV.out]
              exact tally_put HW.out.2 _ _
            case measure => simp [intOf]; omega
          · have hcell := tally_cell hwh (15) (by rw [i1]; omega)
            have hfr := hwh.frozen (15)
            have hbd := i2 (15)
            have HJ : Hid (min (k - p) 16 - 1 = 15) := Lib.hid (by omega)
            obtain ⟨v, hv⟩ : ∃ v, v = (gapsK level xs k).1[15]?.getD 0 := ⟨_, rfl⟩
            rw [← hv] at hcell hbd
            have HVV := Lib.hid hv
            clear hx hwh hbel hl hv i2
            go_wp2
            go_roundw
            case rel =>
              refine ⟨k + 1, by omega, by go_num, by rw [HS.out], ?_⟩
              rw [HS.out, HJ.out]
              refine ⟨HW.out.1.setCell (Nat.le_refl _) _, ?_⟩
              unfold bump
              rw [← HVV.out]
              exact tally_put HW.out.2 _ _
            case measure => simp [intOf]; omega
    · have E : Hid (k = xs.length) := Lib.hid (by omega)
      clear hwh hbel i1 i2 i3 i4
      go_wp2
      go_ret2
      rw [E.out] at HW
      exact ⟨_, _, rfl, tally_row HW.out.2 (Nat.le_trans HB.out.size (Nat.le_refl _)) HW.out.2.lt, Bel_next HB.out HW.out.1⟩
theorem specGaps_no (xs : List Int) (level : Int) (ao : Option Addr) (c : Nat) (w : World) (hv : ¬(wordsB xs = true ∧ 1 ≤ level ∧ level ≤ 4294967296)) (hx : Holds w ao (il xs)) (hlen : xs.length ≤ 1048576) :
    Calls Try.prog 38 #[.slice ao xs.length c, .int .i64 level] w (RetB (.tuple #[.slice none 0 0, .bool false]) w) := by
  have HX := Lib.hid hx
  have HV := Lib.hid hv
  clear hx hv
  go_enter Try.func38, Try.ntmps38
  go_wp2_with fail
  refine (l02AreWords_any xs _ _ _ HX.out hlen).mono ?_
  rintro e w1 ⟨rfl, rfl⟩
  cases hw : wordsB xs with
  | false =>
    go_wp2_with fail
    go_ret2
    exact ⟨rfl, Below.refl _ _⟩
  | true =>
    go_wp2_with fail
    refine (l00In_no _ _ _ (by have h := HV.out; simp [hw] at h; omega) _).mono ?_
    rintro e w1 ⟨rfl, rfl⟩
    go_wp2_with fail
    go_ret2
    exact ⟨rfl, Below.refl _ _⟩
end Go.Proofs.Ytdmbhnllebipjab
