/- Trees of sums: sums of the first weights (l03First), and TreeSum. -/
import Derived.Test.YthalameadedbmaaTv
namespace Go.Proofs.Ythalameadedbmaa
open Go Go.RowKit
set_option linter.unusedVariables false

theorem sumR_split (ws : List Int) (lo d : Nat) : ∀ e, sumR ws lo (d + e) = sumR ws lo d + sumR ws (lo + d) e
  | 0 => by simp [sumR]
  | e + 1 => by rw [← Nat.add_assoc, sumR_next, sumR_next, sumR_split ws lo d e, show lo + (d + e) = lo + d + e by omega]; omega
/-- The tree's number at the index i, of the first i + 1 weights. -/
theorem sumR_tree {us ts : List Int} (hu : isLeafs us) (e : treeL us = ts) (i : Nat) (h : i < ts.length) :
    lowN (i + 1) ≤ i + 1 ∧ sumR us 0 (i + 1) = sumR us 0 (i + 1 - lowN (i + 1)) + ts[i]?.getD 0 := by
  subst e
  rw [treeL_len] at h
  have h64 := hu.2.1
  have hl := low_le (i + 1) (by omega) (by omega)
  refine ⟨hl, ?_⟩
  rw [treeL_at us i h h64]
  have := sumR_split us 0 (i + 1 - lowN (i + 1)) (lowN (i + 1))
  rw [Nat.zero_add, show i + 1 - lowN (i + 1) + lowN (i + 1) = i + 1 by omega] at this
  exact this
theorem isTree_iff {ts : List Int} (hr : ∀ x ∈ ts, -9223372036854775808 ≤ x ∧ x ≤ 9223372036854775807) : isLeafs (ledW ts) ↔ isTree ts :=
  ⟨fun h => ⟨_, h, (tree_of_led ts hr h).symm⟩, fun ⟨us, hu, e⟩ => by rw [← e, led_tree us hu]; exact hu⟩
theorem led_is {us ts : List Int} (hu : isLeafs us) (e : treeL us = ts) : ledW ts = us := by rw [← e, led_tree us hu]
theorem tree_len {us ts : List Int} (e : treeL us = ts) : us.length = ts.length := by rw [← e, treeL_len]
set_option maxHeartbeats 1000000 in
theorem l03First_any (us : List Int) (ao : Option Addr) (c n : Nat) (w : World) (hx : Holds w ao (il us)) (hu : leafs us) (hn : n ≤ us.length) (h64 : us.length ≤ 64) :
    Calls Try.prog 56 #[.slice ao us.length c, .int .i64 n] w (fun e w' => e = .returned (.int .i64 (sumR us 0 n)) ∧ w = w') := by
  have HX := Lib.hid hx
  have HU := Lib.hid hu
  clear hx hu
  go_enter Try.func56, Try.ntmps56
  go_wp2
  go_loop [5, 6] (fun s i => ∃ k : Nat, k ≤ n ∧ i = .int .i64 (k : Int) ∧ s = .int .i64 (sumR us 0 k)) (fun _ i => n - (intOf i).toNat)
  case atStart => exact ⟨0, Nat.zero_le _, rfl, rfl⟩
  case round =>
    obtain ⟨k, hk, rfl, rfl⟩ := hrel
    have hbd := sumR_bd HU.out 0 k
    by_cases hlt : k < n
    · obtain ⟨b, o, hao, hc⟩ := HX.out k (by simp [il]; omega)
      subst hao
      rw [il_get _ _ (by omega)] at hc
      have HN := Lib.hid (sumR_next us 0 k)
      rw [Nat.zero_add] at HN
      have hb := HU.out k
      generalize us[k]?.getD 0 = x at *
      obtain ⟨S, hS⟩ : ∃ S, S = sumR us 0 k := ⟨_, rfl⟩
      rw [← hS] at hbd HN ⊢
      have hb0 := hbd.1
      have hb1 : S ≤ 64000000 := by omega
      have hx0 := hb.1
      have hx1 := hb.2
      have hlt' : (k : Int) < n := by omega
      have hkl : (k : Int) < us.length := by omega
      clear hS hbd hb
      go_wp2
      go_round
      case rel => exact ⟨k + 1, by omega, by go_num, by rw [HN.out]⟩
      case measure => simp [intOf]; omega
    · obtain rfl : k = n := by omega
      go_wp2
      go_ret
      exact ⟨rfl, rfl⟩
/-- The sum of the first i weights of a tree ts. -/
def TsumP (ts : List Int) (i : Nat) (S : Int) : Prop := ∃ us, isLeafs us ∧ treeL us = ts ∧ S = sumR us 0 i
set_option maxRecDepth 100000 in
set_option maxHeartbeats 1000000 in
theorem specTreeSum_yes (ts us : List Int) (ao : Option Addr) (c n : Nat) (w : World) (hx : Holds w ao (il ts)) (hl : ts.length ≤ 1048576) (hu : isLeafs us) (e : treeL us = ts) (hn : n ≤ ts.length) :
    Calls Try.prog 15 #[.slice ao ts.length c, .int .i64 n] w (RetB (.tuple #[.int .i64 (sumR us 0 n), .bool true]) w) := by
  have HX := Lib.hid hx
  have HU := Lib.hid (And.intro hu e)
  have hl' : (ts.length : Int) ≤ 1048576 := by omega
  clear hx hu e
  go_enter Try.func15, Try.ntmps15
  go_wp2_with fail
  refine (l03Leaves_any ts ao c _ HX.out hl).mono ?_
  rintro e w1 (⟨vs, hvs, hvt, g, cc, rfl, hg, hrow, hbel⟩ | ⟨hno, _⟩)
  · obtain rfl : vs = us := treeL_inj hvs HU.out.1 (hvt.trans HU.out.2.symm)
    have H1 := Lib.hid (And.intro hrow hbel)
    have HVL : Hid (vs.length = ts.length) := Lib.hid (tree_len hvt)
    clear hvs hvt hrow hbel hg
    have hn0 : (0 : Int) ≤ n := by omega
    have hn1 : (n : Int) ≤ ts.length := by omega
    go_wp2_with fail
    refine (l00In_yes _ _ _ (by omega) (by omega) _).mono ?_
    rintro e w3 ⟨rfl, rfl⟩
    have HF := Lib.hid (l03First_any vs _ cc n w1 ((H1.out.1.row (lo := g) (hi := w1.heap.size) (Nat.le_refl _) H1.out.1.lt).holds) HU.out.1.2.2 (by rw [HVL.out]; exact hn) HU.out.1.2.1)
    go_wp2_with fail
    have hcall := HF.out
    refine hcall.mono ?_
    rintro e w3 ⟨rfl, rfl⟩
    clear hcall
    go_wp2
    go_ret2
    exact ⟨rfl, H1.out.2⟩
  · exact absurd ⟨us, HU.out⟩ hno
set_option maxHeartbeats 1000000 in
theorem specTreeSum_no (ts : List Int) (ao : Option Addr) (c : Nat) (n : Int) (w : World) (hx : Holds w ao (il ts)) (hl : ts.length ≤ 1048576) (h : ¬ (isTree ts ∧ 0 ≤ n ∧ n ≤ ts.length)) :
    Calls Try.prog 15 #[.slice ao ts.length c, .int .i64 n] w (RetB (.tuple #[.int .i64 0, .bool false]) w) := by
  have HX := Lib.hid hx
  have HN := Lib.hid h
  have hl' : (ts.length : Int) ≤ 1048576 := by omega
  clear hx h
  go_enter Try.func15, Try.ntmps15
  go_wp2_with fail
  refine (l03Leaves_any ts ao c _ HX.out hl).mono ?_
  rintro e w1 (⟨vs, hvs, hvt, g, cc, rfl, hg, hrow, hbel⟩ | ⟨hno, rfl, hbel⟩)
  · have H1 := Lib.hid hbel
    have HD : Hid (decide (0 ≤ n ∧ n ≤ (ts.length : Int)) = false) := Lib.hid (decide_eq_false fun hh => HN.out ⟨⟨vs, hvs, hvt⟩, hh⟩)
    clear hvs hvt hrow hbel hg
    go_wp2_with fail
    refine (l00In_any _ _ _ _).mono ?_
    rintro e w3 ⟨rfl, rfl⟩
    rw [HD.out]
    go_wp2
    go_ret2
    exact ⟨rfl, H1.out⟩
  · have H1 := Lib.hid hbel
    clear hbel
    go_wp2
    go_ret2
    exact ⟨rfl, H1.out⟩
set_option maxRecDepth 100000 in
set_option maxHeartbeats 2000000 in
theorem implTreeSum_yes (ts us : List Int) (ao : Option Addr) (c n : Nat) (w : World) (hx : Holds w ao (il ts)) (hl : ts.length ≤ 1048576) (hu : isLeafs us) (e : treeL us = ts) (hn : n ≤ ts.length) (hr : ∀ x ∈ ts, -9223372036854775808 ≤ x ∧ x ≤ 9223372036854775807) :
    Calls Try.prog 17 #[.slice ao ts.length c, .int .i64 n] w (RetB (.tuple #[.int .i64 (sumR us 0 n), .bool true]) w) := by
  have HX := Lib.hid hx
  have HR := Lib.hid hr
  have HU := Lib.hid (And.intro hu e)
  have h64 : ts.length ≤ 64 := by rw [← tree_len e]; exact hu.2.1
  have hl' : (ts.length : Int) ≤ 64 := by omega
  clear hx hu e hr
  have hn0 : decide ((n : Int) < 0) = false := decide_eq_false (by omega)
  have hn1 : decide (ts.length < n) = false := decide_eq_false (by omega)
  go_enter Try.func17, Try.ntmps17
  go_wp2_with fail
  refine (weightsOf_any ts ao c _ HX.out hl HR.out).mono ?_
  rintro e w1 (⟨_, rfl, hrow, hbel⟩ | ⟨hno, _⟩)
  · have H1 := Lib.hid hbel
    have HXo := Lib.hid (HX.out.below hbel)
    clear hbel hrow
    go_wp2
    go_loop [8, 9] (fun s i => ∃ k : Nat, k ≤ n ∧ i = .int .i64 (k : Int) ∧ s = .int .i64 (sumR us 0 n - sumR us 0 k)) (fun _ i => (intOf i).toNat)
    case atStart => exact ⟨n, Nat.le_refl _, rfl, by congr 1; omega⟩
    case round =>
      obtain ⟨k, hk, rfl, rfl⟩ := hrel
      by_cases hpos : 1 ≤ k
      · obtain ⟨i, rfl⟩ : ∃ i, k = i + 1 := ⟨k - 1, by omega⟩
        have HS := Lib.hid (sumR_tree HU.out.1 HU.out.2 i (by omega))
        have HLOW := Lib.hid (lastDigit_any (i + 1) (by omega) (by omega))
        have hlp := low_pos (i + 1)
        have hb1 := sumR_bd HU.out.1.2.2 0 n
        have hb2 := sumR_bd HU.out.1.2.2 0 (i + 1)
        have hb3 := sumR_bd HU.out.1.2.2 0 (i + 1 - lowN (i + 1))
        obtain ⟨D, hD⟩ : ∃ D, D = lowN (i + 1) := ⟨_, rfl⟩
        rw [← hD] at HS HLOW hlp hb3
        obtain ⟨b, o, hao, hc⟩ := HXo.out i (by simp [il]; omega)
        subst hao
        rw [il_get _ _ (by omega)] at hc
        obtain ⟨x, hx⟩ : ∃ x, x = ts[i]?.getD 0 := ⟨_, rfl⟩
        rw [← hx] at hc HS
        have hs := HS.out
        obtain ⟨S, hS⟩ : ∃ S, S = sumR us 0 n - sumR us 0 (i + 1) := ⟨_, rfl⟩
        have HSS := Lib.hid hS
        rw [← hS]
        have hx0 : -64000000 ≤ x := by omega
        have hx1 : x ≤ 64000000 := by omega
        have hS0 : -64000000 ≤ S := by omega
        have hS1 : S ≤ 64000000 := by omega
        have hDi : D ≤ i + 1 := hs.1
        have HD := Lib.hid hD
        have hil : (i : Int) < ts.length := by omega
        clear hs hb1 hb2 hb3 hD hx hS hpos
        go_wp2_with fail
        have hcall := HLOW.out w1
        refine hcall.mono ?_
        rintro e w3 ⟨rfl, rfl⟩
        clear hcall
        go_wp2
        go_round
        case rel =>
          refine ⟨i + 1 - D, by omega, by congr 1; omega, ?_⟩
          have h1 := HS.out.2
          have h2 := HSS.out
          congr 1
          omega
        case measure => simp [intOf]; omega
      · obtain rfl : k = 0 := by omega
        have h0 : sumR us 0 n - sumR us 0 0 = sumR us 0 n := by simp [sumR]
        rw [h0]
        go_wp2
        go_ret2
        exact ⟨rfl, H1.out⟩
  · exact absurd ((isTree_iff HR.out).2 ⟨us, HU.out⟩) hno
set_option maxHeartbeats 1000000 in
theorem implTreeSum_no (ts : List Int) (ao : Option Addr) (c : Nat) (n : Int) (w : World) (hx : Holds w ao (il ts)) (hl : ts.length ≤ 1048576) (hr : ∀ x ∈ ts, -9223372036854775808 ≤ x ∧ x ≤ 9223372036854775807) (h : ¬ (isTree ts ∧ 0 ≤ n ∧ n ≤ ts.length)) :
    Calls Try.prog 17 #[.slice ao ts.length c, .int .i64 n] w (RetB (.tuple #[.int .i64 0, .bool false]) w) := by
  have HX := Lib.hid hx
  have HN := Lib.hid h
  have HR := Lib.hid hr
  have hl' : (ts.length : Int) ≤ 1048576 := by omega
  clear hx h hr
  go_enter Try.func17, Try.ntmps17
  go_wp2_with fail
  refine (weightsOf_any ts ao c _ HX.out hl HR.out).mono ?_
  rintro e w1 (⟨hy, rfl, hrow, hbel⟩ | ⟨hno, rfl, hbel⟩)
  · have H1 := Lib.hid hbel
    have HD := Lib.hid (show ¬ (0 ≤ n ∧ n ≤ (ts.length : Int)) from fun hh => HN.out ⟨(isTree_iff HR.out).1 hy, hh⟩)
    clear hrow hbel hy
    by_cases h0 : n < 0
    · go_wp2
      go_ret2
      exact ⟨rfl, H1.out⟩
    · have h1 : (ts.length : Int) < n := by have := HD.out; omega
      go_wp2
      go_ret2
      exact ⟨rfl, H1.out⟩
  · have H1 := Lib.hid hbel
    clear hbel
    go_wp2
    go_ret2
    exact ⟨rfl, H1.out⟩
end Go.Proofs.Ythalameadedbmaa
