/- The bits of words. -/
import Derived.Test.YtdmbhnllebipjabTl
import Derived.Test.YtdmbhnllebipjabWd
import Derived.Test.YtdmbhnllebipjabBl
namespace Go.Proofs.Ytdmbhnllebipjab
open Go Go.RowKit
set_option linter.unusedVariables false

/-- The bit number i of the words. -/
def bitK (xs : List Int) (i : Nat) : Bool := (xs[i / 32]?.getD 0).toNat / 2 ^ (31 - i % 32) % 2 == 1
def bitsL (xs : List Int) (n : Nat) : List Bool := (List.range n).map (bitK xs)
theorem bitsL_len (xs : List Int) (n : Nat) : (bitsL xs n).length = n := by simp [bitsL]
theorem bitsL_next (xs : List Int) (n : Nat) : bitsL xs (n + 1) = bitsL xs n ++ [bitK xs n] := by simp [bitsL, List.range_succ]
theorem bitsL_get (xs : List Int) (n k : Nat) (h : k < n) : (bl (bitsL xs n)).getD k undef = .bool (bitK xs k) := by
  rw [bl_get _ _ (by rw [bitsL_len]; exact h)]; simp [bitsL, h]

theorem bit_same (x s : Nat) : (((x : Int) / 2 ^ s).tmod 2 == 1) = ((x : Int).toNat / 2 ^ s % 2 == 1) := by
  have e : ((x : Int) / 2 ^ s).tmod 2 = ((x / 2 ^ s % 2 : Nat) : Int) := by
    have : ((x : Int) / 2 ^ s) = ((x / 2 ^ s : Nat) : Int) := by simp
    rw [this]; rfl
  rw [e, Int.toNat_natCast]
  generalize x / 2 ^ s % 2 = m
  rw [Bool.eq_iff_iff]; simp; omega

theorem bit_and (x s : Nat) (hx : x < 4294967296) : (bits .and .i64 ((x : Int) / 2 ^ s) 1 == 1) = ((x : Int).toNat / 2 ^ s % 2 == 1) := by
  have hm : x / 2 ^ s < 4294967296 := Nat.lt_of_le_of_lt (Nat.div_le_self _ _) hx
  rw [show ((x : Int) / 2 ^ s) = ((x / 2 ^ s : Nat) : Int) by simp, Int.toNat_natCast]
  generalize x / 2 ^ s = m at hm
  have e : bits .and .i64 (m : Int) 1 = ((m % 2 : Nat) : Int) := by
    show IntKind.i64.wrap ((BitVec.ofInt 64 (m : Int) &&& BitVec.ofInt 64 ((1 : Nat) : Int)).toNat : Int) = _
    rw [BitVec.toNat_and, BitVec.ofInt_natCast, BitVec.ofInt_natCast, BitVec.toNat_ofNat, BitVec.toNat_ofNat, Nat.mod_eq_of_lt (by omega), Nat.mod_eq_of_lt (by omega), Nat.and_one_is_mod, IntKind.wrap_i64]
    omega
  rw [e, Bool.eq_iff_iff]; simp; omega

set_option maxRecDepth 100000 in
set_option maxHeartbeats 400000 in
theorem implBits_yes (xs : List Int) (n : Nat) (ao : Option Addr) (c : Nat) (w : World) (hv : wordsB xs = true ∧ n ≤ 32 * xs.length) (hx : Holds w ao (il xs)) :
    Calls Try.prog 29 #[.slice ao xs.length c, .int .i64 n] w (RetL n (bl (bitsL xs n)) (fun s => .tuple #[s, .bool true]) w) := by
  have HX := Lib.hid hx
  have hlen := wordsB_len hv.1
  have hn := hv.2
  have hn' : (n : Int) ≤ 32 * xs.length := by omega
  have HV := Lib.hid hv
  have hmk : ∀ w : World, (Instr.makeSlice 43 (.int .i64 (n : Int)) (.int .i64 (n : Int))).run Try.prog w = .ok (.slice (some ⟨w.heap.size, 0, none⟩) n n) (w.alloc (.cells (Array.replicate n (.bool false)) 4)) := fun w => run_mk w 43 4 (.bool false) 1 n Try.underlying43 (by kernel_rfl) rfl (by omega) (by omega)
  clear hx hv
  go_enter Try.func29, Try.ntmps29
  go_wp2_with fail
  refine (implWords_any xs _ _ _ HX.out (by omega)).mono ?_
  rintro e w1 ⟨rfl, hb⟩
  have hw := HV.out.1
  rw [hw]
  go_wp2_with fail
  have HB := Lib.hid hb
  clear hb hw hmk
  go_loopw [27] (fun i wr => ∃ k : Nat, k ≤ n ∧ i = .int .i64 k ∧ wr = w1.alloc (.cells (fillA (bl (bitsL xs n)) (.bool false) k) 4)) (fun i _ => n - (intOf i).toNat)
  case atStart => exact ⟨0, Nat.zero_le _, rfl, by rw [fillA_zero]; simp [bl, bitsL_len]⟩
  case round =>
    obtain ⟨k, hk, rfl, rfl⟩ := hrel
    by_cases hlt : k < n
    · obtain ⟨q, eq⟩ : ∃ q, q = k / 32 := ⟨_, rfl⟩
      obtain ⟨s, es⟩ : ∃ s, s = 31 - k % 32 := ⟨_, rfl⟩
      obtain ⟨b, o, rfl, hc0⟩ := (HX.out.below HB.out) q (by simp [il]; omega)
      rw [il_get _ _ (by omega)] at hc0
      have g0 := wordsB_get HV.out.1 (show q < xs.length by omega)
      have HF := Lib.hid (fillA_set (bl (bitsL xs n)) (.bool false) k (by simp [bl, bitsL_len]; exact hlt))
      have hg := Lib.hid (bitsL_get xs n k hlt)
      have hbk : bitK xs k = ((xs[q]?.getD 0).toNat / 2 ^ s % 2 == 1) := by rw [eq, es]; rfl
      have hsz : k < (fillA (bl (bitsL xs n)) (.bool false) k).size := by rw [fillA_size _ _ _ (by simp [bl, bitsL_len]; omega)]; simpa [bl, bitsL_len] using hlt
      obtain ⟨x, ex⟩ : ∃ x : Nat, xs[q]?.getD 0 = x := ⟨_, (Int.toNat_of_nonneg g0.1).symm⟩
      rw [ex] at hc0 g0 hbk
      have HC := Lib.hid (cell_old w1 (.cells (fillA (bl (bitsL xs n)) (.bool false) k) 4) hc0)
      have HBK := Lib.hid hbk
      have hq : (k : Int) / 32 = (q : Int) := by omega
      have hs : 31 - (k : Int) % 32 = (s : Int) := by omega
      have hql : q < xs.length := by omega
      have hsl : (s : Int) ≤ 31 := by omega
      have hkk : (k : Int) ≤ 8192 := by omega
      clear hc0 hbk ex eq es
      generalize hA : fillA (bl (bitsL xs n)) (.bool false) k = A at *
      have HA := Lib.hid hA
      clear hA
      have hcA := HC.out
      go_wp2
      go_roundw
      case rel => exact ⟨k + 1, by omega, by go_num, by rw [← HF.out, hg.out, HBK.out, bit_same]⟩
      case measure => simp [intOf]; omega
    · have HE := Lib.hid (fillA_all (bl (bitsL xs n)) (.bool false) k (by simp [bl, bitsL_len]; omega))
      go_wp2
      go_ret2
      refine ⟨some ⟨w1.heap.size, 0, none⟩, n, rfl, ?_, Bel_next HB.out ((Below.refl _ _).alloc (Nat.le_refl _) _)⟩
      rw [HE.out]
      exact .inr ⟨w1.heap.size, (bl (bitsL xs n)).toArray, 4, rfl, HB.out.size, by simp, Whole.made _ _ _, fun i hi => by simp [List.getD, hi]⟩
theorem implBits_no (xs : List Int) (n : Int) (ao : Option Addr) (c : Nat) (w : World) (hv : ¬(wordsB xs = true ∧ 0 ≤ n ∧ n ≤ 32 * xs.length)) (hx : Holds w ao (il xs)) (hlen : xs.length ≤ 1048576) :
    Calls Try.prog 29 #[.slice ao xs.length c, .int .i64 n] w (RetB (.tuple #[.slice none 0 0, .bool false]) w) := by
  have HX := Lib.hid hx
  have HV := Lib.hid hv
  clear hx hv
  go_enter Try.func29, Try.ntmps29
  go_wp2_with fail
  refine (implWords_any xs _ _ _ HX.out hlen).mono ?_
  rintro e w1 ⟨rfl, hb⟩
  have HB := Lib.hid hb
  clear hb
  cases hw : wordsB xs with
  | false =>
    go_wp2
    go_ret2
    exact ⟨rfl, HB.out⟩
  | true =>
    by_cases h1 : n < 0
    · go_wp2
      go_ret2
      exact ⟨rfl, HB.out⟩
    · have h2 : 32 * (xs.length : Int) < n := by have h := HV.out; simp [hw] at h; omega
      have h1' : 0 ≤ n := by omega
      clear h1
      go_wp2
      go_ret2
      exact ⟨rfl, HB.out⟩
theorem specBits_no (xs : List Int) (n : Int) (ao : Option Addr) (c : Nat) (w : World) (hv : ¬(wordsB xs = true ∧ 0 ≤ n ∧ n ≤ 32 * xs.length)) (hx : Holds w ao (il xs)) (hlen : xs.length ≤ 1048576) :
    Calls Try.prog 27 #[.slice ao xs.length c, .int .i64 n] w (RetB (.tuple #[.slice none 0 0, .bool false]) w) := by
  have HX := Lib.hid hx
  have HV := Lib.hid hv
  clear hx hv
  go_enter Try.func27, Try.ntmps27
  go_wp2_with fail
  refine (l02AreWords_any xs _ _ _ HX.out hlen).mono ?_
  rintro e w1 ⟨rfl, rfl⟩
  cases hw : wordsB xs with
  | false =>
    go_wp2_with fail
    go_ret2
    exact ⟨rfl, Below.refl _ _⟩
  | true =>
    go_wp2_with fail
    refine (l00In_no _ _ _ (by have h := HV.out; simp [hw] at h; omega) _).mono ?_
    rintro e w1 ⟨rfl, rfl⟩
    go_wp2_with fail
    go_ret2
    exact ⟨rfl, Below.refl _ _⟩
set_option maxRecDepth 100000 in
set_option maxHeartbeats 400000 in
theorem specBits_yes (xs : List Int) (n : Nat) (ao : Option Addr) (c : Nat) (w : World) (hv : wordsB xs = true ∧ n ≤ 32 * xs.length) (hx : Holds w ao (il xs)) :
    Calls Try.prog 27 #[.slice ao xs.length c, .int .i64 n] w (RetL n (bl (bitsL xs n)) (fun s => .tuple #[s, .bool true]) w) := by
  have HX := Lib.hid hx
  have hlen := wordsB_len hv.1
  have hn := hv.2
  have hn' : (n : Int) ≤ 32 * xs.length := by omega
  have HV := Lib.hid hv
  clear hx hv
  go_enter Try.func27, Try.ntmps27
  go_wp2_with fail
  refine (l02AreWords_any xs _ _ _ HX.out (by omega)).mono ?_
  rintro e w1 ⟨rfl, rfl⟩
  have hw := HV.out.1
  rw [hw]
  go_wp2_with fail
  refine (l00In_yes _ _ _ (by omega) hn' _).mono ?_
  rintro e w1 ⟨rfl, rfl⟩
  go_wp2_with fail
  clear hw
  go_loopw [6, 7] (fun v i wr => ∃ k : Nat, k ≤ n ∧ i = .int .i64 k ∧ wr.ownsRow w.heap.size 4 1 v k (bl (bitsL xs k)) ∧ w.grownBy wr none) (fun _ i _ => n - (intOf i).toNat)
  case atStart => exact ⟨0, Nat.zero_le _, rfl, World.ownsRow_made _ _ _ (Nat.le_refl _) (Nat.zero_le _) rfl, by first | exact grown_refl _ _ | exact World.grownBy_alloc _ _ _⟩
  case round =>
    obtain ⟨k, hk, rfl, hown, hgr⟩ := hrel
    have H := Lib.hid (And.intro hown hgr)
    by_cases hlt : k < n
    · obtain ⟨q, eq⟩ : ∃ q, q = k / 32 := ⟨_, rfl⟩
      obtain ⟨s, es⟩ : ∃ s, s = 31 - k % 32 := ⟨_, rfl⟩
      have HBL : Below w.heap.size w wr := Below.grown (Below.refl _ _) hgr (Nat.le_refl _) (by simp)
      obtain ⟨b, o, rfl, hc0⟩ := (HX.out.below HBL) q (by simp [il]; omega)
      rw [il_get _ _ (by omega)] at hc0
      have g0 := wordsB_get HV.out.1 (show q < xs.length by omega)
      have hbk : bitK xs k = ((xs[q]?.getD 0).toNat / 2 ^ s % 2 == 1) := by rw [eq, es]; rfl
      obtain ⟨x, ex⟩ : ∃ x : Nat, xs[q]?.getD 0 = x := ⟨_, (Int.toNat_of_nonneg g0.1).symm⟩
      rw [ex] at hc0 g0 hbk
      have HBK := Lib.hid hbk
      have hq : (k : Int) / 32 = (q : Int) := by omega
      have hs : 31 - (k : Int) % 32 = (s : Int) := by omega
      have hql : q < xs.length := by omega
      have hsl : (s : Int) ≤ 31 := by omega
      have hkk : (k : Int) ≤ 8192 := by omega
      clear hbk ex eq es hown hgr HBL
      have hbit := Lib.hid (show Value.bool (bits .and .i64 ((x : Int) / 2 ^ s) 1 == 1) = .bool (bitK xs k) by rw [HBK.out, bit_and x s (by omega)])
      go_wp2_with (at_builtin; refine wpList_app1 rfl _ _ 43 rfl w.heap.size 4 (.bool false) 1 Try.underlying43 (by kernel_rfl) rfl _ k _ rfl (H.out.1.alloc _) _ _ (.bool (bitK xs k)) rfl ?_ rfl ⟨by omega, by omega⟩ ?_ ?_)
      · rw [← hbit.out]; simp
      · simp; have := H.out.2.size; omega
      · intro v' w' hown' hgr'
        have hg3 : w.grownBy w' none := grown_more (grown_more H.out.2 (World.grownBy_alloc _ _ none) (fun i hi => by cases hi)) hgr' (own_ge H.out.1)
        have ho3 : w'.ownsRow w.heap.size 4 1 v' (k + 1) (bl (bitsL xs (k + 1))) := by rw [bitsL_next, bl, List.map_append]; exact hown'
        have H3 := Lib.hid (And.intro ho3 hg3)
        clear hown' hgr' hg3 ho3 H hbit
        go_wp2
        go_roundw
        case rel => exact ⟨k + 1, by omega, by go_num, H3.out⟩
        case measure => simp [intOf]; omega
    · have E : Hid (k = n) := Lib.hid (by omega)
      clear hown hgr
      go_wp2
      go_ret2
      obtain ⟨hown, hgr⟩ := H.out
      have e' := E.out
      subst e'
      obtain ⟨ao, c, rfl⟩ := own_form hown
      exact ⟨_, _, rfl, Row.of_own hown, Below.grown (Below.refl _ _) hgr (Nat.le_refl _) (by simp)⟩
end Go.Proofs.Ytdmbhnllebipjab
