/- AreEdges and DegreesOf: both sides. -/
import Derived.Test.YtncebfnfmjimmaaEe
namespace Go.Proofs.Ytncebfnfmjimmaa
open Go Go.RowKit
set_option linter.unusedVariables false

set_option maxRecDepth 100000 in
set_option maxHeartbeats 1000000 in
theorem readEdges_any (xs : List Int) (n : Int) (ao : Option Addr) (w : World) (hl : xs.length ≤ 1048576) (hx : Holds w ao (il xs)) :
    Calls Try.prog 69 #[.slice ao xs.length xs.length, .int .i64 n] w (EdP xs n 84 w) := by
  by_cases hn : 1 ≤ n ∧ n ≤ 64
  · by_cases h2 : xs.length % 2 = 0
    · by_cases h3 : xs.length ≤ 512
      · exact readEdges_in xs n ao w hn h2 h3 hx
      · have HB : Hid (¬ isEd xs n) := Lib.hid (fun h => h3 h.2.2.1)
        have HD : Hid (decide (1 ≤ n ∧ n ≤ 64) = true) := Lib.hid (by simpa using hn)
        have h3' : (512 : Int) < xs.length := by omega
        have hr : ((xs.length : Int) % 2 != 0) = false := by simp; omega
        clear hx h3 h2 hn
        go_enter Try.func69, Try.ntmps69
        go_wp2_with fail
        refine (isOrderSize_any _ _).mono ?_
        rintro e w1 ⟨rfl, rfl⟩
        rw [HD.out]
        go_wp2
        go_ret2
        exact EdP.no HB.out ⟨rfl, Below.refl _ _⟩
    · have HB : Hid (¬ isEd xs n) := Lib.hid (fun h => h2 h.2.1)
      have HD : Hid (decide (1 ≤ n ∧ n ≤ 64) = true) := Lib.hid (by simpa using hn)
      have hr : ((xs.length : Int) % 2 != 0) = true := by simp; omega
      clear hx h2 hn
      go_enter Try.func69, Try.ntmps69
      go_wp2_with fail
      refine (isOrderSize_any _ _).mono ?_
      rintro e w1 ⟨rfl, rfl⟩
      rw [HD.out]
      go_wp2
      go_ret2
      exact EdP.no HB.out ⟨rfl, Below.refl _ _⟩
  · have HB : Hid (¬ isEd xs n) := Lib.hid (fun h => hn h.1)
    have HD : Hid (decide (1 ≤ n ∧ n ≤ 64) = false) := Lib.hid (by simpa using hn)
    clear hx hn
    go_enter Try.func69, Try.ntmps69
    go_wp2_with fail
    refine (isOrderSize_any _ _).mono ?_
    rintro e w1 ⟨rfl, rfl⟩
    rw [HD.out]
    go_wp2
    go_ret2
    exact EdP.no HB.out ⟨rfl, Below.refl _ _⟩
theorem implAreEdges_any (xs : List Int) (n : Int) (ao : Option Addr) (w : World) (hl : xs.length ≤ 1048576) (hx : Holds w ao (il xs)) :
    Calls Try.prog 41 #[.slice ao xs.length xs.length, .int .i64 n] w (RetB (.bool (edB xs n)) w) := by
  have HX := Lib.hid hx
  clear hx
  by_cases hi : isEd xs n
  · have HI := Lib.hid hi
    clear hi
    go_enter Try.func41, Try.ntmps41
    go_wp2_with fail
    refine (readEdges_any xs n _ _ hl HX.out).mono ?_
    rintro e w1 ⟨h, _⟩
    obtain ⟨v, rfl, ho, hb⟩ := h HI.out
    have HB := Lib.hid hb
    clear ho hb h
    go_wp2
    go_ret
    exact ⟨by rw [edB_yes HI.out]; rfl, HB.out⟩
  · have HI := Lib.hid hi
    clear hi
    go_enter Try.func41, Try.ntmps41
    go_wp2_with fail
    refine (readEdges_any xs n _ _ hl HX.out).mono ?_
    rintro e w1 ⟨_, h⟩
    obtain ⟨rfl, hb⟩ := h HI.out
    have HB := Lib.hid hb
    clear hb h
    go_wp2
    go_ret
    exact ⟨by rw [edB_no HI.out]; rfl, HB.out⟩
set_option maxRecDepth 100000 in
set_option maxHeartbeats 1000000 in
theorem l04Edges_any (xs : List Int) (n : Int) (ao : Option Addr) (c : Nat) (w : World) (hl : xs.length ≤ 1048576) (hx : Holds w ao (il xs)) :
    Calls Try.prog 68 #[.slice ao xs.length c, .int .i64 n] w (RetB (.bool (edB xs n)) w) := by
  by_cases hn : 1 ≤ n ∧ n ≤ 64
  · by_cases h2 : xs.length % 2 = 0
    · by_cases h3 : xs.length ≤ 512
      · exact l04Edges_in xs n ao c w hn h2 h3 hx
      · have HB : Hid (edB xs n = false) := Lib.hid (edB_no (fun h => h3 h.2.2.1))
        have HD : Hid (decide (1 ≤ n ∧ n ≤ 64) = true) := Lib.hid (by simpa using hn)
        have h3' : (512 : Int) < xs.length := by omega
        have hr : ((xs.length : Int) % 2 != 0) = false := by simp; omega
        clear hx h3 h2 hn
        go_enter Try.func68, Try.ntmps68
        go_wp2_with fail
        refine (l04Count_any _ _).mono ?_
        rintro e w1 ⟨rfl, rfl⟩
        rw [HD.out]
        go_wp2
        go_ret
        exact ⟨by rw [HB.out]; rfl, Below.refl _ _⟩
    · have HB : Hid (edB xs n = false) := Lib.hid (edB_no (fun h => h2 h.2.1))
      have HD : Hid (decide (1 ≤ n ∧ n ≤ 64) = true) := Lib.hid (by simpa using hn)
      have hr : ((xs.length : Int) % 2 != 0) = true := by simp; omega
      clear hx h2 hn
      go_enter Try.func68, Try.ntmps68
      go_wp2_with fail
      refine (l04Count_any _ _).mono ?_
      rintro e w1 ⟨rfl, rfl⟩
      rw [HD.out]
      go_wp2
      go_ret
      exact ⟨by rw [HB.out]; rfl, Below.refl _ _⟩
  · have HB : Hid (edB xs n = false) := Lib.hid (edB_no (fun h => hn h.1))
    have HD : Hid (decide (1 ≤ n ∧ n ≤ 64) = false) := Lib.hid (by simpa using hn)
    clear hx hn
    go_enter Try.func68, Try.ntmps68
    go_wp2_with fail
    refine (l04Count_any _ _).mono ?_
    rintro e w1 ⟨rfl, rfl⟩
    rw [HD.out]
    go_wp2
    go_ret
    exact ⟨by rw [HB.out]; rfl, Below.refl _ _⟩
theorem specAreEdges_any (xs : List Int) (n : Int) (ao : Option Addr) (c : Nat) (w : World) (hl : xs.length ≤ 1048576) (hx : Holds w ao (il xs)) :
    Calls Try.prog 40 #[.slice ao xs.length c, .int .i64 n] w (RetB (.bool (edB xs n)) w) := by
  have HX := Lib.hid hx
  clear hx
  go_enter Try.func40, Try.ntmps40
  go_wp2_with fail
  refine (l04Edges_any xs n _ _ _ hl HX.out).mono ?_
  rintro e w1 ⟨rfl, hb⟩
  go_wp2_with fail
  go_ret
  exact ⟨rfl, hb⟩
/-- How many of the first m numbers of a list of edges each number is. -/
def degK (xs : List Int) (n : Nat) : Nat → List Int
  | 0 => List.replicate n 0
  | m + 1 => bump (degK xs n m) (xs[m]?.getD 0).toNat
theorem degK_inv (xs : List Int) (n m : Nat) : (degK xs n m).length = n ∧ upTo m (degK xs n m) := by
  induction m with
  | zero => exact ⟨by simp [degK], upTo_zero _⟩
  | succ m ih => exact ⟨by simp [degK, bump_len, ih.1], ih.2.bump _⟩
theorem ed_range {xs : List Int} {n : Int} (h : isEd xs n) (m : Nat) (hm : m < xs.length) : 0 ≤ xs[m]?.getD 0 ∧ xs[m]?.getD 0 < n := by
  have h1 := h.2.2.2 (m / 2) (by have := h.2.1; omega)
  unfold edOk at h1
  by_cases e : m % 2 = 0
  · rw [show m = 2 * (m / 2) by omega]; omega
  · rw [show m = 2 * (m / 2) + 1 by omega]; omega
set_option maxRecDepth 100000 in
set_option maxHeartbeats 1000000 in
theorem l04Degrees_ret (xs : List Int) (n : Nat) (ao : Option Addr) (c : Nat) (w : World) (hv : isEd xs n) (hx : Holds w ao (il xs)) :
    Calls Try.prog 70 #[.slice ao xs.length c, .int .i64 n] w (RetL n (il (degK xs n xs.length)) (fun s => s) w) := by
  have HX := Lib.hid hx
  have HV := Lib.hid hv
  have hl := hv.2.2.1
  have hn1 : 1 ≤ n := by have := hv.1.1; omega
  have hn2 : n ≤ 64 := by have := hv.1.2; omega
  have hmk := run_mk16 (P := Try.prog) w 22 2 n (by omega) Try.underlying22 (by kernel_rfl)
  have hnew := Lib.hid (tally_new w n 2)
  clear hx hv
  go_enter Try.func70, Try.ntmps70
  go_wp2
  clear hmk
  go_loopw [6] (fun i wr => ∃ m : Nat, m ≤ xs.length ∧ i = .int .i64 m ∧ Below w.heap.size w wr ∧ Whole wr w.heap.size 2 (il (degK xs n m)).toArray) (fun i _ => xs.length - (intOf i).toNat)
  case atStart => exact ⟨0, Nat.zero_le _, rfl, (by repeat (first | with_reducible exact Below.refl _ _ | with_reducible exact HBL | with_reducible refine Below.drew ?_ | with_reducible refine Bel_drewN ?_ _ | with_reducible refine Below.alloc ?_ (by first | omega | (simp; done) | (simp; omega)) _ | with_reducible refine Below.setCell ?_ (by first | omega | (simp; done) | (simp; omega)) _)), hnew.out⟩
  case round =>
    obtain ⟨m, hm, rfl, hbel, hwh⟩ := hrel
    have HW := Lib.hid (And.intro hbel hwh)
    obtain ⟨i1, i2⟩ := degK_inv xs n m
    have hsz := hwh.lt
    by_cases hlt : m < xs.length
    · obtain ⟨b, o, rfl, hc⟩ := (Holds.below HX.out hbel) m (by simpa [il] using hlt)
      rw [il_get _ _ hlt] at hc
      have hr := ed_range HV.out m hlt
      obtain ⟨y, hy⟩ : ∃ y : Nat, xs[m]?.getD 0 = (y : Int) := ⟨_, (Int.toNat_of_nonneg hr.1).symm⟩
      rw [hy] at hc hr
      have hyn : y < n := by omega
      have hyn' : (y : Int) < n := by omega
      have hcell := tally_cell hwh y (by rw [i1]; exact hyn)
      have hfr := hwh.frozen y
      have hbd := i2 y
      have hS : degK xs n (m + 1) = bump (degK xs n m) y := by rw [degK, hy]; rfl
      obtain ⟨v, hv⟩ : ∃ v, v = (degK xs n m)[y]?.getD 0 := ⟨_, rfl⟩
      rw [← hv] at hcell hbd
      have HS := Lib.hid (And.intro hS hv)
      have hlt' : (m : Int) < xs.length := by omega
      have hm512 : m ≤ 512 := by omega
      clear hv hS hwh hbel i2 hy i1 hr
      go_wp2
      go_roundw
      case rel =>
        refine ⟨m + 1, by omega, by go_num, HW.out.1.setCell (Nat.le_refl _) _, ?_⟩
        rw [HS.out.1]
        unfold bump
        rw [← HS.out.2]
        exact tally_put HW.out.2 _ _
      case measure => simp [intOf]; omega
    · have hmn : m = xs.length := by omega
      subst hmn
      clear hwh hbel i1 i2
      go_wp2
      go_ret
      exact ⟨_, _, rfl, tally_row HW.out.2 (Nat.le_refl _) HW.out.2.lt, HW.out.1⟩
end Go.Proofs.Ytncebfnfmjimmaa
