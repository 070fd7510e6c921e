/- Orders: lists in which each number from 0 on is once; both sides' test of them. -/
import Derived.Test.YtfgkimhcbboipaaDoorBr
import Derived.Test.YtfgkimhcbboipaaDoorIn0
namespace Go.Proofs.YtfgkimhcbboipaaDoor
open Go Go.RowKit
set_option linter.unusedVariables false

/-- The first k numbers lie in the range, and are different. -/
def ordTo (xs : List Int) (k : Nat) : Prop := ∀ i : Nat, i < k → (0 ≤ xs[i]?.getD 0 ∧ xs[i]?.getD 0 < xs.length) ∧ ∀ j : Nat, j < i → xs[j]?.getD 0 ≠ xs[i]?.getD 0
def isOrd (xs : List Int) : Prop := (1 ≤ xs.length ∧ xs.length ≤ 64) ∧ ordTo xs xs.length
open Classical in
noncomputable def ordB (xs : List Int) : Bool := decide (isOrd xs)
theorem ordB_yes {xs : List Int} (h : isOrd xs) : ordB xs = true := by unfold ordB; simpa using h
theorem ordB_no {xs : List Int} (h : ¬isOrd xs) : ordB xs = false := by unfold ordB; simpa using h
theorem ordTo_next {xs : List Int} {k x : Nat} (h : ordTo xs k) (e : xs[k]?.getD 0 = (x : Int)) (hx : x < xs.length) (hn : ∀ j : Nat, j < k → xs[j]?.getD 0 ≠ (x : Int)) : ordTo xs (k + 1) := fun i hi => by
  by_cases ei : i = k
  · subst ei; rw [e]; exact ⟨⟨by omega, by omega⟩, hn⟩
  · exact h i (by omega)
theorem ord_bad {xs : List Int} {k : Nat} (hk : k < xs.length) (h : ¬(0 ≤ xs[k]?.getD 0 ∧ xs[k]?.getD 0 < xs.length)) : ordB xs = false := ordB_no (fun ho => h (ho.2 k hk).1)
theorem ord_twice {xs : List Int} {k j : Nat} (hk : k < xs.length) (hj : j < k) (h : xs[j]?.getD 0 = xs[k]?.getD 0) : ordB xs = false := ordB_no (fun ho => (ho.2 k hk).2 j hj h)
/-- What has been seen behind k numbers. -/
def seenTo (n : Nat) (xs : List Int) : Nat → List Bool
  | 0 => List.replicate n false
  | k + 1 => (seenTo n xs k).set (xs[k]?.getD 0).toNat true
theorem seenTo_len (n : Nat) (xs : List Int) (k : Nat) : (seenTo n xs k).length = n := by
  induction k with
  | zero => simp [seenTo]
  | succ k ih => simp [seenTo, ih]
theorem seenTo_get {n : Nat} {xs : List Int} {k : Nat} (h : ordTo xs k) (hn : xs.length ≤ n) (x : Nat) (hx : x < n) : ((seenTo n xs k)[x]?.getD false = true) ↔ ∃ j : Nat, j < k ∧ xs[j]?.getD 0 = (x : Int) := by
  induction k with
  | zero => simp [seenTo, hx]
  | succ k ih =>
    have h' : ordTo xs k := fun i hi => h i (by omega)
    have hk := (h k (by omega)).1
    have ih := ih h'
    obtain ⟨y, hy⟩ : ∃ y : Nat, xs[k]?.getD 0 = (y : Int) := ⟨_, (Int.toNat_of_nonneg hk.1).symm⟩
    have hyt : (xs[k]?.getD 0).toNat = y := by omega
    show ((seenTo n xs k).set (xs[k]?.getD 0).toNat true)[x]?.getD false = true ↔ _
    rw [hyt, List.getElem?_set]
    by_cases e : y = x
    · subst e
      rw [if_pos rfl, if_pos (by rw [seenTo_len]; exact hx)]
      simp only [Option.getD_some, true_iff]
      exact ⟨k, by omega, hy⟩
    · rw [if_neg e, ih]
      constructor
      · rintro ⟨j, h1, h2⟩; exact ⟨j, by omega, h2⟩
      · rintro ⟨j, h1, h2⟩
        rcases Nat.lt_or_ge j k with h3 | h3
        · exact ⟨j, h3, h2⟩
        · have : j = k := by omega
          subst this
          exact absurd (by rw [hy] at h2; omega) e
theorem isOrderSize_any (n : Int) (w : World) : Calls Tryd.prog 156 #[.int .i64 n] w (fun e w' => e = .returned (.bool (decide (1 ≤ n ∧ n ≤ 64))) ∧ w = w') := by
  by_cases h0 : 1 ≤ n
  · have e : decide (1 ≤ n ∧ n ≤ 64) = decide (n ≤ 64) := by rw [Bool.eq_iff_iff]; simp; omega
    have E := Lib.hid e
    clear e
    go_enter Tryd.func156, Tryd.ntmps156
    go_wp2
    go_ret
    exact ⟨by first | rfl | (rw [E.out]; rfl), rfl⟩
  · have h1 : decide (1 ≤ n) = false := by simpa using h0
    have e : decide (1 ≤ n ∧ n ≤ 64) = false := by simp; omega
    have E := Lib.hid e
    clear e
    go_enter Tryd.func156, Tryd.ntmps156
    go_wp2
    go_ret
    exact ⟨by first | rfl | (rw [E.out]; rfl), rfl⟩
theorem isBelow_any (k n : Int) (w : World) : Calls Tryd.prog 157 #[.int .i64 k, .int .i64 n] w (fun e w' => e = .returned (.bool (decide (0 ≤ k ∧ k < n))) ∧ w = w') := by
  by_cases h0 : 0 ≤ k
  · have e : decide (0 ≤ k ∧ k < n) = decide (k < n) := by rw [Bool.eq_iff_iff]; simp; omega
    have E := Lib.hid e
    clear e
    go_enter Tryd.func157, Tryd.ntmps157
    go_wp2
    go_ret
    exact ⟨by first | rfl | (rw [E.out]; rfl), rfl⟩
  · have h1 : decide (0 ≤ k) = false := by simpa using h0
    have e : decide (0 ≤ k ∧ k < n) = false := by simp; omega
    have E := Lib.hid e
    clear e
    go_enter Tryd.func157, Tryd.ntmps157
    go_wp2
    go_ret
    exact ⟨by first | rfl | (rw [E.out]; rfl), rfl⟩
theorem l04Count_any (n : Int) (w : World) : Calls Tryd.prog 128 #[.int .i64 n] w (fun e w' => e = .returned (.bool (decide (1 ≤ n ∧ n ≤ 64))) ∧ w = w') := by
  go_enter Tryd.func128, Tryd.ntmps128
  go_wp2_with fail
  refine (l00In_any _ _ _ _).mono ?_
  rintro e w1 ⟨rfl, rfl⟩
  go_wp2
  go_ret
  exact ⟨by simp, rfl⟩
set_option maxRecDepth 100000 in
set_option maxHeartbeats 1000000 in
theorem implIsOrder_any (xs : List Int) (ao : Option Addr) (c : Nat) (w : World) (hx : Holds w ao (il xs)) (hl : xs.length ≤ 1048576) :
    Calls Tryd.prog 130 #[.slice ao xs.length c] w (RetB (.bool (ordB xs)) w) := by
  have HX := Lib.hid hx
  clear hx
  go_enter Tryd.func130, Tryd.ntmps130
  go_wp2_with fail
  refine (isOrderSize_any _ _).mono ?_
  rintro e w1 ⟨rfl, rfl⟩
  by_cases hs : 1 ≤ (xs.length : Int) ∧ (xs.length : Int) ≤ 64
  · rw [decide_eq_true hs]
    obtain ⟨hs1, hs2⟩ := hs
    have hnew := Lib.hid (brow_new w 64 141)
    go_wp2_with fail
    go_loopw [14] (fun i wr => ∃ k : Nat, k ≤ xs.length ∧ i = .int .i64 k ∧ ordTo xs k ∧ Below w.heap.size w wr ∧ BRow wr w.heap.size 141 (seenTo 64 xs k)) (fun i _ => xs.length - (intOf i).toNat)
    case atStart => exact ⟨0, Nat.zero_le _, rfl, fun i hi => absurd hi (Nat.not_lt_zero _), (by repeat (first | with_reducible exact Below.refl _ _ | with_reducible exact HBL | with_reducible refine Below.drew ?_ | with_reducible refine Bel_drewN ?_ _ | with_reducible refine Below.alloc ?_ (by first | omega | (simp; done) | (simp; omega)) _ | with_reducible refine Below.setCell ?_ (by first | omega | (simp; done) | (simp; omega)) _)), hnew.out⟩
    case round =>
      obtain ⟨k, hk, rfl, ho, hbel, hrow⟩ := hrel
      have H := Lib.hid (And.intro ho (And.intro hbel hrow))
      by_cases hlt : k < xs.length
      · obtain ⟨b, o, rfl, hc⟩ := (Holds.below HX.out hbel) k (by simpa [il] using hlt)
        rw [il_get _ _ hlt] at hc
        obtain ⟨x, hx⟩ : ∃ x, x = xs[k]?.getD 0 := ⟨_, rfl⟩
        rw [← hx] at hc
        have HE := Lib.hid hx
        have hlt' : (k : Int) < xs.length := by omega
        clear hx ho hbel hrow
        go_wp2_with fail
        refine (isBelow_any _ _ _).mono ?_
        rintro e w1 ⟨rfl, rfl⟩
        by_cases hr : 0 ≤ x ∧ x < (xs.length : Int)
        · rw [decide_eq_true hr]
          obtain ⟨y, rfl⟩ : ∃ y : Nat, x = (y : Int) := ⟨x.toNat, by omega⟩
          obtain ⟨hr0, hr1⟩ := hr
          have hy64 : (y : Int) < 64 := by omega
          have hcy := H.out.2.2.cell y (by rw [seenTo_len]; omega)
          have hfy := H.out.2.2.frozen y
          have hbl := H.out.2.2.lt
          cases hsn : (seenTo 64 xs k)[y]?.getD false with
          | true =>
            rw [hsn] at hcy
            have HB : Hid (ordB xs = false) := Lib.hid (by
              obtain ⟨j, h1, h2⟩ := (seenTo_get H.out.1 (by omega) y (by omega)).1 hsn
              exact ord_twice hlt h1 (by rw [h2, ← HE.out]))
            clear hsn
            go_wp2
            go_ret
            exact ⟨by rw [HB.out]; rfl, H.out.2.1⟩
          | false =>
            rw [hsn] at hcy
            have HN : Hid (∀ j : Nat, j < k → xs[j]?.getD 0 ≠ (y : Int)) := Lib.hid (fun j hj e => by
              have := (seenTo_get H.out.1 (show xs.length ≤ 64 by omega) y (by omega)).2 ⟨j, hj, e⟩
              rw [hsn] at this; cases this)
            clear hsn
            go_wp2
            go_roundw
            case rel =>
              refine ⟨k + 1, by omega, by go_num, ordTo_next H.out.1 HE.out.symm (by omega) HN.out, ?_, ?_⟩
              · have HBL := H.out.2.1; exact (by repeat (first | with_reducible exact Below.refl _ _ | with_reducible exact HBL | with_reducible refine Below.drew ?_ | with_reducible refine Bel_drewN ?_ _ | with_reducible refine Below.alloc ?_ (by first | omega | (simp; done) | (simp; omega)) _ | with_reducible refine Below.setCell ?_ (by first | omega | (simp; done) | (simp; omega)) _))
              · have := H.out.2.2.put y true
                rwa [show (seenTo 64 xs k).set y true = seenTo 64 xs (k + 1) by rw [seenTo, ← HE.out]; simp] at this
            case measure => simp [intOf]; omega
        · rw [decide_eq_false hr]
          have HB : Hid (ordB xs = false) := Lib.hid (ord_bad hlt (by rw [← HE.out]; exact hr))
          clear hr
          go_wp2
          go_ret
          exact ⟨by rw [HB.out]; rfl, H.out.2.1⟩
      · have HB : Hid (ordB xs = true) := Lib.hid (ordB_yes ⟨by omega, by rwa [show xs.length = k by omega]⟩)
        clear ho hbel hrow
        go_wp2
        go_ret
        exact ⟨by rw [HB.out]; rfl, H.out.2.1⟩
  · rw [decide_eq_false hs]
    have HB : Hid (ordB xs = false) := Lib.hid (ordB_no (fun h => hs (by have := h.1; omega)))
    clear hs
    go_wp2
    go_ret
    exact ⟨by rw [HB.out]; rfl, Below.refl _ _⟩
set_option maxRecDepth 100000 in
set_option maxHeartbeats 1000000 in
theorem l04Order_any (xs : List Int) (ao : Option Addr) (c : Nat) (w : World) (hx : Holds w ao (il xs)) (hl : xs.length ≤ 1048576) :
    Calls Tryd.prog 93 #[.slice ao xs.length c] w (RetB (.bool (ordB xs)) w) := by
  have HX := Lib.hid hx
  clear hx
  go_enter Tryd.func93, Tryd.ntmps93
  go_wp2_with fail
  refine (l04Count_any _ _).mono ?_
  rintro e w1 ⟨rfl, rfl⟩
  by_cases hs : 1 ≤ (xs.length : Int) ∧ (xs.length : Int) ≤ 64
  · rw [decide_eq_true hs]
    obtain ⟨hs1, hs2⟩ := hs
    have hnew := Lib.hid (brow_new w xs.length 4)
    have hmk := run_mkB (P := Tryd.prog) w 140 4 xs.length (by omega) Tryd.underlying140 (by kernel_rfl)
    go_wp2_with fail
    clear hmk
    go_loopw [4] (fun i wr => ∃ k : Nat, k ≤ xs.length ∧ i = .int .i64 k ∧ ordTo xs k ∧ Below w.heap.size w wr ∧ BRow wr w.heap.size 4 (seenTo xs.length xs k)) (fun i _ => xs.length - (intOf i).toNat)
    case atStart => exact ⟨0, Nat.zero_le _, rfl, fun i hi => absurd hi (Nat.not_lt_zero _), (by repeat (first | with_reducible exact Below.refl _ _ | with_reducible exact HBL | with_reducible refine Below.drew ?_ | with_reducible refine Bel_drewN ?_ _ | with_reducible refine Below.alloc ?_ (by first | omega | (simp; done) | (simp; omega)) _ | with_reducible refine Below.setCell ?_ (by first | omega | (simp; done) | (simp; omega)) _)), hnew.out⟩
    case round =>
      obtain ⟨k, hk, rfl, ho, hbel, hrow⟩ := hrel
      have H := Lib.hid (And.intro ho (And.intro hbel hrow))
      by_cases hlt : k < xs.length
      · obtain ⟨b, o, rfl, hc⟩ := (Holds.below HX.out hbel) k (by simpa [il] using hlt)
        rw [il_get _ _ hlt] at hc
        obtain ⟨x, hx⟩ : ∃ x, x = xs[k]?.getD 0 := ⟨_, rfl⟩
        rw [← hx] at hc
        have HE := Lib.hid hx
        have hlt' : (k : Int) < xs.length := by omega
        clear hx ho hbel hrow
        go_wp2_with fail
        refine (l00In_any _ _ _ _).mono ?_
        rintro e w1 ⟨rfl, rfl⟩
        by_cases hr : 0 ≤ x ∧ x ≤ (xs.length : Int) - 1
        · rw [decide_eq_true hr]
          obtain ⟨y, rfl⟩ : ∃ y : Nat, x = (y : Int) := ⟨x.toNat, by omega⟩
          have hr0 : (0 : Int) ≤ y := hr.1
          have hr1 : (y : Int) < xs.length := by omega
          clear hr
          have hcy := H.out.2.2.cell y (by rw [seenTo_len]; omega)
          have hfy := H.out.2.2.frozen y
          have hbl := H.out.2.2.lt
          cases hsn : (seenTo xs.length xs k)[y]?.getD false with
          | true =>
            rw [hsn] at hcy
            have HB : Hid (ordB xs = false) := Lib.hid (by
              obtain ⟨j, h1, h2⟩ := (seenTo_get H.out.1 (Nat.le_refl _) y (by omega)).1 hsn
              exact ord_twice hlt h1 (by rw [h2, ← HE.out]))
            clear hsn
            go_wp2
            go_ret
            exact ⟨by rw [HB.out]; rfl, H.out.2.1⟩
          | false =>
            rw [hsn] at hcy
            have HN : Hid (∀ j : Nat, j < k → xs[j]?.getD 0 ≠ (y : Int)) := Lib.hid (fun j hj e => by
              have := (seenTo_get H.out.1 (Nat.le_refl _) y (by omega)).2 ⟨j, hj, e⟩
              rw [hsn] at this; cases this)
            clear hsn
            go_wp2
            go_roundw
            case rel =>
              refine ⟨k + 1, by omega, by go_num, ordTo_next H.out.1 HE.out.symm (by omega) HN.out, ?_, ?_⟩
              · have HBL := H.out.2.1; exact (by repeat (first | with_reducible exact Below.refl _ _ | with_reducible exact HBL | with_reducible refine Below.drew ?_ | with_reducible refine Bel_drewN ?_ _ | with_reducible refine Below.alloc ?_ (by first | omega | (simp; done) | (simp; omega)) _ | with_reducible refine Below.setCell ?_ (by first | omega | (simp; done) | (simp; omega)) _))
              · have := H.out.2.2.put y true
                rwa [show (seenTo xs.length xs k).set y true = seenTo xs.length xs (k + 1) by rw [seenTo, ← HE.out]; simp] at this
            case measure => simp [intOf]; omega
        · rw [decide_eq_false hr]
          have HB : Hid (ordB xs = false) := Lib.hid (ord_bad hlt (by rw [← HE.out]; omega))
          clear hr
          go_wp2
          go_ret
          exact ⟨by rw [HB.out]; rfl, H.out.2.1⟩
      · have HB : Hid (ordB xs = true) := Lib.hid (ordB_yes ⟨by omega, by rwa [show xs.length = k by omega]⟩)
        clear ho hbel hrow
        go_wp2
        go_ret
        exact ⟨by rw [HB.out]; rfl, H.out.2.1⟩
  · rw [decide_eq_false hs]
    have HB : Hid (ordB xs = false) := Lib.hid (ordB_no (fun h => hs (by have := h.1; omega)))
    clear hs
    go_wp2
    go_ret
    exact ⟨by rw [HB.out]; rfl, Below.refl _ _⟩
end Go.Proofs.YtfgkimhcbboipaaDoor
