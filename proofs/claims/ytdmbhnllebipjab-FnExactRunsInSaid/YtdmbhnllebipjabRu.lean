/- Runs of bits. -/
import Derived.Test.YtdmbhnllebipjabTl
import Derived.Test.YtdmbhnllebipjabBl
namespace Go.Proofs.Ytdmbhnllebipjab
open Go Go.RowKit
set_option linter.unusedVariables false

/-- The counts of the runs that have ended behind k bits, and where the run began that has not. -/
def runsK (xs : List Bool) : Nat → List Int × Nat
  | 0 => (List.replicate 16 0, 0)
  | k + 1 =>
    let s := runsK xs k
    if k + 1 = xs.length ∨ xs[k + 1]?.getD false ≠ xs[s.2]?.getD false then (bump s.1 (min (k + 1 - s.2) 16 - 1), k + 1) else s
theorem runsK_inv (xs : List Bool) (k : Nat) : (runsK xs k).1.length = 16 ∧ upTo k (runsK xs k).1 ∧ (runsK xs k).2 ≤ k ∧ xs[(runsK xs k).2]?.getD false = xs[k]?.getD false ∨ xs.length ≤ k ∧ (runsK xs k).1.length = 16 ∧ upTo k (runsK xs k).1 ∧ (runsK xs k).2 ≤ k := by
  induction k with
  | zero => exact .inl ⟨by simp [runsK], upTo_zero _, by simp [runsK], by simp [runsK]⟩
  | succ k ih =>
    have h : (runsK xs k).1.length = 16 ∧ upTo k (runsK xs k).1 ∧ (runsK xs k).2 ≤ k := by rcases ih with h | h; exact ⟨h.1, h.2.1, h.2.2.1⟩; exact h.2
    obtain ⟨h1, h2, h3⟩ := h
    unfold runsK
    dsimp only
    split
    · exact .inl ⟨by rw [bump_len]; exact h1, h2.bump _, Nat.le_refl _, rfl⟩
    · rename_i hc
      have hc' : xs[k + 1]?.getD false = xs[(runsK xs k).2]?.getD false := by simp at hc; simpa using hc.2
      exact .inl ⟨h1, h2.more (by omega), by omega, hc'.symm⟩
theorem runsK_facts (xs : List Bool) (k : Nat) : (runsK xs k).1.length = 16 ∧ upTo k (runsK xs k).1 ∧ (runsK xs k).2 ≤ k := by
  rcases runsK_inv xs k with h | h
  · exact ⟨h.1, h.2.1, h.2.2.1⟩
  · exact h.2
theorem runsK_same (xs : List Bool) (k : Nat) (h : k < xs.length) : xs[(runsK xs k).2]?.getD false = xs[k]?.getD false := by
  rcases runsK_inv xs k with h' | h'
  · exact h'.2.2.2
  · omega
theorem runsK_stay {xs : List Bool} {k : Nat} (h : k + 1 ≠ xs.length) (he : xs[k + 1]?.getD false = xs[(runsK xs k).2]?.getD false) : runsK xs (k + 1) = runsK xs k := by
  show (if _ then _ else _) = _; rw [if_neg (by simp [he, h])]
theorem runsK_end {xs : List Bool} {k s : Nat} (hs : s = (runsK xs k).2) (h : k + 1 = xs.length ∨ xs[k + 1]?.getD false ≠ xs[(runsK xs k).2]?.getD false) : runsK xs (k + 1) = (bump (runsK xs k).1 (min (k + 1 - s) 16 - 1), k + 1) := by
  subst hs; show (if _ then _ else _) = _; rw [if_pos h]

set_option maxRecDepth 100000 in
set_option maxHeartbeats 400000 in
theorem implRuns_yes (xs : List Bool) (ao : Option Addr) (c : Nat) (w : World) (hv : 1 ≤ xs.length ∧ xs.length ≤ 8192) (hx : Holds w ao (bl xs)) :
    Calls Try.prog 37 #[.slice ao xs.length c] w (RetL 16 (il (runsK xs xs.length).1) (fun s => .tuple #[s, .bool true]) w) := by
  have HX := Lib.hid hx
  have h1 : (1 : Int) ≤ xs.length := by omega
  have h2 : (xs.length : Int) ≤ 8192 := by omega
  have hmk : ∀ w : World, (Instr.makeSlice 25 (.int .i64 16) (.int .i64 16)).run Try.prog w = .ok (.slice (some ⟨w.heap.size, 0, none⟩) 16 16) (w.alloc (.cells (Array.replicate 16 (.int .i64 0)) 2)) := fun w => run_mk16 w 25 2 16 (by omega) Try.underlying25 (by kernel_rfl)
  clear hx
  go_enter Try.func37, Try.ntmps37
  go_wp2
  clear hmk
  go_loopw [5, 6] (fun st e wr => ∃ k f : Nat, f = k + 1 ∧ f ≤ xs.length + 1 ∧ e = .int .i64 (f : Int) ∧ st = .int .i64 ((runsK xs k).2 : Int) ∧ Below w.heap.size w wr ∧ Whole wr w.heap.size 2 (il (runsK xs k).1).toArray) (fun _ e _ => xs.length + 2 - (intOf e).toNat)
  case atStart => exact ⟨0, 1, rfl, by omega, rfl, rfl, by first | exact (Below.refl _ _).alloc (Nat.le_refl _) _ | exact Bel_drewN ((Below.refl _ _).alloc (Nat.le_refl _) _) _, by first | exact tally_new _ _ _ | exact (tally_new _ _ _).drewN _⟩
  case round =>
    obtain ⟨k, f, hf, hk, rfl, rfl, hbel, hwh⟩ := hrel
    have HF := Lib.hid hf
    obtain ⟨i1, i2, i3⟩ := runsK_facts xs k
    have HW := Lib.hid (And.intro hbel hwh)
    have hsz := hwh.lt
    obtain ⟨s, hs⟩ : ∃ s, s = (runsK xs k).2 := ⟨_, rfl⟩
    rw [← hs] at i3
    have HS0 := Lib.hid hs
    rw [← hs]
    have hsf : s < f := by omega
    have hsf' : (s : Int) < f := by omega
    have hf8 : f ≤ 8193 := by omega
    have hk8 : k ≤ 8192 := by omega
    by_cases hlt : f ≤ xs.length
    · by_cases hend : f = xs.length
      · have hend' : (f : Int) = xs.length := by omega
        have HS := Lib.hid (runsK_end hs (.inl (by omega)))
        by_cases hd : f - s ≤ 16
        · have hcell := tally_cell hwh (f - s - 1) (by rw [i1]; omega)
          have hfr := hwh.frozen (f - s - 1)
          have hbd := i2 (f - s - 1)
          have HJ : Hid (min (k + 1 - s) 16 - 1 = (f - s - 1)) := Lib.hid (by omega)
          obtain ⟨v, hv'⟩ : ∃ v, v = (runsK xs k).1[(f - s - 1)]?.getD 0 := ⟨_, rfl⟩
          rw [← hv'] at hcell hbd
          have HVV := Lib.hid hv'
          clear hf hs hwh hbel i2 i1 hv'
          go_wp2
          go_quiet (fail)
          clear hend hend'
          go_wp2
          go_roundw
          case rel =>
            refine ⟨k + 1, f + 1, by rw [HF.out], by omega, by go_num, by rw [HS.out, HF.out], ?_⟩
            rw [HS.out, HJ.out]
            refine ⟨by repeat (first | with_reducible exact HW.out.1 | with_reducible refine Bel_drewN ?_ _ | with_reducible refine Below.drew ?_ | with_reducible refine Below.setCell ?_ (by first | omega | (simp; done) | (simp; omega)) _), ?_⟩
            unfold bump
            rw [← HVV.out]
            exact tally_put HW.out.2 _ _
          case measure => simp [intOf]; omega
        · have hcell := tally_cell hwh 15 (by rw [i1]; omega)
          have hfr := hwh.frozen 15
          have hbd := i2 15
          have HJ : Hid (min (k + 1 - s) 16 - 1 = 15) := Lib.hid (by omega)
          obtain ⟨v, hv'⟩ : ∃ v, v = (runsK xs k).1[15]?.getD 0 := ⟨_, rfl⟩
          rw [← hv'] at hcell hbd
          have HVV := Lib.hid hv'
          clear hf hs hwh hbel i2 i1 hv'
          have hd' : 16 < f - s := by omega
          go_wp2
          go_quiet (fail)
          clear hend hend'
          go_wp2
          go_roundw
          case rel =>
            refine ⟨k + 1, f + 1, by rw [HF.out], by omega, by go_num, by rw [HS.out, HF.out], ?_⟩
            rw [HS.out, HJ.out]
            refine ⟨by repeat (first | with_reducible exact HW.out.1 | with_reducible refine Bel_drewN ?_ _ | with_reducible refine Below.drew ?_ | with_reducible refine Below.setCell ?_ (by first | omega | (simp; done) | (simp; omega)) _), ?_⟩
            unfold bump
            rw [← HVV.out]
            exact tally_put HW.out.2 _ _
          case measure => simp [intOf]; omega
      · have hlt2 : f < xs.length := by omega
        have hend' : ((f : Int) == xs.length) = false := by rw [beq_eq_false_iff_ne]; omega
        obtain ⟨b, o, rfl, hc0⟩ := (Holds.below HX.out hbel) f (by simpa [bl] using hlt2)
        obtain ⟨b', o', e', hc1⟩ := (Holds.below HX.out hbel) s (by simp [bl]; omega)
        cases e'
        rw [bl_get _ _ hlt2] at hc0
        rw [bl_get _ _ (show s < xs.length by omega)] at hc1
        by_cases hd0 : xs[f]?.getD false = xs[s]?.getD false
        · have HS := Lib.hid (runsK_stay (xs := xs) (k := k) (by omega) (by rw [← hs, ← hf]; exact hd0))
          rw [hd0] at hc0
          generalize xs[s]?.getD false = x at hc0 hc1
          clear hf hs hwh hbel i2 i1 hd0
          go_wp2
          go_quiet (fail)
          go_wp2
          go_roundw
          case rel => exact ⟨k + 1, f + 1, by rw [HF.out], by omega, by go_num, by rw [HS.out, HS0.out], by rw [HS.out]; exact ⟨Bel_drewN HW.out.1 _, HW.out.2⟩⟩
          case measure => simp [intOf]; omega
        · have HS := Lib.hid (runsK_end hs (.inr (by rw [← hs, ← hf]; exact hd0)))
          have hx : xs[f]?.getD false = !xs[s]?.getD false := by revert hd0; cases xs[f]?.getD false <;> cases xs[s]?.getD false <;> simp
          rw [hx] at hc0
          generalize xs[s]?.getD false = x at hc0 hc1
          clear hd0 hx
          by_cases hd : f - s ≤ 16
          · have hcell := tally_cell hwh (f - s - 1) (by rw [i1]; omega)
            have hfr := hwh.frozen (f - s - 1)
            have hbd := i2 (f - s - 1)
            have HJ : Hid (min (k + 1 - s) 16 - 1 = (f - s - 1)) := Lib.hid (by omega)
            obtain ⟨v, hv'⟩ : ∃ v, v = (runsK xs k).1[(f - s - 1)]?.getD 0 := ⟨_, rfl⟩
            rw [← hv'] at hcell hbd
            have HVV := Lib.hid hv'
            clear hf hs hwh hbel i2 i1 hv'
            go_wp2
            go_quiet (fail)
            go_wp2
            go_roundw
            case rel =>
              refine ⟨k + 1, f + 1, by rw [HF.out], by omega, by go_num, by rw [HS.out, HF.out], ?_⟩
              rw [HS.out, HJ.out]
              refine ⟨by repeat (first | with_reducible exact HW.out.1 | with_reducible refine Bel_drewN ?_ _ | with_reducible refine Below.drew ?_ | with_reducible refine Below.setCell ?_ (by first | omega | (simp; done) | (simp; omega)) _), ?_⟩
              unfold bump
              rw [← HVV.out]
              exact tally_put HW.out.2 _ _
            case measure => simp [intOf]; omega
          · have hcell := tally_cell hwh 15 (by rw [i1]; omega)
            have hfr := hwh.frozen 15
            have hbd := i2 15
            have HJ : Hid (min (k + 1 - s) 16 - 1 = 15) := Lib.hid (by omega)
            obtain ⟨v, hv'⟩ : ∃ v, v = (runsK xs k).1[15]?.getD 0 := ⟨_, rfl⟩
            rw [← hv'] at hcell hbd
            have HVV := Lib.hid hv'
            clear hf hs hwh hbel i2 i1 hv'
            have hd' : 16 < f - s := by omega
            go_wp2
            go_quiet (fail)
            go_wp2
            go_roundw
            case rel =>
              refine ⟨k + 1, f + 1, by rw [HF.out], by omega, by go_num, by rw [HS.out, HF.out], ?_⟩
              rw [HS.out, HJ.out]
              refine ⟨by repeat (first | with_reducible exact HW.out.1 | with_reducible refine Bel_drewN ?_ _ | with_reducible refine Below.drew ?_ | with_reducible refine Below.setCell ?_ (by first | omega | (simp; done) | (simp; omega)) _), ?_⟩
              unfold bump
              rw [← HVV.out]
              exact tally_put HW.out.2 _ _
            case measure => simp [intOf]; omega
    · have E : Hid (k = xs.length) := Lib.hid (by omega)
      have hlt' : xs.length < f := by omega
      clear hf hs hwh hbel i1 i2 i3 hlt
      go_wp2
      go_ret2
      rw [E.out] at HW
      exact ⟨_, _, rfl, tally_row HW.out.2 (Nat.le_refl _) HW.out.2.lt, HW.out.1⟩
theorem implRuns_no (xs : List Bool) (ao : Option Addr) (c : Nat) (w : World) (hv : ¬(1 ≤ xs.length ∧ xs.length ≤ 8192)) (hlen : xs.length ≤ 1048576) :
    Calls Try.prog 37 #[.slice ao xs.length c] w (RetB (.tuple #[.slice none 0 0, .bool false]) w) := by
  by_cases h : xs.length < 1
  · have h' : (xs.length : Int) < 1 := by omega
    clear hv h
    go_enter Try.func37, Try.ntmps37
    go_wp2
    go_ret2
    exact ⟨rfl, by first | exact Below.refl _ _ | exact Bel_drewN (Below.refl _ _) _⟩
  · have h1 : (1 : Int) ≤ xs.length := by omega
    have h2 : (8192 : Int) < xs.length := by omega
    clear hv h
    go_enter Try.func37, Try.ntmps37
    go_wp2
    go_ret2
    exact ⟨rfl, by first | exact Below.refl _ _ | exact Bel_drewN (Below.refl _ _) _⟩
set_option maxRecDepth 100000 in
set_option maxHeartbeats 400000 in
theorem specRuns_yes (xs : List Bool) (ao : Option Addr) (c : Nat) (w : World) (hv : 1 ≤ xs.length ∧ xs.length ≤ 8192) (hx : Holds w ao (bl xs)) :
    Calls Try.prog 35 #[.slice ao xs.length c] w (RetL 16 (il (runsK xs xs.length).1) (fun s => .tuple #[s, .bool true]) w) := by
  have HX := Lib.hid hx
  have h1 : (1 : Int) ≤ xs.length := by omega
  have h2 : (xs.length : Int) ≤ 8192 := by omega
  have hmk : ∀ w : World, (Instr.makeSlice 25 (.int .i64 16) (.int .i64 16)).run Try.prog w = .ok (.slice (some ⟨w.heap.size, 0, none⟩) 16 16) (w.alloc (.cells (Array.replicate 16 (.int .i64 0)) 2)) := fun w => run_mk16 w 25 2 16 (by omega) Try.underlying25 (by kernel_rfl)
  clear hx
  go_enter Try.func35, Try.ntmps35
  go_wp2
  clear hmk
  go_loopw [5, 6] (fun rv iv wr => ∃ k r : Nat, k ≤ xs.length ∧ iv = .int .i64 (k : Int) ∧ r = k - (runsK xs k).2 ∧ rv = .int .i64 (r : Int) ∧ Below w.heap.size w wr ∧ Whole wr w.heap.size 2 (il (runsK xs k).1).toArray) (fun _ iv _ => xs.length - (intOf iv).toNat)
  case atStart => exact ⟨0, 0, Nat.zero_le _, rfl, rfl, rfl, by first | exact (Below.refl _ _).alloc (Nat.le_refl _) _ | exact Bel_drewN ((Below.refl _ _).alloc (Nat.le_refl _) _) _, by first | exact tally_new _ _ _ | exact (tally_new _ _ _).drewN _⟩
  case round =>
    obtain ⟨k, r, hk, rfl, hr, rfl, hbel, hwh⟩ := hrel
    obtain ⟨i1, i2, i3⟩ := runsK_facts xs k
    have HW := Lib.hid (And.intro hbel hwh)
    have hsz := hwh.lt
    obtain ⟨s, hs⟩ : ∃ s, s = (runsK xs k).2 := ⟨_, rfl⟩
    rw [← hs] at i3 hr
    have HS0 := Lib.hid hs
    by_cases hlt : k < xs.length
    · obtain ⟨f, hf⟩ : ∃ f, f = k + 1 := ⟨_, rfl⟩
      obtain ⟨m, hm⟩ : ∃ m, m = k + 1 - s := ⟨_, rfl⟩
      have HF := Lib.hid hf
      have HM := Lib.hid hm
      have hkf : (k : Int) + 1 = f := by omega
      have hrm : (r : Int) + 1 = m := by omega
      have hm1 : 1 ≤ m := by omega
      have hm8 : m ≤ 8193 := by omega
      have hf8 : f ≤ 8193 := by omega
      have hk8 : k ≤ 8192 := by omega
      have hr8 : r ≤ 8192 := by omega
      by_cases hend : f = xs.length
      · have hend' : (f : Int) = xs.length := by omega
        have HS := Lib.hid (runsK_end hs (.inl (by omega)))
        by_cases hd : m ≤ 16
        · have hcell := tally_cell hwh (m - 1) (by rw [i1]; omega)
          have hfr := hwh.frozen (m - 1)
          have hbd := i2 (m - 1)
          have HJ : Hid (min (k + 1 - s) 16 - 1 = (m - 1)) := Lib.hid (by omega)
          obtain ⟨v, hv'⟩ : ∃ v, v = (runsK xs k).1[(m - 1)]?.getD 0 := ⟨_, rfl⟩
          rw [← hv'] at hcell hbd
          have HVV := Lib.hid hv'
          clear hf hm hr hs hwh hbel i2 i1 hv'
          go_wp2
          go_quiet (fail)
          clear hend hend'
          go_wp2
          go_roundw
          case rel =>
            refine ⟨k + 1, 0, by omega, by go_num, by rw [HS.out]; simp, by first | rfl | go_num, ?_⟩
            rw [HS.out, HJ.out]
            refine ⟨by repeat (first | with_reducible exact HW.out.1 | with_reducible refine Bel_drewN ?_ _ | with_reducible refine Below.drew ?_ | with_reducible refine Below.setCell ?_ (by first | omega | (simp; done) | (simp; omega)) _), ?_⟩
            unfold bump
            rw [← HVV.out]
            exact tally_put HW.out.2 _ _
          case measure => simp [intOf]; omega
        · have hcell := tally_cell hwh 15 (by rw [i1]; omega)
          have hfr := hwh.frozen 15
          have hbd := i2 15
          have HJ : Hid (min (k + 1 - s) 16 - 1 = 15) := Lib.hid (by omega)
          obtain ⟨v, hv'⟩ : ∃ v, v = (runsK xs k).1[15]?.getD 0 := ⟨_, rfl⟩
          rw [← hv'] at hcell hbd
          have HVV := Lib.hid hv'
          clear hf hm hr hs hwh hbel i2 i1 hv'
          have hd' : 16 < m := by omega
          go_wp2
          go_quiet (fail)
          clear hend hend'
          go_wp2
          go_roundw
          case rel =>
            refine ⟨k + 1, 0, by omega, by go_num, by rw [HS.out]; simp, by first | rfl | go_num, ?_⟩
            rw [HS.out, HJ.out]
            refine ⟨by repeat (first | with_reducible exact HW.out.1 | with_reducible refine Bel_drewN ?_ _ | with_reducible refine Below.drew ?_ | with_reducible refine Below.setCell ?_ (by first | omega | (simp; done) | (simp; omega)) _), ?_⟩
            unfold bump
            rw [← HVV.out]
            exact tally_put HW.out.2 _ _
          case measure => simp [intOf]; omega
      · have hlt2 : f < xs.length := by omega
        have hend' : ((f : Int) == xs.length) = false := by rw [beq_eq_false_iff_ne]; omega
        obtain ⟨b, o, rfl, hc0⟩ := (Holds.below HX.out hbel) f (by simpa [bl] using hlt2)
        obtain ⟨b', o', e', hc1⟩ := (Holds.below HX.out hbel) k (by simpa [bl] using hlt)
        cases e'
        rw [bl_get _ _ hlt2] at hc0
        rw [bl_get _ _ hlt, ← runsK_same xs k hlt, ← hs] at hc1
        by_cases hd0 : xs[f]?.getD false = xs[s]?.getD false
        · have HS := Lib.hid (runsK_stay (xs := xs) (k := k) (by omega) (by rw [← hs, ← hf]; exact hd0))
          rw [hd0] at hc0
          generalize xs[s]?.getD false = x at hc0 hc1
          clear hf hm hr hs hwh hbel i2 i1 hd0
          go_wp2
          go_quiet (fail)
          go_wp2
          go_roundw
          case rel => exact ⟨k + 1, m, by omega, by go_num, by rw [HS.out, ← HS0.out, HM.out], by first | rfl | go_num, by rw [HS.out]; exact ⟨Bel_drewN HW.out.1 _, HW.out.2⟩⟩
          case measure => simp [intOf]; omega
        · have HS := Lib.hid (runsK_end hs (.inr (by rw [← hs, ← hf]; exact hd0)))
          have hx : xs[f]?.getD false = !xs[s]?.getD false := by revert hd0; cases xs[f]?.getD false <;> cases xs[s]?.getD false <;> simp
          rw [hx] at hc0
          generalize xs[s]?.getD false = x at hc0 hc1
          clear hd0 hx
          by_cases hd : m ≤ 16
          · have hcell := tally_cell hwh (m - 1) (by rw [i1]; omega)
            have hfr := hwh.frozen (m - 1)
            have hbd := i2 (m - 1)
            have HJ : Hid (min (k + 1 - s) 16 - 1 = (m - 1)) := Lib.hid (by omega)
            obtain ⟨v, hv'⟩ : ∃ v, v = (runsK xs k).1[(m - 1)]?.getD 0 := ⟨_, rfl⟩
            rw [← hv'] at hcell hbd
            have HVV := Lib.hid hv'
            clear hf hm hr hs hwh hbel i2 i1 hv'
            go_wp2
            go_quiet (fail)
            clear hend hend'
            go_wp2
            go_roundw
            case rel =>
              refine ⟨k + 1, 0, by omega, by go_num, by rw [HS.out]; simp, by first | rfl | go_num, ?_⟩
              rw [HS.out, HJ.out]
              refine ⟨by repeat (first | with_reducible exact HW.out.1 | with_reducible refine Bel_drewN ?_ _ | with_reducible refine Below.drew ?_ | with_reducible refine Below.setCell ?_ (by first | omega | (simp; done) | (simp; omega)) _), ?_⟩
              unfold bump
              rw [← HVV.out]
              exact tally_put HW.out.2 _ _
            case measure => simp [intOf]; omega
          · have hcell := tally_cell hwh 15 (by rw [i1]; omega)
            have hfr := hwh.frozen 15
            have hbd := i2 15
            have HJ : Hid (min (k + 1 - s) 16 - 1 = 15) := Lib.hid (by omega)
            obtain ⟨v, hv'⟩ : ∃ v, v = (runsK xs k).1[15]?.getD 0 := ⟨_, rfl⟩
            rw [← hv'] at hcell hbd
            have HVV := Lib.hid hv'
            clear hf hm hr hs hwh hbel i2 i1 hv'
            have hd' : 16 < m := by omega
            go_wp2
            go_quiet (fail)
            clear hend hend'
            go_wp2
            go_roundw
            case rel =>
              refine ⟨k + 1, 0, by omega, by go_num, by rw [HS.out]; simp, by first | rfl | go_num, ?_⟩
              rw [HS.out, HJ.out]
              refine ⟨by repeat (first | with_reducible exact HW.out.1 | with_reducible refine Bel_drewN ?_ _ | with_reducible refine Below.drew ?_ | with_reducible refine Below.setCell ?_ (by first | omega | (simp; done) | (simp; omega)) _), ?_⟩
              unfold bump
              rw [← HVV.out]
              exact tally_put HW.out.2 _ _
            case measure => simp [intOf]; omega
    · have E : Hid (k = xs.length) := Lib.hid (by omega)
      clear hr hs hwh hbel i1 i2 i3
      go_wp2
      go_ret2
      rw [E.out] at HW
      exact ⟨_, _, rfl, tally_row HW.out.2 (Nat.le_refl _) HW.out.2.lt, HW.out.1⟩
theorem specRuns_no (xs : List Bool) (ao : Option Addr) (c : Nat) (w : World) (hv : ¬(1 ≤ xs.length ∧ xs.length ≤ 8192)) (hlen : xs.length ≤ 1048576) :
    Calls Try.prog 35 #[.slice ao xs.length c] w (RetB (.tuple #[.slice none 0 0, .bool false]) w) := by
  by_cases h : xs.length < 1
  · have h' : (xs.length : Int) < 1 := by omega
    clear hv h
    go_enter Try.func35, Try.ntmps35
    go_wp2
    go_ret2
    exact ⟨rfl, by first | exact Below.refl _ _ | exact Bel_drewN (Below.refl _ _) _⟩
  · have h1 : (1 : Int) ≤ xs.length := by omega
    have h2 : (8192 : Int) < xs.length := by omega
    clear hv h
    go_enter Try.func35, Try.ntmps35
    go_wp2
    go_ret2
    exact ⟨rfl, by first | exact Below.refl _ _ | exact Bel_drewN (Below.refl _ _) _⟩
end Go.Proofs.Ytdmbhnllebipjab
