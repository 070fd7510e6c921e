/- Hands of words. -/
import Derived.Test.YtdmbhnllebipjabTl
import Derived.Test.YtdmbhnllebipjabWd
import Derived.Test.YtdmbhnllebipjabHc
import Derived.Deep.QuietTactic
import Derived.BigQuiet
namespace Go.Proofs.Ytdmbhnllebipjab
open Go Go.RowKit
set_option linter.unusedVariables false

def ni (L : List Nat) : List Int := L.map fun n : Nat => (n : Int)
theorem ni_get (L : List Nat) (i : Nat) (h : i < L.length) : (ni L)[i]?.getD 0 = ((L[i]?.getD 0 : Nat) : Int) := by simp [ni, h]
def cntA (L : List Nat) (k : Nat) : List Int := (List.range 10).map fun x => (cntK L k x : Int)
theorem cntA_len (L : List Nat) (k : Nat) : (cntA L k).length = 10 := by simp [cntA]
theorem cntA_get (L : List Nat) (k x : Nat) (h : x < 10) : (cntA L k)[x]?.getD 0 = (cntK L k x : Int) := by simp [cntA, h]
theorem cntA_next (L : List Nat) (k : Nat) (h : L[k]?.getD 0 < 10) : (cntA L k).set (L[k]?.getD 0) ((cntK L k (L[k]?.getD 0) : Int) + 1) = cntA L (k + 1) := by
  apply List.ext_getElem?
  intro x
  rw [List.getElem?_set]
  by_cases e : L[k]?.getD 0 = x
  · rw [if_pos e, if_pos (by rw [cntA_len]; omega)]
    subst e
    simp [cntA, h, cntK, b1_eq]
  · rw [if_neg e]
    by_cases hx : x < 10
    · simp [cntA, hx, cntK, b1_eq, e]
    · rw [List.getElem?_eq_none (by rw [cntA_len]; omega), List.getElem?_eq_none (by rw [cntA_len]; omega)]
theorem cntA_zero (L : List Nat) : cntA L 0 = List.replicate 10 0 := by rfl

set_option maxRecDepth 100000 in
set_option maxHeartbeats 400000 in
theorem l02Hand_any (L : List Nat) (hL : ∀ i : Nat, L[i]?.getD 0 < 10) (n : Nat) (hn : L.length = n) (hn5 : n = 5) (ao : Option Addr) (c : Nat) (w : World) (hx : Holds w ao (il (ni L))) :
    Calls Try.prog 63 #[.slice ao n c] w (RetB (.int .i64 ((handS (mp (cntK L n) 10).1 (mp (cntK L n) 10).2 : Nat) : Int)) w) := by
  have HX := Lib.hid hx
  have HL := Lib.hid hL
  have hnl : n ≤ 5 := by omega
  have hmk : ∀ w : World, (Instr.makeSlice 88 (.int .i64 10) (.int .i64 10)).run Try.prog w = .ok (.slice (some ⟨w.heap.size, 0, none⟩) 10 10) (w.alloc (.cells (Array.replicate 10 (.int .i64 0)) 3)) := fun w => run_mk16 w 88 3 10 (by omega) Try.underlying88 (by kernel_rfl)
  have HN := Lib.hid hn
  clear hx hL hn5 hn
  go_enter Try.func63, Try.ntmps63
  go_wp2
  clear hmk
  go_loopw [6] (fun i wr => ∃ k : Nat, k ≤ n ∧ i = .int .i64 k ∧ Below w.heap.size w wr ∧ Whole wr w.heap.size 3 (il (cntA L k)).toArray) (fun i _ => n - (intOf i).toNat)
  case atStart => exact ⟨0, Nat.zero_le _, rfl, (Below.refl _ _).alloc (Nat.le_refl _) _, by rw [cntA_zero]; exact tally_new _ _ _⟩
  case round =>
    obtain ⟨k, hk, rfl, hbel, hwh⟩ := hrel
    have HW := Lib.hid (And.intro hbel hwh)
    have hsz := hwh.lt
    by_cases hlt : k < n
    · obtain ⟨b, o, rfl, hc⟩ := (HX.out.below hbel) k (by simp [il, ni, HN.out]; exact hlt)
      rw [il_get _ _ (by simp [ni, HN.out]; exact hlt), ni_get _ _ (by rw [HN.out]; exact hlt)] at hc
      have hx10 := HL.out k
      have HS := Lib.hid (cntA_next L k hx10)
      have hcell := tally_cell hwh (L[k]?.getD 0) (by rw [cntA_len]; exact hx10)
      rw [cntA_get _ _ _ hx10] at hcell
      have hbd := cntK_le L k (L[k]?.getD 0)
      generalize L[k]?.getD 0 = x at *
      generalize cntK L k x = v at *
      have hfr := hwh.frozen x
      clear hwh hbel
      go_wp2
      go_roundw
      case rel =>
        refine ⟨k + 1, by omega, by go_num, HW.out.1.setCell (Nat.le_refl _) _, ?_⟩
        rw [← HS.out]
        exact tally_put HW.out.2 _ _
      case measure => simp [intOf]; omega
    · have E : Hid (k = n) := Lib.hid (by omega)
      clear hwh hbel hk
      go_wp2
      have HW' : Hid (Below w.heap.size w wr ∧ Whole wr w.heap.size 3 (il (cntA L n)).toArray) := Lib.hid (by rw [← E.out]; exact HW.out)
      clear HW E hlt
      have hf5 : ∀ x, cntK L n x ≤ 5 := fun x => Nat.le_trans (cntK_le L n x) (by omega)
      have HF5 := Lib.hid hf5
      clear hf5
      go_loop [4, 5, 7] (fun p m d => ∃ k : Nat, k ≤ 10 ∧ d = .int .i64 k ∧ m = .int .i64 ((mp (cntK L n) k).1 : Int) ∧ p = .int .i64 ((mp (cntK L n) k).2 : Int)) (fun _ _ d => 10 - (intOf d).toNat)
      case atStart => exact ⟨0, Nat.zero_le _, rfl, rfl, rfl⟩
      case round =>
        obtain ⟨k2, hk2, rfl, rfl, rfl⟩ := hrel
        by_cases hlt2 : k2 < 10
        · have hml := mp_le (cntK L n) HF5.out k2
          have hcell := tally_cell HW'.out.2 k2 (by rw [cntA_len]; exact hlt2)
          rw [cntA_get _ _ _ hlt2] at hcell
          have h1 := mp_max (cntK L n) k2
          have h2 := mp_two (cntK L n) k2
          have hv5 := HF5.out k2
          generalize cntK L n k2 = v at *
          generalize (mp (cntK L n) k2).1 = m at *
          generalize (mp (cntK L n) k2).2 = p at *
          have H1 := Lib.hid h1
          have H2 := Lib.hid h2
          clear h1 h2
          by_cases hm : m < v
          · by_cases h2 : v = 2
            · subst h2
              go_wp2
              go_round
              case rel => exact ⟨k2 + 1, by omega, by go_num, by rw [H1.out, if_pos (by omega)] <;> rfl, by rw [H2.out, if_pos (by omega)] <;> rfl⟩
              case measure => simp [intOf]; omega
            · have h2' : ((v : Int) == 2) = false := by rw [beq_eq_false_iff_ne]; omega
              go_wp2
              go_round
              case rel => exact ⟨k2 + 1, by omega, by go_num, by rw [H1.out, if_pos (by omega)] <;> rfl, by rw [H2.out, if_neg (by omega)] <;> rfl⟩
              case measure => simp [intOf]; omega
          · have hm' : v ≤ m := by omega
            have hM : Hid ((if m ≤ v then v else m) = m) := Lib.hid (by split <;> omega)
            clear hm
            by_cases h2 : v = 2
            · subst h2
              go_wp2
              go_round
              case rel => exact ⟨k2 + 1, by omega, by go_num, by rw [H1.out, hM.out], by rw [H2.out, if_pos (by omega)] <;> rfl⟩
              case measure => simp [intOf]; omega
            · have h2' : ((v : Int) == 2) = false := by rw [beq_eq_false_iff_ne]; omega
              go_wp2
              go_round
              case rel => exact ⟨k2 + 1, by omega, by go_num, by rw [H1.out, hM.out], by rw [H2.out, if_neg (by omega)] <;> rfl⟩
              case measure => simp [intOf]; omega
        · have e2 : k2 = 10 := by omega
          subst e2
          have hml := mp_le (cntK L n) HF5.out 10
          generalize (mp (cntK L n) 10).1 = m at *
          generalize (mp (cntK L n) 10).2 = p at *
          clear hlt2 hk2
          by_cases m5 : m = 5
          · subst m5
            go_wp2
            go_ret
            exact ⟨rfl, HW'.out.1⟩
          · by_cases m4 : m = 4
            · subst m4
              go_wp2
              go_ret
              exact ⟨rfl, HW'.out.1⟩
            · by_cases m3 : m = 3
              · subst m3
                by_cases p1 : p = 1
                · subst p1
                  go_wp2
                  go_ret
                  exact ⟨rfl, HW'.out.1⟩
                · have hh : handS 3 p = 3 := by
                    show cond (Nat.beq p 1) 4 3 = 3
                    rw [show Nat.beq p 1 = false by rw [← Bool.not_eq_true]; intro hh; exact p1 (Nat.eq_of_beq_eq_true hh)]; rfl
                  rw [hh]
                  have p1' : ((p : Int) == 1) = false := by rw [beq_eq_false_iff_ne]; omega
                  go_wp2
                  go_ret
                  exact ⟨rfl, HW'.out.1⟩
              · have hh : handS m p = p := by rcases (by omega : m = 0 ∨ m = 1 ∨ m = 2) with rfl | rfl | rfl <;> rfl
                rw [hh]
                have m5' : ((m : Int) == 5) = false := by rw [beq_eq_false_iff_ne]; omega
                have m4' : ((m : Int) == 4) = false := by rw [beq_eq_false_iff_ne]; omega
                have m3' : ((m : Int) == 3) = false := by rw [beq_eq_false_iff_ne]; omega
                go_wp2
                go_ret
                exact ⟨rfl, HW'.out.1⟩
/-- The digits of words. -/
def digL (ws : List Int) : List Nat := ws.map fun x : Int => x.toNat / 429496730
theorem digL_get (ws : List Int) (i x : Nat) (h : i < ws.length) (hx : ws[i]?.getD 0 = x) : (digL ws)[i]?.getD 0 = x / 429496730 := by
  rw [List.getElem?_eq_getElem h] at hx
  simp at hx
  simp [digL, h, hx]
theorem digL_lt (ws : List Int) (h : ∀ i : Nat, i < ws.length → 0 ≤ ws[i]?.getD 0 ∧ ws[i]?.getD 0 ≤ 4294967295) (i : Nat) : (digL ws)[i]?.getD 0 < 10 := by
  by_cases hi : i < ws.length
  · have := h i hi
    rw [digL_get ws i _ hi (Int.toNat_of_nonneg this.1).symm]
    have h2 : (ws[i]?.getD 0).toNat ≤ 4294967295 := by omega
    generalize (ws[i]?.getD 0).toNat = y at h2
    omega
  · rw [List.getElem?_eq_none (by simp [digL]; omega)]; decide

set_option maxRecDepth 100000 in
set_option maxHeartbeats 400000 in
theorem kindOfHand_any (ws : List Int) (hws : ∀ i : Nat, i < ws.length → 0 ≤ ws[i]?.getD 0 ∧ ws[i]?.getD 0 ≤ 4294967295) (n : Nat) (hn : ws.length = n) (hn5 : n = 5) (ao : Option Addr) (c : Nat) (hc5 : n ≤ c) (w : World) (hx : Holds w ao (il ws)) :
    Calls Try.prog 64 #[.slice ao n c] w (RetB (.int .i64 ((handI (eqT (digL ws) n) : Nat) : Int)) w) := by
  have HX := Lib.hid hx
  have HWS := Lib.hid hws
  have hnl : n ≤ 5 := by omega
  have HN := Lib.hid hn
  clear hx hws hn5 hn
  go_enter Try.func64, Try.ntmps64
  go_wp2
  go_loop [3, 10] (fun q iv => ∃ i : Nat, i ≤ n ∧ iv = .int .i64 i ∧ q = .int .i64 (eqT (digL ws) i : Int) ∧ eqT (digL ws) i ≤ 5 * i) (fun _ iv => n - (intOf iv).toNat)
  case atStart => exact ⟨0, Nat.zero_le _, rfl, rfl, Nat.zero_le _⟩
  case round =>
    obtain ⟨i, hi, rfl, rfl, hq0⟩ := hrel
    by_cases hlt : i < n
    · obtain ⟨b, o, rfl, hc⟩ := HX.out i (by simp [il, HN.out]; exact hlt)
      rw [il_get _ _ (by rw [HN.out]; exact hlt)] at hc
      have g0 := HWS.out i (by rw [HN.out]; exact hlt)
      obtain ⟨x, ex⟩ : ∃ x : Nat, ws[i]?.getD 0 = x := ⟨_, (Int.toNat_of_nonneg g0.1).symm⟩
      have hdx := digL_get ws i x (by rw [HN.out]; exact hlt) ex
      rw [ex] at hc g0
      obtain ⟨q0, eq0⟩ : ∃ q0, q0 = eqT (digL ws) i := ⟨_, rfl⟩
      rw [← eq0] at hq0 ⊢
      have HQ0 := Lib.hid eq0
      have HDX := Lib.hid hdx
      clear hdx ex eq0
      have hdq : (x : Int) / 429496730 = ((x / 429496730 : Nat) : Int) := by omega
      generalize x / 429496730 = dx at *
      have hic : i ≤ c := by omega
      go_wp2
      go_loop [3, 19] (fun q jv => ∃ j : Nat, j ≤ i ∧ jv = .int .i64 j ∧ q = .int .i64 ((q0 + eqK (digL ws) i j : Nat) : Int)) (fun _ jv => i - (intOf jv).toNat)
      case atStart => exact ⟨0, Nat.zero_le _, rfl, rfl⟩
      case round =>
        obtain ⟨j, hj, rfl, rfl⟩ := hrel
        have hkl := eqK_le (digL ws) i j
        obtain ⟨q1, eq1⟩ : ∃ q1, q1 = q0 + eqK (digL ws) i j := ⟨_, rfl⟩
        have hq1 : q1 ≤ 5 * i + 5 := by omega
        have HQ1 := Lib.hid eq1
        rw [← eq1]
        clear eq1 hkl
        by_cases hjl : j < i
        · obtain ⟨b', o', e', hcj⟩ := HX.out j (by simp [il, HN.out]; omega)
          cases e'
          rw [il_get _ _ (by rw [HN.out]; omega)] at hcj
          have g1 := HWS.out j (by rw [HN.out]; omega)
          obtain ⟨y, ey⟩ : ∃ y : Nat, ws[j]?.getD 0 = y := ⟨_, (Int.toNat_of_nonneg g1.1).symm⟩
          have hdy := digL_get ws j y (by rw [HN.out]; omega) ey
          rw [ey] at hcj g1
          have HDY := Lib.hid hdy
          clear hdy ey
          have hdq2 : (y : Int) / 429496730 = ((y / 429496730 : Nat) : Int) := by omega
          generalize y / 429496730 = dy at *
          have hstep : eqK (digL ws) i (j + 1) = eqK (digL ws) i j + b1 dx dy := by rw [← HDX.out, ← HDY.out]; rfl
          have HST := Lib.hid hstep
          clear hstep
          by_cases he : dx = dy
          · subst he
            go_wp2
            go_round
            case rel => exact ⟨j + 1, by omega, by go_num, by rw [HST.out, HQ1.out, b1_eq, if_pos rfl]; go_num⟩
            case measure => simp [intOf]; omega
          · have he' : ((dx : Int) == dy) = false := by rw [beq_eq_false_iff_ne]; omega
            go_wp2
            go_round
            case rel => exact ⟨j + 1, by omega, by go_num, by rw [HST.out, HQ1.out, b1_eq, if_neg he]; rfl⟩
            case measure => simp [intOf]; omega
        · have E : Hid (j = i) := Lib.hid (by omega)
          go_wp2
          go_round
          case rel => exact ⟨i + 1, by omega, by go_num, by rw [HQ1.out, E.out, HQ0.out]; rfl, by have h := HQ1.out; have h0 := HQ0.out; have h3 := E.out; subst h3; show eqT (digL ws) j + eqK (digL ws) j j ≤ _; omega⟩
          case measure => simp [intOf]; omega
    · have E : Hid (i = n) := Lib.hid (by omega)
      have HE0 : eqT (digL ws) n = eqT (digL ws) i := by rw [E.out]
      generalize eqT (digL ws) i = q at *
      have HE := Lib.hid HE0
      clear HE0
      by_cases h6 : q = 6
      · subst h6
        go_wp2
        go_ret
        exact ⟨by rw [HE.out]; rfl, Below.refl _ _⟩
      · by_cases h10 : q = 10
        · subst h10
          go_wp2
          go_ret
          exact ⟨by rw [HE.out]; rfl, Below.refl _ _⟩
        · have hh : handI q = q := by
            show cond (Nat.beq q 6) 5 (cond (Nat.beq q 10) 6 q) = q
            rw [show Nat.beq q 6 = false by rw [← Bool.not_eq_true]; intro hh; exact h6 (Nat.eq_of_beq_eq_true hh), show Nat.beq q 10 = false by rw [← Bool.not_eq_true]; intro hh; exact h10 (Nat.eq_of_beq_eq_true hh)]; rfl
          have HH := Lib.hid hh
          clear hh
          have h6' : ((q : Int) == 6) = false := by rw [beq_eq_false_iff_ne]; omega
          have h10' : ((q : Int) == 10) = false := by rw [beq_eq_false_iff_ne]; omega
          go_wp2
          go_ret
          exact ⟨by rw [HE.out, HH.out]; rfl, Below.refl _ _⟩
end Go.Proofs.Ytdmbhnllebipjab
