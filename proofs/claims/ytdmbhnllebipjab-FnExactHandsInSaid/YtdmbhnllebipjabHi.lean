/- Hands of words: how many of each kind. -/
import Derived.Test.YtdmbhnllebipjabHn
namespace Go.Proofs.Ytdmbhnllebipjab
open Go Go.RowKit
set_option linter.unusedVariables false

theorem Holds.take {w : World} {ao : Option Addr} {xs : List Value} (h : Holds w ao xs) (k : Nat) : Holds w ao (xs.take k) := fun i hi => by
  have hi' : i < k ∧ i < xs.length := by simp at hi; omega
  obtain ⟨b, o, e, hc⟩ := h i hi'.2
  refine ⟨b, o, e, ?_⟩
  rw [hc]
  simp [List.getD, hi'.1]
/-- The hand number k, and its kind. -/
def handW (xs : List Int) (k : Nat) : List Int := (xs.drop (5 * k)).take 5
def kindW (xs : List Int) (k : Nat) : Nat := handI (eqT (digL (handW xs k)) 5)
def handsK (xs : List Int) : Nat → List Int
  | 0 => List.replicate 7 0
  | k + 1 => bump (handsK xs k) (kindW xs k)
theorem handsK_inv (xs : List Int) (k : Nat) : (handsK xs k).length = 7 ∧ upTo k (handsK xs k) := by
  induction k with
  | zero => exact ⟨by simp [handsK], upTo_zero _⟩
  | succ k ih => exact ⟨by simp [handsK, bump_len, ih.1], ih.2.bump _⟩
theorem handW_len (xs : List Int) (k : Nat) (h : 5 * k + 5 ≤ xs.length) : (handW xs k).length = 5 := by simp [handW]; omega
theorem handW_get (xs : List Int) (k i : Nat) (hi : i < 5) : (handW xs k)[i]?.getD 0 = xs[5 * k + i]?.getD 0 := by
  simp [handW, hi, List.getElem?_drop]
theorem handW_words (xs : List Int) (k : Nat) (hw : wordsB xs = true) (h : 5 * k + 5 ≤ xs.length) : ∀ i : Nat, i < (handW xs k).length → 0 ≤ (handW xs k)[i]?.getD 0 ∧ (handW xs k)[i]?.getD 0 ≤ 4294967295 := fun i hi => by
  rw [handW_len _ _ h] at hi
  rw [handW_get _ _ _ hi]
  exact wordsB_get hw (by omega)
theorem kindW_facts (xs : List Int) (k : Nat) (hw : wordsB xs = true) (h : 5 * k + 5 ≤ xs.length) :
    kindW xs k ≤ 6 ∧ handS (mp (cntK (digL (handW xs k)) 5) 10).1 (mp (cntK (digL (handW xs k)) 5) 10).2 = kindW xs k := by
  have := five_all (digL (handW xs k)) (by simp [digL, handW_len _ _ h]) (digL_lt _ (handW_words xs k hw h))
  exact ⟨this.1, this.2.symm⟩

theorem implHands_no (xs : List Int) (ao : Option Addr) (c : Nat) (w : World) (hv : ¬(wordsB xs = true)) (hx : Holds w ao (il xs)) (hlen : xs.length ≤ 1048576) :
    Calls Try.prog 41 #[.slice ao xs.length c] w (RetB (.tuple #[.slice none 0 0, .bool false]) w) := by
  have hw : wordsB xs = false := by simpa using hv
  go_enter Try.func41, Try.ntmps41
  go_wp2_with fail
  refine (implWords_any xs _ _ _ hx hlen).mono ?_
  rintro e w1 ⟨rfl, hb⟩
  rw [hw]
  have HB := Lib.hid hb
  clear hb hx
  go_wp2
  go_ret2
  exact ⟨rfl, HB.out⟩
set_option maxRecDepth 100000 in
set_option maxHeartbeats 400000 in
theorem implHands_yes (xs : List Int) (ao : Option Addr) (w : World) (hv : wordsB xs = true) (hx : Holds w ao (il xs)) :
    Calls Try.prog 41 #[.slice ao xs.length xs.length] w (RetL 7 (il (handsK xs (xs.length / 5))) (fun s => .tuple #[s, .bool true]) w) := by
  have HX := Lib.hid hx
  have hlen := wordsB_len hv
  have HV := Lib.hid hv
  have hmk : ∀ w : World, (Instr.makeSlice 25 (.int .i64 7) (.int .i64 7)).run Try.prog w = .ok (.slice (some ⟨w.heap.size, 0, none⟩) 7 7) (w.alloc (.cells (Array.replicate 7 (.int .i64 0)) 2)) := fun w => run_mk16 w 25 2 7 (by omega) Try.underlying25 (by kernel_rfl)
  clear hx hv
  go_enter Try.func41, Try.ntmps41
  go_wp2_with fail
  refine (implWords_any xs _ _ _ HX.out (by omega)).mono ?_
  rintro e w1 ⟨rfl, hb⟩
  have HB := Lib.hid hb
  clear hb
  have hw := HV.out
  rw [hw]
  clear hw
  go_wp2_with fail
  clear hmk
  go_loopw [0] (fun s wr => ∃ (k i n : Nat) (A : Option Addr), i = 5 * k ∧ n + i = xs.length ∧ s = .slice A n n ∧ Holds w1 A (il (xs.drop i)) ∧ Below w1.heap.size w1 wr ∧ Whole wr w1.heap.size 2 (il (handsK xs k)).toArray) (fun s _ => match s with | .slice _ n _ => n | _ => 0)
  case atStart => exact ⟨0, 0, xs.length, ao, rfl, rfl, rfl, HX.out.below HB.out, (Below.refl _ _).alloc (Nat.le_refl _) _, tally_new _ _ _⟩
  case round =>
    obtain ⟨k, i, n, A, hik, hin, rfl, hol, hbel, hwh⟩ := hrel
    obtain ⟨i1, i2⟩ := handsK_inv xs k
    have HW := Lib.hid (And.intro hbel hwh)
    have hsz := hwh.lt
    have HO := Lib.hid hol
    have hn8 : n ≤ 256 := by omega
    by_cases hlt : 5 ≤ n
    · obtain ⟨b, o, rfl, _⟩ := (Holds.below hol hbel) 0 (by simp [il]; omega)
      have h5 : 5 * k + 5 ≤ xs.length := by omega
      have HWS := Lib.hid (handW_words xs k HV.out h5)
      have HLN := Lib.hid (handW_len xs k h5)
      obtain ⟨hj6, _⟩ := kindW_facts xs k HV.out h5
      have hhand : Holds wr (some ⟨b, o, none⟩) (il (handW xs k)) := by
        have := (Holds.below hol hbel).take 5
        rwa [show (il (xs.drop i)).take 5 = il (handW xs k) by simp [il, handW, hik, List.map_take]] at this
      have HH := Lib.hid hhand
      have hbd := i2 (kindW xs k)
      obtain ⟨j, ej⟩ : ∃ j, j = kindW xs k := ⟨_, rfl⟩
      have HJ : Hid (handI (eqT (digL (handW xs k)) 5) = j) := Lib.hid (by rw [ej]; rfl)
      have HS : Hid (handsK xs (k + 1) = bump (handsK xs k) j) := Lib.hid (by rw [ej]; rfl)
      rw [← ej] at hbd hj6
      obtain ⟨v, hv⟩ : ∃ v, v = (handsK xs k)[j]?.getD 0 := ⟨_, rfl⟩
      rw [← hv] at hbd
      have HVV := Lib.hid hv
      have HI1 := Lib.hid i1
      have HIK := Lib.hid hik
      have HIN := Lib.hid hin
      have hkk : k ≤ 256 := by omega
      have hn5 : (5 : Int) ≤ n := by omega
      clear hv ej hwh hbel i2 hik i1 hin hol hhand
      by_cases hcap : n = 5
      · subst hcap
        go_wp2_with fail
        refine (kindOfHand_any (handW xs k) HWS.out 5 HLN.out rfl _ _ (by omega) _ (by first | exact HH.out | exact HH.out.drewN _)).mono ?_
        rintro e w2 ⟨rfl, hb2⟩
        rw [HJ.out]
        have hwh2 := HW.out.2.below hb2
        have hcell := tally_cell hwh2 j (by rw [HI1.out]; omega)
        rw [← HVV.out] at hcell
        have hfr := hwh2.frozen j
        have HB2 := Lib.hid (Bel_next HW.out.1 hb2)
        have HW2 := Lib.hid hwh2
        have hz2 : w1.heap.size ≤ w2.heap.size := by have := hb2.size; omega
        clear hb2 hwh2
        go_wp2
        go_roundw
        case rel =>
          refine ⟨k + 1, i + 5, 0, _, by rw [HIK.out]; omega, by have := HIN.out; omega, rfl, by rw [show xs.drop (i + 5) = [] from List.drop_eq_nil_of_le (by have := HIN.out; omega)]; exact Holds.nil _ _, HB2.out.setCell (Nat.le_refl _) _, ?_⟩
          rw [HS.out]
          unfold bump
          rw [← HVV.out]
          exact tally_put HW2.out _ _
        case measure => simp
      · have hn6 : (5 : Int) < n := by omega
        have hn6' : 5 < n := by omega
        go_wp2_with fail
        refine (kindOfHand_any (handW xs k) HWS.out 5 HLN.out rfl _ _ (by omega) _ (by first | exact HH.out | exact HH.out.drewN _)).mono ?_
        rintro e w2 ⟨rfl, hb2⟩
        rw [HJ.out]
        have hwh2 := HW.out.2.below hb2
        have hcell := tally_cell hwh2 j (by rw [HI1.out]; omega)
        rw [← HVV.out] at hcell
        have hfr := hwh2.frozen j
        have HB2 := Lib.hid (Bel_next HW.out.1 hb2)
        have HW2 := Lib.hid hwh2
        have hz2 : w1.heap.size ≤ w2.heap.size := by have := hb2.size; omega
        clear hb2 hwh2
        go_wp2
        go_roundw
        case rel =>
          refine ⟨k + 1, i + 5, n - 5, _, by rw [HIK.out]; omega, by have := HIN.out; omega, rfl, ?_, HB2.out.setCell (Nat.le_refl _) _, ?_⟩
          · have := (HO.out.drop 5)
            rwa [show (il (xs.drop i)).drop 5 = il (xs.drop (i + 5)) by simp [il, List.map_drop]] at this
          · rw [HS.out]
            unfold bump
            rw [← HVV.out]
            exact tally_put HW2.out _ _
        case measure => simp; omega
    · have E : Hid (k = xs.length / 5) := Lib.hid (by omega)
      have hn' : (n : Int) < 5 := by omega
      clear hwh hbel i1 i2 hik hol hlt
      go_wp2
      go_ret2
      rw [E.out] at HW
      exact ⟨_, _, rfl, tally_row HW.out.2 HB.out.size HW.out.2.lt, Bel_next HB.out HW.out.1⟩
theorem specHands_no (xs : List Int) (ao : Option Addr) (c : Nat) (w : World) (hv : ¬(wordsB xs = true)) (hx : Holds w ao (il xs)) (hlen : xs.length ≤ 1048576) :
    Calls Try.prog 40 #[.slice ao xs.length c] w (RetB (.tuple #[.slice none 0 0, .bool false]) w) := by
  have hw : wordsB xs = false := by simpa using hv
  go_enter Try.func40, Try.ntmps40
  go_wp2_with fail
  refine (l02AreWords_any xs _ _ _ hx hlen).mono ?_
  rintro e w1 ⟨rfl, rfl⟩
  rw [hw]
  clear hx
  go_wp2
  go_ret2
  exact ⟨rfl, Below.refl _ _⟩
set_option maxRecDepth 100000 in
set_option maxHeartbeats 400000 in
theorem specHands_yes (xs : List Int) (ao : Option Addr) (c : Nat) (w : World) (hv : wordsB xs = true) (hx : Holds w ao (il xs)) :
    Calls Try.prog 40 #[.slice ao xs.length c] w (RetL 7 (il (handsK xs (xs.length / 5))) (fun s => .tuple #[s, .bool true]) w) := by
  have HX := Lib.hid hx
  have hlen := wordsB_len hv
  have HV := Lib.hid hv
  have hmk : ∀ w : World, (Instr.makeSlice 25 (.int .i64 7) (.int .i64 7)).run Try.prog w = .ok (.slice (some ⟨w.heap.size, 0, none⟩) 7 7) (w.alloc (.cells (Array.replicate 7 (.int .i64 0)) 2)) := fun w => run_mk16 w 25 2 7 (by omega) Try.underlying25 (by kernel_rfl)
  clear hx hv
  go_enter Try.func40, Try.ntmps40
  go_wp2_with fail
  refine (l02AreWords_any xs _ _ _ HX.out (by omega)).mono ?_
  rintro e w1 ⟨rfl, rfl⟩
  have hw := HV.out
  rw [hw]
  clear hw
  go_wp2_with fail
  clear hmk
  go_loopw [5] (fun iv wr => ∃ k i : Nat, i = 5 * k ∧ i ≤ xs.length ∧ iv = .int .i64 (i : Int) ∧ Below w.heap.size w wr ∧ Whole wr w.heap.size 2 (il (handsK xs k)).toArray) (fun iv _ => xs.length - (intOf iv).toNat)
  case atStart => exact ⟨0, 0, rfl, Nat.zero_le _, rfl, (Below.refl _ _).alloc (Nat.le_refl _) _, tally_new _ _ _⟩
  case round =>
    rename World => wo
    obtain ⟨k, i, hik, hin, rfl, hbel, hwh⟩ := hrel
    obtain ⟨i1, i2⟩ := handsK_inv xs k
    have HW := Lib.hid (And.intro hbel hwh)
    have hsz := hwh.lt
    have hi8 : i ≤ 256 := by omega
    by_cases hlt : i + 5 ≤ xs.length
    · have h5 : 5 * k + 5 ≤ xs.length := by omega
      have HWS := Lib.hid (handW_words xs k HV.out h5)
      have HLN := Lib.hid (handW_len xs k h5)
      obtain ⟨hj6, hjS⟩ := kindW_facts xs k HV.out h5
      have hbd := i2 (kindW xs k)
      obtain ⟨j, ej⟩ : ∃ j, j = kindW xs k := ⟨_, rfl⟩
      have HJ : Hid (handS (mp (cntK (digL (handW xs k)) 5) 10).1 (mp (cntK (digL (handW xs k)) 5) 10).2 = j) := Lib.hid (by rw [ej, hjS])
      have HS : Hid (handsK xs (k + 1) = bump (handsK xs k) j) := Lib.hid (by rw [ej]; rfl)
      rw [← ej] at hbd hj6
      obtain ⟨v, hv⟩ : ∃ v, v = (handsK xs k)[j]?.getD 0 := ⟨_, rfl⟩
      rw [← hv] at hbd
      have HVV := Lib.hid hv
      have HI1 := Lib.hid i1
      have HIK := Lib.hid hik
      have hkk : k ≤ 256 := by omega
      have hlt' : (i : Int) + 5 ≤ xs.length := by omega
      clear hv ej hwh hbel i2 hik i1 hjS
      go_wp2
      go_loopw [6, 7] (fun lv kv w2 => ∃ m : Nat, m ≤ 5 ∧ kv = .int .i64 ((i + m : Nat) : Int) ∧ w2.ownsRow wo.heap.size 2 1 lv m (il (ni ((digL (handW xs k)).take m))) ∧ wo.grownBy w2 none) (fun _ kv _ => i + 5 - (intOf kv).toNat)
      case atStart => exact ⟨0, Nat.zero_le _, rfl, World.ownsRow_made _ _ _ (Nat.le_refl _) (Nat.zero_le _) rfl, by first | exact grown_refl _ _ | exact World.grownBy_alloc _ _ _⟩
      case round =>
        obtain ⟨m, hm, rfl, hown, hgr⟩ := hrel
        have H := Lib.hid (And.intro hown hgr)
        obtain ⟨f, hf⟩ : ∃ f, f = i + m := ⟨_, rfl⟩
        have HF := Lib.hid hf
        rw [← hf]
        by_cases hmm : m < 5
        · have hbel2 : Below wo.heap.size wo wr := Below.grown (Below.refl _ _) hgr (Nat.le_refl _) (by simp)
          obtain ⟨b, o, rfl, hc0⟩ := (Holds.below (HX.out.below HW.out.1) hbel2) f (by simp [il]; omega)
          rw [il_get _ _ (show f < xs.length by omega)] at hc0
          have g0 := wordsB_get HV.out (show f < xs.length by omega)
          obtain ⟨x, ex⟩ : ∃ x : Nat, xs[f]?.getD 0 = x := ⟨_, (Int.toNat_of_nonneg g0.1).symm⟩
          have hdx := digL_get (handW xs k) m x (by rw [HLN.out]; exact hmm) (by rw [handW_get _ _ _ hmm, ← ex, hf, HIK.out])
          rw [ex] at hc0 g0
          have hdq : (x : Int) / 429496730 = ((x / 429496730 : Nat) : Int) := by omega
          have hx9 : x / 429496730 ≤ 9 := by omega
          generalize x / 429496730 = dx at *
          have hnext : il (ni ((digL (handW xs k)).take (m + 1))) = il (ni ((digL (handW xs k)).take m)) ++ [.int .i64 (dx : Int)] := by
            rw [List.take_succ_eq_append_getElem (by simp [digL, HLN.out]; exact hmm)]
            have : (digL (handW xs k))[m]'(by simp [digL, HLN.out]; exact hmm) = dx := by
              rw [← hdx, List.getElem?_eq_getElem (by simp [digL, HLN.out]; exact hmm)]; rfl
            rw [this]; simp [il, ni]
          have HNX := Lib.hid hnext
          have hf8 : f ≤ 256 := by omega
          have hfl : f < xs.length := by omega
          have hfi : (f : Int) < i + 5 := by omega
          have hz2 := hgr.size
          clear hown hgr hbel2 hf ex hdx hnext
          go_wp2_with (at_builtin; refine wpList_app1 rfl _ _ 25 rfl wo.heap.size 2 (.int .i64 0) 8 Try.underlying25 (by kernel_rfl) rfl _ m _ rfl (H.out.1.alloc _) _ _ (.int .i64 (dx : Int)) rfl ?_ rfl ⟨by omega, by omega⟩ ?_ ?_)
          · simp
          · simp; omega
          · intro v' w' hown' hgr'
            have hg3 : wo.grownBy w' none := grown_more (grown_more H.out.2 (World.grownBy_alloc _ _ none) (fun i hi => by cases hi)) hgr' (own_ge H.out.1)
            have ho3 : w'.ownsRow wo.heap.size 2 1 v' (m + 1) (il (ni ((digL (handW xs k)).take (m + 1)))) := by rw [HNX.out]; exact hown'
            have H3 := Lib.hid (And.intro ho3 hg3)
            clear hown' hgr' hg3 ho3 H
            go_wp2
            go_roundw
            case rel => exact ⟨m + 1, by omega, by rw [HF.out]; go_num, H3.out⟩
            case measure => simp [intOf]; omega
        · have E : Hid (m = 5) := Lib.hid (by omega)
          obtain ⟨ao', c', rfl⟩ := own_form hown
          have hfi : (i : Int) + 5 ≤ f := by omega
          have hfi' : (f : Int) = i + 5 := by omega
          have hold : Holds wr ao' (il (ni (digL (handW xs k)))) := by
            have := (Row.of_own hown).holds
            rwa [List.take_of_length_le (by simp [digL, HLN.out]; omega)] at this
          have HD := Lib.hid hold
          have e5 := E.out
          subst e5
          clear hown hgr hold hf hmm
          go_wp2_with fail
          refine (l02Hand_any (digL (handW xs k)) (digL_lt _ HWS.out) 5 (by simp [digL, HLN.out]) rfl _ _ _ HD.out).mono ?_
          rintro e w2 ⟨rfl, hb2⟩
          rw [HJ.out]
          have hbel2 : Below wo.heap.size wo wr := Below.grown (Below.refl _ _) H.out.2 (Nat.le_refl _) (by simp)
          have hbel3 := Bel_next hbel2 hb2
          have hwh2 := HW.out.2.below hbel3
          have hcell := tally_cell hwh2 j (by rw [HI1.out]; omega)
          rw [← HVV.out] at hcell
          have hfr := hwh2.frozen j
          have HB2 := Lib.hid (Bel_next HW.out.1 hbel3)
          have HW2 := Lib.hid hwh2
          have hz2 : w.heap.size ≤ w2.heap.size := HB2.out.size
          clear hb2 hwh2 hbel2 hbel3
          go_wp2
          go_roundw
          case rel =>
            refine ⟨k + 1, i + 5, by rw [HIK.out]; omega, by omega, by go_num, HB2.out.setCell (Nat.le_refl _) _, ?_⟩
            rw [HS.out]
            unfold bump
            rw [← HVV.out]
            exact tally_put HW2.out _ _
          case measure => simp [intOf]; omega
    · have E : Hid (k = xs.length / 5) := Lib.hid (by omega)
      have hn' : (xs.length : Int) < i + 5 := by omega
      clear hwh hbel i1 i2 hik hlt
      go_wp2
      go_ret2
      rw [E.out] at HW
      exact ⟨_, _, rfl, tally_row HW.out.2 (Nat.le_refl _) HW.out.2.lt, HW.out.1⟩
end Go.Proofs.Ytdmbhnllebipjab
