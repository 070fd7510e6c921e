/- Rare chances: one walk of the code. -/
import Derived.Test.YtgeomaeccalceaaMee
namespace Go.Proofs.Ytgeomaeccalceaa
open Go Go.RowKit Fl Vag
set_option linter.unusedVariables false

/-- A walk ends: it has come to the level, or back to 0. -/
def doneR (y lev : Int) (t : Nat) : Prop := lev ≤ y ∨ (y = 0 ∧ 0 < t)
set_option maxRecDepth 100000 in
set_option maxHeartbeats 1000000 in
theorem rdone_any (y lev : Int) (t : Nat) (v : Bool) (hv : v = true ↔ doneR y lev t) (ga gl cN : Nat) (w : World) (hca : w.cell? ⟨ga, 0, none⟩ = some (.int .i64 y)) (hcl : w.cell? ⟨gl, 0, none⟩ = some (.int .i64 lev)) :
    Calls Try.prog 122 #[.agg #[.slice (some ⟨ga, 0, none⟩) 1 cN, .int .i64 (t : Nat)], .pointer (some ⟨gl, 0, none⟩)] w (RetB (.bool v) w) := by
  have HV := Lib.hid hv
  clear hv
  have hca' := cell_old w (.cells #[.slice (some ⟨ga, 0, none⟩) 1 cN, .int .i64 (t : Nat)] 103) hca
  have hcl' := cell_old w (.cells #[.slice (some ⟨ga, 0, none⟩) 1 cN, .int .i64 (t : Nat)] 103) hcl
  clear hca hcl
  by_cases h1 : lev ≤ y
  · have e1 : decide (lev ≤ y) = true := decide_eq_true h1
    obtain rfl : v = true := HV.out.2 (.inl h1)
    go_enter Try.func122, Try.ntmps122
    go_wp2_with fail
    go_quiet (fail)
    go_wp2_with fail
    go_ret
    exact ⟨rfl, (by repeat (first | with_reducible exact Below.refl _ _ | with_reducible exact HBL | with_reducible refine Below.drew ?_ | with_reducible refine Bel_drewN ?_ _ | with_reducible refine Below.alloc ?_ (by first | omega | (simp; done) | (simp; omega)) _ | with_reducible refine Below.setCell ?_ (by first | omega | (simp; done) | (simp; omega)) _))⟩
  · have e1 : decide (lev ≤ y) = false := decide_eq_false h1
    by_cases h2 : y = 0
    · have e2 : (y == 0) = true := by simpa using h2
      by_cases h3 : 0 < t
      · have e3 : decide ((0 : Int) < (t : Int)) = true := decide_eq_true (by omega)
        have HT : Hid (decide (0 < t) = true) := Lib.hid (decide_eq_true h3)
        obtain rfl : v = true := HV.out.2 (.inr ⟨h2, h3⟩)
        clear h1 h2 h3
        go_enter Try.func122, Try.ntmps122
        go_wp2_with fail
        go_quiet (fail)
        go_wp2_with fail
        go_ret
        exact ⟨by show Ending.returned (Value.bool (decide (0 < t))) = _; rw [HT.out], (by repeat (first | with_reducible exact Below.refl _ _ | with_reducible exact HBL | with_reducible refine Below.drew ?_ | with_reducible refine Bel_drewN ?_ _ | with_reducible refine Below.alloc ?_ (by first | omega | (simp; done) | (simp; omega)) _ | with_reducible refine Below.setCell ?_ (by first | omega | (simp; done) | (simp; omega)) _))⟩
      · have e3 : decide ((0 : Int) < (t : Int)) = false := decide_eq_false (by omega)
        have HT : Hid (decide (0 < t) = false) := Lib.hid (decide_eq_false h3)
        obtain rfl : v = false := by
          cases v with
          | false => rfl
          | true => rcases HV.out.1 rfl with h | h
                    · exact absurd h h1
                    · exact absurd h.2 h3
        clear h1 h2 h3
        go_enter Try.func122, Try.ntmps122
        go_wp2_with fail
        go_quiet (fail)
        go_wp2_with fail
        go_ret
        exact ⟨by show Ending.returned (Value.bool (decide (0 < t))) = _; rw [HT.out], (by repeat (first | with_reducible exact Below.refl _ _ | with_reducible exact HBL | with_reducible refine Below.drew ?_ | with_reducible refine Bel_drewN ?_ _ | with_reducible refine Below.alloc ?_ (by first | omega | (simp; done) | (simp; omega)) _ | with_reducible refine Below.setCell ?_ (by first | omega | (simp; done) | (simp; omega)) _))⟩
    · have e2 : (y == 0) = false := by simpa using h2
      obtain rfl : v = false := by
        cases v with
        | false => rfl
        | true => rcases HV.out.1 rfl with h | h
                  · exact absurd h h1
                  · exact absurd h.1 h2
      clear h1 h2
      go_enter Try.func122, Try.ntmps122
      go_wp2_with fail
      go_quiet (fail)
      go_wp2_with fail
      go_ret
      exact ⟨rfl, (by repeat (first | with_reducible exact Below.refl _ _ | with_reducible exact HBL | with_reducible refine Below.drew ?_ | with_reducible refine Bel_drewN ?_ _ | with_reducible refine Below.alloc ?_ (by first | omega | (simp; done) | (simp; omega)) _ | with_reducible refine Below.setCell ?_ (by first | omega | (simp; done) | (simp; omega)) _))⟩
set_option maxRecDepth 100000 in
set_option maxHeartbeats 4000000 in
theorem untilR_any (ss : List Nat) (xs : List Int) (lev : Int) (n gd ga cN bl o m c q gl : Nat) (k : Int) (a b : Nat) (w : World) (hs : sOk k a b) (hd : Whole w gd 99 (sdC k a b)) (hr : Whole w ga 2 (il xs).toArray) (hne : gd ≠ ga) (hN : xs.length = 1) (hgl : Whole w gl 2 #[.int .i64 lev]) (hgl1 : gl ≠ gd) (hgl2 : gl ≠ ga) (hat : atStates n xs) (hC : isChain n ss) (hm : ss.length = m) (hc : m ≤ c) (hx : Holds w (some ⟨bl, o, none⟩) (fl .f32 ss)) (h1 : bl ≠ gd) (h2 : bl ≠ ga) (hq : q ≤ 512) :
    Calls Try.prog 73 #[.pointer (some ⟨gd, 0, none⟩), .agg #[.int .i64 n, .slice (some ⟨bl, o, none⟩) m c], .slice (some ⟨ga, 0, none⟩) 1 cN, .int .i64 q, .func (.func 122) #[] #[.pointer (some ⟨gl, 0, none⟩)]] w (fun e w' => ∃ T, T ≤ q ∧ e = .returned (.agg #[.slice (some ⟨ga, 0, none⟩) 1 cN, .int .i64 (T : Nat)]) ∧ (∀ i, i < T → ¬doneR ((atL n ss k a b xs i)[0]?.getD 0) lev i) ∧ (doneR ((atL n ss k a b xs T)[0]?.getD 0) lev T ∨ T = q) ∧ Whole w' gd 99 (sdC k (sdK k a b T).1 (sdK k a b T).2) ∧ Whole w' ga 2 (il (atL n ss k a b xs T)).toArray ∧ Duo gd ga w w') := by
  have HS := Lib.hid hs
  have HX := Lib.hid (And.intro hx (And.intro hC (And.intro hm hc)))
  have HN := Lib.hid (And.intro hN (And.intro hat hne))
  have H0 := Lib.hid (And.intro hd hr)
  have HGL := Lib.hid hgl
  have hz1 := hd.lt
  have hz2 := hr.lt
  have hn1 : 1 ≤ n := by have := hC.side; omega
  have hbl := holds_lt hx (by rw [fl_len32, hC.lenN]; exact Nat.mul_pos hn1 hn1)
  have hq1 : (q : Int) ≤ 512 := by omega
  clear hs hd hr hN hat hC hm hc hx hgl
  go_enter Try.func73, Try.ntmps73
  go_wp2_with fail
  generalize hW : World.alloc (World.alloc (World.alloc w _) _) _ = w0
  have HL : Hid (Whole w0 w.heap.size 34 #[.int .i64 n, .slice (some ⟨bl, o, none⟩) m c] ∧ Whole w0 (w.heap.size + 1) 103 #[.slice none 0 0, .int .i64 0] ∧ Whole w0 (w.heap.size + 1 + 1) 103 #[.slice (some ⟨ga, 0, none⟩) 1 cN, .int .i64 (0 : Nat)] ∧ Whole w0 gd 99 (sdC k (sdK k a b 0).1 (sdK k a b 0).2) ∧ Whole w0 ga 2 (il (atL n ss k a b xs 0)).toArray ∧ Duo gd ga w w0) := Lib.hid (by
    rw [← hW]
    exact ⟨((Whole.made _ _ _).alloc _).alloc _, (Whole.made2 _ _ _ _).alloc _, by simpa using Whole.made2 (w.alloc _) _ _ _, ((H0.out.1.alloc _).alloc _).alloc _, ((H0.out.2.alloc _).alloc _).alloc _, Duo.of_below (by repeat (first | with_reducible exact Below.refl _ _ | with_reducible exact HBL | with_reducible refine Below.drew ?_ | with_reducible refine Bel_drewN ?_ _ | with_reducible refine Below.alloc ?_ (by first | omega | (simp; done) | (simp; omega)) _ | with_reducible refine Below.setCell ?_ (by first | omega | (simp; done) | (simp; omega)) _))⟩)
  clear hW H0
  go_loopw [] (fun wr => ∃ j : Nat, j ≤ q ∧ (∀ i, i < j → ¬doneR ((atL n ss k a b xs i)[0]?.getD 0) lev i) ∧ Whole wr w.heap.size 34 #[.int .i64 n, .slice (some ⟨bl, o, none⟩) m c] ∧ Whole wr (w.heap.size + 1) 103 #[.slice none 0 0, .int .i64 0] ∧ Whole wr (w.heap.size + 1 + 1) 103 #[.slice (some ⟨ga, 0, none⟩) 1 cN, .int .i64 (j : Nat)] ∧ Whole wr gd 99 (sdC k (sdK k a b j).1 (sdK k a b j).2) ∧ Whole wr ga 2 (il (atL n ss k a b xs j)).toArray ∧ Duo gd ga w wr) (fun wr => q - (cellInt wr (w.heap.size + 1 + 1) 1).toNat)
  case atStart => exact ⟨0, Nat.zero_le _, fun i hi => absurd hi (Nat.not_lt_zero _), HL.out⟩
  case round =>
    obtain ⟨j, hj, hno, q0, q1, q2, q3, q4, q5⟩ := hrel
    have H := Lib.hid (And.intro q0 (And.intro q1 (And.intro q2 (And.intro q3 (And.intro q4 (And.intro q5 hno))))))
    change Hid (_ ∧ _ ∧ _ ∧ _ ∧ _ ∧ _ ∧ _) at H
    have hzw := q2.lt
    have hjq : (j : Int) ≤ q := by omega
    obtain ⟨hcw, hfw⟩ := q2.facts
    obtain ⟨hc1, hf1⟩ := q1.facts
    have HCI : Hid (cellInt wr (w.heap.size + 1 + 1) 1 = j) := Lib.hid (cellInt_of (q2.cell 1))
    clear HL q0 q1 q2 q3 q4 q5 hno
    by_cases hlt : j < q
    · have hlt' : (j : Int) < q := by omega
      by_cases ho : doneR ((atL n ss k a b xs j)[0]?.getD 0) lev j
      · have HO := Lib.hid ho
        clear ho
        go_wp2_with (first | (go_at_call 122; fail))
        refine (rdone_any _ lev j true ⟨fun _ => HO.out, fun _ => rfl⟩ ga gl cN _ (tally_cell H.out.2.2.2.2.1 0 (by rw [atL_len, HN.out.1]; omega)) ((HGL.out.two H.out.2.2.2.2.2.1 hgl1 hgl2).cell 0)).mono ?_
        rintro e w1 ⟨rfl, hb⟩
        have HE := Lib.hid (And.intro (H.out.2.1.below hb) (And.intro (H.out.2.2.1.below hb) (And.intro (H.out.2.2.2.1.below hb) (And.intro (H.out.2.2.2.2.1.below hb) (H.out.2.2.2.2.2.1.trans (Duo.of_below hb))))))
        change Hid (_ ∧ _ ∧ _ ∧ _ ∧ _) at HE
        have HNO := Lib.hid H.out.2.2.2.2.2.2
        clear hb H hcw hfw hc1 hf1
        have hzw := HE.out.2.1.lt
        obtain ⟨hcw, hfw⟩ := HE.out.2.1.facts
        obtain ⟨hc1, hf1⟩ := HE.out.1.facts
        go_wp2_with fail
        exact bodyPost_ret (v := .agg #[.slice (some ⟨ga, 0, none⟩) 1 cN, .int .i64 (j : Nat)]) (by simp [results, Try.results73, go_sem, hc1]) rfl ⟨j, hj, rfl, HNO.out, .inl HO.out, (HE.out.2.2.1.far (by simp; omega) _).far (by simp; omega) _, (HE.out.2.2.2.1.far (by simp; omega) _).far (by simp; omega) _, (HE.out.2.2.2.2.put (by simp) _).put (by simp) _⟩
      · have HO := Lib.hid ho
        clear ho
        go_wp2_with (first | (go_at_call 122; fail))
        refine (rdone_any _ lev j false ⟨fun h => by (cases h), fun h => absurd h HO.out⟩ ga gl cN _ (tally_cell H.out.2.2.2.2.1 0 (by rw [atL_len, HN.out.1]; omega)) ((HGL.out.two H.out.2.2.2.2.2.1 hgl1 hgl2).cell 0)).mono ?_
        rintro e w1 ⟨rfl, hb⟩
        have HE := Lib.hid (And.intro (H.out.1.below hb) (And.intro (H.out.2.1.below hb) (And.intro (H.out.2.2.1.below hb) (And.intro (H.out.2.2.2.1.below hb) (And.intro (H.out.2.2.2.2.1.below hb) (H.out.2.2.2.2.2.1.trans (Duo.of_below hb)))))))
        change Hid (_ ∧ _ ∧ _ ∧ _ ∧ _ ∧ _) at HE
        have HNO := Lib.hid H.out.2.2.2.2.2.2
        clear hb H hcw hfw hc1 hf1
        have hzw := HE.out.2.2.1.lt
        obtain ⟨hcc, hfc⟩ := HE.out.1.facts
        have HJ := Lib.hid (HS.out.sdK j)
        have HG : Hid (∀ v, w1.drew.grownBy v (some gd) → Whole v (w.heap.size + 1 + 1) 103 #[.slice (some ⟨ga, 0, none⟩) 1 cN, .int .i64 (j : Nat)] ∧ Whole v ga 2 (il (atL n ss k a b xs j)).toArray ∧ Holds v (some ⟨bl, o, none⟩) (fl .f32 ss) ∧ Duo gd ga w v ∧ Whole v w.heap.size 34 #[.int .i64 n, .slice (some ⟨bl, o, none⟩) m c] ∧ Whole v (w.heap.size + 1) 103 #[.slice none 0 0, .int .i64 0]) := Lib.hid (fun v hg => by
          have hg' : w1.grownBy v (some gd) := grown_trans (grown_drew (grown_refl _ _)) hg
          exact ⟨HE.out.2.2.1.grown hg' (by simp; omega), HE.out.2.2.2.2.1.grown hg' (by simpa using fun e => hne e.symm), (HX.out.1.two HE.out.2.2.2.2.2 h1 h2).two (Duo.of_l (g := gd) (h := ga) hg') h1 h2, HE.out.2.2.2.2.2.trans (Duo.of_l hg'), HE.out.1.grown hg' (by simp; omega), HE.out.2.1.grown hg' (by simp; omega)⟩)
        go_wp2_with fail
        go_region_with (first
          | (go_at_call 72; refine (share_any _ _ _ _ _ HJ.out (by exact HE.out.2.2.2.1)).mono ?_; rintro e w5 ⟨rfl, r0, hg⟩; obtain ⟨hcc5, hfc5⟩ := (HG.out _ hg).2.2.2.2.1.facts)
          | (go_at_call 78; refine (wgoOn_any ss _ n 1 _ _ ga cN bl o m c _ _ (HG.out _ hg).1 (HG.out _ hg).2.1 (by omega) ((atL_len _ _ _ _ _ _ _).trans HN.out.1) (atL_st hn1 HN.out.2.1 j) HX.out.2.1 HX.out.2.2.1 HX.out.2.2.2 (HG.out _ hg).2.2.1 (by omega) h2 (by omega) (by omega)).mono ?_; rintro e w6 ⟨rfl, p0, p1, p2⟩))
        all_goals
          have HG5 := Lib.hid (HG.out _ hg)
          change Hid (_ ∧ _ ∧ _ ∧ _ ∧ _ ∧ _) at HG5
          have H6 := Lib.hid (And.intro (HG5.out.2.2.2.2.1.two p2 (by omega) (by omega)) (And.intro (HG5.out.2.2.2.2.2.two p2 (by omega) (by omega)) (And.intro p0 (And.intro (r0.two p2 (by omega) hne) (And.intro p1 (HG5.out.2.2.2.1.more p2 (by omega)))))))
          change Hid (_ ∧ _ ∧ _ ∧ _ ∧ _ ∧ _) at H6
          clear p0 p1 p2 r0 hg HG HG5 hcc5 hfc5 hcc hfc HE
          go_wp2_with fail
          go_roundw
          case rel =>
            refine ⟨j + 1, by omega, fun i hi => ?_, H6.out⟩
            by_cases e : i = j
            · subst e; exact HO.out
            · exact HNO.out i (by omega)
          case measure =>
            rw [HCI.out, cellInt_of (H6.out.2.2.1.cell 1)]
            omega
    · obtain rfl : j = q := by omega
      have HE := H
      clear H
      go_wp2_with (first | (go_at_call 122; fail))
      exact bodyPost_ret (v := .agg #[.slice (some ⟨ga, 0, none⟩) 1 cN, .int .i64 (j : Nat)]) (by simp [results, Try.results73, go_sem, hc1]) rfl ⟨j, hj, rfl, HE.out.2.2.2.2.2.2, .inr rfl, (HE.out.2.2.2.1.far (by simp; omega) _).far (by simp; omega) _, (HE.out.2.2.2.2.1.far (by simp; omega) _).far (by simp; omega) _, (HE.out.2.2.2.2.2.1.put (by simp) _).put (by simp) _⟩
end Go.Proofs.Ytgeomaeccalceaa
