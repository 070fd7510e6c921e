/- Orders: what the code and its model return. -/
import Derived.Test.YtnofikeeobahjabCp
namespace Go.Proofs.Ytnofikeeobahjab
open Go Go.RowKit
set_option linter.unusedVariables false

theorem isPickCount_any (n : Int) (w : World) : Calls Try.prog 54 #[.int .i64 n] w (fun e w' => e = .returned (.bool (decide (1 ≤ n ∧ n ≤ 64))) ∧ w = w') := by
  by_cases h0 : 1 ≤ n
  · have e : decide (1 ≤ n ∧ n ≤ 64) = decide (n ≤ 64) := by rw [Bool.eq_iff_iff]; simp; omega
    have E := Lib.hid e
    clear e
    go_enter Try.func54, Try.ntmps54
    go_wp2
    go_ret
    exact ⟨by first | rfl | (rw [E.out]; rfl), rfl⟩
  · have h1 : decide (1 ≤ n) = false := by simpa using h0
    have e : decide (1 ≤ n ∧ n ≤ 64) = false := by simp; omega
    have E := Lib.hid e
    clear e
    go_enter Try.func54, Try.ntmps54
    go_wp2
    go_ret
    exact ⟨by first | rfl | (rw [E.out]; rfl), rfl⟩
theorem l03Items_any (n : Int) (w : World) : Calls Try.prog 52 #[.int .i64 n] w (fun e w' => e = .returned (.bool (decide (1 ≤ n ∧ n ≤ 64))) ∧ w = w') := by
  go_enter Try.func52, Try.ntmps52
  go_wp2_with fail
  refine (l00In_any _ _ _ _).mono ?_
  rintro e w1 ⟨rfl, rfl⟩
  go_wp2_with fail
  go_ret
  exact ⟨by simp, rfl⟩
set_option maxRecDepth 100000 in
set_option maxHeartbeats 2000000 in
theorem implCards_in (k : Int) (a b n : Nat) (w : World) (ha : a < 18446744073709551616) (hb : b < 18446744073709551616) (hn : 1 ≤ n ∧ n ≤ 64) :
    Calls Try.prog 17 #[sd k a b, .int .i64 n] w (SeedL k (cardsF k a b n) w) := by
  have hd : decide ((1 : Int) ≤ n ∧ (n : Int) ≤ 64) = true := by simp; omega
  have HD := Lib.hid hd
  have hmk : ∀ w : World, (Instr.makeSlice 26 (.int .i64 (n : Int)) (.int .i64 (n : Int))).run Try.prog w = .ok (.slice (some ⟨w.heap.size, 0, none⟩) n n) (w.alloc (.cells (Array.replicate n (.int .i64 0)) 2)) := fun w => run_mk16 w 26 2 n (by omega) Try.underlying26 (by kernel_rfl)
  clear hd
  go_enter Try.func17, Try.ntmps17
  go_wp2_with fail
  refine (isPickCount_any _ _).mono ?_
  rintro e w1 ⟨rfl, rfl⟩
  rw [HD.out]
  go_wp2_with fail
  have p0 := (((Whole.made w 25 (sdC k a b)).alloc (.cells (sdC 0 0 0) 25)).alloc (.cells (Array.replicate n (.int .i64 0)) 2))
  have p1 := (Whole.made2 w (.cells (sdC k a b) 25) 25 (sdC 0 0 0)).alloc (.cells (Array.replicate n (.int .i64 0)) 2)
  have p2 := tally_new ((w.alloc (.cells (sdC k a b) 25)).alloc (.cells (sdC 0 0 0) 25)) n 2
  have HP := Lib.hid (And.intro p0 (And.intro p1 p2))
  clear p0 p1 p2 hmk HD
  go_loopw [20] (fun i wr => ∃ (j : Nat) (cs : List Int), j ≤ n ∧ i = .int .i64 j ∧ cs.length = n ∧ (∀ x : Nat, x < j → cs[x]?.getD 0 = (x : Int)) ∧ Below w.heap.size w wr ∧ Whole wr w.heap.size 25 (sdC k a b) ∧ Whole wr (w.heap.size + 1) 25 (sdC 0 0 0) ∧ Whole wr (w.heap.size + 1 + 1) 2 (il cs).toArray) (fun i _ => n - (intOf i).toNat)
  case atStart => exact ⟨0, List.replicate n 0, Nat.zero_le _, rfl, by simp, fun x hx => absurd hx (Nat.not_lt_zero _), (by repeat (first | with_reducible exact Below.refl _ _ | with_reducible exact HBL | with_reducible refine Below.drew ?_ | with_reducible refine Bel_drewN ?_ _ | with_reducible refine Below.alloc ?_ (by first | omega | (simp; done) | (simp; omega)) _ | with_reducible refine Below.setCell ?_ (by first | omega | (simp; done) | (simp; omega)) _)), HP.out.1, HP.out.2.1, by have := HP.out.2.2; rwa [show ((w.alloc (.cells (sdC k a b) 25)).alloc (.cells (sdC 0 0 0) 25)).heap.size = w.heap.size + 1 + 1 by simp] at this⟩
  case round =>
    obtain ⟨j, cs, hj, rfl, hcl, hcs, hbel, q0, q1, q2⟩ := hrel
    clear HP
    have H := Lib.hid (And.intro hcl (And.intro hcs (And.intro hbel (And.intro q0 (And.intro q1 q2)))))
    have hz2 : w.heap.size + 1 + 1 < wr.heap.size := q2.lt
    have hz1 : w.heap.size + 1 < wr.heap.size := q1.lt
    have hz0 : w.heap.size < wr.heap.size := q0.lt
    by_cases hlt : j < n
    · have hc2 := tally_cell q2 j (by omega)
      have hf2 := q2.frozen j
      generalize cs[j]?.getD 0 = v at hc2
      clear hcl hcs hbel q0 q1 q2
      go_wp2_with fail
      go_roundw
      case rel =>
        obtain ⟨hcl, hcs, HBL, q0, q1, q2⟩ := H.out
        refine ⟨j + 1, cs.set j (j : Int), by omega, by go_num, by simpa using hcl, fun x hx => ?_, (by repeat (first | with_reducible exact Below.refl _ _ | with_reducible exact HBL | with_reducible refine Below.drew ?_ | with_reducible refine Bel_drewN ?_ _ | with_reducible refine Below.alloc ?_ (by first | omega | (simp; done) | (simp; omega)) _ | with_reducible refine Below.setCell ?_ (by first | omega | (simp; done) | (simp; omega)) _)), q0.far (by first | omega | (simp; done) | (simp; omega)) _, q1.far (by first | omega | (simp; done) | (simp; omega)) _, tally_put q2 j (j : Int)⟩
        rw [List.getElem?_set]
        by_cases e : j = x
        · subst e; rw [if_pos rfl, if_pos (by omega)]; rfl
        · rw [if_neg e]; exact hcs x (by omega)
      case measure => simp [intOf]; omega
    · have E : cs = idL n := idL_of n cs hcl (fun x hx => hcs x (by omega))
      subst E
      obtain ⟨hc0, hf0⟩ := q0.facts
      clear hcl hcs hbel q0 q1 q2
      have hn1 : (1 : Int) ≤ n := by omega
      have hn2 : (n : Int) ≤ 64 := by omega
      go_wp2_with fail
      refine (ValidSeed_any _ _ _ _).mono ?_
      rintro e w2 ⟨rfl, rfl⟩
      go_wp2_with fail
      clear hc0 hf0
      go_loopw [11, 10] (fun i ok wr => ∃ j I : Nat, j + I + 1 = n ∧ i = .int .i64 (I : Int) ∧ Below w.heap.size w wr ∧ Whole wr (w.heap.size + 1) 25 (sdC 0 0 0) ∧
        ((∃ A B cs, ok = .bool true ∧ vSeed k a b = true ∧ cardsK k a b n j = some (A, B, cs) ∧ Whole wr w.heap.size 25 (sdC k A B) ∧ RowAt wr (w.heap.size + 1 + 1) 2 cs) ∨ (ok = .bool false ∧ cardsF k a b n = none))) (fun i _ _ => (intOf i).toNat)
      case atStart =>
        obtain ⟨hcl, hcs, HBL, q0, q1, q2⟩ := H.out
        refine ⟨0, n - 1, by omega, by congr 1; omega, (by repeat (first | with_reducible exact Below.refl _ _ | with_reducible exact HBL | with_reducible refine Below.drew ?_ | with_reducible refine Bel_drewN ?_ _ | with_reducible refine Below.alloc ?_ (by first | omega | (simp; done) | (simp; omega)) _ | with_reducible refine Below.setCell ?_ (by first | omega | (simp; done) | (simp; omega)) _)), q1.alloc _, ?_⟩
        cases hv : vSeed k a b with
        | true => exact .inl ⟨a, b, idL n, rfl, rfl, rfl, q0.alloc _, q2.rowAt.alloc _⟩
        | false => exact .inr ⟨rfl, cardsF_not (by rw [hv]; simp)⟩
      case round =>
        clear H hz0 hz1 hz2
        obtain ⟨j, I, hj, rfl, hbel, q1, hcase⟩ := hrel
        have hz1 : w.heap.size + 1 < wr.heap.size := q1.lt
        have hz0 : w.heap.size < wr.heap.size := by omega
        have hI64 : (I : Int) ≤ 63 := by omega
        rcases hcase with ⟨A, B, cs, rfl, hv, hK, q0, q2⟩ | ⟨rfl, hno⟩
        · have hs0 : sOk k a b := ⟨hv, ha, hb⟩
          have hinv := cardsK_inv hs0 hK
          have HI := Lib.hid hinv
          have H := Lib.hid (And.intro hbel (And.intro q0 (And.intro q1 q2)))
          have HK := Lib.hid hK
          have HV := Lib.hid hv
          have HJ := Lib.hid hj
          have hIn : (I : Int) < n := by omega
          have hz2 : w.heap.size + 1 + 1 < wr.heap.size := q2.lt
          by_cases hlt : 1 ≤ I
          · have hlt' : (1 : Int) ≤ I := by omega
            obtain ⟨hc0, hf0⟩ := q0.facts
            have hcI := q2.cell I (by omega)
            have eI : n - 1 - j + 1 = I + 1 := by omega
            have eI' : n - 1 - j = I := by omega
            have EI := Lib.hid (And.intro eI eI')
            clear hbel q0 q1 q2 hK hv hinv hj eI eI' hs0
            go_wp2_with fail
            cases hbo : belowO k A B (I + 1) with
            | some r =>
              obtain ⟨A', B', x⟩ := r
              have HB := Lib.hid hbo
              have hx := (belowO_ok hbo HI.out.1 (by omega)).2
              clear hbo hc0 hf0 hcI
              refine (implBelow_some1 k A B I A' B' x _ HI.out.1 (by omega) HB.out).mono ?_
              rintro e w3 ⟨rfl, hb3⟩
              have HB3 := Lib.hid hb3
              have r0 := H.out.2.1.below hb3
              have hz3 := hb3.size
              obtain ⟨hc0, hf0⟩ := r0.facts
              have hz30 : w.heap.size < w3.heap.size := by omega
              clear hb3 r0
              go_wp2_with fail
              clear hc0 hf0
              generalize hW : World.setCell (World.setCell (World.setCell _ _ _) _ _) _ _ = w4
              have hH : Below w.heap.size w w4 ∧ Whole w4 w.heap.size 25 (sdC k A' B') ∧ Whole w4 (w.heap.size + 1) 25 (sdC 0 0 0) ∧ RowAt w4 (w.heap.size + 1 + 1) 2 cs := by
                obtain ⟨hbel, q0, q1, q2⟩ := H.out
                have HBL := Bel_next hbel HB3.out
                rw [← hW]
                exact ⟨(by repeat (first | with_reducible exact Below.refl _ _ | with_reducible exact HBL | with_reducible refine Below.drew ?_ | with_reducible refine Bel_drewN ?_ _ | with_reducible refine Below.alloc ?_ (by first | omega | (simp; done) | (simp; omega)) _ | with_reducible refine Below.setCell ?_ (by first | omega | (simp; done) | (simp; omega)) _)), (((q0.below HB3.out).put 0 _).put 1 _).put 2 _, (((q1.below HB3.out).far (by first | omega | (simp; done) | (simp; omega)) _).far (by first | omega | (simp; done) | (simp; omega)) _).far (by first | omega | (simp; done) | (simp; omega)) _, (((q2.below HB3.out).far (by first | omega | (simp; done) | (simp; omega)) _).far (by first | omega | (simp; done) | (simp; omega)) _).far (by first | omega | (simp; done) | (simp; omega)) _⟩
              have H4 := Lib.hid hH
              clear hW H HB3
              have hlx : x < cs.length := by have := HI.out.2; omega
              have hlI : I < cs.length := by have := HI.out.2; omega
              have hcI := hH.2.2.2.cell I hlI
              have hcx := hH.2.2.2.cell x hlx
              have hf := hH.2.2.2.frozen
              have hxn : (x : Int) < n := by omega
              clear hH
              obtain ⟨vI, evI⟩ : ∃ v, v = cs[I]?.getD 0 := ⟨_, rfl⟩
              obtain ⟨vx, evx⟩ : ∃ v, v = cs[x]?.getD 0 := ⟨_, rfl⟩
              rw [← evI] at hcI
              rw [← evx] at hcx
              have EV := Lib.hid (And.intro evI evx)
              clear evI evx
              obtain ⟨vy, hvy⟩ := cell?_setCell_some (w := w4) (p := ⟨w.heap.size + 1 + 1, I, none⟩) (x := .int .i64 vx) (q := ⟨w.heap.size + 1 + 1, x, none⟩) (v := .int .i64 vx) hcx
              go_region
              go_wp2
              go_roundw
              case rel =>
                obtain ⟨HBL, q0, q1, q2⟩ := H4.out
                obtain ⟨rfl, rfl⟩ := EV.out
                have hj := HJ.out
                refine ⟨j + 1, I - 1, by omega, by congr 1; omega, (by repeat (first | with_reducible exact Below.refl _ _ | with_reducible exact HBL | with_reducible refine Below.drew ?_ | with_reducible refine Bel_drewN ?_ _ | with_reducible refine Below.alloc ?_ (by first | omega | (simp; done) | (simp; omega)) _ | with_reducible refine Below.setCell ?_ (by first | omega | (simp; done) | (simp; omega)) _)), (q1.far (by first | omega | (simp; done) | (simp; omega)) _).far (by first | omega | (simp; done) | (simp; omega)) _, .inl ⟨A', B', swapL cs I x, rfl, HV.out, ?_, (q0.far (by first | omega | (simp; done) | (simp; omega)) _).far (by first | omega | (simp; done) | (simp; omega)) _, (q2.put I _).put x _⟩⟩
                have := cardsK_step HK.out (A' := A') (B' := B') (x := x) (by rw [EI.out.1]; exact HB.out)
                rwa [EI.out.2] at this
              case measure => simp [intOf]; omega
            | none =>
              have HB := Lib.hid hbo
              clear hbo hc0 hf0 hcI
              refine (implBelow_nil1 k A B I _ HI.out.1 (by omega) HB.out).mono ?_
              rintro e w3 ⟨rfl, hb3⟩
              have HB3 := Lib.hid hb3
              have r0 := H.out.2.1.below hb3
              have hz3 := hb3.size
              obtain ⟨hc0, hf0⟩ := r0.facts
              have hz30 : w.heap.size < w3.heap.size := by omega
              clear hb3 r0
              go_wp2_with fail
              clear hc0 hf0
              generalize hW : World.setCell (World.setCell (World.setCell _ _ _) _ _) _ _ = w4
              have hH : Below w.heap.size w w4 ∧ Whole w4 (w.heap.size + 1) 25 (sdC 0 0 0) ∧ RowAt w4 (w.heap.size + 1 + 1) 2 cs := by
                obtain ⟨hbel, q0, q1, q2⟩ := H.out
                have HBL := Bel_next hbel HB3.out
                rw [← hW]
                exact ⟨(by repeat (first | with_reducible exact Below.refl _ _ | with_reducible exact HBL | with_reducible refine Below.drew ?_ | with_reducible refine Bel_drewN ?_ _ | with_reducible refine Below.alloc ?_ (by first | omega | (simp; done) | (simp; omega)) _ | with_reducible refine Below.setCell ?_ (by first | omega | (simp; done) | (simp; omega)) _)), (((q1.below HB3.out).far (by first | omega | (simp; done) | (simp; omega)) _).far (by first | omega | (simp; done) | (simp; omega)) _).far (by first | omega | (simp; done) | (simp; omega)) _, (((q2.below HB3.out).far (by first | omega | (simp; done) | (simp; omega)) _).far (by first | omega | (simp; done) | (simp; omega)) _).far (by first | omega | (simp; done) | (simp; omega)) _⟩
              have H4 := Lib.hid hH
              clear hW H HB3
              have hlI : I < cs.length := by have := HI.out.2; omega
              have hcI := hH.2.2.cell I hlI
              have hcx := hH.2.2.cell 0 (by omega)
              have hf := hH.2.2.frozen
              clear hH
              generalize cs[I]?.getD 0 = vI at hcI
              generalize cs[0]?.getD 0 = vx at hcx
              obtain ⟨vy, hvy⟩ := cell?_setCell_some (w := w4) (p := ⟨w.heap.size + 1 + 1, I, none⟩) (x := .int .i64 vx) (q := ⟨w.heap.size + 1 + 1, 0, none⟩) (v := .int .i64 vx) hcx
              have hn0 : (0 : Int) < n := by omega
              go_region
              go_wp2
              go_roundw
              case rel =>
                obtain ⟨HBL, q1, q2⟩ := H4.out
                have hj := HJ.out
                refine ⟨j + 1, I - 1, by omega, by congr 1; omega, (by repeat (first | with_reducible exact Below.refl _ _ | with_reducible exact HBL | with_reducible refine Below.drew ?_ | with_reducible refine Bel_drewN ?_ _ | with_reducible refine Below.alloc ?_ (by first | omega | (simp; done) | (simp; omega)) _ | with_reducible refine Below.setCell ?_ (by first | omega | (simp; done) | (simp; omega)) _)), (q1.far (by first | omega | (simp; done) | (simp; omega)) _).far (by first | omega | (simp; done) | (simp; omega)) _, .inr ⟨rfl, ?_⟩⟩
                rw [cardsF_yes HV.out hn.1 hn.2]
                exact cardsK_stop HK.out (by rw [EI.out.1]; exact HB.out) (by omega)
              case measure => simp [intOf]; omega
          · have hI0 : I = 0 := by omega
            subst hI0
            obtain ⟨hc0, hf0⟩ := q0.facts
            obtain ⟨hc1, hf1⟩ := q1.facts
            have hres : cardsF k a b n = some (A, B, cs) := by rw [cardsF_yes hv hn.1 hn.2, show n - 1 = j by omega]; exact hK
            have HR := Lib.hid hres
            have hcl : n = cs.length := hinv.2.symm
            have HC := Lib.hid hcl
            clear hbel q0 q1 q2 hK hv hinv hj hs0 hlt hIn hres hcl HK HV HJ hI64
            go_wp2_with fail
            obtain ⟨HBL, q0, q1, q2⟩ := H.out
            have hcl := HC.out
            subst hcl
            refine bodyPost_ret (v := .tuple #[sd k A B, .slice (some ⟨w.heap.size + 1 + 1, 0, none⟩) cs.length cs.length, .bool true]) (by simp [results, Try.results17, go_sem, hc1]) rfl (SeedL.yes HR.out ⟨_, _, rfl, ?_, (by repeat (first | with_reducible exact Below.refl _ _ | with_reducible exact HBL | with_reducible refine Below.drew ?_ | with_reducible refine Bel_drewN ?_ _ | with_reducible refine Below.alloc ?_ (by first | omega | (simp; done) | (simp; omega)) _ | with_reducible refine Below.setCell ?_ (by first | omega | (simp; done) | (simp; omega)) _))⟩)
            refine RowAt.row (g := w.heap.size + 1 + 1) (t := 2) ?_ (by omega) (by first | omega | (simp; done) | (simp; omega))
            exact ((q2.far (by first | omega | (simp; done) | (simp; omega)) _).far (by first | omega | (simp; done) | (simp; omega)) _).far (by first | omega | (simp; done) | (simp; omega)) _
        · obtain ⟨hc1, hf1⟩ := q1.facts
          have H := Lib.hid (And.intro hbel q1)
          have HN := Lib.hid hno
          clear hbel q1 hno
          by_cases hlt : 1 ≤ I
          · have hlt' : (1 : Int) ≤ I := by omega
            go_wp2_with fail
            obtain ⟨HBL, q1⟩ := H.out
            exact bodyPost_ret (v := .tuple #[sd 0 0 0, .slice none 0 0, .bool false]) (by simp [results, Try.results17, go_sem, hc1]) rfl (SeedL.no HN.out ⟨rfl, (by repeat (first | with_reducible exact Below.refl _ _ | with_reducible exact HBL | with_reducible refine Below.drew ?_ | with_reducible refine Bel_drewN ?_ _ | with_reducible refine Below.alloc ?_ (by first | omega | (simp; done) | (simp; omega)) _ | with_reducible refine Below.setCell ?_ (by first | omega | (simp; done) | (simp; omega)) _))⟩)
          · have hI0 : I = 0 := by omega
            subst hI0
            clear hlt hI64
            go_wp2_with fail
            obtain ⟨HBL, q1⟩ := H.out
            exact bodyPost_ret (v := .tuple #[sd 0 0 0, .slice none 0 0, .bool false]) (by simp [results, Try.results17, go_sem, hc1]) rfl (SeedL.no HN.out ⟨rfl, (by repeat (first | with_reducible exact Below.refl _ _ | with_reducible exact HBL | with_reducible refine Below.drew ?_ | with_reducible refine Bel_drewN ?_ _ | with_reducible refine Below.alloc ?_ (by first | omega | (simp; done) | (simp; omega)) _ | with_reducible refine Below.setCell ?_ (by first | omega | (simp; done) | (simp; omega)) _))⟩)
theorem implCards_any (k : Int) (a b : Nat) (n : Int) (w : World) (ha : a < 18446744073709551616) (hb : b < 18446744073709551616) :
    Calls Try.prog 17 #[sd k a b, .int .i64 n] w (SeedL k (cardsF k a b n) w) := by
  by_cases hn : 1 ≤ n ∧ n ≤ 64
  · obtain ⟨m, rfl⟩ : ∃ m : Nat, n = m := ⟨n.toNat, by omega⟩
    exact implCards_in k a b m w ha hb (by omega)
  · have HF : Hid (cardsF k a b n = none) := Lib.hid (cardsF_not (fun h => hn h.2))
    have HD : Hid (decide (1 ≤ n ∧ n ≤ 64) = false) := Lib.hid (by simpa using hn)
    clear hn
    go_enter Try.func17, Try.ntmps17
    go_wp2_with fail
    refine (isPickCount_any _ _).mono ?_
    rintro e w1 ⟨rfl, rfl⟩
    rw [HD.out]
    go_wp2_with fail
    exact bodyPost_ret (v := .tuple #[sd 0 0 0, .slice none 0 0, .bool false]) (by simp [results, Try.results17, go_sem]) rfl (SeedL.no HF.out ⟨rfl, (by repeat (first | with_reducible exact Below.refl _ _ | with_reducible exact HBL | with_reducible refine Below.drew ?_ | with_reducible refine Bel_drewN ?_ _ | with_reducible refine Below.alloc ?_ (by first | omega | (simp; done) | (simp; omega)) _ | with_reducible refine Below.setCell ?_ (by first | omega | (simp; done) | (simp; omega)) _))⟩)
set_option maxRecDepth 100000 in
set_option maxHeartbeats 2000000 in
theorem specCards_in (k : Int) (a b n : Nat) (w : World) (hs : sOk k a b) (hn : 1 ≤ n ∧ n ≤ 64) :
    Calls Try.prog 15 #[sd k a b, .int .i64 n] w (SeedL k (cardsF k a b n) w) := by
  have hd : decide ((1 : Int) ≤ n ∧ (n : Int) ≤ 64) = true := by simp; omega
  have HD := Lib.hid hd
  have HS := Lib.hid hs
  clear hd hs
  have p0 := Lib.hid ((Whole.made w 25 (sdC k a b)).alloc (.cells (sdC 0 0 0) 25))
  go_enter Try.func15, Try.ntmps15
  go_wp2_with fail
  refine (l02Is_any _ _ _ _ _ p0.out).mono ?_
  rintro e w1 ⟨rfl, rfl⟩
  rw [HS.out.1]
  go_wp2_with fail
  refine (l03Items_any _ _).mono ?_
  rintro e w1 ⟨rfl, rfl⟩
  rw [HD.out]
  generalize hW : World.alloc (World.alloc _ _) _ = w0
  have hH : Below w.heap.size w w0 ∧ Whole w0 w.heap.size 25 (sdC k a b) ∧ Whole w0 (w.heap.size + 1) 25 (sdC 0 0 0) := by
    rw [← hW]
    exact ⟨(by repeat (first | with_reducible exact Below.refl _ _ | with_reducible exact HBL | with_reducible refine Below.drew ?_ | with_reducible refine Bel_drewN ?_ _ | with_reducible refine Below.alloc ?_ (by first | omega | (simp; done) | (simp; omega)) _ | with_reducible refine Below.setCell ?_ (by first | omega | (simp; done) | (simp; omega)) _)), p0.out, Whole.made2 _ _ _ _⟩
  have H0 := Lib.hid hH
  have hz0 : w.heap.size + 1 < w0.heap.size := hH.2.2.lt
  clear hH hW p0 HD
  go_wp2
  go_loopw [7, 8] (fun v i wr => ∃ j : Nat, j ≤ n ∧ i = .int .i64 j ∧ wr.ownsRow w0.heap.size 2 1 v j (il (idL j)) ∧ w0.grownBy wr none) (fun _ i _ => n - (intOf i).toNat)
  case atStart => exact ⟨0, Nat.zero_le _, rfl, World.ownsRow_made _ _ _ (Nat.le_refl _) (Nat.zero_le _) rfl, World.grownBy_alloc _ _ _⟩
  case round =>
    obtain ⟨j, hj, rfl, hown, hgr⟩ := hrel
    have H := Lib.hid (And.intro hown hgr)
    have hzr : w0.heap.size ≤ wr.heap.size := hgr.size
    clear hown hgr
    by_cases hlt : j < n
    · go_wp2_with (at_builtin; refine wpList_app1 rfl _ _ 26 rfl w0.heap.size 2 (.int .i64 0) 8 Try.underlying26 (by kernel_rfl) rfl _ j _ rfl (H.out.1.alloc _) _ _ (.int .i64 (j : Int)) rfl ?_ rfl ⟨by omega, by omega⟩ ?_ ?_)
      · simp
      · simp; omega
      · intro v' w' hown' hgr'
        have hg3 := grown_more (grown_more H.out.2 (World.grownBy_alloc _ _ none) (fun i hi => by cases hi)) hgr' (own_ge H.out.1)
        have ho3 : w'.ownsRow w0.heap.size 2 1 v' (j + 1) (il (idL (j + 1))) := by rw [idL_next, il, List.map_append]; exact hown'
        have H3 := Lib.hid (And.intro ho3 hg3)
        clear hown' hgr' hg3 ho3 H
        go_wp2
        go_roundw
        case rel => exact ⟨j + 1, by omega, by go_num, H3.out⟩
        case measure => simp [intOf]; omega
    · obtain rfl : j = n := by omega
      obtain ⟨g, cap, rfl, hg, hrow⟩ := RowAt.of_own H.out.1 (by omega)
      have hbel : Below w.heap.size w wr := Below.grown H0.out.1 H.out.2 H0.out.1.size (fun k h => by cases h)
      have q0 : Whole wr w.heap.size 25 (sdC k a b) := H0.out.2.1.grown H.out.2 (by simp)
      have q1 : Whole wr (w.heap.size + 1) 25 (sdC 0 0 0) := H0.out.2.2.grown H.out.2 (by simp)
      have HR := Lib.hid (And.intro hbel (And.intro q0 (And.intro q1 hrow)))
      have hg1 : w.heap.size + 1 < g := by omega
      have hn1 : (1 : Int) ≤ j := by omega
      have hn2 : (j : Int) ≤ 64 := by omega
      clear hbel q0 q1 hrow H hlt hj hzr hg
      go_wp2
      go_loopw [9] (fun i wr => ∃ q I A B, ∃ cs : List Int, q + I + 1 = j ∧ i = .int .i64 (I : Int) ∧ cardsK k a b j q = some (A, B, cs) ∧ Below w.heap.size w wr ∧ Whole wr w.heap.size 25 (sdC k A B) ∧ Whole wr (w.heap.size + 1) 25 (sdC 0 0 0) ∧ RowAt wr g 2 cs) (fun i _ => (intOf i).toNat)
      case atStart => exact ⟨0, j - 1, a, b, idL j, by omega, by congr 1; omega, rfl, HR.out⟩
      case round =>
        obtain ⟨q, I, A, B, cs, hj, rfl, hK, hbel, q0, q1, q2⟩ := hrel
        clear HR H0
        have HI := Lib.hid (cardsK_inv HS.out hK)
        have H := Lib.hid (And.intro hbel (And.intro q0 (And.intro q1 q2)))
        have HK := Lib.hid hK
        have HJ := Lib.hid hj
        have hI64 : (I : Int) ≤ 63 := by omega
        have hIn : (I : Int) < j := by omega
        have hzg : g < wr.heap.size := q2.lt
        by_cases hlt : 1 ≤ I
        · have hlt' : (1 : Int) ≤ I := by omega
          have EI : Hid (j - 1 - q + 1 = I + 1 ∧ j - 1 - q = I) := Lib.hid (by omega)
          clear hbel q0 q1 q2 hK hj
          go_wp2_with fail
          cases hbo : belowO k A B (I + 1) with
          | some r =>
            obtain ⟨A', B', x⟩ := r
            have HB := Lib.hid hbo
            have hx := (belowO_ok hbo HI.out.1 (by omega)).2
            clear hbo
            refine (l02Tried_some1 _ k A B I A' B' x _ HI.out.1 (by omega) HB.out H.out.2.1).mono ?_
            rintro e w2 ⟨rfl, r0, hgr⟩
            have r1 := H.out.2.2.1.grown hgr (by simp)
            have r2 := H.out.2.2.2.grown hgr (by simp; omega)
            have HBL : Below w.heap.size w w2 := Below.grown H.out.1 hgr H.out.1.size (by simp)
            have H2 := Lib.hid (And.intro HBL (And.intro r0 (And.intro r1 r2)))
            have hlx : x < cs.length := by have := HI.out.2; omega
            have hlI : I < cs.length := by have := HI.out.2; omega
            have hcI := r2.cell I hlI
            have hcx := r2.cell x hlx
            have hf := r2.frozen
            have hxn : (x : Int) < j := by omega
            clear r0 r1 r2 hgr HBL H
            obtain ⟨vI, evI⟩ : ∃ v, v = cs[I]?.getD 0 := ⟨_, rfl⟩
            obtain ⟨vx, evx⟩ : ∃ v, v = cs[x]?.getD 0 := ⟨_, rfl⟩
            rw [← evI] at hcI
            rw [← evx] at hcx
            have EV := Lib.hid (And.intro evI evx)
            clear evI evx
            obtain ⟨vy, hvy⟩ := cell?_setCell_some (w := w2) (p := ⟨g, I, none⟩) (x := .int .i64 vx) (q := ⟨g, x, none⟩) (v := .int .i64 vx) hcx
            go_wp2
            go_roundw
            case rel =>
              obtain ⟨HBL, q0, q1, q2⟩ := H2.out
              obtain ⟨rfl, rfl⟩ := EV.out
              have hj := HJ.out
              refine ⟨q + 1, I - 1, A', B', swapL cs I x, by omega, by congr 1; omega, ?_, (by repeat (first | with_reducible exact Below.refl _ _ | with_reducible exact HBL | with_reducible refine Below.drew ?_ | with_reducible refine Bel_drewN ?_ _ | with_reducible refine Below.alloc ?_ (by first | omega | (simp; done) | (simp; omega)) _ | with_reducible refine Below.setCell ?_ (by first | omega | (simp; done) | (simp; omega)) _)), (q0.far (by first | omega | (simp; done) | (simp; omega)) _).far (by first | omega | (simp; done) | (simp; omega)) _, (q1.far (by first | omega | (simp; done) | (simp; omega)) _).far (by first | omega | (simp; done) | (simp; omega)) _, (q2.put I _).put x _⟩
              have := cardsK_step HK.out (A' := A') (B' := B') (x := x) (by rw [EI.out.1]; exact HB.out)
              rwa [EI.out.2] at this
            case measure => simp [intOf]; omega
          | none =>
            have HB := Lib.hid hbo
            clear hbo
            refine (l02Tried_nil1 _ k A B I _ HI.out.1 (by omega) HB.out H.out.2.1).mono ?_
            rintro e w2 ⟨rfl, hgr⟩
            have r1 := H.out.2.2.1.grown hgr (by simp)
            have HBL : Below w.heap.size w w2 := Below.grown H.out.1 hgr H.out.1.size (by simp)
            have H2 := Lib.hid HBL
            have hz1 := r1.lt
            obtain ⟨hc1, hf1⟩ := r1.facts
            have HN : Hid (cardsF k a b j = none) := Lib.hid (by
              rw [cardsF_yes HS.out.1 hn.1 hn.2]
              have hj := HJ.out
              exact cardsK_stop HK.out (by rw [EI.out.1]; exact HB.out) (by omega))
            clear r1 hgr HBL H
            go_wp2_with fail
            have HBL := H2.out
            exact bodyPost_ret (v := .tuple #[sd 0 0 0, .slice none 0 0, .bool false]) (by simp [results, Try.results15, go_sem, hc1]) rfl (SeedL.no HN.out ⟨rfl, (by repeat (first | with_reducible exact Below.refl _ _ | with_reducible exact HBL | with_reducible refine Below.drew ?_ | with_reducible refine Bel_drewN ?_ _ | with_reducible refine Below.alloc ?_ (by first | omega | (simp; done) | (simp; omega)) _ | with_reducible refine Below.setCell ?_ (by first | omega | (simp; done) | (simp; omega)) _))⟩)
        · have hI0 : I = 0 := by omega
          subst hI0
          have hz0 := q0.lt
          have hz1 := q1.lt
          obtain ⟨hc0, hf0⟩ := q0.facts
          obtain ⟨hc1, hf1⟩ := q1.facts
          have hres : cardsF k a b j = some (A, B, cs) := by rw [cardsF_yes HS.out.1 hn.1 hn.2, show j - 1 = q by omega]; exact hK
          have HR := Lib.hid hres
          have HC : Hid (j = cs.length) := Lib.hid HI.out.2.symm
          clear hbel q0 q1 q2 hK hj hlt hIn hres HK HJ hI64
          go_wp2_with fail
          obtain ⟨HBL, q0, q1, q2⟩ := H.out
          have hcl := HC.out
          subst hcl
          refine bodyPost_ret (v := .tuple #[sd k A B, .slice (some ⟨g, 0, none⟩) cs.length cap, .bool true]) (by simp [results, Try.results15, go_sem, hc1]) rfl (SeedL.yes HR.out ⟨_, _, rfl, ?_, (by repeat (first | with_reducible exact Below.refl _ _ | with_reducible exact HBL | with_reducible refine Below.drew ?_ | with_reducible refine Bel_drewN ?_ _ | with_reducible refine Below.alloc ?_ (by first | omega | (simp; done) | (simp; omega)) _ | with_reducible refine Below.setCell ?_ (by first | omega | (simp; done) | (simp; omega)) _))⟩)
          refine RowAt.row (g := g) (t := 2) ?_ (by omega) (by first | omega | (simp; done) | (simp; omega))
          exact ((q2.far (by first | omega | (simp; done) | (simp; omega)) _).far (by first | omega | (simp; done) | (simp; omega)) _).far (by first | omega | (simp; done) | (simp; omega)) _
theorem specCards_any (k : Int) (a b : Nat) (n : Int) (w : World) (ha : a < 18446744073709551616) (hb : b < 18446744073709551616) :
    Calls Try.prog 15 #[sd k a b, .int .i64 n] w (SeedL k (cardsF k a b n) w) := by
  by_cases hn : vSeed k a b = true ∧ 1 ≤ n ∧ n ≤ 64
  · obtain ⟨m, rfl⟩ : ∃ m : Nat, n = m := ⟨n.toNat, by omega⟩
    exact specCards_in k a b m w ⟨hn.1, ha, hb⟩ (by omega)
  · have HF : Hid (cardsF k a b n = none) := Lib.hid (cardsF_not hn)
    have p0 := Lib.hid ((Whole.made w 25 (sdC k a b)).alloc (.cells (sdC 0 0 0) 25))
    cases hv : vSeed k a b with
    | false =>
      clear hn
      go_enter Try.func15, Try.ntmps15
      go_wp2_with fail
      refine (l02Is_any _ _ _ _ _ p0.out).mono ?_
      rintro e w1 ⟨rfl, rfl⟩
      rw [hv]
      go_wp2_with fail
      exact bodyPost_ret (v := .tuple #[sd 0 0 0, .slice none 0 0, .bool false]) (by simp [results, Try.results15, go_sem]) rfl (SeedL.no HF.out ⟨rfl, (by repeat (first | with_reducible exact Below.refl _ _ | with_reducible exact HBL | with_reducible refine Below.drew ?_ | with_reducible refine Bel_drewN ?_ _ | with_reducible refine Below.alloc ?_ (by first | omega | (simp; done) | (simp; omega)) _ | with_reducible refine Below.setCell ?_ (by first | omega | (simp; done) | (simp; omega)) _))⟩)
    | true =>
      have HD : Hid (decide (1 ≤ n ∧ n ≤ 64) = false) := Lib.hid (by rw [hv] at hn; simpa using hn)
      clear hn
      go_enter Try.func15, Try.ntmps15
      go_wp2_with fail
      refine (l02Is_any _ _ _ _ _ p0.out).mono ?_
      rintro e w1 ⟨rfl, rfl⟩
      rw [hv]
      go_wp2_with fail
      refine (l03Items_any _ _).mono ?_
      rintro e w1 ⟨rfl, rfl⟩
      rw [HD.out]
      go_wp2_with fail
      exact bodyPost_ret (v := .tuple #[sd 0 0 0, .slice none 0 0, .bool false]) (by simp [results, Try.results15, go_sem]) rfl (SeedL.no HF.out ⟨rfl, (by repeat (first | with_reducible exact Below.refl _ _ | with_reducible exact HBL | with_reducible refine Below.drew ?_ | with_reducible refine Bel_drewN ?_ _ | with_reducible refine Below.alloc ?_ (by first | omega | (simp; done) | (simp; omega)) _ | with_reducible refine Below.setCell ?_ (by first | omega | (simp; done) | (simp; omega)) _))⟩)
end Go.Proofs.Ytnofikeeobahjab
