/- Samples: what the code and its model return. -/
import Derived.Test.YtnofikeeobahjabCd
import Derived.Test.YtnofikeeobahjabBr
namespace Go.Proofs.Ytnofikeeobahjab
open Go Go.RowKit
set_option linter.unusedVariables false

theorem idxL_yes {tk : List Bool} {i : Nat} (h : tk[i]?.getD false = true) : idxL tk (i + 1) = idxL tk i ++ [(i : Int)] := by
  show (if tk[i]?.getD false = true then idxL tk i ++ [(i : Int)] else idxL tk i) = _
  rw [if_pos h]
theorem idxL_no {tk : List Bool} {i : Nat} (h : tk[i]?.getD false = false) : idxL tk (i + 1) = idxL tk i := by
  show (if tk[i]?.getD false = true then idxL tk i ++ [(i : Int)] else idxL tk i) = _
  rw [if_neg (by rw [h]; exact Bool.false_ne_true)]
set_option maxRecDepth 100000 in
set_option maxHeartbeats 4000000 in
theorem implSample_in (k : Int) (a b n m : Nat) (w : World) (ha : a < 18446744073709551616) (hb : b < 18446744073709551616) (hn : 1 ≤ n ∧ n ≤ 64) (hm : m ≤ n) :
    Calls Try.prog 23 #[sd k a b, .int .i64 n, .int .i64 m] w (SeedL k (sampleF k a b n m) w) := by
  have HD : Hid (decide ((1 : Int) ≤ n ∧ (n : Int) ≤ 64) = true) := Lib.hid (by simp; omega)
  have hmk : ∀ w : World, (Instr.makeSlice 75 (.int .i64 (n : Int)) (.int .i64 (n : Int))).run Try.prog w = .ok (.slice (some ⟨w.heap.size, 0, none⟩) n n) (w.alloc (.cells (Array.replicate n (.bool false)) 4)) := fun w => run_mkB w 75 4 n (by omega) Try.underlying75 (by kernel_rfl)
  have hmk0 : ∀ w : World, (Instr.makeSlice 26 (.int .i64 0) (.int .i64 (m : Int))).run Try.prog w = .ok (.slice (some ⟨w.heap.size, 0, none⟩) 0 m) (w.alloc (.cells (Array.replicate m (.int .i64 0)) 2)) := fun w => run_mk0 w 26 2 m (by omega) Try.underlying26 (by kernel_rfl)
  have HM := Lib.hid hmk0
  have hm0 : (0 : Int) ≤ m := by omega
  have hm1 : (m : Int) ≤ n := by omega
  have hn1 : (1 : Int) ≤ n := by omega
  have hn2 : (n : Int) ≤ 64 := by omega
  clear hmk0
  go_enter Try.func23, Try.ntmps23
  go_wp2_with fail
  refine (isPickCount_any _ _).mono ?_
  rintro e w1 ⟨rfl, rfl⟩
  rw [HD.out]
  go_wp2_with fail
  have p0 := (((Whole.made w 25 (sdC k a b)).alloc (.cells (sdC 0 0 0) 25)).alloc (.cells (Array.replicate n (.bool false)) 4))
  have p1 := (Whole.made2 w (.cells (sdC k a b) 25) 25 (sdC 0 0 0)).alloc (.cells (Array.replicate n (.bool false)) 4)
  have p2 := brow_new ((w.alloc (.cells (sdC k a b) 25)).alloc (.cells (sdC 0 0 0) 25)) n 4
  have HP := Lib.hid (And.intro p0 (And.intro p1 p2))
  clear p0 p1 p2 hmk HD
  refine (ValidSeed_any _ _ _ _).mono ?_
  rintro e w2 ⟨rfl, rfl⟩
  go_wp2_with fail
  go_loopw [12, 11] (fun j ok wr => ∃ i J : Nat, i ≤ m ∧ J + m = n + i ∧ j = .int .i64 (J : Int) ∧ Below w.heap.size w wr ∧ Whole wr (w.heap.size + 1) 25 (sdC 0 0 0) ∧
    ((∃ A B tk, ok = .bool true ∧ vSeed k a b = true ∧ samK k a b n m i = some (A, B, tk) ∧ Whole wr w.heap.size 25 (sdC k A B) ∧ BRow wr (w.heap.size + 1 + 1) 4 tk) ∨ (ok = .bool false ∧ sampleF k a b n m = none))) (fun j _ _ => n - (intOf j).toNat)
  case atStart =>
    obtain ⟨q0, q1, q2⟩ := HP.out
    rw [show ((w.alloc (.cells (sdC k a b) 25)).alloc (.cells (sdC 0 0 0) 25)).heap.size = w.heap.size + 1 + 1 by simp] at q2
    refine ⟨0, n - m, Nat.zero_le _, by omega, by congr 1; omega, (by repeat (first | with_reducible exact Below.refl _ _ | with_reducible exact HBL | with_reducible refine Below.drew ?_ | with_reducible refine Bel_drewN ?_ _ | with_reducible refine Below.alloc ?_ (by first | omega | (simp; done) | (simp; omega)) _ | with_reducible refine Below.setCell ?_ (by first | omega | (simp; done) | (simp; omega)) _)), q1.alloc _, ?_⟩
    cases hv : vSeed k a b with
    | true => exact .inl ⟨a, b, List.replicate n false, rfl, rfl, rfl, q0.alloc _, q2.alloc _⟩
    | false => exact .inr ⟨rfl, sampleF_not (by rw [hv]; simp)⟩
  case round =>
    clear HP
    obtain ⟨i, J, hi, hJ, rfl, hbel, q1, hcase⟩ := hrel
    have hz1 : w.heap.size + 1 < wr.heap.size := q1.lt
    have hz0 : w.heap.size < wr.heap.size := by omega
    have hJ64 : (J : Int) ≤ n := by omega
    rcases hcase with ⟨A, B, tk, rfl, hv, hK, q0, q2⟩ | ⟨rfl, hno⟩
    · have hs0 : sOk k a b := ⟨hv, ha, hb⟩
      have HI := Lib.hid (samK_inv hs0 hK)
      have H := Lib.hid (And.intro hbel (And.intro q0 (And.intro q1 q2)))
      have HK := Lib.hid hK
      have HV := Lib.hid hv
      have HJ := Lib.hid (And.intro hi hJ)
      have hz2 : w.heap.size + 1 + 1 < wr.heap.size := q2.lt
      by_cases hlt : i < m
      · have hlt' : (J : Int) < n := by omega
        have EJ : Hid (n - m + i = J) := Lib.hid (by omega)
        obtain ⟨hc0, hf0⟩ := q0.facts
        have hlJ : J < tk.length := by have := HI.out.2; omega
        clear hbel q0 q1 q2 hK hv hi hJ hs0
        go_wp2_with fail
        cases hbo : belowO k A B (J + 1) with
        | some r =>
          obtain ⟨A', B', x⟩ := r
          have HB := Lib.hid hbo
          have hx := (belowO_ok hbo HI.out.1 (by omega)).2
          clear hbo hc0 hf0
          refine (implBelow_some1 k A B J A' B' x _ HI.out.1 (by omega) HB.out).mono ?_
          rintro e w3 ⟨rfl, hb3⟩
          have HB3 := Lib.hid hb3
          have r0 := H.out.2.1.below hb3
          have hz3 := hb3.size
          obtain ⟨hc0, hf0⟩ := r0.facts
          have hz30 : w.heap.size < w3.heap.size := by omega
          have r2 := H.out.2.2.2.below hb3
          have hz32 := r2.lt
          have hcx := r2.cell x (by omega)
          have hcJ := r2.cell J hlJ
          have hf2 := r2.frozen
          have hxn : (x : Int) < n := by have := HI.out.2; omega
          clear hb3 r0 r2
          cases htx : tk[x]?.getD false with
          | true =>
            rw [htx] at hcx
            generalize tk[J]?.getD false = vJ at hcJ
            go_wp2_with fail
            go_roundw
            case rel =>
              obtain ⟨hbel, q0, q1, q2⟩ := H.out
              have HBL := Bel_next hbel HB3.out
              have hj := HJ.out
              refine ⟨i + 1, J + 1, by omega, by omega, by go_num, (by repeat (first | with_reducible exact Below.refl _ _ | with_reducible exact HBL | with_reducible refine Below.drew ?_ | with_reducible refine Bel_drewN ?_ _ | with_reducible refine Below.alloc ?_ (by first | omega | (simp; done) | (simp; omega)) _ | with_reducible refine Below.setCell ?_ (by first | omega | (simp; done) | (simp; omega)) _)), ((((q1.below HB3.out).far (by first | omega | (simp; done) | (simp; omega)) _).far (by first | omega | (simp; done) | (simp; omega)) _).far (by first | omega | (simp; done) | (simp; omega)) _).far (by first | omega | (simp; done) | (simp; omega)) _, .inl ⟨A', B', tk.set J true, rfl, HV.out, ?_, ((((q0.below HB3.out).put 0 _).put 1 _).put 2 _).far (by first | omega | (simp; done) | (simp; omega)) _, ((((q2.below HB3.out).far (by first | omega | (simp; done) | (simp; omega)) _).far (by first | omega | (simp; done) | (simp; omega)) _).far (by first | omega | (simp; done) | (simp; omega)) _).put J true⟩⟩
              have := samK_step HK.out (A' := A') (B' := B') (x := x) (by rw [EJ.out]; exact HB.out)
              rw [htx, if_pos rfl, EJ.out] at this
              exact this
            case measure => simp [intOf]; omega
          | false =>
            rw [htx] at hcx
            clear hcJ
            go_wp2_with fail
            go_roundw
            case rel =>
              obtain ⟨hbel, q0, q1, q2⟩ := H.out
              have HBL := Bel_next hbel HB3.out
              have hj := HJ.out
              refine ⟨i + 1, J + 1, by omega, by omega, by go_num, (by repeat (first | with_reducible exact Below.refl _ _ | with_reducible exact HBL | with_reducible refine Below.drew ?_ | with_reducible refine Bel_drewN ?_ _ | with_reducible refine Below.alloc ?_ (by first | omega | (simp; done) | (simp; omega)) _ | with_reducible refine Below.setCell ?_ (by first | omega | (simp; done) | (simp; omega)) _)), ((((q1.below HB3.out).far (by first | omega | (simp; done) | (simp; omega)) _).far (by first | omega | (simp; done) | (simp; omega)) _).far (by first | omega | (simp; done) | (simp; omega)) _).far (by first | omega | (simp; done) | (simp; omega)) _, .inl ⟨A', B', tk.set x true, rfl, HV.out, ?_, ((((q0.below HB3.out).put 0 _).put 1 _).put 2 _).far (by first | omega | (simp; done) | (simp; omega)) _, ((((q2.below HB3.out).far (by first | omega | (simp; done) | (simp; omega)) _).far (by first | omega | (simp; done) | (simp; omega)) _).far (by first | omega | (simp; done) | (simp; omega)) _).put x true⟩⟩
              have := samK_step HK.out (A' := A') (B' := B') (x := x) (by rw [EJ.out]; exact HB.out)
              rw [htx, if_neg Bool.false_ne_true] at this
              exact this
            case measure => simp [intOf]; omega
        | none =>
          have HB := Lib.hid hbo
          clear hbo hc0 hf0
          refine (implBelow_nil1 k A B J _ HI.out.1 (by omega) HB.out).mono ?_
          rintro e w3 ⟨rfl, hb3⟩
          have HB3 := Lib.hid hb3
          have r0 := H.out.2.1.below hb3
          have hz3 := hb3.size
          obtain ⟨hc0, hf0⟩ := r0.facts
          have hz30 : w.heap.size < w3.heap.size := by omega
          have r2 := H.out.2.2.2.below hb3
          have hz32 := r2.lt
          have hcx := r2.cell 0 (by omega)
          have hcJ := r2.cell J hlJ
          have hf2 := r2.frozen
          have hn0 : (0 : Int) < n := by omega
          have HN : Hid (sampleF k a b n m = none) := Lib.hid (by
            have hj := HJ.out
            rw [sampleF_yes HV.out hn.1 hn.2 hm, samK_stop HK.out (by rw [EJ.out]; exact HB.out) hlt]; rfl)
          clear hb3 r0 r2
          generalize tk[J]?.getD false = vJ at hcJ
          cases htx : tk[0]?.getD false with
          | true =>
            rw [htx] at hcx
            go_wp2_with fail
            go_roundw
            case rel =>
              obtain ⟨hbel, q0, q1, q2⟩ := H.out
              have HBL := Bel_next hbel HB3.out
              have hj := HJ.out
              exact ⟨i + 1, J + 1, by omega, by omega, by go_num, (by repeat (first | with_reducible exact Below.refl _ _ | with_reducible exact HBL | with_reducible refine Below.drew ?_ | with_reducible refine Bel_drewN ?_ _ | with_reducible refine Below.alloc ?_ (by first | omega | (simp; done) | (simp; omega)) _ | with_reducible refine Below.setCell ?_ (by first | omega | (simp; done) | (simp; omega)) _)), ((((q1.below HB3.out).far (by first | omega | (simp; done) | (simp; omega)) _).far (by first | omega | (simp; done) | (simp; omega)) _).far (by first | omega | (simp; done) | (simp; omega)) _).far (by first | omega | (simp; done) | (simp; omega)) _, .inr ⟨rfl, HN.out⟩⟩
            case measure => simp [intOf]; omega
          | false =>
            rw [htx] at hcx
            go_wp2_with fail
            go_roundw
            case rel =>
              obtain ⟨hbel, q0, q1, q2⟩ := H.out
              have HBL := Bel_next hbel HB3.out
              have hj := HJ.out
              exact ⟨i + 1, J + 1, by omega, by omega, by go_num, (by repeat (first | with_reducible exact Below.refl _ _ | with_reducible exact HBL | with_reducible refine Below.drew ?_ | with_reducible refine Bel_drewN ?_ _ | with_reducible refine Below.alloc ?_ (by first | omega | (simp; done) | (simp; omega)) _ | with_reducible refine Below.setCell ?_ (by first | omega | (simp; done) | (simp; omega)) _)), ((((q1.below HB3.out).far (by first | omega | (simp; done) | (simp; omega)) _).far (by first | omega | (simp; done) | (simp; omega)) _).far (by first | omega | (simp; done) | (simp; omega)) _).far (by first | omega | (simp; done) | (simp; omega)) _, .inr ⟨rfl, HN.out⟩⟩
            case measure => simp [intOf]; omega
      · have hi0 : i = m := by omega
        subst hi0
        have hJn : J = n := by omega
        subst hJn
        have hmk0 := HM.out
        have HR : Hid (sampleF k a b J i = some (A, B, idxL tk J)) := Lib.hid (by rw [sampleF_yes hv hn.1 hn.2 hm, hK]; rfl)
        clear hbel q0 q1 q2 hK hv hs0 hlt hi hJ HK HV HJ
        go_wp2_with fail
        clear hmk0
        go_loopw [13, 67] (fun v c wq => ∃ q : Nat, q ≤ J ∧ c = .int .i64 (q : Int) ∧ wq.ownsRow wr.heap.size 2 1 v (idxL tk q).length (il (idxL tk q)) ∧ wr.grownBy wq none) (fun _ c _ => J - (intOf c).toNat)
        case atStart => exact ⟨0, Nat.zero_le _, rfl, World.ownsRow_made _ _ _ (Nat.le_refl _) (by unfold maxLen; omega) (by simp), World.grownBy_alloc _ _ _⟩
        case round =>
          rename World => wq
          obtain ⟨q, hq, rfl, hown, hgr⟩ := hrel
          have hzw : wr.heap.size ≤ wq.heap.size := hgr.size
          have hql : (idxL tk q).length ≤ q := idxL_le tk q
          have g2 := H.out.2.2.2.grown hgr (by simp)
          have H1 := Lib.hid (And.intro hown hgr)
          by_cases hlq : q < J
          · have hcq := g2.cell q (by have := HI.out.2; omega)
            clear hown hgr g2
            cases htq : tk[q]?.getD false with
            | true =>
              have HT := Lib.hid htq
              rw [htq] at hcq
              clear htq
              go_wp2_with (at_builtin; refine wpList_app1 rfl _ _ 26 rfl wr.heap.size 2 (.int .i64 0) 8 Try.underlying26 (by kernel_rfl) rfl _ (idxL tk q).length _ rfl (H1.out.1.alloc _) _ _ (.int .i64 (q : Int)) rfl ?_ rfl ⟨by omega, by omega⟩ ?_ ?_)
              · simp
              · simp; omega
              · intro v' w' hown' hgr'
                have hg3 := grown_more (grown_more H1.out.2 (World.grownBy_alloc _ _ none) (fun i hi => by cases hi)) hgr' (own_ge H1.out.1)
                have ho3 : w'.ownsRow wr.heap.size 2 1 v' (idxL tk (q + 1)).length (il (idxL tk (q + 1))) := by rw [idxL_yes HT.out, il, List.map_append, List.length_append]; exact hown'
                have H3 := Lib.hid (And.intro ho3 hg3)
                clear hown' hgr' hg3 ho3 H1
                go_wp2
                go_roundw
                case rel => exact ⟨q + 1, by omega, by go_num, H3.out⟩
                case measure => simp [intOf]; omega
            | false =>
              have HT := Lib.hid htq
              rw [htq] at hcq
              clear htq
              go_wp2_with fail
              go_roundw
              case rel => exact ⟨q + 1, by omega, by go_num, by rw [idxL_no HT.out]; exact H1.out⟩
              case measure => simp [intOf]; omega
          · obtain rfl : q = J := by omega
            have g0 := H.out.2.1.grown hgr (by simp)
            have g1 := H.out.2.2.1.grown hgr (by simp)
            obtain ⟨hc0, hf0⟩ := g0.facts
            obtain ⟨hc1, hf1⟩ := g1.facts
            have hw0 := g0.lt
            have hw1 := g1.lt
            obtain ⟨ao, c, rfl⟩ := own_form hown
            have hrow := Lib.hid (Row.of_own hown)
            have HBw := Lib.hid (Below.grown H.out.1 hgr H.out.1.size (fun k h => by cases h))
            have hzr := H.out.1.size
            clear hown hgr g0 g1 g2 hlq hq
            generalize idxL tk q = L at *
            go_wp2_with fail
            have HBL := HBw.out
            refine bodyPost_ret (v := .tuple #[sd k A B, .slice ao L.length c, .bool true]) (by simp [results, Try.results23, go_sem, hc1]) rfl (SeedL.yes HR.out ⟨_, _, rfl, ?_, (by repeat (first | with_reducible exact Below.refl _ _ | with_reducible exact HBL | with_reducible refine Below.drew ?_ | with_reducible refine Bel_drewN ?_ _ | with_reducible refine Below.alloc ?_ (by first | omega | (simp; done) | (simp; omega)) _ | with_reducible refine Below.setCell ?_ (by first | omega | (simp; done) | (simp; omega)) _))⟩)
            refine Row.wide (lo := wr.heap.size) (hi := wq.heap.size) ?_ (by omega) (by first | omega | (simp; done) | (simp; omega))
            exact ((hrow.out.far (by first | omega | (simp; done) | (simp; omega)) _).far (by first | omega | (simp; done) | (simp; omega)) _).far (by first | omega | (simp; done) | (simp; omega)) _
    · obtain ⟨hc1, hf1⟩ := q1.facts
      have H := Lib.hid (And.intro hbel q1)
      have HN := Lib.hid hno
      clear hbel q1 hno
      by_cases hlt : J < n
      · have hlt' : (J : Int) < n := by omega
        go_wp2_with fail
        obtain ⟨HBL, q1⟩ := H.out
        exact bodyPost_ret (v := .tuple #[sd 0 0 0, .slice none 0 0, .bool false]) (by simp [results, Try.results23, go_sem, hc1]) rfl (SeedL.no HN.out ⟨rfl, (by repeat (first | with_reducible exact Below.refl _ _ | with_reducible exact HBL | with_reducible refine Below.drew ?_ | with_reducible refine Bel_drewN ?_ _ | with_reducible refine Below.alloc ?_ (by first | omega | (simp; done) | (simp; omega)) _ | with_reducible refine Below.setCell ?_ (by first | omega | (simp; done) | (simp; omega)) _))⟩)
      · have hJn : J = n := by omega
        subst hJn
        clear hlt hJ64
        go_wp2_with fail
        obtain ⟨HBL, q1⟩ := H.out
        exact bodyPost_ret (v := .tuple #[sd 0 0 0, .slice none 0 0, .bool false]) (by simp [results, Try.results23, go_sem, hc1]) rfl (SeedL.no HN.out ⟨rfl, (by repeat (first | with_reducible exact Below.refl _ _ | with_reducible exact HBL | with_reducible refine Below.drew ?_ | with_reducible refine Bel_drewN ?_ _ | with_reducible refine Below.alloc ?_ (by first | omega | (simp; done) | (simp; omega)) _ | with_reducible refine Below.setCell ?_ (by first | omega | (simp; done) | (simp; omega)) _))⟩)
theorem implSample_any (k : Int) (a b : Nat) (n m : Int) (w : World) (ha : a < 18446744073709551616) (hb : b < 18446744073709551616) :
    Calls Try.prog 23 #[sd k a b, .int .i64 n, .int .i64 m] w (SeedL k (sampleF k a b n m) w) := by
  by_cases h : (1 ≤ n ∧ n ≤ 64) ∧ 0 ≤ m ∧ m ≤ n
  · obtain ⟨n, rfl⟩ : ∃ x : Nat, n = x := ⟨n.toNat, by omega⟩
    obtain ⟨m, rfl⟩ : ∃ x : Nat, m = x := ⟨m.toNat, by omega⟩
    exact implSample_in k a b n m w ha hb (by omega) (by omega)
  · have HF : Hid (sampleF k a b n m = none) := Lib.hid (sampleF_not (fun hh => h hh.2))
    cases hd : decide (1 ≤ n ∧ n ≤ 64) with
    | false =>
      have HD := Lib.hid hd
      clear h hd
      go_enter Try.func23, Try.ntmps23
      go_wp2_with fail
      refine (isPickCount_any _ _).mono ?_
      rintro e w1 ⟨rfl, rfl⟩
      rw [HD.out]
      go_wp2_with fail
      exact bodyPost_ret (v := .tuple #[sd 0 0 0, .slice none 0 0, .bool false]) (by simp [results, Try.results23, go_sem]) rfl (SeedL.no HF.out ⟨rfl, (by repeat (first | with_reducible exact Below.refl _ _ | with_reducible exact HBL | with_reducible refine Below.drew ?_ | with_reducible refine Bel_drewN ?_ _ | with_reducible refine Below.alloc ?_ (by first | omega | (simp; done) | (simp; omega)) _ | with_reducible refine Below.setCell ?_ (by first | omega | (simp; done) | (simp; omega)) _))⟩)
    | true =>
      have HD := Lib.hid hd
      have hm : m < 0 ∨ n < m := by have := of_decide_eq_true hd; omega
      clear h hd
      rcases Int.lt_or_le m 0 with h0 | h0
      · clear hm
        go_enter Try.func23, Try.ntmps23
        go_wp2_with fail
        refine (isPickCount_any _ _).mono ?_
        rintro e w1 ⟨rfl, rfl⟩
        rw [HD.out]
        go_wp2_with fail
        exact bodyPost_ret (v := .tuple #[sd 0 0 0, .slice none 0 0, .bool false]) (by simp [results, Try.results23, go_sem]) rfl (SeedL.no HF.out ⟨rfl, (by repeat (first | with_reducible exact Below.refl _ _ | with_reducible exact HBL | with_reducible refine Below.drew ?_ | with_reducible refine Bel_drewN ?_ _ | with_reducible refine Below.alloc ?_ (by first | omega | (simp; done) | (simp; omega)) _ | with_reducible refine Below.setCell ?_ (by first | omega | (simp; done) | (simp; omega)) _))⟩)
      · have h1 : n < m := by omega
        clear hm
        go_enter Try.func23, Try.ntmps23
        go_wp2_with fail
        refine (isPickCount_any _ _).mono ?_
        rintro e w1 ⟨rfl, rfl⟩
        rw [HD.out]
        go_wp2_with fail
        exact bodyPost_ret (v := .tuple #[sd 0 0 0, .slice none 0 0, .bool false]) (by simp [results, Try.results23, go_sem]) rfl (SeedL.no HF.out ⟨rfl, (by repeat (first | with_reducible exact Below.refl _ _ | with_reducible exact HBL | with_reducible refine Below.drew ?_ | with_reducible refine Bel_drewN ?_ _ | with_reducible refine Below.alloc ?_ (by first | omega | (simp; done) | (simp; omega)) _ | with_reducible refine Below.setCell ?_ (by first | omega | (simp; done) | (simp; omega)) _))⟩)
set_option maxRecDepth 100000 in
set_option maxHeartbeats 4000000 in
theorem specSample_in (k : Int) (a b n m : Nat) (w : World) (hs : sOk k a b) (hn : 1 ≤ n ∧ n ≤ 64) (hm : m ≤ n) :
    Calls Try.prog 22 #[sd k a b, .int .i64 n, .int .i64 m] w (SeedL k (sampleF k a b n m) w) := by
  have HD : Hid (decide ((1 : Int) ≤ n ∧ (n : Int) ≤ 64) = true) := Lib.hid (by simp; omega)
  have HS := Lib.hid hs
  have hmk : ∀ w : World, (Instr.makeSlice 75 (.int .i64 (n : Int)) (.int .i64 (n : Int))).run Try.prog w = .ok (.slice (some ⟨w.heap.size, 0, none⟩) n n) (w.alloc (.cells (Array.replicate n (.bool false)) 4)) := fun w => run_mkB w 75 4 n (by omega) Try.underlying75 (by kernel_rfl)
  have hm0 : (0 : Int) ≤ m := by omega
  have hm1 : (m : Int) ≤ n := by omega
  have hn1 : (1 : Int) ≤ n := by omega
  have hn2 : (n : Int) ≤ 64 := by omega
  clear hs
  have p0 := Lib.hid ((Whole.made w 25 (sdC k a b)).alloc (.cells (sdC 0 0 0) 25))
  go_enter Try.func22, Try.ntmps22
  go_wp2_with fail
  refine (l02Is_any _ _ _ _ _ p0.out).mono ?_
  rintro e w1 ⟨rfl, rfl⟩
  rw [HS.out.1]
  go_wp2_with fail
  refine (l03Items_any _ _).mono ?_
  rintro e w1 ⟨rfl, rfl⟩
  rw [HD.out]
  go_wp2_with fail
  refine (l00In_yes _ _ _ hm0 hm1 _).mono ?_
  rintro e w1 ⟨rfl, rfl⟩
  generalize hW : World.alloc (World.alloc _ _) _ = w0
  have hH : Below w.heap.size w w0 ∧ Whole w0 w.heap.size 25 (sdC k a b) ∧ Whole w0 (w.heap.size + 1) 25 (sdC 0 0 0) := by
    rw [← hW]
    exact ⟨(by repeat (first | with_reducible exact Below.refl _ _ | with_reducible exact HBL | with_reducible refine Below.drew ?_ | with_reducible refine Bel_drewN ?_ _ | with_reducible refine Below.alloc ?_ (by first | omega | (simp; done) | (simp; omega)) _ | with_reducible refine Below.setCell ?_ (by first | omega | (simp; done) | (simp; omega)) _)), p0.out, Whole.made2 _ _ _ _⟩
  have H0 := Lib.hid hH
  have hz0 : w.heap.size + 1 < w0.heap.size := hH.2.2.lt
  clear hH hW p0 HD
  have HP := Lib.hid (brow_new w0 n 4)
  go_wp2_with fail
  clear hmk
  go_loopw [10] (fun j wr => ∃ i J A B : Nat, ∃ tk : List Bool, i ≤ m ∧ J + m = n + i ∧ j = .int .i64 (J : Int) ∧ samK k a b n m i = some (A, B, tk) ∧ Below w.heap.size w wr ∧ Whole wr w.heap.size 25 (sdC k A B) ∧ Whole wr (w.heap.size + 1) 25 (sdC 0 0 0) ∧ BRow wr w0.heap.size 4 tk) (fun j _ => n - (intOf j).toNat)
  case atStart =>
    obtain ⟨HBL, q0, q1⟩ := H0.out
    have hzz := HBL.size
    exact ⟨0, n - m, a, b, List.replicate n false, Nat.zero_le _, by omega, by congr 1; omega, rfl, (by repeat (first | with_reducible exact Below.refl _ _ | with_reducible exact HBL | with_reducible refine Below.drew ?_ | with_reducible refine Bel_drewN ?_ _ | with_reducible refine Below.alloc ?_ (by first | omega | (simp; done) | (simp; omega)) _ | with_reducible refine Below.setCell ?_ (by first | omega | (simp; done) | (simp; omega)) _)), q0.alloc _, q1.alloc _, HP.out⟩
  case round =>
    clear HP H0
    obtain ⟨i, J, A, B, tk, hi, hJ, rfl, hK, hbel, q0, q1, q2⟩ := hrel
    have hJ64 : (J : Int) ≤ n := by omega
    have HI := Lib.hid (samK_inv HS.out hK)
    have H := Lib.hid (And.intro hbel (And.intro q0 (And.intro q1 q2)))
    have HK := Lib.hid hK
    have HJ := Lib.hid (And.intro hi hJ)
    have hz2 := q2.lt
    by_cases hlt : i < m
    · have hlt' : (J : Int) < n := by omega
      have EJ : Hid (n - m + i = J) := Lib.hid (by omega)
      have hlJ : J < tk.length := by have := HI.out.2; omega
      clear hbel q0 q1 q2 hK hi hJ
      go_wp2_with fail
      cases hbo : belowO k A B (J + 1) with
      | some r =>
        obtain ⟨A', B', x⟩ := r
        have HB := Lib.hid hbo
        have hx := (belowO_ok hbo HI.out.1 (by omega)).2
        clear hbo
        refine (l02Tried_some1 _ k A B J A' B' x _ HI.out.1 (by omega) HB.out H.out.2.1).mono ?_
        rintro e w2 ⟨rfl, r0, hgr⟩
        have r1 := H.out.2.2.1.grown hgr (by simp)
        have r2 := H.out.2.2.2.grown hgr (by simp; omega)
        have HBL : Below w.heap.size w w2 := Below.grown H.out.1 hgr H.out.1.size (by simp)
        have H2 := Lib.hid (And.intro HBL (And.intro r0 (And.intro r1 r2)))
        have hcx := r2.cell x (by omega)
        have hcJ := r2.cell J hlJ
        have hf2 := r2.frozen
        have hxn : (x : Int) < n := by have := HI.out.2; omega
        clear r0 r1 r2 hgr HBL H
        cases htx : tk[x]?.getD false with
        | true =>
          rw [htx] at hcx
          generalize tk[J]?.getD false = vJ at hcJ
          go_wp2_with fail
          go_roundw
          case rel =>
            obtain ⟨HBL, q0, q1, q2⟩ := H2.out
            have hj := HJ.out
            refine ⟨i + 1, J + 1, A', B', tk.set J true, by omega, by omega, by go_num, ?_, (by repeat (first | with_reducible exact Below.refl _ _ | with_reducible exact HBL | with_reducible refine Below.drew ?_ | with_reducible refine Bel_drewN ?_ _ | with_reducible refine Below.alloc ?_ (by first | omega | (simp; done) | (simp; omega)) _ | with_reducible refine Below.setCell ?_ (by first | omega | (simp; done) | (simp; omega)) _)), q0.far (by first | omega | (simp; done) | (simp; omega)) _, q1.far (by first | omega | (simp; done) | (simp; omega)) _, q2.put J true⟩
            have := samK_step HK.out (A' := A') (B' := B') (x := x) (by rw [EJ.out]; exact HB.out)
            rw [htx, if_pos rfl, EJ.out] at this
            exact this
          case measure => simp [intOf]; omega
        | false =>
          rw [htx] at hcx
          clear hcJ
          go_wp2_with fail
          go_roundw
          case rel =>
            obtain ⟨HBL, q0, q1, q2⟩ := H2.out
            have hj := HJ.out
            refine ⟨i + 1, J + 1, A', B', tk.set x true, by omega, by omega, by go_num, ?_, (by repeat (first | with_reducible exact Below.refl _ _ | with_reducible exact HBL | with_reducible refine Below.drew ?_ | with_reducible refine Bel_drewN ?_ _ | with_reducible refine Below.alloc ?_ (by first | omega | (simp; done) | (simp; omega)) _ | with_reducible refine Below.setCell ?_ (by first | omega | (simp; done) | (simp; omega)) _)), q0.far (by first | omega | (simp; done) | (simp; omega)) _, q1.far (by first | omega | (simp; done) | (simp; omega)) _, q2.put x true⟩
            have := samK_step HK.out (A' := A') (B' := B') (x := x) (by rw [EJ.out]; exact HB.out)
            rw [htx, if_neg Bool.false_ne_true] at this
            exact this
          case measure => simp [intOf]; omega
      | none =>
        have HB := Lib.hid hbo
        clear hbo
        refine (l02Tried_nil1 _ k A B J _ HI.out.1 (by omega) HB.out H.out.2.1).mono ?_
        rintro e w2 ⟨rfl, hgr⟩
        have r1 := H.out.2.2.1.grown hgr (by simp)
        have HBL : Below w.heap.size w w2 := Below.grown H.out.1 hgr H.out.1.size (by simp)
        have H2 := Lib.hid HBL
        have hz1 := r1.lt
        obtain ⟨hc1, hf1⟩ := r1.facts
        have HN : Hid (sampleF k a b n m = none) := Lib.hid (by
          have hj := HJ.out
          rw [sampleF_yes HS.out.1 hn.1 hn.2 hm, samK_stop HK.out (by rw [EJ.out]; exact HB.out) hlt]; rfl)
        clear r1 hgr HBL H
        go_wp2_with fail
        have HBL := H2.out
        exact bodyPost_ret (v := .tuple #[sd 0 0 0, .slice none 0 0, .bool false]) (by simp [results, Try.results22, go_sem, hc1]) rfl (SeedL.no HN.out ⟨rfl, (by repeat (first | with_reducible exact Below.refl _ _ | with_reducible exact HBL | with_reducible refine Below.drew ?_ | with_reducible refine Bel_drewN ?_ _ | with_reducible refine Below.alloc ?_ (by first | omega | (simp; done) | (simp; omega)) _ | with_reducible refine Below.setCell ?_ (by first | omega | (simp; done) | (simp; omega)) _))⟩)
    · have hi0 : i = m := by omega
      subst hi0
      have hJn : J = n := by omega
      subst hJn
      have HR : Hid (sampleF k a b J i = some (A, B, idxL tk J)) := Lib.hid (by rw [sampleF_yes HS.out.1 hn.1 hn.2 hm, hK]; rfl)
      clear hbel q0 q1 q2 hK hlt hi hJ HK HJ
      go_wp2_with fail
      go_loopw [13, 59] (fun v c wq => ∃ q : Nat, q ≤ J ∧ c = .int .i64 (q : Int) ∧ wq.ownsRow wr.heap.size 2 1 v (idxL tk q).length (il (idxL tk q)) ∧ wr.grownBy wq none) (fun _ c _ => J - (intOf c).toNat)
      case atStart => exact ⟨0, Nat.zero_le _, rfl, World.ownsRow_made _ _ _ (Nat.le_refl _) (Nat.zero_le _) rfl, World.grownBy_alloc _ _ _⟩
      case round =>
        rename World => wq
        obtain ⟨q, hq, rfl, hown, hgr⟩ := hrel
        have hzw : wr.heap.size ≤ wq.heap.size := hgr.size
        have hql : (idxL tk q).length ≤ q := idxL_le tk q
        have g2 := H.out.2.2.2.grown hgr (by simp)
        have H1 := Lib.hid (And.intro hown hgr)
        by_cases hlq : q < J
        · have hcq := g2.cell q (by have := HI.out.2; omega)
          clear hown hgr g2
          cases htq : tk[q]?.getD false with
          | true =>
            have HT := Lib.hid htq
            rw [htq] at hcq
            clear htq
            go_wp2_with (at_builtin; refine wpList_app1 rfl _ _ 26 rfl wr.heap.size 2 (.int .i64 0) 8 Try.underlying26 (by kernel_rfl) rfl _ (idxL tk q).length _ rfl (H1.out.1.alloc _) _ _ (.int .i64 (q : Int)) rfl ?_ rfl ⟨by omega, by omega⟩ ?_ ?_)
            · simp
            · simp; omega
            · intro v' w' hown' hgr'
              have hg3 := grown_more (grown_more H1.out.2 (World.grownBy_alloc _ _ none) (fun i hi => by cases hi)) hgr' (own_ge H1.out.1)
              have ho3 : w'.ownsRow wr.heap.size 2 1 v' (idxL tk (q + 1)).length (il (idxL tk (q + 1))) := by rw [idxL_yes HT.out, il, List.map_append, List.length_append]; exact hown'
              have H3 := Lib.hid (And.intro ho3 hg3)
              clear hown' hgr' hg3 ho3 H1
              go_wp2
              go_roundw
              case rel => exact ⟨q + 1, by omega, by go_num, H3.out⟩
              case measure => simp [intOf]; omega
          | false =>
            have HT := Lib.hid htq
            rw [htq] at hcq
            clear htq
            go_wp2_with fail
            go_roundw
            case rel => exact ⟨q + 1, by omega, by go_num, by rw [idxL_no HT.out]; exact H1.out⟩
            case measure => simp [intOf]; omega
        · obtain rfl : q = J := by omega
          have g0 := H.out.2.1.grown hgr (by simp)
          have g1 := H.out.2.2.1.grown hgr (by simp)
          obtain ⟨hc0, hf0⟩ := g0.facts
          obtain ⟨hc1, hf1⟩ := g1.facts
          have hw0 := g0.lt
          have hw1 := g1.lt
          obtain ⟨ao, c, rfl⟩ := own_form hown
          have hrow := Lib.hid (Row.of_own hown)
          have HBw := Lib.hid (Below.grown H.out.1 hgr H.out.1.size (fun k h => by cases h))
          have hzr := H.out.1.size
          clear hown hgr g0 g1 g2 hlq hq
          generalize idxL tk q = L at *
          go_wp2_with fail
          have HBL := HBw.out
          refine bodyPost_ret (v := .tuple #[sd k A B, .slice ao L.length c, .bool true]) (by simp [results, Try.results22, go_sem, hc1]) rfl (SeedL.yes HR.out ⟨_, _, rfl, ?_, (by repeat (first | with_reducible exact Below.refl _ _ | with_reducible exact HBL | with_reducible refine Below.drew ?_ | with_reducible refine Bel_drewN ?_ _ | with_reducible refine Below.alloc ?_ (by first | omega | (simp; done) | (simp; omega)) _ | with_reducible refine Below.setCell ?_ (by first | omega | (simp; done) | (simp; omega)) _))⟩)
          refine Row.wide (lo := wr.heap.size) (hi := wq.heap.size) ?_ (by omega) (by first | omega | (simp; done) | (simp; omega))
          exact ((hrow.out.far (by first | omega | (simp; done) | (simp; omega)) _).far (by first | omega | (simp; done) | (simp; omega)) _).far (by first | omega | (simp; done) | (simp; omega)) _
set_option maxRecDepth 100000 in
theorem specSample_any (k : Int) (a b : Nat) (n m : Int) (w : World) (ha : a < 18446744073709551616) (hb : b < 18446744073709551616) :
    Calls Try.prog 22 #[sd k a b, .int .i64 n, .int .i64 m] w (SeedL k (sampleF k a b n m) w) := by
  by_cases h : vSeed k a b = true ∧ (1 ≤ n ∧ n ≤ 64) ∧ 0 ≤ m ∧ m ≤ n
  · obtain ⟨n, rfl⟩ : ∃ x : Nat, n = x := ⟨n.toNat, by omega⟩
    obtain ⟨m, rfl⟩ : ∃ x : Nat, m = x := ⟨m.toNat, by omega⟩
    exact specSample_in k a b n m w ⟨h.1, ha, hb⟩ (by omega) (by omega)
  · have HF : Hid (sampleF k a b n m = none) := Lib.hid (sampleF_not h)
    have p0 := Lib.hid ((Whole.made w 25 (sdC k a b)).alloc (.cells (sdC 0 0 0) 25))
    cases hv : vSeed k a b with
    | false =>
      clear h
      go_enter Try.func22, Try.ntmps22
      go_wp2_with fail
      refine (l02Is_any _ _ _ _ _ p0.out).mono ?_
      rintro e w1 ⟨rfl, rfl⟩
      rw [hv]
      go_wp2_with fail
      exact bodyPost_ret (v := .tuple #[sd 0 0 0, .slice none 0 0, .bool false]) (by simp [results, Try.results22, go_sem]) rfl (SeedL.no HF.out ⟨rfl, (by repeat (first | with_reducible exact Below.refl _ _ | with_reducible exact HBL | with_reducible refine Below.drew ?_ | with_reducible refine Bel_drewN ?_ _ | with_reducible refine Below.alloc ?_ (by first | omega | (simp; done) | (simp; omega)) _ | with_reducible refine Below.setCell ?_ (by first | omega | (simp; done) | (simp; omega)) _))⟩)
    | true =>
      cases hd : decide (1 ≤ n ∧ n ≤ 64) with
      | false =>
        have HD := Lib.hid hd
        clear h hd
        go_enter Try.func22, Try.ntmps22
        go_wp2_with fail
        refine (l02Is_any _ _ _ _ _ p0.out).mono ?_
        rintro e w1 ⟨rfl, rfl⟩
        rw [hv]
        go_wp2_with fail
        refine (l03Items_any _ _).mono ?_
        rintro e w1 ⟨rfl, rfl⟩
        rw [HD.out]
        go_wp2_with fail
        exact bodyPost_ret (v := .tuple #[sd 0 0 0, .slice none 0 0, .bool false]) (by simp [results, Try.results22, go_sem]) rfl (SeedL.no HF.out ⟨rfl, (by repeat (first | with_reducible exact Below.refl _ _ | with_reducible exact HBL | with_reducible refine Below.drew ?_ | with_reducible refine Bel_drewN ?_ _ | with_reducible refine Below.alloc ?_ (by first | omega | (simp; done) | (simp; omega)) _ | with_reducible refine Below.setCell ?_ (by first | omega | (simp; done) | (simp; omega)) _))⟩)
      | true =>
        have HD := Lib.hid hd
        have hm : m < 0 ∨ n < m := by have := of_decide_eq_true hd; rw [hv] at h; simp at h; omega
        clear h hd
        go_enter Try.func22, Try.ntmps22
        go_wp2_with fail
        refine (l02Is_any _ _ _ _ _ p0.out).mono ?_
        rintro e w1 ⟨rfl, rfl⟩
        rw [hv]
        go_wp2_with fail
        refine (l03Items_any _ _).mono ?_
        rintro e w1 ⟨rfl, rfl⟩
        rw [HD.out]
        go_wp2_with fail
        refine (l00In_no _ _ _ hm _).mono ?_
        rintro e w1 ⟨rfl, rfl⟩
        go_wp2_with fail
        exact bodyPost_ret (v := .tuple #[sd 0 0 0, .slice none 0 0, .bool false]) (by simp [results, Try.results22, go_sem]) rfl (SeedL.no HF.out ⟨rfl, (by repeat (first | with_reducible exact Below.refl _ _ | with_reducible exact HBL | with_reducible refine Below.drew ?_ | with_reducible refine Bel_drewN ?_ _ | with_reducible refine Below.alloc ?_ (by first | omega | (simp; done) | (simp; omega)) _ | with_reducible refine Below.setCell ?_ (by first | omega | (simp; done) | (simp; omega)) _))⟩)
end Go.Proofs.Ytnofikeeobahjab
