/- Rare chances: the code. -/
import Derived.Test.YtgeomaeccalceaaRas
namespace Go.Proofs.Ytgeomaeccalceaa
open Go Go.RowKit Fl Vag
set_option linter.unusedVariables false

theorem own_dn {w : World} {base : Nat} {e : TypeId} {v : Value} {n : Nat} {xs : List Value} (h : w.ownsRow base e 1 v n xs) (q : Nat) : (w.drewN q).ownsRow base e 1 v n xs := h
theorem nl_snoc (xs : List Nat) (y : Nat) : il (nl (xs ++ [y])) = il (nl xs) ++ [.int .i64 (y : Int)] := by simp [nl, il]
theorem outF_nil {n : Nat} {ss : List Nat} {k : Int} {q : Nat} {lv : List Int} {j A B : Nat} {fs : List Nat} {pv : Option Nat} {lev : Int} {R : Nat × Nat × Option Nat} (hj : j < lv.length) (he : lv[j]?.getD 0 = lev) (ho : outF n ss k q (lv.drop j) A B fs pv = R) :
    ((midF n ss k lev fs A B q).2.2 = [] → R = ((midF n ss k lev fs A B q).1, (midF n ss k lev fs A B q).2.1, pNext pv 0 q)) ∧ (¬(midF n ss k lev fs A B q).2.2 = [] → outF n ss k q (lv.drop (j + 1)) (midF n ss k lev fs A B q).1 (midF n ss k lev fs A B q).2.1 (midF n ss k lev fs A B q).2.2 (pNext pv (midF n ss k lev fs A B q).2.2.length q) = R) := by
  rw [List.drop_eq_getElem_cons hj] at ho
  have e : lv[j] = lev := by rw [← he, List.getElem?_eq_getElem hj]; rfl
  rw [e] at ho
  unfold outF at ho
  refine ⟨fun h => ?_, fun h => ?_⟩
  · rw [if_pos h] at ho; exact ho.symm
  · rw [if_neg h] at ho; exact ho
set_option maxRecDepth 100000 in
set_option maxHeartbeats 16000000 in
theorem rareChance_any (k : Int) (a b n f q : Nat) (ss : List Nat) (lv : List Int) (m c bl o cl : Nat) (lo : Option Addr) (w : World) (hs : sOk k a b) (hf : f < n) (hq : 1 ≤ q ∧ q ≤ 64) (hC : isChain n ss) (hm : ss.length = m) (hc : m ≤ c) (hx : Holds w (some ⟨bl, o, none⟩) (fl .f32 ss)) (hl : Holds w lo (il lv)) (hlv : lv.length ≤ 8) :
    Calls Try.prog 82 #[sd k a b, .agg #[.int .i64 n, .slice (some ⟨bl, o, none⟩) m c], .int .i64 f, .slice lo lv.length cl, .int .i64 q] w (RetF (fun r => .tuple #[sd k (outF n ss k q lv a b [f] (some 1065353216)).1 (outF n ss k q lv a b [f] (some 1065353216)).2.1, .float .f32 r]) (outF n ss k q lv a b [f] (some 1065353216)).2.2 w) := by
  have HS := Lib.hid hs
  have HX := Lib.hid (And.intro hx (And.intro hC (And.intro hm (And.intro hc hl))))
  have hn12 : n ≤ 12 := by have := hC.side; omega
  have hn1 : 1 ≤ n := by omega
  have hbl := holds_lt hx (by rw [fl_len32, hC.lenN]; exact Nat.mul_pos hn1 hn1)
  have hqv : (q : Int) ≤ 64 := by omega
  have HF := Lib.hid hf
  have HI : Hid (outF n ss k q (lv.drop 0) a b [f] (some 1065353216) = outF n ss k q lv a b [f] (some 1065353216)) := Lib.hid rfl
  generalize outF n ss k q lv a b [f] (some 1065353216) = R at HI ⊢
  have H0 : Hid (Whole (((w.alloc (.cells (sdC k a b) 29)).alloc (.cells #[.int .i64 n, .slice (some ⟨bl, o, none⟩) m c] 34)).alloc (.cells (sdC 0 0 0) 29)) w.heap.size 29 (sdC k a b) ∧ Whole (((w.alloc (.cells (sdC k a b) 29)).alloc (.cells #[.int .i64 n, .slice (some ⟨bl, o, none⟩) m c] 34)).alloc (.cells (sdC 0 0 0) 29)) (w.heap.size + 1) 34 #[.int .i64 n, .slice (some ⟨bl, o, none⟩) m c] ∧ Whole (((w.alloc (.cells (sdC k a b) 29)).alloc (.cells #[.int .i64 n, .slice (some ⟨bl, o, none⟩) m c] 34)).alloc (.cells (sdC 0 0 0) 29)) (w.heap.size + 1 + 1) 29 (sdC 0 0 0) ∧ Below w.heap.size w (((w.alloc (.cells (sdC k a b) 29)).alloc (.cells #[.int .i64 n, .slice (some ⟨bl, o, none⟩) m c] 34)).alloc (.cells (sdC 0 0 0) 29)) ∧ (((w.alloc (.cells (sdC k a b) 29)).alloc (.cells #[.int .i64 n, .slice (some ⟨bl, o, none⟩) m c] 34)).alloc (.cells (sdC 0 0 0) 29)).heap.size = w.heap.size + 3) := Lib.hid ⟨((Whole.made _ _ _).alloc _).alloc _, (Whole.made2 _ _ _ _).alloc _, by simpa using Whole.made2 (w.alloc _) _ _ _, (by repeat (first | with_reducible exact Below.refl _ _ | with_reducible exact HBL | with_reducible refine Below.drew ?_ | with_reducible refine Bel_drewN ?_ _ | with_reducible refine Below.alloc ?_ (by first | omega | (simp; done) | (simp; omega)) _ | with_reducible refine Below.setCell ?_ (by first | omega | (simp; done) | (simp; omega)) _)), by simp⟩
  clear hs hx hC hm hc hl hf
  go_enter Try.func82, Try.ntmps82
  go_wp2_with fail
  generalize hW : World.alloc (World.alloc (World.alloc (World.alloc (World.alloc w _) _) _) _) _ = w5
  have H5 : Hid (w5.ownsRow (w.heap.size + 3) 2 1 (.slice (some ⟨w.heap.size + 1 + 1 + 1, 0, none⟩) 1 1) 1 (il (nl [f])) ∧ Whole w5 (w.heap.size + 1 + 1 + 1 + 1) 99 (sdC k a b) ∧ Whole w5 (w.heap.size + 1) 34 #[.int .i64 n, .slice (some ⟨bl, o, none⟩) m c] ∧ Whole w5 (w.heap.size + 1 + 1) 29 (sdC 0 0 0) ∧ Below w.heap.size w w5) := Lib.hid (by
    have HBL := H0.out.2.2.2.1
    have e := H0.out.2.2.2.2
    rw [← hW]
    refine ⟨?_, ?_, (H0.out.2.1.alloc _).alloc _, (H0.out.2.2.1.alloc _).alloc _, (by repeat (first | with_reducible exact Below.refl _ _ | with_reducible exact HBL | with_reducible refine Below.drew ?_ | with_reducible refine Bel_drewN ?_ _ | with_reducible refine Below.alloc ?_ (by first | omega | (simp; done) | (simp; omega)) _ | with_reducible refine Below.setCell ?_ (by first | omega | (simp; done) | (simp; omega)) _))⟩
    · have h := own_one (((w.alloc (.cells (sdC k a b) 29)).alloc (.cells #[.int .i64 n, .slice (some ⟨bl, o, none⟩) m c] 34)).alloc (.cells (sdC 0 0 0) 29)) (.int .i64 (f : Int)) (w.heap.size + 3) 2 (by rw [e]; exact Nat.le_refl _)
      rw [e] at h
      exact h.alloc _
    · have h := Whole.made2 (((w.alloc (.cells (sdC k a b) 29)).alloc (.cells #[.int .i64 n, .slice (some ⟨bl, o, none⟩) m c] 34)).alloc (.cells (sdC 0 0 0) 29)) (.cells #[.int .i64 (f : Int)] 2) 99 (sdC k a b)
      rw [e] at h
      exact h)
  clear hW H0
  obtain ⟨gd, hgd⟩ : ∃ x, x = w.heap.size + 1 + 1 + 1 + 1 := ⟨_, rfl⟩
  rw [← hgd] at H5 ⊢
  have hgd2 : w.heap.size + 3 < gd ∧ gd < w.heap.size + 5 := by omega
  clear hgd
  go_loopw [13, 14, 27] (fun v p i wr => ∃ (j A B pr : Nat) (fs : List Nat) (pv : Option Nat), j ≤ lv.length ∧ i = .int .i64 j ∧ p = .float .f32 pr ∧ Fv .f32 pv pr ∧ outF n ss k q (lv.drop j) A B fs pv = R ∧ sOk k A B ∧ allSt n fs ∧ (0 < fs.length ∧ fs.length ≤ 64) ∧ wr.ownsRow (w.heap.size + 3) 2 1 v fs.length (il (nl fs)) ∧ Whole wr gd 99 (sdC k A B) ∧ Whole wr (w.heap.size + 1) 34 #[.int .i64 n, .slice (some ⟨bl, o, none⟩) m c] ∧ Whole wr (w.heap.size + 1 + 1) 29 (sdC 0 0 0) ∧ Below w.heap.size w wr) (fun _ _ i _ => lv.length - (intOf i).toNat)
  case atStart => exact ⟨0, a, b, 1065353216, [f], some 1065353216, Nat.zero_le _, rfl, rfl, ⟨by decide, by decide +kernel⟩, HI.out, HS.out, fun x hx => by rw [List.mem_singleton.1 hx]; exact HF.out, ⟨by simp, by simp⟩, H5.out⟩
  case round =>
    obtain ⟨j, A, B, pr, fs, pv, hj, rfl, rfl, hp, ho, hsk, hst, hfl, hown, q0, q1, q2, hbel⟩ := hrel
    rename World => wo
    have HA := Lib.hid (And.intro hp (And.intro ho (And.intro hsk (And.intro hst hfl))))
    have H := Lib.hid (And.intro hown (And.intro q0 (And.intro q1 (And.intro q2 hbel))))
    change Hid (_ ∧ _ ∧ _ ∧ _ ∧ _) at H
    have hz := q0.lt
    have hjn : (j : Int) ≤ lv.length := by omega
    obtain ⟨g13, c13, rfl, hcap, hcells⟩ := own_at hown hfl.1
    have hg13 : g13 < wo.heap.size ∧ w.heap.size + 3 ≤ g13 := by have := hown.lt g13 rfl; omega
    clear hp ho hsk hst hown q0 q1 q2 hbel H5 HI
    by_cases hlt : j < lv.length
    · have hlt' : (j : Int) < lv.length := by omega
      obtain ⟨bb, oo, rfl, hcl⟩ := (HX.out.2.2.2.2.below H.out.2.2.2.2) j (by rw [il_len]; exact hlt)
      rw [il_get _ _ hlt] at hcl
      obtain ⟨lev, hlev⟩ : ∃ lev, lv[j]?.getD 0 = lev := ⟨_, rfl⟩
      rw [hlev] at hcl
      have HE := Lib.hid hlev
      clear hlev
      go_wp2_with fail
      generalize hW : World.alloc wo _ = w6
      obtain ⟨gl, hgl⟩ : ∃ x, x = wo.heap.size := ⟨_, rfl⟩
      have H6 : Hid (w6.ownsRow (gl + 1) 2 1 (.slice none 0 0) 0 (il (nl (midF n ss k lev fs A B 0).2.2)) ∧ w6.ownsRow (w.heap.size + 3) 2 1 (.slice (some ⟨g13, 0, none⟩) fs.length c13) fs.length (il (nl fs)) ∧ Whole w6 gd 99 (sdC k (midF n ss k lev fs A B 0).1 (midF n ss k lev fs A B 0).2.1) ∧ Whole w6 (w.heap.size + 1) 34 #[.int .i64 n, .slice (some ⟨bl, o, none⟩) m c] ∧ Whole w6 (w.heap.size + 1 + 1) 29 (sdC 0 0 0) ∧ Whole w6 gl 2 #[.int .i64 lev] ∧ Below w.heap.size w w6) := Lib.hid (by
        have HBL := H.out.2.2.2.2
        rw [← hW, hgl]
        exact ⟨World.ownsRow_nil _ _ _ _, H.out.1.alloc _, H.out.2.1.alloc _, H.out.2.2.1.alloc _, H.out.2.2.2.1.alloc _, Whole.made _ _ _, (by repeat (first | with_reducible exact Below.refl _ _ | with_reducible exact HBL | with_reducible refine Below.drew ?_ | with_reducible refine Bel_drewN ?_ _ | with_reducible refine Below.alloc ?_ (by first | omega | (simp; done) | (simp; omega)) _ | with_reducible refine Below.setCell ?_ (by first | omega | (simp; done) | (simp; omega)) _))⟩)
      have hgl1 : g13 < gl ∧ gd < gl ∧ w.heap.size + 3 ≤ g13 := by omega
      have HBB := Lib.hid H.out.2.2.2.2.size
      rw [← hgl]
      clear hW hgl hcl hcells H hz hg13
      go_loopw [17, 32] (fun v i wr => ∃ t : Nat, t ≤ q ∧ i = .int .i64 t ∧ wr.ownsRow (gl + 1) 2 1 v (midF n ss k lev fs A B t).2.2.length (il (nl (midF n ss k lev fs A B t).2.2)) ∧ wr.ownsRow (w.heap.size + 3) 2 1 (.slice (some ⟨g13, 0, none⟩) fs.length c13) fs.length (il (nl fs)) ∧ Whole wr gd 99 (sdC k (midF n ss k lev fs A B t).1 (midF n ss k lev fs A B t).2.1) ∧ Whole wr (w.heap.size + 1) 34 #[.int .i64 n, .slice (some ⟨bl, o, none⟩) m c] ∧ Whole wr (w.heap.size + 1 + 1) 29 (sdC 0 0 0) ∧ Whole wr gl 2 #[.int .i64 lev] ∧ Below w.heap.size w wr) (fun _ i _ => q - (intOf i).toNat)
      case atStart => exact ⟨0, Nat.zero_le _, rfl, H6.out⟩
      case round =>
        obtain ⟨t, ht, rfl, hown, hst13, q0, q1, q2, q3, hbel⟩ := hrel
        have H := Lib.hid (And.intro hown (And.intro hst13 (And.intro q0 (And.intro q1 (And.intro q2 (And.intro q3 hbel))))))
        change Hid (_ ∧ _ ∧ _ ∧ _ ∧ _ ∧ _ ∧ _) at H
        have hz := q3.lt
        have htq : (t : Int) ≤ q := by omega
        have HM := Lib.hid (midF_all (ss := ss) (lev := lev) HA.out.2.2.1 HA.out.2.2.2.1 hfl.1 t)
        obtain ⟨_, _, hv13, _, hcells⟩ := own_at hst13 hfl.1
        cases hv13
        clear hown hst13 q0 q1 q2 q3 hbel H6
        by_cases hlt2 : t < q
        · have hlt2' : (t : Int) < q := by omega
          obtain ⟨r, hr⟩ : ∃ r, t % fs.length = r := ⟨_, rfl⟩
          have hrl : r < fs.length := by rw [← hr]; exact Nat.mod_lt _ hfl.1
          have hri : (t : Int) % (fs.length : Int) = (r : Int) := by rw [← hr]; simp
          obtain ⟨x, hx⟩ : ∃ x, fs[r]?.getD 0 = x := ⟨_, rfl⟩
          have hcx := hcells r (.int .i64 (x : Int)) (by rw [← hx, ← nl_get hrl]; unfold il; rw [List.getElem?_map, List.getElem?_eq_getElem (by rw [nl_len]; exact hrl)]; rfl)
          have hxn : x < n := by rw [← hx]; exact HA.out.2.2.2.1.at hrl
          have HN : Hid (midF n ss k lev fs A B (t + 1) = midS n ss k lev x (midF n ss k lev fs A B t)) := Lib.hid (by rw [← hx, ← hr]; rfl)
          obtain ⟨hcc, hfc⟩ := H.out.2.2.2.1.facts
          have hrl' : (r : Int) < (fs.length : Int) := by omega
          clear hcells hr hx
          go_wp2_with (first | (go_at_call 73; fail))
          obtain ⟨ga, hga⟩ : ∃ x, x = wr.heap.size := ⟨_, rfl⟩
          generalize hW : World.alloc wr _ = w7
          have hne1 : some ga ≠ u17.ownBlock := fun e => by have := H.out.1.lt ga e.symm; omega
          have H7 : Hid (w7.ownsRow (gl + 1) 2 1 u17 (midF n ss k lev fs A B t).2.2.length (il (nl (midF n ss k lev fs A B t).2.2)) ∧ w7.ownsRow (w.heap.size + 3) 2 1 (.slice (some ⟨g13, 0, none⟩) fs.length c13) fs.length (il (nl fs)) ∧ Whole w7 gd 99 (sdC k (midF n ss k lev fs A B t).1 (midF n ss k lev fs A B t).2.1) ∧ Whole w7 (w.heap.size + 1) 34 #[.int .i64 n, .slice (some ⟨bl, o, none⟩) m c] ∧ Whole w7 (w.heap.size + 1 + 1) 29 (sdC 0 0 0) ∧ Whole w7 gl 2 #[.int .i64 lev] ∧ Below w.heap.size w w7 ∧ Whole w7 ga 2 (il [(x : Int)]).toArray) := Lib.hid (by
            have HBL := H.out.2.2.2.2.2.2
            rw [← hW, hga]
            exact ⟨H.out.1.alloc _, H.out.2.1.alloc _, H.out.2.2.1.alloc _, H.out.2.2.2.1.alloc _, H.out.2.2.2.2.1.alloc _, H.out.2.2.2.2.2.1.alloc _, (by repeat (first | with_reducible exact Below.refl _ _ | with_reducible exact HBL | with_reducible refine Below.drew ?_ | with_reducible refine Bel_drewN ?_ _ | with_reducible refine Below.alloc ?_ (by first | omega | (simp; done) | (simp; omega)) _ | with_reducible refine Below.setCell ?_ (by first | omega | (simp; done) | (simp; omega)) _)), Whole.made _ _ _⟩)
          rw [← hga]
          have hga1 : gl < ga ∧ wr.heap.size ≤ ga ∧ ga ≤ wr.heap.size := by omega
          clear hcx hcc hfc hW H hga
          generalize hA1 : (midF n ss k lev fs A B t).1 = A1 at *
          generalize hB1 : (midF n ss k lev fs A B t).2.1 = B1 at *
          generalize hF1 : (midF n ss k lev fs A B t).2.2 = F1 at *
          have HAB : Hid (midF n ss k lev fs A B t = (A1, B1, F1)) := Lib.hid (by rw [← hA1, ← hB1, ← hF1])
          clear hA1 hB1 hF1
          refine (untilR_any ss [(x : Int)] lev n gd ga 1 bl o m c 64 gl k A1 B1 _ HM.out.1 H7.out.2.2.1 H7.out.2.2.2.2.2.2.2 (by omega) rfl H7.out.2.2.2.2.2.1 (by omega) (by omega) (fun i hi => by
            match i, hi with
            | 0, _ => exact ⟨x, rfl, hxn⟩
            | i + 1, h => simp at h) HX.out.2.1 HX.out.2.2.1 HX.out.2.2.2.1 (HX.out.1.below H7.out.2.2.2.2.2.2.1) (by omega) (by omega) (by omega)).mono ?_
          rintro e w8 ⟨T, hT, rfl, hno, hor, r0, r1, r2⟩
          have hTr : T = rT n ss k A1 B1 x lev := rT_is hT (fun i hi => by have := hno i hi; rw [at_one] at this; exact this) (by
            rcases hor with h | h
            · rw [at_one] at h; exact .inl h
            · exact .inr h)
          rw [at_one] at r1
          have HNX : Hid (midF n ss k lev fs A B (t + 1) = ((sdK k A1 B1 T).1, (sdK k A1 B1 T).2, if lev ≤ (walkAt n ss k A1 B1 x T : Int) then F1 ++ [walkAt n ss k A1 B1 x T] else F1)) := Lib.hid (by rw [HN.out, HAB.out, hTr]; rfl)
          have hyn : walkAt n ss k A1 B1 x T < n := walkAt_lt hxn T
          have hty : some gd ≠ u17.ownBlock := own_typeX H7.out.1 H7.out.2.2.1 (by decide)
          have H8 := Lib.hid (And.intro (own_duo H7.out.1 r2 hty hne1) (And.intro (own_duo H7.out.2.1 r2 (own_typeX H7.out.2.1 H7.out.2.2.1 (by decide)) (by show some ga ≠ some g13; intro e; cases e; omega)) (And.intro r0 (And.intro (H7.out.2.2.2.1.two r2 (by omega) (by omega)) (And.intro (H7.out.2.2.2.2.1.two r2 (by omega) (by omega)) (And.intro (H7.out.2.2.2.2.2.1.two r2 (by omega) (by omega)) (And.intro (r2.bel H7.out.2.2.2.2.2.2.1 H7.out.2.2.2.2.2.2.1.size (by omega) (by omega)) r1)))))))
          change Hid (_ ∧ _ ∧ _ ∧ _ ∧ _ ∧ _ ∧ _ ∧ _) at H8
          have hz8 := r1.lt
          have hca : w8.cell? ⟨ga, 0, none⟩ = some (.int .i64 (walkAt n ss k A1 B1 x T : Int)) := tally_cell r1 0 (by simp)
          have hcl : w8.cell? ⟨gl, 0, none⟩ = some (.int .i64 lev) := H8.out.2.2.2.2.2.1.cell 0
          have hzl := H8.out.2.2.2.2.2.1.lt
          clear hno hor r0 r1 r2 hTr hty hne1 H7 HN hri
          generalize hy : walkAt n ss k A1 B1 x T = y at *
          clear hy
          go_wp2_with fail
          generalize hW : World.alloc w8 _ = w9
          obtain ⟨gb, hgb⟩ : ∃ x, x = w8.heap.size := ⟨_, rfl⟩
          have H9 : Hid (w9.ownsRow (gl + 1) 2 1 u17 F1.length (il (nl F1)) ∧ w9.ownsRow (w.heap.size + 3) 2 1 (.slice (some ⟨g13, 0, none⟩) fs.length c13) fs.length (il (nl fs)) ∧ Whole w9 gd 99 (sdC k (sdK k A1 B1 T).1 (sdK k A1 B1 T).2) ∧ Whole w9 (w.heap.size + 1) 34 #[.int .i64 n, .slice (some ⟨bl, o, none⟩) m c] ∧ Whole w9 (w.heap.size + 1 + 1) 29 (sdC 0 0 0) ∧ Whole w9 gl 2 #[.int .i64 lev] ∧ Below w.heap.size w w9 ∧ Whole w9 gb 103 #[.slice (some ⟨ga, 0, none⟩) 1 1, .int .i64 (T : Nat)]) := Lib.hid (by
            have HBL := H8.out.2.2.2.2.2.2.1
            rw [← hW, hgb]
            exact ⟨H8.out.1.alloc _, H8.out.2.1.alloc _, H8.out.2.2.1.alloc _, H8.out.2.2.2.1.alloc _, H8.out.2.2.2.2.1.alloc _, H8.out.2.2.2.2.2.1.alloc _, (by repeat (first | with_reducible exact Below.refl _ _ | with_reducible exact HBL | with_reducible refine Below.drew ?_ | with_reducible refine Bel_drewN ?_ _ | with_reducible refine Below.alloc ?_ (by first | omega | (simp; done) | (simp; omega)) _ | with_reducible refine Below.setCell ?_ (by first | omega | (simp; done) | (simp; omega)) _)), Whole.made _ _ _⟩)
          have hca9 : w9.cell? ⟨ga, 0, none⟩ = some (.int .i64 (y : Int)) := by rw [← hW]; exact cell_old _ _ hca
          have hcl9 : w9.cell? ⟨gl, 0, none⟩ = some (.int .i64 lev) := by rw [← hW]; exact cell_old _ _ hcl
          rw [← hgb]
          clear hW hca hcl hgb H8
          obtain ⟨hcb, hfb⟩ := H9.out.2.2.2.2.2.2.2.facts
          have hz9 := H9.out.2.2.2.2.2.2.2.lt
          by_cases hge : lev ≤ (y : Int)
          · have HG := Lib.hid hge
            have HNZ : Hid (midF n ss k lev fs A B (t + 1) = ((sdK k A1 B1 T).1, (sdK k A1 B1 T).2, F1 ++ [y])) := Lib.hid (by rw [HNX.out, if_pos HG.out])
            have e1 : decide (lev ≤ (y : Int)) = true := decide_eq_true hge
            clear hge
            have HF1 := HM.out.2.2
            go_quiet (fail)
            generalize hWq : World.drewN w9 _ = wq
            have H10 : Hid (wq.ownsRow (gl + 1) 2 1 u17 F1.length (il (nl F1)) ∧ wq.ownsRow (w.heap.size + 3) 2 1 (.slice (some ⟨g13, 0, none⟩) fs.length c13) fs.length (il (nl fs)) ∧ Whole wq gd 99 (sdC k (sdK k A1 B1 T).1 (sdK k A1 B1 T).2) ∧ Whole wq (w.heap.size + 1) 34 #[.int .i64 n, .slice (some ⟨bl, o, none⟩) m c] ∧ Whole wq (w.heap.size + 1 + 1) 29 (sdC 0 0 0) ∧ Whole wq gl 2 #[.int .i64 lev] ∧ Below w.heap.size w wq) := Lib.hid (by
              rw [← hWq]
              exact ⟨own_dn H9.out.1 _, own_dn H9.out.2.1 _, H9.out.2.2.1.drewN _, H9.out.2.2.2.1.drewN _, H9.out.2.2.2.2.1.drewN _, H9.out.2.2.2.2.2.1.drewN _, Bel_drewN H9.out.2.2.2.2.2.2.1 _⟩)
            have hcaq : wq.cell? ⟨ga, 0, none⟩ = some (.int .i64 (y : Int)) := by rw [← hWq]; exact hca9
            have hcbq : ∀ i, wq.cell? ⟨gb, i, none⟩ = (#[.slice (some ⟨ga, 0, none⟩) 1 1, .int .i64 (T : Nat)] : Array Value)[i]? := by rw [← hWq]; exact hcb
            have hzq : gl < wq.heap.size := H10.out.2.2.2.2.2.1.lt
            clear hWq H9 hca9 hcl9 hcb hfb
            go_wp2_with (at_builtin; refine wpList_app1 rfl _ _ 30 rfl (gl + 1) 2 (.int .i64 0) 8 Try.underlying30 (by kernel_rfl) rfl _ F1.length _ rfl (H10.out.1.alloc _) _ _ (.int .i64 (y : Int)) rfl ?_ rfl ⟨by omega, by omega⟩ ?_ ?_)
            · simp
            · simp; omega
            · intro v' w' hown' hgr'
              have HBL := H10.out.2.2.2.2.2.2
              have hbel : Below w.heap.size w w' := Below.grown (w' := w') (show Below w.heap.size w (wq.alloc _) from (by repeat (first | with_reducible exact Below.refl _ _ | with_reducible exact HBL | with_reducible refine Below.drew ?_ | with_reducible refine Bel_drewN ?_ _ | with_reducible refine Below.alloc ?_ (by first | omega | (simp; done) | (simp; omega)) _ | with_reducible refine Below.setCell ?_ (by first | omega | (simp; done) | (simp; omega)) _))) hgr' (by simp; omega) (fun i hi => by have := own_ge H10.out.1 i hi; omega)
              have ho : w'.ownsRow (gl + 1) 2 1 v' (F1 ++ [y]).length (il (nl (F1 ++ [y]))) := by rw [nl_snoc, List.length_append]; exact hown'
              have H11 := Lib.hid (And.intro ho (And.intro ((H10.out.2.1.alloc _).kept hgr' (.inr fun e => by have := H10.out.1.lt g13 e.symm; omega)) (And.intro ((H10.out.2.2.1.alloc _).grown hgr' (own_ne' H10.out.1 (by omega))) (And.intro ((H10.out.2.2.2.1.alloc _).grown hgr' (own_ne' H10.out.1 (by omega))) (And.intro ((H10.out.2.2.2.2.1.alloc _).grown hgr' (own_ne' H10.out.1 (by omega))) (And.intro ((H10.out.2.2.2.2.2.1.alloc _).grown hgr' (own_ne' H10.out.1 (by omega))) hbel))))))
              change Hid (_ ∧ _ ∧ _ ∧ _ ∧ _ ∧ _ ∧ _) at H11
              clear hown' hgr' ho hbel HBL H10 hcaq hcbq
              go_wp2_with fail
              go_roundw
              case rel => exact ⟨t + 1, by omega, by go_num, by rw [HNZ.out]; exact H11.out⟩
              case measure => simp [intOf]; omega
          · have HG := Lib.hid hge
            have HNZ : Hid (midF n ss k lev fs A B (t + 1) = ((sdK k A1 B1 T).1, (sdK k A1 B1 T).2, F1)) := Lib.hid (by rw [HNX.out, if_neg HG.out])
            have e1 : decide (lev ≤ (y : Int)) = false := decide_eq_false hge
            clear hge
            go_quiet (fail)
            generalize hWq : World.drewN w9 _ = wq
            have H10 : Hid (wq.ownsRow (gl + 1) 2 1 u17 F1.length (il (nl F1)) ∧ wq.ownsRow (w.heap.size + 3) 2 1 (.slice (some ⟨g13, 0, none⟩) fs.length c13) fs.length (il (nl fs)) ∧ Whole wq gd 99 (sdC k (sdK k A1 B1 T).1 (sdK k A1 B1 T).2) ∧ Whole wq (w.heap.size + 1) 34 #[.int .i64 n, .slice (some ⟨bl, o, none⟩) m c] ∧ Whole wq (w.heap.size + 1 + 1) 29 (sdC 0 0 0) ∧ Whole wq gl 2 #[.int .i64 lev] ∧ Below w.heap.size w wq) := Lib.hid (by
              rw [← hWq]
              exact ⟨own_dn H9.out.1 _, own_dn H9.out.2.1 _, H9.out.2.2.1.drewN _, H9.out.2.2.2.1.drewN _, H9.out.2.2.2.2.1.drewN _, H9.out.2.2.2.2.2.1.drewN _, Bel_drewN H9.out.2.2.2.2.2.2.1 _⟩)
            clear hWq H9 hca9 hcl9 hcb hfb
            go_wp2_with fail
            go_roundw
            case rel => exact ⟨t + 1, by omega, by go_num, by rw [HNZ.out]; exact H10.out⟩
            case measure => simp [intOf]; omega
        · obtain rfl : t = q := by omega
          have HOUT := Lib.hid (outF_nil (lev := lev) hlt HE.out HA.out.2.1)
          generalize hM : midF n ss k lev fs A B t = M at *
          obtain ⟨A1, B1, F1⟩ := M
          have hF1l : F1.length ≤ t := HM.out.2.2
          obtain ⟨ao17, c17, rfl⟩ := own_form H.out.1
          by_cases hF : F1 = []
          · have e0 : ((F1.length : Int) == 0) = true := by rw [hF]; rfl
            have HFN := Lib.hid hF
            obtain ⟨hcd, hfd⟩ := H.out.2.2.1.facts
            obtain ⟨hc2, hf2⟩ := H.out.2.2.2.2.1.facts
            have hz2 := H.out.2.2.2.2.1.lt
            clear hF hcells
            go_wp2_with (first | (refine wpList_farith (dst := some 65) _ _ _ _ _ .f32 pr (floatOfInt .f32 (F1.length : Int)) rfl rfl rfl ?_; intro r1 n1 hr1) | (refine wpList_farith (dst := some 68) _ _ _ _ _ .f32 r1 (floatOfInt .f32 (t : Int)) rfl rfl rfl ?_; intro r2 n2 hr2))
            have HP : Hid (Fv .f32 (pNext pv F1.length t) r2) := Lib.hid (by
              have h1 : aop .mul .f32 pv (av .f32 (floatOfInt .f32 (F1.length : Int))) = av .f32 r1 := by rw [← HA.out.1.2]; exact hr1.2.symm
              unfold pNext
              rw [h1]
              exact hr2)
            have e := HOUT.out.1 HFN.out
            have HBL := H.out.2.2.2.2.2.2
            have hfin : Fv .f32 R.2.2 r2 := by rw [e]; have := HP.out; rw [HFN.out] at this; exact this
            exact bodyPost_ret (v := .tuple #[sd k R.1 R.2.1, .float .f32 r2]) (by rw [e]; simp [results, Try.results82, go_sem, hc2]) rfl ⟨r2, rfl, hfin, (by repeat (first | with_reducible exact Below.refl _ _ | with_reducible exact HBL | with_reducible refine Below.drew ?_ | with_reducible refine Bel_drewN ?_ _ | with_reducible refine Below.alloc ?_ (by first | omega | (simp; done) | (simp; omega)) _ | with_reducible refine Below.setCell ?_ (by first | omega | (simp; done) | (simp; omega)) _))⟩
          · have e0 : ((F1.length : Int) == 0) = false := by
              have : F1.length ≠ 0 := fun h => hF (List.length_eq_zero_iff.1 h)
              simp; exact hF
            have HFN := Lib.hid hF
            clear hF hcells
            go_wp2_with (first | (refine wpList_farith (dst := some 65) _ _ _ _ _ .f32 pr (floatOfInt .f32 (F1.length : Int)) rfl rfl rfl ?_; intro r1 n1 hr1) | (refine wpList_farith (dst := some 68) _ _ _ _ _ .f32 r1 (floatOfInt .f32 (t : Int)) rfl rfl rfl ?_; intro r2 n2 hr2))
            have HP : Hid (Fv .f32 (pNext pv F1.length t) r2) := Lib.hid (by
              have h1 : aop .mul .f32 pv (av .f32 (floatOfInt .f32 (F1.length : Int))) = av .f32 r1 := by rw [← HA.out.1.2]; exact hr1.2.symm
              unfold pNext
              rw [h1]
              exact hr2)
            generalize hWq : World.drewN wr _ = wq
            have H12 : Hid (wq.ownsRow (w.heap.size + 3) 2 1 (.slice ao17 F1.length c17) F1.length (il (nl F1)) ∧ Whole wq gd 99 (sdC k A1 B1) ∧ Whole wq (w.heap.size + 1) 34 #[.int .i64 n, .slice (some ⟨bl, o, none⟩) m c] ∧ Whole wq (w.heap.size + 1 + 1) 29 (sdC 0 0 0) ∧ Below w.heap.size w wq) := Lib.hid (by
              rw [← hWq]
              exact ⟨own_dn (own_low H.out.1 (by omega)) _, H.out.2.2.1.drewN _, H.out.2.2.2.1.drewN _, H.out.2.2.2.2.1.drewN _, Bel_drewN H.out.2.2.2.2.2.2 _⟩)
            clear hWq hr1 hr2
            go_roundw
            case rel => exact ⟨j + 1, A1, B1, r2, F1, pNext pv F1.length t, by omega, by go_num, rfl, HP.out, HOUT.out.2 HFN.out, HM.out.1, HM.out.2.1, ⟨List.length_pos_iff.2 HFN.out, by omega⟩, H12.out⟩
            case measure => simp [intOf]; omega
    · obtain rfl : j = lv.length := by omega
      obtain ⟨hcd, hfd⟩ := H.out.2.1.facts
      obtain ⟨hc2, hf2⟩ := H.out.2.2.2.1.facts
      have hz2 := H.out.2.2.2.1.lt
      have HR : Hid (R = (A, B, pv)) := Lib.hid (by have h := HA.out.2.1; rw [List.drop_length] at h; exact h.symm)
      clear hcells
      go_wp2_with fail
      have e := HR.out
      have HBL := H.out.2.2.2.2
      have hfin : Fv .f32 R.2.2 pr := by rw [e]; exact HA.out.1
      exact bodyPost_ret (v := .tuple #[sd k R.1 R.2.1, .float .f32 pr]) (by rw [e]; simp [results, Try.results82, go_sem, hc2]) rfl ⟨pr, rfl, hfin, (by repeat (first | with_reducible exact Below.refl _ _ | with_reducible exact HBL | with_reducible refine Below.drew ?_ | with_reducible refine Bel_drewN ?_ _ | with_reducible refine Below.alloc ?_ (by first | omega | (simp; done) | (simp; omega)) _ | with_reducible refine Below.setCell ?_ (by first | omega | (simp; done) | (simp; omega)) _))⟩
end Go.Proofs.Ytgeomaeccalceaa
