/- Rare chances: the model. -/
import Derived.Test.YtgeomaeccalceaaRai
namespace Go.Proofs.Ytgeomaeccalceaa
open Go Go.RowKit Fl Vag
set_option linter.unusedVariables false

theorem own_grown {w w' : World} {base g : Nat} {e : TypeId} {v : Value} {n : Nat} {xs : List Value} (h : w.ownsRow base e 1 v n xs) (hg : w.grownBy w' (some g)) (hb : g < base) : w'.ownsRow base e 1 v n xs := h.kept hg (own_ne h hb)
theorem own_below {w w' : World} {base : Nat} {e : TypeId} {v : Value} {n : Nat} {xs : List Value} (h : w.ownsRow base e 1 v n xs) (hb : Below w.heap.size w w') : w'.ownsRow base e 1 v n xs := h.kept (grown_below (row := none) hb) (by cases v.ownBlock <;> simp)
set_option maxRecDepth 100000 in
set_option maxHeartbeats 16000000 in
theorem l07Rare_any (k : Int) (a b n f q : Nat) (ss : List Nat) (lv : List Int) (m c bl o cl gs gc : Nat) (lo : Option Addr) (w : World) (hs : sOk k a b) (hgs : Whole w gs 29 (sdC k a b)) (hgc : Whole w gc 34 #[.int .i64 n, .slice (some ⟨bl, o, none⟩) m c]) (hne : gc ≠ gs) (hf : f < n) (hq : 1 ≤ q ∧ q ≤ 64) (hC : isChain n ss) (hm : ss.length = m) (hx : Holds w (some ⟨bl, o, none⟩) (fl .f32 ss)) (hbs : bl ≠ gs) (hl : Holds w lo (il lv)) (hls : ∀ q, lo = some q → q.block ≠ gs) (hlv : lv.length ≤ 8) :
    Calls Try.prog 80 #[.pointer (some ⟨gs, 0, none⟩), .pointer (some ⟨gc, 0, none⟩), .int .i64 f, .slice lo lv.length cl, .int .i64 q] w (fun e w' => ∃ r, e = .returned (.float .f32 r) ∧ Fv .f32 (outF n ss k q lv a b [f] (some 1065353216)).2.2 r ∧ Whole w' gs 29 (sdC k (outF n ss k q lv a b [f] (some 1065353216)).1 (outF n ss k q lv a b [f] (some 1065353216)).2.1) ∧ w.grownBy w' (some gs)) := by
  have HS := Lib.hid hs
  have HX := Lib.hid (And.intro hx (And.intro hC (And.intro hm (And.intro hgc hl))))
  have hn12 : n ≤ 12 := by have := hC.side; omega
  have hqv : (q : Int) ≤ 64 := by omega
  have HMM : Hid (m = n * n) := Lib.hid (by rw [← hm]; exact hC.lenN)
  have HF := Lib.hid hf
  have hzs := hgs.lt
  have HGS := Lib.hid hgs
  have HI : Hid (outF n ss k q (lv.drop 0) a b [f] (some 1065353216) = outF n ss k q lv a b [f] (some 1065353216)) := Lib.hid rfl
  generalize outF n ss k q lv a b [f] (some 1065353216) = R at HI ⊢
  have HLV : Hid (∀ (v : World) (j : Nat), w.grownBy v (some gs) → j < lv.length → ∃ bb oo, lo = some ⟨bb, oo, none⟩ ∧ v.cell? ⟨bb, oo + j, none⟩ = some (.int .i64 (lv[j]?.getD 0))) := Lib.hid (fun v j hg hj => by
    obtain ⟨bb, oo, e, hc⟩ := hl j (by rw [il_len]; exact hj)
    rw [il_get _ _ hj] at hc
    exact ⟨bb, oo, e, hg.cell hc (by simpa using hls _ e)⟩)
  have HCH : Hid (∀ v : World, w.grownBy v (some gs) → Whole v gc 34 #[.int .i64 n, .slice (some ⟨bl, o, none⟩) m c] ∧ Holds v (some ⟨bl, o, none⟩) (fl .f32 ss)) := Lib.hid (fun v hg => ⟨HX.out.2.2.2.1.grown hg (by simpa using hne), HX.out.1.two (Duo.of_l (h := gs) hg) hbs hbs⟩)
  clear hs hx hC hm hl hf hgs hgc hls
  go_enter Try.func80, Try.ntmps80
  go_wp2_with fail
  generalize hW : World.alloc w _ = w5
  have H5 : Hid (w5.ownsRow w.heap.size 2 1 (.slice (some ⟨w.heap.size, 0, none⟩) 1 1) 1 (il (nl [f])) ∧ Whole w5 gs 29 (sdC k a b) ∧ w.grownBy w5 (some gs)) := Lib.hid (by
    rw [← hW]
    exact ⟨own_one _ _ _ _ (Nat.le_refl _), HGS.out.alloc _, World.grownBy_alloc _ _ _⟩)
  clear hW
  go_loopw [11, 12, 23] (fun v p i wr => ∃ (j A B pr : Nat) (fs : List Nat) (pv : Option Nat), j ≤ lv.length ∧ i = .int .i64 j ∧ p = .float .f32 pr ∧ Fv .f32 pv pr ∧ outF n ss k q (lv.drop j) A B fs pv = R ∧ sOk k A B ∧ allSt n fs ∧ (0 < fs.length ∧ fs.length ≤ 64) ∧ wr.ownsRow w.heap.size 2 1 v fs.length (il (nl fs)) ∧ Whole wr gs 29 (sdC k A B) ∧ w.grownBy wr (some gs)) (fun _ _ i _ => lv.length - (intOf i).toNat)
  case atStart => exact ⟨0, a, b, 1065353216, [f], some 1065353216, Nat.zero_le _, rfl, rfl, ⟨by decide, by decide +kernel⟩, HI.out, HS.out, fun x hx => by rw [List.mem_singleton.1 hx]; exact HF.out, ⟨by simp, by simp⟩, H5.out⟩
  case round =>
    obtain ⟨j, A, B, pr, fs, pv, hj, rfl, rfl, hp, ho, hsk, hst, hfl, hown, q0, hgr⟩ := hrel
    rename World => wo
    have HA := Lib.hid (And.intro hp (And.intro ho (And.intro hsk (And.intro hst hfl))))
    have H := Lib.hid (And.intro hown (And.intro q0 hgr))
    change Hid (_ ∧ _ ∧ _) at H
    have hz := hgr.size
    have hjn : (j : Int) ≤ lv.length := by omega
    obtain ⟨g13, c13, rfl, hcap, hcells⟩ := own_at hown hfl.1
    have hg13 : g13 < wo.heap.size ∧ w.heap.size ≤ g13 := by have := hown.lt g13 rfl; omega
    clear hp ho hsk hst hown q0 hgr H5 HI hcells
    by_cases hlt : j < lv.length
    · have hlt' : (j : Int) < lv.length := by omega
      obtain ⟨lev, hlev⟩ : ∃ lev, lv[j]?.getD 0 = lev := ⟨_, rfl⟩
      have HE := Lib.hid hlev
      have HCL : Hid (∀ v : World, w.grownBy v (some gs) → ∃ bb oo, lo = some ⟨bb, oo, none⟩ ∧ v.cell? ⟨bb, oo + j, none⟩ = some (.int .i64 lev)) := Lib.hid (fun v hg => by
        obtain ⟨bb, oo, e, h⟩ := HLV.out v j hg hlt
        exact ⟨bb, oo, e, by rw [h, hlev]⟩)
      clear hlev
      go_wp2_with fail
      generalize hW : World.alloc wo _ = w6
      obtain ⟨gl, hgl⟩ : ∃ x, x = wo.heap.size := ⟨_, rfl⟩
      have H6 : Hid (w6.ownsRow (g13 + 1) 2 1 (.slice (some ⟨gl, 0, none⟩) 0 0) 0 (il (nl (midF n ss k lev fs A B 0).2.2)) ∧ w6.ownsRow w.heap.size 2 1 (.slice (some ⟨g13, 0, none⟩) fs.length c13) fs.length (il (nl fs)) ∧ Whole w6 gs 29 (sdC k (midF n ss k lev fs A B 0).1 (midF n ss k lev fs A B 0).2.1) ∧ w.grownBy w6 (some gs)) := Lib.hid (by
        rw [← hW, hgl]
        exact ⟨World.ownsRow_made _ _ _ (by omega) (Nat.zero_le _) rfl, H.out.1.alloc _, H.out.2.1.alloc _, grown_trans H.out.2.2 (World.grownBy_alloc _ _ _)⟩)
      have hgl1 : g13 < gl ∧ w.heap.size ≤ g13 := by omega
      rw [← hgl]
      clear hW hgl H hz hg13
      go_loopw [14, 15] (fun v i wr => ∃ t : Nat, t ≤ q ∧ i = .int .i64 t ∧ wr.ownsRow (g13 + 1) 2 1 v (midF n ss k lev fs A B t).2.2.length (il (nl (midF n ss k lev fs A B t).2.2)) ∧ wr.ownsRow w.heap.size 2 1 (.slice (some ⟨g13, 0, none⟩) fs.length c13) fs.length (il (nl fs)) ∧ Whole wr gs 29 (sdC k (midF n ss k lev fs A B t).1 (midF n ss k lev fs A B t).2.1) ∧ w.grownBy wr (some gs)) (fun _ i _ => q - (intOf i).toNat)
      case atStart => exact ⟨0, Nat.zero_le _, rfl, H6.out⟩
      case round =>
        obtain ⟨t, ht, rfl, hown, hst13, q0, hgr⟩ := hrel
        rename World => wm
        have H := Lib.hid (And.intro hown (And.intro hst13 (And.intro q0 hgr)))
        change Hid (_ ∧ _ ∧ _ ∧ _) at H
        have hz := hgr.size
        have htq : (t : Int) ≤ q := by omega
        have HM := Lib.hid (midF_all (ss := ss) (lev := lev) HA.out.2.2.1 HA.out.2.2.2.1 hfl.1 t)
        obtain ⟨_, _, hv13, _, hcells⟩ := own_at hst13 hfl.1
        cases hv13
        clear hown hst13 q0 hgr H6
        by_cases hlt2 : t < q
        · have hlt2' : (t : Int) < q := by omega
          obtain ⟨r, hr⟩ : ∃ r, t % fs.length = r := ⟨_, rfl⟩
          have hrl : r < fs.length := by rw [← hr]; exact Nat.mod_lt _ hfl.1
          have hri : (t : Int) % (fs.length : Int) = (r : Int) := by rw [← hr]; simp
          obtain ⟨x, hx⟩ : ∃ x, fs[r]?.getD 0 = x := ⟨_, rfl⟩
          have hcx := hcells r (.int .i64 (x : Int)) (by rw [← hx, ← nl_get hrl]; unfold il; rw [List.getElem?_map, List.getElem?_eq_getElem (by rw [nl_len]; exact hrl)]; rfl)
          have hxn : x < n := by rw [← hx]; exact HA.out.2.2.2.1.at hrl
          have HN : Hid (midF n ss k lev fs A B (t + 1) = midS n ss k lev x (midF n ss k lev fs A B t)) := Lib.hid (by rw [← hx, ← hr]; rfl)
          have hrl' : (r : Int) < (fs.length : Int) := by omega
          generalize hA1 : (midF n ss k lev fs A B t).1 = A1 at *
          generalize hB1 : (midF n ss k lev fs A B t).2.1 = B1 at *
          generalize hF1 : (midF n ss k lev fs A B t).2.2 = F1 at *
          have HAB : Hid (midF n ss k lev fs A B t = (A1, B1, F1)) := Lib.hid (by rw [← hA1, ← hB1, ← hF1])
          clear hcells hr hx hA1 hB1 hF1
          go_wp2_with fail
          clear hcx hri
          go_loopw [16, 17] (fun y i wr => ∃ u : Nat, u ≤ 64 ∧ i = .int .i64 u ∧ y = .int .i64 (walkAt n ss k A1 B1 x u : Nat) ∧ (∀ i, i < u → ¬doneR (walkAt n ss k A1 B1 x i : Int) lev i) ∧ wr.ownsRow (g13 + 1) 2 1 u14 F1.length (il (nl F1)) ∧ wr.ownsRow w.heap.size 2 1 (.slice (some ⟨g13, 0, none⟩) fs.length c13) fs.length (il (nl fs)) ∧ Whole wr gs 29 (sdC k (sdK k A1 B1 u).1 (sdK k A1 B1 u).2) ∧ w.grownBy wr (some gs)) (fun _ i _ => 64 - (intOf i).toNat)
          case atStart => exact ⟨0, Nat.zero_le _, rfl, rfl, fun i hi => absurd hi (Nat.not_lt_zero _), H.out⟩
          case round =>
            obtain ⟨u, hu, rfl, rfl, hno, hown, hst13, q0, hgr⟩ := hrel
            have HH := Lib.hid (And.intro hown (And.intro hst13 (And.intro q0 (And.intro hgr hno))))
            change Hid (_ ∧ _ ∧ _ ∧ _ ∧ _) at HH
            have hzr := hgr.size
            have hzs2 := q0.lt
            have hu64 : (u : Int) ≤ 64 := by omega
            obtain ⟨bb, oo, rfl, hcl⟩ := HCL.out wr hgr
            clear hown hst13 q0 hgr hno H
            have HYN := Lib.hid (walkAt_lt (ss := ss) (k := k) (a := A1) (b := B1) hxn u)
            have HNX : Hid (sdK k A1 B1 (u + 1) = (nxA k (sdK k A1 B1 u).1 (sdK k A1 B1 u).2, nxB k (sdK k A1 B1 u).1 (sdK k A1 B1 u).2) ∧ walkAt n ss k A1 B1 x (u + 1) = onF (rowA n (walkAt n ss k A1 B1 x u) ss) (shK k (sdK k A1 B1 u).1 (sdK k A1 B1 u).2) n 0 0) := Lib.hid ⟨rfl, rfl⟩
            by_cases hgo : ¬doneR (walkAt n ss k A1 B1 x u : Int) lev u ∧ u < 64
            · have HGO := Lib.hid hgo
              have h1 : (walkAt n ss k A1 B1 x u : Int) < lev := by have := hgo.1; unfold doneR at this; omega
              have h2 : (u : Int) < 64 := by omega
              have h3 : ¬((walkAt n ss k A1 B1 x u : Int) = 0) ∨ (u : Int) = 0 := by have := hgo.1; unfold doneR at this; omega
              clear hgo
              generalize hy : walkAt n ss k A1 B1 x u = y at *
              have HYE := Lib.hid hy
              have HJ := Lib.hid (HM.out.1.sdK u)
              clear hy
              have hcases : ((y : Int) != 0) = true ∨ (((y : Int) != 0) = false ∧ ((u : Int) == 0) = true) := by
                by_cases e : (y : Int) = 0
                · exact .inr ⟨by simpa using e, by simpa using (by omega : (u : Int) = 0)⟩
                · exact .inl (by simpa using e)
              clear h3
              rcases hcases with h3 | ⟨h3, h4⟩
              all_goals
                go_wp2_with (first | (go_at_call 65; fail))
                refine (l02Share_any _ _ _ _ _ HJ.out HH.out.2.2.1).mono ?_
                rintro e w7 ⟨rfl, r0, hg⟩
                have H7 := Lib.hid (And.intro (own_grown HH.out.1 hg (by omega)) (And.intro (own_grown HH.out.2.1 hg (by omega)) (And.intro r0 (And.intro (grown_trans HH.out.2.2.2.1 hg) HH.out.2.2.2.2))))
                change Hid (_ ∧ _ ∧ _ ∧ _ ∧ _) at H7
                clear r0 hg HH hcl
                go_wp2_with (first | (go_at_call 66; fail))
                refine (l07On_any ss n y _ gc bl o m c _ (HCH.out _ H7.out.2.2.2.1).1 (HCH.out _ H7.out.2.2.2.1).2 HYN.out hn12 HMM.out HX.out.2.2.1 (HX.out.2.1.okAt HYN.out)).mono ?_
                rintro e w8 ⟨rfl, hb⟩
                rw [← HNX.out.2]
                have H8 := Lib.hid (And.intro (own_below H7.out.1 hb) (And.intro (own_below H7.out.2.1 hb) (And.intro (H7.out.2.2.1.below hb) (And.intro (grown_trans H7.out.2.2.2.1 (grown_below hb)) H7.out.2.2.2.2))))
                change Hid (_ ∧ _ ∧ _ ∧ _ ∧ _) at H8
                clear hb H7
                go_wp2_with fail
                go_roundw
                case rel =>
                  refine ⟨u + 1, by omega, by go_num, rfl, fun i hi => ?_, H8.out.1, H8.out.2.1, by rw [HNX.out.1]; exact H8.out.2.2.1, H8.out.2.2.2.1⟩
                  by_cases e : i = u
                  · subst e; rw [HYE.out]; exact HGO.out.1
                  · exact H8.out.2.2.2.2 i (by omega)
                case measure => simp [intOf]; omega
            · have HGO := Lib.hid hgo
              clear hgo
              have hTr : u = rT n ss k A1 B1 x lev := rT_is hu HH.out.2.2.2.2 (by
                by_cases hd : doneR (walkAt n ss k A1 B1 x u : Int) lev u
                · exact .inl hd
                · exact .inr (by have := HGO.out; by_cases h : u < 64; exact absurd ⟨hd, h⟩ this; omega))
              have HMX : Hid (midF n ss k lev fs A B (t + 1) = ((sdK k A1 B1 u).1, (sdK k A1 B1 u).2, if lev ≤ (walkAt n ss k A1 B1 x u : Int) then F1 ++ [walkAt n ss k A1 B1 x u] else F1)) := Lib.hid (by rw [HN.out, HAB.out, hTr]; rfl)
              clear hTr
              generalize hy : walkAt n ss k A1 B1 x u = y at *
              clear hy
              have HF1 := HM.out.2.2
              by_cases hge : lev ≤ (y : Int)
              · have HNZ : Hid (midF n ss k lev fs A B (t + 1) = ((sdK k A1 B1 u).1, (sdK k A1 B1 u).2, F1 ++ [y])) := Lib.hid (by rw [HMX.out, if_pos hge])
                go_wp2_with (at_builtin; refine wpList_app1 rfl _ _ 30 rfl (g13 + 1) 2 (.int .i64 0) 8 Try.underlying30 (by kernel_rfl) rfl _ F1.length _ rfl (HH.out.1.alloc _) _ _ (.int .i64 (y : Int)) rfl ?_ rfl ⟨by omega, by omega⟩ ?_ ?_)
                · have := HH.out.2.1.lt g13 rfl; simp; omega
                · intro v' w' hown' hgr'
                  have ho : w'.ownsRow (g13 + 1) 2 1 v' (F1 ++ [y]).length (il (nl (F1 ++ [y]))) := by rw [nl_snoc, List.length_append]; exact hown'
                  have H11 := Lib.hid (And.intro ho (And.intro ((HH.out.2.1.alloc _).kept hgr' (.inr fun e => by have := HH.out.1.lt g13 e.symm; omega)) (And.intro ((HH.out.2.2.1.alloc _).grown hgr' (own_ne' HH.out.1 (by omega))) (grown_more (grown_trans HH.out.2.2.2.1 (World.grownBy_alloc _ _ _)) hgr' (fun i hi => by have := own_ge HH.out.1 i hi; omega)))))
                  change Hid (_ ∧ _ ∧ _ ∧ _) at H11
                  clear hown' hgr' ho HH
                  go_wp2_with fail
                  go_roundw
                  case rel => exact ⟨t + 1, by omega, by go_num, by rw [HNZ.out]; exact H11.out⟩
                  case measure => simp [intOf]; omega
              · have HNZ : Hid (midF n ss k lev fs A B (t + 1) = ((sdK k A1 B1 u).1, (sdK k A1 B1 u).2, F1)) := Lib.hid (by rw [HMX.out, if_neg hge])
                have hlt9 : (y : Int) < lev := by omega
                have hcases : (64 : Int) ≤ (u : Int) ∨ ((u : Int) < 64 ∧ ((y : Int) != 0) = false ∧ ((u : Int) == 0) = false) := by
                  have h0 := HGO.out
                  unfold doneR at h0
                  by_cases e : (64 : Int) ≤ (u : Int)
                  · exact .inl e
                  · exact .inr ⟨by omega, by simpa using (by omega : (y : Int) = 0), by simpa using (by omega : ¬(u : Int) = 0)⟩
                have H12 := Lib.hid (And.intro HH.out.1 (And.intro HH.out.2.1 (And.intro HH.out.2.2.1 HH.out.2.2.2.1)))
                change Hid (_ ∧ _ ∧ _ ∧ _) at H12
                clear hge
                rcases hcases with h1 | ⟨h1, h2, h3⟩
                all_goals
                  go_wp2_with fail
                  go_roundw
                  case rel => exact ⟨t + 1, by omega, by go_num, by rw [HNZ.out]; exact H12.out⟩
                  case measure => simp [intOf]; omega
        · obtain rfl : t = q := by omega
          have HOUT := Lib.hid (outF_nil (lev := lev) hlt HE.out HA.out.2.1)
          generalize hM : midF n ss k lev fs A B t = M at *
          obtain ⟨A1, B1, F1⟩ := M
          have hF1l : F1.length ≤ t := HM.out.2.2
          obtain ⟨ao17, c17, rfl⟩ := own_form H.out.1
          clear hcells
          by_cases hF : F1 = []
          · have e0 : ((F1.length : Int) == 0) = true := by rw [hF]; rfl
            have HFN := Lib.hid hF
            clear hF
            go_wp2_with (first | (refine wpList_farith (dst := some 79) _ _ _ _ _ .f32 pr (floatOfInt .f32 (F1.length : Int)) rfl rfl rfl ?_; intro r1 n1 hr1) | (refine wpList_farith (dst := some 82) _ _ _ _ _ .f32 r1 (floatOfInt .f32 (t : Int)) rfl rfl rfl ?_; intro r2 n2 hr2))
            have HP : Hid (Fv .f32 (pNext pv F1.length t) r2) := Lib.hid (by
              have h1 : aop .mul .f32 pv (av .f32 (floatOfInt .f32 (F1.length : Int))) = av .f32 r1 := by rw [← HA.out.1.2]; exact hr1.2.symm
              unfold pNext
              rw [h1]
              exact hr2)
            go_ret
            have e := HOUT.out.1 HFN.out
            exact ⟨r2, rfl, by rw [e]; have := HP.out; rw [HFN.out] at this; exact this, by rw [e]; exact H.out.2.2.1.drewN _, grown_trans H.out.2.2.2 (grown_drewN _ _ _)⟩
          · have e0 : ((F1.length : Int) == 0) = false := by simp; exact hF
            have HFN := Lib.hid hF
            clear hF
            go_wp2_with (first | (refine wpList_farith (dst := some 79) _ _ _ _ _ .f32 pr (floatOfInt .f32 (F1.length : Int)) rfl rfl rfl ?_; intro r1 n1 hr1) | (refine wpList_farith (dst := some 82) _ _ _ _ _ .f32 r1 (floatOfInt .f32 (t : Int)) rfl rfl rfl ?_; intro r2 n2 hr2))
            have HP : Hid (Fv .f32 (pNext pv F1.length t) r2) := Lib.hid (by
              have h1 : aop .mul .f32 pv (av .f32 (floatOfInt .f32 (F1.length : Int))) = av .f32 r1 := by rw [← HA.out.1.2]; exact hr1.2.symm
              unfold pNext
              rw [h1]
              exact hr2)
            generalize hWq : World.drewN _ _ = wq
            have H12 : Hid (wq.ownsRow w.heap.size 2 1 (.slice ao17 F1.length c17) F1.length (il (nl F1)) ∧ Whole wq gs 29 (sdC k A1 B1) ∧ w.grownBy wq (some gs)) := Lib.hid (by
              rw [← hWq]
              exact ⟨own_dn (own_low H.out.1 (by omega)) _, H.out.2.2.1.drewN _, grown_trans H.out.2.2.2 (grown_drewN _ _ _)⟩)
            clear hWq hr1 hr2
            go_roundw
            case rel => exact ⟨j + 1, A1, B1, r2, F1, pNext pv F1.length t, by omega, by go_num, rfl, HP.out, HOUT.out.2 HFN.out, HM.out.1, HM.out.2.1, ⟨List.length_pos_iff.2 HFN.out, by omega⟩, H12.out⟩
            case measure => simp [intOf]; omega
    · obtain rfl : j = lv.length := by omega
      have HR : Hid (R = (A, B, pv)) := Lib.hid (by have h := HA.out.2.1; rw [List.drop_length] at h; exact h.symm)
      go_wp2_with fail
      go_ret
      have e := HR.out
      exact ⟨pr, rfl, by rw [e]; exact HA.out.1, by rw [e]; exact H.out.2.1, H.out.2.2⟩
end Go.Proofs.Ytgeomaeccalceaa
