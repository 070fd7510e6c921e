/- Trees of sums: the weights of a tree (l03Leaves). -/
import Derived.Test.YthalameadedbmaaTs
namespace Go.Proofs.Ythalameadedbmaa
open Go Go.RowKit
set_option linter.unusedVariables false

theorem sumR_app (vs us : List Int) (lo : Nat) : ∀ d, lo + d ≤ vs.length → sumR (vs ++ us) lo d = sumR vs lo d
  | 0, _ => rfl
  | d + 1, h => by rw [sumR_next, sumR_next, sumR_app vs us lo d (by omega), List.getElem?_append_left (by omega)]
theorem treeL_at (vs : List Int) (j : Nat) (h : j < vs.length) (h64 : vs.length ≤ 64) : (treeL vs)[j]?.getD 0 = sumR vs (j + 1 - lowN (j + 1)) (lowN (j + 1)) := by
  rw [treeL_get vs j h, treeV_range vs (j + 1) vs.length (by omega) (by omega) (by omega)]
theorem treeL_app (vs us : List Int) (h64 : (vs ++ us).length ≤ 64) : (treeL (vs ++ us)).take vs.length = treeL vs := by
  have h64' : vs.length + us.length ≤ 64 := by simpa using h64
  apply List.ext_getElem
  · simp [treeL_len]
  · intro j h1 h2
    have h2' : j < vs.length := by rwa [treeL_len] at h2
    have hl := low_le (j + 1) (by omega) (by omega)
    have e1 := treeL_at (vs ++ us) j (by simp; omega) h64
    have e2 := treeL_at vs j h2' (by omega)
    rw [sumR_app vs us _ _ (by omega)] at e1
    rw [List.getElem_take]
    rw [List.getElem?_eq_getElem (by rw [treeL_len]; simp; omega)] at e1
    rw [List.getElem?_eq_getElem h2] at e2
    simp only [Option.getD_some] at e1 e2
    rw [e1, e2]
theorem treeL_snoc (vs : List Int) (x : Int) (h64 : vs.length + 1 ≤ 64) : treeL (vs ++ [x]) = treeL vs ++ [sumR vs (vs.length + 1 - lowN (vs.length + 1)) (lowN (vs.length + 1) - 1) + x] := by
  have h := treeL_take (vs ++ [x]) vs.length (by simp)
  have hl := low_le (vs.length + 1) (by omega) (by omega)
  have hp := low_pos (vs.length + 1)
  rw [List.take_of_length_le (by rw [treeL_len]; simp), treeL_app vs [x] (by simp; omega)] at h
  rw [h, treeV_range _ _ _ (by omega) (by omega) (by simp)]
  obtain ⟨d, hd⟩ : ∃ d, lowN (vs.length + 1) = d + 1 := ⟨lowN (vs.length + 1) - 1, by omega⟩
  rw [hd, sumR_next, sumR_app vs [x] _ _ (by omega), Nat.add_sub_cancel, show vs.length + 1 - (d + 1) + d = vs.length by omega]
  simp
theorem leafs_take {us : List Int} (h : leafs us) (j : Nat) : leafs (us.take j) := by
  intro x
  by_cases hx : x < j
  · rw [List.getElem?_take_of_lt hx]; exact h x
  · rw [List.getElem?_eq_none (by simp; omega)]; simp
theorem leafs_snoc {vs : List Int} {x : Int} (h : leafs vs) (hx : 0 ≤ x ∧ x ≤ 1000000) : leafs (vs ++ [x]) := by
  intro k
  rcases Nat.lt_trichotomy k vs.length with hk | hk | hk
  · rw [List.getElem?_append_left hk]; exact h k
  · subst hk; simpa using hx
  · rw [List.getElem?_eq_none (by simp; omega)]; simp
theorem treeL_inj {us vs : List Int} (hu : isLeafs us) (hv : isLeafs vs) (e : treeL us = treeL vs) : us = vs := by
  rw [← led_tree us hu, ← led_tree vs hv, e]
theorem pre_of_tree {ts us vs : List Int} (hu : isLeafs us) (e : treeL us = ts) (hv : leafs vs) (hj : vs.length < ts.length) (hp : treeL vs = ts.take vs.length) :
    ts[vs.length]?.getD 0 - sumR vs (vs.length + 1 - lowN (vs.length + 1)) (lowN (vs.length + 1) - 1) = us[vs.length]?.getD 0 ∧ 0 ≤ ts[vs.length]?.getD 0 ∧ ts[vs.length]?.getD 0 ≤ 64000000 := by
  subst e
  rw [treeL_len] at hj
  have h64 := hu.2.1
  have hsplit : us.take vs.length ++ us.drop vs.length = us := List.take_append_drop _ _
  have hlen : (us.take vs.length).length = vs.length := by simp; omega
  have ht : us.take vs.length = vs := by
    rcases Nat.eq_zero_or_pos vs.length with h0 | h0
    · have : vs = [] := List.length_eq_zero_iff.1 h0
      rw [this]; rfl
    · refine treeL_inj ⟨by omega, by omega, leafs_take hu.2.2 _⟩ ⟨h0, by omega, hv⟩ ?_
      have := treeL_app (us.take vs.length) (us.drop vs.length) (by rw [hsplit]; exact h64)
      rw [hsplit, hlen] at this
      rw [← this, hp]
  rw [ht] at hsplit
  have hl := low_le (vs.length + 1) (by omega) (by omega)
  have hlp := low_pos (vs.length + 1)
  have e1 := treeL_at us vs.length hj h64
  have hb := sumR_bd hu.2.2 (vs.length + 1 - lowN (vs.length + 1)) (lowN (vs.length + 1))
  have h64' := low_64 (vs.length + 1)
  refine ⟨?_, by omega, by omega⟩
  obtain ⟨d, hd⟩ : ∃ d, lowN (vs.length + 1) = d + 1 := ⟨lowN (vs.length + 1) - 1, by omega⟩
  rw [hd, sumR_next, show vs.length + 1 - (d + 1) + d = vs.length by omega] at e1
  have e2 := sumR_app vs (us.drop vs.length) (vs.length + 1 - (d + 1)) d (by omega)
  rw [hsplit] at e2
  rw [hd, Nat.add_sub_cancel, e1, e2]
  omega
def isTree (ts : List Int) : Prop := ∃ us, isLeafs us ∧ treeL us = ts
/-- The weights, in a new row, or none. -/
def LeavesP (ts : List Int) (w : World) (e : Ending) (w' : World) : Prop :=
  (∃ vs, isLeafs vs ∧ treeL vs = ts ∧ ∃ g c, e = .returned (.tuple #[.slice (some ⟨g, 0, none⟩) vs.length c, .bool true]) ∧ w.heap.size ≤ g ∧ RowAt w' g 2 vs ∧ Below w.heap.size w w')
  ∨ (¬ isTree ts ∧ RetB (.tuple #[.slice none 0 0, .bool false]) w e w')
set_option maxRecDepth 100000 in
set_option maxHeartbeats 4000000 in
theorem l03Leaves_any (ts : List Int) (ao : Option Addr) (c : Nat) (w : World) (hx : Holds w ao (il ts)) (hl : ts.length ≤ 1048576) :
    Calls Try.prog 54 #[.slice ao ts.length c] w (LeavesP ts w) := by
  have HX := Lib.hid hx
  have hl' : (ts.length : Int) ≤ 1048576 := by omega
  clear hx
  by_cases h0 : ts.length < 1
  · have h0' : (ts.length : Int) < 1 := by omega
    go_enter Try.func54, Try.ntmps54
    go_wp2
    go_ret2
    exact .inr ⟨fun ⟨us, hu, e⟩ => by have := hu.1; rw [← treeL_len us, e] at this; omega, rfl, Below.refl _ _⟩
  · have h0' : (1 : Int) ≤ ts.length := by omega
    by_cases h1 : 64 < ts.length
    · have h1' : (64 : Int) < ts.length := by omega
      go_enter Try.func54, Try.ntmps54
      go_wp2
      go_ret2
      exact .inr ⟨fun ⟨us, hu, e⟩ => by have := hu.2.1; rw [← treeL_len us, e] at this; omega, rfl, Below.refl _ _⟩
    · have h1' : (ts.length : Int) ≤ 64 := by omega
      go_enter Try.func54, Try.ntmps54
      go_wp2
      go_loopw [5, 6] (fun v i wr => ∃ vs : List Int, vs.length ≤ ts.length ∧ leafs vs ∧ treeL vs = ts.take vs.length ∧ i = .int .i64 ((vs.length : Int) + 1) ∧ wr.ownsRow w.heap.size 2 1 v vs.length (il vs) ∧ Below w.heap.size w wr ∧ w.heap.size ≤ wr.heap.size) (fun _ i _ => 200 - (intOf i).toNat)
      case atStart => exact ⟨[], Nat.zero_le _, fun x => by simp, rfl, rfl, World.ownsRow_made _ _ _ (Nat.le_refl _) (Nat.zero_le _) rfl, (Below.refl _ _).alloc (Nat.le_refl _) _, by simp⟩
      case round =>
        rename World => wo
        obtain ⟨vs, hvl, hlf, htr, rfl, hown, hbel, hsz⟩ := hrel
        have H := Lib.hid (And.intro hown hbel)
        obtain ⟨j, hj⟩ : ∃ j, j = vs.length := ⟨_, rfl⟩
        have HT := Lib.hid (And.intro hlf htr)
        have HJ := Lib.hid hj
        by_cases hlt : vs.length < ts.length
        · have hlt' : (vs.length : Int) + 1 ≤ ts.length := by omega
          have HPRE : Hid (∀ us, isLeafs us → treeL us = ts → _) := Lib.hid (fun us hu e => pre_of_tree hu e hlf hlt htr)
          have HLOW := Lib.hid (l03Low_any (vs.length + 1) (by omega) (by omega))
          have hlp := low_pos (vs.length + 1)
          have hle := low_le (vs.length + 1) (by omega) (by omega)
          have HXo := Lib.hid (HX.out.below hbel)
          obtain ⟨b, o, hao, hc⟩ := HXo.out vs.length (by simp [il]; omega)
          subst hao
          rw [il_get _ _ hlt] at hc
          obtain ⟨y, hy⟩ : ∃ y, y = ts[vs.length]?.getD 0 := ⟨_, rfl⟩
          rw [← hy] at hc HPRE
          have HY := Lib.hid hy
          clear hy hown hbel hlf htr
          by_cases hr : 0 ≤ y ∧ y ≤ 64000000
          · have HR : Hid (decide (0 ≤ y ∧ y ≤ 64000000) = true) := Lib.hid (decide_eq_true hr)
            obtain ⟨hr0, hr1⟩ := hr
            obtain ⟨D, hD⟩ : ∃ D, lowN (vs.length + 1) = D + 1 := ⟨lowN (vs.length + 1) - 1, by omega⟩
            rw [hD] at HLOW HPRE hle
            rw [Nat.add_sub_cancel] at HPRE
            have HDD := Lib.hid hD
            clear hD hlp
            go_wp2_with fail
            refine (l00In_any _ _ _ _).mono ?_
            rintro e w1 ⟨rfl, rfl⟩
            rw [HR.out]
            obtain ⟨lo, hlo⟩ : ∃ lo : Nat, lo + D = vs.length := ⟨vs.length - D, by omega⟩
            have hlo' : (vs.length : Int) + 1 - ((D + 1 : Nat) : Int) = lo := by omega
            rw [show vs.length + 1 - (D + 1) = lo by omega] at HPRE
            go_wp2_with fail
            have hcall := HLOW.out wo
            refine hcall.mono ?_
            rintro e w3 ⟨rfl, rfl⟩
            clear hcall
            go_wp2
            go_loop [7, 8] (fun s k => ∃ d : Nat, d ≤ D ∧ k = .int .i64 ((lo + d : Nat) : Int) ∧ s = .int .i64 (y - sumR vs lo d)) (fun _ k => vs.length + 1 - (intOf k).toNat)
            case atStart => exact ⟨0, Nat.zero_le _, by congr 1, by congr 1; simp [sumR]⟩
            case round =>
              obtain ⟨d, hd, rfl, rfl⟩ := hrel
              have hbd := sumR_bd HT.out.1 lo d
              have hs0 := hbd.1
              have hs1 : sumR vs lo d ≤ 64000000 := by omega
              clear hbd hlo'
              by_cases hld : d < D
              · have hoc := H.out.1
                obtain ⟨ao', c', hv⟩ := own_form hoc
                subst hv
                obtain ⟨b', o', ho, hcv⟩ := (Row.of_own hoc).holds (lo + d) (by simp [il]; omega)
                subst ho
                rw [il_get _ _ (by omega)] at hcv
                clear hoc
                have HN := Lib.hid (sumR_next vs lo d)
                have hx := HT.out.1 (lo + d)
                generalize vs[lo + d]?.getD 0 = x at *
                generalize sumR vs lo d = S at *
                obtain ⟨K, hK⟩ : ∃ K : Nat, K = lo + d := ⟨_, rfl⟩
                rw [← hK] at hcv ⊢
                have hKj : (K : Int) < (vs.length : Int) := by omega
                have HK := Lib.hid hK
                have hx0 := hx.1
                have hx1 := hx.2
                clear hx hK
                go_wp2
                go_round
                case rel =>
                  have hK := HK.out
                  exact ⟨d + 1, by omega, by congr 1; omega, by congr 1; rw [HN.out]; omega⟩
                case measure => simp [intOf]; omega
              · obtain rfl : d = D := by omega
                rw [hlo]
                obtain ⟨S, hS⟩ : ∃ S, S = sumR vs lo d := ⟨_, rfl⟩
                have HS := Lib.hid hS
                rw [← hS] at hs0 hs1 ⊢
                clear hS
                have hge : ¬ (vs.length : Int) < (vs.length : Int) + 1 - 1 := by omega
                cases hdx : decide (0 ≤ y - S ∧ y - S ≤ 1000000) with
                | true =>
                  have HDX := Lib.hid (of_decide_eq_true hdx)
                  have HDE := Lib.hid hdx
                  clear hdx
                  go_wp2_with fail
                  refine (l03Leaf_any _ _).mono ?_
                  rintro e w4 ⟨rfl, rfl⟩
                  rw [HDE.out]
                  go_wp2_with (at_builtin; refine wpList_app1 rfl _ _ 22 rfl w.heap.size 2 (.int .i64 0) 8 Try.underlying22 (by kernel_rfl) rfl _ vs.length _ rfl (H.out.1.alloc _) _ _ (.int .i64 (y - S)) rfl ?_ rfl ⟨by omega, by omega⟩ ?_ ?_)
                  · first | rfl | exact (by first | omega | (simp; done) | (simp; omega))
                  · exact (by first | omega | (simp; done) | (simp; omega))
                  · intro v' w' hown' hgr'
                    have hb3 : Below w.heap.size w w' := Below.grown (H.out.2.alloc H.out.2.size _) hgr' (by first | omega | (simp; done) | (simp; omega)) (fun i hi => by have := own_ge H.out.1 i hi; omega)
                    have ho3 : w'.ownsRow w.heap.size 2 1 v' (vs.length + 1) (il (vs ++ [y - S])) := by rw [il, List.map_append]; exact hown'
                    have hz3 : w.heap.size ≤ w'.heap.size := hb3.size
                    have H3 := Lib.hid (And.intro ho3 (And.intro hb3 hz3))
                    clear hown' hgr' hb3 ho3 H hz3
                    go_wp2
                    go_roundw
                    case rel =>
                      have hln : (vs ++ [y - S]).length = vs.length + 1 := by simp
                      refine ⟨vs ++ [y - S], by omega, leafs_snoc HT.out.1 HDX.out, ?_, by rw [hln]; go_num, by rw [hln]; exact H3.out⟩
                      rw [treeL_snoc _ _ (by omega), HDD.out, Nat.add_sub_cancel, show vs.length + 1 - (d + 1) = lo by omega, HT.out.2, hln, List.take_succ_eq_append_getElem hlt]
                      have hy := HY.out
                      rw [List.getElem?_eq_getElem hlt] at hy
                      simp only [Option.getD_some] at hy
                      rw [← hy]
                      congr 2
                      have := HS.out
                      omega
                    case measure => simp [intOf]; omega
                | false =>
                  have HDX := Lib.hid (of_decide_eq_false hdx)
                  have HDE := Lib.hid hdx
                  clear hdx
                  go_wp2_with fail
                  refine (l03Leaf_any _ _).mono ?_
                  rintro e w4 ⟨rfl, rfl⟩
                  rw [HDE.out]
                  go_wp2
                  go_ret2
                  refine .inr ⟨fun ⟨us, hu, e⟩ => HDX.out ?_, rfl, H.out.2⟩
                  have h1 := (HPRE.out us hu e).1
                  have h2 := hu.2.2 vs.length
                  have h3 := HS.out
                  omega
          · have HR : Hid (decide (0 ≤ y ∧ y ≤ 64000000) = false) := Lib.hid (decide_eq_false hr)
            have HNR := Lib.hid hr
            clear hr
            go_wp2_with fail
            refine (l00In_any _ _ _ _).mono ?_
            rintro e w1 ⟨rfl, rfl⟩
            rw [HR.out]
            go_wp2
            go_ret2
            exact .inr ⟨fun ⟨us, hu, e⟩ => HNR.out (HPRE.out us hu e).2, rfl, H.out.2⟩
        · have hjn : vs.length = ts.length := by omega
          have hlt' : (ts.length : Int) < (vs.length : Int) + 1 := by omega
          obtain ⟨g, cap, rfl, hge, hrow⟩ := RowAt.of_own hown (by omega)
          rw [hjn, List.take_length] at htr
          have H1 : Hid _ := Lib.hid (And.intro hrow (And.intro hbel (And.intro hge (And.intro htr hlf))))
          clear hown hbel hrow htr hlf H HT
          go_wp2
          go_ret2
          exact .inl ⟨vs, ⟨by omega, by omega, H1.out.2.2.2.2⟩, H1.out.2.2.2.1, g, cap, rfl, H1.out.2.2.1, H1.out.1, H1.out.2.1⟩
end Go.Proofs.Ythalameadedbmaa
