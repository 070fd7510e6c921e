/- Trees of sums: TreeAdd. -/
import Derived.Test.YthalameadedbmaaTw
namespace Go.Proofs.Ythalameadedbmaa
open Go Go.RowKit
set_option linter.unusedVariables false

/-- The weights with one of them more. -/
def addW (us : List Int) (m : Nat) (q : Int) : List Int := us.set m (us[m]?.getD 0 + q)
theorem addW_len (us : List Int) (m : Nat) (q : Int) : (addW us m q).length = us.length := List.length_set ..
theorem addW_ok {us : List Int} {m : Nat} {q : Int} (h : isLeafs us) (h0 : 0 ≤ us[m]?.getD 0 + q ∧ us[m]?.getD 0 + q ≤ 1000000) : isLeafs (addW us m q) := by
  refine ⟨by rw [addW_len]; exact h.1, by rw [addW_len]; exact h.2.1, fun k => ?_⟩
  unfold addW
  by_cases e : m = k
  · subst e
    by_cases hm : m < us.length
    · rw [List.getElem?_set_self hm]; exact h0
    · rw [List.getElem?_eq_none (by simp; omega)]; simp
  · rw [List.getElem?_set_ne e]; exact h.2.2 k
/-- One may be added. -/
def addC (ts : List Int) (n q : Int) : Prop := ∃ (us : List Int) (m : Nat), isLeafs us ∧ treeL us = ts ∧ n = (m : Int) ∧ m < ts.length ∧ 0 ≤ us[m]?.getD 0 + q ∧ us[m]?.getD 0 + q ≤ 1000000
theorem addC_no {ts us : List Int} {n q : Int} (h : ¬ addC ts n q) (hu : isLeafs us) (e : treeL us = ts) (m : Nat) (hn : n = (m : Int)) (hm : m < ts.length) : ¬ (0 ≤ us[m]?.getD 0 + q ∧ us[m]?.getD 0 + q ≤ 1000000) := fun hh => h ⟨us, m, hu, e, hn, hm, hh.1, hh.2⟩
set_option maxRecDepth 100000 in
set_option maxHeartbeats 1000000 in
theorem specTreeAdd_yes (ts us : List Int) (ao : Option Addr) (c m : Nat) (q : Int) (w : World) (hx : Holds w ao (il ts)) (hl : ts.length ≤ 1048576) (hu : isLeafs us) (e : treeL us = ts) (hm : m < ts.length) (h0 : 0 ≤ us[m]?.getD 0 + q) (h1 : us[m]?.getD 0 + q ≤ 1000000) :
    Calls Try.prog 19 #[.slice ao ts.length c, .int .i64 m, .int .i64 q] w (RetL ts.length (il (treeL (addW us m q))) (fun s => .tuple #[s, .bool true]) w) := by
  have HX := Lib.hid hx
  have HU := Lib.hid (And.intro hu e)
  have hl' : (ts.length : Int) ≤ 1048576 := by omega
  have HW := Lib.hid (addW_ok (m := m) (q := q) hu ⟨h0, h1⟩)
  have hb := hu.2.2 m
  clear hx hu e
  go_enter Try.func19, Try.ntmps19
  go_wp2_with fail
  refine (l03Leaves_any ts ao c _ HX.out hl).mono ?_
  rintro e w1 (⟨vs, hvs, hvt, g, cc, rfl, hg, hrow, hbel⟩ | ⟨hno, _⟩)
  · obtain rfl : vs = us := treeL_inj hvs HU.out.1 (hvt.trans HU.out.2.symm)
    have HVL : Hid (vs.length = ts.length) := Lib.hid (tree_len hvt)
    have hm' : m < vs.length := by rw [HVL.out]; exact hm
    have hc := hrow.cell m hm'
    have hfz := hrow.frozen m
    have hzq := hrow.lt
    have HG := Lib.hid hg
    have H1 := Lib.hid (And.intro hrow hbel)
    have HSET : Hid (addW vs m q = vs.set m (vs[m]?.getD 0 + q)) := Lib.hid rfl
    obtain ⟨x, hx⟩ : ∃ x, x = vs[m]?.getD 0 := ⟨_, rfl⟩
    rw [← hx] at hc hb h0 h1 HSET
    have hx0 := hb.1
    have hx1 := hb.2
    have HVM : Hid ((m : Int) < vs.length) := Lib.hid (by omega)
    clear hvs hvt hrow hbel hg hb hx
    have hn1 : (m : Int) < ts.length := by omega
    rw [HVL.out] at hm'
    go_wp2_with fail
    refine (l00In_yes _ _ _ (by omega) (by omega) _).mono ?_
    rintro e w3 ⟨rfl, rfl⟩
    go_wp2_with fail
    refine (l00In_yes _ _ _ (by omega) (by omega) _).mono ?_
    rintro e w3 ⟨rfl, rfl⟩
    have hvm : m < vs.length := by rw [HVL.out]; exact hm
    have HDD : Hid (decide (0 ≤ x + q ∧ x + q ≤ 1000000) = true) := Lib.hid (decide_eq_true ⟨h0, h1⟩)
    go_wp2_with fail
    refine (l03Leaf_any _ _).mono ?_
    rintro e w4 ⟨rfl, rfl⟩
    rw [HDD.out]
    go_wp2_with fail
    have HL2 : Hid ((vs.set m (x + q)).length = vs.length) := Lib.hid (List.length_set ..)
    have hrow2 := H1.out.1.put m (x + q)
    have hH2 := (hrow2.row (lo := g) (hi := (w1.setCell ⟨g, m, none⟩ (.int .i64 (x + q))).heap.size) (Nat.le_refl _) hrow2.lt).holds
    have HC := Lib.hid (l03Tree_any (vs.set m (x + q)) _ cc _ hH2 (by rw [← HSET.out]; exact HW.out))
    rw [HL2.out] at HC
    clear hrow2 hH2
    have hcall := HC.out
    refine hcall.mono ?_
    rintro e w5 ⟨ao', c', rfl, hrow5, hbel5⟩
    have HF : Hid (Row w5 w.heap.size w5.heap.size ao' (il (treeL (addW vs m q))) ∧ Below w.heap.size w w5) := Lib.hid (by
      rw [HSET.out]
      have hge := HG.out
      refine ⟨hrow5.wide ?_ (Nat.le_refl _), Bel_next (H1.out.2.setCell (p := ⟨g, m, none⟩) hge _) hbel5⟩
      have hz := H1.out.2.size
      simp
      omega)
    clear hcall hrow5 hbel5 HC
    go_wp2
    go_ret2
    exact ⟨_, _, by rw [HVL.out]; rfl, HF.out.1, HF.out.2⟩
  · exact absurd ⟨us, HU.out⟩ hno
set_option maxRecDepth 100000 in
set_option maxHeartbeats 1000000 in
theorem specTreeAdd_no (ts : List Int) (ao : Option Addr) (c : Nat) (n q : Int) (w : World) (hx : Holds w ao (il ts)) (hl : ts.length ≤ 1048576) (h : ¬ addC ts n q) :
    Calls Try.prog 19 #[.slice ao ts.length c, .int .i64 n, .int .i64 q] w (RetB (.tuple #[.slice none 0 0, .bool false]) w) := by
  have HX := Lib.hid hx
  have HN := Lib.hid h
  have hl' : (ts.length : Int) ≤ 1048576 := by omega
  clear hx h
  go_enter Try.func19, Try.ntmps19
  go_wp2_with fail
  refine (l03Leaves_any ts ao c _ HX.out hl).mono ?_
  rintro e w1 (⟨vs, hvs, hvt, g, cc, rfl, hg, hrow, hbel⟩ | ⟨hno, rfl, hbel⟩)
  · have HVL : Hid (vs.length = ts.length) := Lib.hid (tree_len hvt)
    have HU := Lib.hid (And.intro hvs hvt)
    have H1 := Lib.hid (And.intro hrow hbel)
    clear hvs hvt hbel hg
    cases hd1 : decide (0 ≤ n ∧ n ≤ (ts.length : Int) - 1) with
    | false =>
      have HD := Lib.hid hd1
      clear hd1 hrow
      go_wp2_with fail
      refine (l00In_any _ _ _ _).mono ?_
      rintro e w3 ⟨rfl, rfl⟩
      rw [HD.out]
      go_wp2
      go_ret2
      exact ⟨rfl, H1.out.2⟩
    | true =>
      have hd := of_decide_eq_true hd1
      have HD := Lib.hid hd1
      obtain ⟨m, rfl⟩ : ∃ m : Nat, n = m := ⟨n.toNat, by omega⟩
      have hm : m < ts.length := by omega
      have HLEAF := Lib.hid (fun (hn : ¬ addC ts (m : Int) q) => addC_no hn HU.out.1 HU.out.2 m rfl hm)
      have hc := hrow.cell m (by rw [HVL.out]; exact hm)
      have hb := HU.out.1.2.2 m
      generalize vs[m]?.getD 0 = x at *
      have hx0 := hb.1
      have hx1 := hb.2
      clear hd hd1 hrow hb
      cases hd2 : decide (-1000000 ≤ q ∧ q ≤ 1000000) with
      | false =>
        have HE := Lib.hid hd2
        clear hd2
        go_wp2_with fail
        refine (l00In_any _ _ _ _).mono ?_
        rintro e w3 ⟨rfl, rfl⟩
        rw [HD.out]
        go_wp2_with fail
        refine (l00In_any _ _ _ _).mono ?_
        rintro e w3 ⟨rfl, rfl⟩
        rw [HE.out]
        go_wp2
        go_ret2
        exact ⟨rfl, H1.out.2⟩
      | true =>
        have HE := Lib.hid hd2
        have hq := of_decide_eq_true hd2
        have hq0 := hq.1
        have hq1 := hq.2
        have HDD : Hid (decide (0 ≤ x + q ∧ x + q ≤ 1000000) = false) := Lib.hid (decide_eq_false (HLEAF.out HN.out))
        clear hd2 hq
        go_wp2_with fail
        refine (l00In_any _ _ _ _).mono ?_
        rintro e w3 ⟨rfl, rfl⟩
        rw [HD.out]
        go_wp2_with fail
        refine (l00In_any _ _ _ _).mono ?_
        rintro e w3 ⟨rfl, rfl⟩
        rw [HE.out]
        have hvm : m < vs.length := by rw [HVL.out]; exact hm
        go_wp2_with fail
        refine (l03Leaf_any _ _).mono ?_
        rintro e w4 ⟨rfl, rfl⟩
        rw [HDD.out]
        go_wp2
        go_ret2
        exact ⟨rfl, H1.out.2⟩
  · have H1 := Lib.hid hbel
    clear hbel
    go_wp2
    go_ret2
    exact ⟨rfl, H1.out⟩
theorem isBelow_any (i n : Int) (w : World) : Calls Try.prog 61 #[.int .i64 i, .int .i64 n] w (fun e w' => e = .returned (.bool (decide (0 ≤ i ∧ i < n))) ∧ w = w') := by
  by_cases h : 0 ≤ i ∧ i < n
  · rw [decide_eq_true h]
    obtain ⟨h0, h1⟩ := h
    go_enter Try.func61, Try.ntmps61
    go_wp2_with fail
    go_ret
    exact ⟨rfl, rfl⟩
  · rw [decide_eq_false h]
    by_cases h0 : 0 ≤ i
    · have h1 : ¬ i < n := fun hh => h ⟨h0, hh⟩
      clear h
      go_enter Try.func61, Try.ntmps61
      go_wp2_with fail
      go_ret
      exact ⟨rfl, rfl⟩
    · clear h
      go_enter Try.func61, Try.ntmps61
      go_wp2_with fail
      go_ret
      exact ⟨rfl, rfl⟩
set_option maxRecDepth 100000 in
set_option maxHeartbeats 2000000 in
theorem implTreeAdd_yes (ts us : List Int) (ao : Option Addr) (c m : Nat) (q : Int) (w : World) (hx : Holds w ao (il ts)) (hl : ts.length ≤ 1048576) (hr : ∀ x ∈ ts, -9223372036854775808 ≤ x ∧ x ≤ 9223372036854775807) (hu : isLeafs us) (e : treeL us = ts) (hm : m < ts.length) (h0 : 0 ≤ us[m]?.getD 0 + q) (h1 : us[m]?.getD 0 + q ≤ 1000000) :
    Calls Try.prog 20 #[.slice ao ts.length c, .int .i64 m, .int .i64 q] w (RetL ts.length (il (treeL (addW us m q))) (fun s => .tuple #[s, .bool true]) w) := by
  have HX := Lib.hid hx
  have HR := Lib.hid hr
  have HU := Lib.hid (And.intro hu e)
  have hl' : (ts.length : Int) ≤ 1048576 := by omega
  have HW := Lib.hid (addW_ok (m := m) (q := q) hu ⟨h0, h1⟩)
  have hb := hu.2.2 m
  have HLED := Lib.hid (led_is hu e)
  have HUL := Lib.hid (tree_len e)
  clear hx hu e hr
  go_enter Try.func20, Try.ntmps20
  go_wp2_with fail
  refine (weightsOf_any ts ao c _ HX.out hl HR.out).mono ?_
  rintro e w1 (⟨_, rfl, hrow, hbel⟩ | ⟨hno, _⟩)
  · rw [HLED.out] at hrow
    have hc := hrow.cell m (by rw [HUL.out]; exact hm)
    have hfz := hrow.frozen m
    have hzq := hrow.lt
    have HROW := Lib.hid hrow
    have H1 := Lib.hid hbel
    have HSET : Hid (addW us m q = us.set m (us[m]?.getD 0 + q)) := Lib.hid rfl
    obtain ⟨x, hx⟩ : ∃ x, x = us[m]?.getD 0 := ⟨_, rfl⟩
    rw [← hx] at hc hb h0 h1 HSET
    have hx0 := hb.1
    have hx1 := hb.2
    have hq0 : ¬ q < -x := by omega
    have hq1 : ¬ 1000000 - x < q := by omega
    have HD : Hid (decide (0 ≤ (m : Int) ∧ (m : Int) < ts.length) = true) := Lib.hid (decide_eq_true (by omega))
    clear hrow hbel hb hx
    go_wp2_with fail
    refine (isBelow_any _ _ _).mono ?_
    rintro e w3 ⟨rfl, rfl⟩
    rw [HD.out]
    go_wp2_with fail
    have HL2 : Hid ((us.set m (x + q)).length = ts.length) := Lib.hid (by rw [List.length_set]; exact HUL.out)
    have hrow2 := HROW.out.put m (x + q)
    have hH2 := (hrow2.row (lo := w.heap.size) (hi := (w1.setCell ⟨w.heap.size, m, none⟩ (.int .i64 (x + q))).heap.size) (Nat.le_refl _) hrow2.lt).holds
    have HC := Lib.hid (growTree_any (us.set m (x + q)) _ ts.length _ hH2 (by rw [← HSET.out]; exact HW.out))
    rw [HL2.out] at HC
    clear hrow2 hH2
    have hcall := HC.out
    refine hcall.mono ?_
    rintro e w5 ⟨rfl, hrow5, hbel5⟩
    have HF : Hid (Row w5 w.heap.size w5.heap.size (some ⟨w1.heap.size, 0, none⟩) (il (treeL (addW us m q))) ∧ Below w.heap.size w w5) := Lib.hid (by
      rw [HSET.out]
      have hz := H1.out.size
      have hz5 : (w1.setCell ⟨w.heap.size, m, none⟩ (.int .i64 (x + q))).heap.size = w1.heap.size := by simp
      rw [hz5] at hrow5
      refine ⟨hrow5.row hz hrow5.lt, Bel_next (H1.out.setCell (p := ⟨w.heap.size, m, none⟩) (Nat.le_refl _) _) hbel5⟩)
    clear hcall hrow5 hbel5 HC
    go_wp2
    go_ret2
    exact ⟨_, _, rfl, HF.out.1, HF.out.2⟩
  · exact absurd ((isTree_iff HR.out).2 ⟨us, HU.out⟩) hno
set_option maxRecDepth 100000 in
set_option maxHeartbeats 2000000 in
theorem implTreeAdd_no (ts : List Int) (ao : Option Addr) (c : Nat) (n q : Int) (w : World) (hx : Holds w ao (il ts)) (hl : ts.length ≤ 1048576) (hr : ∀ x ∈ ts, -9223372036854775808 ≤ x ∧ x ≤ 9223372036854775807) (h : ¬ addC ts n q) :
    Calls Try.prog 20 #[.slice ao ts.length c, .int .i64 n, .int .i64 q] w (RetB (.tuple #[.slice none 0 0, .bool false]) w) := by
  have HX := Lib.hid hx
  have HR := Lib.hid hr
  have HN := Lib.hid h
  have hl' : (ts.length : Int) ≤ 1048576 := by omega
  clear hx hr h
  go_enter Try.func20, Try.ntmps20
  go_wp2_with fail
  refine (weightsOf_any ts ao c _ HX.out hl HR.out).mono ?_
  rintro e w1 (⟨hy, rfl, hrow, hbel⟩ | ⟨hno, rfl, hbel⟩)
  · have H1 := Lib.hid hbel
    obtain ⟨us, hu, he⟩ := (isTree_iff HR.out).1 hy
    have HUL := Lib.hid (tree_len he)
    have HU := Lib.hid (And.intro hu he)
    rw [led_is hu he] at hrow
    clear hbel hy hu he
    cases hd1 : decide (0 ≤ n ∧ n < (ts.length : Int)) with
    | false =>
      have HD := Lib.hid hd1
      clear hd1 hrow
      go_wp2_with fail
      refine (isBelow_any _ _ _).mono ?_
      rintro e w3 ⟨rfl, rfl⟩
      rw [HD.out]
      go_wp2
      go_ret2
      exact ⟨rfl, H1.out⟩
    | true =>
      have hd := of_decide_eq_true hd1
      have HD := Lib.hid hd1
      obtain ⟨m, rfl⟩ : ∃ m : Nat, n = m := ⟨n.toNat, by omega⟩
      have hm : m < ts.length := by omega
      have HLEAF := Lib.hid (addC_no HN.out HU.out.1 HU.out.2 m rfl hm)
      have hc := hrow.cell m (by rw [HUL.out]; exact hm)
      have hb := HU.out.1.2.2 m
      generalize us[m]?.getD 0 = x at *
      have hx0 := hb.1
      have hx1 := hb.2
      clear hd hd1 hrow hb
      by_cases hq0 : q < -x
      · go_wp2_with fail
        refine (isBelow_any _ _ _).mono ?_
        rintro e w3 ⟨rfl, rfl⟩
        rw [HD.out]
        go_wp2_with fail
        go_ret2
        exact ⟨rfl, H1.out⟩
      · have hq1 : 1000000 - x < q := by have := HLEAF.out; omega
        go_wp2_with fail
        refine (isBelow_any _ _ _).mono ?_
        rintro e w3 ⟨rfl, rfl⟩
        rw [HD.out]
        go_wp2_with fail
        go_ret2
        exact ⟨rfl, H1.out⟩
  · have H1 := Lib.hid hbel
    clear hbel
    go_wp2
    go_ret2
    exact ⟨rfl, H1.out⟩
end Go.Proofs.Ythalameadedbmaa
