/- Desks that are the same, both sides. -/
import Derived.Test.YtekoahhdbafpmaaDk
import Derived.Test.YtekoahhdbafpmaaSt6
import Derived.Test.YtekoahhdbafpmaaSs5
namespace Go.Proofs.Ytekoahhdbafpmaa
open Go Go.RowKit Fl Vag
set_option linter.unusedVariables false

set_option maxRecDepth 100000 in
set_option maxHeartbeats 1000000 in
theorem l06SameD_any (r c r' c' : Int) (xs ys : List Int) (ao bo : Option Addr) (ca cb g g' : Nat) (T : TypeId) (k0 k1 k2 y0 z0 m0 m1 m2 y1 z1 : Value) (w : World) (hW : Whole w g T #[k0, k1, k2, .int .i64 r, .int .i64 c, .slice ao xs.length ca, y0, z0]) (hV : Whole w g' T #[m0, m1, m2, .int .i64 r', .int .i64 c', .slice bo ys.length cb, y1, z1]) (hx : Holds w ao (il xs)) (hy : Holds w bo (il ys)) (hl : xs.length ≤ 1048576) (hl2 : ys.length ≤ 1048576) :
    Calls Try.prog 33 #[.pointer (some ⟨g, 3, none⟩), .pointer (some ⟨g', 3, none⟩)] w (RetB (.bool (sameB r c xs r' c' ys)) w) := by
  have HX := Lib.hid (And.intro hx hy)
  have hc0 := hW.cell 3
  have hc1 := hW.cell 4
  have hc2 := hW.cell 5
  have hd0 := hV.cell 3
  have hd1 := hV.cell 4
  have hd2 := hV.cell 5
  clear hx hy hW hV
  by_cases h1 : r = r'
  · by_cases h2 : c = c'
    · by_cases h3 : xs.length = ys.length
      · have HF : Hid (sameB r c xs r' c' ys = decide (xs = ys)) := Lib.hid (by unfold sameB sameT; simp [h1, h2])
        have e1 : (r != r') = false := by simpa using h1
        have e2 : (c != c') = false := by simpa using h2
        obtain ⟨m, hm⟩ : ∃ m, ys.length = m := ⟨_, rfl⟩
        have H3 : Hid (ys.length = xs.length) := Lib.hid h3.symm
        rw [← h3] at hd2
        clear h1 h2 hm h3
        go_enter Try.func33, Try.ntmps33
        go_wp2_with fail
        go_quiet (fail)
        go_wp2_with fail
        go_loopw [5] (fun i wr => ∃ k : Nat, k ≤ xs.length ∧ i = .int .i64 k ∧ (∀ j : Nat, j < k → xs[j]?.getD 0 = ys[j]?.getD 0) ∧ ∃ q, wr = w.drewN q) (fun i _ => xs.length - (intOf i).toNat)
        case atStart => exact ⟨0, Nat.zero_le _, rfl, fun j hj => absurd hj (Nat.not_lt_zero _), _, rfl⟩
        case round =>
          obtain ⟨k, hk, rfl, hall, q, rfl⟩ := hrel
          have HA := Lib.hid hall
          clear hall
          by_cases hlt : k < xs.length
          · obtain ⟨b, o, rfl, hc⟩ := HX.out.1 k (by rw [il_len]; omega)
            obtain ⟨b', o', rfl, hc'⟩ := HX.out.2 k (by rw [il_len]; have := H3.out; omega)
            rw [il_get _ _ hlt] at hc
            rw [il_get _ _ (by have := H3.out; omega)] at hc'
            have hlt' : (k : Int) < xs.length := by omega
            obtain ⟨x, hx⟩ : ∃ x, xs[k]?.getD 0 = x := ⟨_, rfl⟩
            obtain ⟨y, hy⟩ : ∃ y, ys[k]?.getD 0 = y := ⟨_, rfl⟩
            rw [hx] at hc
            rw [hy] at hc'
            have HE := Lib.hid (And.intro hx hy)
            clear hx hy
            by_cases hb : x = y
            · have HB := Lib.hid hb
              have hne : (x != y) = false := by simpa using hb
              clear hb
              go_wp2_with fail
              go_quiet (fail)
              go_wp2_with fail
              go_roundw
              case rel => exact ⟨k + 1, by omega, by go_num, fun j hj => (by
                by_cases e : j = k
                · subst e; rw [HE.out.1, HE.out.2]; exact HB.out
                · exact HA.out j (by omega)), _, rfl⟩
              case measure => simp [intOf]; omega
            · have HB : Hid (decide (xs = ys) = false) := Lib.hid (decide_eq_false (fun h => hb (by rw [← HE.out.1, ← HE.out.2, h])))
              have hne : (x != y) = true := by simpa using hb
              clear hb
              go_wp2_with fail
              go_quiet (fail)
              go_wp2_with fail
              go_ret
              exact ⟨by rw [HF.out, HB.out]; rfl, (by repeat (first | with_reducible exact Below.refl _ _ | with_reducible exact HBL | with_reducible refine Below.drew ?_ | with_reducible refine Bel_drewN ?_ _ | with_reducible refine Below.alloc ?_ (by first | omega | (simp; done) | (simp; omega)) _ | with_reducible refine Below.setCell ?_ (by first | omega | (simp; done) | (simp; omega)) _))⟩
          · have HB : Hid (decide (xs = ys) = true) := Lib.hid (decide_eq_true (eq_of_at H3.out.symm (fun j hj => HA.out j (by omega))))
            go_wp2_with fail
            go_ret
            exact ⟨by rw [HF.out, HB.out]; rfl, (by repeat (first | with_reducible exact Below.refl _ _ | with_reducible exact HBL | with_reducible refine Below.drew ?_ | with_reducible refine Bel_drewN ?_ _ | with_reducible refine Below.alloc ?_ (by first | omega | (simp; done) | (simp; omega)) _ | with_reducible refine Below.setCell ?_ (by first | omega | (simp; done) | (simp; omega)) _))⟩
      · have HF : Hid (sameB r c xs r' c' ys = false) := Lib.hid (decide_eq_false (fun h => h3 (by rw [h.2.2])))
        have e1 : (r != r') = false := by simpa using h1
        have e2 : (c != c') = false := by simpa using h2
        have e3 : ((xs.length : Int) != (ys.length : Int)) = true := by simp; omega
        clear h1 h2 h3
        go_enter Try.func33, Try.ntmps33
        go_wp2_with fail
        go_quiet (fail)
        go_wp2_with fail
        go_ret
        exact ⟨by rw [HF.out]; first | rfl | (simp; done), (by repeat (first | with_reducible exact Below.refl _ _ | with_reducible exact HBL | with_reducible refine Below.drew ?_ | with_reducible refine Bel_drewN ?_ _ | with_reducible refine Below.alloc ?_ (by first | omega | (simp; done) | (simp; omega)) _ | with_reducible refine Below.setCell ?_ (by first | omega | (simp; done) | (simp; omega)) _))⟩
    · have HF : Hid (sameB r c xs r' c' ys = false) := Lib.hid (by unfold sameB sameT; simp [h2])
      have e1 : (r != r') = false := by simpa using h1
      have e2 : (c != c') = true := by simpa using h2
      clear h1 h2
      go_enter Try.func33, Try.ntmps33
      go_wp2_with fail
      go_quiet (fail)
      go_wp2_with fail
      go_ret
      exact ⟨by rw [HF.out]; first | rfl | (simp; done), (by repeat (first | with_reducible exact Below.refl _ _ | with_reducible exact HBL | with_reducible refine Below.drew ?_ | with_reducible refine Bel_drewN ?_ _ | with_reducible refine Below.alloc ?_ (by first | omega | (simp; done) | (simp; omega)) _ | with_reducible refine Below.setCell ?_ (by first | omega | (simp; done) | (simp; omega)) _))⟩
  · have HF : Hid (sameB r c xs r' c' ys = false) := Lib.hid (by unfold sameB sameT; simp [h1])
    have e1 : (r != r') = true := by simpa using h1
    clear h1
    go_enter Try.func33, Try.ntmps33
    go_wp2_with fail
    go_quiet (fail)
    go_wp2_with fail
    go_ret
    exact ⟨by rw [HF.out]; first | rfl | (simp; done), (by repeat (first | with_reducible exact Below.refl _ _ | with_reducible exact HBL | with_reducible refine Below.drew ?_ | with_reducible refine Bel_drewN ?_ _ | with_reducible refine Below.alloc ?_ (by first | omega | (simp; done) | (simp; omega)) _ | with_reducible refine Below.setCell ?_ (by first | omega | (simp; done) | (simp; omega)) _))⟩
set_option maxRecDepth 100000 in
set_option maxHeartbeats 1000000 in
theorem sameOrder_any (xs ys : List Int) (ao bo : Option Addr) (ca cb : Nat) (w : World) (hx : Holds w ao (il xs)) (hy : Holds w bo (il ys)) (hl : xs.length ≤ 1048576) (hl2 : ys.length ≤ 1048576) :
    Calls Try.prog 34 #[.slice ao xs.length ca, .slice bo ys.length cb] w (RetB (.bool (decide (xs = ys))) w) := by
  have HX := Lib.hid (And.intro hx hy)
  clear hx hy
  by_cases h3 : xs.length = ys.length
  · obtain ⟨m, hm⟩ : ∃ m, ys.length = m := ⟨_, rfl⟩
    have H3 : Hid (ys.length = xs.length) := Lib.hid h3.symm
    have e3 : ((xs.length : Int) != (ys.length : Int)) = false := by simp; omega
    clear hm
    rw [← h3] at e3 ⊢
    clear h3
    go_enter Try.func34, Try.ntmps34
    go_wp2_with fail
    go_loopw [5] (fun i wr => ∃ k : Nat, k ≤ xs.length ∧ i = .int .i64 k ∧ (∀ j : Nat, j < k → xs[j]?.getD 0 = ys[j]?.getD 0) ∧ ∃ q, wr = w.drewN q) (fun i _ => xs.length - (intOf i).toNat)
    case atStart => exact ⟨0, Nat.zero_le _, rfl, fun j hj => absurd hj (Nat.not_lt_zero _), 0, rfl⟩
    case round =>
      obtain ⟨k, hk, rfl, hall, q, rfl⟩ := hrel
      have HA := Lib.hid hall
      clear hall
      by_cases hlt : k < xs.length
      · obtain ⟨b, o, rfl, hc⟩ := HX.out.1 k (by rw [il_len]; omega)
        obtain ⟨b', o', rfl, hc'⟩ := HX.out.2 k (by rw [il_len]; have := H3.out; omega)
        rw [il_get _ _ hlt] at hc
        rw [il_get _ _ (by have := H3.out; omega)] at hc'
        have hlt' : (k : Int) < xs.length := by omega
        obtain ⟨x, hx⟩ : ∃ x, xs[k]?.getD 0 = x := ⟨_, rfl⟩
        obtain ⟨y, hy⟩ : ∃ y, ys[k]?.getD 0 = y := ⟨_, rfl⟩
        rw [hx] at hc
        rw [hy] at hc'
        have HE := Lib.hid (And.intro hx hy)
        clear hx hy
        by_cases hb : x = y
        · have HB := Lib.hid hb
          have hne : (x != y) = false := by simpa using hb
          clear hb
          go_wp2_with fail
          go_quiet (fail)
          go_wp2_with fail
          go_roundw
          case rel => exact ⟨k + 1, by omega, by go_num, fun j hj => (by
            by_cases e : j = k
            · subst e; rw [HE.out.1, HE.out.2]; exact HB.out
            · exact HA.out j (by omega)), _, rfl⟩
          case measure => simp [intOf]; omega
        · have HB : Hid (decide (xs = ys) = false) := Lib.hid (decide_eq_false (fun h => hb (by rw [← HE.out.1, ← HE.out.2, h])))
          have hne : (x != y) = true := by simpa using hb
          clear hb
          go_wp2_with fail
          go_quiet (fail)
          go_wp2_with fail
          go_ret
          exact ⟨by rw [HB.out]; rfl, (by repeat (first | with_reducible exact Below.refl _ _ | with_reducible exact HBL | with_reducible refine Below.drew ?_ | with_reducible refine Bel_drewN ?_ _ | with_reducible refine Below.alloc ?_ (by first | omega | (simp; done) | (simp; omega)) _ | with_reducible refine Below.setCell ?_ (by first | omega | (simp; done) | (simp; omega)) _))⟩
      · have HB : Hid (decide (xs = ys) = true) := Lib.hid (decide_eq_true (eq_of_at H3.out.symm (fun j hj => HA.out j (by omega))))
        go_wp2_with fail
        go_ret
        exact ⟨by rw [HB.out]; rfl, (by repeat (first | with_reducible exact Below.refl _ _ | with_reducible exact HBL | with_reducible refine Below.drew ?_ | with_reducible refine Bel_drewN ?_ _ | with_reducible refine Below.alloc ?_ (by first | omega | (simp; done) | (simp; omega)) _ | with_reducible refine Below.setCell ?_ (by first | omega | (simp; done) | (simp; omega)) _))⟩
  · have HB : Hid (decide (xs = ys) = false) := Lib.hid (decide_eq_false (fun h => h3 (by rw [h])))
    have e3 : ((xs.length : Int) != (ys.length : Int)) = true := by simp; omega
    clear h3
    go_enter Try.func34, Try.ntmps34
    go_wp2_with fail
    go_ret
    exact ⟨by rw [HB.out]; rfl, (by repeat (first | with_reducible exact Below.refl _ _ | with_reducible exact HBL | with_reducible refine Below.drew ?_ | with_reducible refine Bel_drewN ?_ _ | with_reducible refine Below.alloc ?_ (by first | omega | (simp; done) | (simp; omega)) _ | with_reducible refine Below.setCell ?_ (by first | omega | (simp; done) | (simp; omega)) _))⟩
def sameS (k l : Int) (a b c d : Nat) : Bool := decide (k = l ∧ a = c ∧ b = d)
theorem SameSeed_D (k l : Int) (a b c d : Nat) (v : Bool) (w : World) (hv : sameS k l a b c d = v) :
    Calls Try.prog 36 #[sd k a b, sd l c d] w (RetB (.bool v) w) := by
  subst hv
  go_enter Try.func36, Try.ntmps36
  go_wp2
  all_goals
    go_ret
    refine ⟨?_, (by repeat (first | with_reducible exact Below.refl _ _ | with_reducible exact HBL | with_reducible refine Below.drew ?_ | with_reducible refine Bel_drewN ?_ _ | with_reducible refine Below.alloc ?_ (by first | omega | (simp; done) | (simp; omega)) _ | with_reducible refine Below.setCell ?_ (by first | omega | (simp; done) | (simp; omega)) _))⟩
    simp_all [sameS]
    try omega
open Classical in
noncomputable def sameLB (xs us : List Nat) : Bool := decide (sameL xs us)
theorem sameLB_of {xs us : List Nat} {b : Bool} (h : b = true ↔ sameL xs us) : b = sameLB xs us := by
  unfold sameLB; rw [Bool.eq_iff_iff, h]; simp
noncomputable def sameDB (k : Int) (a b : Nat) (r c : Int) (xs ys : List Int) (zs : List Nat) (l : Int) (p q : Nat) (r2 c2 : Int) (us vs : List Int) (ts : List Nat) : Bool := ((sameS k l a b p q && sameB r c xs r2 c2 us) && decide (ys = vs)) && sameLB zs ts
set_option maxRecDepth 100000 in
set_option maxHeartbeats 4000000 in
theorem implSameDesk_any (k : Int) (a b : Nat) (r c : Int) (xs : List Int) (ax : Option Addr) (cx : Nat) (ys : List Int) (ay : Option Addr) (cy : Nat) (zs : List Nat) (az : Option Addr) (cz : Nat) (l : Int) (p q : Nat) (r2 c2 : Int) (us : List Int) (au : Option Addr) (cu : Nat) (vs : List Int) (bv : Option Addr) (cv : Nat) (ts : List Nat) (bt : Option Addr) (ct : Nat) (w : World) (h0 : Holds w ax (il xs)) (h1 : Holds w ay (il ys)) (h2 : Holds w az (fl .f32 zs)) (g0 : Holds w au (il us)) (g1 : Holds w bv (il vs)) (g2 : Holds w bt (fl .f32 ts)) (l0 : xs.length ≤ 1048576) (l1 : ys.length ≤ 1048576) (l2 : zs.length ≤ 1048576) (m0 : us.length ≤ 1048576) (m1 : vs.length ≤ 1048576) (m2 : ts.length ≤ 1048576) (wz : wfl zs) (wt : wfl ts) :
    Calls Try.prog 12 #[.agg #[.int .i64 k, .int .u64 (a : Int), .int .u64 (b : Int), .int .i64 r, .int .i64 c, .slice ax xs.length cx, .slice ay ys.length cy, .slice az zs.length cz], .agg #[.int .i64 l, .int .u64 (p : Int), .int .u64 (q : Int), .int .i64 r2, .int .i64 c2, .slice au us.length cu, .slice bv vs.length cv, .slice bt ts.length ct]] w (RetB (.bool (sameDB k a b r c xs ys zs l p q r2 c2 us vs ts)) w) := by
  have HX := Lib.hid (And.intro h0 (And.intro h1 h2))
  have HY := Lib.hid (And.intro g0 (And.intro g1 g2))
  have HWF := Lib.hid (And.intro wz wt)
  clear h0 h1 h2 g0 g1 g2 wz wt
  obtain ⟨v1, hv1⟩ : ∃ v, sameS k l a b p q = v := ⟨_, rfl⟩
  obtain ⟨v2, hv2⟩ : ∃ v, sameB r c xs r2 c2 us = v := ⟨_, rfl⟩
  obtain ⟨v3, hv3⟩ : ∃ v, decide (ys = vs) = v := ⟨_, rfl⟩
  obtain ⟨v4, hv4⟩ : ∃ v, sameLB zs ts = v := ⟨_, rfl⟩
  have HV : Hid (sameDB k a b r c xs ys zs l p q r2 c2 us vs ts = (((v1 && v2) && v3) && v4)) := Lib.hid (by unfold sameDB; rw [hv1, hv2, hv3, hv4])
  rw [HV.out]
  have HS := Lib.hid (And.intro hv1 (And.intro hv2 (And.intro hv3 hv4)))
  clear hv2 hv3 hv4
  have H0 : Hid (Whole ((w.alloc (.cells #[.int .i64 k, .int .u64 (a : Int), .int .u64 (b : Int), .int .i64 r, .int .i64 c, .slice ax xs.length cx, .slice ay ys.length cy, .slice az zs.length cz] 36)).alloc (.cells #[.int .i64 l, .int .u64 (p : Int), .int .u64 (q : Int), .int .i64 r2, .int .i64 c2, .slice au us.length cu, .slice bv vs.length cv, .slice bt ts.length ct] 36)) w.heap.size 36 #[.int .i64 k, .int .u64 (a : Int), .int .u64 (b : Int), .int .i64 r, .int .i64 c, .slice ax xs.length cx, .slice ay ys.length cy, .slice az zs.length cz] ∧ Whole ((w.alloc (.cells #[.int .i64 k, .int .u64 (a : Int), .int .u64 (b : Int), .int .i64 r, .int .i64 c, .slice ax xs.length cx, .slice ay ys.length cy, .slice az zs.length cz] 36)).alloc (.cells #[.int .i64 l, .int .u64 (p : Int), .int .u64 (q : Int), .int .i64 r2, .int .i64 c2, .slice au us.length cu, .slice bv vs.length cv, .slice bt ts.length ct] 36)) (w.heap.size + 1) 36 #[.int .i64 l, .int .u64 (p : Int), .int .u64 (q : Int), .int .i64 r2, .int .i64 c2, .slice au us.length cu, .slice bv vs.length cv, .slice bt ts.length ct] ∧ Below w.heap.size w ((w.alloc (.cells #[.int .i64 k, .int .u64 (a : Int), .int .u64 (b : Int), .int .i64 r, .int .i64 c, .slice ax xs.length cx, .slice ay ys.length cy, .slice az zs.length cz] 36)).alloc (.cells #[.int .i64 l, .int .u64 (p : Int), .int .u64 (q : Int), .int .i64 r2, .int .i64 c2, .slice au us.length cu, .slice bv vs.length cv, .slice bt ts.length ct] 36))) := Lib.hid ⟨(Whole.made _ _ _).alloc _, Whole.made2 _ _ _ _, (by repeat (first | with_reducible exact Below.refl _ _ | with_reducible exact HBL | with_reducible refine Below.drew ?_ | with_reducible refine Bel_drewN ?_ _ | with_reducible refine Below.alloc ?_ (by first | omega | (simp; done) | (simp; omega)) _ | with_reducible refine Below.setCell ?_ (by first | omega | (simp; done) | (simp; omega)) _))⟩
  go_enter Try.func12, Try.ntmps12
  clear hv1
  go_wp2_with (first | (go_at_call 36; fail))
  refine (SameSeed_D k l a b p q v1 _ HS.out.1).mono ?_
  rintro e w0 ⟨rfl, hb⟩
  have HK0 := Lib.hid (And.intro (H0.out.1.below hb) (And.intro (H0.out.2.1.below hb) (Bel_next H0.out.2.2 hb)))
  change Hid (_ ∧ _ ∧ _) at HK0
  clear hb
  obtain ⟨hca0, hfa0⟩ := HK0.out.1.facts
  obtain ⟨hcb0, hfb0⟩ := HK0.out.2.1.facts
  have hzg0 := HK0.out.2.1.lt
  cases v1 with
  | false =>
    go_wp2_with fail
    go_ret
    have HBL := HK0.out.2.2
    exact ⟨by simp, (by repeat (first | with_reducible exact Below.refl _ _ | with_reducible exact HBL | with_reducible refine Below.drew ?_ | with_reducible refine Bel_drewN ?_ _ | with_reducible refine Below.alloc ?_ (by first | omega | (simp; done) | (simp; omega)) _ | with_reducible refine Below.setCell ?_ (by first | omega | (simp; done) | (simp; omega)) _))⟩
  | true =>
    go_wp2_with (first | (go_at_call 37; fail))
    refine (HS.out.2.1 ▸ implSameTable_any r c r2 c2 xs us _ _ _ _ _ (HX.out.1.below HK0.out.2.2) (HY.out.1.below HK0.out.2.2) l0 m0).mono ?_
    rintro e w1 ⟨rfl, hb⟩
    have HK1 := Lib.hid (And.intro (HK0.out.1.below hb) (And.intro (HK0.out.2.1.below hb) (Bel_next HK0.out.2.2 hb)))
    change Hid (_ ∧ _ ∧ _) at HK1
    clear hb
    obtain ⟨hca1, hfa1⟩ := HK1.out.1.facts
    obtain ⟨hcb1, hfb1⟩ := HK1.out.2.1.facts
    have hzg1 := HK1.out.2.1.lt
    cases v2 with
    | false =>
      go_wp2_with fail
      go_ret
      have HBL := HK1.out.2.2
      exact ⟨by simp, (by repeat (first | with_reducible exact Below.refl _ _ | with_reducible exact HBL | with_reducible refine Below.drew ?_ | with_reducible refine Bel_drewN ?_ _ | with_reducible refine Below.alloc ?_ (by first | omega | (simp; done) | (simp; omega)) _ | with_reducible refine Below.setCell ?_ (by first | omega | (simp; done) | (simp; omega)) _))⟩
    | true =>
      go_wp2_with (first | (go_at_call 38; fail))
      refine (HS.out.2.2.1 ▸ equalI_any ys vs _ _ rfl rfl _ _ _ _ _ (HX.out.2.1.below HK1.out.2.2) (HY.out.2.1.below HK1.out.2.2) l1 m1).mono ?_
      rintro e w2 ⟨rfl, hb⟩
      have HK2 := Lib.hid (And.intro (HK1.out.1.below hb) (And.intro (HK1.out.2.1.below hb) (Bel_next HK1.out.2.2 hb)))
      change Hid (_ ∧ _ ∧ _) at HK2
      clear hb
      obtain ⟨hca2, hfa2⟩ := HK2.out.1.facts
      obtain ⟨hcb2, hfb2⟩ := HK2.out.2.1.facts
      have hzg2 := HK2.out.2.1.lt
      cases v3 with
      | false =>
        go_wp2_with fail
        go_ret
        have HBL := HK2.out.2.2
        exact ⟨by simp, (by repeat (first | with_reducible exact Below.refl _ _ | with_reducible exact HBL | with_reducible refine Below.drew ?_ | with_reducible refine Bel_drewN ?_ _ | with_reducible refine Below.alloc ?_ (by first | omega | (simp; done) | (simp; omega)) _ | with_reducible refine Below.setCell ?_ (by first | omega | (simp; done) | (simp; omega)) _))⟩
      | true =>
        go_wp2_with (first | (go_at_call 39; fail))
        refine (equalF_any zs ts _ _ _ _ _ (HX.out.2.2.below HK2.out.2.2) (HY.out.2.2.below HK2.out.2.2) l2 m2 HWF.out.1 HWF.out.2).mono ?_
        rintro e w' ⟨bb, rfl, hbb, rfl⟩
        obtain rfl : bb = v4 := (sameLB_of hbb).trans HS.out.2.2.2
        go_wp2_with fail
        go_ret
        have HBL := HK2.out.2.2
        exact ⟨by simp, (by repeat (first | with_reducible exact Below.refl _ _ | with_reducible exact HBL | with_reducible refine Below.drew ?_ | with_reducible refine Bel_drewN ?_ _ | with_reducible refine Below.alloc ?_ (by first | omega | (simp; done) | (simp; omega)) _ | with_reducible refine Below.setCell ?_ (by first | omega | (simp; done) | (simp; omega)) _))⟩
set_option maxRecDepth 100000 in
set_option maxHeartbeats 4000000 in
theorem specSameDesk_any (k : Int) (a b : Nat) (r c : Int) (xs : List Int) (ax : Option Addr) (cx : Nat) (ys : List Int) (ay : Option Addr) (cy : Nat) (zs : List Nat) (az : Option Addr) (cz : Nat) (l : Int) (p q : Nat) (r2 c2 : Int) (us : List Int) (au : Option Addr) (cu : Nat) (vs : List Int) (bv : Option Addr) (cv : Nat) (ts : List Nat) (bt : Option Addr) (ct : Nat) (w : World) (h0 : Holds w ax (il xs)) (h1 : Holds w ay (il ys)) (h2 : Holds w az (fl .f32 zs)) (g0 : Holds w au (il us)) (g1 : Holds w bv (il vs)) (g2 : Holds w bt (fl .f32 ts)) (l0 : xs.length ≤ 1048576) (l1 : ys.length ≤ 1048576) (l2 : zs.length ≤ 1048576) (m0 : us.length ≤ 1048576) (m1 : vs.length ≤ 1048576) (m2 : ts.length ≤ 1048576) (wz : wfl zs) (wt : wfl ts) :
    Calls Try.prog 11 #[.agg #[.int .i64 k, .int .u64 (a : Int), .int .u64 (b : Int), .int .i64 r, .int .i64 c, .slice ax xs.length cx, .slice ay ys.length cy, .slice az zs.length cz], .agg #[.int .i64 l, .int .u64 (p : Int), .int .u64 (q : Int), .int .i64 r2, .int .i64 c2, .slice au us.length cu, .slice bv vs.length cv, .slice bt ts.length ct]] w (RetB (.bool (sameDB k a b r c xs ys zs l p q r2 c2 us vs ts)) w) := by
  have HX := Lib.hid (And.intro h0 (And.intro h1 h2))
  have HY := Lib.hid (And.intro g0 (And.intro g1 g2))
  have HWF := Lib.hid (And.intro wz wt)
  clear h0 h1 h2 g0 g1 g2 wz wt
  obtain ⟨v1, hv1⟩ : ∃ v, sameS k l a b p q = v := ⟨_, rfl⟩
  obtain ⟨v2, hv2⟩ : ∃ v, sameB r c xs r2 c2 us = v := ⟨_, rfl⟩
  obtain ⟨v3, hv3⟩ : ∃ v, decide (ys = vs) = v := ⟨_, rfl⟩
  obtain ⟨v4, hv4⟩ : ∃ v, sameLB zs ts = v := ⟨_, rfl⟩
  have HV : Hid (sameDB k a b r c xs ys zs l p q r2 c2 us vs ts = (((v1 && v2) && v3) && v4)) := Lib.hid (by unfold sameDB; rw [hv1, hv2, hv3, hv4])
  rw [HV.out]
  have HS := Lib.hid (And.intro hv1 (And.intro hv2 (And.intro hv3 hv4)))
  clear hv2 hv3 hv4
  have H0 : Hid (Whole ((w.alloc (.cells #[.int .i64 k, .int .u64 (a : Int), .int .u64 (b : Int), .int .i64 r, .int .i64 c, .slice ax xs.length cx, .slice ay ys.length cy, .slice az zs.length cz] 36)).alloc (.cells #[.int .i64 l, .int .u64 (p : Int), .int .u64 (q : Int), .int .i64 r2, .int .i64 c2, .slice au us.length cu, .slice bv vs.length cv, .slice bt ts.length ct] 36)) w.heap.size 36 #[.int .i64 k, .int .u64 (a : Int), .int .u64 (b : Int), .int .i64 r, .int .i64 c, .slice ax xs.length cx, .slice ay ys.length cy, .slice az zs.length cz] ∧ Whole ((w.alloc (.cells #[.int .i64 k, .int .u64 (a : Int), .int .u64 (b : Int), .int .i64 r, .int .i64 c, .slice ax xs.length cx, .slice ay ys.length cy, .slice az zs.length cz] 36)).alloc (.cells #[.int .i64 l, .int .u64 (p : Int), .int .u64 (q : Int), .int .i64 r2, .int .i64 c2, .slice au us.length cu, .slice bv vs.length cv, .slice bt ts.length ct] 36)) (w.heap.size + 1) 36 #[.int .i64 l, .int .u64 (p : Int), .int .u64 (q : Int), .int .i64 r2, .int .i64 c2, .slice au us.length cu, .slice bv vs.length cv, .slice bt ts.length ct] ∧ Below w.heap.size w ((w.alloc (.cells #[.int .i64 k, .int .u64 (a : Int), .int .u64 (b : Int), .int .i64 r, .int .i64 c, .slice ax xs.length cx, .slice ay ys.length cy, .slice az zs.length cz] 36)).alloc (.cells #[.int .i64 l, .int .u64 (p : Int), .int .u64 (q : Int), .int .i64 r2, .int .i64 c2, .slice au us.length cu, .slice bv vs.length cv, .slice bt ts.length ct] 36))) := Lib.hid ⟨(Whole.made _ _ _).alloc _, Whole.made2 _ _ _ _, (by repeat (first | with_reducible exact Below.refl _ _ | with_reducible exact HBL | with_reducible refine Below.drew ?_ | with_reducible refine Bel_drewN ?_ _ | with_reducible refine Below.alloc ?_ (by first | omega | (simp; done) | (simp; omega)) _ | with_reducible refine Below.setCell ?_ (by first | omega | (simp; done) | (simp; omega)) _))⟩
  go_enter Try.func11, Try.ntmps11
  by_cases e1 : k = l
  · by_cases e2 : a = p
    · by_cases e3 : b = q
      · subst e1; subst e2; subst e3
        obtain rfl : v1 = true := by rw [← hv1]; unfold sameS; simp
        clear hv1
        have hcA := H0.out.1.facts.1
        have hcB := H0.out.2.1.facts.1
        go_wp2_with (first | (go_at_call 33; fail))
        refine (HS.out.2.1 ▸ l06SameD_any r c r2 c2 xs us _ _ _ _ _ _ _ _ _ _ _ _ _ _ _ _ _ _ H0.out.1 H0.out.2.1 (HX.out.1.below H0.out.2.2) (HY.out.1.below H0.out.2.2) l0 m0).mono ?_
        rintro e w0 ⟨rfl, hb⟩
        have HK0 := Lib.hid (And.intro (H0.out.1.below hb) (And.intro (H0.out.2.1.below hb) (Bel_next H0.out.2.2 hb)))
        change Hid (_ ∧ _ ∧ _) at HK0
        clear hb hcA hcB
        have hcA := HK0.out.1.facts.1
        have hcB := HK0.out.2.1.facts.1
        have hzg0 := HK0.out.2.1.lt
        cases v2 with
        | false =>
          go_wp2_with fail
          go_ret
          have HBL := HK0.out.2.2
          exact ⟨by simp, (by repeat (first | with_reducible exact Below.refl _ _ | with_reducible exact HBL | with_reducible refine Below.drew ?_ | with_reducible refine Bel_drewN ?_ _ | with_reducible refine Below.alloc ?_ (by first | omega | (simp; done) | (simp; omega)) _ | with_reducible refine Below.setCell ?_ (by first | omega | (simp; done) | (simp; omega)) _))⟩
        | true =>
          go_wp2_with (first | (go_at_call 34; fail))
          refine (HS.out.2.2.1 ▸ sameOrder_any ys vs _ _ _ _ _ (HX.out.2.1.below HK0.out.2.2) (HY.out.2.1.below HK0.out.2.2) l1 m1).mono ?_
          rintro e w1 ⟨rfl, hb⟩
          have HK1 := Lib.hid (And.intro (HK0.out.1.below hb) (And.intro (HK0.out.2.1.below hb) (Bel_next HK0.out.2.2 hb)))
          change Hid (_ ∧ _ ∧ _) at HK1
          clear hb hcA hcB
          have hcA := HK1.out.1.facts.1
          have hcB := HK1.out.2.1.facts.1
          have hzg1 := HK1.out.2.1.lt
          cases v3 with
          | false =>
            go_wp2_with fail
            go_ret
            have HBL := HK1.out.2.2
            exact ⟨by simp, (by repeat (first | with_reducible exact Below.refl _ _ | with_reducible exact HBL | with_reducible refine Below.drew ?_ | with_reducible refine Bel_drewN ?_ _ | with_reducible refine Below.alloc ?_ (by first | omega | (simp; done) | (simp; omega)) _ | with_reducible refine Below.setCell ?_ (by first | omega | (simp; done) | (simp; omega)) _))⟩
          | true =>
            go_wp2_with (first | (go_at_call 35; fail))
            refine (l01SameAll_any zs ts _ _ _ _ _ (HX.out.2.2.below HK1.out.2.2) (HY.out.2.2.below HK1.out.2.2) l2 m2 HWF.out.1 HWF.out.2).mono ?_
            rintro e w' ⟨bb, q', rfl, hbb, rfl⟩
            obtain rfl : bb = v4 := (sameLB_of hbb).trans HS.out.2.2.2
            go_wp2_with fail
            go_ret
            have HBL := HK1.out.2.2
            exact ⟨by simp, (by repeat (first | with_reducible exact Below.refl _ _ | with_reducible exact HBL | with_reducible refine Below.drew ?_ | with_reducible refine Bel_drewN ?_ _ | with_reducible refine Below.alloc ?_ (by first | omega | (simp; done) | (simp; omega)) _ | with_reducible refine Below.setCell ?_ (by first | omega | (simp; done) | (simp; omega)) _))⟩
      · obtain rfl : v1 = false := by rw [← hv1]; unfold sameS; simp [e3]
        clear hv1 HV
        go_wp2_with fail
        all_goals
          go_ret
          have HBL := H0.out.2.2
          exact ⟨by simp, (by repeat (first | with_reducible exact Below.refl _ _ | with_reducible exact HBL | with_reducible refine Below.drew ?_ | with_reducible refine Bel_drewN ?_ _ | with_reducible refine Below.alloc ?_ (by first | omega | (simp; done) | (simp; omega)) _ | with_reducible refine Below.setCell ?_ (by first | omega | (simp; done) | (simp; omega)) _))⟩
    · obtain rfl : v1 = false := by rw [← hv1]; unfold sameS; simp [e2]
      clear hv1 HV
      go_wp2_with fail
      all_goals
        go_ret
        have HBL := H0.out.2.2
        exact ⟨by simp, (by repeat (first | with_reducible exact Below.refl _ _ | with_reducible exact HBL | with_reducible refine Below.drew ?_ | with_reducible refine Bel_drewN ?_ _ | with_reducible refine Below.alloc ?_ (by first | omega | (simp; done) | (simp; omega)) _ | with_reducible refine Below.setCell ?_ (by first | omega | (simp; done) | (simp; omega)) _))⟩
  · obtain rfl : v1 = false := by rw [← hv1]; unfold sameS; simp [e1]
    clear hv1 HV
    go_wp2_with fail
    all_goals
      go_ret
      have HBL := H0.out.2.2
      exact ⟨by simp, (by repeat (first | with_reducible exact Below.refl _ _ | with_reducible exact HBL | with_reducible refine Below.drew ?_ | with_reducible refine Bel_drewN ?_ _ | with_reducible refine Below.alloc ?_ (by first | omega | (simp; done) | (simp; omega)) _ | with_reducible refine Below.setCell ?_ (by first | omega | (simp; done) | (simp; omega)) _))⟩
end Go.Proofs.Ytekoahhdbafpmaa
