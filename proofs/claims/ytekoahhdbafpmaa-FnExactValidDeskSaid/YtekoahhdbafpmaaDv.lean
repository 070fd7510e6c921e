/- Desks that are valid, both sides. -/
import Derived.Test.YtekoahhdbafpmaaDk
import Derived.Test.YtekoahhdbafpmaaTab
import Derived.Test.YtekoahhdbafpmaaOr
import Derived.Test.YtekoahhdbafpmaaPm
namespace Go.Proofs.Ytekoahhdbafpmaa
open Go Go.RowKit Fl Vag
set_option linter.unusedVariables false

set_option maxRecDepth 100000 in
set_option maxHeartbeats 1000000 in
theorem l06IsD_any (r c : Int) (xs : List Int) (n : Nat) (hn : xs.length = n) (ao : Option Addr) (ca g : Nat) (T : TypeId) (k0 k1 k2 y0 z0 : Value) (w : World) (hW : Whole w g T #[k0, k1, k2, .int .i64 r, .int .i64 c, .slice ao n ca, y0, z0]) (hx : Holds w ao (il xs)) (hl : n ≤ 1048576) :
    Calls Try.prog 48 #[.pointer (some ⟨g, 3, none⟩)] w (RetB (.bool (tabB r c xs)) w) := by
  have HX := Lib.hid (And.intro hx (And.intro hW hn))
  obtain ⟨hc0, hf0⟩ := hW.facts
  clear hx hn hW
  by_cases hr : 2 ≤ r ∧ r ≤ 4
  · by_cases hc : 2 ≤ c ∧ c ≤ 4
    · obtain ⟨p, hp⟩ : ∃ p, r * c = p := ⟨_, rfl⟩
      have hp2 := mul_side hr hc
      rw [hp] at hp2
      obtain ⟨hp3, hp4⟩ := hp2
      have hwr : IntKind.i64.wrap (r * c) = p := by rw [hp, IntKind.wrap_i64]; omega
      have HP := Lib.hid (And.intro hr (And.intro hc hp))
      have HV1 := Lib.hid (decide_eq_true hr)
      have HV2 := Lib.hid (decide_eq_true hc)
      clear hr hc hp
      by_cases he : (n : Int) = p
      · have HE := Lib.hid he
        have he2 : ((n : Int) != p) = false := by simpa using he
        have hn16 : (n : Int) ≤ 16 := by omega
        clear he
        go_enter Try.func48, Try.ntmps48
        go_wp2_with fail
        go_quiet (first | (go_at_call 59; exact quiet_same' (l00In_v _ _ _ _ (by first | exact HV1.out | exact HV2.out) _)))
        clear hwr
        go_wp2_with fail
        refine (l06Total_any xs n HX.out.2.2 ao _ _ (HX.out.1.drewN _) (by omega)).mono ?_
        rintro e w1 ⟨hd, rfl⟩
        rcases hd with ⟨hcn, rfl⟩ | ⟨hcn, rfl⟩
        · have HC := Lib.hid (show cntOk xs xs.length by rw [HX.out.2.2]; exact hcn)
          have hs := (sumK_le (cntOk_abs HC.out) n)
          obtain ⟨s, hs2⟩ : ∃ s, sumK xs n = s := ⟨_, rfl⟩
          rw [hs2] at hs ⊢
          have HS := Lib.hid hs2
          clear hs2 hs hcn
          by_cases g1 : 1 ≤ s
          · by_cases g2 : s ≤ 60
            · have HF : Hid (tabB r c xs = true) := Lib.hid (tabB_yes ⟨HP.out.1, HP.out.2.1, by rw [HX.out.2.2, HP.out.2.2]; exact HE.out, HC.out, by rw [HX.out.2.2, HS.out]; exact ⟨g1, g2⟩⟩)
              rw [decide_eq_true g2]
              go_wp2_with fail
              go_ret
              exact ⟨by rw [HF.out]; first | rfl | (simp; omega), (by repeat (first | with_reducible exact Below.refl _ _ | with_reducible exact HBL | with_reducible refine Below.drew ?_ | with_reducible refine Bel_drewN ?_ _ | with_reducible refine Below.alloc ?_ (by first | omega | (simp; done) | (simp; omega)) _ | with_reducible refine Below.setCell ?_ (by first | omega | (simp; done) | (simp; omega)) _))⟩
            · have HF : Hid (tabB r c xs = false) := Lib.hid (tabB_no (fun h => by have := h.sum; rw [HX.out.2.2, HS.out] at this; omega))
              rw [decide_eq_false g2]
              go_wp2_with fail
              go_ret
              exact ⟨by rw [HF.out]; first | rfl | (simp; omega), (by repeat (first | with_reducible exact Below.refl _ _ | with_reducible exact HBL | with_reducible refine Below.drew ?_ | with_reducible refine Bel_drewN ?_ _ | with_reducible refine Below.alloc ?_ (by first | omega | (simp; done) | (simp; omega)) _ | with_reducible refine Below.setCell ?_ (by first | omega | (simp; done) | (simp; omega)) _))⟩
          · have HF : Hid (tabB r c xs = false) := Lib.hid (tabB_no (fun h => by have := h.sum; rw [HX.out.2.2, HS.out] at this; omega))
            rw [decide_eq_true (show s ≤ 60 by omega)]
            go_wp2_with fail
            go_ret
            exact ⟨by rw [HF.out]; first | rfl | (simp; omega), (by repeat (first | with_reducible exact Below.refl _ _ | with_reducible exact HBL | with_reducible refine Below.drew ?_ | with_reducible refine Bel_drewN ?_ _ | with_reducible refine Below.alloc ?_ (by first | omega | (simp; done) | (simp; omega)) _ | with_reducible refine Below.setCell ?_ (by first | omega | (simp; done) | (simp; omega)) _))⟩
        · have HF : Hid (tabB r c xs = false) := Lib.hid (tabB_no (fun h => hcn (by have := h.counts; rwa [HX.out.2.2] at this)))
          clear hcn
          go_wp2_with fail
          go_ret
          exact ⟨by rw [HF.out]; first | rfl | (simp; done), (by repeat (first | with_reducible exact Below.refl _ _ | with_reducible exact HBL | with_reducible refine Below.drew ?_ | with_reducible refine Bel_drewN ?_ _ | with_reducible refine Below.alloc ?_ (by first | omega | (simp; done) | (simp; omega)) _ | with_reducible refine Below.setCell ?_ (by first | omega | (simp; done) | (simp; omega)) _))⟩
      · have HF : Hid (tabB r c xs = false) := Lib.hid (tabB_no (fun h => he (by rw [← HX.out.2.2, h.len, HP.out.2.2])))
        have he2 : ((n : Int) != p) = true := by simpa using he
        clear he
        go_enter Try.func48, Try.ntmps48
        go_wp2_with fail
        go_quiet (first | (go_at_call 59; exact quiet_same' (l00In_v _ _ _ _ (by first | exact HV1.out | exact HV2.out) _)))
        clear hwr
        go_wp2_with fail
        go_ret
        exact ⟨by rw [HF.out]; first | rfl | (simp; done), (by repeat (first | with_reducible exact Below.refl _ _ | with_reducible exact HBL | with_reducible refine Below.drew ?_ | with_reducible refine Bel_drewN ?_ _ | with_reducible refine Below.alloc ?_ (by first | omega | (simp; done) | (simp; omega)) _ | with_reducible refine Below.setCell ?_ (by first | omega | (simp; done) | (simp; omega)) _))⟩
    · have HF : Hid (tabB r c xs = false) := Lib.hid (tabB_no (fun h => hc h.columns))
      have HV1 := Lib.hid (decide_eq_true hr)
      have HV2 := Lib.hid (decide_eq_false hc)
      clear hr hc
      go_enter Try.func48, Try.ntmps48
      go_wp2_with fail
      go_quiet (first | (go_at_call 59; exact quiet_same' (l00In_v _ _ _ _ (by first | exact HV1.out | exact HV2.out) _)))
      go_wp2_with fail
      go_ret
      exact ⟨by rw [HF.out]; first | rfl | (simp; done), (by repeat (first | with_reducible exact Below.refl _ _ | with_reducible exact HBL | with_reducible refine Below.drew ?_ | with_reducible refine Bel_drewN ?_ _ | with_reducible refine Below.alloc ?_ (by first | omega | (simp; done) | (simp; omega)) _ | with_reducible refine Below.setCell ?_ (by first | omega | (simp; done) | (simp; omega)) _))⟩
  · have HF : Hid (tabB r c xs = false) := Lib.hid (tabB_no (fun h => hr h.rows))
    have HV1 := Lib.hid (decide_eq_false hr)
    have HV2 := HV1
    clear hr
    go_enter Try.func48, Try.ntmps48
    go_wp2_with fail
    go_quiet (first | (go_at_call 59; exact quiet_same' (l00In_v _ _ _ _ (by first | exact HV1.out | exact HV2.out) _)))
    go_wp2_with fail
    go_ret
    exact ⟨by rw [HF.out]; first | rfl | (simp; done), (by repeat (first | with_reducible exact Below.refl _ _ | with_reducible exact HBL | with_reducible refine Below.drew ?_ | with_reducible refine Bel_drewN ?_ _ | with_reducible refine Below.alloc ?_ (by first | omega | (simp; done) | (simp; omega)) _ | with_reducible refine Below.setCell ?_ (by first | omega | (simp; done) | (simp; omega)) _))⟩
noncomputable def deskB (k : Int) (a b : Nat) (r c : Int) (xs ys : List Int) (zs : List Nat) : Bool := ((vSeed k a b && tabB r c xs) && ordB ys) && manyB zs
theorem ValidSeed_D (k : Int) (a b : Nat) (v : Bool) (w : World) (hv : vSeed k a b = v) : Calls Try.prog 25 #[sd k a b] w (RetB (.bool v) w) :=
  (ValidSeed_any k a b w).mono fun e w' h => by
    obtain ⟨h1, h2⟩ := h
    subst h2
    exact ⟨by rw [h1, hv], (by repeat (first | with_reducible exact Below.refl _ _ | with_reducible exact HBL | with_reducible refine Below.drew ?_ | with_reducible refine Bel_drewN ?_ _ | with_reducible refine Below.alloc ?_ (by first | omega | (simp; done) | (simp; omega)) _ | with_reducible refine Below.setCell ?_ (by first | omega | (simp; done) | (simp; omega)) _))⟩
theorem l02IsD_any (g : Nat) (k : Int) (a b : Nat) (v : Bool) (w : World) (hv : vSeed k a b = v) (c0 : w.cell? ⟨g, 0, none⟩ = some (.int .i64 k)) (c1 : w.cell? ⟨g, 1, none⟩ = some (.int .u64 a)) (c2 : w.cell? ⟨g, 2, none⟩ = some (.int .u64 b)) :
    Calls Try.prog 47 #[.pointer (some ⟨g, 0, none⟩)] w (fun e w' => e = .returned (.bool v) ∧ w = w') := by
  subst hv
  go_enter Try.func47, Try.ntmps47
  go_wp2
  all_goals
    go_ret
    refine ⟨?_, rfl⟩
    simp_all [vSeed]
    try (rw [Bool.eq_iff_iff]; simp <;> omega)
set_option maxRecDepth 100000 in
set_option maxHeartbeats 2000000 in
theorem implValidDesk_any (k : Int) (a b : Nat) (r c : Int) (xs : List Int) (ax : Option Addr) (cx : Nat) (ys : List Int) (ay : Option Addr) (cy : Nat) (zs : List Nat) (az : Option Addr) (cz : Nat) (w : World) (h0 : Holds w ax (il xs)) (h1 : Holds w ay (il ys)) (h2 : Holds w az (fl .f32 zs)) (l0 : xs.length ≤ 1048576) (l1 : ys.length ≤ 1048576) (l2 : zs.length ≤ 1048576) :
    Calls Try.prog 9 #[.agg #[.int .i64 k, .int .u64 (a : Int), .int .u64 (b : Int), .int .i64 r, .int .i64 c, .slice ax xs.length cx, .slice ay ys.length cy, .slice az zs.length cz]] w (RetB (.bool (deskB k a b r c xs ys zs)) w) := by
  have HX := Lib.hid (And.intro h0 (And.intro h1 h2))
  clear h0 h1 h2
  have H0 : Hid (Whole (w.alloc (.cells #[.int .i64 k, .int .u64 (a : Int), .int .u64 (b : Int), .int .i64 r, .int .i64 c, .slice ax xs.length cx, .slice ay ys.length cy, .slice az zs.length cz] 36)) w.heap.size 36 #[.int .i64 k, .int .u64 (a : Int), .int .u64 (b : Int), .int .i64 r, .int .i64 c, .slice ax xs.length cx, .slice ay ys.length cy, .slice az zs.length cz] ∧ Below w.heap.size w (w.alloc (.cells #[.int .i64 k, .int .u64 (a : Int), .int .u64 (b : Int), .int .i64 r, .int .i64 c, .slice ax xs.length cx, .slice ay ys.length cy, .slice az zs.length cz] 36))) := Lib.hid ⟨Whole.made _ _ _, (by repeat (first | with_reducible exact Below.refl _ _ | with_reducible exact HBL | with_reducible refine Below.drew ?_ | with_reducible refine Bel_drewN ?_ _ | with_reducible refine Below.alloc ?_ (by first | omega | (simp; done) | (simp; omega)) _ | with_reducible refine Below.setCell ?_ (by first | omega | (simp; done) | (simp; omega)) _))⟩
  obtain ⟨v1, hv1⟩ : ∃ v, vSeed k a b = v := ⟨_, rfl⟩
  obtain ⟨v2, hv2⟩ : ∃ v, tabB r c xs = v := ⟨_, rfl⟩
  obtain ⟨v3, hv3⟩ : ∃ v, ordB ys = v := ⟨_, rfl⟩
  obtain ⟨v4, hv4⟩ : ∃ v, manyB zs = v := ⟨_, rfl⟩
  have HV : Hid (deskB k a b r c xs ys zs = (((v1 && v2) && v3) && v4)) := Lib.hid (by unfold deskB; rw [hv1, hv2, hv3, hv4])
  rw [HV.out]
  have HS := Lib.hid (And.intro hv1 (And.intro hv2 (And.intro hv3 hv4)))
  clear hv1 hv2 hv3 hv4
  go_enter Try.func9, Try.ntmps9
  go_wp2_with (first | (go_at_call 25; fail))
  refine (ValidSeed_D k a b v1 _ HS.out.1).mono ?_
  rintro e w0 ⟨rfl, hb⟩
  have HK0 := Lib.hid (And.intro (H0.out.1.below hb) (Bel_next H0.out.2 hb))
  clear hb
  obtain ⟨hcg, hfg⟩ := HK0.out.1.facts
  have hzg0 := HK0.out.1.lt
  cases v1 with
  | false =>
    go_wp2_with fail
    go_ret
    have HBL := HK0.out.2
    exact ⟨by simp, (by repeat (first | with_reducible exact Below.refl _ _ | with_reducible exact HBL | with_reducible refine Below.drew ?_ | with_reducible refine Bel_drewN ?_ _ | with_reducible refine Below.alloc ?_ (by first | omega | (simp; done) | (simp; omega)) _ | with_reducible refine Below.setCell ?_ (by first | omega | (simp; done) | (simp; omega)) _))⟩
  | true =>
    go_wp2_with (first | (go_at_call 26; fail))
    refine (HS.out.2.1 ▸ implValidTable_any r c xs _ rfl ax cx _ (HX.out.1.below HK0.out.2) l0).mono ?_
    rintro e w1 ⟨rfl, hb⟩
    have HK1 := Lib.hid (And.intro (HK0.out.1.below hb) (Bel_next HK0.out.2 hb))
    clear hb hcg hfg
    obtain ⟨hcg, hfg⟩ := HK1.out.1.facts
    have hzg1 := HK1.out.1.lt
    cases v2 with
    | false =>
      go_wp2_with fail
      go_ret
      have HBL := HK1.out.2
      exact ⟨by simp, (by repeat (first | with_reducible exact Below.refl _ _ | with_reducible exact HBL | with_reducible refine Below.drew ?_ | with_reducible refine Bel_drewN ?_ _ | with_reducible refine Below.alloc ?_ (by first | omega | (simp; done) | (simp; omega)) _ | with_reducible refine Below.setCell ?_ (by first | omega | (simp; done) | (simp; omega)) _))⟩
    | true =>
      go_wp2_with (first | (go_at_call 27; fail))
      refine (HS.out.2.2.1 ▸ implIsOrder_any ys ay cy _ (HX.out.2.1.below HK1.out.2) l1).mono ?_
      rintro e w2 ⟨rfl, hb⟩
      have HK2 := Lib.hid (And.intro (HK1.out.1.below hb) (Bel_next HK1.out.2 hb))
      clear hb hcg hfg
      obtain ⟨hcg, hfg⟩ := HK2.out.1.facts
      have hzg2 := HK2.out.1.lt
      cases v3 with
      | false =>
        go_wp2_with fail
        go_ret
        have HBL := HK2.out.2
        exact ⟨by simp, (by repeat (first | with_reducible exact Below.refl _ _ | with_reducible exact HBL | with_reducible refine Below.drew ?_ | with_reducible refine Bel_drewN ?_ _ | with_reducible refine Below.alloc ?_ (by first | omega | (simp; done) | (simp; omega)) _ | with_reducible refine Below.setCell ?_ (by first | omega | (simp; done) | (simp; omega)) _))⟩
      | true =>
        go_wp2_with (first | (go_at_call 28; fail))
        refine (HS.out.2.2.2 ▸ areManyShares_any zs az cz _ (HX.out.2.2.below HK2.out.2) l2).mono ?_
        rintro e w' ⟨rfl, rfl⟩
        go_wp2_with fail
        go_ret
        have HBL := HK2.out.2
        exact ⟨by simp, (by repeat (first | with_reducible exact Below.refl _ _ | with_reducible exact HBL | with_reducible refine Below.drew ?_ | with_reducible refine Bel_drewN ?_ _ | with_reducible refine Below.alloc ?_ (by first | omega | (simp; done) | (simp; omega)) _ | with_reducible refine Below.setCell ?_ (by first | omega | (simp; done) | (simp; omega)) _))⟩
theorem l08List_any (zs : List Nat) (az : Option Addr) (cz : Nat) (w : World) (h : Holds w az (fl .f32 zs)) (hl : zs.length ≤ 1048576) :
    Calls Try.prog 50 #[.slice az zs.length cz] w (fun e w' => e = .returned (.bool (manyB zs)) ∧ w = w') := by
  have HX := Lib.hid h
  clear h
  go_enter Try.func50, Try.ntmps50
  go_wp2_with (first | (go_at_call 62; fail))
  refine (l06Shares_any zs az cz _ HX.out hl).mono ?_
  rintro e w' ⟨rfl, rfl⟩
  go_wp2_with fail
  go_ret
  exact ⟨rfl, rfl⟩
set_option maxRecDepth 100000 in
set_option maxHeartbeats 2000000 in
theorem l08Is_any (k : Int) (a b : Nat) (r c : Int) (xs : List Int) (ax : Option Addr) (cx : Nat) (ys : List Int) (ay : Option Addr) (cy : Nat) (zs : List Nat) (az : Option Addr) (cz : Nat) (g : Nat) (w : World) (hW : Whole w g 36 #[.int .i64 k, .int .u64 (a : Int), .int .u64 (b : Int), .int .i64 r, .int .i64 c, .slice ax xs.length cx, .slice ay ys.length cy, .slice az zs.length cz]) (h0 : Holds w ax (il xs)) (h1 : Holds w ay (il ys)) (h2 : Holds w az (fl .f32 zs)) (l0 : xs.length ≤ 1048576) (l1 : ys.length ≤ 1048576) (l2 : zs.length ≤ 1048576) :
    Calls Try.prog 20 #[.pointer (some ⟨g, 0, none⟩)] w (RetB (.bool (deskB k a b r c xs ys zs)) w) := by
  have HX := Lib.hid (And.intro h0 (And.intro h1 h2))
  clear h0 h1 h2
  have H0 : Hid (Whole w g 36 #[.int .i64 k, .int .u64 (a : Int), .int .u64 (b : Int), .int .i64 r, .int .i64 c, .slice ax xs.length cx, .slice ay ys.length cy, .slice az zs.length cz] ∧ Below w.heap.size w w) := Lib.hid ⟨hW, Below.refl _ _⟩
  have hcg := hW.facts.1
  have hfg := hW.facts.2
  clear hW
  obtain ⟨v1, hv1⟩ : ∃ v, vSeed k a b = v := ⟨_, rfl⟩
  obtain ⟨v2, hv2⟩ : ∃ v, tabB r c xs = v := ⟨_, rfl⟩
  obtain ⟨v3, hv3⟩ : ∃ v, ordB ys = v := ⟨_, rfl⟩
  obtain ⟨v4, hv4⟩ : ∃ v, manyB zs = v := ⟨_, rfl⟩
  have HV : Hid (deskB k a b r c xs ys zs = (((v1 && v2) && v3) && v4)) := Lib.hid (by unfold deskB; rw [hv1, hv2, hv3, hv4])
  rw [HV.out]
  have HS := Lib.hid (And.intro hv1 (And.intro hv2 (And.intro hv3 hv4)))
  clear hv1 hv2 hv3 hv4
  go_enter Try.func20, Try.ntmps20
  go_wp2_with (first | (go_at_call 47; fail))
  refine (l02IsD_any g k a b v1 _ HS.out.1 (H0.out.1.cell 0) (H0.out.1.cell 1) (H0.out.1.cell 2)).mono ?_
  rintro e w' ⟨rfl, rfl⟩
  cases v1 with
  | false =>
    go_wp2_with fail
    go_ret
    have HBL := H0.out.2
    exact ⟨by simp, (by repeat (first | with_reducible exact Below.refl _ _ | with_reducible exact HBL | with_reducible refine Below.drew ?_ | with_reducible refine Bel_drewN ?_ _ | with_reducible refine Below.alloc ?_ (by first | omega | (simp; done) | (simp; omega)) _ | with_reducible refine Below.setCell ?_ (by first | omega | (simp; done) | (simp; omega)) _))⟩
  | true =>
    go_wp2_with (first | (go_at_call 48; fail))
    refine (HS.out.2.1 ▸ l06IsD_any r c xs _ rfl ax cx g _ _ _ _ _ _ _ H0.out.1 (HX.out.1.below H0.out.2) l0).mono ?_
    rintro e w1 ⟨rfl, hb⟩
    have HK1 := Lib.hid (And.intro (H0.out.1.below hb) (Bel_next H0.out.2 hb))
    clear hb hcg hfg
    obtain ⟨hcg, hfg⟩ := HK1.out.1.facts
    have hzg1 := HK1.out.1.lt
    cases v2 with
    | false =>
      go_wp2_with fail
      go_ret
      have HBL := HK1.out.2
      exact ⟨by simp, (by repeat (first | with_reducible exact Below.refl _ _ | with_reducible exact HBL | with_reducible refine Below.drew ?_ | with_reducible refine Bel_drewN ?_ _ | with_reducible refine Below.alloc ?_ (by first | omega | (simp; done) | (simp; omega)) _ | with_reducible refine Below.setCell ?_ (by first | omega | (simp; done) | (simp; omega)) _))⟩
    | true =>
      go_wp2_with (first | (go_at_call 49; fail))
      refine (HS.out.2.2.1 ▸ l04Order_any ys ay cy _ (HX.out.2.1.below HK1.out.2) l1).mono ?_
      rintro e w2 ⟨rfl, hb⟩
      have HK2 := Lib.hid (And.intro (HK1.out.1.below hb) (Bel_next HK1.out.2 hb))
      clear hb hcg hfg
      obtain ⟨hcg, hfg⟩ := HK2.out.1.facts
      have hzg2 := HK2.out.1.lt
      cases v3 with
      | false =>
        go_wp2_with fail
        go_ret
        have HBL := HK2.out.2
        exact ⟨by simp, (by repeat (first | with_reducible exact Below.refl _ _ | with_reducible exact HBL | with_reducible refine Below.drew ?_ | with_reducible refine Bel_drewN ?_ _ | with_reducible refine Below.alloc ?_ (by first | omega | (simp; done) | (simp; omega)) _ | with_reducible refine Below.setCell ?_ (by first | omega | (simp; done) | (simp; omega)) _))⟩
      | true =>
        go_wp2_with (first | (go_at_call 50; fail) | (go_at_call 62; fail))
        refine (HS.out.2.2.2 ▸ l08List_any zs az cz _ (HX.out.2.2.below HK2.out.2) l2).mono ?_
        rintro e w' ⟨rfl, rfl⟩
        go_wp2_with fail
        go_ret
        have HBL := HK2.out.2
        exact ⟨by simp, (by repeat (first | with_reducible exact Below.refl _ _ | with_reducible exact HBL | with_reducible refine Below.drew ?_ | with_reducible refine Bel_drewN ?_ _ | with_reducible refine Below.alloc ?_ (by first | omega | (simp; done) | (simp; omega)) _ | with_reducible refine Below.setCell ?_ (by first | omega | (simp; done) | (simp; omega)) _))⟩
theorem specValidDesk_any (k : Int) (a b : Nat) (r c : Int) (xs : List Int) (ax : Option Addr) (cx : Nat) (ys : List Int) (ay : Option Addr) (cy : Nat) (zs : List Nat) (az : Option Addr) (cz : Nat) (w : World) (h0 : Holds w ax (il xs)) (h1 : Holds w ay (il ys)) (h2 : Holds w az (fl .f32 zs)) (l0 : xs.length ≤ 1048576) (l1 : ys.length ≤ 1048576) (l2 : zs.length ≤ 1048576) :
    Calls Try.prog 7 #[.agg #[.int .i64 k, .int .u64 (a : Int), .int .u64 (b : Int), .int .i64 r, .int .i64 c, .slice ax xs.length cx, .slice ay ys.length cy, .slice az zs.length cz]] w (RetB (.bool (deskB k a b r c xs ys zs)) w) := by
  have HX := Lib.hid (And.intro h0 (And.intro h1 h2))
  have H0 : Hid (Whole (w.alloc (.cells #[.int .i64 k, .int .u64 (a : Int), .int .u64 (b : Int), .int .i64 r, .int .i64 c, .slice ax xs.length cx, .slice ay ys.length cy, .slice az zs.length cz] 36)) w.heap.size 36 #[.int .i64 k, .int .u64 (a : Int), .int .u64 (b : Int), .int .i64 r, .int .i64 c, .slice ax xs.length cx, .slice ay ys.length cy, .slice az zs.length cz] ∧ Below w.heap.size w (w.alloc (.cells #[.int .i64 k, .int .u64 (a : Int), .int .u64 (b : Int), .int .i64 r, .int .i64 c, .slice ax xs.length cx, .slice ay ys.length cy, .slice az zs.length cz] 36))) := Lib.hid ⟨Whole.made _ _ _, (by repeat (first | with_reducible exact Below.refl _ _ | with_reducible exact HBL | with_reducible refine Below.drew ?_ | with_reducible refine Bel_drewN ?_ _ | with_reducible refine Below.alloc ?_ (by first | omega | (simp; done) | (simp; omega)) _ | with_reducible refine Below.setCell ?_ (by first | omega | (simp; done) | (simp; omega)) _))⟩
  clear h0 h1 h2
  go_enter Try.func7, Try.ntmps7
  go_wp2_with (first | (go_at_call 20; fail))
  refine (l08Is_any k a b r c xs ax cx ys ay cy zs az cz _ _ H0.out.1 (HX.out.1.below H0.out.2) (HX.out.2.1.below H0.out.2) (HX.out.2.2.below H0.out.2) l0 l1 l2).mono ?_
  rintro e w1 ⟨rfl, hb⟩
  have HBL := Bel_next H0.out.2 hb
  go_wp2_with fail
  go_ret
  exact ⟨rfl, (by repeat (first | with_reducible exact Below.refl _ _ | with_reducible exact HBL | with_reducible refine Below.drew ?_ | with_reducible refine Bel_drewN ?_ _ | with_reducible refine Below.alloc ?_ (by first | omega | (simp; done) | (simp; omega)) _ | with_reducible refine Below.setCell ?_ (by first | omega | (simp; done) | (simp; omega)) _))⟩
end Go.Proofs.Ytekoahhdbafpmaa
