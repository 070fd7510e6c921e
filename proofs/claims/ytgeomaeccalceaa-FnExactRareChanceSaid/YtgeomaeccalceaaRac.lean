/- Rare chances: what can be told, both sides. -/
import Derived.Test.YtgeomaeccalceaaRas
namespace Go.Proofs.Ytgeomaeccalceaa
open Go Go.RowKit Fl Vag
set_option linter.unusedVariables false

/-- The level before, or the state from which one begins. -/
def pvL (f : Int) (lv : List Int) : Nat → Int
  | 0 => f
  | j + 1 => lv[j]?.getD 0
def levOk (s f : Int) (lv : List Int) : Prop := ∀ j, j < lv.length → pvL f lv j < lv[j]?.getD 0 ∧ lv[j]?.getD 0 < s
/-- A rare chance can be told. -/
def canR (s : Int) (ss : List Nat) (f : Int) (lv : List Int) (q : Int) : Prop := isState s ss f ∧ (1 ≤ lv.length ∧ lv.length ≤ 8) ∧ levOk s f lv ∧ 1 ≤ q ∧ q ≤ 64
set_option maxRecDepth 100000 in
set_option maxHeartbeats 4000000 in
theorem canBeRare_any (s f q : Int) (ss : List Nat) (lv : List Int) (m c cl : Nat) (ao lo : Option Addr) (w : World) (hm : ss.length = m) (hc : m ≤ c) (hlen : m ≤ 1048576) (hx : Holds w ao (fl .f32 ss)) (hl : Holds w lo (il lv)) (hll : lv.length ≤ 1048576) :
    Calls Try.prog 81 #[.agg #[.int .i64 s, .slice ao m c], .int .i64 f, .slice lo lv.length cl, .int .i64 q] w (Bo (canR s ss f lv q) w) := by
  have HX := Lib.hid (And.intro hx (And.intro hl (And.intro hm hc)))
  have H0 : Hid (Whole (w.alloc (.cells #[.int .i64 s, .slice ao m c] 34)) w.heap.size 34 #[.int .i64 s, .slice ao m c] ∧ Below w.heap.size w (w.alloc (.cells #[.int .i64 s, .slice ao m c] 34))) := Lib.hid ⟨Whole.made _ _ _, (by repeat (first | with_reducible exact Below.refl _ _ | with_reducible exact HBL | with_reducible refine Below.drew ?_ | with_reducible refine Bel_drewN ?_ _ | with_reducible refine Below.alloc ?_ (by first | omega | (simp; done) | (simp; omega)) _ | with_reducible refine Below.setCell ?_ (by first | omega | (simp; done) | (simp; omega)) _))⟩
  clear hx hl hm hc
  go_enter Try.func81, Try.ntmps81
  go_wp2_with (first | (go_at_call 68; fail))
  refine (implValidChain_any _ ss m HX.out.2.2.1 _ c _ (HX.out.1.below H0.out.2) hlen HX.out.2.2.2).mono ?_
  rintro e w1 ⟨bb, rfl, hbb, hb⟩
  have H1 := Lib.hid (And.intro (H0.out.1.below hb) (And.intro (Bel_next H0.out.2 hb) hbb))
  change Hid (_ ∧ _ ∧ _) at H1
  clear hb hbb H0
  obtain ⟨hc1, hf1⟩ := H1.out.1.facts
  have hz := H1.out.1.lt
  cases bb with
  | false =>
    go_wp2_with fail
    go_ret
    exact Bo.mk _ (falseIs fun h => by have := H1.out.2.2.2 h.1.1; cases this) H1.out.2.1
  | true =>
    obtain ⟨vh, hvh⟩ : ∃ v, decide (0 ≤ f ∧ f < s) = v := ⟨_, rfl⟩
    go_wp2_with (first | (go_at_call 69; fail))
    refine (has_any _ _ _ _ _ _ _ hvh).mono ?_
    rintro e w2 ⟨rfl, hb⟩
    have H2 := Lib.hid (And.intro (H1.out.1.below hb) (And.intro (Bel_next H1.out.2.1 hb) hvh))
    change Hid (_ ∧ _ ∧ _) at H2
    have HV := Lib.hid (H1.out.2.2.1 (by first | rfl | trivial))
    clear hb hvh hc1 hf1 hz
    obtain ⟨hc1, hf1⟩ := H2.out.1.facts
    have hz := H2.out.1.lt
    cases vh with
    | false =>
      go_wp2_with fail
      go_ret
      exact Bo.mk _ (falseIs fun h => of_decide_eq_false H2.out.2.2 ⟨h.1.2.1, h.1.2.2⟩) H2.out.2.1
    | true =>
      have HST : Hid (isState s ss f) := Lib.hid ⟨HV.out, of_decide_eq_true H2.out.2.2⟩
      have hf0 : 0 ≤ f := HST.out.2.1
      by_cases hl1 : lv.length < 1
      · have hl1' : (lv.length : Int) < 1 := by omega
        go_wp2_with fail
        go_ret
        exact Bo.mk _ (falseIs fun h => by have := h.2.1.1; omega) H2.out.2.1
      · have hl1' : (1 : Int) ≤ (lv.length : Int) := by omega
        by_cases hl8 : 8 < lv.length
        · have hl8' : (8 : Int) < (lv.length : Int) := by omega
          go_wp2_with fail
          go_ret
          exact Bo.mk _ (falseIs fun h => by have := h.2.1.2; omega) H2.out.2.1
        · have hl8' : (lv.length : Int) ≤ 8 := by omega
          clear hl1 hl8
          go_wp2_with fail
          go_loopw [9, 34] (fun v i wr => ∃ j : Nat, j ≤ lv.length ∧ i = .int .i64 j ∧ v = .int .i64 (pvL f lv j) ∧ 0 ≤ pvL f lv j ∧ (∀ i, i < j → pvL f lv i < lv[i]?.getD 0 ∧ lv[i]?.getD 0 < s) ∧ Whole wr w.heap.size 34 #[.int .i64 s, .slice ao m c] ∧ Below w.heap.size w wr) (fun _ i _ => lv.length - (intOf i).toNat)
          case atStart => exact ⟨0, Nat.zero_le _, rfl, rfl, hf0, fun i hi => absurd hi (Nat.not_lt_zero _), H2.out.1, H2.out.2.1⟩
          case round =>
            obtain ⟨j, hj, rfl, rfl, hp, hall, q0, hbel⟩ := hrel
            have H := Lib.hid (And.intro q0 (And.intro hbel hall))
            change Hid (_ ∧ _ ∧ _) at H
            have hjn : (j : Int) ≤ lv.length := by omega
            clear hc1 hf1 hz
            obtain ⟨hc1, hf1⟩ := q0.facts
            have hz := q0.lt
            clear q0 hbel hall
            by_cases hlt : j < lv.length
            · have hlt' : (j : Int) < lv.length := by omega
              obtain ⟨bb, oo, rfl, hcl⟩ := (HX.out.2.1.below H.out.2.1) j (by rw [il_len]; exact hlt)
              rw [il_get _ _ hlt] at hcl
              obtain ⟨x, hx⟩ : ∃ x, lv[j]?.getD 0 = x := ⟨_, rfl⟩
              rw [hx] at hcl
              have HE : Hid (lv[j]?.getD 0 = x ∧ pvL f lv (j + 1) = x) := Lib.hid ⟨hx, hx⟩
              obtain ⟨p, hpp⟩ : ∃ p, pvL f lv j = p := ⟨_, rfl⟩
              rw [hpp] at hp ⊢
              have HPP := Lib.hid hpp
              clear hx hpp
              by_cases hle : x ≤ p
              · go_wp2_with fail
                go_ret
                exact Bo.mk _ (falseIs fun h => by have := (h.2.2.1 j hlt).1; rw [HE.out.1, HPP.out] at this; omega) H.out.2.1
              · have hgt : p < x := by omega
                obtain ⟨vx, hvx⟩ : ∃ v, decide (0 ≤ x ∧ x < s) = v := ⟨_, rfl⟩
                have HVX : Hid (vx = true ↔ x < s) := Lib.hid (by rw [← hvx]; simp; omega)
                clear hle
                go_wp2_with (first | (go_at_call 69; fail))
                refine (has_any _ _ _ _ _ _ _ hvx).mono ?_
                rintro e w3 ⟨rfl, hb⟩
                have H3 := Lib.hid (And.intro (H.out.1.below hb) (And.intro (Bel_next H.out.2.1 hb) H.out.2.2))
                change Hid (_ ∧ _ ∧ _) at H3
                clear hb hvx hc1 hf1 hz H
                cases vx with
                | false =>
                  go_wp2_with fail
                  go_ret
                  exact Bo.mk _ (falseIs fun h => by have := HVX.out.2 (by have := (h.2.2.1 j hlt).2; rw [HE.out.1] at this; exact this); cases this) H3.out.2.1
                | true =>
                  go_wp2_with fail
                  go_roundw
                  case rel =>
                    refine ⟨j + 1, by omega, by go_num, by rw [HE.out.2], by rw [HE.out.2]; omega, fun i hi => ?_, H3.out.1, H3.out.2.1⟩
                    by_cases e : i = j
                    · subst e; rw [HE.out.1, HPP.out]; exact ⟨hgt, HVX.out.1 (by first | rfl | trivial)⟩
                    · exact H3.out.2.2 i (by omega)
                  case measure => simp [intOf]; omega
            · obtain rfl : j = lv.length := by omega
              have HL : Hid (levOk s f lv) := Lib.hid H.out.2.2
              by_cases hq1 : 1 ≤ q
              · have HD : Hid (decide (q ≤ 64) = true ↔ canR s ss f lv q) := Lib.hid (by simp only [decide_eq_true_eq]; exact ⟨fun h => ⟨HST.out, ⟨by omega, by omega⟩, HL.out, hq1, h⟩, fun h => h.2.2.2.2⟩)
                go_wp2_with fail
                go_ret
                exact Bo.mk _ HD.out H.out.2.1
              · have hq1' : q < 1 := by omega
                have hq1'' : decide (1 ≤ q) = false := decide_eq_false hq1
                go_wp2_with fail
                go_ret
                exact Bo.mk _ (falseIs fun h => by have := h.2.2.2.1; omega) H.out.2.1
set_option maxRecDepth 100000 in
set_option maxHeartbeats 4000000 in
theorem l07Levels_any (s f : Int) (lv : List Int) (m c cl g : Nat) (ao lo : Option Addr) (w : World) (hw : Whole w g 34 #[.int .i64 s, .slice ao m c]) (hl : Holds w lo (il lv)) (hll : lv.length ≤ 1048576) :
    Calls Try.prog 121 #[.pointer (some ⟨g, 0, none⟩), .int .i64 f, .slice lo lv.length cl] w (BoD ((1 ≤ lv.length ∧ lv.length ≤ 8) ∧ levOk s f lv) w) := by
  have HX := Lib.hid hl
  obtain ⟨hcg, hfg⟩ := hw.facts
  clear hl hw
  by_cases hl1 : lv.length < 1
  · have hl1' : (lv.length : Int) < 1 := by omega
    go_enter Try.func121, Try.ntmps121
    go_wp2_with fail
    go_ret
    exact BoD.mk (w := w) _ 0 (falseIs fun h => by have := h.1.1; omega)
  · have hl1' : (1 : Int) ≤ (lv.length : Int) := by omega
    by_cases hl8 : 8 < lv.length
    · have hl8' : (8 : Int) < (lv.length : Int) := by omega
      go_enter Try.func121, Try.ntmps121
      go_wp2_with fail
      go_ret
      exact BoD.mk (w := w) _ 0 (falseIs fun h => by have := h.1.2; omega)
    · have hl8' : (lv.length : Int) ≤ 8 := by omega
      clear hl1 hl8
      go_enter Try.func121, Try.ntmps121
      go_wp2_with fail
      go_loopw [7, 20] (fun v i wr => ∃ j : Nat, j ≤ lv.length ∧ i = .int .i64 j ∧ v = .int .i64 (pvL f lv j) ∧ (∀ i, i < j → pvL f lv i < lv[i]?.getD 0 ∧ lv[i]?.getD 0 < s) ∧ ∃ q, wr = w.drewN q) (fun _ i _ => lv.length - (intOf i).toNat)
      case atStart => exact ⟨0, Nat.zero_le _, rfl, rfl, fun i hi => absurd hi (Nat.not_lt_zero _), 0, rfl⟩
      case round =>
        obtain ⟨j, hj, rfl, rfl, hall, q, rfl⟩ := hrel
        have HA := Lib.hid hall
        have hjn : (j : Int) ≤ lv.length := by omega
        clear hall
        by_cases hlt : j < lv.length
        · have hlt' : (j : Int) < lv.length := by omega
          obtain ⟨bb, oo, rfl, hcl⟩ := HX.out j (by rw [il_len]; exact hlt)
          rw [il_get _ _ hlt] at hcl
          obtain ⟨x, hx⟩ : ∃ x, lv[j]?.getD 0 = x := ⟨_, rfl⟩
          rw [hx] at hcl
          have HE : Hid (lv[j]?.getD 0 = x ∧ pvL f lv (j + 1) = x) := Lib.hid ⟨hx, hx⟩
          obtain ⟨p, hpp⟩ : ∃ p, pvL f lv j = p := ⟨_, rfl⟩
          rw [hpp]
          have HPP := Lib.hid hpp
          clear hx hpp
          by_cases hle : x ≤ p
          · have e1 : decide (x ≤ p) = true := decide_eq_true hle
            go_wp2_with fail
            go_quiet (fail)
            go_wp2_with fail
            go_ret
            exact BoD.of _ (falseIs fun h => by have := (h.2 j hlt).1; rw [HE.out.1, HPP.out] at this; omega) ⟨_, by first | rfl | (rw [World.drewN_drewN])⟩
          · have e1 : decide (x ≤ p) = false := decide_eq_false hle
            by_cases hge : s ≤ x
            · have e2 : decide (s ≤ x) = true := decide_eq_true hge
              go_wp2_with fail
              go_quiet (fail)
              go_wp2_with fail
              go_ret
              exact BoD.of _ (falseIs fun h => by have := (h.2 j hlt).2; rw [HE.out.1] at this; omega) ⟨_, by first | rfl | (rw [World.drewN_drewN])⟩
            · have e2 : decide (s ≤ x) = false := decide_eq_false hge
              have HG := Lib.hid (And.intro hle hge)
              clear hle hge
              go_wp2_with fail
              go_quiet (fail)
              go_wp2_with fail
              go_roundw
              case rel =>
                refine ⟨j + 1, by omega, by go_num, by rw [HE.out.2], fun i hi => ?_, _, by first | rfl | (rw [World.drewN_drewN])⟩
                by_cases e : i = j
                · subst e; rw [HE.out.1, HPP.out]; have := HG.out; omega
                · exact HA.out i (by omega)
              case measure => simp [intOf]; omega
        · obtain rfl : j = lv.length := by omega
          go_wp2_with fail
          go_ret
          exact BoD.of _ ⟨fun _ => ⟨⟨by omega, by omega⟩, HA.out⟩, fun _ => rfl⟩ ⟨_, rfl⟩
set_option maxRecDepth 100000 in
set_option maxHeartbeats 4000000 in
theorem l07Can_any (k : Int) (a b : Nat) (s f q : Int) (ss : List Nat) (lv : List Int) (m c cl g h : Nat) (ao lo : Option Addr) (w : World) (hm : ss.length = m) (hlen : m ≤ 1048576) (hg : Whole w g 29 (sdC k a b)) (hw : Whole w h 34 #[.int .i64 s, .slice ao m c]) (hx : Holds w ao (fl .f32 ss)) (hl : Holds w lo (il lv)) (hll : lv.length ≤ 1048576) :
    Calls Try.prog 79 #[.pointer (some ⟨g, 0, none⟩), .pointer (some ⟨h, 0, none⟩), .int .i64 f, .slice lo lv.length cl, .int .i64 q] w (Bo (vSeed k a b = true ∧ canR s ss f lv q) w) := by
  have HX := Lib.hid (And.intro hx (And.intro hl (And.intro hw (And.intro hm hg))))
  obtain ⟨vs, hvs⟩ : ∃ v, vSeed k a b = v := ⟨_, rfl⟩
  have HV := Lib.hid hvs
  clear hx hl hw hm hg
  go_enter Try.func79, Try.ntmps79
  go_wp2_with (first | (go_at_call 62; fail))
  refine (l02Is_any _ _ _ _ _ HX.out.2.2.2.2).mono ?_
  rintro e w' ⟨rfl, rfl⟩
  rw [hvs]
  clear hvs
  cases vs with
  | false =>
    go_wp2_with fail
    go_ret
    exact Bo.mk _ (falseIs fun h => by have := h.1; rw [HV.out] at this; cases this) (by repeat (first | with_reducible exact Below.refl _ _ | with_reducible exact HBL | with_reducible refine Below.drew ?_ | with_reducible refine Bel_drewN ?_ _ | with_reducible refine Below.alloc ?_ (by first | omega | (simp; done) | (simp; omega)) _ | with_reducible refine Below.setCell ?_ (by first | omega | (simp; done) | (simp; omega)) _))
  | true =>
    go_wp2_with (first | (go_at_call 63; fail))
    refine (l07State_any _ _ ss m HX.out.2.2.2.1 _ c _ _ HX.out.2.2.1 HX.out.1 hlen).mono ?_
    rintro e w1 ⟨b1, rfl, hb1, hb⟩
    have H1 := Lib.hid (And.intro hb hb1)
    clear hb hb1
    cases b1 with
    | false =>
      go_wp2_with fail
      go_ret
      exact Bo.mk _ (falseIs fun h => by have := H1.out.2.2 h.2.1; cases this) H1.out.1
    | true =>
      go_wp2_with (first | (go_at_call 121; fail))
      refine (l07Levels_any s f lv m c cl h _ _ _ (HX.out.2.2.1.below H1.out.1) (HX.out.2.1.below H1.out.1) hll).mono ?_
      rintro e w2 ⟨b2, q2, rfl, hb2, rfl⟩
      have H2 := Lib.hid hb2
      clear hb2
      cases b2 with
      | false =>
        go_wp2_with fail
        go_ret
        exact Bo.mk _ (falseIs fun h => by have := H2.out.2 ⟨h.2.2.1, h.2.2.2.1⟩; cases this) (Bel_drewN H1.out.1 _)
      | true =>
        obtain ⟨v, hv⟩ : ∃ v, decide (1 ≤ q ∧ q ≤ 64) = v := ⟨_, rfl⟩
        have HW : Hid (v = true ↔ (vSeed k a b = true ∧ canR s ss f lv q)) := Lib.hid (by
          have h1 := H1.out.2.1 (by first | rfl | trivial)
          have h2 := H2.out.1 (by first | rfl | trivial)
          rw [← hv]; simp only [decide_eq_true_eq]
          exact ⟨fun h => ⟨HV.out, h1, h2.1, h2.2, h⟩, fun h => h.2.2.2.2⟩)
        go_wp2_with (first | (go_at_call 64; refine (l00In_vc _ _ _ _ hv _).mono ?_; rintro e w' ⟨rfl, rfl⟩))
        go_ret
        exact Bo.mk _ HW.out (Bel_drewN H1.out.1 _)
end Go.Proofs.Ytgeomaeccalceaa
