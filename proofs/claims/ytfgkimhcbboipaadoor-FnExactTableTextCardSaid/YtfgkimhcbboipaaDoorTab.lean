/- Tables: both sides' test of them. -/
import Derived.Test.YtfgkimhcbboipaaDoorCat
import Derived.Test.YtfgkimhcbboipaaDoorIn0
import Derived.Deep.QuietTactic
import Derived.BigQuiet
namespace Go.Proofs.YtfgkimhcbboipaaDoor
open Go Go.RowKit
set_option linter.unusedVariables false

/-- All numbers lie between 0 and 60. -/
def cntOk (xs : List Int) (k : Nat) : Prop := ∀ i : Nat, i < k → 0 ≤ xs[i]?.getD 0 ∧ xs[i]?.getD 0 ≤ 60
structure isTab (r c : Int) (xs : List Int) : Prop where
  rows : 2 ≤ r ∧ r ≤ 4
  columns : 2 ≤ c ∧ c ≤ 4
  len : (xs.length : Int) = r * c
  counts : cntOk xs xs.length
  sum : 1 ≤ sumK xs xs.length ∧ sumK xs xs.length ≤ 60
open Classical in
noncomputable def tabB (r c : Int) (xs : List Int) : Bool := decide (isTab r c xs)
theorem tabB_yes {r c : Int} {xs : List Int} (h : isTab r c xs) : tabB r c xs = true := by unfold tabB; simpa using h
theorem tabB_no {r c : Int} {xs : List Int} (h : ¬isTab r c xs) : tabB r c xs = false := by unfold tabB; simpa using h
theorem cntOk_abs {xs : List Int} (h : cntOk xs xs.length) : absLe 60 xs := fun i => by
  by_cases hi : i < xs.length
  · have := h i hi; omega
  · rw [List.getElem?_eq_none (by omega)]; simp
theorem mul_side {r c : Int} (hr : 2 ≤ r ∧ r ≤ 4) (hc : 2 ≤ c ∧ c ≤ 4) : 4 ≤ r * c ∧ r * c ≤ 16 := by
  have h1 : r = 2 ∨ r = 3 ∨ r = 4 := by omega
  rcases h1 with rfl | rfl | rfl <;> omega
theorem isSide_any (n : Int) (w : World) : Calls Tryd.prog 123 #[.int .i64 n] w (fun e w' => e = .returned (.bool (decide (2 ≤ n ∧ n ≤ 4))) ∧ w = w') := by
  by_cases h0 : 2 ≤ n
  · have e : decide (2 ≤ n ∧ n ≤ 4) = decide (n ≤ 4) := by rw [Bool.eq_iff_iff]; simp; omega
    have E := Lib.hid e
    clear e
    go_enter Tryd.func123, Tryd.ntmps123
    go_wp2
    go_ret
    exact ⟨by first | rfl | (rw [E.out]; rfl), rfl⟩
  · have h1 : decide (2 ≤ n) = false := by simpa using h0
    have e : decide (2 ≤ n ∧ n ≤ 4) = false := by simp; omega
    have E := Lib.hid e
    clear e
    go_enter Tryd.func123, Tryd.ntmps123
    go_wp2
    go_ret
    exact ⟨by first | rfl | (rw [E.out]; rfl), rfl⟩
set_option maxRecDepth 100000 in
set_option maxHeartbeats 1000000 in
theorem implValidTable_any (r c : Int) (xs : List Int) (n : Nat) (hn : xs.length = n) (ao : Option Addr) (ca : Nat) (w : World) (hx : Holds w ao (il xs)) (hl : n ≤ 1048576) :
    Calls Tryd.prog 88 #[.agg #[.int .i64 r, .int .i64 c, .slice ao n ca]] w (RetB (.bool (tabB r c xs)) w) := by
  have HX := Lib.hid (And.intro hx hn)
  have HW := Lib.hid (Whole.made w 63 #[.int .i64 r, .int .i64 c, .slice ao n ca])
  have HB : Hid (Below w.heap.size w (w.alloc (.cells #[.int .i64 r, .int .i64 c, .slice ao n ca] 63))) := Lib.hid (by repeat (first | with_reducible exact Below.refl _ _ | with_reducible exact HBL | with_reducible refine Below.drew ?_ | with_reducible refine Bel_drewN ?_ _ | with_reducible refine Below.alloc ?_ (by first | omega | (simp; done) | (simp; omega)) _ | with_reducible refine Below.setCell ?_ (by first | omega | (simp; done) | (simp; omega)) _))
  clear hx hn
  by_cases hr : 2 ≤ r ∧ r ≤ 4
  · by_cases hc : 2 ≤ c ∧ c ≤ 4
    · obtain ⟨p, hp⟩ : ∃ p, r * c = p := ⟨_, rfl⟩
      have hp2 := mul_side hr hc
      rw [hp] at hp2
      obtain ⟨hp3, hp4⟩ := hp2
      have HP := Lib.hid (And.intro hr (And.intro hc hp))
      clear hr hc
      by_cases he : (n : Int) = p
      · have HE := Lib.hid he
        have he2 : ((n : Int) == p) = true := by simpa using he
        have hn16 : (n : Int) ≤ 16 := by omega
        clear he
        go_enter Tryd.func88, Tryd.ntmps88
        go_wp2_with (go_at_call 123; refine (isSide_any _ _).mono ?_; rintro e w1 ⟨rfl, rfl⟩; first | rw [decide_eq_true HP.out.1] | rw [decide_eq_true HP.out.2.1])
        go_loop [30] (fun i => ∃ k : Nat, k ≤ n ∧ i = .int .i64 k ∧ cntOk xs k) (fun i => n - (intOf i).toNat)
        case atStart => exact ⟨0, Nat.zero_le _, rfl, fun i hi => absurd hi (Nat.not_lt_zero _)⟩
        case round =>
          obtain ⟨k, hk, rfl, hcn⟩ := hrel
          have HC := Lib.hid hcn
          clear hcn
          by_cases hlt : k < n
          · obtain ⟨b', o, rfl, hc⟩ := (HX.out.1.below HB.out) k (by rw [il_len]; have := HX.out.2; omega)
            rw [il_get _ _ (by have := HX.out.2; omega)] at hc
            have hlt' : (k : Int) < n := by omega
            obtain ⟨x, hx⟩ : ∃ x, xs[k]?.getD 0 = x := ⟨_, rfl⟩
            rw [hx] at hc
            have HXX := Lib.hid hx
            clear hx
            by_cases h1 : x < 0
            · have HF : Hid (tabB r c xs = false) := Lib.hid (tabB_no (fun h => by have := h.counts k (by have := HX.out.2; omega); rw [HXX.out] at this; omega))
              go_wp2_with fail
              go_ret
              exact ⟨by rw [HF.out]; rfl, HB.out⟩
            · by_cases h2 : 60 < x
              · have HF : Hid (tabB r c xs = false) := Lib.hid (tabB_no (fun h => by have := h.counts k (by have := HX.out.2; omega); rw [HXX.out] at this; omega))
                go_wp2_with fail
                go_ret
                exact ⟨by rw [HF.out]; rfl, HB.out⟩
              · go_wp2_with fail
                go_round
                case rel => exact ⟨k + 1, by omega, by go_num, fun j hj => by
                  by_cases e : j = k
                  · subst e; rw [HXX.out]; omega
                  · exact HC.out j (by omega)⟩
                case measure => simp [intOf]; omega
          · have e : k = n := by omega
            subst e
            have hcx : cntOk xs xs.length := by rw [HX.out.2]; exact HC.out
            have HA := Lib.hid (cntOk_abs hcx)
            have HCX := Lib.hid hcx
            clear hcx
            go_wp2_with fail
            refine (sumOf_any xs 60 k HX.out.2 ao _ _ (HX.out.1.below HB.out) HA.out (by omega) (by omega)).mono ?_
            rintro e w1 ⟨rfl, rfl⟩
            have hs := sumK_le HA.out k
            obtain ⟨s, hs2⟩ : ∃ s, sumK xs k = s := ⟨_, rfl⟩
            rw [hs2] at hs ⊢
            have HS := Lib.hid hs2
            clear hs2 hs
            by_cases g1 : 1 ≤ s
            · by_cases g2 : s ≤ 60
              · have HF : Hid (tabB r c xs = true) := Lib.hid (tabB_yes ⟨HP.out.1, HP.out.2.1, by rw [HX.out.2, HP.out.2.2]; exact HE.out, HCX.out, by rw [HX.out.2, HS.out]; exact ⟨g1, g2⟩⟩)
                go_wp2_with fail
                go_ret
                exact ⟨by rw [HF.out]; first | rfl | (simp; omega), HB.out⟩
              · have HF : Hid (tabB r c xs = false) := Lib.hid (tabB_no (fun h => by have := h.sum; rw [HX.out.2, HS.out] at this; omega))
                go_wp2_with fail
                go_ret
                exact ⟨by rw [HF.out]; first | rfl | (simp; omega), HB.out⟩
            · have HF : Hid (tabB r c xs = false) := Lib.hid (tabB_no (fun h => by have := h.sum; rw [HX.out.2, HS.out] at this; omega))
              go_wp2_with fail
              go_ret
              exact ⟨by rw [HF.out]; first | rfl | (simp; omega), HB.out⟩
      · have HF : Hid (tabB r c xs = false) := Lib.hid (tabB_no (fun h => he (by rw [← HX.out.2, h.len, HP.out.2.2])))
        have he2 : ((n : Int) == p) = false := by simpa using he
        clear he
        go_enter Tryd.func88, Tryd.ntmps88
        go_wp2_with (go_at_call 123; refine (isSide_any _ _).mono ?_; rintro e w1 ⟨rfl, rfl⟩; first | rw [decide_eq_true HP.out.1] | rw [decide_eq_true HP.out.2.1])
        go_ret
        exact ⟨by rw [HF.out]; rfl, HB.out⟩
    · have HF : Hid (tabB r c xs = false) := Lib.hid (tabB_no (fun h => hc h.columns))
      have HP := Lib.hid (And.intro hr hc)
      clear hr hc
      go_enter Tryd.func88, Tryd.ntmps88
      go_wp2_with (go_at_call 123; refine (isSide_any _ _).mono ?_; rintro e w1 ⟨rfl, rfl⟩; first | rw [decide_eq_true HP.out.1] | rw [decide_eq_false HP.out.2])
      go_ret
      exact ⟨by rw [HF.out]; rfl, HB.out⟩
  · have HF : Hid (tabB r c xs = false) := Lib.hid (tabB_no (fun h => hr h.rows))
    have HP := Lib.hid hr
    clear hr
    go_enter Tryd.func88, Tryd.ntmps88
    go_wp2_with (go_at_call 123; refine (isSide_any _ _).mono ?_; rintro e w1 ⟨rfl, rfl⟩; rw [decide_eq_false HP.out])
    go_ret
    exact ⟨by rw [HF.out]; rfl, HB.out⟩
theorem l00In_v (n lo hi : Int) (v : Bool) (h : decide (lo ≤ n ∧ n ≤ hi) = v) (w : World) :
    Calls Tryd.prog 98 #[.int .i64 n, .int .i64 lo, .int .i64 hi] w (fun e w' => e = .returned (.bool v) ∧ w = w') := h ▸ l00In_any n lo hi w
/-- What the model's sum of counts tells. -/
def totR (xs : List Int) (n : Nat) (w : World) (e : Ending) (w' : World) : Prop :=
  ((cntOk xs n ∧ e = .returned (.tuple #[.int .i64 (sumK xs n), .bool (decide (sumK xs n ≤ 60))])) ∨ (¬cntOk xs n ∧ e = .returned (.tuple #[.int .i64 0, .bool false]))) ∧ w = w'
set_option maxHeartbeats 1000000 in
theorem l06Total_any (xs : List Int) (n : Nat) (hn : xs.length = n) (ao : Option Addr) (ca : Nat) (w : World) (hx : Holds w ao (il xs)) (hl : n ≤ 1048576) :
    Calls Tryd.prog 122 #[.slice ao n ca] w (totR xs n w) := by
  have HX := Lib.hid (And.intro hx hn)
  clear hx hn
  go_enter Tryd.func122, Tryd.ntmps122
  go_wp2_with fail
  go_loop [4, 5] (fun s i => ∃ k : Nat, k ≤ n ∧ i = .int .i64 k ∧ s = .int .i64 (sumK xs k) ∧ cntOk xs k ∧ 0 ≤ sumK xs k ∧ sumK xs k ≤ ((60 * k : Nat) : Int)) (fun _ i => n - (intOf i).toNat)
  case atStart => exact ⟨0, Nat.zero_le _, rfl, rfl, fun i hi => absurd hi (Nat.not_lt_zero _), Int.le_refl _, Int.le_refl _⟩
  case round =>
    obtain ⟨k, hk, rfl, rfl, hcn, hs1, hs2⟩ := hrel
    have HC := Lib.hid hcn
    have hs3 : sumK xs k ≤ 62914560 := by omega
    have HS2 := Lib.hid hs2
    clear hcn hs2
    by_cases hlt : k < n
    · obtain ⟨b', o, rfl, hc⟩ := HX.out.1 k (by rw [il_len]; have := HX.out.2; omega)
      rw [il_get _ _ (by have := HX.out.2; omega)] at hc
      have hlt' : (k : Int) < n := by omega
      have HE := Lib.hid (show sumK xs (k + 1) = sumK xs k + xs[k]?.getD 0 from rfl)
      obtain ⟨x, hx⟩ : ∃ x, xs[k]?.getD 0 = x := ⟨_, rfl⟩
      rw [hx] at hc
      have HXX := Lib.hid hx
      clear hx
      by_cases hb : 0 ≤ x ∧ x ≤ 60
      · have H1 := Lib.hid hb
        obtain ⟨hb1, hb2⟩ := hb
        obtain ⟨s, hs⟩ : ∃ s, sumK xs k = s := ⟨_, rfl⟩
        rw [hs] at hs1 hs3 ⊢
        have HS := Lib.hid hs
        clear hs
        go_wp2_with fail
        refine (l00In_yes _ _ _ H1.out.1 H1.out.2 _).mono ?_
        rintro e w1 ⟨rfl, rfl⟩
        go_wp2_with fail
        go_round
        case rel => exact ⟨k + 1, by omega, by go_num, by rw [HE.out, HS.out, HXX.out], fun j hj => (by
            by_cases e : j = k
            · subst e; rw [HXX.out]; exact H1.out
            · exact HC.out j (by omega)), by rw [HE.out, HS.out, HXX.out]; omega, by rw [HE.out, HXX.out]; have := HS2.out; have := H1.out; omega⟩
        case measure => simp [intOf]; omega
      · have HF : Hid (¬cntOk xs n) := Lib.hid (fun h => hb (by have := h k hlt; rwa [HXX.out] at this))
        have H1 : Hid (x < 0 ∨ 60 < x) := Lib.hid (by omega)
        clear hb
        go_wp2_with fail
        refine (l00In_no _ _ _ H1.out _).mono ?_
        rintro e w1 ⟨rfl, rfl⟩
        go_wp2_with fail
        go_ret2
        exact ⟨.inr ⟨HF.out, rfl⟩, rfl⟩
    · have e : k = n := by omega
      subst e
      obtain ⟨s, hs⟩ : ∃ s, sumK xs k = s := ⟨_, rfl⟩
      rw [hs]
      have HS := Lib.hid hs
      clear hs
      go_wp2_with fail
      go_ret2
      exact ⟨.inl ⟨HC.out, by rw [HS.out]; rfl⟩, rfl⟩
set_option maxRecDepth 100000 in
set_option maxHeartbeats 1000000 in
theorem l06Is_any (r c : Int) (xs : List Int) (n : Nat) (hn : xs.length = n) (ao : Option Addr) (ca g : Nat) (T : TypeId) (w : World) (hW : Whole w g T #[.int .i64 r, .int .i64 c, .slice ao n ca]) (hx : Holds w ao (il xs)) (hl : n ≤ 1048576) :
    Calls Tryd.prog 86 #[.pointer (some ⟨g, 0, none⟩)] w (RetB (.bool (tabB r c xs)) w) := by
  have HX := Lib.hid (And.intro hx (And.intro hW hn))
  obtain ⟨hc0, hf0⟩ := hW.facts
  clear hx hn hW
  by_cases hr : 2 ≤ r ∧ r ≤ 4
  · by_cases hc : 2 ≤ c ∧ c ≤ 4
    · obtain ⟨p, hp⟩ : ∃ p, r * c = p := ⟨_, rfl⟩
      have hp2 := mul_side hr hc
      rw [hp] at hp2
      obtain ⟨hp3, hp4⟩ := hp2
      have hwr : IntKind.i64.wrap (r * c) = p := by rw [hp, IntKind.wrap_i64]; omega
      have HP := Lib.hid (And.intro hr (And.intro hc hp))
      have HV1 := Lib.hid (decide_eq_true hr)
      have HV2 := Lib.hid (decide_eq_true hc)
      clear hr hc hp
      by_cases he : (n : Int) = p
      · have HE := Lib.hid he
        have he2 : ((n : Int) != p) = false := by simpa using he
        have hn16 : (n : Int) ≤ 16 := by omega
        clear he
        go_enter Tryd.func86, Tryd.ntmps86
        go_wp2_with fail
        go_quiet (first | (go_at_call 98; exact quiet_same' (l00In_v _ _ _ _ (by first | exact HV1.out | exact HV2.out) _)))
        clear hwr
        go_wp2_with fail
        refine (l06Total_any xs n HX.out.2.2 ao _ _ (HX.out.1.drewN _) (by omega)).mono ?_
        rintro e w1 ⟨hd, rfl⟩
        rcases hd with ⟨hcn, rfl⟩ | ⟨hcn, rfl⟩
        · have HC := Lib.hid (show cntOk xs xs.length by rw [HX.out.2.2]; exact hcn)
          have hs := (sumK_le (cntOk_abs HC.out) n)
          obtain ⟨s, hs2⟩ : ∃ s, sumK xs n = s := ⟨_, rfl⟩
          rw [hs2] at hs ⊢
          have HS := Lib.hid hs2
          clear hs2 hs hcn
          by_cases g1 : 1 ≤ s
          · by_cases g2 : s ≤ 60
            · have HF : Hid (tabB r c xs = true) := Lib.hid (tabB_yes ⟨HP.out.1, HP.out.2.1, by rw [HX.out.2.2, HP.out.2.2]; exact HE.out, HC.out, by rw [HX.out.2.2, HS.out]; exact ⟨g1, g2⟩⟩)
              rw [decide_eq_true g2]
              go_wp2_with fail
              go_ret
              exact ⟨by rw [HF.out]; first | rfl | (simp; omega), (by repeat (first | with_reducible exact Below.refl _ _ | with_reducible exact HBL | with_reducible refine Below.drew ?_ | with_reducible refine Bel_drewN ?_ _ | with_reducible refine Below.alloc ?_ (by first | omega | (simp; done) | (simp; omega)) _ | with_reducible refine Below.setCell ?_ (by first | omega | (simp; done) | (simp; omega)) _))⟩
            · have HF : Hid (tabB r c xs = false) := Lib.hid (tabB_no (fun h => by have := h.sum; rw [HX.out.2.2, HS.out] at this; omega))
              rw [decide_eq_false g2]
              go_wp2_with fail
              go_ret
              exact ⟨by rw [HF.out]; first | rfl | (simp; omega), (by repeat (first | with_reducible exact Below.refl _ _ | with_reducible exact HBL | with_reducible refine Below.drew ?_ | with_reducible refine Bel_drewN ?_ _ | with_reducible refine Below.alloc ?_ (by first | omega | (simp; done) | (simp; omega)) _ | with_reducible refine Below.setCell ?_ (by first | omega | (simp; done) | (simp; omega)) _))⟩
          · have HF : Hid (tabB r c xs = false) := Lib.hid (tabB_no (fun h => by have := h.sum; rw [HX.out.2.2, HS.out] at this; omega))
            rw [decide_eq_true (show s ≤ 60 by omega)]
            go_wp2_with fail
            go_ret
            exact ⟨by rw [HF.out]; first | rfl | (simp; omega), (by repeat (first | with_reducible exact Below.refl _ _ | with_reducible exact HBL | with_reducible refine Below.drew ?_ | with_reducible refine Bel_drewN ?_ _ | with_reducible refine Below.alloc ?_ (by first | omega | (simp; done) | (simp; omega)) _ | with_reducible refine Below.setCell ?_ (by first | omega | (simp; done) | (simp; omega)) _))⟩
        · have HF : Hid (tabB r c xs = false) := Lib.hid (tabB_no (fun h => hcn (by have := h.counts; rwa [HX.out.2.2] at this)))
          clear hcn
          go_wp2_with fail
          go_ret
          exact ⟨by rw [HF.out]; first | rfl | (simp; done), (by repeat (first | with_reducible exact Below.refl _ _ | with_reducible exact HBL | with_reducible refine Below.drew ?_ | with_reducible refine Bel_drewN ?_ _ | with_reducible refine Below.alloc ?_ (by first | omega | (simp; done) | (simp; omega)) _ | with_reducible refine Below.setCell ?_ (by first | omega | (simp; done) | (simp; omega)) _))⟩
      · have HF : Hid (tabB r c xs = false) := Lib.hid (tabB_no (fun h => he (by rw [← HX.out.2.2, h.len, HP.out.2.2])))
        have he2 : ((n : Int) != p) = true := by simpa using he
        clear he
        go_enter Tryd.func86, Tryd.ntmps86
        go_wp2_with fail
        go_quiet (first | (go_at_call 98; exact quiet_same' (l00In_v _ _ _ _ (by first | exact HV1.out | exact HV2.out) _)))
        clear hwr
        go_wp2_with fail
        go_ret
        exact ⟨by rw [HF.out]; first | rfl | (simp; done), (by repeat (first | with_reducible exact Below.refl _ _ | with_reducible exact HBL | with_reducible refine Below.drew ?_ | with_reducible refine Bel_drewN ?_ _ | with_reducible refine Below.alloc ?_ (by first | omega | (simp; done) | (simp; omega)) _ | with_reducible refine Below.setCell ?_ (by first | omega | (simp; done) | (simp; omega)) _))⟩
    · have HF : Hid (tabB r c xs = false) := Lib.hid (tabB_no (fun h => hc h.columns))
      have HV1 := Lib.hid (decide_eq_true hr)
      have HV2 := Lib.hid (decide_eq_false hc)
      clear hr hc
      go_enter Tryd.func86, Tryd.ntmps86
      go_wp2_with fail
      go_quiet (first | (go_at_call 98; exact quiet_same' (l00In_v _ _ _ _ (by first | exact HV1.out | exact HV2.out) _)))
      go_wp2_with fail
      go_ret
      exact ⟨by rw [HF.out]; first | rfl | (simp; done), (by repeat (first | with_reducible exact Below.refl _ _ | with_reducible exact HBL | with_reducible refine Below.drew ?_ | with_reducible refine Bel_drewN ?_ _ | with_reducible refine Below.alloc ?_ (by first | omega | (simp; done) | (simp; omega)) _ | with_reducible refine Below.setCell ?_ (by first | omega | (simp; done) | (simp; omega)) _))⟩
  · have HF : Hid (tabB r c xs = false) := Lib.hid (tabB_no (fun h => hr h.rows))
    have HV1 := Lib.hid (decide_eq_false hr)
    have HV2 := HV1
    clear hr
    go_enter Tryd.func86, Tryd.ntmps86
    go_wp2_with fail
    go_quiet (first | (go_at_call 98; exact quiet_same' (l00In_v _ _ _ _ (by first | exact HV1.out | exact HV2.out) _)))
    go_wp2_with fail
    go_ret
    exact ⟨by rw [HF.out]; first | rfl | (simp; done), (by repeat (first | with_reducible exact Below.refl _ _ | with_reducible exact HBL | with_reducible refine Below.drew ?_ | with_reducible refine Bel_drewN ?_ _ | with_reducible refine Below.alloc ?_ (by first | omega | (simp; done) | (simp; omega)) _ | with_reducible refine Below.setCell ?_ (by first | omega | (simp; done) | (simp; omega)) _))⟩
theorem implValidTable_yes (r c : Int) (xs : List Int) (n : Nat) (hn : xs.length = n) (ao : Option Addr) (ca : Nat) (w : World) (hv : isTab r c xs) (hx : Holds w ao (il xs)) (hl : n ≤ 1048576) :
    Calls Tryd.prog 88 #[.agg #[.int .i64 r, .int .i64 c, .slice ao n ca]] w (RetB (.bool true) w) := by
  have := implValidTable_any r c xs n hn ao ca w hx hl
  rwa [tabB_yes hv] at this
theorem implValidTable_no (r c : Int) (xs : List Int) (n : Nat) (hn : xs.length = n) (ao : Option Addr) (ca : Nat) (w : World) (hv : ¬isTab r c xs) (hx : Holds w ao (il xs)) (hl : n ≤ 1048576) :
    Calls Tryd.prog 88 #[.agg #[.int .i64 r, .int .i64 c, .slice ao n ca]] w (RetB (.bool false) w) := by
  have := implValidTable_any r c xs n hn ao ca w hx hl
  rwa [tabB_no hv] at this
end Go.Proofs.YtfgkimhcbboipaaDoor
