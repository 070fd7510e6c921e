/- BalanceMiss of the code. -/
import Derived.Test.YtgeomaeccalceaaBmx
import Derived.Deep.RegionHeld3
namespace Go.Proofs.Ytgeomaeccalceaa
open Go Go.RowKit Fl Vag
set_option linter.unusedVariables false
theorem chain_atM {n : Nat} {ss : List Nat} (h : isChain n ss) {w : World} {ao : Option Addr} (hx : Holds w ao (fl .f32 ss)) : ∃ b o, ao = some ⟨b, o, none⟩ := hx.at (by
  obtain ⟨n', e, h1, h2, h3, h4⟩ := h.nat
  rw [fl_len32, h3]; exact Nat.mul_pos h1 h1)
theorem row_atM {n : Nat} {xs : List Nat} (h : xs.length = n) (hn : 1 ≤ n) {w : World} {ao : Option Addr} (hx : Holds w ao (fl .f32 xs)) : ∃ b o, ao = some ⟨b, o, none⟩ := hx.at (by rw [fl_len32, h]; exact hn)
set_option maxRecDepth 100000 in
set_option maxHeartbeats 4000000 in
theorem implBal_no (s : Int) (ss xs : List Nat) (m k : Nat) (hm : ss.length = m) (hk : xs.length = k) (ao bo : Option Addr) (c d : Nat) (w : World) (hs : Holds w ao (fl .f32 ss)) (hx : Holds w bo (fl .f32 xs)) (hlen : m ≤ 1048576) (hlk : k ≤ 1048576) (hc : m ≤ c) (h : ¬fits s ss xs) :
    Calls Try.prog 36 #[.agg #[.int .i64 s, .slice ao m c], .slice bo k d] w (RetB (.tuple #[.float .f32 0, .bool false]) w) := by
  have HX := Lib.hid (And.intro hs (And.intro hx (And.intro hm hk)))
  have HF := Lib.hid h
  have H0 : Hid (ChBox w (w.alloc (.cells #[.int .i64 s, .slice ao m c] 34)) s ao m c) := Lib.hid ⟨Whole.made _ _ _, (by repeat (first | with_reducible exact Below.refl _ _ | with_reducible exact HBL | with_reducible refine Below.drew ?_ | with_reducible refine Bel_drewN ?_ _ | with_reducible refine Below.alloc ?_ (by first | omega | (simp; done) | (simp; omega)) _ | with_reducible refine Below.setCell ?_ (by first | omega | (simp; done) | (simp; omega)) _))⟩
  clear hs hx hm hk h
  go_enter Try.func36, Try.ntmps36
  go_wp2_with (first | (go_at_call 85; fail))
  refine (isChainWith_any s ss xs m k HX.out.2.2.1 HX.out.2.2.2 ao bo c d _ (HX.out.1.below H0.out.2) (HX.out.2.1.below H0.out.2) hlen hlk hc).mono ?_
  rintro e w1 ⟨q, rfl, hq, hw1⟩
  have H1 := Lib.hid (H0.out.below hw1)
  obtain rfl : q = false := by
    cases q with
    | false => rfl
    | true => exact absurd (hq.1 rfl) HF.out
  clear hq hw1
  go_wp2_with fail
  go_ret2
  exact ⟨rfl, H1.out.2⟩
set_option maxRecDepth 100000 in
set_option maxHeartbeats 4000000 in
theorem implBal_yes (n : Nat) (ss xs : List Nat) (m : Nat) (hm : ss.length = m) (ao bo : Option Addr) (c d : Nat) (w : World) (hs : Holds w ao (fl .f32 ss)) (hx : Holds w bo (fl .f32 xs)) (hlen : m ≤ 1048576) (hc : m ≤ c) (h : fits (n : Int) ss xs) :
    Calls Try.prog 36 #[.agg #[.int .i64 n, .slice ao m c], .slice bo n d] w (RetB (.tuple #[.float .f32 (balW n ss xs), .bool true]) w) := by
  obtain ⟨hB, hn1, hn⟩ := h.bal
  obtain ⟨b, o, rfl⟩ := chain_atM h.1 hs
  obtain ⟨b2, o2, rfl⟩ := row_atM hB.len hn1 hx
  have HB := Lib.hid hB
  have HM : Hid (m = n * n ∧ ss.length = m) := Lib.hid ⟨by rw [← hm]; exact hB.ssl, hm⟩
  have HX := Lib.hid (And.intro hs hx)
  have HF := Lib.hid h
  have HL := Lib.hid hB.len
  have hn12 : (n : Int) ≤ 12 := by omega
  have H0 : Hid (ChBox w (w.alloc (.cells #[.int .i64 n, .slice (some ⟨b, o, none⟩) m c] 34)) n (some ⟨b, o, none⟩) m c) := Lib.hid ⟨Whole.made _ _ _, (by repeat (first | with_reducible exact Below.refl _ _ | with_reducible exact HBL | with_reducible refine Below.drew ?_ | with_reducible refine Bel_drewN ?_ _ | with_reducible refine Below.alloc ?_ (by first | omega | (simp; done) | (simp; omega)) _ | with_reducible refine Below.setCell ?_ (by first | omega | (simp; done) | (simp; omega)) _))⟩
  clear hs hx h hB hm
  go_enter Try.func36, Try.ntmps36
  go_wp2_with (first | (go_at_call 85; fail))
  refine (isChainWith_any n ss xs m n HM.out.2 HL.out _ _ c d _ (HX.out.1.below H0.out.2) (HX.out.2.below H0.out.2) hlen (by omega) hc).mono ?_
  rintro e w1 ⟨q, rfl, hq, hw1⟩
  have H1 := Lib.hid (H0.out.below hw1)
  obtain rfl : q = true := hq.2 HF.out
  clear hq hw1 H0
  go_wp2_with fail
  go_loopw [6, 19] (fun v i wr => ∃ (j : Nat), j ≤ n ∧ i = .int .i64 j ∧ v = .float .f32 (Ieee.single.word false (upA n (magP n ss xs) j)) ∧ ChBox w wr n (some ⟨b, o, none⟩) m c) (fun _ i _ => n - (intOf i).toNat)
  case atStart => exact ⟨0, Nat.zero_le _, rfl, rfl, H1.out⟩
  case round =>
    obtain ⟨i, hi, rfl, rfl, hbox⟩ := hrel
    have HBO := Lib.hid hbox
    have hin : (i : Int) ≤ n := by omega
    clear H1
    by_cases hlt : i < n
    · have hlt' : (i : Int) < n := by omega
      obtain ⟨b', o', e', hcx⟩ := (HX.out.2.below hbox.2) i (by rw [fl_len32, HL.out]; exact hlt)
      cases e'
      rw [fl_get _ _ _ (by rw [HL.out]; exact hlt)] at hcx
      obtain ⟨x, hx'⟩ : ∃ x, xs[i]?.getD 0 = x := ⟨_, rfl⟩
      rw [hx'] at hcx
      have HXI := Lib.hid hx'
      clear hx' hbox
      go_wp2_with fail
      go_loopw [6, 26] (fun v i2 wr => ∃ (k : Nat), k ≤ n ∧ i2 = .int .i64 k ∧ v = .float .f32 (Ieee.single.word false (upB n (magP n ss xs) i k)) ∧ ChBox w wr n (some ⟨b, o, none⟩) m c) (fun _ i2 _ => n - (intOf i2).toNat)
      case atStart => exact ⟨0, Nat.zero_le _, rfl, by rw [upB_zero], HBO.out⟩
      case round =>
        obtain ⟨k, hk, rfl, rfl, hbox⟩ := hrel
        have HBX := Lib.hid hbox
        have hz := hbox.1.lt
        have hkn : (k : Int) ≤ n := by omega
        clear HBO hcx
        by_cases hlt2 : k < n
        · have hlt2' : (k : Int) < n := by omega
          obtain ⟨hcb, hfb⟩ := hbox.1.facts
          obtain ⟨b', o', e', hcy⟩ := (HX.out.2.below hbox.2) k (by rw [fl_len32, HL.out]; exact hlt2)
          cases e'
          rw [fl_get _ _ _ (by rw [HL.out]; exact hlt2)] at hcy
          obtain ⟨p, q, e1, e2, e3, hr, _, _⟩ := HB.out.pair hlt hlt2
          have hM := upB_le HB.out.magP_le hlt hk
          have hst := upB_step n (magP n ss xs) i k
          obtain ⟨D, hD⟩ : ∃ D, Ieee.single.word (negD n ss xs i k) (magD n ss xs i k) = D := ⟨_, rfl⟩
          have hmax0 := fun (ts : Array TypeId) (t : TypeId) (w : World) => maxF_run (P := Try.prog) (av_wordM false hM) (av_wordM (negD n ss xs i k) hr) ts t w
          rw [maxF_word _ hM hr, show (if negD n ss xs i k then upB n (magP n ss xs) i k else max (upB n (magP n ss xs) i k) (magD n ss xs i k)) = upB n (magP n ss xs) i (k + 1) by
            rw [hst]; unfold magP; split <;> omega] at hmax0
          rw [hD] at hmax0 e3
          rw [HXI.out] at e1
          obtain ⟨y, hy'⟩ : ∃ y, xs[k]?.getD 0 = y := ⟨_, rfl⟩
          rw [hy'] at hcy e2
          obtain ⟨O, hO⟩ : ∃ O, Ieee.single.word false (upB n (magP n ss xs) i k) = O := ⟨_, rfl⟩
          obtain ⟨N, hN⟩ : ∃ N, Ieee.single.word false (upB n (magP n ss xs) i (k + 1)) = N := ⟨_, rfl⟩
          rw [hO, hN] at hmax0
          rw [hO]
          have HNN := Lib.hid hN
          have HS : Hid (∀ (v : World) (a e : Nat), Below w.heap.size w v → a < n → e < n → Calls Try.prog 86 #[.agg #[.int .i64 n, .slice (some ⟨b, o, none⟩) m c], .int .i64 a, .int .i64 e] v (fun e' w' => e' = .returned (.float .f32 (ss[a * n + e]?.getD 0)) ∧ w' = v.alloc (.cells #[.int .i64 n, .slice (some ⟨b, o, none⟩) m c] 34))) := Lib.hid (fun v a e hv ha he => step_any ss n a e b o m c v (HX.out.1.below hv) ha he hn HM.out.1 HM.out.2)
          have hm1 : ∀ (t : TypeId) (w : World), (binOp .mul t (.float .f32 x) (.float .f32 (ss[i * n + k]?.getD 0))).run Try.prog w = .ok (.float .f32 p) w := fun t w => run_float_arith w _ _ _ _ _ _ e1
          have hm2 : ∀ (t : TypeId) (w : World), (binOp .mul t (.float .f32 y) (.float .f32 (ss[k * n + i]?.getD 0))).run Try.prog w = .ok (.float .f32 q) w := fun t w => run_float_arith w _ _ _ _ _ _ e2
          have hm3 : ∀ (t : TypeId) (w : World), (binOp .sub t (.float .f32 p) (.float .f32 q)).run Try.prog w = .ok (.float .f32 D) w := fun t w => run_float_arith w _ _ _ _ _ _ e3
          have HBL := hbox.2
          clear hM hr hst hO hN hD hy' e1 e2 e3 hbox
          go_wp2_with fail
          go_region_with (go_at_call 86; refine (HS.out _ _ _ (by repeat (first | with_reducible exact Below.refl _ _ | with_reducible exact HBL | with_reducible refine Below.drew ?_ | with_reducible refine Bel_drewN ?_ _ | with_reducible refine Below.alloc ?_ (by first | omega | (simp; done) | (simp; omega)) _ | with_reducible refine Below.setCell ?_ (by first | omega | (simp; done) | (simp; omega)) _)) (by assumption) (by assumption)).mono ?_; rintro e w1 ⟨rfl, rfl⟩)
          all_goals
            clear HS hcb hfb hcy
            go_wp2_with fail
            go_roundw
            case rel =>
              refine ⟨k + 1, by omega, by go_num, by rw [HNN.out], ?_⟩
              rw [World.drew_is_drewN]
              exact ⟨((HBX.out.1.alloc _).alloc _).drewN _, (by repeat (first | with_reducible exact Below.refl _ _ | with_reducible exact HBL | with_reducible refine Below.drew ?_ | with_reducible refine Bel_drewN ?_ _ | with_reducible refine Below.alloc ?_ (by first | omega | (simp; done) | (simp; omega)) _ | with_reducible refine Below.setCell ?_ (by first | omega | (simp; done) | (simp; omega)) _))⟩
            case measure => simp [intOf]; omega
        · obtain rfl : k = n := by omega
          clear hbox
          go_wp2_with fail
          go_roundw
          case rel => exact ⟨i + 1, by omega, by go_num, rfl, HBX.out⟩
          case measure => simp [intOf]; omega
    · obtain rfl : i = n := by omega
      go_wp2_with fail
      have hw : balW i ss xs = Ieee.single.word false (upA i (magP i ss xs) i) := by unfold balW; rw [HB.out.same]
      go_ret2
      exact ⟨by rw [hw]; rfl, HBO.out.2⟩
end Go.Proofs.Ytgeomaeccalceaa
