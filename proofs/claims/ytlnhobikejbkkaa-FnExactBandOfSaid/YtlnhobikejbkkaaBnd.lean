/- BandOf (under way): that a list is sorted, of both sides. -/
import Derived.Test.YtlnhobikejbkkaaMx
import Derived.Test.YtlnhobikejbkkaaBn
import Derived.Deep.QuietTactic
import Derived.BigQuiet
namespace Go.Proofs.Ytlnhobikejbkkaa
open Go Go.RowKit Fl Vag
set_option linter.unusedVariables false

/-- No number is less than the one before it. -/
def srt (xs : List Nat) : Prop := ∀ i : Nat, i + 1 < xs.length → ltB (xs[i + 1]?.getD 0) (xs[i]?.getD 0) = false
set_option maxRecDepth 100000 in
set_option maxHeartbeats 2000000 in
theorem isSorted_any (xs : List Nat) (n : Nat) (hn : xs.length = n) (ao : Option Addr) (c : Nat) (w : World) (hx : Holds w ao (fl .f32 xs)) (hf : fins xs) (h1 : 1 ≤ n) (hlen : n ≤ 1048576) :
    Calls Try.prog 57 #[.slice ao n c] w (BoD (srt xs) w) := by
  have HX := Lib.hid (And.intro hx (And.intro hf hn))
  clear hx hf hn
  go_enter Try.func57, Try.ntmps57
  go_wp2_with fail
  go_loopw [3] (fun i wr => ∃ k : Nat, k + 1 ≤ n ∧ i = .int .i64 (k : Int) ∧ (∀ j : Nat, k ≤ j → j + 1 < n → ltB (xs[j + 1]?.getD 0) (xs[j]?.getD 0) = false) ∧ ∃ m, wr = w.drewN m) (fun i _ => (intOf i).toNat)
  case atStart => exact ⟨n - 1, by omega, congrArg _ (by omega), fun j h1 h2 => by omega, 0, rfl⟩
  case round =>
    obtain ⟨k, hk, rfl, hall, m, rfl⟩ := hrel
    have HA := Lib.hid hall
    clear hall
    rcases k with _ | k
    · rw [show ((0 : Nat) : Int) = 0 from rfl]
      go_wp2_with fail
      go_ret
      exact BoD.mk true m ⟨fun _ i hi => HA.out i (Nat.zero_le _) (by rw [HX.out.2.2] at hi; exact hi), fun _ => rfl⟩
    · obtain ⟨q, hqe⟩ : ∃ q, q = k + 1 := ⟨_, rfl⟩
      have hk1 : (0 : Int) < (q : Int) := by omega
      have hk2 : (q : Int) < n := by omega
      have hk8 : 0 ≤ (q : Int) - 1 ∧ (q : Int) - 1 < n := by omega
      have hk9 : ((q : Int) - 1).toNat = k := by omega
      have hk5 : IntKind.i64.wrap ((q : Int) - 1) = (q : Int) - 1 := by rw [IntKind.wrap_i64]; omega
      obtain ⟨b, o, e, hc⟩ := HX.out.1 (k + 1) (by simp [fl, HX.out.2.2]; omega)
      rw [fl_get _ _ _ (by rw [HX.out.2.2]; omega)] at hc
      obtain ⟨b', o', e', hc'⟩ := HX.out.1 k (by simp [fl, HX.out.2.2]; omega)
      rw [fl_get _ _ _ (by rw [HX.out.2.2]; omega)] at hc'
      subst e
      obtain ⟨rfl, rfl⟩ : b = b' ∧ o = o' := by simpa using e'
      have HF := Lib.hid (fin_at HX.out.2.1 (show k + 1 < xs.length by rw [HX.out.2.2]; omega))
      obtain ⟨x, hx⟩ : ∃ x, xs[k + 1]?.getD 0 = x := ⟨_, rfl⟩
      obtain ⟨y, hy⟩ : ∃ y, xs[k]?.getD 0 = y := ⟨_, rfl⟩
      rw [hx] at hc HF
      rw [hy] at hc'
      rw [← hqe] at hc ⊢
      have HQ := Lib.hid hqe
      have HXY := Lib.hid (And.intro hx hy)
      clear hx hy e' hqe
      obtain ⟨t, ht⟩ : ∃ t, ltB x y = t := ⟨_, rfl⟩
      have HL : Hid (∀ w : World, Calls Try.prog 103 #[.float .f32 x, .float .f32 y] w (fun e w' => e = .returned (.bool t) ∧ w = w')) := Lib.hid (fun w => ht ▸ cmpLess_fin x y HF.out w)
      have HT := Lib.hid ht
      clear ht
      go_wp2_with fail
      go_region_with (first | (go_at_call 103; refine (HL.out _).mono ?_; rintro e w1 ⟨rfl, rfl⟩))
      all_goals
        cases t with
        | true =>
          go_wp2_with fail
          go_ret
          refine BoD.mk false (m + 1) ⟨fun h => (by cases h), fun h => ?_⟩
          have := h k (by rw [HX.out.2.2]; omega)
          rw [HXY.out.1, HXY.out.2, HT.out] at this
          cases this
        | false =>
          go_wp2_with fail
          go_roundw
          case rel =>
            refine ⟨k, by omega, congrArg _ (by have := HQ.out; omega), fun j h1 h2 => ?_, _, rfl⟩
            by_cases e : j = k
            · subst e; rw [HXY.out.1, HXY.out.2, HT.out]
            · exact HA.out j (by omega) h2
          case measure => have := HQ.out; first | (simp [intOf]; done) | (simp [intOf]; omega)
end Go.Proofs.Ytlnhobikejbkkaa
