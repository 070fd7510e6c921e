/- Mixtures that are valid. -/
import Derived.Test.YtgeomaeccalceaaShr
import Derived.Test.YtgeomaeccalceaaNg
namespace Go.Proofs.Ytgeomaeccalceaa
open Go Go.RowKit Fl Vag
set_option linter.unusedVariables false

def aboves (ss : List Nat) : Prop := ∀ i, i < ss.length → aboveB (ss[i]?.getD 0) = true
/-- A valid mixture. -/
def isMix (ws ms ss : List Nat) : Prop := ws.length ≤ 8 ∧ ms.length = ws.length ∧ ss.length = ws.length ∧ fins ms ∧ aboves ss ∧ ones ws
theorem isMix.pos {ws ms ss : List Nat} (h : isMix ws ms ss) : 1 ≤ ws.length := by
  obtain ⟨_, _, _, _, _, _, h5⟩ := h
  cases ws with
  | nil => rw [near_nil] at h5; cases h5
  | cons x t => simp
theorem above_fins {ss : List Nat} (h : aboves ss) : fins ss := fun i hi => by
  have := h i hi
  unfold aboveB at this
  simp only [Bool.and_eq_true] at this
  exact this.1
theorem above_le {x : Nat} (h : finA .f32 (av .f32 x) = true) : leB x 0 = !aboveB x := by
  rw [le_gt h]; unfold aboveB; rw [h]; rfl
set_option maxRecDepth 100000 in
theorem areFinite_any (xs : List Nat) (n : Nat) (hn : xs.length = n) (ao : Option Addr) (c : Nat) (w : World) (hx : Holds w ao (fl .f32 xs)) (hlen : n ≤ 1048576) :
    Calls Try.prog 142 #[.slice ao n c] w (BoD (fins xs) w) := by
  subst hn
  have HX := Lib.hid hx
  clear hx
  go_enter Try.func142, Try.ntmps142
  go_wp2
  go_loopw [7] (fun i wr => ∃ k : Nat, k ≤ xs.length ∧ i = .int .i64 k ∧ (∀ j, j < k → finA .f32 (av .f32 (xs[j]?.getD 0)) = true) ∧ ∃ n, wr = w.drewN n) (fun i _ => xs.length - (intOf i).toNat)
  case atStart => exact ⟨0, Nat.zero_le _, rfl, fun j hj => absurd hj (Nat.not_lt_zero _), 0, rfl⟩
  case round =>
    obtain ⟨k, hk, rfl, hall, n, rfl⟩ := hrel
    have HA := Lib.hid hall
    clear hall
    by_cases hlt : k < xs.length
    · obtain ⟨b, o, rfl, hc⟩ := HX.out k (by simpa [fl] using hlt)
      rw [fl_get _ _ _ hlt] at hc
      obtain ⟨x, hx⟩ : ∃ x, x = xs[k]?.getD 0 := ⟨_, rfl⟩
      rw [← hx] at hc
      have HE := Lib.hid hx
      clear hx
      go_wp2_with (first | (go_at_call 89; fail))
      refine (IsFinite_any _ _).mono ?_
      rintro e w' ⟨n2, rfl, rfl⟩
      cases hf : finA .f32 (av .f32 x) with
      | true =>
        have HF := Lib.hid hf
        clear hf
        go_wp2
        go_roundw
        case rel =>
          refine ⟨k + 1, by omega, by go_num, fun j hj => ?_, _, rfl⟩
          by_cases e : j = k
          · subst e; rw [← HE.out]; exact HF.out
          · exact HA.out j (by omega)
        case measure => simp [intOf]; omega
      | false =>
        have HF := Lib.hid hf
        clear hf
        go_wp2
        go_ret
        refine BoD.mk _ _ (falseIs fun h => ?_)
        have := h k hlt
        rw [← HE.out, HF.out] at this
        cases this
    · obtain rfl : k = xs.length := by omega
      go_wp2
      go_ret
      exact BoD.mk _ _ ⟨fun _ => HA.out, fun _ => rfl⟩
set_option maxRecDepth 100000 in
theorem l02Finite_any (xs : List Nat) (n : Nat) (hn : xs.length = n) (ao : Option Addr) (c : Nat) (w : World) (hx : Holds w ao (fl .f32 xs)) (hlen : n ≤ 1048576) :
    Calls Try.prog 147 #[.slice ao n c] w (BoD (fins xs) w) := by
  subst hn
  have HX := Lib.hid hx
  clear hx
  go_enter Try.func147, Try.ntmps147
  go_wp2
  go_loopw [3] (fun i wr => ∃ k : Nat, k ≤ xs.length ∧ i = .int .i64 k ∧ (∀ j, j < k → finA .f32 (av .f32 (xs[j]?.getD 0)) = true) ∧ ∃ n, wr = w.drewN n) (fun i _ => xs.length - (intOf i).toNat)
  case atStart => exact ⟨0, Nat.zero_le _, rfl, fun j hj => absurd hj (Nat.not_lt_zero _), 0, rfl⟩
  case round =>
    obtain ⟨k, hk, rfl, hall, n, rfl⟩ := hrel
    have HA := Lib.hid hall
    clear hall
    by_cases hlt : k < xs.length
    · obtain ⟨b, o, rfl, hc⟩ := HX.out k (by simpa [fl] using hlt)
      rw [fl_get _ _ _ hlt] at hc
      obtain ⟨x, hx⟩ : ∃ x, x = xs[k]?.getD 0 := ⟨_, rfl⟩
      rw [← hx] at hc
      have HE := Lib.hid hx
      clear hx
      go_wp2_with (first | (go_at_call 125; fail))
      refine (l01Finite_any _ _).mono ?_
      rintro e w' ⟨n2, rfl, rfl⟩
      cases hf : finA .f32 (av .f32 x) with
      | true =>
        have HF := Lib.hid hf
        clear hf
        go_wp2
        go_roundw
        case rel =>
          refine ⟨k + 1, by omega, by go_num, fun j hj => ?_, _, rfl⟩
          by_cases e : j = k
          · subst e; rw [← HE.out]; exact HF.out
          · exact HA.out j (by omega)
        case measure => simp [intOf]; omega
      | false =>
        have HF := Lib.hid hf
        clear hf
        go_wp2
        go_ret
        refine BoD.mk _ _ (falseIs fun h => ?_)
        have := h k hlt
        rw [← HE.out, HF.out] at this
        cases this
    · obtain rfl : k = xs.length := by omega
      go_wp2
      go_ret
      exact BoD.mk _ _ ⟨fun _ => HA.out, fun _ => rfl⟩
/-- What the model has seen behind k rounds. -/
def mixTo (ws ss : List Nat) (k : Nat) : Prop := ∀ i, i < k → leastB (ws[i]?.getD 0) = true ∧ aboveB (ss[i]?.getD 0) = true
theorem mixTo_next {ws ss : List Nat} {k : Nat} (h : mixTo ws ss k) (h1 : leastB (ws[k]?.getD 0) = true) (h2 : aboveB (ss[k]?.getD 0) = true) : mixTo ws ss (k + 1) := fun i hi => by
  by_cases e : i = k
  · subst e; exact ⟨h1, h2⟩
  · exact h i (by omega)
end Go.Proofs.Ytgeomaeccalceaa
