/- Mixtures that are valid. -/
import Derived.Test.YtlnhobikejbkkaaShr
import Derived.Test.YtlnhobikejbkkaaNg
namespace Go.Proofs.Ytlnhobikejbkkaa
open Go Go.RowKit Fl Vag
set_option linter.unusedVariables false

def aboves (ss : List Nat) : Prop := ∀ i, i < ss.length → aboveB (ss[i]?.getD 0) = true
/-- A valid mixture. -/
def isMix (ws ms ss : List Nat) : Prop := ws.length ≤ 8 ∧ ms.length = ws.length ∧ ss.length = ws.length ∧ fins ms ∧ aboves ss ∧ ones ws
theorem isMix.pos {ws ms ss : List Nat} (h : isMix ws ms ss) : 1 ≤ ws.length := by
  obtain ⟨_, _, _, _, _, _, h5⟩ := h
  cases ws with
  | nil => rw [near_nil] at h5; cases h5
  | cons x t => simp
theorem above_fins {ss : List Nat} (h : aboves ss) : fins ss := fun i hi => by
  have := h i hi
  unfold aboveB at this
  simp only [Bool.and_eq_true] at this
  exact this.1
theorem above_le {x : Nat} (h : finA .f32 (av .f32 x) = true) : leB x 0 = !aboveB x := by
  rw [le_gt h]; unfold aboveB; rw [h]; rfl
set_option maxRecDepth 100000 in
theorem areFinite_any (xs : List Nat) (n : Nat) (hn : xs.length = n) (ao : Option Addr) (c : Nat) (w : World) (hx : Holds w ao (fl .f32 xs)) (hlen : n ≤ 1048576) :
    Calls Try.prog 56 #[.slice ao n c] w (BoD (fins xs) w) := by
  subst hn
  have HX := Lib.hid hx
  clear hx
  go_enter Try.func56, Try.ntmps56
  go_wp2
  go_loopw [7] (fun i wr => ∃ k : Nat, k ≤ xs.length ∧ i = .int .i64 k ∧ (∀ j, j < k → finA .f32 (av .f32 (xs[j]?.getD 0)) = true) ∧ ∃ n, wr = w.drewN n) (fun i _ => xs.length - (intOf i).toNat)
  case atStart => exact ⟨0, Nat.zero_le _, rfl, fun j hj => absurd hj (Nat.not_lt_zero _), 0, rfl⟩
  case round =>
    obtain ⟨k, hk, rfl, hall, n, rfl⟩ := hrel
    have HA := Lib.hid hall
    clear hall
    by_cases hlt : k < xs.length
    · obtain ⟨b, o, rfl, hc⟩ := HX.out k (by simpa [fl] using hlt)
      rw [fl_get _ _ _ hlt] at hc
      obtain ⟨x, hx⟩ : ∃ x, x = xs[k]?.getD 0 := ⟨_, rfl⟩
      rw [← hx] at hc
      have HE := Lib.hid hx
      clear hx
      go_wp2_with (first | (go_at_call 74; fail))
      refine (IsFinite_any _ _).mono ?_
      rintro e w' ⟨n2, rfl, rfl⟩
      cases hf : finA .f32 (av .f32 x) with
      | true =>
        have HF := Lib.hid hf
        clear hf
        go_wp2
        go_roundw
        case rel =>
          refine ⟨k + 1, by omega, by go_num, fun j hj => ?_, _, rfl⟩
          by_cases e : j = k
          · subst e; rw [← HE.out]; exact HF.out
          · exact HA.out j (by omega)
        case measure => simp [intOf]; omega
      | false =>
        have HF := Lib.hid hf
        clear hf
        go_wp2
        go_ret
        refine BoD.mk _ _ (falseIs fun h => ?_)
        have := h k hlt
        rw [← HE.out, HF.out] at this
        cases this
    · obtain rfl : k = xs.length := by omega
      go_wp2
      go_ret
      exact BoD.mk _ _ ⟨fun _ => HA.out, fun _ => rfl⟩
set_option maxRecDepth 100000 in
theorem l02Finite_any (xs : List Nat) (n : Nat) (hn : xs.length = n) (ao : Option Addr) (c : Nat) (w : World) (hx : Holds w ao (fl .f32 xs)) (hlen : n ≤ 1048576) :
    Calls Try.prog 79 #[.slice ao n c] w (BoD (fins xs) w) := by
  subst hn
  have HX := Lib.hid hx
  clear hx
  go_enter Try.func79, Try.ntmps79
  go_wp2
  go_loopw [3] (fun i wr => ∃ k : Nat, k ≤ xs.length ∧ i = .int .i64 k ∧ (∀ j, j < k → finA .f32 (av .f32 (xs[j]?.getD 0)) = true) ∧ ∃ n, wr = w.drewN n) (fun i _ => xs.length - (intOf i).toNat)
  case atStart => exact ⟨0, Nat.zero_le _, rfl, fun j hj => absurd hj (Nat.not_lt_zero _), 0, rfl⟩
  case round =>
    obtain ⟨k, hk, rfl, hall, n, rfl⟩ := hrel
    have HA := Lib.hid hall
    clear hall
    by_cases hlt : k < xs.length
    · obtain ⟨b, o, rfl, hc⟩ := HX.out k (by simpa [fl] using hlt)
      rw [fl_get _ _ _ hlt] at hc
      obtain ⟨x, hx⟩ : ∃ x, x = xs[k]?.getD 0 := ⟨_, rfl⟩
      rw [← hx] at hc
      have HE := Lib.hid hx
      clear hx
      go_wp2_with (first | (go_at_call 73; fail))
      refine (l01Finite_any _ _).mono ?_
      rintro e w' ⟨n2, rfl, rfl⟩
      cases hf : finA .f32 (av .f32 x) with
      | true =>
        have HF := Lib.hid hf
        clear hf
        go_wp2
        go_roundw
        case rel =>
          refine ⟨k + 1, by omega, by go_num, fun j hj => ?_, _, rfl⟩
          by_cases e : j = k
          · subst e; rw [← HE.out]; exact HF.out
          · exact HA.out j (by omega)
        case measure => simp [intOf]; omega
      | false =>
        have HF := Lib.hid hf
        clear hf
        go_wp2
        go_ret
        refine BoD.mk _ _ (falseIs fun h => ?_)
        have := h k hlt
        rw [← HE.out, HF.out] at this
        cases this
    · obtain rfl : k = xs.length := by omega
      go_wp2
      go_ret
      exact BoD.mk _ _ ⟨fun _ => HA.out, fun _ => rfl⟩
set_option maxRecDepth 100000 in
set_option maxHeartbeats 2000000 in
theorem implValidMix_any (ws ms ss : List Nat) (n2 n3 : Nat) (h2 : ms.length = n2) (h3 : ss.length = n3) (ao bo eo : Option Addr) (c d f : Nat) (w : World) (hx : Holds w ao (fl .f32 ws)) (hy : Holds w bo (fl .f32 ms)) (hz : Holds w eo (fl .f32 ss)) (hlen : ws.length ≤ 1048576) (hl2 : n2 ≤ 1048576) (hl3 : n3 ≤ 1048576) :
    Calls Try.prog 89 #[.agg #[.slice ao ws.length c, .slice bo n2 d, .slice eo n3 f]] w (Bo (isMix ws ms ss) w) := by
  have HX := Lib.hid (And.intro hx (And.intro hy hz))
  have HN := Lib.hid (And.intro h2 h3)
  clear hx hy hz
  by_cases h0 : (8 : Int) < ws.length
  · go_enter Try.func89, Try.ntmps89
    go_wp2
    go_ret
    exact Bo.mk _ (falseIs fun h => by have := h.1; omega) ((by repeat (first | with_reducible exact Below.refl _ _ | with_reducible exact HBL | with_reducible refine Below.drew ?_ | with_reducible refine Bel_drewN ?_ _ | with_reducible refine Below.alloc ?_ (by first | omega | (simp; done) | (simp; omega)) _ | with_reducible refine Below.setCell ?_ (by first | omega | (simp; done) | (simp; omega)) _)))
  · have h0' : (ws.length : Int) ≤ 8 := by omega
    by_cases he : n2 = ws.length
    · subst he
      by_cases he3 : n3 = ws.length
      · subst he3
        clear h0 h2 h3
        go_enter Try.func89, Try.ntmps89
        go_wp2_with (first | (go_at_call 56; fail))
        generalize hW : World.alloc _ _ = w1
        have H1 : Hid (Whole w1 w.heap.size 60 #[.slice ao ws.length c, .slice bo ws.length d, .slice eo ws.length f] ∧ Below w.heap.size w w1) := Lib.hid (by rw [← hW]; exact ⟨Whole.made _ _ _, (by repeat (first | with_reducible exact Below.refl _ _ | with_reducible exact HBL | with_reducible refine Below.drew ?_ | with_reducible refine Bel_drewN ?_ _ | with_reducible refine Below.alloc ?_ (by first | omega | (simp; done) | (simp; omega)) _ | with_reducible refine Below.setCell ?_ (by first | omega | (simp; done) | (simp; omega)) _))⟩)
        clear hW
        refine (areFinite_any ms _ HN.out.1 _ _ _ (HX.out.2.1.below H1.out.2) (by omega)).mono ?_
        rintro e w' ⟨b, n, rfl, hb, rfl⟩
        have HB := Lib.hid hb
        clear hb
        obtain ⟨hc0, hf0⟩ := H1.out.1.facts
        cases b with
        | false =>
          go_wp2
          go_ret
          exact Bo.mk _ (falseIs fun h => by have := HB.out.2 h.2.2.2.1; cases this) (Bel_drewN H1.out.2 _)
        | true =>
          go_wp2_with (first | (go_at_call 56; fail))
          refine (areFinite_any ss _ HN.out.2 _ _ _ ((HX.out.2.2.below H1.out.2).drewN n) (by omega)).mono ?_
          rintro e w' ⟨b, n', rfl, hb, rfl⟩
          have HB2 := Lib.hid hb
          clear hb
          cases b with
          | false =>
            go_wp2
            go_ret
            exact Bo.mk _ (falseIs fun h => by have := HB2.out.2 (above_fins h.2.2.2.2.1); cases this) (Bel_drewN H1.out.2 _)
          | true =>
            go_wp2
            go_loopw [40] (fun i wr => ∃ k : Nat, k ≤ ws.length ∧ i = .int .i64 k ∧ (∀ j, j < k → aboveB (ss[j]?.getD 0) = true) ∧ ∃ n, wr = w1.drewN n) (fun i _ => ws.length - (intOf i).toNat)
            case atStart => exact ⟨0, Nat.zero_le _, rfl, fun j hj => absurd hj (Nat.not_lt_zero _), _, rfl⟩
            case round =>
              obtain ⟨k, hk, rfl, hall, n3, rfl⟩ := hrel
              have HA := Lib.hid hall
              clear hall
              by_cases hlt : k < ws.length
              · have hlt3 : k < ss.length := by rw [HN.out.2]; exact hlt
                obtain ⟨b, o, rfl, hc⟩ := (HX.out.2.2.below H1.out.2) k (by simpa [fl] using hlt3)
                rw [fl_get _ _ _ hlt3] at hc
                have HF := Lib.hid (HB2.out.1 trivial k hlt3)
                obtain ⟨x, hx⟩ : ∃ x, x = ss[k]?.getD 0 := ⟨_, rfl⟩
                rw [← hx] at hc HF
                have HE := Lib.hid hx
                clear hx hlt3
                cases ha : aboveB x with
                | true =>
                  have HAB := Lib.hid ha
                  have hle := le_fact (x := x) (y := 0) (b := false) (by rw [above_le HF.out, ha]; rfl)
                  clear ha
                  go_wp2
                  go_roundw
                  case rel =>
                    refine ⟨k + 1, by omega, by go_num, fun j hj => ?_, _, rfl⟩
                    by_cases e : j = k
                    · subst e; rw [← HE.out]; exact HAB.out
                    · exact HA.out j (by omega)
                  case measure => simp [intOf]; omega
                | false =>
                  have HAB := Lib.hid ha
                  have hle := le_fact (x := x) (y := 0) (b := true) (by rw [above_le HF.out, ha]; rfl)
                  clear ha
                  go_wp2
                  go_ret
                  refine Bo.mk _ (falseIs fun h => ?_) (Bel_drewN H1.out.2 _)
                  have := h.2.2.2.2.1 k (by rw [HN.out.2]; exact hlt)
                  rw [← HE.out, HAB.out] at this
                  cases this
              · obtain rfl : k = ws.length := by omega
                go_wp2_with (first | (go_at_call 119; fail))
                refine (addUp_any ws _ rfl _ _ _ ((HX.out.1.below H1.out.2).drewN n3) (by omega)).mono ?_
                rintro e w' ⟨b, rfl, hb, hbel⟩
                have HB3 := Lib.hid (And.intro hb hbel)
                clear hb hbel
                go_wp2
                go_ret
                refine Bo.mk _ ?_ (Bel_next (Bel_drewN H1.out.2 n3) HB3.out.2)
                rw [HB3.out.1]
                exact ⟨fun h => ⟨by omega, HN.out.1, HN.out.2, HB.out.1 trivial, fun i hi => HA.out i (by rw [← HN.out.2]; exact hi), h⟩, fun h => h.2.2.2.2.2⟩
      · have hne : ((n3 : Int) != (ws.length : Int)) = true := by simp; omega
        have HE := Lib.hid he3
        clear he3
        go_enter Try.func89, Try.ntmps89
        go_wp2
        go_ret
        exact Bo.mk _ (falseIs fun h => HE.out (HN.out.2.symm.trans h.2.2.1)) ((by repeat (first | with_reducible exact Below.refl _ _ | with_reducible exact HBL | with_reducible refine Below.drew ?_ | with_reducible refine Bel_drewN ?_ _ | with_reducible refine Below.alloc ?_ (by first | omega | (simp; done) | (simp; omega)) _ | with_reducible refine Below.setCell ?_ (by first | omega | (simp; done) | (simp; omega)) _)))
    · have hne : ((n2 : Int) != (ws.length : Int)) = true := by simp; omega
      have HE := Lib.hid he
      clear he
      go_enter Try.func89, Try.ntmps89
      go_wp2
      go_ret
      exact Bo.mk _ (falseIs fun h => HE.out (HN.out.1.symm.trans h.2.1)) ((by repeat (first | with_reducible exact Below.refl _ _ | with_reducible exact HBL | with_reducible refine Below.drew ?_ | with_reducible refine Bel_drewN ?_ _ | with_reducible refine Below.alloc ?_ (by first | omega | (simp; done) | (simp; omega)) _ | with_reducible refine Below.setCell ?_ (by first | omega | (simp; done) | (simp; omega)) _)))
theorem l02Above_is (x : Nat) (b : Bool) (h : aboveB x = b) (w : World) : Calls Try.prog 92 #[.float .f32 x] w (Ret (.bool b) w) := h ▸ l02Above_any x w
/-- What the model has seen behind k rounds. -/
def mixTo (ws ss : List Nat) (k : Nat) : Prop := ∀ i, i < k → leastB (ws[i]?.getD 0) = true ∧ aboveB (ss[i]?.getD 0) = true
theorem mixTo_next {ws ss : List Nat} {k : Nat} (h : mixTo ws ss k) (h1 : leastB (ws[k]?.getD 0) = true) (h2 : aboveB (ss[k]?.getD 0) = true) : mixTo ws ss (k + 1) := fun i hi => by
  by_cases e : i = k
  · subst e; exact ⟨h1, h2⟩
  · exact h i (by omega)
set_option maxRecDepth 100000 in
set_option maxHeartbeats 4000000 in
theorem l05Mixture_any (ws ms ss : List Nat) (n2 n3 : Nat) (h2 : ms.length = n2) (h3 : ss.length = n3) (ao bo eo : Option Addr) (c d f g : Nat) (w : World) (hw : Whole w g 60 #[.slice ao ws.length c, .slice bo n2 d, .slice eo n3 f]) (hx : Holds w ao (fl .f32 ws)) (hy : Holds w bo (fl .f32 ms)) (hz : Holds w eo (fl .f32 ss)) (hlen : ws.length ≤ 1048576) (hl2 : n2 ≤ 1048576) (hl3 : n3 ≤ 1048576) :
    Calls Try.prog 86 #[.pointer (some ⟨g, 0, none⟩)] w (BoD (isMix ws ms ss) w) := by
  have HX := Lib.hid (And.intro hx (And.intro hy hz))
  have HN := Lib.hid (And.intro h2 h3)
  obtain ⟨hc0, hf0⟩ := hw.facts
  clear hx hy hz hw
  by_cases h00 : ws.length < 1
  · have h00' : (ws.length : Int) < 1 := by omega
    go_enter Try.func86, Try.ntmps86
    go_wp2
    go_ret
    exact BoD.mk _ 0 (falseIs fun h => by have := h.pos; omega)
  have h00' : (1 : Int) ≤ ws.length := by omega
  by_cases h0 : (8 : Int) < ws.length
  · go_enter Try.func86, Try.ntmps86
    go_wp2
    go_ret
    exact BoD.mk _ 0 (falseIs fun h => by have := h.1; omega)
  · have h0' : (ws.length : Int) ≤ 8 := by omega
    by_cases he : n2 = ws.length
    · subst he
      by_cases he3 : n3 = ws.length
      · subst he3
        clear h0 h2 h3
        go_enter Try.func86, Try.ntmps86
        go_wp2_with (first | (go_at_call 79; fail))
        refine (l02Finite_any ms _ HN.out.1 _ _ _ HX.out.2.1 (by omega)).mono ?_
        rintro e w' ⟨b, n, rfl, hb, rfl⟩
        have HB := Lib.hid hb
        clear hb
        cases b with
        | false =>
          go_wp2
          go_ret
          exact BoD.mk _ _ (falseIs fun h => by have := HB.out.2 h.2.2.2.1; cases this)
        | true =>
          go_wp2
          go_loopw [4, 48] (fun s i wr => ∃ k : Nat, k ≤ ws.length ∧ i = .int .i64 k ∧ mixTo ws ss k ∧ ∃ r, s = .float .f32 r ∧ Fv .f32 (sumA .f32 (ws.take k)) r ∧ ∃ n, wr = w.drewN n) (fun _ i _ => ws.length - (intOf i).toNat)
          case atStart => exact ⟨0, Nat.zero_le _, rfl, fun j hj => absurd hj (Nat.not_lt_zero _), 0, rfl, Fv_zero _, n, rfl⟩
          case round =>
            obtain ⟨k, hk, rfl, hall, r, rfl, hr, n3, rfl⟩ := hrel
            have HA := Lib.hid (And.intro hall hr)
            clear hall hr
            by_cases hlt : k < ws.length
            · have hlt3 : k < ss.length := by rw [HN.out.2]; exact hlt
              obtain ⟨b, o, rfl, hc⟩ := HX.out.1 k (by simpa [fl] using hlt)
              obtain ⟨b', o', rfl, hc'⟩ := HX.out.2.2 k (by simpa [fl] using hlt3)
              rw [fl_get _ _ _ hlt] at hc
              rw [fl_get _ _ _ hlt3] at hc'
              have HT := Lib.hid (take_next ws k hlt)
              obtain ⟨x, hx⟩ : ∃ x, x = ws[k]?.getD 0 := ⟨_, rfl⟩
              obtain ⟨y, hy⟩ : ∃ y, y = ss[k]?.getD 0 := ⟨_, rfl⟩
              rw [← hx] at hc HT
              rw [← hy] at hc'
              have HE := Lib.hid (And.intro hx hy)
              clear hx hy hlt3
              cases hl : leastB x with
              | false =>
                have HL := Lib.hid hl
                clear hl
                go_wp2_with (first | (go_at_call 117; refine (l02Least_is _ _ HL.out _).mono ?_; rintro e w' ⟨q, rfl, rfl⟩))
                go_ret
                refine BoD.mk _ _ (falseIs fun h => ?_)
                have := h.2.2.2.2.2.1 k hlt
                rw [← HE.out.1, HL.out] at this
                cases this
              | true =>
                have HL := Lib.hid hl
                clear hl
                cases ha : aboveB y with
                | false =>
                  have HAB := Lib.hid ha
                  clear ha
                  go_wp2_with (first | (go_at_call 117; refine (l02Least_is _ _ HL.out _).mono ?_; rintro e w' ⟨q, rfl, rfl⟩) | (go_at_call 92; refine (l02Above_is _ _ HAB.out _).mono ?_; rintro e w' ⟨q2, rfl, rfl⟩))
                  go_ret
                  refine BoD.mk _ _ (falseIs fun h => ?_)
                  have := h.2.2.2.2.1 k (by rw [HN.out.2]; exact hlt)
                  rw [← HE.out.2, HAB.out] at this
                  cases this
                | true =>
                  have HAB := Lib.hid ha
                  clear ha
                  go_wp2_with (first | (go_at_call 117; refine (l02Least_is _ _ HL.out _).mono ?_; rintro e w' ⟨q, rfl, rfl⟩) | (go_at_call 92; refine (l02Above_is _ _ HAB.out _).mono ?_; rintro e w' ⟨q2, rfl, rfl⟩) | (refine wpList_farith _ _ _ _ _ .f32 _ _ rfl rfl rfl ?_; intro r' n' hr'))
                  go_roundw
                  case rel => exact ⟨k + 1, by omega, by go_num, mixTo_next HA.out.1 (by rw [← HE.out.1]; exact HL.out) (by rw [← HE.out.2]; exact HAB.out), r', rfl, by rw [HT.out, sumA_snoc, ← HA.out.2.2]; exact hr', _, rfl⟩
                  case measure => simp [intOf]; omega
            · obtain rfl : k = ws.length := by omega
              have HE := Lib.hid (take_whole ws ws.length (Nat.le_refl _))
              clear hc0 hf0
              go_wp2_with (first | (refine wpList_farith _ _ _ _ _ .f32 _ _ rfl rfl rfl ?_; intro r1 n1 hr1; (obtain ⟨bq, hbq⟩ : ∃ b, leB r1 981668463 = b := ⟨_, rfl⟩); have hle' := le_fact hbq) | (refine wpList_farith_g _ _ _ _ _ .f32 _ _ rfl rfl rfl rfl ?_; intro r2 n2 hr2))
              · rename_i hq
                go_ret
                refine BoD.mk _ _ ?_
                have e := near_of_Fv2 (v := sumA .f32 ws) (r := r1) (s := r2) (by unfold offV; rw [← HE.out, ← HA.out.2.2]; exact hr1) (by unfold offV; rw [← HE.out, ← HA.out.2.2]; exact hr2)
                rw [hbq, hq, Bool.true_and] at e
                have e' : (FloatKind.f32.format.order r2 3129152111 == some Ordering.gt || FloatKind.f32.format.order r2 3129152111 == some Ordering.eq) = geB r2 3129152111 := rfl
                rw [e', e]
                exact ⟨fun h => ⟨by omega, HN.out.1, HN.out.2, HB.out.1 trivial, fun i hi => (HA.out.1 i (by rw [← HN.out.2]; exact hi)).2, fun i hi => (HA.out.1 i hi).1, h⟩, fun h => h.2.2.2.2.2.2⟩
              · rename_i hq
                go_ret
                refine BoD.mk _ _ (falseIs fun h => ?_)
                have e := near_of_Fv2 (v := sumA .f32 ws) (r := r1) (s := r1) (by unfold offV; rw [← HE.out, ← HA.out.2.2]; exact hr1) (by unfold offV; rw [← HE.out, ← HA.out.2.2]; exact hr1)
                rw [hbq, Bool.eq_false_iff.2 hq, Bool.false_and, h.2.2.2.2.2.2] at e
                cases e
      · have hne : ((n3 : Int) != (ws.length : Int)) = true := by simp; omega
        have HE := Lib.hid he3
        clear he3
        go_enter Try.func86, Try.ntmps86
        go_wp2
        go_ret
        exact BoD.mk _ 0 (falseIs fun h => HE.out (HN.out.2.symm.trans h.2.2.1))
    · have hne : ((n2 : Int) != (ws.length : Int)) = true := by simp; omega
      have HE := Lib.hid he
      clear he
      go_enter Try.func86, Try.ntmps86
      go_wp2
      go_ret
      exact BoD.mk _ 0 (falseIs fun h => HE.out (HN.out.1.symm.trans h.2.1))
end Go.Proofs.Ytlnhobikejbkkaa
