/- Shares that are valid. -/
import Derived.Test.YtgeomaeccalceaaKo
import Derived.Test.YtgeomaeccalceaaFq
import Derived.BigQuiet
namespace Go.Proofs.Ytgeomaeccalceaa
open Go Go.RowKit Fl Vag
set_option linter.unusedVariables false

/-- A number less 1. -/
def offV (v : Option Nat) : Option Nat := aop .sub .f32 v (some 1065353216)
def nearB (d : Nat) : Bool := geB d 3129152111 && leB d 981668463
def nearV (v : Option Nat) : Bool := match offV v with | some d => nearB d | none => false
theorem nan_ord {x y : Nat} (h : av .f32 x = none) : geB x y = false ∧ leB x y = false ∧ ltB x y = false ∧ gtB x y = false := by
  have e : FloatKind.f32.format.order x y = none := by rw [aord_order, h]; rfl
  unfold geB leB ltB gtB
  rw [e]; exact ⟨rfl, rfl, rfl, rfl⟩
theorem near_of_Fv {v : Option Nat} {r : Nat} (h : Fv .f32 (offV v) r) : nearB r = nearV v := by
  have h2 := h.2
  unfold nearV
  cases e : offV v with
  | none => rw [e] at h2; unfold nearB; rw [(nan_ord h2).1]; rfl
  | some d => rw [e] at h2; rw [av_eq h2]
theorem near_of_Fv2 {v : Option Nat} {r s : Nat} (h : Fv .f32 (offV v) r) (k : Fv .f32 (offV v) s) : (leB r 981668463 && geB s 3129152111) = nearV v := by
  rw [← near_of_Fv h]
  have h2 := h.2
  have k2 := k.2
  cases e : offV v with
  | none => rw [e] at h2 k2; unfold nearB; rw [(nan_ord h2).1, (nan_ord h2).2.1]; rfl
  | some d => rw [e] at h2 k2; rw [av_eq h2, av_eq k2]; unfold nearB; rw [Bool.and_comm]
theorem near_fin {v : Option Nat} (h : nearV v = true) : finA .f32 v = true := by
  unfold nearV at h
  refine sub_fin (y := 1065353216) ?_
  show finA .f32 (offV v) = true
  cases e : offV v with
  | none => rw [e] at h; cases h
  | some d =>
    rw [e] at h
    have ha : av .f32 d = some d := by
      rcases av_self_or d with h' | h'
      · exact h'
      · have h3 : nearB d = true := h
        unfold nearB at h3; rw [(nan_ord h').1] at h3; cases h3
    have h3 : nearB d = true := h
    unfold nearB at h3
    simp only [Bool.and_eq_true] at h3
    show (!(Ieee.single.read d).isInfinity) = true
    rcases read_all d with ⟨s, m, i, e', _⟩ | ⟨s, e'⟩ | ⟨s, f, e'⟩
    · rw [e']; rfl
    · cases s with
      | true =>
        have hlo : av .f32 3129152111 = some 3129152111 := by decide +kernel
        rw [geB_K ha hlo] at h3
        have e1 : fK d = -big := by unfold fK; rw [e']; rfl
        have e2 : ¬ (fK 3129152111 ≤ -big) := by decide +kernel
        rw [e1] at h3
        exact absurd (of_decide_eq_true h3.1) e2
      | false =>
        have hhi : av .f32 981668463 = some 981668463 := by decide +kernel
        rw [leB_K ha hhi] at h3
        have e1 : fK d = big := by unfold fK; rw [e']; rfl
        have e2 : ¬ (big ≤ fK 981668463) := by decide +kernel
        rw [e1] at h3
        exact absurd (of_decide_eq_true h3.2) e2
    · rw [e']; rfl
theorem near_nil : nearV (sumA .f32 []) = false := by decide +kernel

def ups (vs : List Nat) : Prop := ∀ i, i + 1 < vs.length → leB (vs[i + 1]?.getD 0) (vs[i]?.getD 0) = false
def fins (vs : List Nat) : Prop := ∀ i, i < vs.length → finA .f32 (av .f32 (vs[i]?.getD 0)) = true
def leasts (cs : List Nat) : Prop := ∀ i, i < cs.length → leastB (cs[i]?.getD 0) = true
/-- Numbers of at least 0 with the sum 1, nearly. -/
def ones (cs : List Nat) : Prop := leasts cs ∧ nearV (sumA .f32 cs) = true
/-- A valid share. -/
def isShr (vs cs : List Nat) : Prop := vs.length ≤ 64 ∧ cs.length = vs.length ∧ fins vs ∧ ups vs ∧ ones cs
theorem isShr.pos {vs cs : List Nat} (h : isShr vs cs) : 1 ≤ vs.length := by
  obtain ⟨_, h2, _, _, _, h5⟩ := h
  cases cs with
  | nil => rw [near_nil] at h5; cases h5
  | cons x t => simp at h2; omega
theorem not_lt_least {cs : List Nat} (hn : nearV (sumA .f32 cs) = true) (h : ∀ i, i < cs.length → ltB (cs[i]?.getD 0) 0 = false) : leasts cs := fun i hi => by
  have hf := sum_fin (near_fin hn) i hi
  unfold leastB
  rw [hf, lt_ge hf, h i hi]; rfl

/-- It returns whether a fact holds, and has turned only memory of its own. -/
def Bo (p : Prop) (w : World) (e : Ending) (w' : World) : Prop := ∃ b, e = .returned (.bool b) ∧ (b = true ↔ p) ∧ Below w.heap.size w w'
theorem Bo.yes {p : Prop} (h : p) {w w' : World} {e : Ending} (hp : Bo p w e w') : RetB (.bool true) w e w' := by
  obtain ⟨b, rfl, hb, hw⟩ := hp
  exact ⟨by rw [hb.2 h], hw⟩
theorem Bo.no {p : Prop} (h : ¬p) {w w' : World} {e : Ending} (hp : Bo p w e w') : RetB (.bool false) w e w' := by
  obtain ⟨b, rfl, hb, hw⟩ := hp
  refine ⟨?_, hw⟩
  cases b with
  | true => exact absurd (hb.1 rfl) h
  | false => rfl
theorem Bo.mk {p : Prop} {w w' : World} (b : Bool) (h : b = true ↔ p) (hw : Below w.heap.size w w') : Bo p w (.returned (.bool b)) w' := ⟨b, rfl, h, hw⟩
theorem falseIs {p : Prop} (h : ¬ p) : false = true ↔ p := ⟨fun h => (by cases h), fun h' => absurd h' h⟩
theorem quiet_Ret {P : Program} {f : FuncId} {args : Array Value} {w : World} {n : Nat} {v : Value}
    (h : Calls P f args (w.drewN n) (Ret v (w.drewN n))) : Calls P f args (w.drewN n) fun e w'' => e = .returned v ∧ ∃ m, w'' = w.drewN m :=
  h.mono fun _ _ ⟨m, he, hm⟩ => ⟨he, n + m, by rw [hm, World.drewN_drewN]⟩

theorem quiet_RetN {P : Program} {f : FuncId} {args : Array Value} {w : World} {n k : Nat} {v : Value}
    (h : Calls P f args (w.drewN (n + k)) (Ret v (w.drewN (n + k)))) : Calls P f args (w.drewN (n + k)) fun e w'' => e = .returned v ∧ ∃ m, w'' = w.drewN (n + m) :=
  h.mono fun _ _ ⟨m, he, hm⟩ => ⟨he, k + m, by rw [hm, World.drewN_drewN, Nat.add_assoc]⟩

set_option maxRecDepth 100000 in
set_option maxHeartbeats 1000000 in
theorem addUp_any (cs : List Nat) (n : Nat) (hn : cs.length = n) (ao : Option Addr) (c : Nat) (w : World) (hx : Holds w ao (fl .f32 cs)) (hlen : n ≤ 256) :
    Calls Try.prog 115 #[.slice ao n c] w (Bo (ones cs) w) := by
  subst hn
  have HX := Lib.hid hx
  have hl' : (cs.length : Int) ≤ 256 := by omega
  clear hx
  go_enter Try.func115, Try.ntmps115
  go_wp2
  go_loopw [9] (fun i wr => ∃ k : Nat, k ≤ cs.length ∧ i = .int .i64 k ∧ (∀ i, i < k → ltB (cs[i]?.getD 0) 0 = false) ∧ wr = w) (fun i _ => cs.length - (intOf i).toNat)
  case atStart => exact ⟨0, Nat.zero_le _, rfl, fun i hi => absurd hi (Nat.not_lt_zero _), rfl⟩
  case round =>
    obtain ⟨k, hk, rfl, hall, rfl⟩ := hrel
    have HA := Lib.hid hall
    clear hall
    by_cases hlt : k < cs.length
    · obtain ⟨b, o, rfl, hc⟩ := HX.out k (by simpa [fl] using hlt)
      rw [fl_get _ _ _ hlt] at hc
      obtain ⟨x, hx⟩ : ∃ x, x = cs[k]?.getD 0 := ⟨_, rfl⟩
      rw [← hx] at hc
      have HE := Lib.hid hx
      clear hx
      cases hb : ltB x 0 with
      | true =>
        have HB := Lib.hid hb
        have hb' : (FloatKind.f32.format.order x 0 == some Ordering.lt) = true := hb
        clear hb
        go_wp2
        go_ret
        refine Bo.mk false (falseIs fun h => ?_) (Below.refl _ _)
        have := h.1 k hlt
        rw [← HE.out, lt_least HB.out] at this
        cases this
      | false =>
        have HB := Lib.hid hb
        have hb' : (FloatKind.f32.format.order x 0 == some Ordering.lt) = false := hb
        clear hb
        go_wp2
        go_roundw
        case rel =>
          refine ⟨k + 1, by omega, by go_num, fun i hi => ?_, trivial⟩
          by_cases e : i = k
          · subst e; rw [← HE.out]; exact HB.out
          · exact HA.out i (by omega)
        case measure => simp [intOf]; omega
    · obtain rfl : k = cs.length := by omega
      go_wp2_with fail
      refine (implSum_in cs _ _ _ HX.out (by omega)).mono ?_
      rintro e w' ⟨r, n, rfl, hr, rfl⟩
      have HR := Lib.hid hr
      clear hr
      go_wp2_with (first | (refine wpList_farith_g _ _ _ _ _ .f32 _ _ rfl rfl rfl rfl ?_; intro r1 n1 hr1) | (go_at_call 139; fail))
      have HN : Hid (nearB r1 = nearV (sumA .f32 cs)) := Lib.hid (near_of_Fv (by unfold offV; rw [← HR.out.2]; exact hr1))
      clear hr1
      refine (isWithin_any _ _ _ _).mono ?_
      rintro e w' ⟨rfl, rfl⟩
      go_wp2
      go_ret
      refine Bo.mk _ ?_ (Bel_drewN (Below.refl _ _) _)
      have e : (geB r1 3129152111 && leB r1 981668463) = nearV (sumA .f32 cs) := HN.out
      rw [e]
      exact ⟨fun h => ⟨not_lt_least h HA.out, h⟩, fun h => h.2⟩
theorem le_fact {x y : Nat} {b : Bool} (h : leB x y = b) : (FloatKind.f32.format.order x y == some Ordering.lt || FloatKind.f32.format.order x y == some Ordering.eq) = b := h
theorem ge_factB {x y : Nat} {b : Bool} (h : geB x y = b) : (FloatKind.f32.format.order x y == some Ordering.gt || FloatKind.f32.format.order x y == some Ordering.eq) = b := h
theorem lt_factB {x y : Nat} {b : Bool} (h : ltB x y = b) : (FloatKind.f32.format.order x y == some Ordering.lt) = b := h
theorem gt_factB {x y : Nat} {b : Bool} (h : gtB x y = b) : (FloatKind.f32.format.order x y == some Ordering.gt) = b := h
/-- Values that are in order, up to the kth one. -/
def upsTo (vs : List Nat) (k : Nat) : Prop := (∀ i, i < k → finA .f32 (av .f32 (vs[i]?.getD 0)) = true) ∧ ∀ i, i + 1 < k → leB (vs[i + 1]?.getD 0) (vs[i]?.getD 0) = false
theorem upsTo_zero (vs : List Nat) : upsTo vs 0 := ⟨fun i hi => absurd hi (Nat.not_lt_zero _), fun i hi => absurd hi (Nat.not_lt_zero _)⟩
theorem upsTo_next {vs : List Nat} {k : Nat} (h : upsTo vs k) (hf : finA .f32 (av .f32 (vs[k]?.getD 0)) = true) (hl : ∀ j, k = j + 1 → leB (vs[k]?.getD 0) (vs[j]?.getD 0) = false) : upsTo vs (k + 1) := by
  refine ⟨fun i hi => ?_, fun i hi => ?_⟩
  · by_cases e : i = k
    · subst e; exact hf
    · exact h.1 i (by omega)
  · by_cases e : i + 1 = k
    · subst e; exact hl i rfl
    · exact h.2 i (by omega)
/-- What the model has seen behind k rounds. -/
def okTo (vs cs : List Nat) (k : Nat) : Prop := upsTo vs k ∧ ∀ i, i < k → leastB (cs[i]?.getD 0) = true
theorem okTo_zero (vs cs : List Nat) : okTo vs cs 0 := ⟨upsTo_zero _, fun i hi => absurd hi (Nat.not_lt_zero _)⟩
theorem okTo_next {vs cs : List Nat} {k : Nat} (h : okTo vs cs k) (hf : finA .f32 (av .f32 (vs[k]?.getD 0)) = true) (hl : ∀ j, k = j + 1 → leB (vs[k]?.getD 0) (vs[j]?.getD 0) = false) (hc : leastB (cs[k]?.getD 0) = true) : okTo vs cs (k + 1) := by
  refine ⟨upsTo_next h.1 hf hl, fun i hi => ?_⟩
  by_cases e : i = k
  · subst e; exact hc
  · exact h.2 i (by omega)
theorem isShr.okTo {vs cs : List Nat} (h : isShr vs cs) : okTo vs cs vs.length := ⟨⟨h.2.2.1, h.2.2.2.1⟩, fun i hi => h.2.2.2.2.1 i (by rw [h.2.1]; exact hi)⟩
theorem l01Fin_is (x : Nat) (b : Bool) (h : finA .f32 (av .f32 x) = b) (w : World) : Calls Try.prog 125 #[.float .f32 x] w (Ret (.bool b) w) := h ▸ l01Finite_any x w
theorem l02Least_is (x : Nat) (b : Bool) (h : leastB x = b) (w : World) : Calls Try.prog 87 #[.float .f32 x] w (Ret (.bool b) w) := h ▸ l02Least_any x w
/-- It returns whether a fact holds, and has drawn at most. -/
def BoD (p : Prop) (w : World) (e : Ending) (w' : World) : Prop := ∃ b n, e = .returned (.bool b) ∧ (b = true ↔ p) ∧ w' = w.drewN n
theorem BoD.mk {p : Prop} {w : World} (b : Bool) (n : Nat) (h : b = true ↔ p) : BoD p w (.returned (.bool b)) (w.drewN n) := ⟨b, n, rfl, h, rfl⟩
theorem drewn_more {w w' : World} (h : ∃ n, w' = w.drewN n) (m : Nat) : ∃ n, w'.drewN m = w.drewN n := by
  obtain ⟨n, rfl⟩ := h
  exact ⟨n + m, by rw [World.drewN_drewN]⟩
theorem BoD.of {p : Prop} {w w' : World} (b : Bool) (h : b = true ↔ p) (hw : ∃ n, w' = w.drewN n) : BoD p w (.returned (.bool b)) w' := by
  obtain ⟨n, rfl⟩ := hw
  exact BoD.mk b n h
theorem BoD.bo {p : Prop} {w w' : World} {e : Ending} (h : BoD p w e w') : Bo p w e w' := by
  obtain ⟨b, n, rfl, hb, rfl⟩ := h
  exact ⟨b, rfl, hb, Bel_drewN (Below.refl _ _) _⟩
theorem BoD.yes {p : Prop} (h : p) {w w' : World} {e : Ending} (hp : BoD p w e w') : Ret (.bool true) w e w' := by
  obtain ⟨b, n, rfl, hb, rfl⟩ := hp
  exact ⟨n, by rw [hb.2 h], rfl⟩
theorem BoD.no {p : Prop} (h : ¬p) {w w' : World} {e : Ending} (hp : BoD p w e w') : Ret (.bool false) w e w' := by
  obtain ⟨b, n, rfl, hb, rfl⟩ := hp
  refine ⟨n, ?_, rfl⟩
  cases b with
  | true => exact absurd (hb.1 rfl) h
  | false => rfl
end Go.Proofs.Ytgeomaeccalceaa
