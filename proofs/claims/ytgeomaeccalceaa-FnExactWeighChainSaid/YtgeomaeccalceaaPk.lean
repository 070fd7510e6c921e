/- Weights: ArePicks. -/
import Derived.Test.YtgeomaeccalceaaFr
import Derived.Test.YtgeomaeccalceaaNg
namespace Go.Proofs.Ytgeomaeccalceaa
open Go Go.RowKit Fl Vag
set_option linter.unusedVariables false

theorem inf_fin {k : FloatKind} (s : Bool) : (k.format.read (k.format.write (.infinity s))).isInfinity = true := by
  cases k <;> cases s <;> decide +kernel
/-- A sum that is finite is one of finite numbers. -/
theorem add_fin {u : Option Nat} {y : Nat} (h : finA .f32 (aop .add .f32 u (av .f32 y)) = true) : finA .f32 u = true ∧ finA .f32 (av .f32 y) = true := by
  cases u with
  | none => cases h
  | some x =>
    cases hy : av .f32 y with
    | none => rw [hy] at h; cases h
    | some y' =>
      rw [hy] at h
      have key : ∀ r, Ieee.single.add x y' = some r → (Ieee.single.read r).isInfinity = false → (Ieee.single.read x).isInfinity = false ∧ (Ieee.single.read y').isInfinity = false := by
        intro r hr hi
        unfold Ieee.Format.add at hr
        have hinf : ∀ s, (Ieee.single.read (Ieee.single.write (.infinity s))).isInfinity = true := inf_fin (k := .f32)
        cases hx : Ieee.single.read x with
        | nan _ _ => exact ⟨rfl, by rw [hx] at hr; simp [Ieee.Datum.sum] at hr⟩
        | infinity s =>
          rw [hx] at hr
          cases hy : Ieee.single.read y' with
          | nan _ _ => rw [hy] at hr; simp [Ieee.Datum.sum] at hr
          | infinity t =>
            rw [hy] at hr
            simp only [Ieee.Datum.sum] at hr
            split at hr
            · cases hr; rw [hinf] at hi; cases hi
            · cases hr
          | number t n j => rw [hy] at hr; simp only [Ieee.Datum.sum, Option.map_some] at hr; cases hr; rw [hinf] at hi; cases hi
        | number s m i =>
          rw [hx] at hr
          refine ⟨rfl, ?_⟩
          cases hy : Ieee.single.read y' with
          | nan _ _ => rfl
          | infinity t => rw [hy] at hr; simp only [Ieee.Datum.sum, Option.map_some] at hr; cases hr; rw [hinf] at hi; cases hi
          | number t n j => rfl
      cases hr : Ieee.single.add x y' with
      | none =>
        have : aop .add .f32 (some x) (some y') = none := hr
        rw [this] at h; cases h
      | some r =>
        have e : aop .add .f32 (some x) (some y') = some r := hr
        rw [e] at h
        have hi : (Ieee.single.read r).isInfinity = false := by
          have : (!(Ieee.single.read r).isInfinity) = true := h
          simpa using this
        obtain ⟨h1, h2⟩ := key r hr hi
        exact ⟨by show (!(Ieee.single.read x).isInfinity) = true; rw [h1]; rfl, by show (!(Ieee.single.read y').isInfinity) = true; rw [h2]; rfl⟩
theorem sum_fin_take (xs : List Nat) : ∀ m, m ≤ xs.length → finA .f32 (sumA .f32 (xs.take m)) = true → ∀ i, i < m → finA .f32 (av .f32 (xs[i]?.getD 0)) = true
  | 0, _, _, i, hi => absurd hi (Nat.not_lt_zero _)
  | m + 1, hm, h, i, hi => by
    rw [take_next xs m (by omega), sumA_snoc] at h
    obtain ⟨h1, h2⟩ := add_fin h
    by_cases e : i = m
    · subst e; exact h2
    · exact sum_fin_take xs m (by omega) h1 i (by omega)
theorem sum_fin {xs : List Nat} (h : finA .f32 (sumA .f32 xs) = true) (i : Nat) (hi : i < xs.length) : finA .f32 (av .f32 (xs[i]?.getD 0)) = true :=
  sum_fin_take xs xs.length (Nat.le_refl _) (by rw [List.take_length]; exact h) i hi

/-- Finite and at least 0. -/
def leastB (x : Nat) : Bool := finA .f32 (av .f32 x) && geB x 0
theorem lt_ge {x : Nat} (h : finA .f32 (av .f32 x) = true) : geB x 0 = !ltB x 0 := by
  obtain ⟨s, m, i, e⟩ := fin_read h
  unfold geB ltB
  rw [ord0_num e]
  split
  · rfl
  · split <;> rfl
theorem lt_least {x : Nat} (h : ltB x 0 = true) : leastB x = false := by
  cases hf : finA .f32 (av .f32 x) with
  | false => unfold leastB; rw [hf]; rfl
  | true => unfold leastB; rw [hf, lt_ge hf, h]; rfl
/-- Finite and greater than 0, of a value. -/
def aboveV : Option Nat → Bool
  | some b => aboveB b
  | none => false
theorem aboveV_of {v : Option Nat} {r : Nat} (h : Fv .f32 v r) : aboveB r = aboveV v := by
  rw [← h.2]
  cases ha : av .f32 r with
  | none => unfold aboveB; rw [ha]; rfl
  | some b =>
    have : b = r := by
      unfold av at ha
      split at ha
      · cases ha
      · cases ha; rfl
    rw [this]; rfl
theorem aboveV_fin {v : Option Nat} (hv : ∀ b, v = some b → av .f32 b = some b) (h : aboveV v = true) : finA .f32 v = true := by
  cases v with
  | none => cases h
  | some b =>
    have h' : aboveB b = true := h
    unfold aboveB at h'
    rw [hv b rfl] at h'
    simp at h'
    exact h'.1
/-- Weights that can be picked by. -/
def picks (xs : List Nat) : Prop := 1 ≤ xs.length ∧ xs.length ≤ 64 ∧ (∀ i, i < xs.length → leastB (xs[i]?.getD 0) = true) ∧ aboveV (sumA .f32 xs) = true
/-- It returns whether they are weights. -/
def PicksP (xs : List Nat) (w : World) (e : Ending) (w' : World) : Prop := ∃ b n, e = .returned (.bool b) ∧ (b = true ↔ picks xs) ∧ w' = w.drewN n
theorem PicksP.mk {xs : List Nat} {w : World} (b : Bool) (n : Nat) (h : b = true ↔ picks xs) : PicksP xs w (.returned (.bool b)) (w.drewN n) := ⟨b, n, rfl, h, rfl⟩
theorem picks_of {xs : List Nat} {r : Nat} (hr : Fv .f32 (sumA .f32 xs) r) (h64 : xs.length ≤ 64) (hall : ∀ i, i < xs.length → ltB (xs[i]?.getD 0) 0 = false) (hg : gtB r 0 = true) :
    finA .f32 (av .f32 r) = true ↔ picks xs := by
  have ha : aboveB r = finA .f32 (av .f32 r) := by unfold aboveB; rw [hg, Bool.and_true]
  constructor
  · intro h
    refine ⟨?_, h64, fun i hi => ?_, by rw [← aboveV_of hr, ha]; exact h⟩
    · cases xs with
      | nil =>
        have h0 : av .f32 r = some 0 := hr.2
        have := av_eq h0
        subst this
        cases hg
      | cons x t => simp
    · have hf := sum_fin (xs := xs) (by rw [← hr.2]; exact h) i hi
      unfold leastB
      rw [hf, lt_ge hf, hall i hi]; rfl
  · intro h
    rw [← ha, aboveV_of hr]; exact h.2.2.2
theorem l02Least_any (x : Nat) (w : World) : Calls Try.prog 87 #[.float .f32 x] w (Ret (.bool (leastB x)) w) := by
  cases hf : finA .f32 (av .f32 x) with
  | true =>
    have HF := Lib.hid hf
    have HA := Lib.hid (show leastB x = geB x 0 by unfold leastB; rw [hf]; rfl)
    clear hf
    go_enter Try.func87, Try.ntmps87
    go_wp2_with fail
    refine (l01Finite_any _ _).mono ?_
    rintro e w' ⟨n, rfl, rfl⟩
    rw [HF.out]
    go_wp2
    go_ret
    exact ⟨n, by rw [HA.out]; rfl, rfl⟩
  | false =>
    have HF := Lib.hid hf
    have HA := Lib.hid (show leastB x = false by unfold leastB; rw [hf]; rfl)
    clear hf
    go_enter Try.func87, Try.ntmps87
    go_wp2_with fail
    refine (l01Finite_any _ _).mono ?_
    rintro e w' ⟨n, rfl, rfl⟩
    rw [HF.out]
    go_wp2
    go_ret
    exact ⟨n, by rw [HA.out]; rfl, rfl⟩
theorem PicksP.yes {xs : List Nat} (h : picks xs) {w w' : World} {e : Ending} (hp : PicksP xs w e w') : RetB (.bool true) w e w' := by
  obtain ⟨b, n, rfl, hb, rfl⟩ := hp
  exact ⟨by rw [hb.2 h], Bel_drewN (Below.refl _ _) n⟩
theorem PicksP.no {xs : List Nat} (h : ¬picks xs) {w w' : World} {e : Ending} (hp : PicksP xs w e w') : RetB (.bool false) w e w' := by
  obtain ⟨b, n, rfl, hb, rfl⟩ := hp
  refine ⟨?_, Bel_drewN (Below.refl _ _) n⟩
  cases b with
  | true => exact absurd (hb.1 rfl) h
  | false => rfl
end Go.Proofs.Ytgeomaeccalceaa
