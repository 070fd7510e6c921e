/- Rows behind steps: what is finite, and what the lists are. -/
import Derived.Test.YtgeomaeccalceaaSrx
import Derived.Test.YtgeomaeccalceaaSry
namespace Go.Proofs.Ytgeomaeccalceaa
open Go Go.RowKit Fl Vag
set_option linter.unusedVariables false

/-- A value that is a word but for a not-a-number. -/
def can (u : Option Nat) : Prop := ∀ b, u = some b → av .f32 b = some b
theorem can_av (x : Nat) : can (av .f32 x) := fun b h => by
  unfold av at h
  split at h
  · cases h
  · rename_i hn
    cases h
    unfold av; rw [if_neg hn]
theorem can_bop {op : BinOp} {x y : Nat} : can (bop op .f32 x y) := fun b h => av_some (k := .f32) (bop_notNaN h)
theorem can_aop (op : BinOp) (u v : Option Nat) : can (aop op .f32 u v) := by
  cases u with
  | none => intro b h; cases h
  | some x =>
    cases v with
    | none => intro b h; cases h
    | some y => exact can_bop (op := op) (x := x) (y := y)
theorem can_zero : can (some 0) := fun b h => by cases h; exact av_zero .f32
theorem add_finC {u v : Option Nat} (hv : can v) (h : finA .f32 (aop .add .f32 u v) = true) : finA .f32 u = true ∧ finA .f32 v = true := by
  cases v with
  | none => cases u <;> cases h
  | some y =>
    have e := hv y rfl
    have := add_fin (u := u) (y := y) (by rw [e]; exact h)
    rw [e] at this; exact this
theorem mul_finC {u v : Option Nat} (h : finA .f32 (aop .mul .f32 u v) = true) : finA .f32 u = true ∧ finA .f32 v = true := by
  cases u with
  | none => cases h
  | some x =>
    cases v with
    | none => cases h
    | some y =>
      have hinf : ∀ s, (Ieee.single.read (Ieee.single.write (.infinity s))).isInfinity = true := inf_fin (k := .f32)
      cases hr : Ieee.single.mul x y with
      | none =>
        have : aop .mul .f32 (some x) (some y) = none := hr
        rw [this] at h; cases h
      | some r =>
        have e : aop .mul .f32 (some x) (some y) = some r := hr
        rw [e] at h
        have hi : (Ieee.single.read r).isInfinity = false := by
          have : (!(Ieee.single.read r).isInfinity) = true := h
          simpa using this
        have key : (Ieee.single.read x).isInfinity = false ∧ (Ieee.single.read y).isInfinity = false := by
          unfold Ieee.Format.mul at hr
          cases hx : Ieee.single.read x with
          | nan _ _ => rw [hx] at hr; rw [product_nan_l rfl] at hr; cases hr
          | infinity s =>
            rw [hx] at hr
            cases hy : Ieee.single.read y with
            | nan _ _ => rw [hy] at hr; rw [product_nan_r rfl] at hr; cases hr
            | infinity t => rw [hy] at hr; simp only [Ieee.Datum.product, Option.map_some] at hr; cases hr; rw [hinf] at hi; cases hi
            | number t n j =>
              rw [hy] at hr
              simp only [Ieee.Datum.product] at hr
              split at hr
              · cases hr
              · cases hr; rw [hinf] at hi; cases hi
          | number s m i =>
            rw [hx] at hr
            refine ⟨rfl, ?_⟩
            cases hy : Ieee.single.read y with
            | nan _ _ => rfl
            | infinity t =>
              rw [hy] at hr
              simp only [Ieee.Datum.product] at hr
              split at hr
              · cases hr
              · cases hr; rw [hinf] at hi; cases hi
            | number t n j => rfl
        exact ⟨by show (!(Ieee.single.read x).isInfinity) = true; rw [key.1]; rfl, by show (!(Ieee.single.read y).isInfinity) = true; rw [key.2]; rfl⟩
theorem can_acc (n : Nat) (ss : List Nat) (vs : Nat → Option Nat) (k : Nat) : ∀ j, can (accV n ss vs k j)
  | 0 => can_zero
  | j + 1 => can_aop _ _ _
theorem acc_fin {n : Nat} {ss : List Nat} {vs : Nat → Option Nat} {k : Nat} : ∀ {j : Nat}, finA .f32 (accV n ss vs k j) = true → ∀ i, i < j → finA .f32 (vs i) = true
  | 0, _, i, hi => absurd hi (Nat.not_lt_zero _)
  | j + 1, h, i, hi => by
    obtain ⟨h1, h2⟩ := add_finC (can_aop _ _ _) (show finA .f32 (aop .add .f32 (accV n ss vs k j) (aop .mul .f32 (vs j) (av .f32 (ss[j * n + k]?.getD 0)))) = true from h)
    by_cases e : i = j
    · subst e; exact (mul_finC h2).1
    · exact acc_fin h1 i (by omega)
/-- A row behind j steps. -/
def runF (n : Nat) (ss : List Nat) (vs : Nat → Option Nat) : Nat → Nat → Option Nat
  | 0 => vs
  | j + 1 => fun k => accV n ss (runF n ss vs j) k n
def finF (n : Nat) (f : Nat → Option Nat) : Prop := ∀ i, i < n → finA .f32 (f i) = true
theorem runF_back {n : Nat} {ss : List Nat} {vs : Nat → Option Nat} {j : Nat} (hn : 1 ≤ n) (h : finF n (runF n ss vs (j + 1))) : finF n (runF n ss vs j) := fun i hi => acc_fin (h 0 hn) i hi
theorem runF_less {n : Nat} {ss : List Nat} {vs : Nat → Option Nat} (hn : 1 ≤ n) : ∀ {t j : Nat}, j ≤ t → finF n (runF n ss vs t) → finF n (runF n ss vs j)
  | 0, j, hj, h => by obtain rfl : j = 0 := by omega
                      exact h
  | t + 1, j, hj, h => by
    by_cases e : j = t + 1
    · subst e; exact h
    · exact runF_less hn (by omega) (runF_back hn h)
def listF (n : Nat) (f : Nat → Option Nat) : List Nat := (List.range n).map fun i => (f i).getD 0
theorem listF_len (n : Nat) (f : Nat → Option Nat) : (listF n f).length = n := by simp [listF]
theorem listF_of {n : Nat} {f : Nat → Option Nat} {ds : List Nat} (hl : ds.length = n) (hd : ∀ i, i < n → av .f32 (ds[i]?.getD 0) = f i) (hf : finF n f) : ds = listF n f := by
  apply List.ext_getElem
  · rw [hl, listF_len]
  · intro i h1 h2
    have h3 := hd i (by omega)
    have h4 := hf i (by omega)
    cases hv : f i with
    | none => rw [hv] at h4; cases h4
    | some b =>
      rw [hv] at h3
      have h5 : ds[i]?.getD 0 = b := by
        unfold av at h3
        split at h3
        · cases h3
        · injection h3
      simp only [listF, List.getElem_map, List.getElem_range, hv, Option.getD_some]
      simpa [h1] using h5
theorem fins_F {n : Nat} {f : Nat → Option Nat} {ds : List Nat} (hl : ds.length = n) (hd : ∀ i, i < n → av .f32 (ds[i]?.getD 0) = f i) : fins ds ↔ finF n f :=
  ⟨fun h i hi => by have := h i (by omega); rwa [hd i hi] at this, fun h i hi => by rw [hd i (by omega)]; exact h i (by omega)⟩
/-- The chain is valid, and the row is one for it. -/
def fits (s : Int) (ss xs : List Nat) : Prop := isChain s ss ∧ isRow xs ∧ (xs.length : Int) = s
theorem fits.nat {s : Int} {ss xs : List Nat} (h : fits s ss xs) : ∃ n : Nat, s = n ∧ 1 ≤ n ∧ n ≤ 12 ∧ ss.length = n * n ∧ (∀ i, i < n → okRow (rowA n i ss)) ∧ xs.length = n ∧ isRow xs := by
  obtain ⟨n, rfl, h1, h2, h3, h4⟩ := h.1.nat
  exact ⟨n, rfl, h1, h2, h3, h4, by have := h.2.2; omega, h.2.1⟩
end Go.Proofs.Ytgeomaeccalceaa
