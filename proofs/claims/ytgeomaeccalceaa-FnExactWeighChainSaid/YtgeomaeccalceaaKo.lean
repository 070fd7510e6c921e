/- The order of 32-bit numbers is that of integers. -/
import Derived.Test.YtgeomaeccalceaaHt
import Derived.Test.YtgeomaeccalceaaPk
namespace Go.Proofs.Ytgeomaeccalceaa
open Go Go.RowKit Fl Ieee
set_option linter.unusedVariables false

def big : Int := 1393796574908163946345982392040522594123776 * 1393796574908163946345982392040522594123776
theorem big_eq : big = ((2 ^ 140 * 2 ^ 140 : Nat) : Int) := by decide +kernel
/-- What a datum stands for, 2^149 times; an infinity is beyond all. -/
def dK : Ieee.Datum → Int
  | .number s m i => signed s m (i + 149).toNat
  | .infinity s => if s then -big else big
  | .nan _ _ => 0
def fK (b : Nat) : Int := dK (single.read b)
theorem read_all (b : Nat) : (∃ s m i, single.read b = .number s m i ∧ m < 16777216 ∧ -149 ≤ i ∧ i ≤ 104) ∨ (∃ s, single.read b = .infinity s) ∨ (∃ s f, single.read b = .nan s f) := by
  have hbin : single.binade = 8388608 := by decide
  have hinf : single.infRung = 2139095040 := by decide
  unfold Format.read
  simp only [hbin, hinf, single_least]
  split
  · rename_i h
    exact .inl ⟨_, _, _, rfl, by omega, by omega, by omega⟩
  · split
    · rename_i h1 h2
      exact .inl ⟨_, _, _, rfl, by omega, by omega, by omega⟩
    · split
      · exact .inr (.inl ⟨_, rfl⟩)
      · exact .inr (.inr ⟨_, _, rfl⟩)
theorem signed_big (s : Bool) (m : Nat) (i : Int) (hm : m < 16777216) (h : i ≤ 104) : -big < signed s m (i + 149).toNat ∧ signed s m (i + 149).toNat < big := by
  have h1 : m <<< (i + 149).toNat < 2 ^ 140 * 2 ^ 140 := by
    rw [Nat.shiftLeft_eq]
    have h2 : 2 ^ (i + 149).toNat ≤ 2 ^ 253 := Nat.pow_le_pow_right (by omega) (by omega)
    calc m * 2 ^ (i + 149).toNat ≤ 16777216 * 2 ^ 253 := Nat.mul_le_mul (by omega) h2
      _ < 2 ^ 140 * 2 ^ 140 := by decide +kernel
  rw [big_eq]
  generalize (2 ^ 140 * 2 ^ 140 : Nat) = B at *
  unfold signed
  generalize m <<< (i + 149).toNat = c at *
  split <;> omega
theorem num_of {x : Nat} (h : av .f32 x = some x) : (single.read x).isNaN = false := av_notNaN (k := .f32) h
theorem av_self_or (x : Nat) : av .f32 x = some x ∨ av .f32 x = none := by
  unfold av; split
  · exact .inr rfl
  · exact .inl rfl
theorem big_pos : 0 < big := by decide +kernel
/-- The order of two that are numbers. -/
theorem order_K {x y : Nat} (hx : av .f32 x = some x) (hy : av .f32 y = some y) : FloatKind.f32.format.order x y = some (compare (fK x) (fK y)) := by
  show (single.read x).order (single.read y) = _
  have hx' := num_of hx
  have hy' := num_of hy
  unfold fK
  have hb := big_pos
  rcases read_all x with ⟨s, m, i, e, h1, h2, h3⟩ | ⟨s, e⟩ | ⟨s, f, e⟩
  · rw [e]
    obtain ⟨b1, b2⟩ := signed_big s m i h1 h3
    rcases read_all y with ⟨t, n, j, e', k1, k2, k3⟩ | ⟨t, e'⟩ | ⟨t, g, e'⟩
    · rw [e', order_number s t m n i j (-149) h2 k2]; rfl
    · rw [e']
      simp only [Datum.order, dK]
      cases t
      · simp only [Bool.false_eq_true, if_false]; rw [compare_int, if_pos b2]
      · simp only [if_true]; rw [compare_int, if_neg (by omega), if_neg (by omega)]
    · rw [e'] at hy'; simp [Datum.isNaN] at hy'
  · rw [e]
    rcases read_all y with ⟨t, n, j, e', k1, k2, k3⟩ | ⟨t, e'⟩ | ⟨t, g, e'⟩
    · rw [e']
      obtain ⟨b1, b2⟩ := signed_big t n j k1 k3
      simp only [Datum.order, dK]
      cases s
      · simp only [Bool.false_eq_true, if_false]; rw [compare_int, if_neg (by omega), if_neg (by omega)]
      · simp only [if_true]; rw [compare_int, if_pos b1]
    · rw [e']
      simp only [Datum.order, dK]
      cases s <;> cases t <;> simp only [Bool.false_eq_true, if_false, if_true, compare_int, Bool.toNat_false, Bool.toNat_true]
      · rw [if_neg (by omega)]; rfl
      · rw [if_neg (by omega), if_neg (by omega)]; rfl
      · rw [if_pos (by omega)]; rfl
      · rw [if_neg (by omega)]; rfl
    · rw [e'] at hy'; simp [Datum.isNaN] at hy'
  · rw [e] at hx'; simp [Datum.isNaN] at hx'
section
variable {x y : Nat} (hx : av .f32 x = some x) (hy : av .f32 y = some y)
include hx hy
theorem ltB_K : ltB x y = decide (fK x < fK y) := by unfold ltB; rw [order_K hx hy, cmp_lt]
theorem gtB_K : gtB x y = decide (fK y < fK x) := by unfold gtB; rw [order_K hx hy, cmp_gt]
theorem leB_K : leB x y = decide (fK x ≤ fK y) := by
  unfold leB; rw [order_K hx hy, cmp_lt, cmp_eq]
  rcases Int.lt_trichotomy (fK x) (fK y) with h | h | h
  · rw [decide_eq_true h, decide_eq_true (by omega : fK x ≤ fK y)]; rfl
  · rw [decide_eq_true h, decide_eq_true (by omega : fK x ≤ fK y)]; simp
  · rw [decide_eq_false (by omega), decide_eq_false (by omega), decide_eq_false (by omega : ¬ fK x ≤ fK y)]; rfl
theorem geB_K : geB x y = decide (fK y ≤ fK x) := by
  unfold geB; rw [order_K hx hy, cmp_gt, cmp_eq]
  rcases Int.lt_trichotomy (fK x) (fK y) with h | h | h
  · rw [decide_eq_false (by omega), decide_eq_false (by omega), decide_eq_false (by omega : ¬ fK y ≤ fK x)]; rfl
  · rw [decide_eq_true h, decide_eq_true (by omega : fK y ≤ fK x)]; simp
  · rw [decide_eq_true h, decide_eq_true (by omega : fK y ≤ fK x)]; rfl
end
theorem fin_self {x : Nat} (h : finA .f32 (av .f32 x) = true) : av .f32 x = some x := by
  rcases av_self_or x with h' | h'
  · exact h'
  · rw [h'] at h; cases h
/-- A difference that is finite is one of finite numbers. -/
theorem sub_fin {u : Option Nat} {y : Nat} (h : finA .f32 (aop .sub .f32 u (some y)) = true) : finA .f32 u = true := by
  cases u with
  | none => cases h
  | some x =>
    cases hr : single.sub x y with
    | none =>
      have : aop .sub .f32 (some x) (some y) = none := hr
      rw [this] at h; cases h
    | some r =>
      have e : aop .sub .f32 (some x) (some y) = some r := hr
      rw [e] at h
      have hi : (single.read r).isInfinity = false := by
        have : (!(single.read r).isInfinity) = true := h
        simpa using this
      show (!(single.read x).isInfinity) = true
      cases hx : single.read x with
      | nan _ _ => rfl
      | number _ _ _ => rfl
      | infinity s =>
        unfold Format.sub at hr
        rw [hx] at hr
        have hinf : ∀ s, (single.read (single.write (.infinity s))).isInfinity = true := inf_fin (k := .f32)
        cases hy : (single.read y).opposite with
        | nan _ _ => rw [hy] at hr; simp [Datum.sum] at hr
        | infinity t =>
          rw [hy] at hr
          simp only [Datum.sum] at hr
          split at hr
          · cases hr; rw [hinf] at hi; cases hi
          · cases hr
        | number t n j => rw [hy] at hr; simp only [Datum.sum, Option.map_some] at hr; cases hr; rw [hinf] at hi; cases hi
end Go.Proofs.Ytgeomaeccalceaa
