/- The logarithm: the model's, and the functions that ask first. -/
import Derived.Test.YtgeomaeccalceaaLw
namespace Go.Proofs.Ytgeomaeccalceaa
open Go Go.RowKit Fl
set_option linter.unusedVariables false

theorem avn : av .f64 9221120237041090561 = none := by decide +kernel
theorem avi : av .f64 18442240474082181120 = some 18442240474082181120 := by decide +kernel
theorem read_mi : Ieee.double.read 18442240474082181120 = .infinity true := by decide +kernel
theorem read_pi : Ieee.double.read 9218868437227405312 = .infinity false := by decide +kernel
/-- The order of a number from 2^-200 on and a finite one that is at most 0, or the greatest one. -/
theorem nb_gt0 (L K : Nat) (h1 : 4503599627370496 ≤ K) (h2 : K < 9007199254740992) (hL : L ≤ 2045) : Ieee.double.order (nb L K) 0 = some .gt := by
  have hp : 0 < K * 2 ^ L := Nat.mul_pos (by omega) (Nat.two_pow_pos _)
  rw [order_nb L K 0 0 h1 h2 hL 0 (by decide +kernel)]
  rw [compare_int]
  generalize K * 2 ^ L = x at *
  rw [if_neg (by omega), if_neg (by omega)]
theorem nb_max (L K : Nat) (h1 : 4503599627370496 ≤ K) (h2 : K < 9007199254740992) (hL : L ≤ 1200) : (Ieee.double.order (nb L K) 9218868437227405311 == some Ordering.gt) = false := by
  rw [order_nb L K 9007199254740991 2045 h1 h2 (by omega) 9218868437227405311 (by decide +kernel), cmp_gt]
  have := pow_step (K := 9007199254740991) (c := K) (L := 2045) (p := L) h2 (by decide) (by omega)
  generalize K * 2 ^ L = x at *
  generalize 9007199254740991 * 2 ^ 2045 = y at *
  simp; omega
theorem ord_eq {r : Nat} {o : Ordering} (h : Ieee.double.order r 0 = some o) (p : Ordering) : (FloatKind.f64.format.order r 0 == some p) = (some o == some p) := by
  rw [show FloatKind.f64.format.order r 0 = Ieee.double.order r 0 from rfl, h]


/-- A 32-bit number: not a number; infinite; zero; less than 0; greater than 0, and then wide. -/
inductive Kind32 (a : Nat) : Prop
  | nan (h : av .f32 a = none)
  | inf (h : Ieee.single.read a = .infinity false)
  | minf (h : Ieee.single.read a = .infinity true)
  | zero (s : Bool) (i : Int) (h : Ieee.single.read a = .number s 0 i)
  | less (m : Nat) (i : Int) (h0 : m ≠ 0) (h : Ieee.single.read a = .number true m i)
  | more (m : Nat) (i : Int) (h0 : m ≠ 0) (h : Ieee.single.read a = .number false m i) (L K J1 J2 : Nat) (hw : widen (av .f32 a) = some (nb L K)) (hN : Near L K J1 J2)
theorem kind32 (a : Nat) : Kind32 a := by
  rcases read_single a with ⟨s, m, i, h, hm⟩ | ⟨s, h⟩ | ⟨s, f, h⟩
  · by_cases h0 : m = 0
    · subst h0; exact .zero s i h
    · cases s with
      | true => exact .less m i h0 h
      | false =>
        obtain ⟨h1, h2, h3⟩ := hm h0
        obtain ⟨L, K, e, k1, k2, l1, l2⟩ := widen_nb m i h0 h1 h2 h3
        obtain ⟨J1, J2, hN⟩ := near_of L K k1 k2 l1 l2
        refine .more m i h0 h L K J1 J2 ?_ hN
        have hn : av .f32 a = some a := av_some (k := .f32) (by show (Ieee.single.read a).isNaN = false; rw [h]; rfl)
        rw [hn]
        show some (Ieee.double.write (Ieee.single.read a)) = _
        rw [h]
        exact congrArg some e
  · cases s with
    | true => exact .minf h
    | false => exact .inf h
  · refine .nan ?_
    unfold av; rw [if_pos]; show (Ieee.single.read a).isNaN = true; rw [h]; rfl
theorem av_num {a : Nat} {s : Bool} {m : Nat} {i : Int} (h : Ieee.single.read a = .number s m i) : av .f32 a = some a := av_some (k := .f32) (by show (Ieee.single.read a).isNaN = false; rw [h]; rfl)
theorem av_inf {a : Nat} {s : Bool} (h : Ieee.single.read a = .infinity s) : av .f32 a = some a := av_some (k := .f32) (by show (Ieee.single.read a).isNaN = false; rw [h]; rfl)
theorem read0_32 : Ieee.single.read 0 = .number false 0 (-149) := by decide +kernel
/-- The order of a 32-bit number and 0. -/
theorem ord0_num {a : Nat} {s : Bool} {m : Nat} {i : Int} (h : Ieee.single.read a = .number s m i) : FloatKind.f32.format.order a 0 = some (if m = 0 then .eq else if s = true then .lt else .gt) := by
  show Ieee.single.order a 0 = _
  unfold Ieee.Format.order
  rw [h, read0_32]
  rw [order_number s false m 0 i (-149) (min i (-149)) (by omega) (by omega)]
  have hp : 0 < 2 ^ (i - min i (-149)).toNat := Nat.two_pow_pos _
  have e0 : Ieee.signed false 0 ((-149 : Int) - min i (-149)).toNat = 0 := by simp [Ieee.signed]
  rw [e0, compare_int]
  unfold Ieee.signed
  rw [Nat.shiftLeft_eq]
  by_cases h0 : m = 0
  · subst h0; cases s <;> simp
  · have hq : 0 < m * 2 ^ (i - min i (-149)).toNat := Nat.mul_pos (by omega) hp
    generalize m * 2 ^ (i - min i (-149)).toNat = x at *
    rw [if_neg h0]
    cases s with
    | true =>
      simp only [if_true]
      rw [if_pos (by omega)]
    | false =>
      simp only [Bool.false_eq_true, if_false]
      rw [if_neg (by omega), if_neg (by omega)]
theorem ord0_inf {a : Nat} {s : Bool} (h : Ieee.single.read a = .infinity s) : FloatKind.f32.format.order a 0 = some (if s = true then .lt else .gt) := by
  show Ieee.single.order a 0 = _
  unfold Ieee.Format.order
  rw [h, read0_32]
  cases s <;> rfl
theorem fin_num {a : Nat} {s : Bool} {m : Nat} {i : Int} (h : Ieee.single.read a = .number s m i) : finA .f32 (av .f32 a) = true := by
  rw [av_num h]; show (!(Ieee.single.read a).isInfinity) = true; rw [h]; rfl
theorem fin_inf {a : Nat} {s : Bool} (h : Ieee.single.read a = .infinity s) : finA .f32 (av .f32 a) = false := by
  rw [av_inf h]; show (!(Ieee.single.read a).isInfinity) = false; rw [h]; rfl
end Go.Proofs.Ytgeomaeccalceaa
