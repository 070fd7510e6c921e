/- Bells: the numbers that the sum goes through, and that none of them is too great. -/
import Derived.Test.YtlafmocmkkjkgaaEz
namespace Go.Proofs.Ytlafmocmkkjkgaa
open Go Go.RowKit Fl
set_option linter.unusedVariables false

/-! ### What comes -/
def wX (x : Nat) : Option Nat := widen (av .f32 x)
def oddF (k : Nat) : Option Nat := av .f64 (floatOfInt .f64 ((2 * k + 3 : Nat) : Int))
def tA (x : Nat) : Nat → Option Nat
  | 0 => wX x
  | k + 1 => aop .quo .f64 (aop .mul .f64 (aop .mul .f64 (tA x k) (wX x)) (wX x)) (oddF k)
def sA (x : Nat) : Nat → Option Nat
  | 0 => wX x
  | k + 1 => aop .add .f64 (sA x k) (tA x (k + 1))
def argW (x : Nat) : Option Nat := aop .mul .f64 (aop .mul .f64 (av .f64 13826050856027422720) (wX x)) (wX x)
def argB (x : Nat) : Nat := (narrow (argW x)).getD 0
def belW (x : Nat) : Option Nat := aop .add .f64 (av .f64 4602678819172646912) (aop .quo .f64 (aop .mul .f64 (sA x 120) (widen (av .f32 (expB (argB x))))) (av .f64 4612826843881809669))
def belB (x : Nat) : Nat := (narrow (belW x)).getD 0
/-- At most 8 from 0. -/
def Eight (x : Nat) : Prop := ∃ s m i, Ieee.single.read x = .number s m i ∧ val m i ≤ 2 ^ (3 + K0)
theorem wX_in {x : Nat} (h : Eight x) : P2 3 (wX x) := by
  obtain ⟨s, m, i, e, hv⟩ := h
  have hi := read_ge e
  unfold wX
  rw [av_num e]
  show In .f64 (R2 3) (some (Ieee.double.write (Ieee.single.read x)))
  rw [e]
  refine write_in (k := .f64) (by omega) (R2_lt _ (by omega)) ?_
  show val m i ≤ vr Ieee.double (R2 3)
  rw [vr_R2]; exact hv
/-- A whole number as a 64-bit number. -/
theorem int_read (n : Nat) (h0 : n ≠ 0) (hl : n.log2 ≤ 52) : ∃ c N d, av .f64 (floatOfInt .f64 (n : Int)) = some c ∧ Ieee.double.read c = .number false N (-((d : Nat) : Int)) ∧ 2 ^ (d + n.log2) ≤ N ∧ N.log2 ≤ 52 := by
  have e : floatOfInt .f64 (n : Int) = Ieee.double.nearest false n 0 := by
    show Ieee.double.write (.number (decide ((n : Int) < 0)) (n : Int).natAbs 0) = _
    rw [decide_eq_false (by omega), Int.natAbs_natCast]; rfl
  have hr := read_nearest_exact false n 0 h0 hl (by omega) (by omega)
  refine ⟨floatOfInt .f64 (n : Int), n <<< (52 - n.log2), 52 - n.log2, av_some (k := .f64) ?_, ?_, ?_, ?_⟩
  · show (Ieee.double.read (floatOfInt .f64 (n : Int))).isNaN = false
    rw [e, hr]; rfl
  · rw [e, hr]; congr 1; omega
  · have := shl_log_lo n h0 52 hl
    rw [show 52 - n.log2 + n.log2 = 52 by omega]; exact this
  · have h1 := shl_log_hi n 52 hl
    have h2 := shl_log_lo n h0 52 hl
    have hp := Nat.two_pow_pos 52
    have := (Nat.log2_lt (n := n <<< (52 - n.log2)) (by omega) (k := 53)).2 h1
    omega
theorem P2.quo {a g : Nat} {x : Option Nat} {c N d : Nat} (hx : P2 (a + g) x) (ha : a + g ≤ 1000) (hc : Ieee.double.read c = .number false N (-((d : Nat) : Int))) (hn : 2 ^ (d + g) ≤ N) (hl : N.log2 ≤ 52) : P2 a (aop .quo .f64 x (some c)) := by
  have hK := K0_eq
  exact In_quo (E := a + K0) (g := g) hx (R2_lt _ ha) (R2_lt _ (by omega)) (by rw [vr_R2, show a + g + K0 = a + K0 + g by omega]) (by rw [vr_R2]) (by omega) (by omega) hc hn hl
/-- How great the terms are. -/
def eB : Nat → Nat
  | 0 => 3
  | k + 1 => eB k + 6 - Nat.log2 (2 * k + 3)
theorem eB_ok : ∀ k, k < 121 → eB k ≤ 60 ∧ 1 ≤ eB k ∧ Nat.log2 (2 * k + 3) ≤ 7 := by decide +kernel
theorem tA_in {x : Nat} (h : Eight x) : ∀ k, k ≤ 120 → P2 (eB k) (tA x k)
  | 0, _ => wX_in h
  | k + 1, hk => by
    have ih := tA_in h k (by omega)
    obtain ⟨b1, b2, b3⟩ := eB_ok k (by omega)
    obtain ⟨c, N, d, h1, h2, h3, h4⟩ := int_read (2 * k + 3) (by omega) (by omega)
    have e : tA x (k + 1) = aop .quo .f64 (aop .mul .f64 (aop .mul .f64 (tA x k) (wX x)) (wX x)) (oddF k) := rfl
    rw [e]
    unfold oddF
    rw [h1]
    have m1 : P2 (eB k + 3) (aop .mul .f64 (tA x k) (wX x)) := P2.mul ih (wX_in h) (by omega)
    have m2 : P2 (eB k + 3 + 3) (aop .mul .f64 (aop .mul .f64 (tA x k) (wX x)) (wX x)) := P2.mul m1 (wX_in h) (by omega)
    have e2 : eB (k + 1) = eB k + 6 - Nat.log2 (2 * k + 3) := rfl
    rw [e2]
    refine P2.quo (g := Nat.log2 (2 * k + 3)) ?_ (by omega) h2 h3 h4
    rw [show eB k + 6 - Nat.log2 (2 * k + 3) + Nat.log2 (2 * k + 3) = eB k + 3 + 3 by omega]
    exact m2
/-- The rung of j times 2^60. -/
def Rj (j : Nat) : Nat := Ieee.double.write (.number false j 60)
theorem vr_Rj : ∀ j, j < 130 → vr Ieee.double (Rj (j + 1)) = (j + 1) * 2 ^ (60 + K0) := by decide +kernel
theorem Rj_lt : ∀ j, j < 130 → Rj (j + 1) < FloatKind.f64.format.infRung := by decide +kernel
theorem sA_in {x : Nat} (h : Eight x) : ∀ k, k ≤ 120 → In .f64 (Rj (k + 1)) (sA x k)
  | 0, _ => by
    obtain ⟨b, e, hb⟩ := wX_in h
    refine ⟨b, e, Nat.le_trans hb ?_⟩
    decide +kernel
  | k + 1, hk => by
    have ih := sA_in h k (by omega)
    have ht : P2 60 (tA x (k + 1)) := (tA_in h (k + 1) hk).mono (eB_ok (k + 1) (by omega)).1
    have e : sA x (k + 1) = aop .add .f64 (sA x k) (tA x (k + 1)) := rfl
    rw [e]
    refine In.add ih ht (Rj_lt k (by omega)) (R2_lt 60 (by omega)) (Rj_lt (k + 1) (by omega)) ?_
    show vr Ieee.double (Rj (k + 1)) + vr Ieee.double (R2 60) ≤ vr Ieee.double (Rj (k + 1 + 1))
    rw [vr_Rj k (by omega), vr_Rj (k + 1) (by omega), vr_R2, Nat.add_mul (k + 1) 1, Nat.one_mul]
    exact Nat.le_refl _
theorem sA_67 {x : Nat} (h : Eight x) : P2 67 (sA x 120) := by
  obtain ⟨b, e, hb⟩ := sA_in h 120 (Nat.le_refl _)
  exact ⟨b, e, Nat.le_trans hb (by decide +kernel)⟩
theorem av_mh : av .f64 13826050856027422720 = some 13826050856027422720 := by decide +kernel
theorem read_mh : Ieee.double.read 13826050856027422720 = .number true 4503599627370496 (-53) := by decide +kernel
theorem mh_in : P2 0 (some 13826050856027422720) := ⟨_, rfl, by decide +kernel⟩
/-- The argument of the exponential function: of at most 0. -/
theorem argW_np {x : Nat} (h : Eight x) : P2 6 (argW x) ∧ ∃ b m i, argW x = some b ∧ ∃ s, Ieee.double.read b = .number s m i ∧ (s = true ∨ m = 0) := by
  obtain ⟨c, s, m, i, e1, e2, _, _⟩ := P2_num (wX_in h) (by omega)
  have hp1 : P2 3 (aop .mul .f64 (av .f64 13826050856027422720) (wX x)) := by
    rw [av_mh]; have := @P2.mul 0 3 _ _ mh_in (wX_in h) (by omega); exact this
  have hp2 : P2 6 (argW x) := @P2.mul 3 3 _ _ hp1 (wX_in h) (by omega)
  refine ⟨hp2, ?_⟩
  unfold argW at hp2 ⊢
  rw [av_mh] at hp1 hp2 ⊢
  rw [e1] at hp1 hp2 ⊢
  have q1 : aop .mul .f64 (some 13826050856027422720) (some c) = ((Ieee.double.read 13826050856027422720).product (Ieee.double.read c)).map Ieee.double.write := rfl
  rw [q1] at hp1 hp2 ⊢
  rw [read_mh, e2] at hp1 hp2 ⊢
  obtain ⟨m', i', h1, h2, h3⟩ := p2_fin (q := (Ieee.Datum.number true 4503599627370496 (-53)).product (.number s m i)) rfl hp1 (by omega)
  rw [h1] at hp2 ⊢
  have q2 : aop .mul .f64 (some (Ieee.double.write (.number (true ^^ s) (4503599627370496 * m) (-53 + i)))) (some c) = ((Ieee.double.read (Ieee.double.write (.number (true ^^ s) (4503599627370496 * m) (-53 + i)))).product (Ieee.double.read c)).map Ieee.double.write := rfl
  rw [q2] at hp2 ⊢
  rw [h2, e2] at hp2 ⊢
  obtain ⟨m2, i2, k1, k2, k3⟩ := p2_fin (q := (Ieee.Datum.number (true ^^ s) m' i').product (.number s m i)) rfl hp2 (by omega)
  rw [show ((true ^^ s) ^^ s) = true by cases s <;> rfl] at k1 k2
  exact ⟨_, m2, i2, k1, true, k2, .inl rfl⟩
theorem argB_is {x : Nat} (h : Eight x) : narrow (argW x) = some (argB x) ∧ NonPos (argB x) := by
  obtain ⟨_, b, m, i, e1, s, e2, hs⟩ := argW_np h
  have e : narrow (argW x) = some (Ieee.single.write (.number s m i)) := by rw [e1]; show some (Ieee.single.write (Ieee.double.read b)) = _; rw [e2]
  have ea : argB x = Ieee.single.write (.number s m i) := by unfold argB; rw [e]; rfl
  refine ⟨by rw [e, ea], ?_⟩
  rw [ea]
  rcases read_sgn Ieee.single s m i with ⟨m', i', h1, h2⟩ | h1
  · refine .inl ⟨s, m', i', h1, ?_⟩
    rcases hs with hs | hs
    · exact .inl hs
    · exact .inr (h2 hs)
  · rcases hs with hs | hs
    · rw [hs] at h1 ⊢; exact .inr h1
    · exfalso
      subst hs
      have e : Ieee.single.write (.number s 0 i) = Ieee.single.word s 0 := by simp [Ieee.Format.write, Ieee.Format.nearest]
      rw [e] at h1
      cases s <;> revert h1 <;> decide
/-- The exponential function of a number of at most 0 is at most 1. -/
theorem expB_one {y : Nat} (h : NonPos y) : P2 0 (widen (av .f32 (expB y))) := by
  rw [expB_av h]
  have key : ∀ L, In .f32 1065353216 (some L) → P2 0 (widen (some L)) := by
    intro L hL
    obtain ⟨b, s, m, i, e1, e2, hv, hi⟩ := In.read (k := .f32) hL (by decide)
    cases e1
    have e2' : Ieee.single.read L = .number s m i := e2
    have hi' : (-149 : Int) ≤ i := by have : FloatKind.f32.format.leastPlace = -149 := single_least; rw [this] at hi; exact hi
    have hv' : val m i ≤ vr Ieee.single 1065353216 := hv
    have h1 : vr Ieee.single 1065353216 = 2 ^ (0 + K0) := by decide +kernel
    rw [h1] at hv'
    show In .f64 (R2 0) (some (Ieee.double.write (Ieee.single.read L)))
    rw [e2']
    refine write_in (k := .f64) (by omega) (R2_lt _ (by omega)) ?_
    show val m i ≤ vr Ieee.double (R2 0)
    rw [vr_R2]; exact hv'
  unfold expB
  split
  · exact key 0 ⟨0, rfl, Nat.zero_le _⟩
  · rename_i hl
    have hL := nonpos_less h (by simpa using hl)
    obtain ⟨b, s, m, i, e1, e2, hv, hi⟩ := P2_num (expW_one hL) (by omega)
    rw [e1]
    refine key _ ?_
    show In .f32 1065353216 (some (Ieee.single.write (Ieee.double.read b)))
    rw [e2]
    have h1 : vr Ieee.single 1065353216 = 2 ^ (0 + K0) := by decide +kernel
    refine write_in (k := .f32) (by omega) (by decide) ?_
    show val m i ≤ vr Ieee.single 1065353216
    rw [h1]; exact hv
theorem av_c : av .f64 4612826843881809669 = some 4612826843881809669 ∧ av .f64 4602678819172646912 = some 4602678819172646912 := by decide +kernel
theorem read_c : Ieee.double.read 4612826843881809669 = .number false 5644425081792261 (-((51 : Nat) : Int)) := by decide +kernel
theorem half_in : P2 0 (some 4602678819172646912) := ⟨_, rfl, by decide +kernel⟩
theorem zW_in {x : Nat} (h : Eight x) : P2 67 (aop .quo .f64 (aop .mul .f64 (sA x 120) (widen (av .f32 (expB (argB x))))) (av .f64 4612826843881809669)) := by
  have h1 : P2 67 (aop .mul .f64 (sA x 120) (widen (av .f32 (expB (argB x))))) := @P2.mul 67 0 _ _ (sA_67 h) (expB_one (argB_is h).2) (by omega)
  rw [av_c.1]
  exact P2.quo (a := 67) (g := 0) h1 (by omega) read_c (by decide) (by decide)
theorem belW_in {x : Nat} (h : Eight x) : P2 68 (belW x) := by
  unfold belW
  rw [av_c.2]
  exact @P2.add 0 67 67 _ _ half_in (zW_in h) (by omega) (by omega) (by omega)
theorem belW_ok {x : Nat} (h : Eight x) : In .f64 R127 (belW x) := P2_R127 (belW_in h) (by omega)
theorem argW_ok {x : Nat} (h : Eight x) : In .f64 R127 (argW x) := P2_R127 (argW_np h).1 (by omega)
/-! ### What is told in the end -/
/-- A 32-bit magnitude, 2^149 times. -/
def vk (r : Nat) : Nat := magOf Ieee.single r * 2 ^ placeOf Ieee.single r
theorem vr_vk (r : Nat) : vr Ieee.single r = vk r * 2 ^ lp Ieee.single := by unfold vr vk; rw [Nat.pow_add, Nat.mul_assoc]
theorem vk_mono {r R : Nat} (h : r ≤ R) : vk r ≤ vk R := by
  have h1 := vr_mono Ieee.single h
  rw [vr_vk, vr_vk] at h1
  exact Nat.le_of_mul_le_mul_right h1 (Nat.two_pow_pos _)
theorem read_word32 (s : Bool) (r : Nat) (h : r < Ieee.single.infRung) : Ieee.single.read (Ieee.single.word s r) = .number s (magOf Ieee.single r) (-149 + placeOf Ieee.single r) := by
  obtain ⟨e1, e2⟩ := read_word_sign Ieee.single s (Nat.lt_trans h Ieee.single.infRung_lt)
  have h1 := read_rung .f32 (Ieee.single.word s r) (by show Ieee.single.word s r % Ieee.single.signWeight < Ieee.single.infRung; rw [e1]; exact h)
  have h2 : Ieee.single.read (Ieee.single.word s r) = .number (Ieee.single.word s r / Ieee.single.signWeight % 2 == 1) (magOf Ieee.single (Ieee.single.word s r % Ieee.single.signWeight)) (Ieee.single.leastPlace + placeOf Ieee.single (Ieee.single.word s r % Ieee.single.signWeight)) := h1
  rw [e1, e2, single_least] at h2
  exact h2
theorem fK_word (s : Bool) (r : Nat) (h : r < Ieee.single.infRung) : fK (Ieee.single.word s r) = if s then -((vk r : Nat) : Int) else ((vk r : Nat) : Int) := by
  unfold fK
  rw [read_word32 s r h]
  show Ieee.signed s (magOf Ieee.single r) (-149 + (placeOf Ieee.single r : Int) + 149).toNat = _
  rw [show (-149 + (placeOf Ieee.single r : Int) + 149).toNat = placeOf Ieee.single r by omega]
  unfold Ieee.signed vk
  rw [Nat.shiftLeft_eq]
theorem av_word32 (s : Bool) (r : Nat) (h : r < Ieee.single.infRung) : av .f32 (Ieee.single.word s r) = some (Ieee.single.word s r) := by
  refine av_some (k := .f32) ?_
  show (Ieee.single.read _).isNaN = false
  rw [read_word32 s r h]; rfl
theorem fK_one : fK 1065353216 = ((vk 1065353216 : Nat) : Int) := by decide +kernel
theorem fK_zero : fK 0 = 0 := by decide +kernel
theorem vk_one : vk 1065353215 < vk 1065353216 ∧ vk 1065353216 < vk 1065353217 := by decide +kernel
theorem av_one : av .f32 1065353216 = some 1065353216 ∧ av .f32 0 = some 0 := by decide +kernel
/-- Not a zero with a sign. -/
def Plain (y : Nat) : Prop := ∃ s r, y = Ieee.single.word s r ∧ r < Ieee.single.infRung ∧ (r = 0 → s = false)
theorem Plain.av {y : Nat} (h : Plain y) : av .f32 y = some y := by
  obtain ⟨s, r, rfl, h1, _⟩ := h
  exact av_word32 s r h1
theorem vk_pos {r : Nat} (h : 0 < r) : 0 < vk r := by
  have h1 := vk_mono (r := 1) (R := r) h
  have : vk 1 = 1 := by decide +kernel
  omega
theorem Plain.one {y : Nat} (h : Plain y) (he : fK y = fK 1065353216) : y = 1065353216 := by
  obtain ⟨s, r, rfl, h1, _⟩ := h
  rw [fK_word s r h1, fK_one] at he
  have hv := vk_one
  cases s with
  | true =>
    exfalso
    simp only [if_true] at he
    omega
  | false =>
    simp only [Bool.false_eq_true, if_false] at he
    have hr : r = 1065353216 := by
      rcases Nat.lt_trichotomy r 1065353216 with e | e | e
      · have := vk_mono (r := r) (R := 1065353215) (by omega)
        omega
      · exact e
      · have := vk_mono (r := 1065353217) (R := r) (by omega)
        omega
    rw [hr]; rfl
theorem Plain.zero {y : Nat} (h : Plain y) (he : fK y = 0) : (Ieee.single.read y).neg = false := by
  obtain ⟨s, r, rfl, h1, h2⟩ := h
  rw [fK_word s r h1] at he
  rw [read_word32 s r h1]
  show s = false
  rcases Nat.eq_zero_or_pos r with e | e
  · exact h2 e
  · have := vk_pos e
    cases s with
    | false => rfl
    | true => simp only [if_true] at he; omega
/-- From 0 to 1. -/
def clampB (y : Nat) : Nat := if ltB y 0 = true then 0 else if gtB y 1065353216 = true then 1065353216 else y
theorem max_run {P : Program} {y : Nat} (h : Plain y) (ts : Array TypeId) (t : TypeId) (w : World) : (Builtin.max_ ts t #[.float .f32 y, .float .f32 0]).run P w = .ok (.float .f32 (if ltB y 0 = true then 0 else y)) w := by
  have ho := order_K h.av av_one.2
  rw [fK_zero] at ho
  have hl := ltB_K h.av av_one.2
  rw [fK_zero] at hl
  rw [hl]
  rcases Int.lt_trichotomy (fK y) 0 with e | e | e
  · rw [decide_eq_true e, if_pos rfl]
    have ho' : FloatKind.f32.format.order y 0 = some .lt := by rw [ho, compare_int, if_pos e]
    simp [Builtin.max_, Builtin.max2, ho']
  · rw [decide_eq_false (by omega), if_neg (by simp)]
    have ho' : FloatKind.f32.format.order y 0 = some .eq := by rw [ho, compare_int, if_neg (by omega), if_pos e]
    have hn : (FloatKind.f32.decode y).neg = false := h.zero e
    simp [Builtin.max_, Builtin.max2, ho', hn]
  · rw [decide_eq_false (by omega), if_neg (by simp)]
    have ho' : FloatKind.f32.format.order y 0 = some .gt := by rw [ho, compare_int, if_neg (by omega), if_neg (by omega)]
    simp [Builtin.max_, Builtin.max2, ho']
theorem zero_plain : Plain 0 := ⟨false, 0, rfl, by decide, fun _ => rfl⟩
theorem min_run {P : Program} {y : Nat} (h : Plain y) (ts : Array TypeId) (t : TypeId) (w : World) : (Builtin.min_ ts t #[.float .f32 y, .float .f32 1065353216]).run P w = .ok (.float .f32 (if gtB y 1065353216 = true then 1065353216 else y)) w := by
  have ho := order_K h.av av_one.1
  have hl := gtB_K h.av av_one.1
  rw [hl]
  rcases Int.lt_trichotomy (fK y) (fK 1065353216) with e | e | e
  · rw [decide_eq_false (by omega), if_neg (by simp)]
    have ho' : FloatKind.f32.format.order y 1065353216 = some .lt := by rw [ho, compare_int, if_pos e]
    simp [Builtin.min_, Builtin.min2, ho']
  · rw [decide_eq_false (by omega), if_neg (by simp)]
    have ey := h.one e
    have ho' : FloatKind.f32.format.order y 1065353216 = some .eq := by rw [ho, compare_int, if_neg (by omega), if_pos e]
    subst ey
    have hn : (FloatKind.f32.decode 1065353216).neg = false := by decide +kernel
    simp [Builtin.min_, Builtin.min2, ho', hn]
  · rw [decide_eq_true e, if_pos rfl]
    have ho' : FloatKind.f32.format.order y 1065353216 = some .gt := by rw [ho, compare_int, if_neg (by omega), if_neg (by omega)]
    simp [Builtin.min_, Builtin.min2, ho']
theorem clamp_min {y : Nat} (h : Plain y) : (if gtB (if ltB y 0 = true then 0 else y) 1065353216 = true then 1065353216 else (if ltB y 0 = true then 0 else y)) = clampB y := by
  unfold clampB
  have g0 : gtB 0 1065353216 = false := by decide +kernel
  split
  · rw [g0]; rfl
  · rfl
theorem clamp_plain {y : Nat} (h : Plain y) : Plain (if ltB y 0 = true then 0 else y) := by
  split
  · exact zero_plain
  · exact h
theorem vr_n : vr Ieee.single 2130706432 = 2 ^ (127 + K0) := by decide +kernel
theorem vr_1 : vr Ieee.single 1 = 2 ^ 9851 := by decide +kernel
theorem write_plain {s : Bool} {m : Nat} {i : Int} (hi : -9900 ≤ i) (hv : val m i ≤ 2 ^ (127 + K0)) (hs : s = true → 2 ^ 9851 ≤ val m i) : Plain (Ieee.single.write (.number s m i)) := by
  have hK := K0_eq
  have e : i = -(K0 : Int) + ((i + (K0 : Int)).toNat : Int) := by omega
  have hf : Ieee.single.fractionBits ≤ (i + (K0 : Int)).toNat := by have : Ieee.single.fractionBits = 23 := rfl; omega
  obtain ⟨r, hr, hw⟩ := nearest_le Ieee.single s m (-(K0 : Int)) (i + (K0 : Int)).toNat (lp Ieee.single) 2130706432 (lp_least .f32) hf (by show val m i ≤ vr Ieee.single 2130706432; rw [vr_n]; exact hv)
  have hri : r < Ieee.single.infRung := Nat.lt_of_le_of_lt hr (by decide)
  refine ⟨s, r, ?_, hri, ?_⟩
  · show Ieee.single.nearest s m i = _
    rw [e]; exact hw
  · intro h0
    cases s with
    | false => rfl
    | true =>
      exfalso
      obtain ⟨q, hq, hq', hw'⟩ := nearest_ge Ieee.single true m (-(K0 : Int)) (i + (K0 : Int)).toNat (lp Ieee.single) 1 (lp_least .f32) hf (by decide) (by show vr Ieee.single 1 ≤ val m i; rw [vr_1]; exact hs rfl)
      have eq : Ieee.single.word true r = Ieee.single.word true q := hw.symm.trans hw'
      have e1 := (read_word_sign Ieee.single true (Nat.lt_trans hri Ieee.single.infRung_lt)).1
      have e2 := (read_word_sign Ieee.single true (Nat.lt_of_le_of_lt hq' Ieee.single.infRung_lt)).1
      rw [eq, e2] at e1
      omega
theorem read_hf : Ieee.double.read 4602678819172646912 = .number false 4503599627370496 (-53) := by decide +kernel
/-- The rung of 2^-53. -/
def R53 : Nat := 970 * 4503599627370496
theorem vr_53 : vr Ieee.double R53 = 2 ^ 9947 := by decide +kernel
theorem belW_sgn {x : Nat} (h : Eight x) : ∃ b s m i, belW x = some b ∧ Ieee.double.read b = .number s m i ∧ val m i ≤ 2 ^ (68 + K0) ∧ -1074 ≤ i ∧ (s = true → 2 ^ 9947 ≤ val m i) := by
  have hK := K0_eq
  have hw := belW_in h
  obtain ⟨b, s, m, i, e1, e2, e3, e4⟩ := P2_num hw (by omega)
  refine ⟨b, s, m, i, e1, e2, e3, e4, ?_⟩
  intro hs
  subst hs
  obtain ⟨a, t, n, j, ez, ra, hm, hj, hn53⟩ := (zW_in h).read' (R2_lt _ (by omega))
  have ra' : Ieee.double.read a = .number t n j := ra
  have hj' : (-1074 : Int) ≤ j := hj
  have hn' : n < 2 ^ 53 := hn53
  have eb : belW x = ((Ieee.Datum.number false 4503599627370496 (-53)).sum (.number t n j)).map Ieee.double.write := by
    unfold belW
    rw [av_c.2, ez]
    show ((Ieee.double.read 4602678819172646912).sum (Ieee.double.read a)).map Ieee.double.write = _
    rw [read_hf, ra']
  generalize hT : Ieee.signed false 4503599627370496 (-53 - min (-53) j).toNat + Ieee.signed t n (j - min (-53) j).toNat = T at eb
  have eb2 : belW x = some (Ieee.double.write (.number (if T = 0 then false && t else decide (T < 0)) T.natAbs (min (-53) j))) := by
    rw [eb]
    show some (Ieee.double.write (.number (if Ieee.signed false 4503599627370496 (-53 - min (-53) j).toNat + Ieee.signed t n (j - min (-53) j).toNat = 0 then false && t else decide (Ieee.signed false 4503599627370496 (-53 - min (-53) j).toNat + Ieee.signed t n (j - min (-53) j).toNat < 0)) (Ieee.signed false 4503599627370496 (-53 - min (-53) j).toNat + Ieee.signed t n (j - min (-53) j).toNat).natAbs (min (-53) j))) = _
    rw [hT]
  rw [e1] at eb2
  replace eb2 := Option.some.inj eb2
  rw [eb2] at e2
  have hsg : (if T = 0 then false && t else decide (T < 0)) = true := by
    rcases read_sgn Ieee.double (if T = 0 then false && t else decide (T < 0)) T.natAbs (min (-53) j) with ⟨m', i', h1, _⟩ | h1
    · exact ((Ieee.Datum.number.inj (e2.symm.trans h1)).1).symm
    · exact absurd (e2.symm.trans h1) (fun h => Ieee.Datum.noConfusion h)
  have hneg : T < 0 := by
    split at hsg
    · simp at hsg
    · simpa using hsg
  have hmin : min (-53) j = -53 := by
    rcases Int.lt_or_le j (-53) with hc | hc
    · exfalso
      rw [show min (-53) j = j by omega, Int.sub_self] at hT
      have h2 : (2 : Nat) ^ 1 ≤ 2 ^ (-53 - j).toNat := Nat.pow_le_pow_right (by omega) (by omega)
      have h3 : 4503599627370496 * 2 ^ 1 ≤ 4503599627370496 * 2 ^ (-53 - j).toNat := Nat.mul_le_mul_left _ h2
      unfold Ieee.signed at hT
      rw [Nat.shiftLeft_eq, Nat.shiftLeft_eq] at hT
      generalize 4503599627370496 * 2 ^ (-53 - j).toNat = U at hT h3
      rw [Int.toNat_zero, Nat.pow_zero, Nat.mul_one] at hT
      cases t with
      | false =>
        simp only [Bool.false_eq_true, if_false] at hT
        omega
      | true =>
        simp only [Bool.false_eq_true, if_false, if_true] at hT
        omega
    · omega
  rw [hsg, hmin] at e2
  have hv : 2 ^ 9947 ≤ val T.natAbs (-53) := by
    unfold val
    rw [show (-53 + (K0 : Int)).toNat = 9947 by omega]
    exact Nat.le_mul_of_pos_left _ (by omega)
  obtain ⟨r, hr, hr', hw2⟩ := nearest_ge Ieee.double true T.natAbs (-(K0 : Int)) (-53 + (K0 : Int)).toNat (lp Ieee.double) R53 (lp_least .f64) (by have : Ieee.double.fractionBits = 52 := rfl; omega) (by decide) (by show vr Ieee.double R53 ≤ val T.natAbs (-53); rw [vr_53]; exact hv)
  have hw3 : Ieee.double.write (.number true T.natAbs (-53)) = Ieee.double.word true r := by
    show Ieee.double.nearest true T.natAbs (-53) = _
    rw [← hw2]; congr 1
  rw [hw3] at e2
  obtain ⟨q1, q2⟩ := read_word_sign Ieee.double true (Nat.lt_of_le_of_lt hr' Ieee.double.infRung_lt)
  rcases Nat.lt_or_ge r Ieee.double.infRung with hlt | hge
  · have h1 := read_rung .f64 (Ieee.double.word true r) (by show Ieee.double.word true r % Ieee.double.signWeight < Ieee.double.infRung; rw [q1]; exact hlt)
    have h2 : Ieee.double.read (Ieee.double.word true r) = .number (Ieee.double.word true r / Ieee.double.signWeight % 2 == 1) (magOf Ieee.double (Ieee.double.word true r % Ieee.double.signWeight)) (Ieee.double.leastPlace + placeOf Ieee.double (Ieee.double.word true r % Ieee.double.signWeight)) := h1
    rw [q1, e2] at h2
    obtain ⟨_, hm2, hi2⟩ := Ieee.Datum.number.inj h2
    have h5 : val (magOf Ieee.double r) (Ieee.double.leastPlace + placeOf Ieee.double r) = vr Ieee.double r := val_rung .f64 r
    rw [hm2, hi2, h5]
    have h6 := vr_mono Ieee.double hr
    rw [vr_53] at h6
    exact h6
  · exfalso
    obtain rfl : r = Ieee.double.infRung := Nat.le_antisymm hr' hge
    have h9 : Ieee.double.read (Ieee.double.word true Ieee.double.infRung) = .infinity true := by decide +kernel
    exact absurd (e2.symm.trans h9) (fun h => Ieee.Datum.noConfusion h)
theorem pwm (a b : Nat) (h : a ≤ b) : (2 : Nat) ^ a ≤ 2 ^ b := Nat.pow_le_pow_right (by decide) h
theorem bel_plain {x : Nat} (h : Eight x) : narrow (belW x) = some (belB x) ∧ Plain (belB x) := by
  have hK := K0_eq
  obtain ⟨b, s, m, i, e1, e2, e3, e4, e5⟩ := belW_sgn h
  have e : narrow (belW x) = some (Ieee.single.write (.number s m i)) := by rw [e1]; show some (Ieee.single.write (Ieee.double.read b)) = _; rw [e2]
  have ea : belB x = Ieee.single.write (.number s m i) := by unfold belB; rw [e]; rfl
  refine ⟨by rw [e, ea], ?_⟩
  rw [ea]
  exact write_plain (by omega) (Nat.le_trans e3 (Nat.pow_le_pow_right (by omega) (by omega))) (fun hs => Nat.le_trans (pwm 9851 9947 (by decide)) (e5 hs))
theorem split_pow (u k q : Nat) (h : u ≤ 8 * 2 ^ 149) (hk : k = 152 + q) : u * 2 ^ q ≤ 2 ^ k := by
  subst hk
  rw [Nat.pow_add]
  exact Nat.mul_le_mul_right _ (Nat.le_trans h (by decide))
/-- Within the ends. -/
theorem eight_of {x : Nat} (hf : finA .f32 (av .f32 x) = true) (h1 : ltB x 3233808384 = false) (h2 : gtB x 1086324736 = false) : Eight x := by
  obtain ⟨s, m, i, e⟩ := fin_read hf
  have a1 : av .f32 3233808384 = some 3233808384 := by decide +kernel
  have a2 : av .f32 1086324736 = some 1086324736 := by decide +kernel
  have ax := av_num e
  rw [ltB_K ax a1] at h1
  rw [gtB_K ax a2] at h2
  have k1 : fK 3233808384 = -(6 * 2 ^ 149) := by decide +kernel
  have k2 : fK 1086324736 = 6 * 2 ^ 149 := by decide +kernel
  have h1' := of_decide_eq_false h1
  have h2' := of_decide_eq_false h2
  rw [k1] at h1'
  rw [k2] at h2'
  have hi := read_ge e
  refine ⟨s, m, i, e, ?_⟩
  have hab : (fK x).natAbs ≤ 8 * 2 ^ 149 := by omega
  unfold fK at hab
  rw [e] at hab
  have hab2 : (Ieee.signed s m (i + 149).toNat).natAbs ≤ 8 * 2 ^ 149 := hab
  rw [signed_abs] at hab2
  have hK := K0_eq
  have e3 : (i + (K0 : Int)).toNat = (i + 149).toNat + 9851 := by omega
  unfold val
  rw [e3, Nat.pow_add 2 (i + 149).toNat, ← Nat.mul_assoc]
  exact split_pow _ _ 9851 hab2 (by rw [K0_eq])
end Go.Proofs.Ytlafmocmkkjkgaa
