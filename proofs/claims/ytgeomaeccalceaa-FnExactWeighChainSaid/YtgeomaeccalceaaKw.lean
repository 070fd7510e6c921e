/- The order of 32-bit numbers by their words; the lesser and the greater one of a number and 0 or 1. -/
import Derived.Test.YtgeomaeccalceaaKo
namespace Go.Proofs.Ytgeomaeccalceaa
open Go Go.RowKit Fl
set_option linter.unusedVariables false

/-- A 32-bit magnitude, 2^149 times. -/
def vk (r : Nat) : Nat := magOf Ieee.single r * 2 ^ placeOf Ieee.single r
theorem vr_vk (r : Nat) : vr Ieee.single r = vk r * 2 ^ lp Ieee.single := by unfold vr vk; rw [Nat.pow_add, Nat.mul_assoc]
theorem vk_mono {r R : Nat} (h : r ≤ R) : vk r ≤ vk R := by
  have h1 := vr_mono Ieee.single h
  rw [vr_vk, vr_vk] at h1
  exact Nat.le_of_mul_le_mul_right h1 (Nat.two_pow_pos _)
theorem read_word32 (s : Bool) (r : Nat) (h : r < Ieee.single.infRung) : Ieee.single.read (Ieee.single.word s r) = .number s (magOf Ieee.single r) (-149 + placeOf Ieee.single r) := by
  obtain ⟨e1, e2⟩ := read_word_sign Ieee.single s (Nat.lt_trans h Ieee.single.infRung_lt)
  have h1 := read_rung .f32 (Ieee.single.word s r) (by show Ieee.single.word s r % Ieee.single.signWeight < Ieee.single.infRung; rw [e1]; exact h)
  have h2 : Ieee.single.read (Ieee.single.word s r) = .number (Ieee.single.word s r / Ieee.single.signWeight % 2 == 1) (magOf Ieee.single (Ieee.single.word s r % Ieee.single.signWeight)) (Ieee.single.leastPlace + placeOf Ieee.single (Ieee.single.word s r % Ieee.single.signWeight)) := h1
  rw [e1, e2, single_least] at h2
  exact h2
theorem fK_word (s : Bool) (r : Nat) (h : r < Ieee.single.infRung) : fK (Ieee.single.word s r) = if s then -((vk r : Nat) : Int) else ((vk r : Nat) : Int) := by
  unfold fK
  rw [read_word32 s r h]
  show Ieee.signed s (magOf Ieee.single r) (-149 + (placeOf Ieee.single r : Int) + 149).toNat = _
  rw [show (-149 + (placeOf Ieee.single r : Int) + 149).toNat = placeOf Ieee.single r by omega]
  unfold Ieee.signed vk
  rw [Nat.shiftLeft_eq]
theorem av_word32 (s : Bool) (r : Nat) (h : r < Ieee.single.infRung) : av .f32 (Ieee.single.word s r) = some (Ieee.single.word s r) := by
  refine av_some (k := .f32) ?_
  show (Ieee.single.read _).isNaN = false
  rw [read_word32 s r h]; rfl
theorem fK_one : fK 1065353216 = ((vk 1065353216 : Nat) : Int) := by decide +kernel
theorem fK_zero : fK 0 = 0 := by decide +kernel
theorem vk_one : vk 1065353215 < vk 1065353216 ∧ vk 1065353216 < vk 1065353217 := by decide +kernel
theorem av_one : av .f32 1065353216 = some 1065353216 ∧ av .f32 0 = some 0 := by decide +kernel
/-- Not a zero with a sign. -/
def Plain (y : Nat) : Prop := ∃ s r, y = Ieee.single.word s r ∧ r < Ieee.single.infRung ∧ (r = 0 → s = false)
theorem Plain.av {y : Nat} (h : Plain y) : av .f32 y = some y := by
  obtain ⟨s, r, rfl, h1, _⟩ := h
  exact av_word32 s r h1
theorem vk_pos {r : Nat} (h : 0 < r) : 0 < vk r := by
  have h1 := vk_mono (r := 1) (R := r) h
  have : vk 1 = 1 := by decide +kernel
  omega
theorem Plain.one {y : Nat} (h : Plain y) (he : fK y = fK 1065353216) : y = 1065353216 := by
  obtain ⟨s, r, rfl, h1, _⟩ := h
  rw [fK_word s r h1, fK_one] at he
  have hv := vk_one
  cases s with
  | true =>
    exfalso
    simp only [if_true] at he
    omega
  | false =>
    simp only [Bool.false_eq_true, if_false] at he
    have hr : r = 1065353216 := by
      rcases Nat.lt_trichotomy r 1065353216 with e | e | e
      · have := vk_mono (r := r) (R := 1065353215) (by omega)
        omega
      · exact e
      · have := vk_mono (r := 1065353217) (R := r) (by omega)
        omega
    rw [hr]; rfl
theorem Plain.zero {y : Nat} (h : Plain y) (he : fK y = 0) : (Ieee.single.read y).neg = false := by
  obtain ⟨s, r, rfl, h1, h2⟩ := h
  rw [fK_word s r h1] at he
  rw [read_word32 s r h1]
  show s = false
  rcases Nat.eq_zero_or_pos r with e | e
  · exact h2 e
  · have := vk_pos e
    cases s with
    | false => rfl
    | true => simp only [if_true] at he; omega
/-- From 0 to 1. -/
def clampB (y : Nat) : Nat := if ltB y 0 = true then 0 else if gtB y 1065353216 = true then 1065353216 else y
theorem max_run {P : Program} {y : Nat} (h : Plain y) (ts : Array TypeId) (t : TypeId) (w : World) : (Builtin.max_ ts t #[.float .f32 y, .float .f32 0]).run P w = .ok (.float .f32 (if ltB y 0 = true then 0 else y)) w := by
  have ho := order_K h.av av_one.2
  rw [fK_zero] at ho
  have hl := ltB_K h.av av_one.2
  rw [fK_zero] at hl
  rw [hl]
  rcases Int.lt_trichotomy (fK y) 0 with e | e | e
  · rw [decide_eq_true e, if_pos rfl]
    have ho' : FloatKind.f32.format.order y 0 = some .lt := by rw [ho, compare_int, if_pos e]
    simp [Builtin.max_, Builtin.max2, ho']
  · rw [decide_eq_false (by omega), if_neg (by simp)]
    have ho' : FloatKind.f32.format.order y 0 = some .eq := by rw [ho, compare_int, if_neg (by omega), if_pos e]
    have hn : (FloatKind.f32.decode y).neg = false := h.zero e
    simp [Builtin.max_, Builtin.max2, ho', hn]
  · rw [decide_eq_false (by omega), if_neg (by simp)]
    have ho' : FloatKind.f32.format.order y 0 = some .gt := by rw [ho, compare_int, if_neg (by omega), if_neg (by omega)]
    simp [Builtin.max_, Builtin.max2, ho']
theorem zero_plain : Plain 0 := ⟨false, 0, rfl, by decide, fun _ => rfl⟩
theorem min_run {P : Program} {y : Nat} (h : Plain y) (ts : Array TypeId) (t : TypeId) (w : World) : (Builtin.min_ ts t #[.float .f32 y, .float .f32 1065353216]).run P w = .ok (.float .f32 (if gtB y 1065353216 = true then 1065353216 else y)) w := by
  have ho := order_K h.av av_one.1
  have hl := gtB_K h.av av_one.1
  rw [hl]
  rcases Int.lt_trichotomy (fK y) (fK 1065353216) with e | e | e
  · rw [decide_eq_false (by omega), if_neg (by simp)]
    have ho' : FloatKind.f32.format.order y 1065353216 = some .lt := by rw [ho, compare_int, if_pos e]
    simp [Builtin.min_, Builtin.min2, ho']
  · rw [decide_eq_false (by omega), if_neg (by simp)]
    have ey := h.one e
    have ho' : FloatKind.f32.format.order y 1065353216 = some .eq := by rw [ho, compare_int, if_neg (by omega), if_pos e]
    subst ey
    have hn : (FloatKind.f32.decode 1065353216).neg = false := by decide +kernel
    simp [Builtin.min_, Builtin.min2, ho', hn]
  · rw [decide_eq_true e, if_pos rfl]
    have ho' : FloatKind.f32.format.order y 1065353216 = some .gt := by rw [ho, compare_int, if_neg (by omega), if_neg (by omega)]
    simp [Builtin.min_, Builtin.min2, ho']
theorem clamp_min {y : Nat} (h : Plain y) : (if gtB (if ltB y 0 = true then 0 else y) 1065353216 = true then 1065353216 else (if ltB y 0 = true then 0 else y)) = clampB y := by
  unfold clampB
  have g0 : gtB 0 1065353216 = false := by decide +kernel
  split
  · rw [g0]; rfl
  · rfl
theorem clamp_plain {y : Nat} (h : Plain y) : Plain (if ltB y 0 = true then 0 else y) := by
  split
  · exact zero_plain
  · exact h
/-- A finite number by its sign and its word. -/
theorem fin_word {y : Nat} (hy : y < 4294967296) (h : finA .f32 (av .f32 y) = true) : ∃ s r, y = Ieee.single.word s r ∧ r < Ieee.single.infRung := by
  have hs := fin_self h
  rw [hs] at h
  have hsw : Ieee.single.signWeight = 2147483648 := by decide
  by_cases hr : y % 2147483648 < Ieee.single.infRung
  · refine ⟨(y / 2147483648 % 2 == 1), y % 2147483648, ?_, hr⟩
    unfold Ieee.Format.word
    rw [hsw]
    by_cases h1 : y / 2147483648 % 2 = 1
    · rw [if_pos (by simpa using h1)]; omega
    · rw [if_neg (by simpa using h1)]; omega
  · exfalso
    have hb : ¬ (y % 2147483648 < Ieee.single.binade) := by
      have : Ieee.single.binade ≤ Ieee.single.infRung := by decide
      omega
    have hn := num_of hs
    have hread : Ieee.single.read y = if y % 2147483648 = Ieee.single.infRung then .infinity (y / 2147483648 % 2 == 1) else .nan (y / 2147483648 % 2 == 1) (y % 2147483648 - Ieee.single.infRung) := by
      unfold Ieee.Format.read
      simp only [hsw]
      rw [if_neg hb, if_neg hr]
    by_cases he : y % 2147483648 = Ieee.single.infRung
    · rw [if_pos he] at hread
      have h' : (!(FloatKind.f32.format.read y).isInfinity) = true := h
      rw [show FloatKind.f32.format.read y = Ieee.Datum.infinity (y / 2147483648 % 2 == 1) from hread] at h'
      cases h'
    · rw [if_neg he] at hread
      rw [hread] at hn
      cases hn
theorem fin_one {y : Nat} (hy : y < 4294967296) (h : finA .f32 (av .f32 y) = true) (he : fK y = fK 1065353216) : y = 1065353216 := by
  obtain ⟨s, r, rfl, h1⟩ := fin_word hy h
  rw [fK_word s r h1, fK_one] at he
  have hv := vk_one
  cases s with
  | true =>
    exfalso
    have : (0 : Int) ≤ (vk r : Int) := by omega
    have h0 : 0 < vk 1065353216 := vk_pos (by omega)
    simp at he
    omega
  | false =>
    simp at he
    rcases Nat.lt_trichotomy r 1065353216 with hl | hl | hl
    · have := vk_mono (show r ≤ 1065353215 by omega); omega
    · subst hl; rfl
    · have := vk_mono (show 1065353217 ≤ r by omega); omega
/-- The lesser one of a number and 1. -/
def min1 (y : Nat) : Nat := if gtB y 1065353216 = true then 1065353216 else y
theorem min1_run {P : Program} {y : Nat} (hy : y < 4294967296) (h : finA .f32 (av .f32 y) = true) (ts : Array TypeId) (t : TypeId) (w : World) : (Builtin.min_ ts t #[.float .f32 y, .float .f32 1065353216]).run P w = .ok (.float .f32 (min1 y)) w := by
  have hs := fin_self h
  have ho := order_K hs av_one.1
  have hl := gtB_K hs av_one.1
  unfold min1
  rw [hl]
  rcases Int.lt_trichotomy (fK y) (fK 1065353216) with e | e | e
  · rw [decide_eq_false (by omega), if_neg (by simp)]
    have ho' : FloatKind.f32.format.order y 1065353216 = some .lt := by rw [ho, compare_int, if_pos e]
    simp [Builtin.min_, Builtin.min2, ho']
  · rw [decide_eq_false (by omega), if_neg (by simp)]
    have ey := fin_one hy h e
    have ho' : FloatKind.f32.format.order y 1065353216 = some .eq := by rw [ho, compare_int, if_neg (by omega), if_pos e]
    subst ey
    have hn : (FloatKind.f32.decode 1065353216).neg = false := by decide +kernel
    simp [Builtin.min_, Builtin.min2, ho', hn]
  · rw [decide_eq_true e, if_pos rfl]
    have ho' : FloatKind.f32.format.order y 1065353216 = some .gt := by rw [ho, compare_int, if_neg (by omega), if_neg (by omega)]
    simp [Builtin.min_, Builtin.min2, ho']
theorem order_some {x y : Nat} {o : Ordering} (h : FloatKind.f32.format.order x y = some o) : av .f32 x = some x := by
  rcases av_self_or x with e | e
  · exact e
  · rw [aord_order, e] at h; cases h
/-- A share's word: from 0 to that of 1; only a zero can have a sign. -/
theorem part_word {x : Nat} (hx : x < 4294967296) (h : partB x = true) : ∃ s r, x = Ieee.single.word s r ∧ r ≤ 1065353216 ∧ (s = true → r = 0) := by
  have h2 : geB x 0 = true ∧ leB x 1065353216 = true := by unfold partB at h; simpa using h
  have hs : av .f32 x = some x := by
    have h1 := h2.1
    unfold geB at h1
    cases ho : FloatKind.f32.format.order x 0 with
    | none => rw [ho] at h1; cases h1
    | some o => exact order_some ho
  have hg := h2.1
  have hl := h2.2
  rw [geB_K hs av_one.2, fK_zero] at hg
  rw [leB_K hs av_one.1] at hl
  have hg' : 0 ≤ fK x := by simpa using hg
  have hl' : fK x ≤ fK 1065353216 := by simpa using hl
  have hfin : finA .f32 (av .f32 x) = true := by
    rw [hs]
    rcases read_all x with ⟨s, m, i, hr, _⟩ | ⟨s, hr⟩ | ⟨s, f, hr⟩
    · show (!(Ieee.single.read x).isInfinity) = true; rw [hr]; rfl
    · exfalso
      have hb : fK 1065353216 < big := by decide +kernel
      have hp := big_pos
      have : fK x = if s then -big else big := by unfold fK; rw [hr]; cases s <;> rfl
      cases s <;> simp at this <;> omega
    · have := num_of hs; rw [hr] at this; cases this
  obtain ⟨s, r, rfl, h1⟩ := fin_word hx hfin
  rw [fK_word s r h1] at hg' hl'
  rw [fK_one] at hl'
  refine ⟨s, r, rfl, ?_, fun e => ?_⟩
  · rcases Nat.lt_or_ge 1065353216 r with hb | hb
    · exfalso
      have := vk_mono (show 1065353217 ≤ r by omega)
      have := vk_one
      cases s <;> simp at hg' hl' <;> omega
    · exact hb
  · subst e
    rcases Nat.eq_zero_or_pos r with h0 | h0
    · exact h0
    · have := vk_pos h0; simp at hg'; omega
end Go.Proofs.Ytgeomaeccalceaa
