/- Phasors: the sine of a word that is not great, both sides. -/
import Derived.Test.YticmnkgcolgpaaaPhd
import Derived.Test.YticmnkgcolgpaaaSineT
namespace Go.Proofs.Yticmnkgcolgpaaa.Fl
open Go Go.RowKit Ieee
set_option linter.unusedVariables false
def sinV (b : Nat) : Option Nat := match (double.read b).toInt .zero with
  | some n => sineA (fr1 (aop .sub .f64 (av .f64 b) (av .f64 (floatOfInt .f64 n))))
  | none => none
theorem small_sin {b c : Nat} {n : Int} (h : Small b n c) : sinV b = sineA (fr1 (some c)) := by
  unfold sinV
  rw [h.int]
  show sineA (fr1 (aop .sub .f64 _ _)) = _
  rw [h.rest]
theorem few_val {B : Nat} {v : Option Nat} (h : P2 B v) (hB : B ≤ 50) : ∃ b s m i, v = some b ∧ double.read b = .number s m i ∧ val m i < 2 ^ (52 + K0) ∧ -1074 ≤ i := by
  obtain ⟨b, s, m, i, e1, e2, e3, e4⟩ := In.read (k := .f64) h (R2_lt B (by omega))
  have e3' : val m i ≤ vr double (R2 B) := e3
  rw [vr_R2] at e3'
  exact ⟨b, s, m, i, e1, e2, Nat.lt_of_le_of_lt e3' (Nat.pow_lt_pow_right (by omega) (by omega)), e4⟩
theorem sineC_any (b : Nat) {B : Nat} (hb : P2 B (some b)) (hB : B ≤ 50) (w : World) : Calls Try.prog 54 #[.float .f64 b] w (NumW (sinV b) w) := by
  obtain ⟨b', s, m, i, e1, e2, e3, e4⟩ := few_val hb hB
  cases e1
  obtain ⟨n, c, h⟩ := small_of b s m i e2 e4 e3
  rw [small_sin h]
  exact wideSine_any b n c h w
theorem sinV_in {b B : Nat} (hb : P2 B (some b)) (hB : B ≤ 50) : P2 110 (sinV b) := by
  obtain ⟨b', s, m, i, e1, e2, e3, e4⟩ := few_val hb hB
  cases e1
  obtain ⟨n, c, h⟩ := small_of b s m i e2 e4 e3
  rw [small_sin h]
  exact sineA_in (fr1_in h.p2)
theorem sineM_any (b : Nat) {B : Nat} (hb : P2 B (some b)) (hB : B ≤ 50) (w : World) : Calls Try.prog 91 #[.float .f64 b] w (NumW (sinV b) w) := by
  obtain ⟨b', s, m, i, e1, e2, e3, e4⟩ := few_val hb hB
  cases e1
  obtain ⟨n, c, h⟩ := small_of b s m i e2 e4 e3
  rw [small_sin h]
  obtain ⟨cs, hz, hz0⟩ := self_sub b s m i e2
  have h1 : (FloatKind.f64.format.order b 4841369599423283200 == some Ordering.gt || FloatKind.f64.format.order b 4841369599423283200 == some Ordering.eq) = (!s && !decide (val m i < 2 ^ (52 + K0))) := geq_lim b s m i e2 e4
  have h2 : (FloatKind.f64.format.order b 14064741636278059008 == some Ordering.lt || FloatKind.f64.format.order b 14064741636278059008 == some Ordering.eq) = (s && !decide (val m i < 2 ^ (52 + K0))) := leq_lim b s m i e2 e4
  rw [decide_eq_true e3, Bool.not_true, Bool.and_false] at h1 h2
  obtain ⟨c0, h0, a0⟩ := fr1_av h.avc h.p2
  have hord : (aord .f64 (some c) (some 0) == some Ordering.lt) = (FloatKind.f64.format.order c 0 == some Ordering.lt) := by
    have := aord_order .f64 c 0
    rw [h.avc, av_zero .f64] at this
    rw [this]
  cases hl : (FloatKind.f64.format.order c 0 == some Ordering.lt) with
  | true =>
    refine l01SineWide_less b n c c0 cs h h0 a0 hz hz0 h1 h2 hl (fun _ => ?_) w
    have h3 := h0
    unfold fr1 at h3
    rw [hord, hl, if_pos rfl] at h3
    rw [h.avc, av_one]
    exact h3
  | false =>
    refine l01SineWide_not b n c c0 cs h h0 a0 hz hz0 h1 h2 hl ?_ w
    have h3 := h0
    unfold fr1 at h3
    rw [hord, hl, if_neg (by decide)] at h3
    exact (Option.some.inj h3).symm
end Go.Proofs.Yticmnkgcolgpaaa.Fl
