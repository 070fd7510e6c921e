/- Phasors: the quarters of a fraction, as both sides find them. -/
import Derived.Test.YticmnkgcolgpaaaPhe
namespace Go.Proofs.Yticmnkgcolgpaaa.Fl
open Go Go.RowKit Ieee
set_option linter.unusedVariables false
def atLeastQ (x : Nat) : Bool := FloatKind.f64.format.order x 4598175219545276416 == some Ordering.gt || FloatKind.f64.format.order x 4598175219545276416 == some Ordering.eq
/-- The quarters, what is left, and what a quarter has more. -/
structure Quart (c0 q g d : Nat) : Prop where
  few : q ≤ 8
  step : ∀ j, j < q → ∃ x, gF (some c0) j = some x ∧ av .f64 x = some x ∧ atLeastQ x = true
  last : gF (some c0) q = some g
  ag : av .f64 g = some g
  tg : atLeastQ g = false
  pg : P2 1 (some g)
  sub : aop .sub .f64 (some QUART) (some g) = some d
  ad : av .f64 d = some d
  pd : P2 2 (some d)
theorem av_wordF {r : Nat} (h : r < double.infRung) : av .f64 (double.word false r) = some (double.word false r) := av_some (k := .f64) (by rw [show FloatKind.f64.format = double from rfl, word_read h]; rfl)
theorem quart_of {c0 : Nat} (h : c0 = double.word true 0 ∨ ∃ r, c0 = double.word false r ∧ r ≤ R2 1) : ∃ q g d, Quart c0 q g d := by
  rcases h with e | ⟨r, e, hr⟩ <;> rw [e]
  · have hp : P2 1 (some (double.word true 0)) := ⟨_, rfl, by decide +kernel⟩
    have hq : P2 1 (some QUART) := ⟨_, rfl, by decide +kernel⟩
    have hs := P2.sub hq hp (c := 1) (by omega) (by omega) (by omega)
    obtain ⟨d, hd⟩ := hs.has
    rw [hd] at hs
    exact ⟨0, double.word true 0, d, by omega, fun j hj => absurd hj (Nat.not_lt_zero _), rfl, by decide +kernel, by decide +kernel, hp, hd, aop_av hd, hs⟩
  · have hr8 : r ≤ qR 8 := Nat.le_trans hr (by decide)
    obtain ⟨q, g, h1, h2, h3, h4⟩ := quarters (k := 8) (by omega) hr8
    have hgR : g ≤ R2 1 := Nat.le_trans (Nat.le_of_lt h3) (by decide)
    have hgi : g < double.infRung := Nat.lt_of_le_of_lt hgR (R2_inf (by omega))
    have hp : P2 1 (some (double.word false g)) := Pz.p2 ⟨g, rfl, hgR⟩ (by omega)
    have hq : P2 1 (some QUART) := ⟨_, rfl, by decide +kernel⟩
    have hs := P2.sub hq hp (c := 1) (by omega) (by omega) (by omega)
    obtain ⟨d, hd⟩ := hs.has
    rw [hd] at hs
    refine ⟨q, double.word false g, d, h1, fun j hj => ?_, h2, av_wordF hgi, ?_, hp, hd, aop_av hd, hs⟩
    · obtain ⟨rj, g1, g2, g3⟩ := h4 j hj
      refine ⟨_, g1, av_wordF (Nat.lt_of_le_of_lt g3 (R2_inf (by omega))), ?_⟩
      have := quart_test g3
      rw [decide_eq_true g2] at this
      exact this
    · have := quart_test hgR
      rw [decide_eq_false (by omega)] at this
      exact this
end Go.Proofs.Yticmnkgcolgpaaa.Fl
