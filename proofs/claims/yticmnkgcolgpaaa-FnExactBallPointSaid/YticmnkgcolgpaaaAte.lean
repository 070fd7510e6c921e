/- Angles: AngleTurns of the code. -/
import Derived.Test.YticmnkgcolgpaaaAtd
namespace Go.Proofs.Yticmnkgcolgpaaa.Fl
open Go Go.RowKit Ieee
set_option linter.unusedVariables false
/-- What is reckoned, word by word. -/
structure Words (a b : Nat) (ov xn yn : Bool) (T S V1 V2 : Nat) : Prop where
  t1 : ov = true → aop .quo .f64 (some b) (some a) = some T
  t2 : ov = false → aop .quo .f64 (some a) (some b) = some T
  s : stV (some T) = some S
  u1 : ov = true → aop .sub .f64 (some QUART) (some S) = some V1
  u2 : ov = false → V1 = S
  v1 : xn = true → aop .sub .f64 (some HALF) (some V1) = some V2
  v2 : xn = false → V2 = V1
  at_ : av .f64 T = some T
  as_ : av .f64 S = some S
  a1 : av .f64 V1 = some V1
  a2 : av .f64 V2 = some V2
  ang : angV a b xn yn = some (if yn = true then Op.negFloat .f64 V2 else V2)
  big : In .f64 R127 (angV a b xn yn)
theorem words_of {a b : Nat} {xn yn ov : Bool} (hov : (FloatKind.f64.format.order a b == some Ordering.gt) = ov) (hQ : Pz 0 (lessQ a b)) : ∃ T S V1 V2, Words a b ov xn yn T S V1 V2 := by
  obtain ⟨T, hT⟩ := (hQ.p2 (by omega)).has
  have hS := stV_in hQ
  rw [hT] at hS
  obtain ⟨S, hS2⟩ := hS.has
  have aS : av .f64 S = some S := by unfold stV at hS2; exact aop_av hS2
  have aT : av .f64 T = some T := by
    unfold lessQ at hT
    split at hT
    · exact aop_av hT
    · exact aop_av hT
  have h1 : ∃ V1, (ov = true → aop .sub .f64 (some QUART) (some S) = some V1) ∧ (ov = false → V1 = S) ∧ av .f64 V1 = some V1 ∧ P2 12 (some V1) ∧ (if ov = true then aop .sub .f64 (some QUART) (some S) else some S) = some V1 := by
    rw [hS2] at hS
    cases ov with
    | false => exact ⟨S, (fun h => by cases h), fun _ => rfl, aS, P2.mono hS (by omega), rfl⟩
    | true =>
      have hq : P2 0 (some QUART) := ⟨_, rfl, by decide +kernel⟩
      have h := P2.sub (c := 11) hq hS (by omega) (by omega) (by omega)
      obtain ⟨V, hV⟩ := h.has
      exact ⟨V, fun _ => hV, (fun h => by cases h), aop_av hV, (by rw [hV] at h; exact h), hV⟩
  obtain ⟨V1, u1, u2, a1, p1, i1⟩ := h1
  have h2 : ∃ V2, (xn = true → aop .sub .f64 (some HALF) (some V1) = some V2) ∧ (xn = false → V2 = V1) ∧ av .f64 V2 = some V2 ∧ P2 13 (some V2) ∧ (if xn = true then aop .sub .f64 (some HALF) (some V1) else some V1) = some V2 := by
    cases xn with
    | false => exact ⟨V1, (fun h => by cases h), fun _ => rfl, a1, P2.mono p1 (by omega), rfl⟩
    | true =>
      have hq : P2 0 (some HALF) := ⟨_, rfl, by decide +kernel⟩
      have h := P2.sub (c := 12) hq p1 (by omega) (by omega) (by omega)
      obtain ⟨V, hV⟩ := h.has
      exact ⟨V, fun _ => hV, (fun h => by cases h), aop_av hV, (by rw [hV] at h; exact h), hV⟩
  obtain ⟨V2, w1, w2, a2, p2, i2⟩ := h2
  have hang : angV a b xn yn = if yn = true then negA .f64 (some V2) else some V2 := by
    unfold angV
    simp only
    rw [hov, hT, hS2, i1, i2]
  have hbig : P2 13 (angV a b xn yn) := by
    rw [hang]
    split
    · exact P2_neg p2
    · exact p2
  refine ⟨T, S, V1, V2, ?_, ?_, hS2, u1, u2, w1, w2, aT, aS, a1, a2, ?_, ?_⟩
  · intro h; unfold lessQ at hT; rw [hov, if_pos h] at hT; exact hT
  · intro h; unfold lessQ at hT; rw [hov, if_neg (by rw [h]; decide)] at hT; exact hT
  · rw [hang]
    cases yn <;> rfl
  · obtain ⟨z, e, hz⟩ := hbig
    exact ⟨z, e, Nat.le_trans hz (Nat.mul_le_mul_right _ (by omega))⟩
theorem ord64_0A {a r : Nat} (hr : Fv .f64 (widen (av .f32 a)) r) : FloatKind.f64.format.order r 0 = FloatKind.f32.format.order a 0 := by
  rw [aord_order .f64, aord_order .f32, hr.2, ← aord_widen' a 0]
  rfl
/-- A finite number made wide. -/
structure Wd (y Y : Nat) : Prop where
  eq : widen (av .f32 y) = some Y
  self : av .f64 Y = some Y
  lt : Y < 18446744073709551616
  mag : Y % 9223372036854775808 ≤ R2 128
  ord : FloatKind.f64.format.order Y 0 = FloatKind.f32.format.order y 0
  zero : Y % 9223372036854775808 = 0 → (FloatKind.f32.format.order y 0 == some Ordering.eq) = true
  num : ∃ s m i, double.read Y = .number s m i
theorem wd_of {y : Nat} (h : finA .f32 (av .f32 y) = true) : ∃ Y, Wd y Y := by
  rcases read_single y with ⟨s, m, i, e, _⟩ | ⟨s, e⟩ | ⟨s, f, e⟩
  · have hn : av .f32 y = some y := av_some (k := .f32) (by show (single.read y).isNaN = false; rw [e]; rfl)
    have hin := widen_in y s m i e
    rw [← hn] at hin
    obtain ⟨Y, hY, hb⟩ := hin
    have hsw : FloatKind.f64.format.signWeight = 9223372036854775808 := by decide
    rw [hsw] at hb
    have hYw : Y = double.write (single.read y) := by rw [hn] at hY; exact (Option.some.inj hY).symm
    have hlt : Y < 18446744073709551616 := by rw [hYw]; exact double.write_lt _
    have hself : av .f64 Y = some Y := av_some (k := .f64) (by
      have h1 : double.signWeight = 9223372036854775808 := by decide
      have h2 := read_rung .f64 Y (by show Y % double.signWeight < double.infRung; rw [h1]; exact Nat.lt_of_le_of_lt hb (by decide))
      rw [h2]; rfl)
    have hr : Fv .f64 (widen (av .f32 y)) Y := ⟨hlt, by rw [hself]; exact hY.symm⟩
    obtain ⟨r, hrr⟩ : ∃ r, r = Y := ⟨_, rfl⟩
    subst hrr
    have hri : r % double.signWeight < double.infRung := by
      have h1 : double.signWeight = 9223372036854775808 := by decide
      rw [h1]
      exact Nat.lt_of_le_of_lt hb (by decide)
    have hread := read_rung .f64 r hri
    refine ⟨r, hY, hself, hlt, hb, ord64_0A hr, ?_, _, _, _, hread⟩
    intro h0
    rw [← ord64_0A hr]
    have h3 : r = 0 ∨ r = 9223372036854775808 := by omega
    rcases h3 with rfl | rfl <;> decide +kernel
  · have hn : av .f32 y = some y := av_some (k := .f32) (by show (single.read y).isNaN = false; rw [e]; rfl)
    rw [hn] at h
    have : (!(single.read y).isInfinity) = true := h
    rw [e] at this; cases this
  · have hn : av .f32 y = none := by unfold av; rw [if_pos]; show (single.read y).isNaN = true; rw [e]; rfl
    rw [hn] at h; cases h
end Go.Proofs.Yticmnkgcolgpaaa.Fl
