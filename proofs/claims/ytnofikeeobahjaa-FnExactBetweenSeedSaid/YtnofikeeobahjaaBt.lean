/- A number between two others: what the code and its model return. -/
import Derived.Test.YtnofikeeobahjaaNg
namespace Go.Proofs.Ytnofikeeobahjaa
open Go Go.RowKit Fl
set_option linter.unusedVariables false

/-! ### Plain facts -/
theorem write_inf_fin (f : FloatKind) (s : Bool) : (f.format.read (f.format.write (.infinity s))).isInfinity = true := by
  cases f <;> cases s <;> decide +kernel
/-- A difference that is finite is one of finite numbers. -/
theorem sub_fin {x y : Nat} (h : finA .f32 (aop .sub .f32 (av .f32 x) (av .f32 y)) = true) : (∃ s m i, Ieee.single.read x = .number s m i) ∧ (∃ s m i, Ieee.single.read y = .number s m i) := by
  have key : ∀ d : Ieee.Datum, (Ieee.single.read x).sum (Ieee.single.read y).opposite = some d → (Ieee.single.read (Ieee.single.write d)).isInfinity = false → (∃ s m i, Ieee.single.read x = .number s m i) ∧ (∃ s m i, Ieee.single.read y = .number s m i) := by
    intro d hd hi
    have hinf : ∀ s, (Ieee.single.read (Ieee.single.write (.infinity s))).isInfinity = true := write_inf_fin .f32
    cases hx : Ieee.single.read x with
    | nan _ _ => rw [hx] at hd; simp [Ieee.Datum.sum] at hd
    | infinity s =>
      rw [hx] at hd
      cases hy : Ieee.single.read y with
      | nan _ _ => rw [hy] at hd; simp [Ieee.Datum.sum, Ieee.Datum.opposite] at hd
      | infinity t =>
        rw [hy] at hd
        simp only [Ieee.Datum.opposite, Ieee.Datum.sum] at hd
        split at hd
        · cases hd; rw [hinf] at hi; cases hi
        · cases hd
      | number t n j => rw [hy] at hd; simp only [Ieee.Datum.opposite, Ieee.Datum.sum] at hd; cases hd; rw [hinf] at hi; cases hi
    | number s m i =>
      rw [hx] at hd
      cases hy : Ieee.single.read y with
      | nan _ _ => rw [hy] at hd; simp [Ieee.Datum.sum, Ieee.Datum.opposite] at hd
      | infinity t => rw [hy] at hd; simp only [Ieee.Datum.opposite, Ieee.Datum.sum] at hd; cases hd; rw [hinf] at hi; cases hi
      | number t n j => exact ⟨⟨s, m, i, rfl⟩, ⟨t, n, j, rfl⟩⟩
  rw [aop_bop] at h
  cases hb : bop .sub .f32 x y with
  | none => rw [hb] at h; cases h
  | some r =>
    rw [hb] at h
    have hb' : ((Ieee.single.read x).sum (Ieee.single.read y).opposite).map Ieee.single.write = some r := hb
    cases hd : (Ieee.single.read x).sum (Ieee.single.read y).opposite with
    | none => rw [hd] at hb'; cases hb'
    | some d =>
      rw [hd] at hb'
      injection hb' with hb'
      refine key d hd ?_
      rw [hb']
      have h' : (!(Ieee.single.read r).isInfinity) = true := h
      simpa using h'

/-- The order of two 32-bit numbers, none of them a not-a-number: less or not. -/
theorem ge_not_lt {x y : Nat} (h : Ieee.single.order x y ≠ none) : geB x y = !ltB x y := by
  unfold geB ltB
  have e : FloatKind.f32.format.order x y = Ieee.single.order x y := rfl
  rw [e]
  cases ho : Ieee.single.order x y with
  | none => exact absurd ho h
  | some o => cases o <;> rfl
theorem order_some {x y : Nat} (hx : (Ieee.single.read x).isNaN = false) (hy : (Ieee.single.read y).isNaN = false) : Ieee.single.order x y ≠ none := by
  unfold Ieee.Format.order
  cases h1 : Ieee.single.read x <;> cases h2 : Ieee.single.read y <;> rw [h1] at hx <;> rw [h2] at hy <;> first | (cases hx; done) | (cases hy; done) | (simp [Ieee.Datum.order])

/-- What is drawn between x and y: x + (y - x) * u, before it is looked whether it is less than y. -/
def btwV (x y u : Nat) : Option Nat := aop .add .f32 (av .f32 x) (aop .mul .f32 (aop .sub .f32 (av .f32 y) (av .f32 x)) (av .f32 u))
/-- What is needed of the numbers on the way. -/
structure Btw (x y u c : Nat) : Prop where
  v : btwV x y u = some c
  avc : av .f32 c = some c
  lt : c < 4294967296
  ge : geB c y = !ltB c y
  fin : ltB c y = true → finA .f32 (some c) = true
  finx : finA .f32 (av .f32 x) = true
  finy : finA .f32 (av .f32 y) = true
  xx : av .f32 x = some x
theorem signed_false (m u : Nat) : Ieee.signed false m u = ((m * 2 ^ u : Nat) : Int) := by unfold Ieee.signed; rw [Nat.shiftLeft_eq]; rfl
theorem signed_true (m u : Nat) : Ieee.signed true m u = -((m * 2 ^ u : Nat) : Int) := by unfold Ieee.signed; rw [Nat.shiftLeft_eq]; rfl
/-- A word without a sign is read without a sign. -/
theorem read_pos {r : Nat} (h : r < 2147483648) : (∃ m i, Ieee.single.read r = .number false m i ∧ -149 ≤ i) ∨ Ieee.single.read r = .infinity false ∨ (Ieee.single.read r).isNaN = true := by
  have hsw := single_sw
  have hin := single_inf
  have hbi := single_bin
  unfold Ieee.Format.read
  simp only [hsw, hin, hbi, single_least]
  have e : (r / 2147483648 % 2 == 1) = false := by rw [Nat.div_eq_of_lt h]; rfl
  rw [e]
  split
  · exact .inl ⟨_, _, rfl, by omega⟩
  · split
    · exact .inl ⟨_, _, rfl, by omega⟩
    · split
      · exact .inr (.inl rfl)
      · exact .inr (.inr rfl)
theorem near_pos (m : Nat) (i : Int) : Ieee.single.nearest false m i < 2147483648 := by
  have hword : ∀ r, Ieee.single.word false r = r := fun _ => rfl
  unfold Ieee.Format.nearest
  split
  · rw [hword]; omega
  · rw [hword]
    refine Nat.lt_of_le_of_lt (Nat.min_le_right _ _) ?_
    rw [single_inf]; omega
theorem read_notNaN_write (d : Ieee.Datum) (h : d.isNaN = false) : (Ieee.single.read (Ieee.single.write d)).isNaN = false := read_write Ieee.single d h
set_option maxRecDepth 100000 in
theorem btw_of {x y u : Nat} {ux : Nat} {ui : Int} (hu : Ieee.single.read u = .number false ux ui) (hf : finA .f32 (aop .sub .f32 (av .f32 y) (av .f32 x)) = true) (hlt : ltB x y = true) : ∃ c, Btw x y u c := by
  obtain ⟨⟨sy, my, iy, hy⟩, ⟨sx, mx, ix, hx⟩⟩ := sub_fin hf
  have hax := av_num hx
  have hay := av_num hy
  have hau := av_num hu
  -- the width
  have hw0 : aop .sub .f32 (av .f32 y) (av .f32 x) = some (Ieee.single.write (.number (if Ieee.signed sy my (iy - min iy ix).toNat + Ieee.signed (!sx) mx (ix - min iy ix).toNat = 0 then sy && !sx else decide (Ieee.signed sy my (iy - min iy ix).toNat + Ieee.signed (!sx) mx (ix - min iy ix).toNat < 0)) (Ieee.signed sy my (iy - min iy ix).toNat + Ieee.signed (!sx) mx (ix - min iy ix).toNat).natAbs (min iy ix))) := by
    rw [hay, hax]
    show ((Ieee.single.read y).sum (Ieee.single.read x).opposite).map Ieee.single.write = _
    rw [hy, hx]; rfl
  have htot : 0 < Ieee.signed sy my (iy - min iy ix).toNat + Ieee.signed (!sx) mx (ix - min iy ix).toNat := by
    have ho : Ieee.single.order x y = some .lt := by
      have : (Ieee.single.order x y == some Ordering.lt) = true := hlt
      simpa using this
    unfold Ieee.Format.order at ho
    rw [hx, hy, order_number sx sy mx my ix iy (min iy ix) (by omega) (by omega), compare_int] at ho
    have hneg : Ieee.signed (!sx) mx (ix - min iy ix).toNat = -Ieee.signed sx mx (ix - min iy ix).toNat := by
      cases sx
      · rw [signed_false]; exact signed_true _ _
      · rw [signed_true, Int.neg_neg]; exact signed_false _ _
    rw [hneg]
    split at ho
    · omega
    · split at ho <;> cases ho
  generalize Ieee.signed sy my (iy - min iy ix).toNat + Ieee.signed (!sx) mx (ix - min iy ix).toNat = T at hw0 htot
  rw [if_neg (by omega), decide_eq_false (by omega)] at hw0
  generalize hwd : Ieee.single.write (.number false T.natAbs (min iy ix)) = wd at hw0
  have hwl : wd < 2147483648 := by rw [← hwd]; exact near_pos _ _
  have hwn : (Ieee.single.read wd).isNaN = false := by rw [← hwd]; exact read_notNaN_write _ rfl
  rw [hw0] at hf
  have hwf : (Ieee.single.read wd).isInfinity = false := by
    have h' : (!(Ieee.single.read wd).isInfinity) = true := hf
    simpa using h'
  obtain ⟨mw, iw, hrw, hiw⟩ : ∃ m i, Ieee.single.read wd = .number false m i ∧ -149 ≤ i := by
    rcases read_pos hwl with h | h | h
    · exact h
    · rw [h] at hwf; cases hwf
    · rw [h] at hwn; cases hwn
  -- the product
  have hp0 : aop .mul .f32 (some wd) (av .f32 u) = some (Ieee.single.nearest false (mw * ux) (iw + ui)) := by
    rw [hau]
    show ((Ieee.single.read wd).product (Ieee.single.read u)).map Ieee.single.write = _
    rw [hrw, hu]; rfl
  generalize hpd : Ieee.single.nearest false (mw * ux) (iw + ui) = p at hp0
  have hpl : p < 2147483648 := by rw [← hpd]; exact near_pos _ _
  have hpn : (Ieee.single.read p).isNaN = false := by rw [← hpd]; exact read_notNaN_write (.number false (mw * ux) (iw + ui)) rfl
  -- the sum
  have hsum : ∃ d, (Ieee.single.read x).sum (Ieee.single.read p) = some d ∧ d.isNaN = false ∧ (finA .f32 (some (Ieee.single.write d)) = false → Ieee.single.read (Ieee.single.write d) = .infinity false) := by
    rw [hx]
    rcases read_pos hpl with ⟨mp, ip, hp, hip⟩ | hp | hp
    · rw [hp]
      refine ⟨_, rfl, rfl, ?_⟩
      intro hfin
      -- the sign
      generalize hS : Ieee.signed sx mx (ix - min ix ip).toNat + Ieee.signed false mp (ip - min ix ip).toNat = S at *
      by_cases h0 : S < 0
      · exfalso
        rw [if_neg (by omega), decide_eq_true h0] at hfin
        -- |S| <= |x|
        have hsx : sx = true := by
          cases sx with
          | true => rfl
          | false => rw [signed_false, signed_false] at hS; omega
        subst hsx
        rw [signed_true, signed_false] at hS
        have hR : x % 2147483648 < 2139095040 := by
          have hsw := single_sw
          have hin := single_inf
          have hbi := single_bin
          have h1 := hx
          unfold Ieee.Format.read at h1
          simp only [hsw, hin, hbi] at h1
          split at h1
          · omega
          · split at h1
            · omega
            · split at h1 <;> cases h1
        have hrr := read_rung .f32 x (by show x % Ieee.single.signWeight < Ieee.single.infRung; rw [single_sw, single_inf]; exact hR)
        have hrr' : Ieee.single.read x = .number (x / Ieee.single.signWeight % 2 == 1) (magOf Ieee.single (x % Ieee.single.signWeight)) (Ieee.single.leastPlace + placeOf Ieee.single (x % Ieee.single.signWeight)) := hrr
        rw [hx] at hrr'
        injection hrr' with _ hm1 hi1
        have hvr := val_rung .f32 (x % Ieee.single.signWeight)
        have hvr' : val mx ix = vr Ieee.single (x % Ieee.single.signWeight) := by rw [hm1, hi1]; exact hvr
        have hlp := single_least
        have hpl0 : (0 : Int) ≤ (placeOf Ieee.single (x % Ieee.single.signWeight) : Int) := by omega
        have hix : -149 ≤ ix := by omega
        have hin : In .f32 (x % Ieee.single.signWeight) (some (Ieee.single.write (.number true S.natAbs (min ix ip)))) := by
          refine write_in (k := .f32) (by omega) (by show x % Ieee.single.signWeight < Ieee.single.infRung; rw [single_sw, single_inf]; exact hR) ?_
          show val _ _ ≤ vr Ieee.single _
          rw [← hvr', ← val_shift mx ix (min ix ip) (by omega) (by omega)]
          refine Nat.mul_le_mul_right _ ?_
          omega
        obtain ⟨b, s, m, i, e1, e2, _, _⟩ := In.read hin (by show x % Ieee.single.signWeight < Ieee.single.infRung; rw [single_sw, single_inf]; exact hR)
        cases e1
        have e2' : Ieee.single.read (Ieee.single.write (.number true S.natAbs (min ix ip))) = .number s m i := e2
        have hfin' : (!(Ieee.single.read (Ieee.single.write (.number true S.natAbs (min ix ip)))).isInfinity) = false := hfin
        rw [e2'] at hfin'
        cases hfin'
      · have hsg : (if S = 0 then sx && false else decide (S < 0)) = false := by
          split
          · simp
          · exact decide_eq_false h0
        rw [hsg] at hfin ⊢
        have hl := near_pos S.natAbs (min ix ip)
        rcases read_pos hl with ⟨m, i, h, _⟩ | h | h
        · have hfin' : (!(Ieee.single.read (Ieee.single.nearest false S.natAbs (min ix ip))).isInfinity) = false := hfin
          rw [h] at hfin'; cases hfin'
        · exact h
        · have := read_notNaN_write (.number false S.natAbs (min ix ip)) rfl
          have h2 : (Ieee.single.read (Ieee.single.nearest false S.natAbs (min ix ip))).isNaN = false := this
          rw [h] at h2; cases h2
    · rw [hp]
      exact ⟨.infinity false, rfl, rfl, fun _ => by decide +kernel⟩
    · rw [hp] at hpn; cases hpn
  obtain ⟨d, hd, hdn, hdi⟩ := hsum
  have hcn := read_notNaN_write d hdn
  refine ⟨Ieee.single.write d, ?_, av_some (k := .f32) hcn, Ieee.single.write_lt d, ge_not_lt (order_some hcn (by rw [hy]; rfl)), ?_, fin_num hx, fin_num hy, hax⟩
  · unfold btwV
    rw [hw0, hp0, hax]
    show ((Ieee.single.read x).sum (Ieee.single.read p)).map Ieee.single.write = _
    rw [hd]; rfl
  · intro hl
    cases hfin : finA .f32 (some (Ieee.single.write d)) with
    | true => rfl
    | false =>
      exfalso
      have hi := hdi hfin
      have : (Ieee.single.order (Ieee.single.write d) y == some Ordering.lt) = true := hl
      unfold Ieee.Format.order at this
      rw [hi, hy] at this
      cases this
end Go.Proofs.Ytnofikeeobahjaa
