/- What is whole of a number of 32 bits: its tests. -/
import Derived.Test.YtlnhobikejbkkaaTn
namespace Go.Proofs.Ytlnhobikejbkkaa
open Go Go.RowKit Fl
set_option linter.unusedVariables false

theorem cut_pow (s : Bool) (x d : Nat) (h : x ≠ 0) : Ieee.Toward.down.cut s (x <<< d) d = x := by
  have hp : 0 < 2 ^ d := Nat.two_pow_pos _
  unfold Ieee.Toward.cut
  have hl := log2_shift x d h
  have e : min d ((x <<< d).log2 + 2) = d := by omega
  simp only [e]
  rw [Nat.shiftLeft_eq, Nat.shiftLeft_eq, Nat.one_mul, Nat.mul_div_cancel _ hp, Nat.mul_mod_left]
  simp
/-- A number of 32 bits that is whole is written as it is. -/
theorem floor_whole {r : Nat} {s : Bool} {m : Nat} {i : Int} (h : Ieee.single.read r = .number s m i) (h0 : m ≠ 0) (hi : 0 ≤ i) (hl : m.log2 ≤ 23) (hh : i ≤ 104) :
    floorB (Ieee.double.write (Ieee.single.read r)) = Ieee.double.write (Ieee.single.read r) := by
  rw [h]
  show Ieee.double.write ((Ieee.double.read (Ieee.double.nearest s m i)).integral .down) = Ieee.double.nearest s m i
  rw [read_nearest_exact s m i h0 (by omega) (by omega) (by omega)]
  show Ieee.double.nearest s (Ieee.Toward.down.cut s ((m <<< (52 - m.log2)) <<< (i + (m.log2 : Int) - 52).toNat) (-(i + (m.log2 : Int) - 52)).toNat) 0 = _
  have hc : Ieee.Toward.down.cut s ((m <<< (52 - m.log2)) <<< (i + (m.log2 : Int) - 52).toNat) (-(i + (m.log2 : Int) - 52)).toNat = m <<< i.toNat := by
    rw [← Nat.shiftLeft_add]
    by_cases hI : 0 ≤ i + (m.log2 : Int) - 52
    · have e1 : (-(i + (m.log2 : Int) - 52)).toNat = 0 := by omega
      have e2 : 52 - m.log2 + (i + (m.log2 : Int) - 52).toNat = i.toNat := by omega
      rw [e1, e2]
      have := cut_pow s (m <<< i.toNat) 0 (by rw [Nat.shiftLeft_eq]; exact Nat.mul_ne_zero h0 (by have := Nat.two_pow_pos i.toNat; omega))
      simpa using this
    · have e1 : (i + (m.log2 : Int) - 52).toNat = 0 := by omega
      have e2 : 52 - m.log2 + (i + (m.log2 : Int) - 52).toNat = i.toNat + (-(i + (m.log2 : Int) - 52)).toNat := by omega
      rw [e2, Nat.shiftLeft_add]
      exact cut_pow s (m <<< i.toNat) _ (by rw [Nat.shiftLeft_eq]; exact Nat.mul_ne_zero h0 (by have := Nat.two_pow_pos i.toNat; omega))
  rw [hc, nearest_scale Ieee.double s m i.toNat 0 h0]
  congr 1
  omega
/-- In the range from 0 to 1e9. -/
def inB (r : Nat) : Bool := geB r 0 && leB r 1315859240
def in64 (b : Nat) : Bool := (FloatKind.f64.format.order b 0 == some Ordering.gt || FloatKind.f64.format.order b 0 == some Ordering.eq) && (FloatKind.f64.format.order b 4741671816366391296 == some Ordering.lt || FloatKind.f64.format.order b 4741671816366391296 == some Ordering.eq)
theorem wide0 : widen (av .f32 0) = some 0 := by decide +kernel
theorem wide9 : widen (av .f32 1315859240) = some 4741671816366391296 := by decide +kernel
theorem av64_0 : av .f64 0 = some 0 := by decide +kernel
theorem av64_9 : av .f64 4741671816366391296 = some 4741671816366391296 := by decide +kernel
theorem read9 : Ieee.single.read 1315859240 = .number false 15625000 6 := by decide +kernel
theorem read9_64 : Ieee.double.read 4741671816366391296 = .number false 8388608000000000 (-23) := by decide +kernel
theorem read0_64 : Ieee.double.read 0 = .number false 0 (-1074) := by decide +kernel
/-- The tests of a number that is made wide are its own. -/
theorem in64_wide {r : Nat} (hr : (Ieee.single.read r).isNaN = false) : in64 (Ieee.double.write (Ieee.single.read r)) = inB r := by
  have ha : av .f32 r = some r := av_some (k := .f32) hr
  have hw : widen (av .f32 r) = some (Ieee.double.write (Ieee.single.read r)) := by rw [ha]; rfl
  have hn : av .f64 (Ieee.double.write (Ieee.single.read r)) = some (Ieee.double.write (Ieee.single.read r)) := av_some (k := .f64) (read_write _ _ hr)
  have h0 : FloatKind.f64.format.order (Ieee.double.write (Ieee.single.read r)) 0 = FloatKind.f32.format.order r 0 := by
    rw [aord_order .f64, aord_order .f32, hn, ← hw, av64_0, ← wide0]; exact aord_widen' r 0
  have h9 : FloatKind.f64.format.order (Ieee.double.write (Ieee.single.read r)) 4741671816366391296 = FloatKind.f32.format.order r 1315859240 := by
    rw [aord_order .f64, aord_order .f32, hn, ← hw, av64_9, ← wide9]; exact aord_widen' r 1315859240
  unfold in64 inB geB leB
  rw [h0, h9]
theorem ord0_64 {a : Nat} {s : Bool} {m : Nat} {i : Int} (h : Ieee.double.read a = .number s m i) : FloatKind.f64.format.order a 0 = some (if m = 0 then .eq else if s = true then .lt else .gt) := by
  show Ieee.double.order a 0 = _
  unfold Ieee.Format.order
  rw [h, read0_64]
  show (Ieee.Datum.number s m i).order (.number false 0 (-1074)) = _
  rw [order_number s false m 0 i (-1074) (min i (-1074)) (by omega) (by omega), compare_int]
  have hp : 0 < 2 ^ (i - min i (-1074)).toNat := Nat.two_pow_pos _
  have hz : Ieee.signed false 0 (-1074 - min i (-1074)).toNat = 0 := by simp [Ieee.signed]
  rw [hz]
  by_cases h0 : m = 0
  · subst h0
    cases s <;> simp [Ieee.signed]
  · have hm : 0 < m * 2 ^ (i - min i (-1074)).toNat := Nat.mul_pos (by omega) hp
    cases s with
    | false =>
      have e : Ieee.signed false m (i - min i (-1074)).toNat = ((m * 2 ^ (i - min i (-1074)).toNat : Nat) : Int) := by unfold Ieee.signed; rw [Nat.shiftLeft_eq]; rfl
      rw [e]
      generalize m * 2 ^ (i - min i (-1074)).toNat = X at *
      rw [if_neg (by omega), if_neg (by omega)]; simp [h0]
    | true =>
      have e : Ieee.signed true m (i - min i (-1074)).toNat = -((m * 2 ^ (i - min i (-1074)).toNat : Nat) : Int) := by unfold Ieee.signed; rw [Nat.shiftLeft_eq]; rfl
      rw [e]
      generalize m * 2 ^ (i - min i (-1074)).toNat = X at *
      rw [if_pos (by omega)]; simp [h0]
theorem e9big : Ieee.signed false 8388608000000000 29 = 4503599627370496000000000 := by decide +kernel
theorem signed_f (n u : Nat) : Ieee.signed false n u = ((n <<< u : Nat) : Int) := rfl
theorem signed_t (n u : Nat) : Ieee.signed true n u = -((n <<< u : Nat) : Int) := rfl
theorem zero64 (s : Bool) : in64 (Ieee.double.nearest s 0 0) = true := by
  cases s <;> decide +kernel
theorem less9 (s : Bool) (Q : Nat) (h0 : Q ≠ 0) (hQ : Q ≤ 8388609) (hl : Q.log2 ≤ 23) : (Ieee.Datum.number s (Q <<< (52 - Q.log2)) (0 + (Q.log2 : Int) - 52)).order (.number false 8388608000000000 (-23)) = some .lt := by
  rw [order_number s false _ _ _ _ (-52) (by omega) (by omega), compare_int]
  have e1 : (0 + (Q.log2 : Int) - 52 - -52).toNat = Q.log2 := by omega
  have e2 : ((-23 : Int) - -52).toNat = 29 := rfl
  rw [e1, e2, e9big]
  have e3 : (Q <<< (52 - Q.log2)) <<< Q.log2 = Q * 4503599627370496 := by
    rw [← Nat.shiftLeft_add, show 52 - Q.log2 + Q.log2 = 52 by omega, Nat.shiftLeft_eq]
  cases s with
  | false =>
    rw [signed_f, e3, if_pos (by omega)]
  | true =>
    rw [signed_t, e3, if_pos (by omega)]
/-- What is whole of a small number is written exactly, and is less than 1e9. -/
theorem small64 (s : Bool) (Q : Nat) (hQ : Q ≤ 8388609) : in64 (Ieee.double.nearest s Q 0) = (!s || Q == 0) := by
  by_cases h0 : Q = 0
  · subst h0
    rw [zero64]; simp
  · have hl : Q.log2 ≤ 23 := by have := (Nat.log2_lt h0 (k := 24)).2 (by omega); omega
    have hr := read_nearest_exact s Q 0 h0 (by omega) (by omega) (by omega)
    have e0 := ord0_64 hr
    have hne : ¬ Q <<< (52 - Q.log2) = 0 := by rw [Nat.shiftLeft_eq]; exact Nat.mul_ne_zero h0 (by have := Nat.two_pow_pos (52 - Q.log2); omega)
    rw [if_neg hne] at e0
    have e9 : Ieee.double.order (Ieee.double.nearest s Q 0) 4741671816366391296 = some .lt := by
      unfold Ieee.Format.order
      rw [hr, read9_64]
      exact less9 s Q h0 hQ hl
    have e9' : FloatKind.f64.format.order (Ieee.double.nearest s Q 0) 4741671816366391296 = some .lt := e9
    unfold in64
    rw [e0, e9']
    have hb : (Q == 0) = false := by simpa using h0
    rw [hb]
    cases s <;> rfl
theorem cut_neg_pos (n d : Nat) (h : n ≠ 0) : Ieee.Toward.down.cut true n d ≠ 0 := by
  unfold Ieee.Toward.cut
  simp only []
  have hg : 0 < 1 <<< min d (n.log2 + 2) := by rw [Nat.shiftLeft_eq]; have := Nat.two_pow_pos (min d (n.log2 + 2)); omega
  generalize 1 <<< min d (n.log2 + 2) = g at *
  by_cases hq : n / g = 0
  · have hlt : n < g := (Nat.div_eq_zero_iff_lt hg).1 hq
    rw [hq, Nat.mod_eq_of_lt hlt]
    have : (n != 0) = true := by simpa using h
    rw [this]; simp
  · exact Nat.ne_of_gt (Nat.lt_of_lt_of_le (Nat.pos_of_ne_zero hq) (Nat.le_add_right _ _))
theorem inB_inf {r : Nat} {s : Bool} (h : Ieee.single.read r = .infinity s) : inB r = false := by
  have e0 : FloatKind.f32.format.order r 0 = some (if s = true then .lt else .gt) := ord0_inf h
  have e9 : FloatKind.f32.format.order r 1315859240 = some (if s = true then .lt else .gt) := by
    show Ieee.single.order r 1315859240 = _
    unfold Ieee.Format.order
    rw [h, read9]; rfl
  unfold inB geB leB
  rw [e0, e9]
  cases s <;> rfl
theorem le9_small {r : Nat} {s : Bool} {m : Nat} {i : Int} (h : Ieee.single.read r = .number s m i) (hm : m < 16777216) (hi : i < 0) : leB r 1315859240 = true := by
  have e9 : FloatKind.f32.format.order r 1315859240 = some .lt := by
    show Ieee.single.order r 1315859240 = _
    unfold Ieee.Format.order
    rw [h, read9]
    show (Ieee.Datum.number s m i).order (.number false 15625000 6) = _
    rw [order_number s false _ _ _ _ i (by omega) (by omega), compare_int]
    have e1 : (i - i).toNat = 0 := by omega
    obtain ⟨k, hk⟩ : ∃ k : Nat, (6 - i).toNat = k + 7 := ⟨(6 - i).toNat - 7, by omega⟩
    rw [e1, hk, signed_f]
    have e2 : 2000000000 ≤ 15625000 <<< (k + 7) := by
      rw [Nat.shiftLeft_eq, Nat.pow_add]
      have := Nat.two_pow_pos k
      have e : (2 : Nat) ^ 7 = 128 := rfl
      rw [e]
      have : 1 * 128 ≤ 2 ^ k * 128 := Nat.mul_le_mul_right _ (by omega)
      omega
    generalize 15625000 <<< (k + 7) = X at *
    cases s with
    | false => rw [signed_f, Nat.shiftLeft_zero, if_pos (by omega)]
    | true => rw [signed_t, Nat.shiftLeft_zero, if_pos (by omega)]
  unfold leB
  rw [e9]; rfl
/-- The tests of what is whole are those of the number. -/
theorem floor_in64 (r : Nat) (hn : (Ieee.single.read r).isNaN = false) : in64 (floorB (Ieee.double.write (Ieee.single.read r))) = inB r := by
  rcases read_single r with ⟨s, m, i, e, hm⟩ | ⟨s, e⟩ | ⟨s, f, e⟩
  · by_cases h0 : m = 0
    · subst h0
      have h1 : geB r 0 = true := by unfold geB; rw [ord0_num e]; rfl
      have h2 : leB r 1315859240 = true := by
        have e9 : FloatKind.f32.format.order r 1315859240 = some .lt := by
          show Ieee.single.order r 1315859240 = _
          unfold Ieee.Format.order
          rw [e, read9]
          show (Ieee.Datum.number s 0 i).order (.number false 15625000 6) = _
          rw [order_number s false _ _ _ _ (min i 6) (by omega) (by omega), compare_int]
          have hp := Nat.two_pow_pos (6 - min i 6).toNat
          have hq : 0 < 15625000 <<< (6 - min i 6).toNat := by rw [Nat.shiftLeft_eq]; omega
          rw [signed_f]
          generalize 15625000 <<< (6 - min i 6).toNat = X at *
          have hz : Ieee.signed s 0 (i - min i 6).toNat = 0 := by cases s <;> simp [Ieee.signed]
          rw [hz, if_pos (by omega)]
        unfold leB; rw [e9]; rfl
      have hb : inB r = true := by unfold inB; rw [h1, h2]; rfl
      rw [hb, e]
      have : Ieee.double.write (.number s 0 i) = Ieee.double.word s 0 := rfl
      rw [this]
      cases s <;> decide +kernel
    · obtain ⟨hl, hi1, hi2⟩ := hm h0
      by_cases hi : 0 ≤ i
      · rw [floor_whole e h0 hi hl hi2]
        exact in64_wide hn
      · have hm24 : m < 16777216 := by have := (Nat.log2_lt h0 (k := 24)).1 (by omega); omega
        have h2 := le9_small e hm24 (by omega)
        have h1 : geB r 0 = !s := by
          unfold geB
          rw [ord0_num e, if_neg h0]
          cases s <;> rfl
        have hb : inB r = !s := by unfold inB; rw [h1, h2, Bool.and_true]
        rw [hb, e]
        show in64 (Ieee.double.write ((Ieee.double.read (Ieee.double.nearest s m i)).integral .down)) = _
        rw [read_nearest_exact s m i h0 (by omega) (by omega) (by omega)]
        show in64 (Ieee.double.nearest s (Ieee.Toward.down.cut s ((m <<< (52 - m.log2)) <<< (i + (m.log2 : Int) - 52).toNat) (-(i + (m.log2 : Int) - 52)).toNat) 0) = _
        have e1 : (i + (m.log2 : Int) - 52).toNat = 0 := by omega
        obtain ⟨k, hk⟩ : ∃ k : Nat, (-(i + (m.log2 : Int) - 52)).toNat = (52 - m.log2) + (k + 1) := ⟨(-i).toNat - 1, by omega⟩
        rw [e1, hk, Nat.shiftLeft_zero]
        have hM : m <<< (52 - m.log2) ≠ 0 := by rw [Nat.shiftLeft_eq]; exact Nat.mul_ne_zero h0 (by have := Nat.two_pow_pos (52 - m.log2); omega)
        have hQ : Ieee.Toward.down.cut s (m <<< (52 - m.log2)) (52 - m.log2 + (k + 1)) ≤ 8388609 := by
          refine Nat.le_trans (cut_down_le _ _ _) ?_
          rw [Nat.shiftLeft_eq, Nat.pow_add, Nat.mul_comm m, Nat.mul_div_mul_left _ _ (Nat.two_pow_pos _), Nat.pow_succ, Nat.mul_comm, ← Nat.div_div_eq_div_mul]
          have := Nat.div_le_self (m / 2) (2 ^ k)
          omega
        rw [small64 s _ hQ]
        cases s with
        | false => rfl
        | true =>
          have := cut_neg_pos (m <<< (52 - m.log2)) (52 - m.log2 + (k + 1)) hM
          simpa using this
  · rw [inB_inf e, e]
    cases s <;> decide +kernel
  · rw [e] at hn; cases hn
/-- A number in the range has a whole part. -/
theorem floor_int (r : Nat) (hb : inB r = true) : ∃ n : Int, (Ieee.double.read (floorB (Ieee.double.write (Ieee.single.read r)))).toInt .zero = some n ∧ n.natAbs < 4503599627370496 := by
  have hK := K0_eq
  rcases read_single r with ⟨s, m, i, e, hm⟩ | ⟨s, e⟩ | ⟨s, f, e⟩
  · have hP : P2 30 (some (Ieee.double.write (Ieee.single.read r))) := by
      rw [e]
      by_cases h0 : m = 0
      · subst h0
        show P2 30 (some (Ieee.double.word s 0))
        cases s <;> exact ⟨_, rfl, by decide +kernel⟩
      · obtain ⟨hl, hi1, hi2⟩ := hm h0
        refine write_in (k := .f64) (s := s) (m := m) (i := i) (by omega) (R2_lt _ (by omega)) ?_
        show val m i ≤ vr Ieee.double (R2 30)
        rw [vr_R2]
        have hm24 : m < 16777216 := by have := (Nat.log2_lt h0 (k := 24)).1 (by omega); omega
        by_cases hi : i < 0
        · unfold val
          have h1 : 2 ^ (i + (K0 : Int)).toNat ≤ 2 ^ K0 := Nat.pow_le_pow_right (by omega) (by omega)
          have h2 : m * 2 ^ (i + (K0 : Int)).toNat ≤ 1073741824 * 2 ^ K0 := Nat.mul_le_mul (by clear h1 hK; omega) h1
          have e30 : (2 : Nat) ^ 30 = 1073741824 := rfl
          rw [Nat.pow_add, e30]; exact h2
        · have hle : leB r 1315859240 = true := by unfold inB at hb; rw [Bool.and_eq_true] at hb; exact hb.2
          have hge : geB r 0 = true := by unfold inB at hb; rw [Bool.and_eq_true] at hb; exact hb.1
          have hs : s = false := by
            unfold geB at hge
            rw [ord0_num e, if_neg h0] at hge
            cases s with
            | false => rfl
            | true => cases hge
          subst hs
          have hmi : m * 2 ^ i.toNat ≤ 1000000000 := by
            unfold leB at hle
            have ho : FloatKind.f32.format.order r 1315859240 = some (compare (Ieee.signed false m (i - 0).toNat) (Ieee.signed false 15625000 (6 - 0 : Int).toNat)) := by
              show Ieee.single.order r 1315859240 = _
              unfold Ieee.Format.order
              rw [e, read9]
              show (Ieee.Datum.number false m i).order (.number false 15625000 6) = _
              rw [order_number false false _ _ _ _ 0 (by omega) (by omega)]
            rw [ho, compare_int] at hle
            have e1 : (6 - 0 : Int).toNat = 6 := rfl
            have e2 : (i - 0).toNat = i.toNat := by omega
            rw [e1, e2, signed_f, signed_f, Nat.shiftLeft_eq, Nat.shiftLeft_eq] at hle
            have e3 : 15625000 * 2 ^ 6 = 1000000000 := rfl
            rw [e3] at hle
            generalize m * 2 ^ i.toNat = X at *
            split at hle
            · omega
            · split at hle
              · omega
              · cases hle
          have hv : val m i = m * 2 ^ i.toNat * 2 ^ K0 := by
            unfold val
            rw [Nat.mul_assoc, ← Nat.pow_add]; congr 2; omega
          rw [hv, Nat.pow_add]
          exact Nat.mul_le_mul_right _ (by clear hv hK; omega)
    obtain ⟨_, n, h1, h2⟩ := floor_in (B := 30) (by omega) hP
    exact ⟨n, h1, h2⟩
  · rw [inB_inf e] at hb; cases hb
  · have h1 : FloatKind.f32.format.order r 0 = none := by
      show Ieee.single.order r 0 = none
      unfold Ieee.Format.order
      exact order_nan_l (by rw [e]; rfl)
    unfold inB geB at hb
    rw [h1] at hb
    cases hb
theorem inB_nan {r : Nat} (h : av .f32 r = none) : inB r = false := by
  have h1 : FloatKind.f32.format.order r 0 = none := by rw [aord_order, h]; rfl
  unfold inB geB
  rw [h1]; rfl
end Go.Proofs.Ytlnhobikejbkkaa
