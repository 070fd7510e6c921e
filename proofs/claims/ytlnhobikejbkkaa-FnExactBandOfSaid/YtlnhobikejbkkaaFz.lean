/- The floor of a number from 0 on, as an integer, is the integer that it is cut to (for BandOf). -/
import Derived.Test.YtlnhobikejbkkaaFo
import Derived.Test.YtlnhobikejbkkaaPm
namespace Go.Proofs.Ytlnhobikejbkkaa
open Go Go.RowKit Fl
set_option linter.unusedVariables false

theorem cut_pos (w : Ieee.Toward) (h : w = .zero ∨ w = .down) (n d : Nat) : w.cut false n d = n / 2 ^ d := by
  have hm : w.cut false n d = n / (1 <<< min d (n.log2 + 2)) := by rcases h with rfl | rfl <;> simp [Ieee.Toward.cut]
  rw [hm]
  by_cases hd : d ≤ n.log2 + 2
  · rw [Nat.min_eq_left hd, Nat.shiftLeft_eq, Nat.one_mul]
  · rw [Nat.min_eq_right (by omega), Nat.shiftLeft_eq, Nat.one_mul]
    have h1 : n < 2 ^ (n.log2 + 2) := Nat.lt_of_lt_of_le Nat.lt_log2_self (Nat.pow_le_pow_right (by omega) (by omega))
    have h2 : n < 2 ^ d := Nat.lt_of_lt_of_le h1 (Nat.pow_le_pow_right (by omega) (by omega))
    rw [Nat.div_eq_of_lt h1, Nat.div_eq_of_lt h2]
/-- What is whole of m * 2 ^ i. -/
def whl (m : Nat) (i : Int) : Nat := m * 2 ^ i.toNat / 2 ^ (-i).toNat
theorem cut_whl (w : Ieee.Toward) (h : w = .zero ∨ w = .down) (m : Nat) (i : Int) : w.cut false (m <<< i.toNat) (-i).toNat = whl m i := by
  rw [cut_pos w h, Nat.shiftLeft_eq]; rfl
theorem whl_norm (m a : Nat) (i : Int) : whl (m <<< a) (i - a) = whl m i := by
  unfold whl
  rw [Nat.shiftLeft_eq]
  by_cases h1 : (a : Int) ≤ i
  · have e1 : (-(i - (a : Int))).toNat = 0 := by omega
    have e2 : (-i).toNat = 0 := by omega
    have e3 : i.toNat = a + (i - a).toNat := by omega
    rw [e1, e2, e3, Nat.pow_add, Nat.mul_assoc]
  · have e1 : (i - (a : Int)).toNat = 0 := by omega
    rw [e1, Nat.pow_zero, Nat.mul_one]
    by_cases h2 : 0 ≤ i
    · have e2 : (-i).toNat = 0 := by omega
      have e3 : a = i.toNat + (-(i - (a : Int))).toNat := by omega
      rw [e2, Nat.pow_zero, Nat.div_one]
      conv => lhs; rw [show m * 2 ^ a = m * 2 ^ i.toNat * 2 ^ (-(i - (a : Int))).toNat by rw [Nat.mul_assoc, ← Nat.pow_add, ← e3]]
      exact Nat.mul_div_cancel _ (Nat.two_pow_pos _)
    · have e2 : i.toNat = 0 := by omega
      have e3 : (-(i - (a : Int))).toNat = (-i).toNat + a := by omega
      rw [e2, Nat.pow_zero, Nat.mul_one, e3, Nat.pow_add]
      exact Nat.mul_div_mul_right _ _ (Nat.two_pow_pos _)
theorem toInt_pos (m : Nat) (i : Int) : (Ieee.Datum.number false m i).toInt .zero = some (whl m i : Int) := by
  show some (Ieee.signed false (Ieee.Toward.zero.cut false (m <<< i.toNat) (-i).toNat) 0) = _
  rw [cut_whl .zero (.inl rfl), signed_f]; rfl
theorem whl_norm2 (m : Nat) (i : Int) (hl : m.log2 ≤ 52) : whl (m <<< (52 - m.log2)) (i + m.log2 - 52) = whl m i := by
  have e : i + (m.log2 : Int) - 52 = i - ((52 - m.log2 : Nat) : Int) := by omega
  rw [e, whl_norm]
theorem floor_trunc {r m : Nat} {i : Int} (h : Ieee.single.read r = .number false m i) (h0 : m ≠ 0) (hl : m.log2 ≤ 23) (hi1 : -149 ≤ i) (hi2 : i ≤ 104) (hQ : whl m i < 4503599627370496) :
    (Ieee.double.read (floorB (Ieee.double.write (Ieee.single.read r)))).toInt .zero = some (whl m i : Int) := by
  rw [h]
  show (Ieee.double.read (Ieee.double.write ((Ieee.double.read (Ieee.double.nearest false m i)).integral .down))).toInt .zero = _
  rw [read_nearest_exact false m i h0 (by omega) (by omega) (by omega)]
  show (Ieee.double.read (Ieee.double.nearest false (Ieee.Toward.down.cut false ((m <<< (52 - m.log2)) <<< (i + (m.log2 : Int) - 52).toNat) (-(i + (m.log2 : Int) - 52)).toNat) 0)).toInt .zero = _
  rw [cut_whl .down (.inr rfl), whl_norm2 m i (by omega)]
  generalize whl m i = Q at hQ
  by_cases hq : Q = 0
  · subst hq
    show (Ieee.double.read (Ieee.double.nearest false 0 0)).toInt .zero = _
    decide +kernel
  · have hql : Q.log2 < 52 := (Nat.log2_lt hq).2 (by omega)
    rw [read_nearest_exact false Q 0 hq (by omega) (by omega) (by omega), toInt_pos, whl_norm2 Q 0 (by omega)]
    unfold whl
    simp
theorem word_pos (f : Ieee.Format) (r : Nat) : f.word false r = r := by simp [Ieee.Format.word]
theorem nearest_pos (mag : Nat) (place : Int) : Ieee.single.nearest false mag place < 2147483648 := by
  have hinf : Ieee.single.infRung = 2139095040 := by decide
  unfold Ieee.Format.nearest
  split
  · rw [word_pos]; omega
  · simp only [word_pos]
    have := Nat.min_le_right ((max (place + mag.log2 - Ieee.single.fractionBits) Ieee.single.leastPlace - Ieee.single.leastPlace).toNat * Ieee.single.binade + Ieee.Toward.even.cut false (mag <<< (place - max (place + mag.log2 - Ieee.single.fractionBits) Ieee.single.leastPlace).toNat) (max (place + mag.log2 - Ieee.single.fractionBits) Ieee.single.leastPlace - place).toNat) Ieee.single.infRung
    omega
theorem read_low {b : Nat} (h : b ≤ 1132462080) : ∃ m i, Ieee.single.read b = .number false m i ∧ m < 16777216 ∧ i < 0 ∧ (m ≠ 0 → m.log2 ≤ 23 ∧ -149 ≤ i ∧ i ≤ 104) := by
  have hbin : Ieee.single.binade = 8388608 := by decide
  have hinf : Ieee.single.infRung = 2139095040 := by decide
  have hsw : Ieee.single.signWeight = 2147483648 := by decide
  have hs : (b / 2147483648 % 2 == 1) = false := by rw [Nat.div_eq_of_lt (by omega)]; rfl
  have hr : b % 2147483648 = b := Nat.mod_eq_of_lt (by omega)
  unfold Ieee.Format.read
  simp only [hbin, hinf, hsw, single_least, hs, hr]
  split
  · rename_i h1
    refine ⟨_, _, rfl, by omega, by omega, fun h0 => ⟨?_, by omega, by omega⟩⟩
    have := (Nat.log2_lt h0 (k := 23)).2 (by omega)
    omega
  · rw [if_pos (by omega)]
    refine ⟨_, _, rfl, by omega, by omega, fun h0 => ⟨?_, by omega, by omega⟩⟩
    have := (Nat.log2_lt h0 (k := 24)).2 (by omega)
    omega
theorem whl_low {m : Nat} {i : Int} (hi : i < 0) : whl m i ≤ m := by
  unfold whl
  have e : i.toNat = 0 := by omega
  rw [e, Nat.pow_zero, Nat.mul_one]
  exact Nat.div_le_self _ _
theorem gt_pos {x : Nat} (h : gtB x 0 = true) (hf : finA .f32 (av .f32 x) = true) : ∃ m i, Ieee.single.read x = .number false m i := by
  rcases read_single x with ⟨s, m, i, e, _⟩ | ⟨s, e⟩ | ⟨s, f, e⟩
  · unfold gtB at h
    rw [ord0_num e] at h
    cases s with
    | false => exact ⟨m, i, e⟩
    | true => by_cases h0 : m = 0 <;> simp [h0] at h
  · exfalso
    have hn : (FloatKind.f32.format.read x).isNaN = false := by show (Ieee.single.read x).isNaN = false; rw [e]; rfl
    rw [av_some hn] at hf
    unfold finA at hf
    have : (FloatKind.f32.format.read x).isInfinity = true := by show (Ieee.single.read x).isInfinity = true; rw [e]; rfl
    simp [this] at hf
  · exfalso
    have : av .f32 x = none := by unfold av; rw [if_pos (show (FloatKind.f32.format.read x).isNaN = true by show (Ieee.single.read x).isNaN = true; rw [e]; rfl)]
    rw [this] at hf
    simp [finA] at hf
theorem in_fin2 {x : Nat} (h : partB x = true) : finA .f32 (av .f32 x) = true := by
  obtain ⟨b, hb, hr⟩ := part_in h
  have hsw : FloatKind.f32.format.signWeight = 2147483648 := by decide
  rw [hsw] at hr
  rw [hb]; exact in_fin (R := 1065353216) (by omega) hr
theorem big_in : ∀ n : Nat, n < 257 → av .f32 (floatOfInt .f32 (n : Int)) = some (floatOfInt .f32 (n : Int)) ∧ floatOfInt .f32 (n : Int) ≤ 1132462080 := by decide +kernel
theorem vr_mul256 : vr FloatKind.f32.format 1065353216 * vr FloatKind.f32.format 1132462080 ≤ vr FloatKind.f32.format 1132462080 * 2 ^ K0 := by decide +kernel
/-- A share above 0 times how many numbers there are. -/
theorem mulB_big {x n : Nat} (h : partB x = true) (hx : gtB x 0 = true) (hn : n ≤ 256) : aop .mul .f32 (av .f32 x) (av .f32 (floatOfInt .f32 (n : Int))) = some (mulB x n) ∧ mulB x n ≤ 1132462080 ∧ (Ieee.single.read (mulB x n)).isNaN = false := by
  obtain ⟨h1, h2⟩ := big_in n (by omega)
  have hsw : FloatKind.f32.format.signWeight = 2147483648 := by decide
  have hi := In.mul (k := .f32) (X := 1065353216) (Y := 1132462080) (R := 1132462080) (part_in h) ⟨_, h1, by rw [hsw]; omega⟩ (by decide) (by decide) (by decide) vr_mul256
  obtain ⟨b, hb, hr⟩ := hi
  rw [hsw] at hr
  have e : mulB x n = b := by unfold mulB; rw [hb]; rfl
  have hbop := hb
  rw [aop_bop] at hbop
  have hnn := bop_notNaN hbop
  have hpos : b < 2147483648 := by
    obtain ⟨m, i, e1⟩ := gt_pos hx (in_fin2 h)
    obtain ⟨m2, i2, e2, _⟩ := read_low h2
    have hm : Ieee.single.mul x (floatOfInt .f32 (n : Int)) = some b := hbop
    unfold Ieee.Format.mul at hm
    rw [e1, e2] at hm
    have : b = Ieee.single.nearest false (m * m2) (i + i2) := by
      simp only [Ieee.Datum.product, Option.map_some, Option.some.injEq] at hm
      exact hm.symm
    rw [this]; exact nearest_pos _ _
  rw [e]
  exact ⟨hb, by omega, hnn⟩
end Go.Proofs.Ytlnhobikejbkkaa
