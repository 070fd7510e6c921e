/- A number that is written does not depend on how it is spelled: 'm * 2^a' at the place p is m at the place p + a; shares of words. -/
import Derived.Test.YticmnkgcolgpaaaBd
namespace Go.Proofs.Yticmnkgcolgpaaa.Fl
open Go Ieee

theorem log2_shift (m a : Nat) (h : m ≠ 0) : (m <<< a).log2 = m.log2 + a := by
  rw [Nat.shiftLeft_eq]
  have hp : 0 < 2 ^ a := Nat.two_pow_pos _
  have h0 : m * 2 ^ a ≠ 0 := Nat.mul_ne_zero h (by omega)
  refine (Nat.log2_eq_iff h0).2 ⟨?_, ?_⟩
  · rw [Nat.pow_add]; exact Nat.mul_le_mul_right _ (Nat.log2_self_le h)
  · rw [show m.log2 + a + 1 = (m.log2 + 1) + a by omega, Nat.pow_add]; exact Nat.mul_lt_mul_of_pos_right Nat.lt_log2_self hp

theorem cut_scale (neg : Bool) (n d a : Nat) : Toward.even.cut neg (n <<< a) (d + a) = Toward.even.cut neg n d := by
  by_cases hn : n = 0
  · subst hn
    unfold Toward.cut
    have h2 : (1 <<< min (d + a) (Nat.log2 0 + 2) == 2 * 0) = false := by rw [beq_eq_false_iff_ne, Nat.shiftLeft_eq]; have := Nat.two_pow_pos (min (d + a) (Nat.log2 0 + 2)); omega
    have h3 : (1 <<< min d (Nat.log2 0 + 2) == 2 * 0) = false := by rw [beq_eq_false_iff_ne, Nat.shiftLeft_eq]; have := Nat.two_pow_pos (min d (Nat.log2 0 + 2)); omega
    simp only [Nat.zero_shiftLeft, Nat.zero_div, Nat.zero_mod, h2, h3]
    simp
  · have hp : 0 < 2 ^ a := Nat.two_pow_pos _
    have e : 1 <<< min (d + a) ((n <<< a).log2 + 2) = (1 <<< min d (n.log2 + 2)) * 2 ^ a := by
      rw [log2_shift n a hn, show min (d + a) (n.log2 + a + 2) = min d (n.log2 + 2) + a by omega, Nat.shiftLeft_eq, Nat.shiftLeft_eq, Nat.pow_add, Nat.one_mul, Nat.one_mul]
    unfold Toward.cut
    simp only [e]
    generalize 1 <<< min d (n.log2 + 2) = g
    rw [Nat.shiftLeft_eq, Nat.mul_div_mul_right _ _ hp, Nat.mul_mod_mul_right, ← Nat.mul_assoc]
    have e1 : (g * 2 ^ a < 2 * (n % g) * 2 ^ a) = (g < 2 * (n % g)) := propext ⟨fun h => Nat.lt_of_mul_lt_mul_right h, fun h => Nat.mul_lt_mul_of_pos_right h hp⟩
    have e2 : (g * 2 ^ a == 2 * (n % g) * 2 ^ a) = (g == 2 * (n % g)) := by
      rw [Bool.eq_iff_iff, beq_iff_eq, beq_iff_eq]
      exact ⟨fun h => Nat.eq_of_mul_eq_mul_right hp h, fun h => congrArg (· * 2 ^ a) h⟩
    simp only [e1, e2]

theorem nearest_scale (f : Format) (neg : Bool) (m a : Nat) (p : Int) (h : m ≠ 0) : f.nearest neg (m <<< a) p = f.nearest neg m (p + a) := by
  have h' : m <<< a ≠ 0 := by rw [Nat.shiftLeft_eq]; exact Nat.mul_ne_zero h (by have := Nat.two_pow_pos a; omega)
  unfold Format.nearest
  rw [if_neg h', if_neg h, log2_shift m a h]
  have e0 : p + ((m.log2 + a : Nat) : Int) - (f.fractionBits : Int) = p + (a : Int) + (m.log2 : Int) - (f.fractionBits : Int) := by omega
  rw [e0]
  generalize max (p + (a : Int) + (m.log2 : Int) - (f.fractionBits : Int)) f.leastPlace = last
  simp only []
  congr 3
  rcases Int.le_total last p with h1 | h1
  · obtain ⟨x, rfl⟩ : ∃ x : Nat, p = last + x := ⟨(p - last).toNat, by omega⟩
    rw [show (last + (x : Int) - last).toNat = x by omega, show (last - (last + (x : Int))).toNat = 0 by omega, show (last + (x : Int) + (a : Int) - last).toNat = a + x by omega, show (last - (last + (x : Int) + (a : Int))).toNat = 0 by omega, Nat.shiftLeft_add]
  · obtain ⟨y, rfl⟩ : ∃ y : Nat, last = p + y := ⟨(last - p).toNat, by omega⟩
    rw [show (p - (p + (y : Int))).toNat = 0 by omega, show (p + (y : Int) - p).toNat = y by omega]
    rcases Nat.le_total y a with h2 | h2
    · obtain ⟨z, rfl⟩ := Nat.exists_eq_add_of_le h2
      rw [show (p + ((y + z : Nat) : Int) - (p + (y : Int))).toNat = z by omega, show (p + (y : Int) - (p + ((y + z : Nat) : Int))).toNat = 0 by omega, Nat.add_comm y z, Nat.shiftLeft_add, Nat.shiftLeft_zero]
      have := cut_scale neg (m <<< z) 0 y
      rw [Nat.zero_add] at this
      exact this
    · obtain ⟨z, rfl⟩ := Nat.exists_eq_add_of_le h2
      rw [show (p + (a : Int) - (p + ((a + z : Nat) : Int))).toNat = 0 by omega, show (p + ((a + z : Nat) : Int) - (p + (a : Int))).toNat = z by omega, Nat.shiftLeft_zero, Nat.shiftLeft_zero, Nat.add_comm a z]
      exact cut_scale neg m z a

/-- A share of a word: x / 2^24. -/
def shF (x : Nat) : Nat := single.nearest false x (-24)
theorem shF_zero : shF 0 = 0 := by decide

set_option maxRecDepth 100000 in
theorem nearest1_exact (neg : Bool) (mag : Nat) (place : Int) (h0 : mag ≠ 0) (hl : mag.log2 ≤ 23) (hlo : -149 ≤ place + mag.log2 - 23) (hhi : place + mag.log2 ≤ 127) :
    single.nearest neg mag place = single.word neg ((place + mag.log2 - 23 + 149).toNat * 8388608 + mag <<< (23 - mag.log2)) := by
  have hbin : single.binade = 8388608 := by decide
  have hinf : single.infRung = 2139095040 := by decide
  have hfr : single.fractionBits = 23 := rfl
  have a1 := shl_log_hi mag 23 hl
  have a2 := shl_log_lo mag h0 23 hl
  unfold Format.nearest
  rw [if_neg h0]
  simp only [single_least, hbin, hinf, hfr]
  have e1 : max (place + (mag.log2 : Int) - ((23 : Nat) : Int)) (-149) = place + mag.log2 - 23 := by omega
  rw [e1]
  have e2 : (place - (place + (mag.log2 : Int) - 23)).toNat = 23 - mag.log2 := by omega
  have e3 : (place + (mag.log2 : Int) - 23 - place).toNat = 0 := by omega
  rw [e2, e3, cut_zero]
  generalize mag <<< (23 - mag.log2) = K at *
  congr 1
  have : (place + (mag.log2 : Int) - 23 - -149).toNat = (place + (mag.log2 : Int) - 23 + 149).toNat := by omega
  rw [this]
  have hb : (place + (mag.log2 : Int) - 23 + 149).toNat ≤ 253 := by omega
  generalize (place + (mag.log2 : Int) - 23 + 149).toNat = L at *
  have a1' : K < 16777216 := a1
  have a2' : 8388608 ≤ K := a2
  clear a1 a2
  exact min_of_le' (by omega)

set_option maxRecDepth 100000 in
theorem read1_nearest_exact (neg : Bool) (mag : Nat) (place : Int) (h0 : mag ≠ 0) (hl : mag.log2 ≤ 23) (hlo : -149 ≤ place + mag.log2 - 23) (hhi : place + mag.log2 ≤ 127) :
    single.read (single.nearest neg mag place) = .number neg (mag <<< (23 - mag.log2)) (place + mag.log2 - 23) := by
  rw [nearest1_exact neg mag place h0 hl hlo hhi]
  have hbin : single.binade = 8388608 := by decide
  have hinf : single.infRung = 2139095040 := by decide
  have hsw : single.signWeight = 2147483648 := by decide
  have a1 := shl_log_hi mag 23 hl
  have a2 := shl_log_lo mag h0 23 hl
  have hb : (place + (mag.log2 : Int) - 23 + 149).toNat ≤ 253 := by omega
  have hi : ((place + (mag.log2 : Int) - 23 + 149).toNat : Int) = place + (mag.log2 : Int) - 23 + 149 := by omega
  generalize mag <<< (23 - mag.log2) = K at *
  generalize (place + (mag.log2 : Int) - 23 + 149).toNat = L at *
  have a1' : K < 16777216 := a1
  have a2' : 8388608 ≤ K := a2
  clear a1 a2
  obtain ⟨e1, e2⟩ := read_word_sign single neg (rung := L * 8388608 + K) (by rw [hsw]; omega)
  unfold Format.read
  simp only [e1, e2, hbin, hinf, single_least]
  rw [if_neg (by omega), if_pos (by omega)]
  have h1 : (L * 8388608 + K) % 8388608 = K - 8388608 := by omega
  have h2 : (L * 8388608 + K) / 8388608 = L + 1 := by omega
  have h4 : 8388608 + (K - 8388608) = K := by omega
  have h5 : (-149 : Int) + ((L + 1 - 1 : Nat) : Int) = place + (mag.log2 : Int) - 23 := by omega
  rw [h1, h2, h4, h5]

theorem log2_le23 {x : Nat} (h0 : x ≠ 0) (h : x < 16777216) : x.log2 ≤ 23 := by have := (Nat.log2_lt h0 (k := 24)).2 (by omega); omega

/-- x * 2^-24 of the float32 of a whole number x below 2^24. -/
theorem r24m : single.read 864026624 = .number false 8388608 (-47) := by decide +kernel
theorem r24 : single.read 1266679808 = .number false 8388608 1 := by decide +kernel
theorem prod_pos (m n : Nat) (i j : Int) : (Datum.number false m i).product (.number false n j) = some (.number false (m * n) (i + j)) := rfl
theorem quo_pos (d m n : Nat) (i j : Int) (h : n ≠ 0) : (Datum.number false m i).quotient d (.number false n j) =
    some (.number false (2 * (m <<< (d + n.log2 - m.log2) / n) + (m <<< (d + n.log2 - m.log2) % n != 0).toNat) (i - j - ((d + n.log2 - m.log2 : Nat) : Int) - 1)) := by
  unfold Datum.quotient
  simp only [if_neg h]
  rfl
theorem write_pos (f : Format) (m : Nat) (i : Int) : f.write (.number false m i) = f.nearest false m i := rfl
theorem share_mul (x : Nat) (hx : x < 16777216) : single.mul (single.nearest false x 0) 864026624 = some (shF x) := by
  by_cases h0 : x = 0
  · subst h0; decide +kernel
  · have hl := log2_le23 h0 hx
    unfold Format.mul
    rw [read1_nearest_exact false x 0 h0 hl (by omega) (by omega), r24m, prod_pos, Option.map_some, write_pos]
    have e : x <<< (23 - x.log2) * 8388608 = x <<< (23 - x.log2 + 23) := by rw [Nat.shiftLeft_add, Nat.shiftLeft_eq _ 23]
    have e2 : (0 + (x.log2 : Int) - 23 + -47) + ((23 - x.log2 + 23 : Nat) : Int) = -24 := by omega
    rw [e, nearest_scale _ _ _ _ _ h0, e2]
    rfl
/-- The same divided by 2^24. -/
theorem share_div (x : Nat) (hx : x < 16777216) : single.div (single.nearest false x 0) 1266679808 = some (shF x) := by
  by_cases h0 : x = 0
  · subst h0; decide +kernel
  · have hl := log2_le23 h0 hx
    have a2 := shl_log_lo x h0 23 hl
    have hKl : (x <<< (23 - x.log2)).log2 = 23 := by rw [log2_shift _ _ h0]; omega
    have h25 : single.fractionBits + 2 = 25 := rfl
    have hl2 : Nat.log2 8388608 = 23 := by decide +kernel
    unfold Format.div
    rw [read1_nearest_exact false x 0 h0 hl (by omega) (by omega), r24, h25, quo_pos _ _ _ _ _ (by omega), Option.map_some, write_pos, hKl, hl2]
    generalize hK : x <<< (23 - x.log2) = K at *
    have hq : K <<< (25 + 23 - 23) / 8388608 = 4 * K := by rw [Nat.shiftLeft_eq]; omega
    have hr : K <<< (25 + 23 - 23) % 8388608 = 0 := by rw [Nat.shiftLeft_eq]; omega
    rw [hq, hr]
    have e : 2 * (4 * K) + ((0 : Nat) != 0).toNat = x <<< (23 - x.log2 + 3) := by rw [Nat.shiftLeft_add, hK, Nat.shiftLeft_eq]; simp; omega
    have e2 : (0 + (x.log2 : Int) - 23 - 1 - ((25 + 23 - 23 : Nat) : Int) - 1) + ((23 - x.log2 + 3 : Nat) : Int) = -24 := by omega
    rw [e, nearest_scale _ _ _ _ _ h0, e2]
    rfl
theorem shF_lt (x : Nat) (hx : x < 16777216) : shF x < 2 ^ single.width ∧ (single.read (shF x)).isNaN = false := by
  by_cases h0 : x = 0
  · subst h0; decide +kernel
  · have hl := log2_le23 h0 hx
    unfold shF
    refine ⟨single.write_lt (.number false x (-24)), ?_⟩
    rw [read1_nearest_exact false x (-24) h0 hl (by omega) (by omega)]; rfl
end Go.Proofs.Yticmnkgcolgpaaa.Fl
