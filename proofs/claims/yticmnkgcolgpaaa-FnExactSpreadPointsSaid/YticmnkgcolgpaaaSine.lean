/- Bounds by powers of two, quotients, and what is left behind the point: plain facts. -/
import Derived.Test.YticmnkgcolgpaaaIn
import Derived.Laws.Cover2
namespace Go.Proofs.Yticmnkgcolgpaaa.Fl
open Go Ieee

/-- The rung of 2^B. -/
def R2 (B : Nat) : Nat := (B + 1023) * 4503599627370496
theorem vr_R2 (B : Nat) : vr double (R2 B) = 2 ^ (B + K0) := by
  have hK := K0_eq
  have hb : double.binade = 4503599627370496 := by decide
  have hl : lp double = 8926 := by decide
  have h1 : ¬ R2 B < double.binade := by unfold R2; omega
  have h2 : R2 B % double.binade = 0 := by rw [hb]; exact Nat.mul_mod_left _ _
  have h3 : R2 B / double.binade = B + 1023 := by rw [hb]; exact Nat.mul_div_cancel _ (by omega)
  unfold vr magOf placeOf
  rw [if_neg h1, if_neg h1, h2, h3, hl, Nat.add_zero]
  unfold Format.binade
  rw [← Nat.pow_add, show double.fractionBits + (B + 1023 - 1 + 8926) = B + K0 by have : double.fractionBits = 52 := rfl; omega]
theorem R2_lt (B : Nat) (h : B ≤ 1000) : R2 B < FloatKind.f64.format.infRung := by
  have hinf : FloatKind.f64.format.infRung = 9218868437227405312 := by decide
  rw [hinf]; unfold R2; omega
theorem place_R2 (B : Nat) : placeOf double (R2 B) = B + 1022 := by
  have hb : double.binade = 4503599627370496 := by decide
  have h1 : ¬ R2 B < double.binade := by unfold R2; omega
  have h3 : R2 B / double.binade = B + 1023 := by rw [hb]; exact Nat.mul_div_cancel _ (by omega)
  unfold placeOf
  rw [if_neg h1, h3]; omega

/-- A finite number of at most 2^B. -/
def P2 (B : Nat) (v : Option Nat) : Prop := In .f64 (R2 B) v
theorem P2.mono {a b : Nat} {v : Option Nat} (h : P2 a v) (hab : a ≤ b) : P2 b v := by
  obtain ⟨x, rfl, hx⟩ := h
  exact ⟨x, rfl, Nat.le_trans hx (Nat.mul_le_mul_right _ (by omega))⟩
theorem P2.mul {a b : Nat} {x y : Option Nat} (hx : P2 a x) (hy : P2 b y) (h : a + b ≤ 1000) : P2 (a + b) (aop .mul .f64 x y) :=
  In.mul hx hy (R2_lt _ (by omega)) (R2_lt _ (by omega)) (R2_lt _ h) (by
    show vr double _ * vr double _ ≤ vr double _ * 2 ^ K0
    rw [vr_R2, vr_R2, vr_R2, ← Nat.pow_add, ← Nat.pow_add]
    exact Nat.pow_le_pow_right (by omega) (by omega))
theorem two_pows {a b c : Nat} (h1 : a ≤ c) (h2 : b ≤ c) : 2 ^ (a + K0) + 2 ^ (b + K0) ≤ 2 ^ (c + 1 + K0) := by
  have a1 : 2 ^ (a + K0) ≤ 2 ^ (c + K0) := Nat.pow_le_pow_right (by omega) (by omega)
  have a2 : 2 ^ (b + K0) ≤ 2 ^ (c + K0) := Nat.pow_le_pow_right (by omega) (by omega)
  have e : 2 ^ (c + 1 + K0) = 2 * 2 ^ (c + K0) := by rw [show c + 1 + K0 = c + K0 + 1 by omega, Nat.pow_succ, Nat.mul_comm]
  omega
theorem P2.add {a b c : Nat} {x y : Option Nat} (hx : P2 a x) (hy : P2 b y) (h1 : a ≤ c) (h2 : b ≤ c) (h : c + 1 ≤ 1000) : P2 (c + 1) (aop .add .f64 x y) :=
  In.add hx hy (R2_lt _ (by omega)) (R2_lt _ (by omega)) (R2_lt _ h) (by
    show vr double _ + vr double _ ≤ vr double _
    rw [vr_R2, vr_R2, vr_R2]
    exact two_pows h1 h2)
theorem P2.sub {a b c : Nat} {x y : Option Nat} (hx : P2 a x) (hy : P2 b y) (h1 : a ≤ c) (h2 : b ≤ c) (h : c + 1 ≤ 1000) : P2 (c + 1) (aop .sub .f64 x y) :=
  In.sub hx hy (R2_lt _ (by omega)) (R2_lt _ (by omega)) (R2_lt _ h) (by
    show vr double _ + vr double _ ≤ vr double _
    rw [vr_R2, vr_R2, vr_R2]
    exact two_pows h1 h2)
theorem P2.has {B : Nat} {v : Option Nat} (h : P2 B v) : ∃ b, v = some b := by obtain ⟨b, e, _⟩ := h; exact ⟨b, e⟩

/-! ### Quotients -/
theorem quo_bound (D n V e : Nat) (hV : D * 2 ^ e ≤ V * n) (hd : 2 ^ e ∣ V) (he : 1 ≤ e) : (2 * (D / n) + (D % n != 0).toNat) * 2 ^ (e - 1) ≤ V := by
  obtain ⟨t, rfl⟩ := hd
  have hp : 0 < 2 ^ e := Nat.two_pow_pos _
  have hDt : D ≤ t * n := by
    have e3 : 2 ^ e * t * n = t * n * 2 ^ e := by rw [Nat.mul_assoc, Nat.mul_comm]
    rw [e3] at hV
    exact Nat.le_of_mul_le_mul_right hV hp
  have hdm := Nat.div_add_mod D n
  have hq : 2 * (D / n) + (D % n != 0).toNat ≤ 2 * t := by
    have hle : D / n ≤ t := Nat.div_le_of_le_mul (by rw [Nat.mul_comm]; exact hDt)
    by_cases h : D / n = t
    · have : D % n = 0 := by rw [h, Nat.mul_comm] at hdm; omega
      rw [this, h]; simp
    · have := Bool.toNat_le (D % n != 0)
      omega
  have hpe : 2 ^ e = 2 * 2 ^ (e - 1) := by
    have : e = e - 1 + 1 := by omega
    rw [this, Nat.pow_succ, Nat.mul_comm]; simp
  rw [hpe]
  calc (2 * (D / n) + (D % n != 0).toNat) * 2 ^ (e - 1) ≤ 2 * t * 2 ^ (e - 1) := Nat.mul_le_mul_right _ hq
    _ = 2 * 2 ^ (e - 1) * t := by rw [Nat.mul_assoc, Nat.mul_comm t, ← Nat.mul_assoc]

/-- A quotient by a number of at least 1 does not pass what its dividend does not pass. -/
theorem P2.quo {B : Nat} {x : Option Nat} {c n d : Nat} {s : Bool} (hx : P2 B x) (hB : B ≤ 1000) (hc : double.read c = .number s n (-(d : Int))) (hn : 2 ^ d ≤ n) (hn53 : n.log2 ≤ 52) :
    P2 B (aop .quo .f64 x (some c)) := by
  have hK := K0_eq
  obtain ⟨a, t, m, i, rfl, ha, hm, hi, hm53⟩ := hx.read' (R2_lt _ hB)
  have ha' : double.read a = .number t m i := ha
  have hm' : val m i ≤ vr double (R2 B) := hm
  have hi' : (-1074 : Int) ≤ i := hi
  rw [vr_R2] at hm'
  have hn0 : n ≠ 0 := by have := Nat.two_pow_pos d; omega
  have hml : m.log2 ≤ 52 := by
    rcases Nat.eq_zero_or_pos m with h0 | h0
    · subst h0; decide
    · have : m < 2 ^ 53 := hm53
      have := (Nat.log2_lt (by omega) (k := 53)).2 this
      omega
  have hnd : d ≤ n.log2 := by
    have h1 : 2 ^ d < 2 ^ (n.log2 + 1) := Nat.lt_of_le_of_lt hn Nat.lt_log2_self
    have := (Nat.pow_lt_pow_iff_right (a := 2) (by omega)).1 h1
    omega
  show In .f64 (R2 B) (double.div a c)
  unfold Format.div
  rw [ha', hc]
  simp only [Datum.quotient]
  rw [if_neg hn0]
  simp only [Option.map_some]
  rw [show double.fractionBits + 2 = 54 from rfl]
  generalize hmore : 54 + n.log2 - m.log2 = more
  refine write_in (k := .f64) (by omega) (R2_lt _ hB) ?_
  show _ ≤ vr double (R2 B)
  rw [vr_R2]
  unfold val at hm' ⊢
  by_cases h0 : m = 0
  · subst h0; simp
  have hex : (m.log2 : Int) + i ≤ B := by
    have h1 := pow_log_le m (i + (K0 : Int)).toNat h0
    have h2 : 2 ^ (m.log2 + (i + (K0 : Int)).toNat) ≤ 2 ^ (B + K0) := Nat.le_trans h1 hm'
    have h3 : m.log2 + (i + (K0 : Int)).toNat ≤ B + K0 := (Nat.pow_le_pow_iff_right (by omega)).1 h2
    omega
  have he : (i - -(d : Int) - (more : Int) - 1 + (K0 : Int)).toNat = (i + d - more + K0).toNat - 1 := by omega
  rw [he]
  refine quo_bound _ _ _ _ ?_ ?_ (by omega)
  · rw [Nat.shiftLeft_eq, Nat.mul_assoc, ← Nat.pow_add]
    have e2 : more + (i + (d : Int) - (more : Int) + (K0 : Int)).toNat = (i + (K0 : Int)).toNat + d := by omega
    rw [e2, Nat.pow_add, ← Nat.mul_assoc]
    exact Nat.mul_le_mul hm' hn
  · exact Nat.pow_dvd_pow 2 (by omega)

/-! ### What is left behind the point -/
def truncN (m : Nat) (i : Int) : Nat := (m <<< i.toNat) / 2 ^ (-i).toNat

theorem cut_zero_way (s : Bool) (n d : Nat) : Toward.zero.cut s n d = n / 2 ^ d := by
  unfold Toward.cut
  simp only [Bool.toNat_false, Nat.add_zero]
  by_cases hd : d ≤ n.log2 + 2
  · rw [Nat.min_eq_left hd, Nat.shiftLeft_eq, Nat.one_mul]
  · rw [Nat.min_eq_right (by omega), Nat.shiftLeft_eq, Nat.one_mul]
    have hn : n < 2 ^ (n.log2 + 1) := Nat.lt_log2_self
    have h1 : 2 ^ (n.log2 + 1) ≤ 2 ^ (n.log2 + 2) := Nat.pow_le_pow_right (by omega) (by omega)
    have h2 : 2 ^ (n.log2 + 1) ≤ 2 ^ d := Nat.pow_le_pow_right (by omega) (by omega)
    rw [Nat.div_eq_of_lt (by omega), Nat.div_eq_of_lt (by omega)]

theorem trunc_le (m : Nat) (i : Int) (hi : -1100 ≤ i) : truncN m i * 2 ^ K0 ≤ val m i ∧ val m i < (truncN m i + 1) * 2 ^ K0 := by
  have hK := K0_eq
  have hp : 0 < 2 ^ K0 := Nat.two_pow_pos _
  unfold truncN val
  rw [Nat.shiftLeft_eq]
  rcases Int.le_total 0 i with h | h
  · have e1 : (-i).toNat = 0 := by omega
    have e2 : (i + (K0 : Int)).toNat = i.toNat + K0 := by omega
    rw [e1, e2, Nat.pow_zero, Nat.div_one, Nat.pow_add, ← Nat.mul_assoc, Nat.add_mul]
    omega
  · have e1 : i.toNat = 0 := by omega
    have e2 : K0 = (-i).toNat + (i + (K0 : Int)).toNat := by omega
    rw [e1, Nat.pow_zero, Nat.mul_one]
    generalize (i + (K0 : Int)).toNat = q at *
    generalize (-i).toNat = d at *
    rw [e2, Nat.pow_add, ← Nat.mul_assoc, ← Nat.mul_assoc]
    have h1 := Nat.div_add_mod m (2 ^ d)
    have h2 := Nat.mod_lt m (Nat.two_pow_pos d)
    rw [Nat.mul_comm] at h1
    have hq : 0 < 2 ^ q := Nat.two_pow_pos _
    refine ⟨Nat.mul_le_mul_right _ (by omega), Nat.mul_lt_mul_of_pos_right ?_ hq⟩
    rw [Nat.add_mul]
    omega

theorem toInt_trunc (s : Bool) (m : Nat) (i : Int) : (Datum.number s m i).toInt .zero = some (signed s (truncN m i) 0) := by
  unfold Datum.toInt Datum.integral truncN
  simp only [cut_zero_way]

/-- The word of a small integer is read as that integer. -/
theorem read_floatOfInt (n : Int) (h : n.natAbs < 4503599627370496) : ∃ M P, double.read (floatOfInt .f64 n) = .number (decide (n < 0)) M P ∧ val M P = n.natAbs * 2 ^ K0 ∧ -1074 ≤ P := by
  have hK := K0_eq
  show ∃ M P, double.read (double.nearest (decide (n < 0)) n.natAbs 0) = _ ∧ _
  by_cases h0 : n.natAbs = 0
  · have : n = 0 := by omega
    subst this
    exact ⟨0, -1074, by decide, by simp [val], by omega⟩
  · have hlog : n.natAbs.log2 ≤ 51 := by
      have := (Nat.log2_lt h0 (k := 52)).2 h
      omega
    refine ⟨_, _, read_nearest_exact _ _ 0 h0 (by omega) (by omega) (by omega), ?_, by omega⟩
    unfold val
    rw [Nat.shiftLeft_eq, Nat.mul_assoc, ← Nat.pow_add]
    have : 52 - n.natAbs.log2 + (0 + (n.natAbs.log2 : Int) - 52 + (K0 : Int)).toNat = K0 := by omega
    rw [this]

theorem signed_zero_shift (s : Bool) (m u : Nat) : signed s m u = signed s (m * 2 ^ u) 0 := by
  unfold signed; simp [Nat.shiftLeft_eq]

/-- A number of less than 2^52, less the integer that is left of it, does not pass 1. -/
theorem frac_in (b : Nat) (s : Bool) (m : Nat) (i : Int) (hb : double.read b = .number s m i) (hi : -1074 ≤ i) (hlt : val m i < 2 ^ (52 + K0)) :
    (signed s (truncN m i) 0).natAbs < 4503599627370496 ∧ P2 0 (aop .sub .f64 (some b) (some (floatOfInt .f64 (signed s (truncN m i) 0)))) := by
  have hK := K0_eq
  obtain ⟨t1, t2⟩ := trunc_le m i (by omega)
  have hN : truncN m i < 4503599627370496 := by
    have h1 : truncN m i * 2 ^ K0 < 4503599627370496 * 2 ^ K0 := by
      have e : (2 : Nat) ^ (52 + K0) = 4503599627370496 * 2 ^ K0 := by rw [Nat.pow_add]
      rw [← e]; exact Nat.lt_of_le_of_lt t1 hlt
    exact Nat.lt_of_mul_lt_mul_right h1
  have hna : (signed s (truncN m i) 0).natAbs = truncN m i := by rw [signed_abs, Nat.pow_zero, Nat.mul_one]
  refine ⟨by rw [hna]; exact hN, ?_⟩
  obtain ⟨M, P, e1, e2, e3⟩ := read_floatOfInt (signed s (truncN m i) 0) (by rw [hna]; exact hN)
  rw [hna] at e2
  show In .f64 (R2 0) (double.sub b (floatOfInt .f64 (signed s (truncN m i) 0)))
  unfold Format.sub
  rw [hb, e1]
  simp only [Datum.opposite, Datum.sum, Option.map_some]
  refine write_in (k := .f64) (by omega) (R2_lt _ (by omega)) ?_
  show val _ _ ≤ vr double (R2 0)
  rw [vr_R2]
  have v1 := val_shift m i (min i P) (by omega) (by omega)
  have v2 := val_shift M P (min i P) (by omega) (by omega)
  generalize (i - min i P).toNat = u at *
  generalize (P - min i P).toNat = v at *
  have hbase : -1074 ≤ min i P := by omega
  generalize min i P = base at *
  rw [signed_zero_shift, signed_zero_shift _ M]
  generalize m * 2 ^ u = x at *
  generalize M * 2 ^ v = y at *
  have hp : 0 < 2 ^ (base + (K0 : Int)).toNat := Nat.two_pow_pos _
  have hyx : y ≤ x := by
    have : val y base ≤ val x base := by rw [v1, v2, e2]; exact t1
    exact Nat.le_of_mul_le_mul_right this hp
  have hdiff : val (x - y) base < 2 ^ K0 := by
    unfold val at *
    rw [Nat.sub_mul, v1, v2, e2]
    rw [Nat.add_mul, Nat.one_mul] at t2
    omega
  have hkey : (signed s x 0 + signed (!decide (signed s (truncN m i) 0 < 0)) y 0).natAbs = x - y := by
    unfold signed at *
    simp only [Nat.shiftLeft_zero] at *
    by_cases h0 : truncN m i = 0
    · have hy : y = 0 := by
        have : val y base = 0 := by rw [v2, e2, h0]; simp
        unfold val at this
        rcases Nat.mul_eq_zero.1 this with h | h
        · exact h
        · omega
      subst hy
      cases s <;> simp [h0]
    · cases s <;> simp [h0] <;> omega
  rw [hkey, Nat.zero_add]
  exact Nat.le_of_lt hdiff

section
variable {P : Program} {ops : Array Oper} {Q : Exit → Act → World → Prop} {rest : List Oper} {a : Act} {w : World} {dst : Option Tmp} {ty : TypeId} {pos : String} {af : Array Edge}
/-- 'int64(x)' of a float64 in the walk. -/
theorem wpList_toint (src dt : TypeId) (x : Operand) (b : Nat) (n : Int) (hx : a.eval x = .float .f64 b) (hs : P.underlying src = some (.float .f64)) (hd : P.underlying dt = some (.int .i64))
    (h : (double.read b).toInt .zero = some n) (hn : n.natAbs < 4503599627370496)
    (hK : wpList P ops Q rest (a.put dst (.int .i64 n)) w) :
    wpList P ops Q (⟨dst, .convert src dt x, ty, pos, af, none⟩ :: rest) a w := by
  refine wpList_plain rfl fun K hK' => ?_
  have h1 : IntKind.i64.min ≤ n := by have : IntKind.i64.min = -9223372036854775808 := by decide
                                      omega
  have h2 : n ≤ 9223372036854775807 := by omega
  unfold Oper.wp
  simp [execOp, hx, convert, run_underlying hs, run_underlying hd, Conv.floatToInt, FloatKind.decode, FloatKind.format, h, h1, h2]
  exact hK' _ _ hK
end
end Go.Proofs.Yticmnkgcolgpaaa.Fl
