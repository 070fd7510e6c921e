/- Finite numbers whose absolute value does not pass a word's: what sums, products, quotients and roots of them do not pass. -/
import Derived.Test.YticmnkgcolgpaaaBd
namespace Go.Proofs.Yticmnkgcolgpaaa.Fl
open Go Ieee

/-- How far below. -/
def K0 : Nat := 10000
theorem K0_eq : K0 = 10000 := rfl

/-- A magnitude at a place, counted from a place far below. -/
def val (m : Nat) (i : Int) : Nat := m * 2 ^ (i + (K0 : Int)).toNat
def lp (f : Format) : Nat := (f.leastPlace + (K0 : Int)).toNat
def vr (f : Format) (R : Nat) : Nat := magOf f R * 2 ^ (placeOf f R + lp f)

/-- A finite number whose rung is at most R. -/
def In (k : FloatKind) (R : Nat) (v : Option Nat) : Prop := ∃ b, v = some b ∧ b % k.format.signWeight ≤ R

theorem lp_least (k : FloatKind) : k.format.leastPlace = -(K0 : Int) + (lp k.format : Int) := by cases k <;> decide
theorem lp_frac (k : FloatKind) : k.format.fractionBits ≤ lp k.format := by cases k <;> decide

theorem vr_mono (f : Format) {r R : Nat} (h : r ≤ R) : vr f r ≤ vr f R := by
  have hb : 0 < f.binade := Nat.two_pow_pos _
  have e1 := rung_of f r
  have e2 := rung_of f R
  have m1 := mag_lt f r
  unfold vr
  rcases Nat.lt_trichotomy (placeOf f r) (placeOf f R) with h1 | h1 | h1
  · have hg := mag_ge f R (by omega)
    have a1 : magOf f r * 2 ^ (placeOf f r + lp f) ≤ 2 ^ (f.fractionBits + 1) * 2 ^ (placeOf f r + lp f) := Nat.mul_le_mul_right _ (Nat.le_of_lt m1)
    have a2 : 2 ^ f.fractionBits * 2 ^ (placeOf f R + lp f) ≤ magOf f R * 2 ^ (placeOf f R + lp f) := Nat.mul_le_mul_right _ hg
    rw [← Nat.pow_add] at a1 a2
    exact Nat.le_trans a1 (Nat.le_trans (Nat.pow_le_pow_right (by omega) (by omega)) a2)
  · rw [h1]
    exact Nat.mul_le_mul_right _ (by rw [h1] at e1; omega)
  · exfalso
    have a : (placeOf f R + 1) * f.binade ≤ placeOf f r * f.binade := Nat.mul_le_mul_right _ h1
    rw [Nat.add_mul (placeOf f R) 1, Nat.one_mul] at a
    have m2 := mag_lt f R
    have e : 2 ^ (f.fractionBits + 1) = 2 * f.binade := by unfold Format.binade; rw [Nat.pow_succ, Nat.mul_comm]
    have hp : 0 < placeOf f r := by omega
    have hg := mag_ge f r hp
    have hg' : f.binade ≤ magOf f r := hg
    omega

/-- A finite word is read as the number of its rung. -/
theorem read_rung (k : FloatKind) (b : Nat) (h : b % k.format.signWeight < k.format.infRung) :
    k.format.read b = .number (b / k.format.signWeight % 2 == 1) (magOf k.format (b % k.format.signWeight)) (k.format.leastPlace + placeOf k.format (b % k.format.signWeight)) := by
  unfold Format.read magOf placeOf
  simp only []
  split
  · simp
  · rfl

theorem val_rung (k : FloatKind) (R : Nat) : val (magOf k.format R) (k.format.leastPlace + placeOf k.format R) = vr k.format R := by
  have hK := K0_eq
  unfold val vr
  rw [lp_least, show (-(K0 : Int) + (lp k.format : Int) + ((placeOf k.format R : Nat) : Int) + (K0 : Int)).toNat = placeOf k.format R + lp k.format by omega]

theorem In.read {k : FloatKind} {R : Nat} {v : Option Nat} (h : In k R v) (hR : R < k.format.infRung) :
    ∃ b s m i, v = some b ∧ k.format.read b = .number s m i ∧ val m i ≤ vr k.format R ∧ k.format.leastPlace ≤ i := by
  obtain ⟨b, rfl, hb⟩ := h
  refine ⟨b, _, _, _, rfl, read_rung k b (by omega), ?_, by omega⟩
  rw [val_rung]
  exact vr_mono _ hb

theorem write_in {k : FloatKind} {R : Nat} {s : Bool} {m : Nat} {i : Int} (hi : -9900 ≤ i) (hR : R < k.format.infRung) (h : val m i ≤ vr k.format R) : In k R (some (k.format.write (.number s m i))) := by
  have hK := K0_eq
  have e : i = -(K0 : Int) + ((i + (K0 : Int)).toNat : Int) := by omega
  have hf : k.format.fractionBits ≤ (i + (K0 : Int)).toNat := by cases k <;> simp [FloatKind.format, single, double] <;> omega
  obtain ⟨r, hr, hw⟩ := nearest_le k.format s m (-(K0 : Int)) (i + (K0 : Int)).toNat (lp k.format) R (lp_least k) hf h
  refine ⟨_, rfl, ?_⟩
  show k.format.nearest s m i % _ ≤ R
  rw [e, hw, (read_word_sign k.format s (Nat.lt_trans (Nat.lt_of_le_of_lt hr hR) k.format.infRung_lt)).1]
  exact hr

theorem val_mul (m n : Nat) (i j : Int) (hi : -4000 ≤ i) (hj : -4000 ≤ j) : val (m * n) (i + j) * 2 ^ K0 = val m i * val n j := by
  unfold val
  have hK := K0_eq
  have e : (i + (K0 : Int)).toNat + (j + (K0 : Int)).toNat = (i + j + (K0 : Int)).toNat + K0 := by omega
  rw [Nat.mul_mul_mul_comm, ← Nat.pow_add, e, Nat.pow_add, ← Nat.mul_assoc]

theorem least_ge (k : FloatKind) : -1074 ≤ k.format.leastPlace := by cases k <;> decide

theorem In.mul {k : FloatKind} {X Y R : Nat} {x y : Option Nat} (hx : In k X x) (hy : In k Y y) (hX : X < k.format.infRung) (hY : Y < k.format.infRung) (hR : R < k.format.infRung)
    (h : vr k.format X * vr k.format Y ≤ vr k.format R * 2 ^ K0) : In k R (aop .mul k x y) := by
  obtain ⟨a, s, m, i, rfl, ha, hm, hi⟩ := hx.read hX
  obtain ⟨b, t, n, j, rfl, hb, hn, hj⟩ := hy.read hY
  have hl := least_ge k
  show In k R (k.format.mul a b)
  unfold Format.mul
  rw [ha, hb]
  refine write_in (by omega) hR ?_
  have h1 := Nat.mul_le_mul hm hn
  rw [← val_mul m n i j (by omega) (by omega)] at h1
  exact Nat.le_of_mul_le_mul_right (Nat.le_trans h1 h) (Nat.two_pow_pos _)

theorem signed_abs (s : Bool) (m u : Nat) : (signed s m u).natAbs = m * 2 ^ u := by
  unfold signed
  rw [Nat.shiftLeft_eq]
  cases s
  · exact Int.natAbs_natCast _
  · exact (Int.natAbs_neg _).trans (Int.natAbs_natCast _)

theorem val_shift (m : Nat) (i base : Int) (h : base ≤ i) (hb : -9000 ≤ base) : val (m * 2 ^ (i - base).toNat) base = val m i := by
  have hK := K0_eq
  unfold val
  rw [Nat.mul_assoc, ← Nat.pow_add, show (i - base).toNat + (base + (K0 : Int)).toNat = (i + (K0 : Int)).toNat by omega]

theorem sum_in {k : FloatKind} {R : Nat} {s t : Bool} {m n : Nat} {i j : Int} (hi : -2000 ≤ i) (hj : -2000 ≤ j) (hR : R < k.format.infRung) (h : val m i + val n j ≤ vr k.format R) :
    In k R (((Datum.number s m i).sum (.number t n j)).map k.format.write) := by
  unfold Datum.sum
  simp only [Option.map_some]
  refine write_in (by omega) hR (Nat.le_trans ?_ h)
  have e1 := signed_abs s m (i - min i j).toNat
  have e2 := signed_abs t n (j - min i j).toNat
  have h1 := Int.natAbs_add_le (signed s m (i - min i j).toNat) (signed t n (j - min i j).toNat)
  rw [e1, e2] at h1
  have h2 : val (signed s m (i - min i j).toNat + signed t n (j - min i j).toNat).natAbs (min i j) ≤ val (m * 2 ^ (i - min i j).toNat + n * 2 ^ (j - min i j).toNat) (min i j) := Nat.mul_le_mul_right _ h1
  have h3 : val (m * 2 ^ (i - min i j).toNat + n * 2 ^ (j - min i j).toNat) (min i j) = val m i + val n j := by
    have a := val_shift m i (min i j) (by omega) (by omega)
    have b := val_shift n j (min i j) (by omega) (by omega)
    unfold val at *
    rw [Nat.add_mul, a, b]
  omega

theorem In.add {k : FloatKind} {X Y R : Nat} {x y : Option Nat} (hx : In k X x) (hy : In k Y y) (hX : X < k.format.infRung) (hY : Y < k.format.infRung) (hR : R < k.format.infRung)
    (h : vr k.format X + vr k.format Y ≤ vr k.format R) : In k R (aop .add k x y) := by
  obtain ⟨a, s, m, i, rfl, ha, hm, hi⟩ := hx.read hX
  obtain ⟨b, t, n, j, rfl, hb, hn, hj⟩ := hy.read hY
  have hl := least_ge k
  show In k R (k.format.add a b)
  unfold Format.add
  rw [ha, hb]
  exact sum_in (by omega) (by omega) hR (by omega)
theorem In.sub {k : FloatKind} {X Y R : Nat} {x y : Option Nat} (hx : In k X x) (hy : In k Y y) (hX : X < k.format.infRung) (hY : Y < k.format.infRung) (hR : R < k.format.infRung)
    (h : vr k.format X + vr k.format Y ≤ vr k.format R) : In k R (aop .sub k x y) := by
  obtain ⟨a, s, m, i, rfl, ha, hm, hi⟩ := hx.read hX
  obtain ⟨b, t, n, j, rfl, hb, hn, hj⟩ := hy.read hY
  have hl := least_ge k
  show In k R (k.format.sub a b)
  unfold Format.sub
  rw [ha, hb]
  exact sum_in (by omega) (by omega) hR (by omega)

/-! ### Roots -/
theorem rootFrom_sq (n todo : Nat) : ∀ root, root * root ≤ n → Datum.rootFrom n todo root * Datum.rootFrom n todo root ≤ n := by
  induction todo with
  | zero => intro root h; exact h
  | succ t ih =>
    intro root h
    unfold Datum.rootFrom
    simp only []
    split
    · rename_i h1; exact ih _ h1
    · exact ih _ h

theorem sq_le {a b : Nat} (h : a * a ≤ b * b) : a ≤ b := by
  rcases Nat.lt_or_ge b a with h1 | h1
  · have := Nat.mul_lt_mul_of_lt_of_le h1 (Nat.le_of_lt h1) (by omega)
    omega
  · exact h1

/-- A root of an even place, with its sticky digit, does not pass a number whose square is not passed. -/
theorem root_bound (n whole V e : Nat) (hw : whole * whole ≤ n) (hV : n * 2 ^ (2 * e) ≤ V * V) (hd : 2 ^ e ∣ V) (he : 1 ≤ e) : (2 * whole + (whole * whole != n).toNat) * 2 ^ (e - 1) ≤ V := by
  obtain ⟨t, rfl⟩ := hd
  have h2 : 2 ^ (2 * e) = 2 ^ e * 2 ^ e := by rw [← Nat.pow_add, Nat.two_mul]
  have hp : 0 < 2 ^ e := Nat.two_pow_pos _
  have hnt : n ≤ t * t := by
    rw [h2] at hV
    have e3 : 2 ^ e * t * (2 ^ e * t) = t * t * (2 ^ e * 2 ^ e) := by rw [Nat.mul_mul_mul_comm, Nat.mul_comm]
    rw [e3] at hV
    exact Nat.le_of_mul_le_mul_right hV (Nat.mul_pos hp hp)
  have hwt : whole ≤ t := sq_le (Nat.le_trans hw hnt)
  have hpe : 2 ^ e = 2 * 2 ^ (e - 1) := by
    have : e = e - 1 + 1 := by omega
    rw [this, Nat.pow_succ, Nat.mul_comm]; simp
  have hq : 2 * whole + (whole * whole != n).toNat ≤ 2 * t := by
    by_cases h : whole = t
    · subst h
      have : whole * whole = n := Nat.le_antisymm hw hnt
      rw [this]; simp
    · have := Bool.toNat_le (whole * whole != n)
      omega
  rw [hpe]
  calc (2 * whole + (whole * whole != n).toNat) * 2 ^ (e - 1) ≤ 2 * t * 2 ^ (e - 1) := Nat.mul_le_mul_right _ hq
    _ = 2 * 2 ^ (e - 1) * t := by rw [Nat.mul_assoc, Nat.mul_comm t, ← Nat.mul_assoc]

/-- What a root does not pass. -/
theorem root_in {X R E : Nat} {m : Nat} {i : Int} (hi : -1074 ≤ i) (hm53 : m.log2 ≤ 52) (hX : val m i ≤ vr double X) (hE : vr double X < 2 ^ (E + K0)) (hR : R < double.infRung)
    (hXR : vr double X * 2 ^ K0 ≤ vr double R * vr double R) (hpl : (E : Int) + K0 + K0 ≤ 2 * (placeOf double R + lp double) + 106) :
    ∃ d, (Datum.number false m i).root 54 = some d ∧ In .f64 R (some (double.write d)) := by
  have hK := K0_eq
  by_cases h0 : m = 0
  · subst h0
    refine ⟨_, rfl, write_in (k := .f64) (by omega) hR ?_⟩
    simp [val]
  simp only [Datum.root]
  rw [if_neg h0]
  simp only [Bool.false_eq_true, if_false]
  refine ⟨_, rfl, ?_⟩
  generalize hmore : 2 * 54 - m.log2 + ((i - ((2 * 54 - m.log2 : Nat) : Int)) % 2).toNat = more
  have hpar : (i - (more : Int)) % 2 = 0 := by omega
  have hmo : 56 ≤ more ∧ more ≤ 109 := by omega
  have hlog : m.log2 + more ≥ 108 ∧ m.log2 + more ≤ 109 := by omega
  -- the exponent
  have hex : (m.log2 : Int) + i < E := by
    have h1 := pow_log_le m (i + (K0 : Int)).toNat h0
    have h2 : 2 ^ (m.log2 + (i + (K0 : Int)).toNat) < 2 ^ (E + K0) := Nat.lt_of_le_of_lt h1 (Nat.lt_of_le_of_lt hX hE)
    have h3 : m.log2 + (i + (K0 : Int)).toNat < E + K0 := (Nat.pow_lt_pow_iff_right (by omega)).1 h2
    omega
  have hw := rootFrom_sq (m <<< more) ((m <<< more).log2 / 2 + 1) 0 (Nat.zero_le _)
  generalize Datum.rootFrom (m <<< more) ((m <<< more).log2 / 2 + 1) 0 = whole at *
  refine write_in (k := .f64) (by omega) hR ?_
  generalize he : ((i - (more : Int)) / 2 + (K0 : Int)).toNat = e
  have he1 : ((i - (more : Int)) / 2 - 1 + (K0 : Int)).toNat = e - 1 := by omega
  have he2 : 2 * (e : Int) = i - more + K0 + K0 := by omega
  unfold val
  rw [he1]
  refine root_bound _ _ _ _ hw ?_ ?_ (by omega)
  · refine Nat.le_trans (Nat.le_of_eq ?_) (Nat.le_trans (Nat.mul_le_mul_right (2 ^ K0) hX) hXR)
    unfold val
    rw [Nat.shiftLeft_eq, Nat.mul_assoc, ← Nat.pow_add, Nat.mul_assoc, ← Nat.pow_add, show more + 2 * e = (i + (K0 : Int)).toNat + K0 by omega]
  · show 2 ^ e ∣ magOf double R * 2 ^ (placeOf double R + lp double)
    exact Nat.dvd_trans (Nat.pow_dvd_pow 2 (by omega)) (Nat.dvd_mul_left _ _)

/-! ### Narrowing, and the root in the walk -/

/-- A 64-bit number, narrowed. -/
def narrow : Option Nat → Option Nat
  | some b => some (single.write (double.read b))
  | none => none

/-- The largest power of two whose narrowing is looked at: 2^127. -/
def R127 : Nat := (127 + 1023) * 4503599627370496
theorem vr_127 : vr double R127 = vr single ((127 + 127) * 8388608) := by decide +kernel

theorem run_narrow {P : Program} (b : Nat) (w : World) (h : av .f64 b = none ∨ In .f64 R127 (av .f64 b) ∨ (double.read b).isInfinity = true) :
    ∃ r n, (Conv.floatToFloat .f64 b .f32).run P w = .ok (.float .f32 r) (w.drewN n) ∧ Fv .f32 (narrow (av .f64 b)) r := by
  cases hd : double.read b with
  | nan s f =>
    have hn : av .f64 b = none := by unfold av; rw [if_pos]; show (double.read b).isNaN = true; rw [hd]; rfl
    rw [hn]
    refine ⟨(Question.nanConv .f32 b).cut (w.tape w.drawn (.nanConv .f32 b)), 1, ?_, nanConv_nan .f32 b _⟩
    simp [Conv.floatToFloat, FloatKind.decode, FloatKind.format, hd, Go.choose, Sem.run, Question.forced, World.drew_is_drewN]
  | infinity s =>
    have hn : av .f64 b = some b := av_some (k := .f64) (by show (double.read b).isNaN = false; rw [hd]; rfl)
    refine ⟨single.write (double.read b), 0, ?_, ?_⟩
    · rw [World.drewN_zero]
      simp [Conv.floatToFloat, FloatKind.decode, FloatKind.encode, FloatKind.format, hd]
    · rw [hn]
      exact ⟨single.write_lt _, av_some (k := .f32) (read_write single _ (by rw [hd]; rfl))⟩
  | number s m i =>
    have hn : av .f64 b = some b := av_some (k := .f64) (by show (double.read b).isNaN = false; rw [hd]; rfl)
    rw [hn, hd] at h
    rcases h with h | h | h
    · cases h
    · obtain ⟨b', s', m', i', e1, e2, e3, e4⟩ := h.read (by decide)
      cases e1
      rw [show FloatKind.f64.format.read b = double.read b from rfl, hd] at e2
      cases e2
      have hl : (-1074 : Int) ≤ i := e4
      have hin : In .f32 ((127 + 127) * 8388608) (some (single.write (.number s m i))) := write_in (k := .f32) (by omega) (by decide) (by
        have e5 : val m i ≤ vr double R127 := e3
        rw [vr_127] at e5; exact e5)
      obtain ⟨b2, s2, m2, i2, f1, f2, _, _⟩ := hin.read (by decide)
      cases f1
      have hni : (single.read (single.write (.number s m i))).isInfinity = false := by
        rw [show single.read (single.write (.number s m i)) = FloatKind.f32.format.read (single.write (.number s m i)) from rfl, f2]; rfl
      refine ⟨single.write (double.read b), 0, ?_, ?_⟩
      · rw [World.drewN_zero]
        rw [hd]
        simp [Conv.floatToFloat, FloatKind.decode, FloatKind.encode, FloatKind.format, hd, hni]
      · rw [hn]
        exact ⟨single.write_lt _, av_some (k := .f32) (read_write single _ (by rw [hd]; rfl))⟩
    · simp [Datum.isInfinity] at h

section
variable {P : Program} {ops : Array Oper} {Q : Exit → Act → World → Prop} {rest : List Oper} {a : Act} {w : World} {dst : Option Tmp} {ty : TypeId} {pos : String} {af : Array Edge}
/-- 'float32(x)' of a float64 in the walk. -/
theorem wpList_narrow (src dt : TypeId) (x : Operand) (b : Nat) (hx : a.eval x = .float .f64 b) (hs : P.underlying src = some (.float .f64)) (hd : P.underlying dt = some (.float .f32))
    (h : av .f64 b = none ∨ In .f64 R127 (av .f64 b) ∨ (double.read b).isInfinity = true)
    (hK : ∀ r n, Fv .f32 (narrow (av .f64 b)) r → wpList P ops Q rest (a.put dst (.float .f32 r)) (w.drewN n)) :
    wpList P ops Q (⟨dst, .convert src dt x, ty, pos, af, none⟩ :: rest) a w := by
  refine wpList_plain rfl fun K hK' => ?_
  obtain ⟨r, n, hrun, hr⟩ := run_narrow (P := P) b w h
  unfold Oper.wp
  simp [execOp, hx, convert, run_underlying hs, run_underlying hd, hrun]
  exact hK' _ _ (hK r n hr)
end

/-- The square root, as the model has it. -/
def asqrt : Option Nat → Option Nat
  | some b => double.sqrt b
  | none => none
theorem asqrt_of (b : Nat) : asqrt (av .f64 b) = double.sqrt b := by
  unfold av
  split
  · rename_i h
    have h' : (double.read b).isNaN = true := h
    show none = double.sqrt b
    unfold Format.sqrt
    cases hd : double.read b with
    | nan _ _ => rfl
    | number _ _ _ => rw [hd] at h'; simp [Datum.isNaN] at h'
    | infinity _ => rw [hd] at h'; simp [Datum.isNaN] at h'
  · rfl

theorem In.read' {k : FloatKind} {R : Nat} {v : Option Nat} (h : In k R v) (hR : R < k.format.infRung) :
    ∃ b s m i, v = some b ∧ k.format.read b = .number s m i ∧ val m i ≤ vr k.format R ∧ k.format.leastPlace ≤ i ∧ m < 2 ^ (k.format.fractionBits + 1) := by
  obtain ⟨b, rfl, hb⟩ := h
  refine ⟨b, _, _, _, rfl, read_rung k b (by omega), ?_, by omega, mag_lt _ _⟩
  rw [val_rung]
  exact vr_mono _ hb

def R128 : Nat := (128 + 1023) * 4503599627370496
theorem vr_128 : vr double R128 = 2 ^ (128 + K0) := by decide +kernel

/-- What is finite and made wide does not pass 2^128. -/
theorem widen_in (b : Nat) (s : Bool) (m : Nat) (i : Int) (h : single.read b = .number s m i) : In .f64 R128 (widen (some b)) := by
  have hK := K0_eq
  show In .f64 R128 (some (double.write (single.read b)))
  have hmi : m < 2 ^ 24 ∧ -149 ≤ i ∧ i ≤ 104 := by
    have hbin : single.binade = 8388608 := by decide
    have hinf : single.infRung = 2139095040 := by decide
    unfold Format.read at h
    simp only [hbin, hinf, single_least] at h
    split at h
    · cases h; omega
    · split at h
      · cases h; omega
      · split at h <;> cases h
  rw [h]
  refine write_in (k := .f64) (by omega) (by decide) ?_
  show val m i ≤ vr double R128
  rw [vr_128]
  unfold val
  have e : 2 ^ (128 + K0) = 2 ^ 24 * 2 ^ (104 + K0) := by rw [← Nat.pow_add, show 128 + K0 = 24 + (104 + K0) by omega]
  rw [e]
  exact Nat.mul_le_mul (Nat.le_of_lt hmi.1) (Nat.pow_le_pow_right (by omega) (by omega))

/-- The root of what was 32 bits wide can be narrowed. -/
theorem root_ok (a : Nat) : asqrt (widen (av .f32 a)) = none ∨ In .f64 R127 (asqrt (widen (av .f32 a))) ∨ ∃ b, asqrt (widen (av .f32 a)) = some b ∧ (double.read b).isInfinity = true := by
  rcases read_single a with ⟨s, m, i, e, _⟩ | ⟨s, e⟩ | ⟨s, f, e⟩
  · have hn : av .f32 a = some a := av_some (k := .f32) (by show (single.read a).isNaN = false; rw [e]; rfl)
    rw [hn]
    obtain ⟨b, t, M, p, e1, e2, e3, e4, e5⟩ := (widen_in a s m i e).read' (by decide)
    have e2' : double.read b = .number t M p := e2
    have e4' : (-1074 : Int) ≤ p := e4
    have e5' : M.log2 ≤ 52 := by
      rcases Nat.eq_zero_or_pos M with h0 | h0
      · subst h0; decide
      · have : M < 2 ^ 53 := e5
        have := (Nat.log2_lt (by omega) (k := 53)).2 this
        omega
    rw [e1]
    show (double.sqrt b = none) ∨ In .f64 R127 (double.sqrt b) ∨ ∃ b', double.sqrt b = some b' ∧ _
    unfold Format.sqrt
    rw [e2']
    cases t with
    | false =>
      obtain ⟨d, hd, hin⟩ := root_in (X := R128) (R := R127) (E := 129) e4' e5' e3 (by rw [vr_128]; exact Nat.pow_lt_pow_right (by omega) (by omega)) (by decide) (by decide +kernel) (by decide +kernel)
      rw [show double.fractionBits + 2 = 54 from rfl, hd]
      exact .inr (.inl hin)
    | true =>
      by_cases h0 : M = 0
      · subst h0
        refine .inr (.inl ?_)
        show In .f64 R127 (some (double.write (.number true 0 p)))
        exact write_in (k := .f64) (by omega) (by decide) (by simp [val])
      · refine .inl ?_
        simp only [Datum.root]
        rw [if_neg h0]
        rfl
  · have hn : av .f32 a = some a := av_some (k := .f32) (by show (single.read a).isNaN = false; rw [e]; rfl)
    rw [hn]
    show (double.sqrt (double.write (single.read a)) = none) ∨ In .f64 R127 (double.sqrt (double.write (single.read a))) ∨ ∃ b', double.sqrt (double.write (single.read a)) = some b' ∧ _
    rw [e]
    cases s with
    | true => exact .inl (by decide)
    | false => exact .inr (.inr ⟨_, rfl, by decide⟩)
  · have hn : av .f32 a = none := by unfold av; rw [if_pos]; show (single.read a).isNaN = true; rw [e]; rfl
    rw [hn]; exact .inl rfl

theorem narrow_of {r : Nat} {v : Option Nat} (hr : Fv .f64 v r) (h : v = none ∨ In .f64 R127 v ∨ ∃ b, v = some b ∧ (double.read b).isInfinity = true) :
    av .f64 r = none ∨ In .f64 R127 (av .f64 r) ∨ (double.read r).isInfinity = true := by
  rw [hr.2]
  rcases h with h | h | ⟨b, h, hi⟩
  · exact .inl h
  · exact .inr (.inl h)
  · refine .inr (.inr ?_)
    have := hr.2
    rw [h] at this
    unfold av at this
    split at this
    · cases this
    · cases this; exact hi
end Go.Proofs.Yticmnkgcolgpaaa.Fl
