/- Plain facts on the model's floats: a float's value but for a not-a-number's bits ('av'), what the operations give of such values, what a 32-bit number made wide is. -/
import Derived.WalkKit
import Derived.Deep.Draws
import Derived.Laws.FloatBits
namespace Go.Proofs.YtfgkimhcbboipaaDoor.Fl
open Go Ieee

def av (k : FloatKind) (b : Nat) : Option Nat := if (k.format.read b).isNaN then none else some b
def Fv (k : FloatKind) (v : Option Nat) (b : Nat) : Prop := b < 2 ^ k.format.width ∧ av k b = v

def aop (op : BinOp) (k : FloatKind) : Option Nat → Option Nat → Option Nat
  | some x, some y => match op with
    | .add => k.format.add x y
    | .sub => k.format.sub x y
    | .mul => k.format.mul x y
    | .quo => k.format.div x y
    | _ => none
  | _, _ => none

def aord (k : FloatKind) : Option Nat → Option Nat → Option Ordering
  | some x, some y => k.format.order x y
  | _, _ => none

theorem signWeight_pos (f : Format) : 0 < f.signWeight := Nat.two_pow_pos _

theorem read_word (f : Format) (neg : Bool) {rung : Nat} (h : rung ≤ f.infRung) : (f.read (f.word neg rung)).isNaN = false := by
  have hlt : rung < f.signWeight := Nat.lt_of_le_of_lt h f.infRung_lt
  have hm : f.word neg rung % f.signWeight = rung := by
    unfold Format.word
    split
    · rw [Nat.add_mod_left, Nat.mod_eq_of_lt hlt]
    · exact Nat.mod_eq_of_lt hlt
  unfold Format.read
  simp only [hm]
  split
  · rfl
  · split
    · rfl
    · split
      · rfl
      · omega

theorem read_write (f : Format) (d : Datum) (h : d.isNaN = false) : (f.read (f.write d)).isNaN = false := by
  cases d with
  | number neg mag place =>
    simp only [Format.write, Format.nearest]
    split
    · exact read_word f neg (Nat.zero_le _)
    · exact read_word f neg (Nat.min_le_right ..)
  | infinity neg => exact read_word f neg (Nat.le_refl _)
  | nan neg fr => simp [Datum.isNaN] at h

theorem sum_notNaN {x y d : Datum} (h : x.sum y = some d) : d.isNaN = false := by
  cases x <;> cases y <;> simp only [Datum.sum] at h <;> (try split at h) <;> (try cases h) <;> (try rfl)
theorem product_notNaN {x y d : Datum} (h : x.product y = some d) : d.isNaN = false := by
  cases x <;> cases y <;> simp only [Datum.product] at h <;> (try split at h) <;> (try cases h) <;> (try rfl)
theorem quotient_notNaN {n : Nat} {x y d : Datum} (h : x.quotient n y = some d) : d.isNaN = false := by
  cases x <;> cases y <;> simp only [Datum.quotient] at h <;> (try split at h) <;> (try split at h) <;> (try cases h) <;> (try rfl)
theorem root_notNaN {n : Nat} {x d : Datum} (h : x.root n = some d) : d.isNaN = false := by
  cases x <;> simp only [Datum.root] at h <;> (try split at h) <;> (try split at h) <;> (try cases h) <;> (try rfl)

theorem map_write_notNaN (f : Format) {o : Option Datum} {r : Nat} (ho : ∀ d, o = some d → d.isNaN = false) (h : o.map f.write = some r) : (f.read r).isNaN = false := by
  cases o with
  | none => cases h
  | some d => cases h; exact read_write f d (ho d rfl)

theorem sum_nan_l {x y : Datum} (h : x.isNaN = true) : x.sum y = none := by
  cases x <;> simp [Datum.isNaN] at h
  cases y <;> rfl
theorem sum_nan_r {x y : Datum} (h : y.isNaN = true) : x.sum y = none := by
  cases y <;> simp [Datum.isNaN] at h
  cases x <;> rfl
theorem product_nan_l {x y : Datum} (h : x.isNaN = true) : x.product y = none := by
  cases x <;> simp [Datum.isNaN] at h
  cases y <;> rfl
theorem product_nan_r {x y : Datum} (h : y.isNaN = true) : x.product y = none := by
  cases y <;> simp [Datum.isNaN] at h
  cases x <;> rfl
theorem quotient_nan_l {n : Nat} {x y : Datum} (h : x.isNaN = true) : x.quotient n y = none := by
  cases x <;> simp [Datum.isNaN] at h
  cases y <;> rfl
theorem quotient_nan_r {n : Nat} {x y : Datum} (h : y.isNaN = true) : x.quotient n y = none := by
  cases y <;> simp [Datum.isNaN] at h
  cases x <;> rfl
theorem opposite_isNaN (y : Datum) : y.opposite.isNaN = y.isNaN := by cases y <;> rfl
theorem order_nan_l {x y : Datum} (h : x.isNaN = true) : x.order y = none := by
  cases x <;> simp [Datum.isNaN] at h
  cases y <;> rfl
theorem order_nan_r {x y : Datum} (h : y.isNaN = true) : x.order y = none := by
  cases y <;> simp [Datum.isNaN] at h
  cases x <;> rfl

/-- The operation on bits, as the model has it. -/
def bop (op : BinOp) (k : FloatKind) (x y : Nat) : Option Nat := match op with
    | .add => k.format.add x y
    | .sub => k.format.sub x y
    | .mul => k.format.mul x y
    | .quo => k.format.div x y
    | _ => none

def isArith : BinOp → Bool
  | .add | .sub | .mul | .quo => true
  | _ => false

theorem bop_lt {op : BinOp} {k : FloatKind} {x y r : Nat} (h : bop op k x y = some r) : r < 2 ^ k.format.width := by
  unfold bop at h
  split at h
  · exact k.format.add_lt h
  · exact k.format.sub_lt h
  · exact k.format.mul_lt h
  · exact k.format.div_lt h
  · cases h

theorem bop_notNaN {op : BinOp} {k : FloatKind} {x y r : Nat} (h : bop op k x y = some r) : (k.format.read r).isNaN = false := by
  unfold bop at h
  split at h
  · exact map_write_notNaN _ (fun _ hd => sum_notNaN hd) h
  · exact map_write_notNaN _ (fun _ hd => sum_notNaN hd) h
  · exact map_write_notNaN _ (fun _ hd => product_notNaN hd) h
  · exact map_write_notNaN _ (fun _ hd => quotient_notNaN hd) h
  · cases h

theorem aop_bop (op : BinOp) (k : FloatKind) (x y : Nat) : aop op k (av k x) (av k y) = bop op k x y := by
  unfold av
  by_cases hx : (k.format.read x).isNaN = true
  · rw [if_pos hx]
    have : bop op k x y = none := by
      unfold bop
      split <;> simp [Format.add, Format.sub, Format.mul, Format.div, sum_nan_l hx, product_nan_l hx, quotient_nan_l hx]
    rw [this]; rfl
  · rw [if_neg hx]
    by_cases hy : (k.format.read y).isNaN = true
    · rw [if_pos hy]
      have hy' : (k.format.read y).opposite.isNaN = true := by rw [opposite_isNaN]; exact hy
      have : bop op k x y = none := by
        unfold bop
        split <;> simp [Format.add, Format.sub, Format.mul, Format.div, sum_nan_r hy, sum_nan_r hy', product_nan_r hy, quotient_nan_r hy]
      rw [this]; rfl
    · rw [if_neg hy]; rfl

theorem aord_order (k : FloatKind) (x y : Nat) : k.format.order x y = aord k (av k x) (av k y) := by
  unfold av
  by_cases hx : (k.format.read x).isNaN = true
  · rw [if_pos hx]; simp [Format.order, order_nan_l hx, aord]
  · rw [if_neg hx]
    by_cases hy : (k.format.read y).isNaN = true
    · rw [if_pos hy]; simp [Format.order, order_nan_r hy, aord]
    · rw [if_neg hy]; rfl

theorem single_sw : single.signWeight = 2147483648 := by decide
theorem single_inf : single.infRung = 2139095040 := by decide
theorem single_bin : single.binade = 8388608 := by decide
theorem single_w : (2 : Nat) ^ single.width = 4294967296 := by decide
theorem double_sw : double.signWeight = 9223372036854775808 := by decide
theorem double_inf : double.infRung = 9218868437227405312 := by decide
theorem double_bin : double.binade = 4503599627370496 := by decide
theorem double_w : (2 : Nat) ^ double.width = 18446744073709551616 := by decide

theorem isNaN_of (k : FloatKind) (b : Nat) (h : k.format.infRung < b % k.format.signWeight) : (k.format.read b).isNaN = true := by
  have h0 : k.format.binade ≤ k.format.infRung := by cases k <;> decide
  unfold Format.read
  simp only []
  split
  · omega
  · split
    · omega
    · split
      · omega
      · rfl

theorem nanBits_nan (k : FloatKind) (x y t : Nat) : Fv k none ((Question.nanBits k x y).cut t) := by
  cases k
  · have e : (Question.nanBits .f32 x y).cut t = (t % 2) * 2147483648 + 0x7f800000 + 1 + (t / 2) % 8388607 := by rfl
    have h1 : t % 2 < 2 := Nat.mod_lt _ (by omega)
    have h2 : (t / 2) % 8388607 < 8388607 := Nat.mod_lt _ (by omega)
    rw [e]
    generalize t % 2 = c at *
    generalize (t / 2) % 8388607 = d at *
    refine ⟨?_, ?_⟩
    · show _ < 2 ^ single.width; rw [single_w]; omega
    · unfold av; rw [if_pos]; exact isNaN_of .f32 _ (by show single.infRung < _ % single.signWeight; rw [single_inf, single_sw]; omega)
  · have e : (Question.nanBits .f64 x y).cut t = (t % 2) * 9223372036854775808 + 0x7ff0000000000000 + 1 + (t / 2) % 4503599627370495 := by rfl
    have h1 : t % 2 < 2 := Nat.mod_lt _ (by omega)
    have h2 : (t / 2) % 4503599627370495 < 4503599627370495 := Nat.mod_lt _ (by omega)
    rw [e]
    generalize t % 2 = c at *
    generalize (t / 2) % 4503599627370495 = d at *
    refine ⟨?_, ?_⟩
    · show _ < 2 ^ double.width; rw [double_w]; omega
    · unfold av; rw [if_pos]; exact isNaN_of .f64 _ (by show double.infRung < _ % double.signWeight; rw [double_inf, double_sw]; omega)
theorem nanConv_nan (k : FloatKind) (x t : Nat) : Fv k none ((Question.nanConv k x).cut t) := by
  have := nanBits_nan k x x t
  cases k <;> exact this

theorem av_some {k : FloatKind} {r : Nat} (h : (k.format.read r).isNaN = false) : av k r = some r := by
  unfold av; rw [if_neg (by simp [h])]

theorem run_farith {P : Program} (op : BinOp) (k : FloatKind) (x y : Nat) (w : World) (hop : isArith op = true) :
    ∃ r n, (Op.floatArith op k x y).run P w = .ok (.float k r) (w.drewN n) ∧ Fv k (aop op k (av k x) (av k y)) r := by
  rw [aop_bop]
  cases hb : bop op k x y with
  | some r =>
    refine ⟨r, 0, ?_, bop_lt hb, av_some (bop_notNaN hb)⟩
    rw [World.drewN_zero]
    unfold bop at hb
    cases op <;> simp only at hb <;> first | (cases hb; done) | skip
    all_goals simp [Op.floatArith, hb]
  | none =>
    refine ⟨(Question.nanBits k x y).cut (w.tape w.drawn (.nanBits k x y)), 1, ?_, nanBits_nan k x y _⟩
    unfold bop at hb
    cases op <;> simp only [isArith] at hop hb <;> first | (cases hop; done) | skip
    all_goals simp [Op.floatArith, hb, Go.choose, Sem.run, Question.forced, World.drew_is_drewN]

section
variable {P : Program} {ops : Array Oper} {Q : Exit → Act → World → Prop} {rest : List Oper} {a : Act} {w : World} {dst : Option Tmp} {ty : TypeId} {pos : String} {af : Array Edge}

/-- A float's operation in the walk: whatever comes, its value is known but for a NaN's bits. -/
theorem wpList_farith (op : BinOp) (t : TypeId) (x y : Operand) (z : TypeId) (k : FloatKind) (bx by_ : Nat) (hx : a.eval x = .float k bx) (hy : a.eval y = .float k by_) (hop : isArith op = true)
    (hK : ∀ r n, Fv k (aop op k (av k bx) (av k by_)) r → wpList P ops Q rest (a.put dst (.float k r)) (w.drewN n)) :
    wpList P ops Q (⟨dst, .binOp op t x y z, ty, pos, af, none⟩ :: rest) a w := by
  refine wpList_plain rfl fun K hK' => ?_
  obtain ⟨r, n, hrun, hr⟩ := run_farith (P := P) op k bx by_ w hop
  have hb : binOp op t (.float k bx) (.float k by_) = Op.floatArith op k bx by_ := by
    cases op <;> simp [isArith] at hop <;> simp [binOp]
  have hg : ∀ w, (eqGuard op t x y (.float k bx) (.float k by_)).run P w = .ok () w := by
    intro w; cases op <;> simp [isArith] at hop <;> simp [eqGuard]
  unfold Oper.wp
  simp [execOp, hx, hy, hb, hg, hrun]
  exact hK' _ _ (hK r n hr)
end

theorem double_least : double.leastPlace = -1074 := by decide
theorem single_least : single.leastPlace = -149 := by decide

theorem cut_zero (way : Toward) (neg : Bool) (n : Nat) : way.cut neg n 0 = n := by
  unfold Toward.cut
  cases way <;> cases neg <;> simp [Nat.mod_one]

theorem shl_log_lo (m : Nat) (h0 : m ≠ 0) (k : Nat) (hl : m.log2 ≤ k) : 2 ^ k ≤ m <<< (k - m.log2) := by
  rw [Nat.shiftLeft_eq]
  have h1 : 2 ^ m.log2 ≤ m := Nat.log2_self_le h0
  calc 2 ^ k = 2 ^ m.log2 * 2 ^ (k - m.log2) := by rw [← Nat.pow_add]; congr 1; omega
    _ ≤ m * 2 ^ (k - m.log2) := Nat.mul_le_mul_right _ h1
theorem shl_log_hi (m : Nat) (k : Nat) (hl : m.log2 ≤ k) : m <<< (k - m.log2) < 2 ^ (k + 1) := by
  rw [Nat.shiftLeft_eq]
  have h1 : m < 2 ^ (m.log2 + 1) := Nat.lt_log2_self
  calc m * 2 ^ (k - m.log2) < 2 ^ (m.log2 + 1) * 2 ^ (k - m.log2) := Nat.mul_lt_mul_of_pos_right h1 (Nat.two_pow_pos _)
    _ = 2 ^ (k + 1) := by rw [← Nat.pow_add]; congr 1; omega

/-- A word's sign and rung are read back. -/
theorem read_word_sign (f : Format) (neg : Bool) {rung : Nat} (h : rung < f.signWeight) : (f.word neg rung) % f.signWeight = rung ∧ ((f.word neg rung) / f.signWeight % 2 == 1) = neg := by
  have hp : 0 < f.signWeight := Nat.two_pow_pos _
  unfold Format.word
  cases neg
  · simp [Nat.mod_eq_of_lt h, Nat.div_eq_of_lt h]
  · simp only [if_true]
    rw [Nat.add_mod_left, Nat.mod_eq_of_lt h, Nat.add_div_left _ hp, Nat.div_eq_of_lt h]
    exact ⟨rfl, rfl⟩

/-- helper -/
theorem min_of_le' {a b : Nat} (h : a ≤ b) : min a b = a := Nat.min_eq_left h

set_option maxRecDepth 100000 in
theorem nearest_exact (neg : Bool) (mag : Nat) (place : Int) (h0 : mag ≠ 0) (hl : mag.log2 ≤ 52) (hlo : -1074 ≤ place + mag.log2 - 52) (hhi : place + mag.log2 ≤ 1023) :
    double.nearest neg mag place = double.word neg ((place + mag.log2 - 52 + 1074).toNat * 4503599627370496 + mag <<< (52 - mag.log2)) := by
  have hbin : double.binade = 4503599627370496 := by decide
  have hinf : double.infRung = 9218868437227405312 := by decide
  have hfr : double.fractionBits = 52 := rfl
  have a1 := shl_log_hi mag 52 hl
  have a2 := shl_log_lo mag h0 52 hl
  unfold Format.nearest
  rw [if_neg h0]
  simp only [double_least, hbin, hinf, hfr]
  have e1 : max (place + (mag.log2 : Int) - ((52 : Nat) : Int)) (-1074) = place + mag.log2 - 52 := by omega
  rw [e1]
  have e2 : (place - (place + (mag.log2 : Int) - 52)).toNat = 52 - mag.log2 := by omega
  have e3 : (place + (mag.log2 : Int) - 52 - place).toNat = 0 := by omega
  rw [e2, e3, cut_zero]
  generalize mag <<< (52 - mag.log2) = K at *
  congr 1
  have : (place + (mag.log2 : Int) - 52 - -1074).toNat = (place + (mag.log2 : Int) - 52 + 1074).toNat := by omega
  rw [this]
  have hb : (place + (mag.log2 : Int) - 52 + 1074).toNat ≤ 2045 := by omega
  generalize (place + (mag.log2 : Int) - 52 + 1074).toNat = L at *
  have a1' : K < 9007199254740992 := a1
  have a2' : 4503599627370496 ≤ K := a2
  clear a1 a2
  exact min_of_le' (by omega)

set_option maxRecDepth 100000 in
theorem read_nearest_exact (neg : Bool) (mag : Nat) (place : Int) (h0 : mag ≠ 0) (hl : mag.log2 ≤ 52) (hlo : -1074 ≤ place + mag.log2 - 52) (hhi : place + mag.log2 ≤ 1023) :
    double.read (double.nearest neg mag place) = .number neg (mag <<< (52 - mag.log2)) (place + mag.log2 - 52) := by
  rw [nearest_exact neg mag place h0 hl hlo hhi]
  have hbin : double.binade = 4503599627370496 := by decide
  have hinf : double.infRung = 9218868437227405312 := by decide
  have hsw : double.signWeight = 9223372036854775808 := by decide
  have a1 := shl_log_hi mag 52 hl
  have a2 := shl_log_lo mag h0 52 hl
  have hb : (place + (mag.log2 : Int) - 52 + 1074).toNat ≤ 2045 := by omega
  have hi : ((place + (mag.log2 : Int) - 52 + 1074).toNat : Int) = place + (mag.log2 : Int) - 52 + 1074 := by omega
  generalize mag <<< (52 - mag.log2) = K at *
  generalize (place + (mag.log2 : Int) - 52 + 1074).toNat = L at *
  have a1' : K < 9007199254740992 := a1
  have a2' : 4503599627370496 ≤ K := a2
  clear a1 a2
  obtain ⟨e1, e2⟩ := read_word_sign double neg (rung := L * 4503599627370496 + K) (by rw [hsw]; omega)
  unfold Format.read
  simp only [e1, e2, hbin, hinf, double_least]
  rw [if_neg (by omega), if_pos (by omega)]
  have : (L * 4503599627370496 + K) % 4503599627370496 = K - 4503599627370496 := by omega
  have h3 : (L * 4503599627370496 + K) / 4503599627370496 = L + 1 := by omega
  have h4 : 4503599627370496 + (K - 4503599627370496) = K := by omega
  have h5 : (-1074 : Int) + ((L + 1 - 1 : Nat) : Int) = place + (mag.log2 : Int) - 52 := by omega
  rw [this, h3, h4, h5]

/-! ### A 32-bit number made wide -/

theorem signed_shift (s : Bool) (m u d : Nat) : signed s m (u + d) = signed s m u * (2 ^ d : Nat) := by
  unfold signed
  cases s <;> simp [Nat.shiftLeft_eq, Nat.pow_add, Int.mul_assoc, Int.neg_mul]

theorem compare_int (x y : Int) : compare x y = if x < y then .lt else if x = y then .eq else .gt := rfl
theorem cmp_eq (x y : Int) : (some (compare x y) == some Ordering.eq) = decide (x = y) := by
  rw [compare_int]; split
  · rename_i h; rw [decide_eq_false (by omega)]; rfl
  · split
    · rename_i h; rw [decide_eq_true h]; rfl
    · rename_i h; rw [decide_eq_false h]; rfl
theorem cmp_lt (x y : Int) : (some (compare x y) == some Ordering.lt) = decide (x < y) := by
  rw [compare_int]; split
  · rename_i h; rw [decide_eq_true h]; rfl
  · rename_i h; rw [decide_eq_false h]; split <;> rfl
theorem cmp_gt (x y : Int) : (some (compare x y) == some Ordering.gt) = decide (y < x) := by
  rw [compare_int]; split
  · rw [decide_eq_false (by omega)]; rfl
  · split
    · rw [decide_eq_false (by omega)]; rfl
    · rw [decide_eq_true (by omega)]; rfl
theorem compare_mul (x y : Int) (c : Nat) (h : 0 < c) : compare (x * (c : Int)) (y * (c : Int)) = compare x y := by
  have hc : (0 : Int) < c := by omega
  rw [compare_int, compare_int]
  rcases Int.lt_trichotomy x y with h1 | h1 | h1
  · rw [if_pos h1, if_pos (Int.mul_lt_mul_of_pos_right h1 hc)]
  · subst h1; simp
  · have h2 := Int.mul_lt_mul_of_pos_right h1 hc
    rw [if_neg (by omega), if_neg (by omega), if_neg (by omega), if_neg (by omega)]

theorem order_number (s t : Bool) (m n : Nat) (i j b : Int) (h1 : b ≤ i) (h2 : b ≤ j) :
    (Datum.number s m i).order (.number t n j) = some (compare (signed s m (i - b).toNat) (signed t n (j - b).toNat)) := by
  simp only [Datum.order]
  have e1 : (i - b).toNat = (i - min i j).toNat + (min i j - b).toNat := by omega
  have e2 : (j - b).toNat = (j - min i j).toNat + (min i j - b).toNat := by omega
  rw [e1, e2, signed_shift, signed_shift, compare_mul _ _ _ (Nat.two_pow_pos _)]

/-- Two data that stand for the same number. -/
def SameNum : Datum → Datum → Prop
  | .number s m i, .number t n j => s = t ∧ ∃ b, b ≤ i ∧ b ≤ j ∧ signed s m (i - b).toNat = signed t n (j - b).toNat
  | .infinity s, .infinity t => s = t
  | _, _ => False

theorem signed_down (s : Bool) (m : Nat) (i b c : Int) (h1 : b ≤ i) (h2 : c ≤ b) : signed s m (i - c).toNat = signed s m (i - b).toNat * (2 ^ (b - c).toNat : Nat) := by
  rw [← signed_shift]; congr 1; omega

theorem order_same {x x' y y' : Datum} (hx : SameNum x x') (hy : SameNum y y') : x.order y = x'.order y' := by
  cases x with
  | nan s f => exact hx.elim
  | infinity s =>
    cases x' with
    | nan _ _ => exact hx.elim
    | number _ _ _ => exact hx.elim
    | infinity s' =>
      have hx' : s = s' := hx
      subst hx'
      cases y with
      | nan _ _ => exact hy.elim
      | infinity t => cases y' with
        | nan _ _ => exact hy.elim
        | number _ _ _ => exact hy.elim
        | infinity t' => have hy' : t = t' := hy; subst hy'; rfl
      | number t n j => cases y' with
        | nan _ _ => exact hy.elim
        | infinity _ => exact hy.elim
        | number t' n' j' => rfl
  | number s m i =>
    cases x' with
    | nan _ _ => exact hx.elim
    | infinity _ => exact hx.elim
    | number s' m' i' =>
      obtain ⟨rfl, b, hb1, hb2, hb⟩ := hx
      cases y with
      | nan _ _ => exact hy.elim
      | infinity t => cases y' with
        | nan _ _ => exact hy.elim
        | number _ _ _ => exact hy.elim
        | infinity t' => have hy' : t = t' := hy; subst hy'; rfl
      | number t n j => cases y' with
        | nan _ _ => exact hy.elim
        | infinity _ => exact hy.elim
        | number t' n' j' =>
          obtain ⟨rfl, c, hc1, hc2, hc⟩ := hy
          have hm1 : min b c ≤ b := Int.min_le_left ..
          have hm2 : min b c ≤ c := Int.min_le_right ..
          rw [order_number s t m n i j (min b c) (by omega) (by omega), order_number s t m' n' i' j' (min b c) (by omega) (by omega)]
          rw [signed_down s m i b _ hb1 hm1, signed_down s m' i' b _ hb2 hm1, hb, signed_down t n j c _ hc1 hm2, signed_down t n' j' c _ hc2 hm2, hc]

theorem read_single (b : Nat) : (∃ s m i, single.read b = .number s m i ∧ (m ≠ 0 → m.log2 ≤ 23 ∧ -149 ≤ i ∧ i ≤ 104)) ∨ (∃ s, single.read b = .infinity s) ∨ (∃ s f, single.read b = .nan s f) := by
  have hbin : single.binade = 8388608 := by decide
  have hinf : single.infRung = 2139095040 := by decide
  unfold Format.read
  simp only [hbin, hinf, single_least]
  split
  · rename_i h
    refine .inl ⟨_, _, _, rfl, fun h0 => ⟨?_, by omega, by omega⟩⟩
    have := (Nat.log2_lt h0 (k := 23)).2 (by omega)
    omega
  · split
    · rename_i h1 h2
      refine .inl ⟨_, _, _, rfl, fun h0 => ⟨?_, by omega, by omega⟩⟩
      have := (Nat.log2_lt h0 (k := 24)).2 (by omega)
      omega
    · split
      · exact .inr (.inl ⟨_, rfl⟩)
      · exact .inr (.inr ⟨_, _, rfl⟩)

theorem read_word_zero (neg : Bool) : double.read (double.word neg 0) = .number neg 0 (-1074) := by cases neg <;> decide
theorem read_word_inf (f : Format) (hp : f.binade ≤ f.infRung) (neg : Bool) : f.read (f.word neg f.infRung) = .infinity neg := by
  obtain ⟨e1, e2⟩ := read_word_sign f neg f.infRung_lt
  unfold Format.read
  simp only [e1, e2]
  rw [if_neg (by omega), if_neg (by omega)]; simp

/-- A 32-bit number, wide: none for a not-a-number. -/
def widen : Option Nat → Option Nat
  | some b => some (double.write (single.read b))
  | none => none

theorem wide_same (b : Nat) (h : (single.read b).isNaN = false) : SameNum (double.read (double.write (single.read b))) (single.read b) := by
  rcases read_single b with ⟨s, m, i, e, hm⟩ | ⟨s, e⟩ | ⟨s, f, e⟩
  · rw [e]
    by_cases h0 : m = 0
    · subst h0
      have : double.write (.number s 0 i) = double.word s 0 := by simp [Format.write, Format.nearest]
      rw [this, read_word_zero]
      refine ⟨rfl, min i (-1074), by omega, by omega, ?_⟩
      simp [signed]
    · obtain ⟨h1, h2, h3⟩ := hm h0
      show SameNum (double.read (double.nearest s m i)) _
      rw [read_nearest_exact s m i h0 (by omega) (by omega) (by omega)]
      refine ⟨rfl, i + m.log2 - 52, by omega, by omega, ?_⟩
      have e1 : (i + (m.log2 : Int) - 52 - (i + (m.log2 : Int) - 52)).toNat = 0 := by omega
      have e2 : (i - (i + (m.log2 : Int) - 52)).toNat = 52 - m.log2 := by omega
      rw [e1, e2]
      unfold signed
      simp [Nat.shiftLeft_eq]
  · rw [e]
    show SameNum (double.read (double.word s double.infRung)) _
    rw [read_word_inf double (by decide)]
    exact rfl
  · rw [e] at h; simp [Datum.isNaN] at h

theorem wide_not_inf (b : Nat) (s : Bool) (m : Nat) (i : Int) (h : single.read b = .number s m i) : (double.read (double.write (single.read b))).isInfinity = false := by
  have hs := wide_same b (by rw [h]; rfl)
  rw [h] at hs ⊢
  cases hd : double.read (double.write (.number s m i)) with
  | number _ _ _ => rfl
  | infinity t => rw [hd] at hs; exact hs.elim
  | nan _ _ => rfl

theorem aord_widen (x y : Option Nat) (hx : ∀ b, x = some b → (single.read b).isNaN = false) (hy : ∀ b, y = some b → (single.read b).isNaN = false) : aord .f64 (widen x) (widen y) = aord .f32 x y := by
  cases x with
  | none => cases y <;> rfl
  | some a =>
    cases y with
    | none => rfl
    | some b => exact order_same (wide_same a (hx a rfl)) (wide_same b (hy b rfl))

theorem av_notNaN {k : FloatKind} {b r : Nat} (h : av k b = some r) : (k.format.read r).isNaN = false := by
  unfold av at h
  split at h
  · cases h
  · rename_i hn; cases h; simpa using hn

/-- The order of two wide numbers is that of the 32-bit ones. -/
theorem aord_widen' (a b : Nat) : aord .f64 (widen (av .f32 a)) (widen (av .f32 b)) = aord .f32 (av .f32 a) (av .f32 b) :=
  aord_widen _ _ (fun _ h => av_notNaN (k := .f32) h) (fun _ h => av_notNaN (k := .f32) h)

theorem run_widen {P : Program} (b : Nat) (w : World) :
    ∃ r n, (Conv.floatToFloat .f32 b .f64).run P w = .ok (.float .f64 r) (w.drewN n) ∧ Fv .f64 (widen (av .f32 b)) r := by
  rcases read_single b with ⟨s, m, i, e, hm⟩ | ⟨s, e⟩ | ⟨s, f, e⟩
  · have hn : av .f32 b = some b := av_some (k := .f32) (by show (single.read b).isNaN = false; rw [e]; rfl)
    refine ⟨double.write (single.read b), 0, ?_, ?_⟩
    · rw [World.drewN_zero]
      have hi := wide_not_inf b s m i e
      rw [e] at hi ⊢
      simp [Conv.floatToFloat, FloatKind.decode, FloatKind.encode, FloatKind.format, e, hi]
    · rw [hn]
      exact ⟨double.write_lt _, av_some (k := .f64) (read_write double _ (by rw [e]; rfl))⟩
  · have hn : av .f32 b = some b := av_some (k := .f32) (by show (single.read b).isNaN = false; rw [e]; rfl)
    refine ⟨double.write (single.read b), 0, ?_, ?_⟩
    · rw [World.drewN_zero]
      simp [Conv.floatToFloat, FloatKind.decode, FloatKind.encode, FloatKind.format, e]
    · rw [hn]
      exact ⟨double.write_lt _, av_some (k := .f64) (read_write double _ (by rw [e]; rfl))⟩
  · have hn : av .f32 b = none := by unfold av; rw [if_pos]; show (single.read b).isNaN = true; rw [e]; rfl
    rw [hn]
    refine ⟨(Question.nanConv .f64 b).cut (w.tape w.drawn (.nanConv .f64 b)), 1, ?_, nanConv_nan .f64 b _⟩
    simp [Conv.floatToFloat, FloatKind.decode, FloatKind.format, e, Go.choose, Sem.run, Question.forced, World.drew_is_drewN]

/-! ### Finite numbers, and what is taken from itself -/

/-- Neither a not-a-number nor an infinity. -/
def finA (k : FloatKind) : Option Nat → Bool
  | some b => !(k.format.read b).isInfinity
  | none => false

theorem sum_self (d : Datum) (h : d.isNaN = false) : d.sum d.opposite = if d.isInfinity then none else some (.number false 0 (match d with | .number _ _ i => i | _ => 0)) := by
  cases d with
  | nan _ _ => simp [Datum.isNaN] at h
  | infinity s => cases s <;> simp [Datum.sum, Datum.opposite, Datum.isInfinity]
  | number s m i =>
    have e : signed s m (i - min i i).toNat + signed (!s) m (i - min i i).toNat = 0 := by
      cases s <;> simp [signed] <;> omega
    simp only [Datum.sum, Datum.opposite, Datum.isInfinity, e]
    cases s <;> simp

theorem read_zero (k : FloatKind) : k.format.read 0 = .number false 0 k.format.leastPlace := by cases k <;> decide
theorem av_zero (k : FloatKind) : av k 0 = some 0 := by unfold av; rw [read_zero]; rfl

/-- 'x - x == 0': just the finite ones. -/
theorem sub_self_zero (k : FloatKind) (v : Option Nat) (hv : ∀ b, v = some b → (k.format.read b).isNaN = false) (r : Nat) (hr : Fv k (aop .sub k v v) r) :
    (k.format.order r 0 == some Ordering.eq) = finA k v := by
  rw [aord_order, hr.2, av_zero]
  cases v with
  | none => rfl
  | some b =>
    have h := hv b rfl
    have hs := sum_self _ h
    show (aord k (k.format.sub b b) (some 0) == some Ordering.eq) = !(k.format.read b).isInfinity
    unfold Format.sub
    rw [hs]
    cases hi : (k.format.read b).isInfinity
    · have hw : ∀ i, k.format.write (.number false 0 i) = 0 := by intro i; simp [Format.write, Format.nearest, Format.word]
      simp only [Bool.false_eq_true, if_false, Option.map_some, hw, aord]
      unfold Format.order
      rw [read_zero, order_number false false 0 0 _ _ k.format.leastPlace (by omega) (by omega)]
      simp [signed]
    · rfl

theorem read_abs (b : Nat) : ∃ s, (double.read b).neg = s ∧ double.read (b % 9223372036854775808) = (match double.read b with | .number _ m i => .number false m i | .infinity _ => .infinity false | .nan _ f => .nan false f) := by
  refine ⟨_, rfl, ?_⟩
  have hsw : double.signWeight = 9223372036854775808 := by decide
  have h1 : b % 9223372036854775808 % 9223372036854775808 = b % 9223372036854775808 := by omega
  have h2 : (b % 9223372036854775808) / 9223372036854775808 = 0 := by omega
  unfold Format.read
  simp only [hsw, h1, h2]
  split
  · rfl
  · split
    · rfl
    · split <;> rfl

set_option maxRecDepth 100000 in
theorem finite_double (b : Nat) (s : Bool) (m : Nat) (i : Int) (h : double.read b = .number s m i) : m ≤ 9007199254740991 ∧ i ≤ 971 ∧ -1074 ≤ i := by
  have hbin : double.binade = 4503599627370496 := by decide
  have hinf : double.infRung = 9218868437227405312 := by decide
  unfold Format.read at h
  simp only [hbin, hinf, double_least] at h
  split at h
  · cases h; omega
  · split at h
    · cases h
      refine ⟨by omega, by omega, by omega⟩
    · split at h <;> cases h

theorem read_max : double.read 9218868437227405311 = .number false 9007199254740991 971 := by decide

/-- 'Abs(x) > MaxFloat64': just the infinities. -/
theorem gt_max (b : Nat) (h : (double.read b).isNaN = false) : (double.order (b % 9223372036854775808) 9218868437227405311 == some Ordering.gt) = (double.read b).isInfinity := by
  obtain ⟨_, _, e⟩ := read_abs b
  unfold Format.order
  rw [e, read_max]
  cases hd : double.read b with
  | nan _ _ => rw [hd] at h; simp [Datum.isNaN] at h
  | infinity s => simp [Datum.order, Datum.isInfinity]
  | number s m i =>
    obtain ⟨h1, h2, h3⟩ := finite_double b s m i hd
    simp only [Datum.isInfinity]
    rw [order_number false false m 9007199254740991 i 971 i (by omega) (by omega)]
    have : signed false m (i - i).toNat ≤ signed false 9007199254740991 (971 - i).toNat := by
      simp only [signed, Bool.false_eq_true, if_false, Int.sub_self, Int.toNat_zero, Nat.shiftLeft_eq, Nat.pow_zero, Nat.mul_one]
      have hp : 0 < 2 ^ (971 - i).toNat := Nat.two_pow_pos _
      have : m * 1 ≤ 9007199254740991 * 2 ^ (971 - i).toNat := Nat.mul_le_mul h1 hp
      omega
    rw [compare_int]
    split
    · rfl
    · split
      · rfl
      · omega

theorem finA_widen (v : Option Nat) (hv : ∀ b, v = some b → (single.read b).isNaN = false) : finA .f64 (widen v) = finA .f32 v := by
  cases v with
  | none => rfl
  | some b =>
    have hs := wide_same b (hv b rfl)
    show (!(double.read (double.write (single.read b))).isInfinity) = !(single.read b).isInfinity
    cases hd : single.read b with
    | number s m i => rw [← hd, wide_not_inf b s m i hd, hd]; rfl
    | nan _ _ => have := hv b rfl; rw [hd] at this; simp [Datum.isNaN] at this
    | infinity s => rw [hd] at hs; cases hx : double.read (double.write (.infinity s)) <;> rw [hx] at hs <;> first | exact hs.elim | rfl

section
variable {P : Program} {ops : Array Oper} {Q : Exit → Act → World → Prop} {rest : List Oper} {a : Act} {w : World} {dst : Option Tmp} {ty : TypeId} {pos : String} {af : Array Edge}

/-- 'float64(x)' of a float32 in the walk. -/
theorem wpList_widen (src dt : TypeId) (x : Operand) (b : Nat) (hx : a.eval x = .float .f32 b) (hs : P.underlying src = some (.float .f32)) (hd : P.underlying dt = some (.float .f64))
    (hK : ∀ r n, Fv .f64 (widen (av .f32 b)) r → wpList P ops Q rest (a.put dst (.float .f64 r)) (w.drewN n)) :
    wpList P ops Q (⟨dst, .convert src dt x, ty, pos, af, none⟩ :: rest) a w := by
  refine wpList_plain rfl fun K hK' => ?_
  obtain ⟨r, n, hrun, hr⟩ := run_widen (P := P) b w
  unfold Oper.wp
  simp [execOp, hx, convert, run_underlying hs, run_underlying hd, hrun]
  exact hK' _ _ (hK r n hr)

/-- 'float64(x)' of a float64, 'float32(x)' of a float32. -/
theorem wpList_fid (src dt : TypeId) (x : Operand) (k : FloatKind) (b : Nat) (hx : a.eval x = .float k b) (hs : P.underlying src = some (.float k)) (hd : P.underlying dt = some (.float k))
    (hK : wpList P ops Q rest (a.put dst (.float k b)) w) :
    wpList P ops Q (⟨dst, .convert src dt x, ty, pos, af, none⟩ :: rest) a w := by
  refine wpList_plain rfl fun K hK' => ?_
  unfold Oper.wp
  simp [execOp, hx, convert, run_underlying hs, run_underlying hd, Conv.floatToFloat]
  exact hK' _ _ hK
end

/-! ### Bits of int64 -/
theorem ofInt_i64 (a : Nat) (ha : a < 18446744073709551616) : (BitVec.ofInt 64 (a : Int)).toNat = a := by
  rw [BitVec.ofInt_natCast, BitVec.toNat_ofNat]; exact Nat.mod_eq_of_lt (by omega)
theorem i64_and_nat (a b : Nat) (ha : a < 9223372036854775808) (hb : b < 9223372036854775808) : bits .and .i64 (a : Int) (b : Int) = ((a &&& b : Nat) : Int) := by
  have hx : a &&& b < 2 ^ 63 := Nat.and_lt_two_pow _ (by omega)
  show IntKind.i64.wrap ((BitVec.ofInt 64 (a : Int) &&& BitVec.ofInt 64 (b : Int)).toNat : Int) = _
  rw [BitVec.toNat_and, ofInt_i64 a (by omega), ofInt_i64 b (by omega), IntKind.wrap_i64]
  omega
theorem i64_or_nat (a b : Nat) (ha : a < 9223372036854775808) (hb : b < 9223372036854775808) : bits .or .i64 (a : Int) (b : Int) = ((a ||| b : Nat) : Int) := by
  have hx : a ||| b < 2 ^ 63 := Nat.or_lt_two_pow (by omega) (by omega)
  show IntKind.i64.wrap ((BitVec.ofInt 64 (a : Int) ||| BitVec.ofInt 64 (b : Int)).toNat : Int) = _
  rw [BitVec.toNat_or, ofInt_i64 a (by omega), ofInt_i64 b (by omega), IntKind.wrap_i64]
  omega
theorem i64_xor_nat (a b : Nat) (ha : a < 9223372036854775808) (hb : b < 9223372036854775808) : bits .xor .i64 (a : Int) (b : Int) = ((a ^^^ b : Nat) : Int) := by
  have hx : a ^^^ b < 2 ^ 63 := Nat.xor_lt_two_pow (by omega) (by omega)
  show IntKind.i64.wrap ((BitVec.ofInt 64 (a : Int) ^^^ BitVec.ofInt 64 (b : Int)).toNat : Int) = _
  rw [BitVec.toNat_xor, ofInt_i64 a (by omega), ofInt_i64 b (by omega), IntKind.wrap_i64]
  omega

end Go.Proofs.YtfgkimhcbboipaaDoor.Fl
