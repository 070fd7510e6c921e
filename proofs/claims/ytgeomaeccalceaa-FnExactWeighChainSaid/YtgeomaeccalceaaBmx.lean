/- The greatest magnitude of differences: what BalanceMiss tells. -/
import Derived.Test.YtgeomaeccalceaaKw
import Derived.Test.YtgeomaeccalceaaFit
namespace Go.Proofs.Ytgeomaeccalceaa
open Go Go.RowKit Fl Vag
set_option linter.unusedVariables false

theorem nearest_bothM (f : Ieee.Format) (m : Nat) (p : Int) : ∃ r, r ≤ f.infRung ∧ (∀ s, f.nearest s m p = f.word s r) ∧ (m = 0 → r = 0) := by
  unfold Ieee.Format.nearest
  by_cases h : m = 0
  · exact ⟨0, Nat.zero_le _, fun s => by rw [if_pos h], fun _ => rfl⟩
  · refine ⟨min (((max (p + (m.log2 : Int) - (f.fractionBits : Int)) f.leastPlace) - f.leastPlace).toNat * f.binade + Ieee.Toward.even.cut false (m <<< (p - (max (p + (m.log2 : Int) - (f.fractionBits : Int)) f.leastPlace)).toNat) ((max (p + (m.log2 : Int) - (f.fractionBits : Int)) f.leastPlace) - p).toNat) f.infRung, Nat.min_le_right _ _, fun s => ?_, fun h' => absurd h' h⟩
    rw [if_neg h]
    cases s <;> rfl
theorem signed_notM (s : Bool) (m u : Nat) : Ieee.signed (!s) m u = -Ieee.signed s m u := by
  unfold Ieee.signed
  cases s <;> simp
/-- Both differences: the same magnitude; opposite signs where it is not zero. -/
theorem sub_bothM {x y : Nat} (hx : finA .f32 (some x) = true) (hy : finA .f32 (some y) = true) (ax : av .f32 x = some x) (ay : av .f32 y = some y) :
    ∃ r s t, r ≤ Ieee.single.infRung ∧ aop .sub .f32 (some x) (some y) = some (Ieee.single.word s r) ∧ aop .sub .f32 (some y) (some x) = some (Ieee.single.word t r) ∧ (r ≠ 0 → t = !s) := by
  obtain ⟨a, m, i, ex⟩ := fin_read (x := x) (by rw [ax]; exact hx)
  obtain ⟨b, n, j, ey⟩ := fin_read (x := y) (by rw [ay]; exact hy)
  have e1 : aop .sub .f32 (some x) (some y) = ((Ieee.single.read x).sum (Ieee.single.read y).opposite).map Ieee.single.write := rfl
  have e2 : aop .sub .f32 (some y) (some x) = ((Ieee.single.read y).sum (Ieee.single.read x).opposite).map Ieee.single.write := rfl
  rw [e1, e2, ex, ey]
  have q1 : (Ieee.Datum.number a m i).sum (Ieee.Datum.number b n j).opposite = some (.number (if Ieee.signed a m (i - min i j).toNat + Ieee.signed (!b) n (j - min i j).toNat = 0 then a && !b else decide (Ieee.signed a m (i - min i j).toNat + Ieee.signed (!b) n (j - min i j).toNat < 0)) (Ieee.signed a m (i - min i j).toNat + Ieee.signed (!b) n (j - min i j).toNat).natAbs (min i j)) := rfl
  have q2 : (Ieee.Datum.number b n j).sum (Ieee.Datum.number a m i).opposite = some (.number (if Ieee.signed b n (j - min j i).toNat + Ieee.signed (!a) m (i - min j i).toNat = 0 then b && !a else decide (Ieee.signed b n (j - min j i).toNat + Ieee.signed (!a) m (i - min j i).toNat < 0)) (Ieee.signed b n (j - min j i).toNat + Ieee.signed (!a) m (i - min j i).toNat).natAbs (min j i)) := rfl
  rw [q1, q2, Int.min_comm j i]
  generalize hT : Ieee.signed a m (i - min i j).toNat + Ieee.signed (!b) n (j - min i j).toNat = T
  have hU : Ieee.signed b n (j - min i j).toNat + Ieee.signed (!a) m (i - min i j).toNat = -T := by
    rw [← hT, signed_notM, signed_notM]; omega
  rw [hU, Int.natAbs_neg]
  obtain ⟨r, hr, hw, h0⟩ := nearest_bothM Ieee.single T.natAbs (min i j)
  refine ⟨r, _, _, hr, congrArg some (hw _), congrArg some (hw _), fun hne => ?_⟩
  have hT0 : T ≠ 0 := fun h => hne (h0 (by rw [h]; rfl))
  rw [if_neg (show ¬ -T = 0 by omega), if_neg hT0]
  by_cases h : T < 0
  · rw [decide_eq_true h, decide_eq_false (show ¬ -T < 0 by omega)]; rfl
  · rw [decide_eq_false h, decide_eq_true (show -T < 0 by omega)]; rfl
theorem vk_ltM {r q : Nat} (h : r < q) : vk r < vk q := by
  have hp1 := Nat.two_pow_pos (placeOf Ieee.single r)
  have e1 := rung_of Ieee.single r
  have e2 := rung_of Ieee.single q
  have m1 := mag_lt Ieee.single r
  have hb : 0 < Ieee.single.binade := Nat.two_pow_pos _
  unfold vk
  rcases Nat.lt_trichotomy (placeOf Ieee.single r) (placeOf Ieee.single q) with h1 | h1 | h1
  · have hg := mag_ge Ieee.single q (by omega)
    have a1 : magOf Ieee.single r * 2 ^ placeOf Ieee.single r < 2 ^ (Ieee.single.fractionBits + 1) * 2 ^ placeOf Ieee.single r := Nat.mul_lt_mul_of_pos_right m1 hp1
    have a2 : 2 ^ Ieee.single.fractionBits * 2 ^ placeOf Ieee.single q ≤ magOf Ieee.single q * 2 ^ placeOf Ieee.single q := Nat.mul_le_mul_right _ hg
    rw [← Nat.pow_add] at a1 a2
    exact Nat.lt_of_lt_of_le a1 (Nat.le_trans (Nat.pow_le_pow_right (by omega) (by omega)) a2)
  · rw [← h1] at e2 ⊢
    exact Nat.mul_lt_mul_of_pos_right (by omega) hp1
  · exfalso
    have hm := vk_mono (Nat.le_of_lt h)
    have hg := mag_ge Ieee.single r (by omega)
    have m2 := mag_lt Ieee.single q
    have a1 : magOf Ieee.single q * 2 ^ placeOf Ieee.single q < 2 ^ (Ieee.single.fractionBits + 1) * 2 ^ placeOf Ieee.single q := Nat.mul_lt_mul_of_pos_right m2 (Nat.two_pow_pos _)
    have a2 : 2 ^ Ieee.single.fractionBits * 2 ^ placeOf Ieee.single r ≤ magOf Ieee.single r * 2 ^ placeOf Ieee.single r := Nat.mul_le_mul_right _ hg
    rw [← Nat.pow_add] at a1 a2
    have a3 : 2 ^ (Ieee.single.fractionBits + 1 + placeOf Ieee.single q) ≤ 2 ^ (Ieee.single.fractionBits + placeOf Ieee.single r) := Nat.pow_le_pow_right (by omega) (by omega)
    unfold vk at hm
    omega
/-- Magnitudes, an infinity among them, as integers. -/
def wK (r : Nat) : Int := if r < Ieee.single.infRung then ((vk r : Nat) : Int) else big
theorem vk_big {r : Nat} (h : r < Ieee.single.infRung) : ((vk r : Nat) : Int) < big := by
  have h1 : vk r ≤ vk 2139095039 := vk_mono (by have e : Ieee.single.infRung = 2139095040 := by decide
                                                omega)
  have h2 : ((vk 2139095039 : Nat) : Int) < big := by decide +kernel
  omega
theorem wK_lt {r q : Nat} (h : r < q) (hq : q ≤ Ieee.single.infRung) : wK r < wK q := by
  unfold wK
  rw [if_pos (show r < Ieee.single.infRung by omega)]
  split
  · have := vk_ltM h; omega
  · exact vk_big (by omega)
theorem wK_ge (r : Nat) : 0 ≤ wK r := by
  unfold wK
  split
  · omega
  · decide +kernel
theorem wK_zero : wK 0 = 0 := by decide +kernel
theorem wK_pos {r : Nat} (h : r ≠ 0) (hr : r ≤ Ieee.single.infRung) : 0 < wK r := by have := wK_lt (r := 0) (q := r) (by omega) hr; rw [wK_zero] at this; exact this
theorem fK_wordM (s : Bool) {r : Nat} (h : r ≤ Ieee.single.infRung) : fK (Ieee.single.word s r) = if s then -wK r else wK r := by
  unfold wK
  by_cases e : r < Ieee.single.infRung
  · rw [if_pos e, fK_word s r e]
  · obtain rfl : r = Ieee.single.infRung := by omega
    rw [if_neg e]
    cases s <;> decide +kernel
theorem av_wordM (s : Bool) {r : Nat} (h : r ≤ Ieee.single.infRung) : av .f32 (Ieee.single.word s r) = some (Ieee.single.word s r) := by
  by_cases e : r < Ieee.single.infRung
  · exact av_word32 s r e
  · obtain rfl : r = Ieee.single.infRung := by omega
    cases s <;> decide +kernel
/-- The greater one of two numbers. -/
def maxF (x y : Nat) : Nat := if fK y < fK x then x else if fK x < fK y then y else if (Ieee.single.read x).neg then y else x
theorem maxF_run {P : Program} {x y : Nat} (hx : av .f32 x = some x) (hy : av .f32 y = some y) (ts : Array TypeId) (t : TypeId) (w : World) : (Builtin.max_ ts t #[.float .f32 x, .float .f32 y]).run P w = .ok (.float .f32 (maxF x y)) w := by
  have ho := order_K hx hy
  unfold maxF
  rcases Int.lt_trichotomy (fK x) (fK y) with e | e | e
  · rw [if_neg (by omega), if_pos e]
    have ho' : FloatKind.f32.format.order x y = some .lt := by rw [ho, compare_int, if_pos e]
    simp [Builtin.max_, Builtin.max2, ho']
  · rw [if_neg (by omega), if_neg (by omega)]
    have ho' : FloatKind.f32.format.order x y = some .eq := by rw [ho, compare_int, if_neg (by omega), if_pos e]
    have hd : (FloatKind.f32.decode x).neg = (Ieee.single.read x).neg := rfl
    cases hn : (Ieee.single.read x).neg with
    | true => rw [hn] at hd; simp [Builtin.max_, Builtin.max2, ho', hd]
    | false => rw [hn] at hd; simp [Builtin.max_, Builtin.max2, ho', hd]
  · rw [if_pos e]
    have ho' : FloatKind.f32.format.order x y = some .gt := by rw [ho, compare_int, if_neg (by omega), if_neg (by omega)]
    simp [Builtin.max_, Builtin.max2, ho']
theorem neg_word {r : Nat} (h : r ≤ Ieee.single.infRung) : (Ieee.single.read (Ieee.single.word false r)).neg = false := by
  by_cases e : r < Ieee.single.infRung
  · rw [read_word32 false r e]; rfl
  · obtain rfl : r = Ieee.single.infRung := by omega
    decide +kernel
theorem maxF_word {M r : Nat} (s : Bool) (hM : M ≤ Ieee.single.infRung) (hr : r ≤ Ieee.single.infRung) : maxF (Ieee.single.word false M) (Ieee.single.word s r) = Ieee.single.word false (if s then M else max M r) := by
  unfold maxF
  rw [fK_wordM false hM, fK_wordM s hr, neg_word hM]
  simp only [Bool.false_eq_true, if_false]
  have g1 := wK_ge M
  have g2 := wK_ge r
  cases s with
  | true =>
    simp only [if_true]
    by_cases e : -wK r < wK M
    · rw [if_pos e]
    · rw [if_neg e, if_neg (by omega)]
  | false =>
    simp only [Bool.false_eq_true, if_false]
    rcases Nat.lt_trichotomy M r with h | h | h
    · have := wK_lt h hr
      rw [if_neg (by omega), if_pos this, Nat.max_eq_right (Nat.le_of_lt h)]
    · subst h
      rw [if_neg (by omega), if_neg (by omega), Nat.max_self]
    · have := wK_lt h hM
      rw [if_pos this, Nat.max_eq_left (Nat.le_of_lt h)]
theorem gt_word {M r : Nat} (hM : M ≤ Ieee.single.infRung) (hr : r ≤ Ieee.single.infRung) : gtB (Ieee.single.word false r) (Ieee.single.word false M) = decide (M < r) := by
  rw [gtB_K (av_wordM false hr) (av_wordM false hM), fK_wordM false hr, fK_wordM false hM]
  simp only [Bool.false_eq_true, if_false]
  rcases Nat.lt_trichotomy M r with h | h | h
  · have := wK_lt h hr
    rw [decide_eq_true this, decide_eq_true h]
  · subst h; simp
  · have := wK_lt h hM
    rw [decide_eq_false (by omega), decide_eq_false (by omega)]
theorem read_raw (x : Nat) : (∃ s m i, Ieee.single.read x = .number s m i ∧ x % FloatKind.f32.format.signWeight ≤ 2139095039) ∨ (Ieee.single.read x).isInfinity = true ∨ (Ieee.single.read x).isNaN = true := by
  have hsw : FloatKind.f32.format.signWeight = 2147483648 := by decide
  have hsw2 : Ieee.single.signWeight = 2147483648 := by decide
  have hbin : Ieee.single.binade = 8388608 := by decide
  have hinf : Ieee.single.infRung = 2139095040 := by decide
  rw [hsw]
  unfold Ieee.Format.read
  simp only [hsw2, hbin, hinf]
  split
  · exact .inl ⟨_, _, _, rfl, by omega⟩
  · split
    · exact .inl ⟨_, _, _, rfl, by omega⟩
    · split
      · exact .inr (.inl rfl)
      · exact .inr (.inr rfl)
theorem fin_inM {x : Nat} (h : finA .f32 (av .f32 x) = true) : In .f32 2139095039 (av .f32 x) ∧ av .f32 x = some x := by
  have hs : av .f32 x = some x := by
    cases e : av .f32 x with
    | none => rw [e] at h; cases h
    | some b => rw [av_eq e]
  refine ⟨⟨x, hs, ?_⟩, hs⟩
  rw [hs] at h
  have h1 : (!(Ieee.single.read x).isInfinity) = true := h
  have h2 : (Ieee.single.read x).isNaN = false := av_notNaN (k := .f32) hs
  rcases read_raw x with ⟨_, _, _, _, h3⟩ | h3 | h3
  · exact h3
  · rw [h3] at h1; cases h1
  · rw [h3] at h2; cases h2
theorem in_finM {v : Option Nat} (h : In .f32 2139095039 v) : ∃ p, v = some p ∧ finA .f32 (some p) = true ∧ av .f32 p = some p := by
  obtain ⟨p, s, m, i, e, hr, _⟩ := In.read h (show (2139095039 : Nat) < FloatKind.f32.format.infRung by decide)
  have hr' : Ieee.single.read p = .number s m i := hr
  refine ⟨p, e, ?_, av_some (k := .f32) ?_⟩
  · show (!(Ieee.single.read p).isInfinity) = true
    rw [hr']; rfl
  · show (Ieee.single.read p).isNaN = false
    rw [hr']; rfl
theorem read_modM (x : Nat) : Ieee.single.read x = Ieee.single.read (x % 4294967296) := by
  have hsw : Ieee.single.signWeight = 2147483648 := by decide
  unfold Ieee.Format.read
  simp only [hsw]
  rw [show x % 4294967296 % 2147483648 = x % 2147483648 by omega, show x % 4294967296 / 2147483648 % 2 = x / 2147483648 % 2 by omega]
theorem part_inM {x : Nat} (h : partB x = true) : In .f32 1065353216 (av .f32 x) := by
  have h' : partB (x % 4294967296) = true := by
    have e : ∀ y, FloatKind.f32.format.order (x % 4294967296) y = FloatKind.f32.format.order x y := fun y => by
      show (Ieee.single.read (x % 4294967296)).order _ = (Ieee.single.read x).order _
      rw [← read_modM]
    unfold partB geB leB at h ⊢
    rw [e, e]; exact h
  obtain ⟨s, r, e, hr, _⟩ := part_word (Nat.mod_lt _ (by omega)) h'
  have hs : av .f32 x = some x := by
    have h2 : geB x 0 = true := by unfold partB at h; simp only [Bool.and_eq_true] at h; exact h.1
    unfold geB at h2
    cases ho : FloatKind.f32.format.order x 0 with
    | none => rw [ho] at h2; cases h2
    | some o => exact order_some ho
  refine ⟨x, hs, ?_⟩
  have hsw : FloatKind.f32.format.signWeight = 2147483648 := by decide
  have hsw2 : Ieee.single.signWeight = 2147483648 := by decide
  unfold Ieee.Format.word at e
  rw [hsw2] at e
  rw [hsw]
  have hm : x % 2147483648 = x % 4294967296 % 2147483648 := by omega
  rw [hm, e]
  cases s
  · simp; omega
  · simp; omega
theorem prod_fin {x s : Nat} (hx : leastB x = true) (hs : partB s = true) : ∃ p, aop .mul .f32 (av .f32 x) (av .f32 s) = some p ∧ finA .f32 (some p) = true ∧ av .f32 p = some p := by
  refine in_finM (In.mul (fin_inM ?_).1 (part_inM hs) (by decide) (by decide) (by decide) (by decide +kernel))
  unfold leastB at hx
  simp only [Bool.and_eq_true] at hx
  exact hx.1
/-- What flows from one state to another one. -/
def pairV (n : Nat) (ss xs : List Nat) (i k : Nat) : Option Nat := aop .mul .f32 (av .f32 (xs[i]?.getD 0)) (av .f32 (ss[i * n + k]?.getD 0))
def difV (n : Nat) (ss xs : List Nat) (i k : Nat) : Option Nat := aop .sub .f32 (pairV n ss xs i k) (pairV n ss xs k i)
def magD (n : Nat) (ss xs : List Nat) (i k : Nat) : Nat := (difV n ss xs i k).getD 0 % 2147483648
def negD (n : Nat) (ss xs : List Nat) (i k : Nat) : Bool := (difV n ss xs i k).getD 0 / 2147483648 % 2 == 1
def magP (n : Nat) (ss xs : List Nat) (i k : Nat) : Nat := if negD n ss xs i k then 0 else magD n ss xs i k
/-- A chain's numbers and a row's. -/
structure balOk (n : Nat) (ss xs : List Nat) : Prop where
  row : leasts xs
  rows : ∀ i, i < n → okRow (rowA n i ss)
  len : xs.length = n
  ssl : ss.length = n * n
theorem balOk.x {n : Nat} {ss xs : List Nat} (h : balOk n ss xs) {i : Nat} (hi : i < n) : leastB (xs[i]?.getD 0) = true := h.row i (by rw [h.len]; exact hi)
theorem balOk.s {n : Nat} {ss xs : List Nat} (h : balOk n ss xs) {i k : Nat} (hi : i < n) (hk : k < n) : partB (ss[i * n + k]?.getD 0) = true := by
  have h1 := (h.rows i hi).1 k (by rw [rowA_len (by rw [h.ssl]; exact row_in hi)]; exact hk)
  rwa [rowA_get hk] at h1
theorem part_avM {x : Nat} (h : partB x = true) : av .f32 x = some x := by
  obtain ⟨b, e, _⟩ := part_inM h
  rw [e, av_eq e]
theorem least_avM {x : Nat} (h : leastB x = true) : av .f32 x = some x := by
  unfold leastB at h
  simp only [Bool.and_eq_true] at h
  exact (fin_inM h.1).2
theorem word_parts (s : Bool) {r : Nat} (h : r ≤ Ieee.single.infRung) : Ieee.single.word s r % 2147483648 = r ∧ (Ieee.single.word s r / 2147483648 % 2 == 1) = s := by
  have hsw : Ieee.single.signWeight = 2147483648 := by decide
  have hi : Ieee.single.infRung = 2139095040 := by decide
  have h1 := read_word_sign Ieee.single s (rung := r) (by omega)
  rw [hsw] at h1
  exact h1
theorem balOk.pair {n : Nat} {ss xs : List Nat} (h : balOk n ss xs) {i k : Nat} (hi : i < n) (hk : k < n) :
    ∃ p q, aop .mul .f32 (some (xs[i]?.getD 0)) (some (ss[i * n + k]?.getD 0)) = some p ∧ aop .mul .f32 (some (xs[k]?.getD 0)) (some (ss[k * n + i]?.getD 0)) = some q ∧
      aop .sub .f32 (some p) (some q) = some (Ieee.single.word (negD n ss xs i k) (magD n ss xs i k)) ∧ magD n ss xs i k ≤ Ieee.single.infRung ∧ magD n ss xs i k = magD n ss xs k i ∧ (magD n ss xs i k ≠ 0 → negD n ss xs k i = !negD n ss xs i k) := by
  obtain ⟨p, e1, f1, a1⟩ := prod_fin (h.x hi) (h.s hi hk)
  obtain ⟨q, e2, f2, a2⟩ := prod_fin (h.x hk) (h.s hk hi)
  obtain ⟨r, s, t, hr, d1, d2, d3⟩ := sub_bothM f1 f2 a1 a2
  have g1 : difV n ss xs i k = some (Ieee.single.word s r) := by unfold difV pairV; rw [e1, e2]; exact d1
  have g2 : difV n ss xs k i = some (Ieee.single.word t r) := by unfold difV pairV; rw [e1, e2]; exact d2
  have m1 : magD n ss xs i k = r := by unfold magD; rw [g1]; exact (word_parts s hr).1
  have m2 : magD n ss xs k i = r := by unfold magD; rw [g2]; exact (word_parts t hr).1
  have n1 : negD n ss xs i k = s := by unfold negD; rw [g1]; exact (word_parts s hr).2
  have n2 : negD n ss xs k i = t := by unfold negD; rw [g2]; exact (word_parts t hr).2
  rw [least_avM (h.x hi), part_avM (h.s hi hk)] at e1
  rw [least_avM (h.x hk), part_avM (h.s hk hi)] at e2
  refine ⟨p, q, e1, e2, ?_, ?_, ?_, ?_⟩
  · rw [m1, n1]; exact d1
  · rw [m1]; exact hr
  · rw [m1, m2]
  · rw [m1, n1, n2]; exact d3
/-- The greatest one of the first numbers of a row; of the first rows; of the first rows and the first numbers of the next one. -/
def upR (r : Nat → Nat → Nat) (i : Nat) : Nat → Nat
  | 0 => 0
  | k + 1 => max (upR r i k) (r i k)
def upA (n : Nat) (r : Nat → Nat → Nat) : Nat → Nat
  | 0 => 0
  | i + 1 => max (upA n r i) (upR r i n)
def upB (n : Nat) (r : Nat → Nat → Nat) (i k : Nat) : Nat := max (upA n r i) (upR r i k)
theorem upB_zero (n : Nat) (r : Nat → Nat → Nat) (i : Nat) : upB n r i 0 = upA n r i := Nat.max_eq_left (Nat.zero_le _)
theorem upB_step (n : Nat) (r : Nat → Nat → Nat) (i k : Nat) : upB n r i (k + 1) = max (upB n r i k) (r i k) := by unfold upB; show max _ (max _ _) = _; omega
theorem upR_le {r : Nat → Nat → Nat} {i B : Nat} : ∀ {k : Nat}, upR r i k ≤ B ↔ ∀ j, j < k → r i j ≤ B
  | 0 => ⟨fun _ j hj => absurd hj (Nat.not_lt_zero _), fun _ => Nat.zero_le _⟩
  | k + 1 => by
    have ih := upR_le (r := r) (i := i) (B := B) (k := k)
    show max (upR r i k) (r i k) ≤ B ↔ _
    rw [Nat.max_le, ih]
    exact ⟨fun h j hj => by
      by_cases e : j = k
      · rw [e]; exact h.2
      · exact h.1 j (by omega), fun h => ⟨fun j hj => h j (by omega), h k (by omega)⟩⟩
theorem upA_le {n : Nat} {r : Nat → Nat → Nat} {B : Nat} : ∀ {i : Nat}, upA n r i ≤ B ↔ ∀ a, a < i → ∀ j, j < n → r a j ≤ B
  | 0 => ⟨fun _ j hj => absurd hj (Nat.not_lt_zero _), fun _ => Nat.zero_le _⟩
  | i + 1 => by
    have ih := upA_le (n := n) (r := r) (B := B) (i := i)
    show max (upA n r i) (upR r i n) ≤ B ↔ _
    rw [Nat.max_le, ih, upR_le]
    exact ⟨fun h j hj => by
      by_cases e : j = i
      · rw [e]; exact h.2
      · exact h.1 j (by omega), fun h => ⟨fun j hj => h j (by omega), h i (by omega)⟩⟩
theorem upB_le {n : Nat} {r : Nat → Nat → Nat} {B : Nat} (h : ∀ a, a < n → ∀ j, j < n → r a j ≤ B) {i k : Nat} (hi : i < n) (hk : k ≤ n) : upB n r i k ≤ B := by
  unfold upB
  rw [Nat.max_le, upA_le, upR_le]
  exact ⟨fun a ha j hj => h a (by omega) j hj, fun j hj => h i hi j (by omega)⟩
theorem balOk.magP_le {n : Nat} {ss xs : List Nat} (h : balOk n ss xs) : ∀ a, a < n → ∀ j, j < n → magP n ss xs a j ≤ Ieee.single.infRung := fun a ha j hj => by
  obtain ⟨_, _, _, _, _, h1, _⟩ := h.pair ha hj
  unfold magP
  split
  · omega
  · exact h1
theorem balOk.magD_le {n : Nat} {ss xs : List Nat} (h : balOk n ss xs) : ∀ a, a < n → ∀ j, j < n → magD n ss xs a j ≤ Ieee.single.infRung := fun a ha j hj => by
  obtain ⟨_, _, _, _, _, h1, _⟩ := h.pair ha hj
  exact h1
/-- Each two states come in both orders. -/
theorem balOk.same {n : Nat} {ss xs : List Nat} (h : balOk n ss xs) : upA n (magP n ss xs) n = upA n (magD n ss xs) n := by
  have key : ∀ a, a < n → ∀ j, j < n → magP n ss xs a j ≤ upA n (magP n ss xs) n := upA_le.1 (Nat.le_refl _)
  have key2 : ∀ a, a < n → ∀ j, j < n → magD n ss xs a j ≤ upA n (magD n ss xs) n := upA_le.1 (Nat.le_refl _)
  apply Nat.le_antisymm
  · refine upA_le.2 fun a ha j hj => ?_
    have := key2 a ha j hj
    unfold magP
    split
    · omega
    · exact this
  · refine upA_le.2 fun a ha j hj => ?_
    obtain ⟨_, _, _, _, _, _, h1, h2⟩ := h.pair ha hj
    have k1 := key a ha j hj
    have k2 := key j hj a ha
    generalize upA n (magP n ss xs) n = U at k1 k2 ⊢
    unfold magP at k1 k2
    by_cases e : magD n ss xs a j = 0
    · omega
    · have h3 := h2 e
      cases hn : negD n ss xs a j with
      | false => rw [hn] at k1; simpa using k1
      | true => rw [hn] at h3; rw [h3] at k2; rw [h1]; simpa using k2
/-- What the balance misses. -/
def balW (n : Nat) (ss xs : List Nat) : Nat := Ieee.single.word false (upA n (magD n ss xs) n)
theorem fits.bal {n : Nat} {ss xs : List Nat} (h : fits (n : Int) ss xs) : balOk n ss xs ∧ 1 ≤ n ∧ n ≤ 12 := by
  obtain ⟨n', e, h1, h2, h3, h4, h5, h6⟩ := h.nat
  have : n' = n := by omega
  subst this
  exact ⟨⟨h6.2, h4, h5, h3⟩, h1, h2⟩
end Go.Proofs.Ytgeomaeccalceaa
