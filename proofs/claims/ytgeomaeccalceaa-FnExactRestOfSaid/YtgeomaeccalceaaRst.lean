/- What RestOf asks: magnitudes, rounding, rows that stay finite, slices.Repeat, and RestOf of both sides. -/
import Derived.Test.YtgeomaeccalceaaBmx
import Derived.Deep.RegionHeld3
import Derived.Laws.CopyOwn
import Derived.Deep.RegionLaw
/- BalanceMiss of the model. -/
namespace Go.Proofs.Ytgeomaeccalceaa
open Go Go.RowKit Fl Vag
set_option linter.unusedVariables false
/-- A magnitude is written as it was read. -/
theorem write_back (s : Bool) {r : Nat} (h : r < Ieee.single.infRung) : Ieee.single.nearest s (magOf Ieee.single r * 2 ^ placeOf Ieee.single r) (-149) = Ieee.single.word s r := by
  have hlp : (-149 : Int) = -(K0 : Int) + (lp Ieee.single : Int) := single_least.symm.trans (show Ieee.single.leastPlace = -(K0 : Int) + (lp Ieee.single : Int) from lp_least .f32)
  have hf : Ieee.single.fractionBits ≤ lp Ieee.single := by decide
  have he : magOf Ieee.single r * 2 ^ placeOf Ieee.single r * 2 ^ lp Ieee.single = magOf Ieee.single r * 2 ^ (placeOf Ieee.single r + lp Ieee.single) := by rw [Nat.pow_add, Nat.mul_assoc]
  obtain ⟨a, h1, h2⟩ := nearest_le Ieee.single s (magOf Ieee.single r * 2 ^ placeOf Ieee.single r) (-(K0 : Int)) (lp Ieee.single) (lp Ieee.single) r (lp_least .f32) hf (Nat.le_of_eq he)
  obtain ⟨b, h3, h4, h5⟩ := nearest_ge Ieee.single s (magOf Ieee.single r * 2 ^ placeOf Ieee.single r) (-(K0 : Int)) (lp Ieee.single) (lp Ieee.single) r (lp_least .f32) hf (Nat.le_of_lt h) (Nat.le_of_eq he.symm)
  rw [hlp, h2]
  have h6 : Ieee.single.word s a = Ieee.single.word s b := by rw [← h2, ← h5]
  have h7 := (word_parts s (r := a) (by omega)).1
  rw [h6, (word_parts s h4).1] at h7
  have : a = r := by omega
  rw [this]
theorem zero_less {s : Bool} {r : Nat} (h : r ≤ Ieee.single.infRung) (h0 : s = true ∨ r = 0) : aop .sub .f32 (some 0) (some (Ieee.single.word s r)) = some (Ieee.single.word false r) := by
  by_cases e : r < Ieee.single.infRung
  · cases s with
    | false =>
      obtain rfl : r = 0 := by rcases h0 with h0 | h0; cases h0; exact h0
      decide +kernel
    | true =>
      have e1 : aop .sub .f32 (some 0) (some (Ieee.single.word true r)) = ((Ieee.single.read 0).sum (Ieee.single.read (Ieee.single.word true r)).opposite).map Ieee.single.write := rfl
      have er : Ieee.single.read 0 = .number false 0 (-149) := by decide +kernel
      rw [e1, read_word32 true r e, er]
      have q1 : (Ieee.Datum.number false 0 (-149)).sum (Ieee.Datum.number true (magOf Ieee.single r) (-149 + (placeOf Ieee.single r : Int))).opposite = some (.number (if Ieee.signed false 0 ((-149 : Int) - min (-149) (-149 + (placeOf Ieee.single r : Int))).toNat + Ieee.signed false (magOf Ieee.single r) (-149 + (placeOf Ieee.single r : Int) - min (-149) (-149 + (placeOf Ieee.single r : Int))).toNat = 0 then false && false else decide (Ieee.signed false 0 ((-149 : Int) - min (-149) (-149 + (placeOf Ieee.single r : Int))).toNat + Ieee.signed false (magOf Ieee.single r) (-149 + (placeOf Ieee.single r : Int) - min (-149) (-149 + (placeOf Ieee.single r : Int))).toNat < 0)) (Ieee.signed false 0 ((-149 : Int) - min (-149) (-149 + (placeOf Ieee.single r : Int))).toNat + Ieee.signed false (magOf Ieee.single r) (-149 + (placeOf Ieee.single r : Int) - min (-149) (-149 + (placeOf Ieee.single r : Int))).toNat).natAbs (min (-149) (-149 + (placeOf Ieee.single r : Int)))) := rfl
      rw [q1, Int.min_eq_left (show (-149 : Int) ≤ -149 + (placeOf Ieee.single r : Int) by omega), show (-149 + (placeOf Ieee.single r : Int) - -149).toNat = placeOf Ieee.single r by omega]
      have t1 : Ieee.signed false 0 ((-149 : Int) - -149).toNat = 0 := by decide
      have t2 : Ieee.signed false (magOf Ieee.single r) (placeOf Ieee.single r) = ((magOf Ieee.single r * 2 ^ placeOf Ieee.single r : Nat) : Int) := by unfold Ieee.signed; rw [Nat.shiftLeft_eq]; rfl
      rw [t1, t2, Int.zero_add, Int.natAbs_natCast]
      have t3 : (if ((magOf Ieee.single r * 2 ^ placeOf Ieee.single r : Nat) : Int) = 0 then false && false else decide (((magOf Ieee.single r * 2 ^ placeOf Ieee.single r : Nat) : Int) < 0)) = false := by
        split
        · rfl
        · exact decide_eq_false (by omega)
      rw [t3]
      exact congrArg some (write_back false e)
  · obtain rfl : r = Ieee.single.infRung := by omega
    cases s with
    | false => rcases h0 with h0 | h0; cases h0; exact absurd h0 (by decide)
    | true => decide +kernel
theorem le_zero {s : Bool} {r : Nat} (h : r ≤ Ieee.single.infRung) : (FloatKind.f32.format.order (Ieee.single.word s r) 0 == some Ordering.lt || FloatKind.f32.format.order (Ieee.single.word s r) 0 == some Ordering.eq) = decide (s = true ∨ r = 0) := by
  have ho := order_K (av_wordM s h) av_one.2
  rw [fK_wordM s h, fK_zero] at ho
  rw [ho, compare_int]
  have g := wK_ge r
  by_cases e : r = 0
  · subst e
    rw [wK_zero]
    cases s <;> decide
  · have g2 := wK_pos e h
    cases s with
    | true => simp only [if_true]; rw [if_pos (by omega)]; simp
    | false => simp only [Bool.false_eq_true, if_false]; rw [if_neg (by omega), if_neg (by omega)]; simp [e]
theorem gt_kind {M r : Nat} (hM : M ≤ Ieee.single.infRung) (hr : r ≤ Ieee.single.infRung) : (FloatKind.f32.format.order (Ieee.single.word false r) (Ieee.single.word false M) == some Ordering.gt) = decide (M < r) := gt_word hM hr
theorem l07Size_any (s : Bool) (r : Nat) (h : r ≤ Ieee.single.infRung) (w : World) :
    Calls Try.prog 84 #[.float .f32 (Ieee.single.word s r)] w (fun e w' => e = .returned (.float .f32 (Ieee.single.word false r)) ∧ w' = w) := by
  have hle := le_zero (s := s) h
  by_cases h0 : s = true ∨ r = 0
  · rw [decide_eq_true h0] at hle
    have e1 := zero_less h h0
    generalize Ieee.single.word s r = D at *
    generalize Ieee.single.word false r = N at *
    have hm : ∀ (t : TypeId) (w : World), (binOp .sub t (.float .f32 0) (.float .f32 D)).run Try.prog w = .ok (.float .f32 N) w := fun t w => run_float_arith w _ _ _ _ _ _ e1
    clear e1 h0 h
    go_enter Try.func84, Try.ntmps84
    go_wp2_with fail
    go_ret
    exact ⟨rfl, rfl⟩
  · rw [decide_eq_false h0] at hle
    obtain rfl : s = false := by
      cases s with
      | false => rfl
      | true => exact absurd (.inl rfl) h0
    generalize Ieee.single.word false r = D at *
    clear h0 h
    go_enter Try.func84, Try.ntmps84
    go_wp2_with fail
    go_ret
    exact ⟨rfl, rfl⟩
end Go.Proofs.Ytgeomaeccalceaa
/- How far two rows are apart: what RestOf asks. -/
namespace Go.Proofs.Ytgeomaeccalceaa
open Go Go.RowKit Fl Vag
set_option linter.unusedVariables false

theorem max2_run {P : Program} {x y : Nat} (hx : av .f32 x = some x) (hy : av .f32 y = some y) (w : World) : (Builtin.max2 (.float .f32 x) (.float .f32 y)).run P w = .ok (.float .f32 (maxF x y)) w := by
  have h := maxF_run (P := P) hx hy #[] 0 w
  simpa [Builtin.max_] using h
theorem max3_run {P : Program} {x y z : Nat} (hx : av .f32 x = some x) (hy : av .f32 y = some y) (hz : av .f32 z = some z) (hm : av .f32 (maxF x y) = some (maxF x y)) (ts : Array TypeId) (t : TypeId) (w : World) :
    (Builtin.max_ ts t #[.float .f32 x, .float .f32 y, .float .f32 z]).run P w = .ok (.float .f32 (maxF (maxF x y) z)) w := by
  have h1 := max2_run (P := P) hx hy w
  have h2 := max2_run (P := P) hm hz w
  unfold Builtin.max_
  simp [List.foldlM, h1, h2]
/-- How far two numbers are apart. -/
def gapV (us bs : List Nat) (i : Nat) : Option Nat := aop .sub .f32 (av .f32 (us[i]?.getD 0)) (av .f32 (bs[i]?.getD 0))
def gapR (us bs : List Nat) (i : Nat) : Nat := (gapV us bs i).getD 0 % 2147483648
theorem gap_is {us bs : List Nat} {i : Nat} (ha : finA .f32 (av .f32 (us[i]?.getD 0)) = true) (hb : finA .f32 (av .f32 (bs[i]?.getD 0)) = true) :
    ∃ s t, aop .sub .f32 (some (us[i]?.getD 0)) (some (bs[i]?.getD 0)) = some (Ieee.single.word s (gapR us bs i)) ∧ aop .sub .f32 (some (bs[i]?.getD 0)) (some (us[i]?.getD 0)) = some (Ieee.single.word t (gapR us bs i)) ∧
      gapR us bs i ≤ Ieee.single.infRung ∧ gapR bs us i = gapR us bs i ∧ (gapR us bs i ≠ 0 → t = !s) := by
  have a1 := (fin_inM ha).2
  have a2 := (fin_inM hb).2
  obtain ⟨r, s, t, hr, d1, d2, d3⟩ := sub_bothM (by rw [← a1]; exact ha) (by rw [← a2]; exact hb) a1 a2
  have g1 : gapR us bs i = r := by unfold gapR gapV; rw [a1, a2, d1]; exact (word_parts s hr).1
  have g2 : gapR bs us i = r := by unfold gapR gapV; rw [a1, a2, d2]; exact (word_parts t hr).1
  rw [g1, g2]
  exact ⟨s, t, d1, d2, hr, rfl, d3⟩
/-- The greatest one of the first gaps. -/
def farR (us bs : List Nat) : Nat → Nat
  | 0 => 0
  | i + 1 => max (farR us bs i) (gapR us bs i)
def finL (n : Nat) (xs : List Nat) : Prop := ∀ i, i < n → finA .f32 (av .f32 (xs[i]?.getD 0)) = true
theorem farR_le {n : Nat} {us bs : List Nat} (ha : finL n us) (hb : finL n bs) : ∀ {k : Nat}, k ≤ n → farR us bs k ≤ Ieee.single.infRung
  | 0, _ => Nat.zero_le _
  | k + 1, h => by
    obtain ⟨_, _, _, _, hr, _⟩ := gap_is (ha k (by omega)) (hb k (by omega))
    have ih := farR_le ha hb (k := k) (by omega)
    show max _ _ ≤ _
    omega
theorem farR_sym {n : Nat} {us bs : List Nat} (ha : finL n us) (hb : finL n bs) : ∀ {k : Nat}, k ≤ n → farR bs us k = farR us bs k
  | 0, _ => rfl
  | k + 1, h => by
    obtain ⟨_, _, _, _, _, hr, _⟩ := gap_is (ha k (by omega)) (hb k (by omega))
    have ih := farR_sym ha hb (k := k) (by omega)
    show max _ _ = max _ _
    rw [ih, hr]
theorem max3_word {M r : Nat} {s t : Bool} (hM : M ≤ Ieee.single.infRung) (hr : r ≤ Ieee.single.infRung) (ht : r ≠ 0 → t = !s) :
    av .f32 (maxF (Ieee.single.word false M) (Ieee.single.word s r)) = some (maxF (Ieee.single.word false M) (Ieee.single.word s r)) ∧ maxF (maxF (Ieee.single.word false M) (Ieee.single.word s r)) (Ieee.single.word t r) = Ieee.single.word false (max M r) := by
  rw [maxF_word s hM hr]
  have h1 : (if s then M else max M r) ≤ Ieee.single.infRung := by split <;> omega
  refine ⟨av_wordM false h1, ?_⟩
  rw [maxF_word t h1 hr]
  congr 1
  by_cases e : r = 0
  · subst e
    cases s <;> cases t <;> simp
  · rw [ht e]
    cases s <;> simp
set_option maxRecDepth 100000 in
set_option maxHeartbeats 4000000 in
theorem farthest_any (us bs : List Nat) (n : Nat) (ao bo : Option Addr) (c d : Nat) (w : World) (ha : Holds w ao (fl .f32 us)) (hb : Holds w bo (fl .f32 bs)) (hla : us.length = n) (hlb : bs.length = n) (fa : finL n us) (fb : finL n bs) (hn : n ≤ 1048576) :
    Calls Try.prog 92 #[.slice ao n c, .slice bo n d] w (fun e w' => e = .returned (.float .f32 (Ieee.single.word false (farR us bs n))) ∧ ∃ q, w' = w.drewN q) := by
  have HX := Lib.hid (And.intro ha hb)
  have HL := Lib.hid (And.intro hla hlb)
  have HF := Lib.hid (And.intro fa fb)
  have hn2 : (n : Int) ≤ 1048576 := by omega
  clear ha hb hla hlb fa fb
  go_enter Try.func92, Try.ntmps92
  go_wp2_with fail
  go_loopw [5, 10] (fun v i wr => ∃ (j : Nat), j ≤ n ∧ i = .int .i64 j ∧ v = .float .f32 (Ieee.single.word false (farR us bs j)) ∧ ∃ q, wr = w.drewN q) (fun _ i _ => n - (intOf i).toNat)
  case atStart => exact ⟨0, Nat.zero_le _, rfl, rfl, 0, rfl⟩
  case round =>
    obtain ⟨j, hj, rfl, rfl, hq⟩ := hrel
    have HQ := Lib.hid hq
    have hbel : Below w.heap.size w wr := by obtain ⟨q, rfl⟩ := hq; exact (by repeat (first | with_reducible exact Below.refl _ _ | with_reducible exact HBL | with_reducible refine Below.drew ?_ | with_reducible refine Bel_drewN ?_ _ | with_reducible refine Below.alloc ?_ (by first | omega | (simp; done) | (simp; omega)) _ | with_reducible refine Below.setCell ?_ (by first | omega | (simp; done) | (simp; omega)) _))
    clear hq
    have hjn : (j : Int) ≤ n := by omega
    by_cases hlt : j < n
    · have hlt' : (j : Int) < n := by omega
      obtain ⟨b1, o1, rfl, hcx⟩ := (HX.out.1.below hbel) j (by rw [fl_len32, HL.out.1]; exact hlt)
      rw [fl_get _ _ _ (by rw [HL.out.1]; exact hlt)] at hcx
      obtain ⟨b2, o2, rfl, hcy⟩ := (HX.out.2.below hbel) j (by rw [fl_len32, HL.out.2]; exact hlt)
      rw [fl_get _ _ _ (by rw [HL.out.2]; exact hlt)] at hcy
      obtain ⟨s, t, e1, e2, hr, _, ht⟩ := gap_is (HF.out.1 j hlt) (HF.out.2 j hlt)
      have hM := farR_le HF.out.1 HF.out.2 hj
      obtain ⟨k1, k2⟩ := max3_word (s := s) (t := t) hM hr ht
      have hmax0 := fun (ts : Array TypeId) (tt : TypeId) (w : World) => max3_run (P := Try.prog) (av_wordM false hM) (av_wordM s hr) (av_wordM t hr) k1 ts tt w
      rw [k2, show max (farR us bs j) (gapR us bs j) = farR us bs (j + 1) from rfl] at hmax0
      generalize us[j]?.getD 0 = x at hcx e1 e2
      generalize bs[j]?.getD 0 = y at hcy e1 e2
      obtain ⟨D, hD⟩ : ∃ D, Ieee.single.word s (gapR us bs j) = D := ⟨_, rfl⟩
      obtain ⟨E, hE⟩ : ∃ E, Ieee.single.word t (gapR us bs j) = E := ⟨_, rfl⟩
      obtain ⟨O, hO⟩ : ∃ O, Ieee.single.word false (farR us bs j) = O := ⟨_, rfl⟩
      obtain ⟨N, hN⟩ : ∃ N, Ieee.single.word false (farR us bs (j + 1)) = N := ⟨_, rfl⟩
      rw [hD, hE, hO, hN] at hmax0
      rw [hD] at e1
      rw [hE] at e2
      rw [hO]
      have HN := Lib.hid hN
      have hm1 : ∀ (t : TypeId) (w : World), (binOp .sub t (.float .f32 x) (.float .f32 y)).run Try.prog w = .ok (.float .f32 D) w := fun t w => run_float_arith w _ _ _ _ _ _ e1
      have hm2 : ∀ (t : TypeId) (w : World), (binOp .sub t (.float .f32 y) (.float .f32 x)).run Try.prog w = .ok (.float .f32 E) w := fun t w => run_float_arith w _ _ _ _ _ _ e2
      clear e1 e2 hr ht hM k1 k2 hD hE hO hN
      go_wp2_with fail
      go_region
      go_wp2_with fail
      go_roundw
      case rel => exact ⟨j + 1, by omega, by go_num, by rw [HN.out], drewn_more HQ.out _⟩
      case measure => simp [intOf]; omega
    · obtain rfl : j = n := by omega
      go_wp2_with fail
      go_ret
      exact ⟨rfl, HQ.out⟩
end Go.Proofs.Ytgeomaeccalceaa
/- Whole numbers and the 32-bit magnitudes next to them. -/
namespace Go.Proofs.Ytgeomaeccalceaa
open Go Go.RowKit Fl Vag
set_option linter.unusedVariables false
theorem single_binade : Ieee.single.binade = 8388608 := by decide
/-- The magnitude of so many units of a place. -/
theorem vk_units (q t : Nat) (h1 : 8388608 ≤ t) (h2 : t ≤ 16777216) : vk (q * 8388608 + t) = t * 2 ^ q := by
  unfold vk magOf placeOf
  rw [single_binade]
  by_cases e : t = 16777216
  · subst e
    rw [if_neg (by omega), if_neg (by omega), show (q * 8388608 + 16777216) % 8388608 = 0 by omega, show (q * 8388608 + 16777216) / 8388608 - 1 = q + 1 by omega, Nat.pow_succ]
    omega
  · rw [if_neg (by omega), if_neg (by omega), show 8388608 + (q * 8388608 + t) % 8388608 = t by omega, show (q * 8388608 + t) / 8388608 - 1 = q by omega]
theorem vk_small (t : Nat) (h : t ≤ 8388608) : vk t = t := by
  by_cases e : t = 8388608
  · subst e; exact vk_units 0 8388608 (Nat.le_refl _) (by omega)
  · unfold vk magOf placeOf
    rw [single_binade, if_pos (by omega), if_pos (by omega), Nat.pow_zero, Nat.mul_one]
/-- The place of a number's 24 first digits. -/
theorem digits24 (m : Nat) (h : 8388608 ≤ m) : ∃ q, 8388608 * 2 ^ q ≤ m ∧ m < 16777216 * 2 ^ q := by
  have h0 : m ≠ 0 := by omega
  have h1 := Nat.log2_self_le h0
  have h2 := Nat.lt_log2_self (n := m)
  have h3 : 23 ≤ m.log2 := (Nat.le_log2 h0).2 (by omega)
  refine ⟨m.log2 - 23, ?_, ?_⟩
  · rw [show (8388608 : Nat) = 2 ^ 23 by decide, ← Nat.pow_add, show 23 + (m.log2 - 23) = m.log2 by omega]; exact h1
  · rw [show (16777216 : Nat) = 2 ^ 24 by decide, ← Nat.pow_add, show 24 + (m.log2 - 23) = m.log2 + 1 by omega]; exact h2
/-- The magnitude next to a number, above it. -/
theorem vk_above (m : Nat) : ∃ R, m ≤ vk R ∧ vk R * 8388608 ≤ m * 8388609 := by
  by_cases h : m < 8388608
  · exact ⟨m, by rw [vk_small m (by omega)]; omega, by rw [vk_small m (by omega)]; omega⟩
  · obtain ⟨q, h1, h2⟩ := digits24 m (by omega)
    have hp : 0 < 2 ^ q := Nat.two_pow_pos q
    have hd := Nat.div_add_mod (m + 2 ^ q - 1) (2 ^ q)
    have hl := Nat.mod_lt (m + 2 ^ q - 1) hp
    obtain ⟨t, ht⟩ : ∃ t, (m + 2 ^ q - 1) / 2 ^ q = t := ⟨_, rfl⟩
    have t1 : 8388608 ≤ t := by rw [← ht]; exact (Nat.le_div_iff_mul_le hp).2 (by omega)
    have t2 : t < 16777217 := by rw [← ht]; exact (Nat.div_lt_iff_lt_mul hp).2 (by omega)
    rw [ht, Nat.mul_comm] at hd
    refine ⟨q * 8388608 + t, ?_, ?_⟩
    · rw [vk_units q t t1 (by omega)]; omega
    · rw [vk_units q t t1 (by omega)]; omega
/-- The magnitude next to a number, below it. -/
theorem vk_below (m : Nat) : ∃ R, vk R ≤ m ∧ m * 8388608 ≤ vk R * 8388608 + m := by
  by_cases h : m < 8388608
  · exact ⟨m, by rw [vk_small m (by omega)]; omega, by rw [vk_small m (by omega)]; omega⟩
  · obtain ⟨q, h1, h2⟩ := digits24 m (by omega)
    have hp : 0 < 2 ^ q := Nat.two_pow_pos q
    have hd := Nat.div_add_mod m (2 ^ q)
    have hl := Nat.mod_lt m hp
    obtain ⟨t, ht⟩ : ∃ t, m / 2 ^ q = t := ⟨_, rfl⟩
    have t1 : 8388608 ≤ t := by rw [← ht]; exact (Nat.le_div_iff_mul_le hp).2 h1
    have t2 : t < 16777216 := by rw [← ht]; exact (Nat.div_lt_iff_lt_mul hp).2 h2
    rw [ht, Nat.mul_comm] at hd
    refine ⟨q * 8388608 + t, ?_, ?_⟩
    · rw [vk_units q t t1 (by omega)]; omega
    · rw [vk_units q t t1 (by omega)]; omega
end Go.Proofs.Ytgeomaeccalceaa
/- Sums of numbers of at least 0: how near what is written is. -/
namespace Go.Proofs.Ytgeomaeccalceaa
open Go Go.RowKit Fl Vag
set_option linter.unusedVariables false
theorem vk_infM : vk Ieee.single.infRung = 2 ^ 277 := by decide +kernel
set_option exponentiation.threshold 300 in
theorem round_at (s : Bool) (m e M : Nat) (hM : m * 2 ^ e = M) (hm : M < 2 ^ 276) : ∃ r, r < Ieee.single.infRung ∧ Ieee.single.nearest s m (-149 + (e : Int)) = Ieee.single.word s r ∧ vk r * 8388608 ≤ M * 8388609 ∧ M * 8388608 ≤ vk r * 8388608 + M := by
  have hlp : (-149 : Int) = -(K0 : Int) + (lp Ieee.single : Int) := single_least.symm.trans (show Ieee.single.leastPlace = -(K0 : Int) + (lp Ieee.single : Int) from lp_least .f32)
  have hf : Ieee.single.fractionBits ≤ lp Ieee.single := by decide
  have hf2 : Ieee.single.fractionBits ≤ e + lp Ieee.single := by omega
  have hp : ∀ R, magOf Ieee.single R * 2 ^ (placeOf Ieee.single R + lp Ieee.single) = vk R * 2 ^ lp Ieee.single := fun R => by unfold vk; rw [Nat.pow_add, Nat.mul_assoc]
  have hq : m * 2 ^ (e + lp Ieee.single) = M * 2 ^ lp Ieee.single := by rw [Nat.pow_add, ← Nat.mul_assoc, hM]
  have hb : -149 + (e : Int) = -(K0 : Int) + ((e + lp Ieee.single : Nat) : Int) := by rw [hlp]; omega
  obtain ⟨R, h1, h2⟩ := vk_above M
  obtain ⟨Q, h3, h4⟩ := vk_below M
  have h277 : (2 : Nat) ^ 277 = 2 ^ 276 * 2 := Nat.pow_succ ..
  have hQ : Q ≤ Ieee.single.infRung := by
    rcases Nat.lt_or_ge Ieee.single.infRung Q with h | h
    · have := vk_mono (Nat.le_of_lt h)
      rw [vk_infM] at this
      omega
    · exact h
  obtain ⟨a, e1, e2⟩ := nearest_le Ieee.single s m (-(K0 : Int)) (e + lp Ieee.single) (lp Ieee.single) R (lp_least .f32) hf2 (by rw [hp, hq]; exact Nat.mul_le_mul_right _ h1)
  obtain ⟨b, e3, e4, e5⟩ := nearest_ge Ieee.single s m (-(K0 : Int)) (e + lp Ieee.single) (lp Ieee.single) Q (lp_least .f32) hf2 hQ (by rw [hp, hq]; exact Nat.mul_le_mul_right _ h3)
  have hR : R < Ieee.single.infRung := by
    rcases Nat.lt_or_ge R Ieee.single.infRung with h | h
    · exact h
    · have := vk_mono h
      rw [vk_infM] at this
      omega
  have h6 : Ieee.single.word s a = Ieee.single.word s b := by rw [← e2, ← e5]
  have h7 := (word_parts s (r := a) (by omega)).1
  rw [h6, (word_parts s e4).1] at h7
  obtain rfl : b = a := h7
  have m1 := vk_mono e1
  have m2 := vk_mono e3
  have hlt : b < Ieee.single.infRung := Nat.lt_of_le_of_lt e1 hR
  refine ⟨b, hlt, by rw [hb]; exact e5, ?_, ?_⟩
  · exact Nat.le_trans (Nat.mul_le_mul_right _ m1) h2
  · exact Nat.le_trans h4 (Nat.add_le_add_right (Nat.mul_le_mul_right _ m2) _)
/-- A number of at least 0 with this magnitude. -/
def NN (v : Option Nat) (a : Nat) : Prop := ∃ b s r, v = some b ∧ Ieee.single.read b = Ieee.single.read (Ieee.single.word s r) ∧ r < Ieee.single.infRung ∧ (s = true → r = 0) ∧ a = vk r
theorem vk_0 : vk 0 = 0 := by decide +kernel
theorem NN.add {u v : Option Nat} {a b : Nat} (hu : NN u a) (hv : NN v b) (h : a + b < 2 ^ 276) : ∃ c, NN (aop .add .f32 u v) c ∧ c * 8388608 ≤ (a + b) * 8388609 ∧ (a + b) * 8388608 ≤ c * 8388608 + (a + b) := by
  obtain ⟨b1, s, r, rfl, hb1, hr, hs, rfl⟩ := hu
  obtain ⟨b2, t, q, rfl, hb2, hq, ht, rfl⟩ := hv
  have e1 : aop .add .f32 (some b1) (some b2) = ((Ieee.single.read b1).sum (Ieee.single.read b2)).map Ieee.single.write := rfl
  have g1 : ∀ (s : Bool) (r z : Nat), (s = true → r = 0) → Ieee.signed s (magOf Ieee.single r) z = ((magOf Ieee.single r * 2 ^ z : Nat) : Int) := fun s r z h => by
    cases s with
    | false => unfold Ieee.signed; rw [Nat.shiftLeft_eq]; rfl
    | true =>
      obtain rfl := h rfl
      have : magOf Ieee.single 0 = 0 := by decide +kernel
      rw [this]; unfold Ieee.signed; rw [Nat.shiftLeft_eq, Nat.zero_mul]; rfl
  rw [e1, hb1, hb2, read_word32 s r hr, read_word32 t q hq]
  obtain ⟨i, hi⟩ : ∃ i, placeOf Ieee.single r = i := ⟨_, rfl⟩
  obtain ⟨j, hj⟩ : ∃ j, placeOf Ieee.single q = j := ⟨_, rfl⟩
  rw [hi, hj]
  have q1 : (Ieee.Datum.number s (magOf Ieee.single r) (-149 + (i : Int))).sum (Ieee.Datum.number t (magOf Ieee.single q) (-149 + (j : Int))) = some (.number (if Ieee.signed s (magOf Ieee.single r) (-149 + (i : Int) - min (-149 + (i : Int)) (-149 + (j : Int))).toNat + Ieee.signed t (magOf Ieee.single q) (-149 + (j : Int) - min (-149 + (i : Int)) (-149 + (j : Int))).toNat = 0 then s && t else decide (Ieee.signed s (magOf Ieee.single r) (-149 + (i : Int) - min (-149 + (i : Int)) (-149 + (j : Int))).toNat + Ieee.signed t (magOf Ieee.single q) (-149 + (j : Int) - min (-149 + (i : Int)) (-149 + (j : Int))).toNat < 0)) (Ieee.signed s (magOf Ieee.single r) (-149 + (i : Int) - min (-149 + (i : Int)) (-149 + (j : Int))).toNat + Ieee.signed t (magOf Ieee.single q) (-149 + (j : Int) - min (-149 + (i : Int)) (-149 + (j : Int))).toNat).natAbs (min (-149 + (i : Int)) (-149 + (j : Int)))) := rfl
  rw [q1, show min (-149 + (i : Int)) (-149 + (j : Int)) = -149 + ((min i j : Nat) : Int) by omega, show (-149 + (i : Int) - (-149 + ((min i j : Nat) : Int))).toNat = i - min i j by omega, show (-149 + (j : Int) - (-149 + ((min i j : Nat) : Int))).toNat = j - min i j by omega, g1 s r _ hs, g1 t q _ ht]
  obtain ⟨T, hT⟩ : ∃ T, magOf Ieee.single r * 2 ^ (i - min i j) + magOf Ieee.single q * 2 ^ (j - min i j) = T := ⟨_, rfl⟩
  have hT2 : ((magOf Ieee.single r * 2 ^ (i - min i j) : Nat) : Int) + ((magOf Ieee.single q * 2 ^ (j - min i j) : Nat) : Int) = (T : Int) := by rw [← hT]; exact (Int.natCast_add _ _).symm
  rw [hT2, Int.natAbs_natCast]
  have hM : T * 2 ^ (min i j) = vk r + vk q := by
    unfold vk
    rw [← hT, hi, hj, Nat.add_mul, Nat.mul_assoc, Nat.mul_assoc, ← Nat.pow_add, ← Nat.pow_add, show i - min i j + min i j = i by omega, show j - min i j + min i j = j by omega]
  obtain ⟨c, hc, h2, h3, h4⟩ := round_at (if (T : Int) = 0 then s && t else decide ((T : Int) < 0)) T (min i j) _ hM h
  refine ⟨vk c, ⟨_, _, c, congrArg some h2, rfl, hc, fun hx => ?_, rfl⟩, h3, h4⟩
  split at hx
  · rename_i h0
    have : vk r + vk q = 0 := by rw [← hM, show T = 0 by omega, Nat.zero_mul]
    rw [this] at h3
    rcases Nat.eq_zero_or_pos c with hz | hz
    · exact hz
    · have := vk_pos hz; omega
  · have := of_decide_eq_true hx; omega
end Go.Proofs.Ytgeomaeccalceaa
/- Products of numbers of at least 0: how great what is written may be. -/
namespace Go.Proofs.Ytgeomaeccalceaa
open Go Go.RowKit Fl Vag
set_option linter.unusedVariables false
theorem nearest_zero (s : Bool) (p : Int) : Ieee.single.nearest s 0 p = Ieee.single.word s 0 := by unfold Ieee.Format.nearest; rw [if_pos rfl]
set_option exponentiation.threshold 300 in
theorem NN.mul {u v : Option Nat} {a b M : Nat} (hu : NN u a) (hv : NN v b) (hM : a * b ≤ M * 2 ^ 149) (h : M < 2 ^ 276) : ∃ c, NN (aop .mul .f32 u v) c ∧ c * 8388608 ≤ M * 8388609 := by
  obtain ⟨b1, s, r, rfl, hb1, hr, hs, rfl⟩ := hu
  obtain ⟨b2, t, q, rfl, hb2, hq, ht, rfl⟩ := hv
  have e1 : ∃ z, (z = true → s = true ∨ t = true) ∧ aop .mul .f32 (some b1) (some b2) = some (Ieee.single.nearest z (magOf Ieee.single r * magOf Ieee.single q) (-149 + (placeOf Ieee.single r : Int) + (-149 + (placeOf Ieee.single q : Int)))) := by
    refine ⟨s != t, fun hz => ?_, ?_⟩
    · cases s <;> cases t <;> simp at hz <;> simp
    · show Ieee.single.mul _ _ = _
      unfold Ieee.Format.mul
      rw [hb1, hb2, read_word32 s r hr, read_word32 t q hq]
      cases s <;> cases t <;> rfl
  obtain ⟨z, hz, e2⟩ := e1
  rw [e2]
  obtain ⟨R, h1, h2⟩ := vk_above M
  have h277 : (2 : Nat) ^ 277 = 2 ^ 276 * 2 := Nat.pow_succ ..
  have hR : R < Ieee.single.infRung := by
    rcases Nat.lt_or_ge R Ieee.single.infRung with h' | h'
    · exact h'
    · have := vk_mono h'
      rw [vk_infM] at this
      omega
  have hK := K0_eq
  have hlp : (-149 : Int) = -(K0 : Int) + (lp Ieee.single : Int) := single_least.symm.trans (show Ieee.single.leastPlace = -(K0 : Int) + (lp Ieee.single : Int) from lp_least .f32)
  obtain ⟨i, hi⟩ : ∃ i, placeOf Ieee.single r = i := ⟨_, rfl⟩
  obtain ⟨j, hj⟩ : ∃ j, placeOf Ieee.single q = j := ⟨_, rfl⟩
  obtain ⟨L, hL⟩ : ∃ L, lp Ieee.single = L := ⟨_, rfl⟩
  rw [hL] at hlp
  obtain ⟨G, hG⟩ : ∃ G, L = G + 149 := ⟨L - 149, by omega⟩
  have hfb : Ieee.single.fractionBits = 23 := by decide
  have hv2 : magOf Ieee.single r * magOf Ieee.single q * 2 ^ (i + j) = vk r * vk q := by
    unfold vk
    rw [hi, hj, Nat.pow_add, Nat.mul_mul_mul_comm]
  obtain ⟨c, e3, e4⟩ := nearest_le Ieee.single z (magOf Ieee.single r * magOf Ieee.single q) (-(K0 : Int)) (i + j + G) L R (by rw [← hL]; exact lp_least .f32) (by rw [hfb]; omega) (by
    rw [Nat.pow_add 2 (i + j), ← Nat.mul_assoc, hv2, Nat.pow_add, ← Nat.mul_assoc, show magOf Ieee.single R * 2 ^ placeOf Ieee.single R = vk R from rfl, hG, Nat.pow_add 2 G 149, Nat.mul_comm (2 ^ G), ← Nat.mul_assoc]
    exact Nat.mul_le_mul_right _ (Nat.le_trans hM (Nat.mul_le_mul_right _ h1)))
  rw [hi, hj, show -149 + (i : Int) + (-149 + (j : Int)) = -(K0 : Int) + ((i + j + G : Nat) : Int) by omega]
  by_cases h0 : z = true
  · have hm0 : magOf Ieee.single r * magOf Ieee.single q = 0 := by
      have g0 : magOf Ieee.single 0 = 0 := by decide +kernel
      rcases hz h0 with h3 | h3
      · rw [hs h3, g0, Nat.zero_mul]
      · rw [ht h3, g0, Nat.mul_zero]
    rw [hm0, nearest_zero]
    exact ⟨vk 0, ⟨_, z, 0, rfl, rfl, by decide, fun _ => rfl, rfl⟩, by rw [vk_0, Nat.zero_mul]; exact Nat.zero_le _⟩
  · refine ⟨vk c, ⟨_, z, c, congrArg some e4, rfl, Nat.lt_of_le_of_lt e3 hR, fun h3 => absurd h3 h0, rfl⟩, ?_⟩
    exact Nat.le_trans (Nat.mul_le_mul_right _ (vk_mono e3)) h2
end Go.Proofs.Ytgeomaeccalceaa
/- Sums of numbers of at least 0, exact and rounded. -/
namespace Go.Proofs.Ytgeomaeccalceaa
open Go Go.RowKit Fl Vag
set_option linter.unusedVariables false
/-- The exact sum of the first numbers. -/
def exS (f : Nat → Nat) : Nat → Nat
  | 0 => 0
  | k + 1 => exS f k + f k
theorem exS_mono (f : Nat → Nat) {n : Nat} : ∀ {k : Nat}, k ≤ n → exS f k ≤ exS f n := by
  induction n with
  | zero => intro k h; obtain rfl : k = 0 := by omega
            exact Nat.le_refl _
  | succ n ih =>
    intro k h
    by_cases e : k = n + 1
    · rw [e]; exact Nat.le_refl _
    · exact Nat.le_trans (ih (by omega)) (Nat.le_add_right _ _)
theorem NN_zero : NN (some 0) 0 := ⟨0, false, 0, rfl, by decide +kernel, by decide, fun h => rfl, vk_0.symm⟩
theorem pow_twice (k : Nat) : 8388609 ^ k ≤ 2 ^ k * 8388608 ^ k := by
  rw [← Nat.mul_pow]; exact Nat.pow_le_pow_left (by omega) k
theorem less_one {x d : Nat} (h : x * 8388608 ≤ d * 8388608 + x) : x * 8388607 ≤ d * 8388608 := Nat.le_of_add_le_add_right (b := x) (Nat.le_trans (Nat.le_of_eq (Nat.mul_succ x 8388607).symm) h)
set_option exponentiation.threshold 300 in
/-- The rounded sum is near the exact one. -/
theorem sum_near {vs : Nat → Option Nat} {f : Nat → Nat} {acc : Nat → Option Nat} (h0 : acc 0 = some 0) (hs : ∀ j, acc (j + 1) = aop .add .f32 (acc j) (vs j)) {n : Nat} (hv : ∀ j, j < n → NN (vs j) (f j)) (hn : n ≤ 12) (hE : exS f n < 2 ^ 200) :
    ∀ {k : Nat}, k ≤ n → ∃ c, NN (acc k) c ∧ exS f k * 8388607 ^ k ≤ c * 8388608 ^ k ∧ c * 8388608 ^ k ≤ exS f k * 8388609 ^ k := by
  intro k
  induction k with
  | zero => exact fun _ => ⟨0, by rw [h0]; exact NN_zero, by simp [exS], by simp [exS]⟩
  | succ k ih =>
    intro hk
    obtain ⟨c, h1, h2, h3⟩ := ih (by omega)
    have hf := hv k (by omega)
    have hm : exS f k + f k ≤ exS f n := exS_mono f (k := k + 1) hk
    have hpos : 0 < 8388608 ^ k := Nat.pow_pos (by omega)
    have hc : c ≤ exS f k * 2 ^ k := by
      have := Nat.le_trans h3 (Nat.mul_le_mul_left _ (pow_twice k))
      rw [← Nat.mul_assoc] at this
      exact Nat.le_of_mul_le_mul_right this hpos
    have hc2 : c ≤ exS f n * 2 ^ 12 := Nat.le_trans hc (Nat.mul_le_mul (exS_mono f (by omega)) (Nat.pow_le_pow_right (by omega) (by omega)))
    have hlt : c + f k < 2 ^ 276 := by
      have a1 : c + f k ≤ exS f n * 2 ^ 13 := by
        have : f k ≤ exS f n * 2 ^ 12 := Nat.le_trans (Nat.le_trans (Nat.le_add_left _ _) hm) (Nat.le_mul_of_pos_right _ (Nat.two_pow_pos _))
        omega
      refine Nat.lt_of_le_of_lt a1 (Nat.lt_of_lt_of_le (Nat.mul_lt_mul_of_pos_right hE (Nat.two_pow_pos 13)) ?_)
      rw [← Nat.pow_add]
      exact Nat.pow_le_pow_right (by omega) (by omega)
    obtain ⟨d, g1, g2, g3⟩ := NN.add h1 hf hlt
    have g4 : (c + f k) * 8388607 ≤ d * 8388608 := less_one g3
    clear hlt hE hc hc2 g3 ih
    refine ⟨d, by rw [hs]; exact g1, ?_, ?_⟩
    · show (exS f k + f k) * 8388607 ^ (k + 1) ≤ d * 8388608 ^ (k + 1)
      have a1 : (exS f k + f k) * 8388607 ^ k ≤ (c + f k) * 8388608 ^ k := by
        rw [Nat.add_mul, Nat.add_mul]
        exact Nat.add_le_add h2 (Nat.mul_le_mul_left _ (Nat.pow_le_pow_left (by omega) k))
      rw [Nat.pow_succ, Nat.pow_succ, ← Nat.mul_assoc, ← Nat.mul_assoc]
      refine Nat.le_trans (Nat.mul_le_mul_right _ a1) ?_
      rw [Nat.mul_right_comm, Nat.mul_right_comm d]
      exact Nat.mul_le_mul_right _ g4
    · show d * 8388608 ^ (k + 1) ≤ (exS f k + f k) * 8388609 ^ (k + 1)
      have a1 : (c + f k) * 8388608 ^ k ≤ (exS f k + f k) * 8388609 ^ k := by
        rw [Nat.add_mul, Nat.add_mul]
        exact Nat.add_le_add h3 (Nat.mul_le_mul_left _ (Nat.pow_le_pow_left (by omega) k))
      rw [Nat.pow_succ, Nat.pow_succ, ← Nat.mul_assoc, ← Nat.mul_assoc]
      refine Nat.le_trans ?_ (Nat.mul_le_mul_right _ a1)
      rw [Nat.mul_right_comm, Nat.mul_right_comm (c + f k)]
      exact Nat.mul_le_mul_right _ g2
end Go.Proofs.Ytgeomaeccalceaa
/- A sum that is nearly 1 is not much greater than 1. -/
namespace Go.Proofs.Ytgeomaeccalceaa
open Go Go.RowKit Fl Vag
set_option linter.unusedVariables false
theorem read_one32 : Ieee.single.read 1065353216 = .number false 8388608 (-149 + ((126 : Nat) : Int)) := by decide +kernel
theorem vk_thou : vk 981668463 * 1000 ≤ 2 ^ 149 + 2 ^ 149 := by decide +kernel
set_option exponentiation.threshold 300 in
theorem near_top {v : Option Nat} {c : Nat} (hv : NN v c) (hc : c < 2 ^ 275) (h : nearV v = true) : c ≤ 2 ^ 149 + 4 * vk 981668463 := by
  obtain ⟨b0, s, r, rfl, hb0, hr, hs, rfl⟩ := hv
  rcases Nat.lt_or_ge (2 ^ 149 + 4 * vk 981668463) (vk r) with h' | h'
  · exfalso
    have hs0 : s = false := by
      cases s with
      | false => rfl
      | true => rw [hs rfl, vk_0] at h'; exact absurd h' (Nat.not_lt_zero _)
    subst hs0
    have e1 : offV (some b0) = ((Ieee.single.read b0).sum (Ieee.single.read 1065353216).opposite).map Ieee.single.write := rfl
    rw [hb0, read_word32 false r hr, read_one32] at e1
    obtain ⟨i, hi⟩ : ∃ i, placeOf Ieee.single r = i := ⟨_, rfl⟩
    rw [hi] at e1
    have q1 : (Ieee.Datum.number false (magOf Ieee.single r) (-149 + (i : Int))).sum (Ieee.Datum.number false 8388608 (-149 + ((126 : Nat) : Int))).opposite = some (.number (if Ieee.signed false (magOf Ieee.single r) (-149 + (i : Int) - min (-149 + (i : Int)) (-149 + ((126 : Nat) : Int))).toNat + Ieee.signed true 8388608 (-149 + ((126 : Nat) : Int) - min (-149 + (i : Int)) (-149 + ((126 : Nat) : Int))).toNat = 0 then false && true else decide (Ieee.signed false (magOf Ieee.single r) (-149 + (i : Int) - min (-149 + (i : Int)) (-149 + ((126 : Nat) : Int))).toNat + Ieee.signed true 8388608 (-149 + ((126 : Nat) : Int) - min (-149 + (i : Int)) (-149 + ((126 : Nat) : Int))).toNat < 0)) (Ieee.signed false (magOf Ieee.single r) (-149 + (i : Int) - min (-149 + (i : Int)) (-149 + ((126 : Nat) : Int))).toNat + Ieee.signed true 8388608 (-149 + ((126 : Nat) : Int) - min (-149 + (i : Int)) (-149 + ((126 : Nat) : Int))).toNat).natAbs (min (-149 + (i : Int)) (-149 + ((126 : Nat) : Int)))) := rfl
    rw [q1, show min (-149 + (i : Int)) (-149 + ((126 : Nat) : Int)) = -149 + ((min i 126 : Nat) : Int) by omega, show (-149 + (i : Int) - (-149 + ((min i 126 : Nat) : Int))).toNat = i - min i 126 by omega, show (-149 + ((126 : Nat) : Int) - (-149 + ((min i 126 : Nat) : Int))).toNat = 126 - min i 126 by omega] at e1
    have g1 : Ieee.signed false (magOf Ieee.single r) (i - min i 126) = ((magOf Ieee.single r * 2 ^ (i - min i 126) : Nat) : Int) := by unfold Ieee.signed; rw [Nat.shiftLeft_eq]; rfl
    have g2 : Ieee.signed true 8388608 (126 - min i 126) = -((8388608 * 2 ^ (126 - min i 126) : Nat) : Int) := by unfold Ieee.signed; rw [Nat.shiftLeft_eq]; rfl
    rw [g1, g2] at e1
    have k1 : magOf Ieee.single r * 2 ^ (i - min i 126) * 2 ^ (min i 126) = vk r := by unfold vk; rw [hi, Nat.mul_assoc, ← Nat.pow_add, show i - min i 126 + min i 126 = i by omega]
    have k2 : 8388608 * 2 ^ (126 - min i 126) * 2 ^ (min i 126) = 2 ^ 149 := by rw [Nat.mul_assoc, ← Nat.pow_add, show 126 - min i 126 + min i 126 = 126 by omega]
    generalize hA : magOf Ieee.single r * 2 ^ (i - min i 126) = A at *
    generalize hB : 8388608 * 2 ^ (126 - min i 126) = B at *
    generalize min i 126 = e at *
    obtain ⟨Th, hTh⟩ : ∃ Th, vk 981668463 = Th := ⟨_, rfl⟩
    rw [hTh] at h'
    have hTp : 0 < Th := by rw [← hTh]; exact vk_pos (by omega)
    have hBA : B < A := by
      rcases Nat.lt_or_ge B A with h2 | h2
      · exact h2
      · have := Nat.mul_le_mul_right (2 ^ e) h2
        rw [k1, k2] at this
        exact absurd (Nat.lt_of_le_of_lt (Nat.le_add_right _ _) h') (Nat.not_lt.2 this)
    obtain ⟨T, hT⟩ : ∃ T, A = B + T := ⟨A - B, by omega⟩
    have hTe : vk r = 2 ^ 149 + T * 2 ^ e := by rw [← k1, hT, Nat.add_mul, k2]
    have hTi : ((A : Nat) : Int) + -((B : Nat) : Int) = (T : Int) := by omega
    rw [hTi, Int.natAbs_natCast, if_neg (show ¬ (T : Int) = 0 by omega), decide_eq_false (show ¬ (T : Int) < 0 by omega)] at e1
    obtain ⟨M, hM⟩ : ∃ M, T * 2 ^ e = M := ⟨_, rfl⟩
    rw [hTe, hM] at h' hc
    have h4 : 4 * Th < M := Nat.lt_of_add_lt_add_left h'
    obtain ⟨d, hd, w1, _, w3⟩ := round_at false T e M hM (Nat.lt_of_le_of_lt (Nat.le_add_left _ _) (Nat.lt_trans hc (Nat.pow_lt_pow_right (by omega) (by omega))))
    have e2 : offV (some b0) = some (Ieee.single.word false d) := e1.trans (congrArg some w1)
    unfold nearV at h
    rw [e2] at h
    have h5 : nearB (Ieee.single.word false d) = true := h
    unfold nearB at h5
    rw [Bool.and_eq_true] at h5
    have h6 := h5.2
    have ho := order_K (av_wordM false (Nat.le_of_lt hd)) (show av .f32 981668463 = some 981668463 by decide +kernel)
    rw [fK_word false d hd, show fK 981668463 = ((vk 981668463 : Nat) : Int) by decide +kernel, hTh] at ho
    simp only [Bool.false_eq_true, if_false] at ho
    have h7 : vk d ≤ Th := by
      rcases Nat.lt_or_ge Th (vk d) with h8 | h8
      · rw [compare_int, if_neg (by omega), if_neg (by omega)] at ho
        unfold leB at h6
        rw [ho] at h6
        cases h6
      · exact h8
    have h8 := Nat.mul_le_mul_right 8388608 h7
    clear hc hTe k1 k2 e1 h hA hB hTi hT hTh
    omega
  · exact h'
end Go.Proofs.Ytgeomaeccalceaa
/- Rows of a chain: their exact sums are not much greater than 1; what a step makes of a row's sum. -/
namespace Go.Proofs.Ytgeomaeccalceaa
open Go Go.RowKit Fl Vag
set_option linter.unusedVariables false
theorem exS_le {f g : Nat → Nat} : ∀ {n : Nat}, (∀ j, j < n → f j ≤ g j) → exS f n ≤ exS g n
  | 0, _ => Nat.le_refl _
  | n + 1, h => Nat.add_le_add (exS_le (n := n) fun j hj => h j (by omega)) (h n (by omega))
theorem exS_same {f g : Nat → Nat} {n : Nat} (h : ∀ j, j < n → f j = g j) : exS f n = exS g n := Nat.le_antisymm (exS_le fun j hj => Nat.le_of_eq (h j hj)) (exS_le fun j hj => Nat.le_of_eq (h j hj).symm)
theorem exS_mul (f : Nat → Nat) (c : Nat) : ∀ n, exS (fun j => f j * c) n = exS f n * c
  | 0 => (Nat.zero_mul c).symm
  | n + 1 => by show exS _ n + _ = (exS f n + f n) * c; rw [exS_mul f c n, Nat.add_mul]
theorem exS_add (f g : Nat → Nat) : ∀ n, exS (fun j => f j + g j) n = exS f n + exS g n
  | 0 => rfl
  | n + 1 => by show exS _ n + (f n + g n) = (exS f n + f n) + (exS g n + g n); rw [exS_add f g n]; omega
theorem exS_const (c : Nat) : ∀ n, exS (fun _ => c) n = n * c
  | 0 => (Nat.zero_mul c).symm
  | n + 1 => by show exS _ n + c = _; rw [exS_const c n, Nat.add_mul, Nat.one_mul]
theorem exS_max {f : Nat → Nat} {n B : Nat} (h : ∀ j, j < n → f j ≤ B) : exS f n ≤ n * B := by
  rw [← exS_const B n]; exact exS_le h
theorem exS_part {f : Nat → Nat} : ∀ {n j : Nat}, j < n → f j ≤ exS f n
  | n + 1, j, hj => by
    by_cases e : j = n
    · subst e; exact Nat.le_add_left _ _
    · exact Nat.le_trans (exS_part (n := n) (by omega)) (Nat.le_add_right _ _)
theorem exS_swap (m : Nat → Nat → Nat) (n : Nat) : ∀ k, exS (fun i => exS (m i) n) k = exS (fun j => exS (fun i => m i j) k) n
  | 0 => by show 0 = exS (fun _ => 0) n; rw [exS_const]; rfl
  | k + 1 => by
    show exS _ k + exS (m k) n = exS (fun j => exS (fun i => m i j) k + m k j) n
    rw [exS_swap m n k, exS_add]
theorem pick {P : Nat → Nat → Prop} {n : Nat} (h : ∀ k, k < n → ∃ c, P k c) : ∃ g : Nat → Nat, ∀ k, k < n → P k (g k) := by
  have : ∀ k, ∃ c, k < n → P k c := fun k => by
    by_cases e : k < n
    · obtain ⟨c, hc⟩ := h k e; exact ⟨c, fun _ => hc⟩
    · exact ⟨0, fun x => absurd x e⟩
  exact ⟨fun k => Classical.choose (this k), fun k hk => Classical.choose_spec (this k) hk⟩
theorem NN.fin {v : Option Nat} {a : Nat} (h : NN v a) : finA .f32 v = true := by
  obtain ⟨b, s, r, rfl, hb, hr, _⟩ := h
  show (!(Ieee.single.read b).isInfinity) = true
  rw [hb, read_word32 s r hr]; rfl
theorem part_NN {x : Nat} (h : partB x = true) : ∃ a, NN (av .f32 x) a ∧ a ≤ 2 ^ 149 := by
  have h' : partB (x % 4294967296) = true := by
    have e : ∀ y, FloatKind.f32.format.order (x % 4294967296) y = FloatKind.f32.format.order x y := fun y => by
      show (Ieee.single.read (x % 4294967296)).order _ = (Ieee.single.read x).order _
      rw [← read_modM]
    unfold partB geB leB at h ⊢
    rw [e, e]; exact h
  obtain ⟨s, r, e, hr, hz⟩ := part_word (Nat.mod_lt _ (by omega)) h'
  have hrb : r < Ieee.single.infRung := Nat.lt_of_le_of_lt hr (by decide)
  refine ⟨vk r, ⟨x, s, r, part_avM h, by rw [read_modM x, e], hrb, hz, rfl⟩, ?_⟩
  have h1 := vk_mono hr
  rwa [show vk 1065353216 = 2 ^ 149 by decide +kernel] at h1
/-- The sum of the first values. -/
def accL (vs : Nat → Option Nat) : Nat → Option Nat
  | 0 => some 0
  | j + 1 => aop .add .f32 (accL vs j) (vs j)
theorem accL_take (xs : List Nat) : ∀ {k : Nat}, k ≤ xs.length → sumA .f32 (xs.take k) = accL (fun j => av .f32 (xs[j]?.getD 0)) k
  | 0, _ => by simp [sumA, accL]
  | k + 1, h => by
    show _ = aop .add .f32 (accL _ k) _
    rw [← accL_take xs (k := k) (by omega), ← sumA_snoc]
    congr 1
    rw [List.take_add_one, List.getElem?_eq_getElem (by omega)]
    simp
theorem few_pow : ∀ k, k ≤ 13 → 8388609 ^ k * 1000 ≤ 1001 * 8388608 ^ k ∧ 8388608 ^ k * 100000 ≤ 100001 * 8388607 ^ k := by decide +kernel
theorem near_sum : (2 ^ 149 + 4 * vk 981668463) * 100001 * 10 ≤ 1009 * 2 ^ 149 * 1000 := by decide +kernel
set_option exponentiation.threshold 300 in
/-- The exact sum of a row. -/
theorem row_sum {xs : List Nat} {n : Nat} (hl : xs.length = n) (hn : n ≤ 12) (h : okRow xs) : ∃ p : Nat → Nat, (∀ k, k < n → NN (av .f32 (xs[k]?.getD 0)) (p k)) ∧ exS p n * 1000 ≤ 1009 * 2 ^ 149 := by
  obtain ⟨p, hp⟩ := pick (P := fun k c => NN (av .f32 (xs[k]?.getD 0)) c ∧ c ≤ 2 ^ 149) (n := n) fun k hk => part_NN (h.1 k (by omega))
  refine ⟨p, fun k hk => (hp k hk).1, ?_⟩
  have hE : exS p n ≤ 2 ^ 153 := by
    refine Nat.le_trans (exS_max fun j hj => (hp j hj).2) ?_
    rw [show (2 : Nat) ^ 153 = 16 * 2 ^ 149 by rfl]
    exact Nat.mul_le_mul_right _ (by omega)
  obtain ⟨c, h1, h2, h3⟩ := sum_near (vs := fun j => av .f32 (xs[j]?.getD 0)) (f := p) (acc := accL fun j => av .f32 (xs[j]?.getD 0)) rfl (fun j => rfl) (fun j hj => (hp j hj).1) hn (Nat.lt_of_le_of_lt hE (Nat.pow_lt_pow_right (by omega) (by omega))) (Nat.le_refl n)
  have hs : sumA .f32 xs = accL (fun j => av .f32 (xs[j]?.getD 0)) n := by rw [← accL_take xs (by omega), ← hl, List.take_length]
  have hv := h.2
  rw [hs] at hv
  have hc : c ≤ exS p n * 2 ^ n := by
    have := Nat.le_trans h3 (Nat.mul_le_mul_left _ (pow_twice n))
    rw [← Nat.mul_assoc] at this
    exact Nat.le_of_mul_le_mul_right this (Nat.pow_pos (by omega))
  have hc2 : c < 2 ^ 275 := by
    refine Nat.lt_of_le_of_lt (Nat.le_trans hc (Nat.mul_le_mul hE (Nat.pow_le_pow_right (by omega) hn))) ?_
    rw [← Nat.pow_add]
    exact Nat.pow_lt_pow_right (by omega) (by omega)
  have hd := near_top h1 hc2 hv
  have hns := near_sum
  revert hd hns
  generalize 2 ^ 149 + 4 * vk 981668463 = D
  generalize 2 ^ 149 = W
  intro hd hns
  obtain ⟨q1, q2⟩ := few_pow n (by omega)
  have hpos : 0 < 8388607 ^ n := Nat.pow_pos (by omega)
  clear hE hc2
  generalize exS p n = E at h2 ⊢
  generalize 8388607 ^ n = A at h2 q2 hpos
  generalize 8388608 ^ n = B at h2 q2
  have k1 : E * 100000 ≤ c * 100001 := by
    refine Nat.le_of_mul_le_mul_right (c := A) ?_ hpos
    rw [Nat.mul_right_comm, Nat.mul_assoc c]
    refine Nat.le_trans (Nat.mul_le_mul_right _ h2) ?_
    rw [Nat.mul_assoc]
    exact Nat.mul_le_mul_left _ q2
  have k2 : c * 100001 ≤ D * 100001 := Nat.mul_le_mul_right _ hd
  clear hc h2 h3 hd q1 q2 hp hs hv h1 h hpos
  have k3 : E * 100000 * 10 ≤ 1009 * W * 1000 := Nat.le_trans (Nat.mul_le_mul_right 10 (Nat.le_trans k1 k2)) hns
  refine Nat.le_of_mul_le_mul_right (c := 1000) (Nat.le_trans (Nat.le_of_eq ?_) k3) (by decide)
  rw [Nat.mul_assoc, Nat.mul_assoc]
end Go.Proofs.Ytgeomaeccalceaa
/- A row's sum behind a step, and behind many. -/
namespace Go.Proofs.Ytgeomaeccalceaa
open Go Go.RowKit Fl Vag
set_option linter.unusedVariables false
theorem flow_le {f p W : Nat} (hW : 0 < W) : f * p ≤ (f * p / W + 1) * W ∧ (f * p / W + 1) * W ≤ f * p + W := by
  have h1 := Nat.div_add_mod (f * p) W
  have h2 := Nat.mod_lt (f * p) hW
  have h3 : (f * p / W + 1) * W = W * (f * p / W) + W := by rw [Nat.add_mul, Nat.one_mul, Nat.mul_comm]
  rw [h3]
  omega
/-- All flows of a step. -/
theorem flows_sum {n W : Nat} (hW : 0 < W) (hn : n ≤ 12) {f : Nat → Nat} {p : Nat → Nat → Nat} (hp : ∀ i, i < n → exS (p i) n * 1000 ≤ 1009 * W) : exS (fun k => exS (fun i => f i * p i k / W + 1) n) n * 1000 ≤ exS f n * 1009 + 144000 := by
  rw [← exS_swap (fun i k => f i * p i k / W + 1) n n, ← exS_mul]
  have h1 : ∀ i, i < n → exS (fun k => f i * p i k / W + 1) n * 1000 ≤ f i * 1009 + n * 1000 := fun i hi => by
    have a1 : exS (fun k => f i * p i k / W + 1) n * W ≤ f i * exS (p i) n + n * W := by
      rw [← exS_mul, Nat.mul_comm (f i), ← exS_mul, ← exS_const W n, ← exS_add]
      exact exS_le fun j hj => by rw [Nat.mul_comm (p i j)]; exact (flow_le hW).2
    have a2 := Nat.mul_le_mul_left (f i) (hp i hi)
    refine Nat.le_of_mul_le_mul_right (c := W) ?_ hW
    rw [Nat.mul_right_comm]
    refine Nat.le_trans (Nat.mul_le_mul_right 1000 a1) ?_
    rw [Nat.add_mul, Nat.add_mul, Nat.mul_assoc (f i), Nat.mul_assoc (f i), Nat.mul_right_comm n]
    exact Nat.add_le_add_right a2 _
  refine Nat.le_trans (exS_le h1) ?_
  rw [exS_add, exS_mul, exS_const]
  have : n * (n * 1000) ≤ 12 * (12 * 1000) := Nat.mul_le_mul hn (Nat.mul_le_mul_right _ hn)
  omega
set_option exponentiation.threshold 300 in
set_option maxRecDepth 100000 in
/-- A row's exact sum behind a step. -/
theorem step_sum {n : Nat} {ss : List Nat} {vs : Nat → Option Nat} {f : Nat → Nat} {p : Nat → Nat → Nat} (hn : n ≤ 12) (hv : ∀ i, i < n → NN (vs i) (f i)) (hs : ∀ i, i < n → ∀ k, k < n → NN (av .f32 (ss[i * n + k]?.getD 0)) (p i k)) (hp : ∀ i, i < n → exS (p i) n * 1000 ≤ 1009 * 2 ^ 149) (hT : exS f n < 2 ^ 190) :
    ∃ g : Nat → Nat, (∀ k, k < n → NN (accV n ss vs k n) (g k)) ∧ exS g n * 1000 ≤ exS f n * 1011 + 145000 := by
  have hW : 0 < 2 ^ 149 := Nat.pow_pos (by omega)
  have hf : ∀ i, i < n → f i < 2 ^ 190 := fun i hi => Nat.lt_of_le_of_lt (exS_part hi) hT
  have hM : ∀ i, i < n → ∀ k, k < n → f i * p i k / 2 ^ 149 + 1 < 2 ^ 193 := fun i hi k hk => by
    have a1 : p i k ≤ 2 * 2 ^ 149 := by
      have := exS_part (f := p i) hk
      have := hp i hi
      omega
    have a2 : f i * p i k / 2 ^ 149 ≤ f i * 2 := by
      refine Nat.div_le_of_le_mul ?_
      rw [Nat.mul_comm (2 ^ 149), Nat.mul_assoc]
      exact Nat.mul_le_mul_left _ a1
    have := hf i hi
    omega
  have hgs : ∀ k, k < n → ∃ c, NN (accV n ss vs k n) c ∧ c * 1000 ≤ 1001 * exS (fun i => f i * p i k / 2 ^ 149 + 1) n := fun k hk => by
    obtain ⟨q, hq⟩ := pick (P := fun i c => NN (aop .mul .f32 (vs i) (av .f32 (ss[i * n + k]?.getD 0))) c ∧ c * 8388608 ≤ (f i * p i k / 2 ^ 149 + 1) * 8388609) (n := n) fun i hi => by
      exact NN.mul (hv i hi) (hs i hi k hk) (flow_le hW).1 (Nat.lt_trans (hM i hi k hk) (Nat.pow_lt_pow_right (by omega) (by omega)))
    have hq2 : ∀ i, i < n → q i ≤ 2 ^ 194 := fun i hi => by
      have b1 := (hq i hi).2
      have b2 := hM i hi k hk
      generalize f i * p i k / 2 ^ 149 + 1 = M at b1 b2
      omega
    have hE : exS q n < 2 ^ 200 := by
      refine Nat.lt_of_le_of_lt (exS_max hq2) ?_
      have : n * 2 ^ 194 ≤ 12 * 2 ^ 194 := Nat.mul_le_mul_right _ hn
      omega
    obtain ⟨c, h1, h2, h3⟩ := sum_near (acc := accV n ss vs k) rfl (fun j => rfl) (fun i hi => (hq i hi).1) hn hE (Nat.le_refl n)
    refine ⟨c, h1, ?_⟩
    have h4 : exS q n * 8388608 ≤ exS (fun i => f i * p i k / 2 ^ 149 + 1) n * 8388609 := by
      rw [← exS_mul, ← exS_mul]
      exact exS_le fun i hi => (hq i hi).2
    obtain ⟨q1, _⟩ := few_pow (n + 1) (by omega)
    have hpos : 0 < 8388608 ^ (n + 1) := Nat.pow_pos (by omega)
    generalize exS (fun i => f i * p i k / 2 ^ 149 + 1) n = E at h4 ⊢
    generalize exS q n = Q at h3 h4
    clear hE h2 hq hq2
    have k1 : c * 8388608 ^ (n + 1) ≤ E * 8388609 ^ (n + 1) := by
      rw [Nat.pow_succ, Nat.pow_succ, ← Nat.mul_assoc, ← Nat.mul_assoc]
      refine Nat.le_trans (Nat.mul_le_mul_right _ h3) ?_
      rw [Nat.mul_right_comm, Nat.mul_right_comm E]
      exact Nat.mul_le_mul_right _ h4
    generalize 8388608 ^ (n + 1) = A at k1 q1 hpos
    generalize 8388609 ^ (n + 1) = B at k1 q1
    refine Nat.le_of_mul_le_mul_right (c := A) ?_ hpos
    rw [Nat.mul_right_comm]
    refine Nat.le_trans (Nat.mul_le_mul_right _ k1) ?_
    rw [Nat.mul_assoc]
    refine Nat.le_trans (Nat.mul_le_mul_left _ q1) ?_
    rw [← Nat.mul_assoc, Nat.mul_comm E]
    exact Nat.le_refl _
  obtain ⟨g, hg⟩ := pick hgs
  refine ⟨g, fun k hk => (hg k hk).1, ?_⟩
  have h1 : exS g n * 1000 ≤ exS (fun k => exS (fun i => f i * p i k / 2 ^ 149 + 1) n) n * 1001 := by
    rw [← exS_mul, ← exS_mul]
    exact exS_le fun k hk => by have := (hg k hk).2; rwa [Nat.mul_comm 1001] at this
  have h2 := flows_sum (f := f) hW hn hp
  generalize exS (fun k => exS (fun i => f i * p i k / 2 ^ 149 + 1) n) n = E at h1 h2
  clear hgs hg hM hf hT hp hv hs hW
  omega
theorem pick2 {P : Nat → (Nat → Nat) → Prop} {n : Nat} (h : ∀ i, i < n → ∃ q, P i q) : ∃ p : Nat → Nat → Nat, ∀ i, i < n → P i (p i) := by
  have : ∀ i, ∃ q, i < n → P i q := fun i => by
    by_cases e : i < n
    · obtain ⟨q, hq⟩ := h i e; exact ⟨q, fun _ => hq⟩
    · exact ⟨fun _ => 0, fun x => absurd x e⟩
  exact ⟨fun i => Classical.choose (this i), fun i hi => Classical.choose_spec (this i) hi⟩
theorem grow_512 : (1011 : Nat) ^ 512 ≤ 1024 * 1000 ^ 512 := by decide +kernel
theorem grow_more {t : Nat} (ht : t ≤ 512) : (1011 : Nat) ^ t ≤ 1024 * 1000 ^ t := by
  have h1 : (1000 : Nat) ^ (512 - t) ≤ 1011 ^ (512 - t) := Nat.pow_le_pow_left (by omega) _
  have h2 := grow_512
  rw [show 512 = t + (512 - t) by omega, Nat.pow_add, Nat.pow_add] at h2
  refine Nat.le_of_mul_le_mul_right (c := 1000 ^ (512 - t)) ?_ (Nat.pow_pos (by omega))
  refine Nat.le_trans (Nat.mul_le_mul_left _ h1) ?_
  rw [Nat.mul_assoc]; exact h2
theorem run_top {A t : Nat} (ht : t ≤ 512) (h : A * 1000 ^ t ≤ 2 ^ 154 * 1011 ^ t) : A ≤ 2 ^ 164 := by
  refine Nat.le_of_mul_le_mul_right (c := 1000 ^ t) (Nat.le_trans h ?_) (Nat.pow_pos (by omega))
  rw [show (2 : Nat) ^ 164 = 2 ^ 154 * 1024 by rfl, Nat.mul_assoc]
  exact Nat.mul_le_mul_left _ (grow_more ht)
set_option maxRecDepth 100000 in
/-- Behind t steps. -/
theorem run_sum {n : Nat} {ss : List Nat} {vs : Nat → Option Nat} (hn : n ≤ 12) (hs : ∀ i, i < n → okRow (rowA n i ss)) (hss : ss.length = n * n) (hv : ∀ i, i < n → ∃ a, NN (vs i) a ∧ a ≤ 2 ^ 149) :
    ∀ {t : Nat}, t ≤ 512 → ∃ f : Nat → Nat, (∀ i, i < n → NN (runF n ss vs t i) (f i)) ∧ (exS f n + 16384) * 1000 ^ t ≤ 2 ^ 154 * 1011 ^ t := by
  obtain ⟨p, hp⟩ := pick2 (P := fun i q => (∀ k, k < n → NN (av .f32 (ss[i * n + k]?.getD 0)) (q k)) ∧ exS q n * 1000 ≤ 1009 * 2 ^ 149) (n := n) fun i hi => by
    obtain ⟨q, h1, h2⟩ := row_sum (rowA_len (by rw [hss]; exact row_in hi)) hn (hs i hi)
    exact ⟨q, fun k hk => by have := h1 k hk; rwa [rowA_get hk] at this, h2⟩
  intro t
  induction t with
  | zero =>
    intro _
    obtain ⟨f, hf⟩ := pick hv
    refine ⟨f, fun i hi => (hf i hi).1, ?_⟩
    have h1 := exS_max (n := n) fun i hi => (hf i hi).2
    have h2 : n * 2 ^ 149 ≤ 12 * 2 ^ 149 := Nat.mul_le_mul_right _ hn
    show (exS f n + 16384) * 1 ≤ 2 ^ 154 * 1
    omega
  | succ t ih =>
    intro ht
    obtain ⟨f, h1, h2⟩ := ih (by omega)
    have h3 : exS f n + 16384 ≤ 2 ^ 164 := run_top (by omega) h2
    obtain ⟨g, h4, h5⟩ := step_sum hn h1 (fun i hi => (hp i hi).1) (fun i hi => (hp i hi).2) (Nat.lt_of_le_of_lt (Nat.le_trans (Nat.le_add_right _ _) h3) (Nat.pow_lt_pow_right (by omega) (by omega)))
    refine ⟨g, h4, ?_⟩
    have h6 : (exS g n + 16384) * 1000 ≤ (exS f n + 16384) * 1011 := by omega
    clear h3 h4 h5
    show (exS g n + 16384) * (1000 ^ t * 1000) ≤ 2 ^ 154 * (1011 ^ t * 1011)
    generalize 1000 ^ t = A at h2 ⊢
    generalize 1011 ^ t = B at h2 ⊢
    generalize (2 : Nat) ^ 154 = K at h2 ⊢
    rw [← Nat.mul_assoc, ← Nat.mul_assoc, Nat.mul_right_comm]
    refine Nat.le_trans (Nat.mul_le_mul_right _ h6) ?_
    rw [Nat.mul_right_comm]
    exact Nat.mul_le_mul_right _ h2
theorem run_fin {n : Nat} {ss : List Nat} {vs : Nat → Option Nat} (hn : n ≤ 12) (hs : ∀ i, i < n → okRow (rowA n i ss)) (hss : ss.length = n * n) (hv : ∀ i, i < n → ∃ a, NN (vs i) a ∧ a ≤ 2 ^ 149) {t : Nat} (ht : t ≤ 512) : finF n (runF n ss vs t) := fun i hi => by
  obtain ⟨f, h, _⟩ := run_sum hn hs hss hv ht
  exact (h i hi).fin
end Go.Proofs.Ytgeomaeccalceaa
/- slices.Repeat of one number. -/
namespace Go.Proofs.Ytgeomaeccalceaa
open Go Go.RowKit Fl Vag
set_option linter.unusedVariables false
set_option maxRecDepth 100000 in
theorem mul64_one (n : Nat) (h1 : 1 ≤ n) (h : n ≤ 12) (w : World) :
    Calls Try.prog 146 #[.int .u64 1, .int .u64 n] w (fun e w' => e = .returned (.tuple #[.int .u64 0, .int .u64 n]) ∧ w = w') := by
  have hn : n = 1 ∨ n = 2 ∨ n = 3 ∨ n = 4 ∨ n = 5 ∨ n = 6 ∨ n = 7 ∨ n = 8 ∨ n = 9 ∨ n = 10 ∨ n = 11 ∨ n = 12 := by omega
  clear h1 h
  rcases hn with rfl | rfl | rfl | rfl | rfl | rfl | rfl | rfl | rfl | rfl | rfl | rfl
  all_goals
    go_enter Try.func146, Try.ntmps146
    go_wp2
    go_ret2
    exact ⟨rfl, rfl⟩
theorem mul_one (n : Nat) (h1 : 1 ≤ n) (h : n ≤ 12) (w : World) :
    Calls Try.prog 127 #[.int .u64 1, .int .u64 n] w (fun e w' => e = .returned (.tuple #[.int .u64 0, .int .u64 n]) ∧ w = w') := by
  have HH := Lib.hid (mul64_one n h1 h)
  go_enter Try.func127, Try.ntmps127
  go_wp2_with (go_at_call 146; fail)
  refine (HH.out _).mono ?_
  rintro e w1 ⟨rfl, rfl⟩
  go_wp2
  go_ret2
  exact ⟨rfl, rfl⟩
def repL (n k x : Nat) : List Nat := List.replicate k x ++ List.replicate (n - k) 0
theorem repL_len {n k x : Nat} (h : k ≤ n) : (repL n k x).length = n := by simp [repL]; omega
theorem repL_zero (n x : Nat) : repL n 0 x = List.replicate n 0 := by simp [repL]
theorem repL_all (n x : Nat) : repL n n x = List.replicate n x := by simp [repL]
theorem repL_more {n k x j : Nat} (h : k + j ≤ n) : splice (fl .f32 (repL n k x)) k (fl .f32 (List.replicate j x)) = fl .f32 (repL n (k + j) x) := by
  unfold splice repL fl
  simp only [List.map_append, List.map_replicate, List.length_replicate]
  rw [List.take_left' (by simp), List.drop_append, List.drop_of_length_le (by simp), List.nil_append]
  simp only [List.length_replicate, List.drop_replicate]
  rw [← List.append_assoc, List.replicate_append_replicate, show n - k - (k + j - k) = n - (k + j) by omega]
theorem repL_get {n k x i : Nat} (h : i < k) : (repL n k x)[i]?.getD 0 = x := by
  unfold repL
  rw [List.getElem?_append_left (by simpa using h)]
  simp [h]
theorem cut_from (g n k : Nat) (h : k < n) (hn : n ≤ 12) (w : World) : (Instr.slice 25 (.slice (some ⟨g, 0, none⟩) n n) (some (.int .i64 (k : Int))) none none).run Try.prog w = .ok (.slice (some ⟨g, k, none⟩) (n - k) (n - k)) w := by
  rw [run_slice_l (P := Try.prog) w 25 _ n n (by kernel_rfl) .i64 (k : Int) (by omega) (by omega)]
  go_simp
  intro h1; omega
theorem cut_to (g n k : Nat) (h : k ≤ n) (hn : n ≤ 12) (w : World) : (Instr.slice 25 (.slice (some ⟨g, 0, none⟩) n n) none (some (.int .i64 (k : Int))) none).run Try.prog w = .ok (.slice (some ⟨g, 0, none⟩) k n) w := by
  rw [run_slice_h (P := Try.prog) w 25 _ n n (by kernel_rfl) .i64 (k : Int) (by omega) (by omega)]
  go_simp
theorem copy_a {n k j x : Nat} (h : Hid (j = Nat.min k (n - k) ∧ 1 ≤ j ∧ k + j ≤ n)) : (fl .f32 (List.replicate j x)).length = Nat.min k (n - k) := by
  rw [fl_len32, List.length_replicate]; exact h.out.1
theorem copy_c {n k j x : Nat} (h : Hid (j = Nat.min k (n - k) ∧ 1 ≤ j ∧ k + j ≤ n)) : k + (fl .f32 (List.replicate j x)).length ≤ (fl .f32 (repL n k x)).length := by
  rw [fl_len32, fl_len32, List.length_replicate, repL_len (by have := h.out.2; omega)]; exact h.out.2.2
theorem copy_b {n k j x g : Nat} {t : TypeId} {w : World} (hrow : Whole w g t (fl .f32 (repL n k x)).toArray) (h : Hid (j = Nat.min k (n - k) ∧ 1 ≤ j ∧ k + j ≤ n)) :
    0 < (fl .f32 (List.replicate j x)).length → (some ⟨g, k, none⟩ : Option Addr) = some ⟨g, k, none⟩ ∧ ∃ ad, (some ⟨g, 0, none⟩ : Option Addr) = some ad ∧ ∀ i v, (fl .f32 (List.replicate j x))[i]? = some v → w.cell? (ad.add i) = some v := fun _ => by
  refine ⟨rfl, _, rfl, fun i v hi => ?_⟩
  obtain ⟨h3, h4⟩ := List.getElem?_eq_some_iff.1 hi
  rw [fl_len32, List.length_replicate] at h3
  have hv : v = .float .f32 x := by rw [← h4]; simp [fl]
  have hj := h.out
  have hjk : j ≤ k := by rw [hj.1]; exact Nat.min_le_left _ _
  rw [Addr.add_lit, Nat.zero_add, fl_cell hrow i (by rw [repL_len (by omega)]; omega), repL_get (by omega), hv]
set_option maxRecDepth 100000 in
set_option maxHeartbeats 400000 in
theorem repeat_any (x n b o c : Nat) (w : World) (hx : w.cell? ⟨b, o, none⟩ = some (.float .f32 x)) (h1 : 1 ≤ n) (hn : n ≤ 12) (hc : 1 ≤ c) (hb : b < w.heap.size) :
    Calls Try.prog 90 #[.slice (some ⟨b, o, none⟩) 1 c, .int .i64 n] w (RetL n (fl .f32 (List.replicate n x)) (fun s => s) w) := by
  have HM := Lib.hid (mul_one n h1 hn)
  have h1' : (1 : Int) ≤ n := by omega
  have hn' : (n : Int) ≤ 12 := by omega
  have hmk := run_mk (P := Try.prog) w 25 47 (.float .f32 0) 4 n Try.underlying25 (by kernel_rfl) rfl (by omega) (by omega)
  go_enter Try.func90, Try.ntmps90
  go_wp2_with (first
    | (go_at_call 127; refine (HM.out _).mono ?_; rintro e w1 ⟨rfl, rfl⟩)
    | (with_reducible refine wpList_copy_splice (o := ⟨some 33, _, _, _, _, _⟩) rfl _ _ _ _ rfl 47 Try.underlying25 (by kernel_rfl) _ _ _ _ _ _ rfl rfl w.heap.size 0 (fl .f32 (repL n 0 x)) 47 ?_ (fl .f32 (List.replicate 1 x)) ?_ ?_ ?_ ?_ w.heap.size w ?_ (Nat.le_refl _) ?_))
  · have := Whole.made w 47 (Array.replicate n (.float .f32 0))
    unfold Whole at this
    rw [this, repL_zero]; simp [fl]
  · show 1 = Nat.min 1 n
    unfold Nat.min; omega
  · intro _
    intro j v hj
    obtain ⟨rfl, rfl⟩ : j = 0 ∧ v = .float .f32 x := by
      have hj2 := List.getElem?_eq_some_iff.1 hj
      obtain ⟨h3, h4⟩ := hj2
      have : j = 0 := by simpa [fl] using h3
      subst this
      exact ⟨rfl, by simpa [fl] using h4.symm⟩
    rw [Nat.add_zero]; exact hx
  · show 0 + 1 ≤ (fl .f32 (repL n 0 x)).length
    rw [fl_len32, repL_len (by omega)]; omega
  · exact fl_one _
  · exact (Below.refl _ _).alloc (Nat.le_refl _) _
  intro w1 hw1 hb1
  have H0 : Hid (Below w.heap.size w w1 ∧ Whole w1 w.heap.size 47 (fl .f32 (repL n 1 x)).toArray) := Lib.hid ⟨hb1, by
    have h := hw1.out
    have e := repL_more (n := n) (k := 0) (j := 1) (x := x) (by omega)
    rw [show List.replicate 1 x = [x] from rfl] at e
    rwa [e] at h⟩
  clear hw1 hb1 hmk
  go_wp2_with fail
  go_loopw [8] (fun i wr => ∃ k : Nat, 1 ≤ k ∧ k ≤ n ∧ i = .int .i64 k ∧ Below w.heap.size w wr ∧ Whole wr w.heap.size 47 (fl .f32 (repL n k x)).toArray) (fun i _ => n - (intOf i).toNat)
  case atStart => exact ⟨1, Nat.le_refl _, h1, rfl, H0.out⟩
  case round =>
    obtain ⟨k, hk1, hkn, rfl, hbel, hrow⟩ := hrel
    have H := Lib.hid (And.intro hbel hrow)
    have hk1' : (1 : Int) ≤ k := by omega
    have hkn' : (k : Int) ≤ n := by omega
    clear hbel H0
    by_cases hlt : k < n
    · have hlt' : (k : Int) < n := by omega
      obtain ⟨j, hj⟩ : ∃ j, j = Nat.min k (n - k) := ⟨_, rfl⟩
      have hj1 : 1 ≤ j ∧ k + j ≤ n := by rw [hj]; show 1 ≤ min k (n - k) ∧ k + min k (n - k) ≤ n; omega
      have HJ := Lib.hid (And.intro hj hj1)
      clear hj hj1
      have hs1 := cut_from w.heap.size n k hlt hn
      have hs2 := cut_to w.heap.size n k (Nat.le_of_lt hlt) hn
      go_wp2_with fail
      have hrow1 : Whole wr.drew w.heap.size 47 (fl .f32 (repL n k x)).toArray := hrow
      have hcur : wr.drew.heap[w.heap.size]? = some (.cells (fl .f32 (repL n k x)).toArray 47 (0, 0)) := hrow1
      have ha := Lib.hid (copy_a (x := x) HJ)
      have hb2 := copy_b (x := x) hrow1 HJ
      have hc2 := copy_c (x := x) HJ
      have hf := fl_one (List.replicate j x)
      have hH : Below w.heap.size w wr.drew := Bel_drewN H.out.1 1
      have hcl : (fl .f32 (List.replicate j x)).length = j := by rw [fl_len32, List.length_replicate]
      have HSP : Hid (splice (fl .f32 (repL n k x)) k (fl .f32 (List.replicate j x)) = fl .f32 (repL n (k + j) x)) := Lib.hid (repL_more HJ.out.2.2)
      have hkj : (k : Int) + (j : Int) ≤ n := by have := HJ.out.2; omega
      have hwr : IntKind.i64.wrap ((k : Int) + (j : Int)) = ((k + j : Nat) : Int) := by rw [IntKind.wrap_i64]; omega
      generalize fl .f32 (List.replicate j x) = cs at ha hb2 hc2 hf hcl HSP
      go_region_law (with_reducible refine step_copy_splice rfl (.tmp 41) (.tmp 44) 25 25 rfl 47 Try.underlying25 (by kernel_rfl) (some ⟨w.heap.size, k, none⟩) (some ⟨w.heap.size, 0, none⟩) (n - k) (n - k) k n (by kernel_rfl) (by kernel_rfl) w.heap.size k _ 47 hcur cs ha.out hb2 hc2 hf w.heap.size w hH (Nat.le_refl _) ?_; intro w4 hg4 hb4; clear hcur hb2 hrow1)
      have H4 : Hid (Below w.heap.size w w4 ∧ Whole w4 w.heap.size 47 (fl .f32 (repL n (k + j) x)).toArray) := Lib.hid ⟨hb4, by have h := hg4.out; rwa [HSP.out] at h⟩
      clear hb4 hg4 hs1 hs2 ha hc2 hf HSP
      go_simp
      go_roundw
      case rel => exact ⟨.int .i64 ((k + j : Nat) : Int), _, _, _, _, _, _, _, _, _, _, _, _, _, ⟨k + j, by omega, by omega, rfl, H4.out⟩, rfl⟩
      case measure => have := HJ.out.2; simp [intOf]; omega
    · obtain rfl : k = n := by omega
      go_wp2_with fail
      go_ret
      refine ⟨_, _, rfl, ?_, H.out.1⟩
      have h2 := H.out.2
      rw [repL_all] at h2
      exact fl_row h2 (Nat.le_refl _) h2.lt
end Go.Proofs.Ytgeomaeccalceaa
/- RestOf of the code. -/
namespace Go.Proofs.Ytgeomaeccalceaa
open Go Go.RowKit Fl Vag
set_option linter.unusedVariables false
/-- A whole number as a float, and 1 by it. -/
def numI (n : Nat) : Nat := floatOfInt .f32 (n : Int)
def invX (n : Nat) : Nat := (aop .quo .f32 (some 1065353216) (some (numI n))).getD 0
theorem inv_ok : ∀ n, n ≤ 12 → 1 ≤ n → aop .quo .f32 (some 1065353216) (some (numI n)) = some (invX n) ∧ partB (invX n) = true := by decide +kernel
theorem inv_av {n : Nat} (h1 : 1 ≤ n) (h : n ≤ 12) : av .f32 (invX n) = some (invX n) := part_avM (inv_ok n h h1).2
def startF (n : Nat) : Nat → Option Nat := fun _ => some (invX n)
/-- The row behind j steps. -/
def restL (n : Nat) (ss : List Nat) (j : Nat) : List Nat := listF n (runF n ss (startF n) j)
theorem restL_len (n : Nat) (ss : List Nat) (j : Nat) : (restL n ss j).length = n := listF_len _ _
theorem runF_can {n : Nat} (h1 : 1 ≤ n) (h : n ≤ 12) (ss : List Nat) (j i : Nat) : can (runF n ss (startF n) j i) := by
  cases j with
  | zero => intro b hb; cases hb; exact inv_av h1 h
  | succ j => exact can_acc _ _ _ _ _
/-- A chain and its side. -/
structure restC (n : Nat) (ss : List Nat) : Prop where
  lo : 1 ≤ n
  hi : n ≤ 12
  len : ss.length = n * n
  rows : ∀ i, i < n → okRow (rowA n i ss)
theorem restC.fin {n : Nat} {ss : List Nat} (h : restC n ss) {j : Nat} (hj : j ≤ 512) : finF n (runF n ss (startF n) j) :=
  run_fin h.hi h.rows h.len (fun i hi => by
    obtain ⟨a, h1, h2⟩ := part_NN (inv_ok n h.hi h.lo).2
    rw [inv_av h.lo h.hi] at h1
    exact ⟨a, h1, h2⟩) hj
theorem restC.av {n : Nat} {ss : List Nat} (h : restC n ss) {j : Nat} (hj : j ≤ 512) {i : Nat} (hi : i < n) : av .f32 ((restL n ss j)[i]?.getD 0) = runF n ss (startF n) j i := by
  have hf := h.fin hj i hi
  have hc := runF_can h.lo h.hi ss j i
  unfold restL listF
  simp only [List.getElem?_map, List.getElem?_range hi, Option.map_some, Option.getD_some]
  cases hv : runF n ss (startF n) j i with
  | none => rw [hv] at hf; cases hf
  | some b => rw [hv] at hc; exact hc b rfl
theorem restC.finL {n : Nat} {ss : List Nat} (h : restC n ss) {j : Nat} (hj : j ≤ 512) : finL n (restL n ss j) := fun i hi => by rw [h.av hj hi]; exact h.fin hj i hi
theorem rest_zero (n : Nat) (ss : List Nat) : restL n ss 0 = List.replicate n (invX n) := by
  unfold restL listF
  apply List.ext_getElem
  · simp
  · intro i h1 h2
    simp [runF, startF]
/-- How far the row moves in the step behind j. -/
def farW (n : Nat) (ss : List Nat) (j : Nat) : Nat := Ieee.single.word false (farR (restL n ss j) (restL n ss (j + 1)) n)
/-- The row stays. -/
def stays (n : Nat) (ss : List Nat) (x j : Nat) : Bool := leB (farW n ss j) x
structure restAt (n : Nat) (ss : List Nat) (x t k : Nat) : Prop where
  lt : k < t
  here : stays n ss x k = true
  first : ∀ j, j < k → stays n ss x j = false
theorem restAt.same {n : Nat} {ss : List Nat} {x t k q : Nat} (h : restAt n ss x t k) (g : restAt n ss x t q) : k = q := by
  rcases Nat.lt_trichotomy k q with e | e | e
  · have := g.first k e; rw [h.here] at this; cases this
  · exact e
  · have := h.first q e; rw [g.here] at this; cases this
/-- What RestOf answers of a chain. -/
def RestR (n : Nat) (ss : List Nat) (x t : Nat) (w : World) (e : Ending) (w' : World) : Prop :=
  (∃ k, restAt n ss x t k ∧ RetL n (fl .f32 (restL n ss (k + 1))) (fun s => .tuple #[s, .int .i64 ((k + 1 : Nat) : Int), .bool true]) w e w') ∨ ((∀ k, ¬restAt n ss x t k) ∧ RetB (.tuple #[.slice none 0 0, .int .i64 0, .bool false]) w e w')
def restOk (s : Int) (ss : List Nat) (x : Nat) (t : Int) : Prop := isChain s ss ∧ leastB x = true ∧ 1 ≤ t ∧ t ≤ 512
theorem isChain.rest {n : Nat} {ss : List Nat} (h : isChain (n : Int) ss) : restC n ss := by
  obtain ⟨k, e, h1, h2, h3, h4⟩ := h.nat
  obtain rfl : n = k := by omega
  exact ⟨h1, h2, h3, h4⟩
theorem le_factB {x y : Nat} {b : Bool} (h : leB x y = b) : (FloatKind.f32.format.order x y == some Ordering.lt || FloatKind.f32.format.order x y == some Ordering.eq) = b := h
set_option maxRecDepth 100000 in
set_option maxHeartbeats 4000000 in
theorem implRest_yes (n : Nat) (ss : List Nat) (x t m : Nat) (hm : ss.length = m) (ao : Option Addr) (c : Nat) (w : World) (hs : Holds w ao (fl .f32 ss)) (hlen : m ≤ 1048576) (hc : m ≤ c) (hF : isChain (n : Int) ss) (hx : leastB x = true) (ht1 : 1 ≤ t) (ht : t ≤ 512) :
    Calls Try.prog 39 #[.agg #[.int .i64 n, .slice ao m c], .float .f32 x, .int .i64 t] w (RestR n ss x t w) := by
  have HR := Lib.hid hF.rest
  have HX := Lib.hid (And.intro hs hm)
  have HF := Lib.hid hF
  obtain ⟨b, o, rfl⟩ := hs.at (by rw [fl_len32, hF.rest.len]; exact Nat.mul_pos hF.rest.lo hF.rest.lo)
  have H0 : Hid (ChBox w (w.alloc (.cells #[.int .i64 n, .slice (some ⟨b, o, none⟩) m c] 34)) n (some ⟨b, o, none⟩) m c) := Lib.hid ⟨Whole.made _ _ _, (by repeat (first | with_reducible exact Below.refl _ _ | with_reducible exact HBL | with_reducible refine Below.drew ?_ | with_reducible refine Bel_drewN ?_ _ | with_reducible refine Below.alloc ?_ (by first | omega | (simp; done) | (simp; omega)) _ | with_reducible refine Below.setCell ?_ (by first | omega | (simp; done) | (simp; omega)) _))⟩
  have ht' : (t : Int) ≤ 512 := by omega
  have ht1' : (1 : Int) ≤ t := by omega
  have hn1 : (1 : Int) ≤ n := by have := hF.rest.lo; omega
  have hn12 : (n : Int) ≤ 12 := by have := hF.rest.hi; omega
  have hfin : finA .f32 (av .f32 x) = true := by unfold leastB at hx; simp only [Bool.and_eq_true] at hx; exact hx.1
  have hlt0 : ltB x 0 = false := by
    cases h : ltB x 0 with
    | false => rfl
    | true => have := lt_least h; rw [hx] at this; cases this
  have hlt := lt_factB hlt0
  have hquo : ∀ (t : TypeId) (w : World), (binOp .quo t (.float .f32 1065353216) (.float .f32 (floatOfInt .f32 (n : Int)))).run Try.prog w = .ok (.float .f32 (invX n)) w := fun t w => run_float_arith w _ _ _ _ _ _ (inv_ok n hF.rest.hi hF.rest.lo).1
  have HFN := Lib.hid hfin
  clear hs hm hF hfin hlt0
  go_enter Try.func39, Try.ntmps39
  go_wp2_with (first | (go_at_call 68; fail))
  refine ((implValidChain_any n ss m HX.out.2 _ c _ (HX.out.1.below H0.out.2) hlen hc).mono fun e w1 h => Bo.yes HF.out h).mono ?_
  rintro e w1 ⟨rfl, hw1⟩
  have H1 := Lib.hid (H0.out.below hw1)
  clear hw1 H0
  obtain ⟨hcb, hfb⟩ := H1.out.1.facts
  go_wp2_with (first | (go_at_call 89; fail))
  refine (IsFinite_any _ _).mono ?_
  rintro e w' ⟨q, rfl, rfl⟩
  rw [HFN.out]
  have hz := H1.out.1.lt
  obtain ⟨hcc, hff⟩ := ((H1.out.1.drewN q).alloc (.cells #[.float .f32 (invX n)] 47)).facts
  go_wp2_with (first | (go_at_call 90; fail))
  clear hquo hcb hfb hcc hff
  refine (repeat_any (invX n) n _ _ _ _ ?_ HR.out.lo HR.out.hi (Nat.le_refl _) ?_).mono ?_
  · exact (Whole.made (w1.drewN q) 47 #[.float .f32 (invX n)]).cell 0
  · simp
  rintro e w2 ⟨ao2, c2, rfl, hrow, hw2⟩
  rw [← rest_zero n ss] at hrow
  have H2 : Hid (ChBox w w2 n (some ⟨b, o, none⟩) m c ∧ Row w2 w.heap.size w2.heap.size ao2 (fl .f32 (restL n ss 0))) := Lib.hid (by
    have h1 : ChBox w ((w1.drewN q).alloc (.cells #[.float .f32 (invX n)] 47)) n (some ⟨b, o, none⟩) m c := ⟨(H1.out.1.drewN q).alloc _, (Bel_drewN H1.out.2 q).alloc (by simp; omega) _⟩
    exact ⟨h1.below hw2, hrow.wide h1.2.size (Nat.le_refl _)⟩)
  clear hrow hw2 hz H1
  go_wp2_with fail
  go_loopw [9, 41] (fun v i wr => ∃ (j : Nat) (ao3 : Option Addr) (c3 : Nat), j ≤ t ∧ i = .int .i64 j ∧ v = .slice ao3 n c3 ∧ (∀ i, i < j → stays n ss x i = false) ∧ ChBox w wr n (some ⟨b, o, none⟩) m c ∧ Row wr w.heap.size wr.heap.size ao3 (fl .f32 (restL n ss j))) (fun _ i _ => t - (intOf i).toNat)
  case atStart => exact ⟨0, _, _, Nat.zero_le _, rfl, rfl, fun i hi => absurd hi (Nat.not_lt_zero _), H2.out⟩
  case round =>
    obtain ⟨j, ao3, c3, hj, rfl, rfl, hst, hbox, hrow⟩ := hrel
    have H := Lib.hid (And.intro hbox hrow)
    have HST := Lib.hid hst
    have hz := hbox.1.lt
    obtain ⟨hcb, hfb⟩ := hbox.1.facts
    have hjt : (j : Int) ≤ t := by omega
    clear hbox hrow H2 hst
    by_cases hlt2 : j < t
    · have hlt' : (j : Int) < t := by omega
      go_wp2_with (first | (go_at_call 91; fail))
      clear hcb hfb
      refine (stepRow_any ss (restL n ss j) (runF n ss (startF n) j) n b o m c c3 ao3 _ (HX.out.1.below H.out.1.2) H.out.2.holds HR.out.lo HR.out.hi (by rw [← HX.out.2]; exact HR.out.len) HX.out.2 (restL_len _ _ _) (fun i hi => HR.out.av (by omega) hi)).mono ?_
      rintro e w3 ⟨es, ao4, c4, rfl, hel, hes, hrow2, hw3⟩
      obtain rfl : es = restL n ss (j + 1) := listF_of hel hes (HR.out.fin (j := j + 1) (by omega))
      have H3 : Hid (ChBox w w3 n (some ⟨b, o, none⟩) m c ∧ Row w3 w.heap.size w3.heap.size ao4 (fl .f32 (restL n ss (j + 1))) ∧ Row w3 w.heap.size w3.heap.size ao3 (fl .f32 (restL n ss j))) := Lib.hid ⟨H.out.1.below hw3, hrow2.wide H.out.1.2.size (Nat.le_refl _), (H.out.2.below hw3).wide (Nat.le_refl _) hw3.size⟩
      clear hel hes hrow2 hw3
      go_wp2_with (first | (go_at_call 92; fail))
      refine (farthest_any (restL n ss j) (restL n ss (j + 1)) n ao3 ao4 c3 c4 _ H3.out.2.2.holds H3.out.2.1.holds (restL_len _ _ _) (restL_len _ _ _) (HR.out.finL (by omega)) (HR.out.finL (by omega)) (by omega)).mono ?_
      rintro e w4 ⟨rfl, q4, rfl⟩
      have H4 : Hid (ChBox w (w3.drewN q4) n (some ⟨b, o, none⟩) m c ∧ Row (w3.drewN q4) w.heap.size (w3.drewN q4).heap.size ao4 (fl .f32 (restL n ss (j + 1)))) := Lib.hid ⟨H3.out.1.drewN q4, H3.out.2.1.drewN q4⟩
      clear H3 H hz
      cases hs : stays n ss x j with
      | true =>
        have HS := Lib.hid hs
        have hs2 := le_factB (x := Ieee.single.word false (farR (restL n ss j) (restL n ss (j + 1)) n)) (y := x) hs
        clear hs
        go_wp2_with fail
        refine bodyPost_ret (v := .tuple #[.slice ao4 n c4, .int .i64 ((j + 1 : Nat) : Int), .bool true]) (by simp [results, Try.results39, go_sem]) rfl ?_
        exact .inl ⟨j, ⟨hlt2, HS.out, HST.out⟩, _, _, rfl, H4.out.2, H4.out.1.2⟩
      | false =>
        have HS := Lib.hid hs
        have hs2 := le_factB (x := Ieee.single.word false (farR (restL n ss j) (restL n ss (j + 1)) n)) (y := x) hs
        clear hs
        go_wp2_with fail
        go_roundw
        case rel =>
          refine ⟨j + 1, ao4, c4, by omega, by go_num, rfl, fun i hi => ?_, H4.out⟩
          by_cases e : i = j
          · subst e; exact HS.out
          · exact HST.out i (by omega)
        case measure => simp [intOf]; omega
    · obtain rfl : j = t := by omega
      clear hcb hfb
      go_wp2_with fail
      refine bodyPost_ret (v := .tuple #[.slice none 0 0, .int .i64 0, .bool false]) (by simp [results, Try.results39, go_sem]) rfl ?_
      exact .inr ⟨fun k hk => (by have := HST.out k hk.lt; rw [hk.here] at this; cases this), rfl, H.out.1.2⟩
set_option maxRecDepth 100000 in
set_option maxHeartbeats 4000000 in
theorem implRest_no (s : Int) (ss : List Nat) (x : Nat) (t : Int) (m : Nat) (hm : ss.length = m) (ao : Option Addr) (c : Nat) (w : World) (hs : Holds w ao (fl .f32 ss)) (hlen : m ≤ 1048576) (hc : m ≤ c) (hN : ¬restOk s ss x t) :
    Calls Try.prog 39 #[.agg #[.int .i64 s, .slice ao m c], .float .f32 x, .int .i64 t] w (RetB (.tuple #[.slice none 0 0, .int .i64 0, .bool false]) w) := by
  have HX := Lib.hid (And.intro hs hm)
  have HN := Lib.hid hN
  have H0 : Hid (ChBox w (w.alloc (.cells #[.int .i64 s, .slice ao m c] 34)) s ao m c) := Lib.hid ⟨Whole.made _ _ _, (by repeat (first | with_reducible exact Below.refl _ _ | with_reducible exact HBL | with_reducible refine Below.drew ?_ | with_reducible refine Bel_drewN ?_ _ | with_reducible refine Below.alloc ?_ (by first | omega | (simp; done) | (simp; omega)) _ | with_reducible refine Below.setCell ?_ (by first | omega | (simp; done) | (simp; omega)) _))⟩
  clear hs hm hN
  go_enter Try.func39, Try.ntmps39
  go_wp2_with (first | (go_at_call 68; fail))
  refine (implValidChain_any s ss m HX.out.2 _ c _ (HX.out.1.below H0.out.2) hlen hc).mono ?_
  rintro e w1 ⟨bf, rfl, hbf, hw1⟩
  have H1 := Lib.hid (H0.out.below hw1)
  have HB := Lib.hid hbf
  clear hw1 H0 hbf
  cases bf with
  | false =>
    go_wp2_with (first | (go_at_call 89; fail))
    exact bodyPost_ret (v := .tuple #[.slice none 0 0, .int .i64 0, .bool false]) (by simp [results, Try.results39, go_sem]) rfl ⟨rfl, H1.out.2⟩
  | true =>
    go_wp2_with (first | (go_at_call 89; fail))
    refine (IsFinite_any _ _).mono ?_
    rintro e w' ⟨q, rfl, rfl⟩
    cases hf : finA .f32 (av .f32 x) with
    | false =>
      go_wp2_with fail
      exact bodyPost_ret (v := .tuple #[.slice none 0 0, .int .i64 0, .bool false]) (by simp [results, Try.results39, go_sem]) rfl ⟨rfl, Bel_drewN H1.out.2 q⟩
    | true =>
      cases h0 : ltB x 0 with
      | true =>
        have hlt := lt_factB h0
        go_wp2_with fail
        exact bodyPost_ret (v := .tuple #[.slice none 0 0, .int .i64 0, .bool false]) (by simp [results, Try.results39, go_sem]) rfl ⟨rfl, Bel_drewN H1.out.2 q⟩
      | false =>
        have hle : leastB x = true := by unfold leastB; rw [hf, lt_ge hf, h0]; rfl
        have ht : ¬(1 ≤ t ∧ t ≤ 512) := fun h => HN.out ⟨HB.out.1 trivial, hle, h⟩
        have hlt := lt_factB h0
        clear hle hf h0
        by_cases h1 : t < 1
        · go_wp2_with fail
          exact bodyPost_ret (v := .tuple #[.slice none 0 0, .int .i64 0, .bool false]) (by simp [results, Try.results39, go_sem]) rfl ⟨rfl, Bel_drewN H1.out.2 q⟩
        · have h2 : 512 < t := by omega
          go_wp2_with fail
          exact bodyPost_ret (v := .tuple #[.slice none 0 0, .int .i64 0, .bool false]) (by simp [results, Try.results39, go_sem]) rfl ⟨rfl, Bel_drewN H1.out.2 q⟩
theorem implRest_is (s : Int) (ss : List Nat) (x : Nat) (t : Int) (k m : Nat) (hm : ss.length = m) (ao : Option Addr) (c : Nat) (w : World) (hs : Holds w ao (fl .f32 ss)) (hlen : m ≤ 1048576) (hc : m ≤ c) (h : restOk s ss x t) (hk : restAt s.toNat ss x t.toNat k) :
    Calls Try.prog 39 #[.agg #[.int .i64 s, .slice ao m c], .float .f32 x, .int .i64 t] w (RetL s.toNat (fl .f32 (restL s.toNat ss (k + 1))) (fun s => .tuple #[s, .int .i64 ((k + 1 : Nat) : Int), .bool true]) w) := by
  obtain ⟨n, rfl⟩ : ∃ n : Nat, s = n := ⟨s.toNat, by have := h.1.side; omega⟩
  obtain ⟨u, rfl⟩ : ∃ u : Nat, t = u := ⟨t.toNat, by have := h.2.2; omega⟩
  simp only [Int.toNat_natCast] at hk ⊢
  refine (implRest_yes n ss x u m hm ao c w hs hlen hc h.1 h.2.1 (by have := h.2.2; omega) (by have := h.2.2; omega)).mono ?_
  rintro e w1 (⟨q, hq, hr⟩ | ⟨hq, _⟩)
  · obtain rfl := hk.same hq; exact hr
  · exact absurd hk (hq k)
theorem implRest_not (s : Int) (ss : List Nat) (x : Nat) (t : Int) (m : Nat) (hm : ss.length = m) (ao : Option Addr) (c : Nat) (w : World) (hs : Holds w ao (fl .f32 ss)) (hlen : m ≤ 1048576) (hc : m ≤ c) (hN : ¬ ∃ k, restOk s ss x t ∧ restAt s.toNat ss x t.toNat k) :
    Calls Try.prog 39 #[.agg #[.int .i64 s, .slice ao m c], .float .f32 x, .int .i64 t] w (RetB (.tuple #[.slice none 0 0, .int .i64 0, .bool false]) w) := by
  by_cases h : restOk s ss x t
  · obtain ⟨n, rfl⟩ : ∃ n : Nat, s = n := ⟨s.toNat, by have := h.1.side; omega⟩
    obtain ⟨u, rfl⟩ : ∃ u : Nat, t = u := ⟨t.toNat, by have := h.2.2; omega⟩
    simp only [Int.toNat_natCast] at hN
    refine (implRest_yes n ss x u m hm ao c w hs hlen hc h.1 h.2.1 (by have := h.2.2; omega) (by have := h.2.2; omega)).mono ?_
    rintro e w1 (⟨q, hq, _⟩ | ⟨_, hr⟩)
    · exact absurd ⟨q, h, hq⟩ hN
    · exact hr
  · exact implRest_no s ss x t m hm ao c w hs hlen hc h
end Go.Proofs.Ytgeomaeccalceaa
/- RestOf of the model. -/
namespace Go.Proofs.Ytgeomaeccalceaa
open Go Go.RowKit Fl Vag
set_option linter.unusedVariables false
set_option maxRecDepth 100000 in
set_option maxHeartbeats 4000000 in
theorem specRest_yes (n : Nat) (ss : List Nat) (x t m : Nat) (hm : ss.length = m) (ao : Option Addr) (c : Nat) (w : World) (hs : Holds w ao (fl .f32 ss)) (hlen : m ≤ 1048576) (hF : isChain (n : Int) ss) (hx : leastB x = true) (ht1 : 1 ≤ t) (ht : t ≤ 512) :
    Calls Try.prog 38 #[.agg #[.int .i64 n, .slice ao m c], .float .f32 x, .int .i64 t] w (RestR n ss x t w) := by
  have HR := Lib.hid hF.rest
  have HX := Lib.hid (And.intro hs hm)
  have HF := Lib.hid hF
  obtain ⟨b, o, rfl⟩ := hs.at (by rw [fl_len32, hF.rest.len]; exact Nat.mul_pos hF.rest.lo hF.rest.lo)
  have H0 : Hid (ChBox w (w.alloc (.cells #[.int .i64 n, .slice (some ⟨b, o, none⟩) m c] 34)) n (some ⟨b, o, none⟩) m c) := Lib.hid ⟨Whole.made _ _ _, (by repeat (first | with_reducible exact Below.refl _ _ | with_reducible exact HBL | with_reducible refine Below.drew ?_ | with_reducible refine Bel_drewN ?_ _ | with_reducible refine Below.alloc ?_ (by first | omega | (simp; done) | (simp; omega)) _ | with_reducible refine Below.setCell ?_ (by first | omega | (simp; done) | (simp; omega)) _))⟩
  have ht' : (t : Int) ≤ 512 := by omega
  have ht1' : (1 : Int) ≤ t := by omega
  have hn1 : (1 : Int) ≤ n := by have := hF.rest.lo; omega
  have hn12 : (n : Int) ≤ 12 := by have := hF.rest.hi; omega
  have HQ : Hid (∀ (t : TypeId) (w : World), (binOp .quo t (.float .f32 1065353216) (.float .f32 (floatOfInt .f32 (n : Int)))).run Try.prog w = .ok (.float .f32 (invX n)) w) := Lib.hid fun t w => run_float_arith w _ _ _ _ _ _ (inv_ok n hF.rest.hi hF.rest.lo).1
  have HLE := Lib.hid hx
  clear hs hm hF hx
  go_enter Try.func38, Try.ntmps38
  go_wp2_with (first | (go_at_call 75; fail))
  refine ((l07Is_any n ss m HX.out.2 _ c _ _ H0.out.1 (HX.out.1.below H0.out.2) hlen).mono fun e w1 h => BoD.yes HF.out h).mono ?_
  rintro e w1 ⟨q, rfl, rfl⟩
  go_wp2_with (first | (go_at_call 87; fail))
  refine (l02Least_any x _).mono ?_
  rintro e w' ⟨q2, rfl, rfl⟩
  rw [HLE.out]
  go_wp2_with (first | (go_at_call 64; fail))
  refine (l00In_yes _ _ _ ht1' ht' _).mono ?_
  rintro e w' ⟨rfl, rfl⟩
  have H2 := Lib.hid (H0.out.drewN (q + q2))
  have hz := H2.out.1.lt
  clear H0
  go_wp2_with fail
  go_loopw [9, 10] (fun v i wr => ∃ (k : Nat), k ≤ n ∧ i = .int .i64 k ∧ wr.ownsRow (w.heap.size + 1) 47 1 v k (fl .f32 (List.replicate k (invX n))) ∧ ChBox w wr n (some ⟨b, o, none⟩) m c) (fun _ i _ => n - (intOf i).toNat)
  case atStart =>
    have hsz : ((w.alloc (.cells #[.int .i64 n, .slice (some ⟨b, o, none⟩) m c] 34)).drewN (q + q2)).heap.size = w.heap.size + 1 := by simp
    have h := World.ownsRow_made (base := w.heap.size + 1) (e := 47) (size := 1) ((w.alloc (.cells #[.int .i64 n, .slice (some ⟨b, o, none⟩) m c] 34)).drewN (q + q2)) #[] 0 hz (Nat.zero_le _) rfl
    rw [hsz] at h
    exact ⟨0, Nat.zero_le _, rfl, h, H2.out.1.alloc _, (H2.out.2).alloc (Nat.le_of_lt hz) _⟩
  case round =>
    obtain ⟨k, hk, rfl, hown, hbox⟩ := hrel
    have H := Lib.hid (And.intro hown hbox)
    have hkn : (k : Int) ≤ n := by omega
    have hz2 := hbox.1.lt
    have hcg := hbox.1.cell
    clear H2 hown hbox
    by_cases hlt : k < n
    · have hlt' : (k : Int) < n := by omega
      have hquo := HQ.out
      go_wp2_with (at_builtin; refine wpList_app1 rfl _ _ 25 rfl (w.heap.size + 1) 47 (.float .f32 0) 4 Try.underlying25 (by kernel_rfl) rfl _ k _ rfl (H.out.1.alloc _) _ _ (.float .f32 (invX n)) rfl ?_ rfl ⟨by omega, by omega⟩ ?_ ?_)
      · exact (Whole.made wr 47 #[.float .f32 (invX n)]).cell 0
      · simp; omega
      · intro v' w' hown' hgr'
        have hb1 : ChBox w (wr.alloc (.cells #[.float .f32 (invX n)] 47)) n (some ⟨b, o, none⟩) m c := ⟨H.out.2.1.alloc _, (H.out.2.2).alloc (by omega) _⟩
        have hb2 : ChBox w w' n (some ⟨b, o, none⟩) m c := ⟨hb1.1.grown hgr' (own_ne' H.out.1 (by omega)), hb1.2.grown hgr' (by simp; omega) (fun i hi => by have := own_ge H.out.1 i hi; omega)⟩
        have ho3 : w'.ownsRow (w.heap.size + 1) 47 1 v' (k + 1) (fl .f32 (List.replicate (k + 1) (invX n))) := by rw [List.replicate_succ', fl, List.map_append]; exact hown'
        have H3 := Lib.hid (And.intro ho3 hb2)
        clear hown' hgr' hb1 hb2 ho3 hquo
        go_wp2_with fail
        go_roundw
        case rel => exact ⟨k + 1, by omega, by go_num, H3.out⟩
        case measure => simp [intOf]; omega
    · obtain rfl : k = n := by omega
      obtain ⟨ao2, c2, rfl⟩ := own_form H.out.1
      have H4 : Hid (ChBox w wr k (some ⟨b, o, none⟩) m c ∧ Row wr w.heap.size wr.heap.size ao2 (fl .f32 (restL k ss 0))) := Lib.hid ⟨H.out.2, by rw [rest_zero]; exact (Row.of_own H.out.1).wide (by omega) (Nat.le_refl _)⟩
      clear H hz2
      go_wp2_with fail
      clear hcg
      go_loopw [9, 11] (fun v i wr => ∃ (j : Nat) (ao3 : Option Addr) (c3 : Nat), j ≤ t ∧ i = .int .i64 ((j : Int) + 1) ∧ v = .slice ao3 k c3 ∧ (∀ i, i < j → stays k ss x i = false) ∧ ChBox w wr k (some ⟨b, o, none⟩) m c ∧ Row wr w.heap.size wr.heap.size ao3 (fl .f32 (restL k ss j))) (fun _ i _ => t + 1 - (intOf i).toNat)
      case atStart => exact ⟨0, _, _, Nat.zero_le _, rfl, rfl, fun i hi => absurd hi (Nat.not_lt_zero _), H4.out⟩
      case round =>
        rename World => wr0
        obtain ⟨j, ao3, c3, hj, rfl, rfl, hst, hbox, hrow⟩ := hrel
        have H := Lib.hid (And.intro hbox hrow)
        have HST := Lib.hid hst
        have hjt : (j : Int) ≤ t := by omega
        clear hbox hrow H4 hst hz
        by_cases hlt2 : j < t
        · have hlt' : (j : Int) + 1 ≤ t := by omega
          go_wp2_with (first | (go_at_call 88; fail))
          refine (l07Step_any ss (restL k ss j) (runF k ss (startF k) j) k _ b o m c c3 ao3 _ H.out.1.1 (HX.out.1.below H.out.1.2) H.out.2.holds HR.out.lo HR.out.hi (by rw [← HX.out.2]; exact HR.out.len) HX.out.2 (restL_len _ _ _) (fun i hi => HR.out.av (by omega) hi)).mono ?_
          rintro e w3 ⟨es, ao4, c4, rfl, hel, hes, hrow2, hw3⟩
          obtain rfl : es = restL k ss (j + 1) := listF_of hel hes (HR.out.fin (j := j + 1) (by omega))
          have H3 : Hid (ChBox w w3 k (some ⟨b, o, none⟩) m c ∧ Row w3 w.heap.size w3.heap.size ao4 (fl .f32 (restL k ss (j + 1))) ∧ Row w3 w.heap.size w3.heap.size ao3 (fl .f32 (restL k ss j))) := Lib.hid ⟨H.out.1.below hw3, hrow2.wide H.out.1.2.size (Nat.le_refl _), (H.out.2.below hw3).wide (Nat.le_refl _) hw3.size⟩
          have HFL : Hid (finL k (restL k ss (j + 1)) ∧ finL k (restL k ss j)) := Lib.hid ⟨HR.out.finL (by omega), HR.out.finL (by omega)⟩
          clear hel hes hrow2 hw3 H
          go_wp2_with fail
          rename World => w30
          go_loopw [13, 51] (fun v i wr => ∃ (i2 q : Nat), i2 ≤ k ∧ i = .int .i64 i2 ∧ v = .float .f32 (Ieee.single.word false (farR (restL k ss (j + 1)) (restL k ss j) i2)) ∧ wr = w30.drewN q) (fun _ i _ => k - (intOf i).toNat)
          case atStart => exact ⟨0, 0, Nat.zero_le _, rfl, rfl, rfl⟩
          case round =>
            obtain ⟨i2, q3, hi2, rfl, rfl, rfl⟩ := hrel
            have hi2' : (i2 : Int) ≤ k := by omega
            by_cases hlt3 : i2 < k
            · have hlt3' : (i2 : Int) < k := by omega
              obtain ⟨b1, o1, rfl, hcx⟩ := H3.out.2.1.holds i2 (by rw [fl_len32, restL_len]; exact hlt3)
              rw [fl_get _ _ _ (by rw [restL_len]; exact hlt3)] at hcx
              obtain ⟨b2, o2, rfl, hcy⟩ := H3.out.2.2.holds i2 (by rw [fl_len32, restL_len]; exact hlt3)
              rw [fl_get _ _ _ (by rw [restL_len]; exact hlt3)] at hcy
              obtain ⟨s, _, e1, _, hr, _, _⟩ := gap_is (HFL.out.1 i2 hlt3) (HFL.out.2 i2 hlt3)
              have hM := farR_le HFL.out.1 HFL.out.2 (Nat.le_of_lt hlt3)
              have HSZ := Lib.hid (l07Size_any s (gapR (restL k ss (j + 1)) (restL k ss j) i2) hr)
              have hgt := gt_kind hM hr
              have HST2 : Hid (farR (restL k ss (j + 1)) (restL k ss j) (i2 + 1) = max (farR (restL k ss (j + 1)) (restL k ss j) i2) (gapR (restL k ss (j + 1)) (restL k ss j) i2)) := Lib.hid rfl
              generalize (restL k ss (j + 1))[i2]?.getD 0 = y1 at hcx e1
              generalize (restL k ss j)[i2]?.getD 0 = y2 at hcy e1
              generalize farR (restL k ss (j + 1)) (restL k ss j) i2 = M at hgt HST2 hM
              generalize gapR (restL k ss (j + 1)) (restL k ss j) i2 = r at hgt HST2 HSZ e1 hr
              obtain ⟨D, hD⟩ : ∃ D, Ieee.single.word s r = D := ⟨_, rfl⟩
              rw [hD] at HSZ e1
              have hm3 : ∀ (t : TypeId) (w : World), (binOp .sub t (.float .f32 y1) (.float .f32 y2)).run Try.prog w = .ok (.float .f32 D) w := fun t w => run_float_arith w _ _ _ _ _ _ e1
              clear hM hr hD e1
              go_wp2_with fail
              go_quiet (first | (go_at_call 84; exact (HSZ.out _).mono fun e w' h => ⟨h.1, _, h.2⟩))
              clear hcx hcy hm3
              by_cases hMr : M < r
              · rw [decide_eq_true hMr] at hgt
                have hv : farR (restL k ss (j + 1)) (restL k ss j) (i2 + 1) = r := by rw [HST2.out]; omega
                go_wp2_with fail
                go_roundw
                case rel => exact ⟨i2 + 1, _, by omega, by go_num, by rw [hv], rfl⟩
                case measure => simp [intOf]; omega
              · rw [decide_eq_false hMr] at hgt
                have hv : farR (restL k ss (j + 1)) (restL k ss j) (i2 + 1) = M := by rw [HST2.out]; omega
                go_wp2_with fail
                go_roundw
                case rel => exact ⟨i2 + 1, _, by omega, by go_num, by rw [hv], rfl⟩
                case measure => simp [intOf]; omega
            · obtain rfl : i2 = k := by omega
              have H4 : Hid (ChBox w (w30.drewN q3) i2 (some ⟨b, o, none⟩) m c ∧ Row (w30.drewN q3) w.heap.size (w30.drewN q3).heap.size ao4 (fl .f32 (restL i2 ss (j + 1)))) := Lib.hid ⟨H3.out.1.drewN q3, H3.out.2.1.drewN q3⟩
              rw [farR_sym HFL.out.2 HFL.out.1 (Nat.le_refl _)]
              cases hs : stays i2 ss x j with
              | true =>
                have HS := Lib.hid hs
                have hs2 := le_factB (x := Ieee.single.word false (farR (restL i2 ss j) (restL i2 ss (j + 1)) i2)) (y := x) hs
                clear hs
                go_wp2_with fail
                refine bodyPost_ret (v := .tuple #[.slice ao4 i2 c4, .int .i64 ((j + 1 : Nat) : Int), .bool true]) (by simp [results, Try.results38, go_sem]) rfl ?_
                exact .inl ⟨j, ⟨hlt2, HS.out, HST.out⟩, _, _, rfl, H4.out.2, H4.out.1.2⟩
              | false =>
                have HS := Lib.hid hs
                have hs2 := le_factB (x := Ieee.single.word false (farR (restL i2 ss j) (restL i2 ss (j + 1)) i2)) (y := x) hs
                clear hs
                go_wp2_with fail
                go_roundw
                case rel =>
                  refine ⟨j + 1, ao4, c4, by omega, by go_num, rfl, fun i hi => ?_, H4.out⟩
                  by_cases e : i = j
                  · subst e; exact HS.out
                  · exact HST.out i (by omega)
                case measure => simp [intOf]; omega
        · obtain rfl : j = t := by omega
          go_wp2_with fail
          refine bodyPost_ret (v := .tuple #[.slice none 0 0, .int .i64 0, .bool false]) (by simp [results, Try.results38, go_sem]) rfl ?_
          exact .inr ⟨fun k hk => (by have := HST.out k hk.lt; rw [hk.here] at this; cases this), rfl, H.out.1.2⟩
set_option maxRecDepth 100000 in
set_option maxHeartbeats 4000000 in
theorem specRest_no (s : Int) (ss : List Nat) (x : Nat) (t : Int) (m : Nat) (hm : ss.length = m) (ao : Option Addr) (c : Nat) (w : World) (hs : Holds w ao (fl .f32 ss)) (hlen : m ≤ 1048576) (hN : ¬restOk s ss x t) :
    Calls Try.prog 38 #[.agg #[.int .i64 s, .slice ao m c], .float .f32 x, .int .i64 t] w (RetB (.tuple #[.slice none 0 0, .int .i64 0, .bool false]) w) := by
  have HX := Lib.hid (And.intro hs hm)
  have HN := Lib.hid hN
  have H0 : Hid (ChBox w (w.alloc (.cells #[.int .i64 s, .slice ao m c] 34)) s ao m c) := Lib.hid ⟨Whole.made _ _ _, (by repeat (first | with_reducible exact Below.refl _ _ | with_reducible exact HBL | with_reducible refine Below.drew ?_ | with_reducible refine Bel_drewN ?_ _ | with_reducible refine Below.alloc ?_ (by first | omega | (simp; done) | (simp; omega)) _ | with_reducible refine Below.setCell ?_ (by first | omega | (simp; done) | (simp; omega)) _))⟩
  clear hs hm hN
  go_enter Try.func38, Try.ntmps38
  go_wp2_with (first | (go_at_call 75; fail))
  refine (l07Is_any s ss m HX.out.2 _ c _ _ H0.out.1 (HX.out.1.below H0.out.2) hlen).mono ?_
  rintro e w1 ⟨bf, q, rfl, hbf, rfl⟩
  have HB := Lib.hid hbf
  clear hbf
  cases bf with
  | false =>
    go_wp2_with (first | (go_at_call 87; fail) | (go_at_call 64; fail))
    exact bodyPost_ret (v := .tuple #[.slice none 0 0, .int .i64 0, .bool false]) (by simp [results, Try.results38, go_sem]) rfl ⟨rfl, Bel_drewN H0.out.2 _⟩
  | true =>
    go_wp2_with (first | (go_at_call 87; fail))
    refine (l02Least_any x _).mono ?_
    rintro e w' ⟨q2, rfl, rfl⟩
    cases hf : leastB x with
    | false =>
      go_wp2_with (first | (go_at_call 64; fail))
      exact bodyPost_ret (v := .tuple #[.slice none 0 0, .int .i64 0, .bool false]) (by simp [results, Try.results38, go_sem]) rfl ⟨rfl, Bel_drewN H0.out.2 _⟩
    | true =>
      have ht : t < 1 ∨ 512 < t := by
        by_cases h : 1 ≤ t ∧ t ≤ 512
        · exact absurd ⟨HB.out.1 trivial, hf, h⟩ HN.out
        · omega
      clear hf
      go_wp2_with (first | (go_at_call 64; fail))
      refine (l00In_no _ _ _ ht _).mono ?_
      rintro e w' ⟨rfl, rfl⟩
      go_wp2_with fail
      exact bodyPost_ret (v := .tuple #[.slice none 0 0, .int .i64 0, .bool false]) (by simp [results, Try.results38, go_sem]) rfl ⟨rfl, Bel_drewN H0.out.2 _⟩
theorem specRest_is (s : Int) (ss : List Nat) (x : Nat) (t : Int) (k m : Nat) (hm : ss.length = m) (ao : Option Addr) (c : Nat) (w : World) (hs : Holds w ao (fl .f32 ss)) (hlen : m ≤ 1048576) (h : restOk s ss x t) (hk : restAt s.toNat ss x t.toNat k) :
    Calls Try.prog 38 #[.agg #[.int .i64 s, .slice ao m c], .float .f32 x, .int .i64 t] w (RetL s.toNat (fl .f32 (restL s.toNat ss (k + 1))) (fun s => .tuple #[s, .int .i64 ((k + 1 : Nat) : Int), .bool true]) w) := by
  obtain ⟨n, rfl⟩ : ∃ n : Nat, s = n := ⟨s.toNat, by have := h.1.side; omega⟩
  obtain ⟨u, rfl⟩ : ∃ u : Nat, t = u := ⟨t.toNat, by have := h.2.2; omega⟩
  simp only [Int.toNat_natCast] at hk ⊢
  refine (specRest_yes n ss x u m hm ao c w hs hlen h.1 h.2.1 (by have := h.2.2; omega) (by have := h.2.2; omega)).mono ?_
  rintro e w1 (⟨q, hq, hr⟩ | ⟨hq, _⟩)
  · obtain rfl := hk.same hq; exact hr
  · exact absurd hk (hq k)
theorem specRest_not (s : Int) (ss : List Nat) (x : Nat) (t : Int) (m : Nat) (hm : ss.length = m) (ao : Option Addr) (c : Nat) (w : World) (hs : Holds w ao (fl .f32 ss)) (hlen : m ≤ 1048576) (hN : ¬ ∃ k, restOk s ss x t ∧ restAt s.toNat ss x t.toNat k) :
    Calls Try.prog 38 #[.agg #[.int .i64 s, .slice ao m c], .float .f32 x, .int .i64 t] w (RetB (.tuple #[.slice none 0 0, .int .i64 0, .bool false]) w) := by
  by_cases h : restOk s ss x t
  · obtain ⟨n, rfl⟩ : ∃ n : Nat, s = n := ⟨s.toNat, by have := h.1.side; omega⟩
    obtain ⟨u, rfl⟩ : ∃ u : Nat, t = u := ⟨t.toNat, by have := h.2.2; omega⟩
    simp only [Int.toNat_natCast] at hN
    refine (specRest_yes n ss x u m hm ao c w hs hlen h.1 h.2.1 (by have := h.2.2; omega) (by have := h.2.2; omega)).mono ?_
    rintro e w1 (⟨q, hq, _⟩ | ⟨_, hr⟩)
    · exact absurd ⟨q, h, hq⟩ hN
    · exact hr
  · exact specRest_no s ss x t m hm ao c w hs hlen h
end Go.Proofs.Ytgeomaeccalceaa
