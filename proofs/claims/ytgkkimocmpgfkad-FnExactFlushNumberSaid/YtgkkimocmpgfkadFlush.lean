/- Flushed numbers: what the code and its model return. -/
import Derived.Test.YtgkkimocmpgfkadSub
import Derived.Test.YtgkkimocmpgfkadIn
import Derived.Below
namespace Go.Proofs.Ytgkkimocmpgfkad
open Go Go.RowKit Fl Ieee

theorem and_top63 (r : Nat) (h : r < 18446744073709551616) : r &&& 9223372036854775808 = (r / 9223372036854775808) * 9223372036854775808 := by
  have e1 : (9223372036854775808 : Nat) = 1 <<< 63 := rfl
  have e2 : r / 9223372036854775808 * 9223372036854775808 = ((r >>> 63) &&& 1) <<< 63 := by
    have := Nat.and_two_pow_sub_one_eq_mod (r >>> 63) 1
    rw [show (1 : Nat) = 2 ^ 1 - 1 from rfl, this, Nat.shiftLeft_eq, Nat.shiftRight_eq_div_pow]
    have e3 : (2 : Nat) ^ 63 = 9223372036854775808 := rfl
    rw [e3]
    omega
  rw [e2]
  apply Nat.eq_of_testBit_eq
  intro i
  rw [e1]
  simp only [Nat.testBit_and, Nat.testBit_shiftLeft, Nat.testBit_shiftRight]
  by_cases h : 63 ≤ i
  · simp [h]
  · simp [h]
theorem and_top31 (r : Nat) (h : r < 4294967296) : r &&& 2147483648 = (r / 2147483648) * 2147483648 := by
  have e1 : (2147483648 : Nat) = 1 <<< 31 := rfl
  have e2 : r / 2147483648 * 2147483648 = ((r >>> 31) &&& 1) <<< 31 := by
    have := Nat.and_two_pow_sub_one_eq_mod (r >>> 31) 1
    rw [show (1 : Nat) = 2 ^ 1 - 1 from rfl, this, Nat.shiftLeft_eq, Nat.shiftRight_eq_div_pow]
    have e3 : (2 : Nat) ^ 31 = 2147483648 := rfl
    rw [e3]
    omega
  rw [e2]
  apply Nat.eq_of_testBit_eq
  intro i
  rw [e1]
  simp only [Nat.testBit_and, Nat.testBit_shiftLeft, Nat.testBit_shiftRight]
  by_cases h : 31 ≤ i
  · simp [h]
  · simp [h]

theorem copysign_bits (r : Nat) (h : r < 18446744073709551616) :
    (bits .or .u64 (bits .andNot .u64 0 9223372036854775808) (bits .and .u64 (r : Int) 9223372036854775808)).toNat = (r / 9223372036854775808) * 9223372036854775808 := by
  have h1 := u64_and_nat r 9223372036854775808 h (by omega)
  have e : ((9223372036854775808 : Nat) : Int) = 9223372036854775808 := rfl
  rw [e, and_top63 r h] at h1
  have h0 : bits .andNot .u64 0 9223372036854775808 = ((0 : Nat) : Int) := by decide
  rw [h1, h0, u64_or_nat 0 _ (by omega) (by omega), Nat.zero_or, Int.toNat_natCast]

theorem Copysign_zero (r : Nat) (h : r < 18446744073709551616) (w : World) :
    Calls Try.prog 29 #[.float .f64 0, .float .f64 r] w (fun e w' => e = .returned (.float .f64 ((r / 9223372036854775808) * 9223372036854775808)) ∧ w = w') := by
  have H := Lib.hid (copysign_bits r h)
  go_enter Try.func29, Try.ntmps29
  go_wp2
  go_ret
  exact ⟨by simp [H.out], rfl⟩

/-- A zero with the sign of a word. -/
theorem widen_sign (a r : Nat) (h : a < 4294967296) (hs : subA a = true) (hr : Fv .f64 (widen (av .f32 a)) r) : r / 9223372036854775808 = a / 2147483648 := by
  unfold subA at hs
  simp only [Bool.and_eq_true, bne_iff_ne, ne_eq, decide_eq_true_eq] at hs
  obtain ⟨h0, h1⟩ := hs
  have hrd : single.read a = .number (a / 2147483648 % 2 == 1) (a % 2147483648) (-149) := by rw [read_single_cases, if_pos h1]
  have hn : av .f32 a = some a := av_some (k := .f32) (by show (single.read a).isNaN = false; rw [hrd]; rfl)
  have hlog : (a % 2147483648).log2 ≤ 23 := by have := (Nat.log2_lt h0 (k := 23)).2 (by omega); omega
  rw [hn] at hr
  have e : r = double.write (single.read a) := av_eq (k := .f64) hr.2
  rw [hrd] at e
  have e2 := nearest_exact (a / 2147483648 % 2 == 1) (a % 2147483648) (-149) h0 (by omega) (by omega) (by omega)
  have e3 : double.write (.number (a / 2147483648 % 2 == 1) (a % 2147483648) (-149)) = double.nearest (a / 2147483648 % 2 == 1) (a % 2147483648) (-149) := rfl
  rw [e3, e2] at e
  have a1 := shl_log_hi (a % 2147483648) 52 (by omega)
  have hb : ((-149 : Int) + ((a % 2147483648).log2 : Int) - 52 + 1074).toNat ≤ 2045 := by omega
  generalize (a % 2147483648) <<< (52 - (a % 2147483648).log2) = K at *
  generalize ((-149 : Int) + ((a % 2147483648).log2 : Int) - 52 + 1074).toNat = L at *
  have a1' : K < 9007199254740992 := a1
  clear a1 e2 e3
  rw [e]
  have hsw : double.signWeight = 9223372036854775808 := by decide
  have hlt : L * 4503599627370496 + K < 9223372036854775808 := by omega
  unfold Format.word
  rw [hsw]
  cases hb' : (a / 2147483648 % 2 == 1) with
  | true => have := beq_iff_eq.1 hb'; simp only [if_true]; omega
  | false => have := beq_eq_false_iff_ne.1 hb'; simp only [Bool.false_eq_true, if_false]; omega

/-- A number, flushed. -/
def flushA (a : Nat) : Option Nat := if subA a then some (a / 2147483648 * 2147483648) else av .f32 a

theorem zero_avs (q : Nat) (h : q < 2) : In .f64 R127 (av .f64 (q * 9223372036854775808)) ∧ narrow (av .f64 (q * 9223372036854775808)) = some (q * 2147483648) := by
  have : q = 0 ∨ q = 1 := by omega
  rcases this with rfl | rfl
  · exact ⟨⟨0, by decide, by decide⟩, by decide⟩
  · exact ⟨⟨9223372036854775808, by decide, by decide⟩, by decide⟩

def NumF (v : Option Nat) (w : World) (e : Ending) (w' : World) : Prop := ∃ r n, e = .returned (.float .f32 r) ∧ Fv .f32 v r ∧ w' = w.drewN n

theorem implFlush_any (a : Nat) (ha : Fv .f32 (av .f32 a) a) (w : World) : Calls Try.prog 11 #[.float .f32 a] w (NumF (flushA a) w) := by
  have hl : a < 4294967296 := ha.1
  cases hs : subA a with
  | false =>
    have HA := Lib.hid ha
    have HF := Lib.hid (show flushA a = av .f32 a by unfold flushA; rw [hs]; rfl)
    clear ha
    go_enter Try.func11, Try.ntmps11
    go_wp2_with (go_at_call 28; refine (implIsSubnormal_any _ _).mono ?_; rintro e w' ⟨rfl, rfl⟩)
    go_ret
    exact ⟨a, 0, rfl, by rw [HF.out]; exact HA.out, rfl⟩
  | true =>
    have HF := Lib.hid (show flushA a = some (a / 2147483648 * 2147483648) by unfold flushA; rw [hs]; rfl)
    have HW := Lib.hid (fun r => widen_sign a r hl hs)
    have HZ := Lib.hid (zero_avs (a / 2147483648) (by omega))
    clear ha
    go_enter Try.func11, Try.ntmps11
    go_wp2_with (first | (go_at_call 28; refine (implIsSubnormal_any _ _).mono ?_; rintro e w' ⟨rfl, rfl⟩) | (refine wpList_widen _ _ _ _ rfl Try.underlying22 Try.underlying25 ?_; intro r n hr) | (go_at_call 29; fail))
    refine (Copysign_zero _ hr.1 _).mono ?_
    rw [HW.out _ hr]
    rintro e w' ⟨rfl, rfl⟩
    have hw : av .f64 (a / 2147483648 * 9223372036854775808) = none ∨ In .f64 R127 (av .f64 (a / 2147483648 * 9223372036854775808)) ∨ (double.read (a / 2147483648 * 9223372036854775808)).isInfinity = true := .inr (.inl HZ.out.1)
    have HR := Lib.hid hr
    clear hr
    go_wp2_with (refine wpList_narrow _ _ _ _ rfl Try.underlying25 Try.underlying22 hw ?_; intro r3 n3 hr3)
    go_ret
    exact ⟨r3, _, rfl, by rw [HF.out]; rw [HZ.out.2] at hr3; exact hr3, rfl⟩
theorem specFlush_any (a : Nat) (ha : Fv .f32 (av .f32 a) a) (w : World) : Calls Try.prog 27 #[.float .f32 a] w (NumF (flushA a) w) := by
  have hl : a < 4294967296 := ha.1
  have hsp := sub_spec a _ ha
  have hbit := and_eq_zero (i64_and_nat (bitsA (av .f32 a)) 2139095040 (bitsA_lt ha) (by omega))
  rw [hsp] at hbit
  have HA := Lib.hid ha
  by_cases h8 : a % 2147483648 < 8388608
  · rw [decide_eq_true h8] at hbit
    have hn : av .f32 a = some a := av_some (k := .f32) (by show (single.read a).isNaN = false; rw [read_single_cases, if_pos h8]; rfl)
    have hF : Fv .f32 (flushA a) (a / 2147483648 * 2147483648) := by
      have hz : Fv .f32 (some (a / 2147483648 * 2147483648)) (a / 2147483648 * 2147483648) := by
        refine ⟨by show _ < 4294967296; omega, av_some (k := .f32) ?_⟩
        show (single.read _).isNaN = false
        rw [read_single_cases, if_pos (by omega)]; rfl
      unfold flushA
      split
      · exact hz
      · rename_i hs
        have : a % 2147483648 = 0 := by
          unfold subA at hs
          simp only [Bool.and_eq_true, bne_iff_ne, ne_eq, decide_eq_true_eq, not_and] at hs
          by_cases h0 : a % 2147483648 = 0
          · exact h0
          · exact absurd h8 (hs h0)
        have e : a / 2147483648 * 2147483648 = a := by omega
        rw [hn, e]
        rw [e] at hz; exact hz
    have hB : bitsA (av .f32 a) = a := by rw [hn]; rfl
    have h31 : (bits .and .i64 (bitsA (av .f32 a) : Int) 2147483648) = ((a / 2147483648 * 2147483648 : Nat) : Int) := by
      have := i64_and_nat a 2147483648 (by omega) (by omega)
      rw [and_top31 a hl] at this
      rw [hB]
      exact this
    have HF := Lib.hid hF
    have HC := Lib.hid (fun w => l01Bits_any a _ ha w)
    have hlt : (a / 2147483648 * 2147483648 : Nat) < 4294967296 := by omega
    clear hF hB hsp ha hn h8 HA
    generalize bitsA (av .f32 a) = B at *
    have H31 := Lib.hid h31
    clear h31
    generalize a / 2147483648 * 2147483648 = Z at *
    go_enter Try.func27, Try.ntmps27
    go_wp2_with (first | (go_at_call 45; refine (HC.out _).mono ?_; rintro e w' ⟨rfl, rfl⟩) | (go_at_call 46; fail))
    rw [H31.out]
    refine (l01From_any Z hlt _).mono ?_
    rintro e w' ⟨rfl, rfl⟩
    go_wp2
    go_ret
    exact ⟨Z, 0, rfl, HF.out, rfl⟩
  · rw [decide_eq_false h8] at hbit
    have HC := Lib.hid (fun w => l01Bits_any a _ ha w)
    have HF := Lib.hid (show flushA a = av .f32 a by
      unfold flushA
      have : subA a = false := by unfold subA; rw [decide_eq_false h8, Bool.and_false]
      rw [this]; rfl)
    clear hsp ha h8
    generalize hB : bitsA (av .f32 a) = B at *
    clear hB
    go_enter Try.func27, Try.ntmps27
    go_wp2_with (first | (go_at_call 45; refine (HC.out _).mono ?_; rintro e w' ⟨rfl, rfl⟩) | (go_at_call 46; fail))
    go_ret
    exact ⟨a, 0, rfl, by rw [HF.out]; exact HA.out, rfl⟩
theorem Bel_drewN0 {B : Nat} {W w' : World} (h : Below B W w') (n : Nat) : Below B W (w'.drewN n) := ⟨h.os, h.tape, h.output, h.size, h.block⟩
theorem wf_Fv (a : Nat) (h : (Lit.float .f32 a).wf = true) : Fv .f32 (av .f32 a) a := by
  have : a < 4294967296 := by simpa [Lit.wf] using h
  exact ⟨this, rfl⟩
theorem FnExactFlushNumber_walk (a : Nat) (wa : (Lit.float .f32 a).wf = true) (w : World) :
    Calls Try.prog 3 #[.float .f32 a] w fun e w' => e = .returned (.bool true) ∧ Below w.heap.size w w' := by
  have HA := Lib.hid (wf_Fv a wa)
  clear wa
  go_enter Try.func3, Try.ntmps3
  go_wp2_with (first | (go_at_call 27; refine (specFlush_any _ HA.out _).mono ?_; rintro e w' ⟨r1, n1, rfl, hr1, rfl⟩) | (go_at_call 11; refine (implFlush_any _ HA.out _).mono ?_; rintro e w' ⟨r2, n2, rfl, hr2, rfl⟩) | (refine wpList_widen _ _ _ _ rfl Try.underlying22 Try.underlying25 ?_; intro r n hr) | (go_at_call 10; go_in))
  refine (sameFloat_any _ _ (widen (flushA a)) (by rw [← hr2.2]; assumption) (by rw [← hr1.2]; assumption) _).mono ?_
  rintro e w' ⟨n3, rfl, rfl⟩
  go_wp2_with fail
  go_ret
  exact ⟨rfl, Bel_drewN0 (Below.refl _ _) _⟩
end Go.Proofs.Ytgkkimocmpgfkad
