/- math.Ldexp of a normal number that stays one: its exponent alone is turned. -/
import Derived.Test.YtlipdegiihojfaaNum
import Derived.Test.YtlipdegiihojfaaLw
import Derived.LoopTactic
import Derived.Laws.FloatArith
import Derived.Laws.BitsAllLaws
import Derived.Laws.Bits64b
namespace Go.Proofs.Ytlipdegiihojfaa
open Go Go.RowKit Fl

theorem nb_lt63 (L K : Nat) (h2 : K < 9007199254740992) (hL : L ≤ 2045) : nb L K < 9223372036854775808 := by unfold nb; omega
theorem r_zero : Ieee.double.read 0 = .number false 0 ((0 : Nat) - 1074 : Int) := by decide +kernel
theorem r_min : Ieee.double.read 4503599627370496 = .number false 4503599627370496 ((0 : Nat) - 1074 : Int) := by decide +kernel
theorem r_max : Ieee.double.read 9218868437227405311 = .number false 9007199254740991 ((2045 : Nat) - 1074 : Int) := by decide +kernel
/-- A number of the middle. -/
structure Nb (L K : Nat) : Prop where
  lo : 4503599627370496 ≤ K
  hi : K < 9007199254740992
  L : L ≤ 1100
theorem Nb.ne0 {L K : Nat} (h : Nb L K) : (FloatKind.f64.format.order (nb L K) 0 == some Ordering.eq) = false := by
  show (Ieee.double.order (nb L K) 0 == some Ordering.eq) = false
  rw [order_nb L K _ 0 h.lo h.hi (by have := h.L; omega) _ r_zero, cmp_eq]
  have := Nat.pos_of_ne_zero (n := K * 2 ^ L) (Nat.mul_ne_zero (by have := h.lo; omega) (by simp))
  generalize K * 2 ^ L = x at *
  simp; omega
theorem Nb.normal {L K : Nat} (h : Nb L K) : (FloatKind.f64.format.order (nb L K) 4503599627370496 == some Ordering.lt) = false := by
  show (Ieee.double.order (nb L K) 4503599627370496 == some Ordering.lt) = false
  rw [order_nb L K _ 0 h.lo h.hi (by have := h.L; omega) _ r_min, cmp_lt]
  have := Nat.mul_le_mul h.lo (Nat.one_le_two_pow (n := L))
  generalize K * 2 ^ L = x at *
  simp; omega
theorem Nb.fin {L K : Nat} (h : Nb L K) : (FloatKind.f64.format.order (nb L K) 9218868437227405311 == some Ordering.gt) = false := by
  show (Ieee.double.order (nb L K) 9218868437227405311 == some Ordering.gt) = false
  rw [order_nb L K _ 2045 h.lo h.hi (by have := h.L; omega) _ r_max]
  have := pow_step (K := 9007199254740991) (c := K) (L := 2045) (p := L) h.hi (by omega) (by have := h.L; omega)
  rw [cmp_gt]
  generalize K * 2 ^ L = x at *
  generalize 9007199254740991 * 2 ^ 2045 = y at *
  simp; omega
theorem Nb.notNaN {L K : Nat} (h : Nb L K) : (FloatKind.f64.format.order (nb L K) (nb L K) != some Ordering.eq) = false :=
  neq_self_num .f64 _ _ (av_nb L K h.lo h.hi (by have := h.L; omega))
theorem Nb.one {L K : Nat} (h : Nb L K) : Ieee.double.mul 4607182418800017408 (nb L K) = some (nb L K) := by
  have hL := h.L
  unfold Ieee.Format.mul
  rw [read_nb L K h.lo h.hi (by omega), read_one, prod_pos, Option.map_some, write_pos]
  have e : 4503599627370496 * K = K <<< 52 := by rw [Nat.shiftLeft_eq]; omega
  rw [e, nearest_scale _ _ _ _ _ (by have := h.lo; omega), nearest_nb K L _ h.lo h.hi (by omega) (by omega)]
theorem Nb.one_fact {P : Program} {L K : Nat} (h : Nb L K) (t : TypeId) (w : World) :
    (binOp .mul t (.float .f64 4607182418800017408) (.float .f64 (nb L K))).run P w = .ok (.float .f64 (nb L K)) w := run_float_arith w _ _ _ _ _ _ h.one
theorem Nb.abs {L K : Nat} (h : Nb L K) : nb L K % 9223372036854775808 = nb L K := Nat.mod_eq_of_lt (nb_lt63 L K h.hi (by have := h.L; omega))
theorem Nb.lt {L K : Nat} (h : Nb L K) : nb L K < 18446744073709551616 := nb_lt L K h.hi (by have := h.L; omega)
theorem Nb.exp {L K : Nat} (h : Nb L K) : (nb L K : Int) / 4503599627370496 = ((L + 1 : Nat) : Int) := by
  have := h.lo
  have := h.hi
  unfold nb
  omega
set_option maxRecDepth 100000 in
theorem and_2047 : ∀ q : Nat, q < 2048 → bits .and .i64 (q : Int) 2047 = (q : Int) := by decide +kernel
theorem Nb.low {L K : Nat} (h : Nb L K) : bits .andNot .u64 (nb L K : Int) 9218868437227405312 = ((K - 4503599627370496 : Nat) : Int) := by
  have h63 := nb_lt63 L K h.hi (by have := h.L; omega)
  have e := u64_andNot_nat (nb L K) 9218868437227405312 h.lt (by omega)
  have c : ((9218868437227405312 : Nat) : Int) = 9218868437227405312 := rfl
  rw [c] at e
  rw [e]
  have e1 : nb L K &&& (2 ^ 63 - 1) = nb L K := by rw [Nat.and_two_pow_sub_one_eq_mod]; exact Nat.mod_eq_of_lt h63
  rw [← e1, Nat.and_assoc, show (2 ^ 63 - 1) &&& (18446744073709551615 - 9218868437227405312) = 2 ^ 52 - 1 by decide, Nat.and_two_pow_sub_one_eq_mod]
  have h1 := h.lo
  have h2 := h.hi
  have g : nb L K % 2 ^ 52 = K - 4503599627370496 := by unfold nb; omega
  rw [g]
theorem nb_or (L n K : Nat) (h1 : 4503599627370496 ≤ K) (h2 : K < 9007199254740992) (hL : L + n ≤ 1100) :
    (bits .or .u64 ((K - 4503599627370496 : Nat) : Int) ((-(n : Int) + ((L : Int) + n + 1 - 1023) + 1023) * 4503599627370496)).toNat = nb L K := by
  have e : (-(n : Int) + ((L : Int) + n + 1 - 1023) + 1023) * 4503599627370496 = (((L + 1) * 4503599627370496 : Nat) : Int) := by omega
  rw [e, bits_or_u64_nat _ _ (by omega) (by omega), Int.toNat_natCast, Nat.or_comm]
  have g := Nat.shiftLeft_add_eq_or_of_lt (b := K - 4503599627370496) (i := 52) (by omega) (L + 1)
  rw [Nat.shiftLeft_eq] at g
  rw [← g]
  unfold nb
  omega
theorem IsInf_nb (L K : Nat) (w : World) (h : Nb L K) :
    Calls Try.prog 123 #[.float .f64 (nb L K), .int .i64 0] w (fun e w' => e = .returned (.bool false) ∧ w = w') := by
  have H := Lib.hid h
  have h1 := h.fin
  have h2 := h.abs
  clear h
  go_enter Try.func123, Try.ntmps123
  go_wp2_with (go_at_call 131; refine (Abs_any _ H.out.lt _).mono ?_; rintro e w' ⟨rfl, rfl⟩; rw [H.out.abs])
  go_ret
  exact ⟨rfl, rfl⟩
theorem IsNaN_nb (L K : Nat) (w : World) (h : Nb L K) :
    Calls Try.prog 122 #[.float .f64 (nb L K)] w (fun e w' => e = .returned (.bool false) ∧ w = w') := by
  have h1 := h.notNaN
  clear h
  go_enter Try.func122, Try.ntmps122
  go_wp2
  go_ret
  exact ⟨rfl, rfl⟩
theorem normalize_nb (L K : Nat) (w : World) (h : Nb L K) :
    Calls Try.prog 128 #[.float .f64 (nb L K)] w (fun e w' => e = .returned (.tuple #[.float .f64 (nb L K), .int .i64 0]) ∧ w = w') := by
  have H := Lib.hid h
  have h1 := h.normal
  clear h
  go_enter Try.func128, Try.ntmps128
  go_wp2_with (go_at_call 131; refine (Abs_any _ H.out.lt _).mono ?_; rintro e w' ⟨rfl, rfl⟩; rw [H.out.abs])
  exact bodyPost_ret (v := .tuple #[.float .f64 (nb L K), .int .i64 0]) (by simp [results, Try.results128, go_sem]) rfl ⟨rfl, rfl⟩
set_option maxRecDepth 100000 in
theorem ldexp_nb (L K n : Nat) (w : World) (h : Nb (L + n) K) :
    Calls Try.prog 119 #[.float .f64 (nb (L + n) K), .int .i64 (-(n : Int))] w (fun e w' => e = .returned (.float .f64 (nb L K)) ∧ w = w') := by
  have H := Lib.hid h
  have h1 := h.ne0
  have h2 : L ≤ 1100 := by have := h.L; omega
  have h3 : L + n ≤ 1100 := h.L
  have e1 : (nb (L + n) K : Int) / 4503599627370496 = (L : Int) + n + 1 := by have := h.exp; omega
  have e2 := h.low
  have e4 := nb_or L n K h.lo h.hi h.L
  have e3 : bits .and .i64 ((L : Int) + n + 1) 2047 = (L : Int) + n + 1 := by
    have := and_2047 (L + n + 1) (by omega)
    simpa using this
  clear h
  go_enter Try.func119, Try.ntmps119
  have e5 := fun (P : Program) (t : TypeId) (w : World) => Nb.one_fact (P := P) (⟨H.out.lo, H.out.hi, h2⟩ : Nb L K) t w
  go_wp2_with (first | (go_at_call 123; refine (IsInf_nb _ _ _ H.out).mono ?_; rintro e w' ⟨rfl, rfl⟩) | (go_at_call 122; refine (IsNaN_nb _ _ _ H.out).mono ?_; rintro e w' ⟨rfl, rfl⟩) | (go_at_call 128; refine (normalize_nb _ _ _ H.out).mono ?_; rintro e w' ⟨rfl, rfl⟩))
  go_ret
  exact ⟨rfl, rfl⟩
theorem Ldexp_nb (L K n : Nat) (w : World) (h : Nb (L + n) K) :
    Calls Try.prog 88 #[.float .f64 (nb (L + n) K), .int .i64 (-(n : Int))] w (fun e w' => e = .returned (.float .f64 (nb L K)) ∧ w = w') := by
  have H := Lib.hid h
  clear h
  go_enter Try.func88, Try.ntmps88
  go_wp2_with (go_at_call 119; refine (ldexp_nb _ _ _ _ H.out).mono ?_; rintro e w' ⟨rfl, rfl⟩)
  go_ret
  exact ⟨rfl, rfl⟩
end Go.Proofs.Ytlipdegiihojfaa
