/- The logarithm: the model's, and the functions that ask first. -/
import Derived.Test.YticmnkgcolgpaaaLw
namespace Go.Proofs.Yticmnkgcolgpaaa
open Go Go.RowKit Fl
set_option linter.unusedVariables false

theorem NaNv_any (w : World) : Calls Try.prog 51 #[] w (fun e w' => e = .returned (.float .f64 9221120237041090561) ∧ w = w') := by
  go_enter Try.func51, Try.ntmps51
  go_wp2
  go_ret
  exact ⟨rfl, rfl⟩
theorem InfM_any (w : World) : Calls Try.prog 116 #[.int .i64 (-1)] w (fun e w' => e = .returned (.float .f64 18442240474082181120) ∧ w = w') := by
  go_enter Try.func116, Try.ntmps116
  go_wp2
  go_ret
  exact ⟨rfl, rfl⟩
theorem avn : av .f64 9221120237041090561 = none := by decide +kernel
theorem avi : av .f64 18442240474082181120 = some 18442240474082181120 := by decide +kernel
theorem read_mi : Ieee.double.read 18442240474082181120 = .infinity true := by decide +kernel
theorem read_pi : Ieee.double.read 9218868437227405312 = .infinity false := by decide +kernel
/-- The order of a number from 2^-200 on and a finite one that is at most 0, or the greatest one. -/
theorem nb_gt0 (L K : Nat) (h1 : 4503599627370496 ≤ K) (h2 : K < 9007199254740992) (hL : L ≤ 2045) : Ieee.double.order (nb L K) 0 = some .gt := by
  have hp : 0 < K * 2 ^ L := Nat.mul_pos (by omega) (Nat.two_pow_pos _)
  rw [order_nb L K 0 0 h1 h2 hL 0 (by decide +kernel)]
  rw [compare_int]
  generalize K * 2 ^ L = x at *
  rw [if_neg (by omega), if_neg (by omega)]
theorem nb_max (L K : Nat) (h1 : 4503599627370496 ≤ K) (h2 : K < 9007199254740992) (hL : L ≤ 1200) : (Ieee.double.order (nb L K) 9218868437227405311 == some Ordering.gt) = false := by
  rw [order_nb L K 9007199254740991 2045 h1 h2 (by omega) 9218868437227405311 (by decide +kernel), cmp_gt]
  have := pow_step (K := 9007199254740991) (c := K) (L := 2045) (p := L) h2 (by decide) (by omega)
  generalize K * 2 ^ L = x at *
  generalize 9007199254740991 * 2 ^ 2045 = y at *
  simp; omega
theorem ord_eq {r : Nat} {o : Ordering} (h : Ieee.double.order r 0 = some o) (p : Ordering) : (FloatKind.f64.format.order r 0 == some p) = (some o == some p) := by
  rw [show FloatKind.f64.format.order r 0 = Ieee.double.order r 0 from rfl, h]

set_option maxRecDepth 100000 in
set_option maxHeartbeats 2000000 in
theorem l01LogWide_any (L K J1 J2 : Nat) (w : World) (hN : Near L K J1 J2) :
    Calls Try.prog 115 #[.float .f64 (nb L K)] w (NumL (lgA (nb (L - J1 + J2) K) ((J1 : Int) - J2)) w) := by
  have HN := Lib.hid hN
  have hav := av_nb L K hN.k1 hN.k2 (by have := hN.l2; omega)
  have g1 := neq_self_num .f64 (nb L K) _ hav
  have h0 := nb_gt0 L K hN.k1 hN.k2 (by have := hN.l2; omega)
  have g2 : (FloatKind.f64.format.order (nb L K) 0 == some Ordering.lt) = false := by rw [ord_eq h0]; rfl
  have g3 : (FloatKind.f64.format.order (nb L K) 0 == some Ordering.eq) = false := by rw [ord_eq h0]; rfl
  have g4 : (FloatKind.f64.format.order (nb L K) 9218868437227405311 == some Ordering.gt) = false := nb_max L K hN.k1 hN.k2 (by have := hN.l2; omega)
  clear hN hav h0
  have hj1 : (J1 : Int) ≤ 200 := by have := HN.out.j1; omega
  have hj2 : (J2 : Int) ≤ 300 := by have := HN.out.j2; omega
  generalize hx0 : nb L K = x0 at *
  have HX := Lib.hid hx0
  clear hx0
  go_enter Try.func115, Try.ntmps115
  go_wp2_with (first | go_in)
  clear g1 g2 g3 g4
  go_loop [0, 3] (fun x e => ∃ j : Nat, j ≤ J1 ∧ x = .float .f64 (nb (L - j) K) ∧ e = .int .i64 (j : Int)) (fun _ e => J1 - (intOf e).toNat)
  case atStart => exact ⟨0, Nat.zero_le _, by rw [← HX.out]; rfl, rfl⟩
  case round =>
    obtain ⟨j, hj, rfl, rfl⟩ := hrel
    by_cases hlt : j < J1
    · have hg := ge_fact (HN.out.down j hlt)
      have hq : ∀ (t : TypeId) (w : World), (binOp .quo t (.float .f64 (nb (L - j) K)) (.float .f64 4611686018427387904)).run Try.prog w = .ok (.float .f64 (nb (L - (j + 1)) K)) w := fun t w => by
        have := half_fact (P := Try.prog) HN.out.k1 HN.out.k2 (L := L - j) (by have := HN.out.l1; have := HN.out.j1; omega) (by have := HN.out.l2; omega) t w
        rwa [show L - j - 1 = L - (j + 1) by omega] at this
      have hjb : (j : Int) ≤ 200 := by omega
      generalize nb (L - j) K = x at *
      generalize hy : nb (L - (j + 1)) K = y at *
      have HY := Lib.hid hy
      clear hy
      go_wp2
      go_round
      case rel => exact ⟨j + 1, by omega, by rw [← HY.out], by go_num⟩
      case measure => simp [intOf]; omega
    · have e' : J1 = j := by omega
      subst e'
      have hg := ge_fact HN.out.stop
      clear hlt hj HX
      generalize hx : nb (L - J1) K = x at *
      have HX := Lib.hid hx
      clear hx
      go_wp2
      clear hg
      go_loop [0, 3] (fun x e => ∃ j : Nat, j ≤ J2 ∧ x = .float .f64 (nb (L - J1 + j) K) ∧ e = .int .i64 ((J1 : Int) - j)) (fun _ e => J2 + (intOf e + 300 - J1).toNat)
      case atStart => exact ⟨0, Nat.zero_le _, by rw [← HX.out]; rfl, by go_num⟩
      case round =>
        obtain ⟨j, hj, rfl, rfl⟩ := hrel
        have hjb : (j : Int) ≤ 300 := by omega
        by_cases hlt : j < J2
        · have hg := lt_fact (HN.out.up j hlt)
          have hq : ∀ (t : TypeId) (w : World), (binOp .mul t (.float .f64 (nb (L - J1 + j) K)) (.float .f64 4611686018427387904)).run Try.prog w = .ok (.float .f64 (nb (L - J1 + (j + 1)) K)) w := fun t w =>
            twice_fact (P := Try.prog) HN.out.k1 HN.out.k2 (by have := HN.out.hi; omega) t w
          generalize nb (L - J1 + j) K = x at *
          generalize hy : nb (L - J1 + (j + 1)) K = y at *
          have HY := Lib.hid hy
          clear hy
          go_wp2
          go_round
          case rel => exact ⟨j + 1, by omega, by rw [← HY.out], by congr 1; omega⟩
          case measure => simp [intOf]; omega
        · have e' : J2 = j := by omega
          subst e'
          have hg := lt_fact HN.out.done
          obtain ⟨c1, c2, cs, cu, hS⟩ := sums_of (L - J1 + J2) K ((J1 : Int) - J2) HN.out.k1 HN.out.k2 (by have := HN.out.lo; have := HN.out.hi; omega)
          have HS := Lib.hid hS
          clear hlt hj hS HX
          generalize hR : nb (L - J1 + J2) K = R at *
          generalize hE : (J1 : Int) - (J2 : Int) = E at *
          have hE1 : -300 ≤ E := by omega
          have hE2 : E ≤ 200 := by omega
          clear hE hR
          go_wp2_with (refine wpList_farith _ _ _ _ _ .f64 _ _ rfl rfl rfl ?_; intro r n hr; first | (have er := (Fv_of hr HS.out.a1).symm; subst er; clear hr) | (have er := (Fv_of hr HS.out.a2).symm; subst er; clear hr) | (have er := (Fv_of hr HS.out.a3).symm; subst er; clear hr) | (have er := (Fv_of hr HS.out.a4).symm; subst er; clear hr))
          go_loopw [6, 7] (fun q k wr => ∃ j : Nat, j ≤ 13 ∧ k = .int .i64 (25 - 2 * (j : Int)) ∧ ∃ rq n, q = .float .f64 rq ∧ Fv .f64 (lgQ (some cu) j) rq ∧ wr = w.drewN n) (fun _ k _ => (intOf k + 1).toNat)
          case atStart => exact ⟨0, Nat.zero_le _, rfl, 0, _, rfl, ⟨by decide, av_zero .f64⟩, rfl⟩
          case round =>
            obtain ⟨j, hj, rfl, rq, n, rfl, hq, rfl⟩ := hrel
            have HQ := Lib.hid hq
            clear hq
            by_cases hlt : j < 13
            · have hlt' : (j : Int) ≤ 12 := by omega
              go_wp2_with (refine wpList_farith _ _ _ _ _ .f64 _ _ rfl rfl rfl ?_; intro r n hr)
              go_roundw
              case rel => exact ⟨j + 1, by omega, by congr 1; omega, _, _, rfl, lgQ_step HS.out.u HQ.out (by assumption) (by assumption) (by assumption), rfl⟩
              case measure => simp [intOf]; omega
            · obtain rfl : j = 13 := by omega
              go_wp2_with (refine wpList_farith _ _ _ _ _ .f64 _ _ rfl rfl rfl ?_; intro r n hr)
              go_ret
              exact ⟨_, _, rfl, lg_end HS.out.log HS.out.s HQ.out (by assumption) (by assumption) (by assumption) (by assumption), rfl⟩

/-- A 32-bit number: not a number; infinite; zero; less than 0; greater than 0, and then wide. -/
inductive Kind32 (a : Nat) : Prop
  | nan (h : av .f32 a = none)
  | inf (h : Ieee.single.read a = .infinity false)
  | minf (h : Ieee.single.read a = .infinity true)
  | zero (s : Bool) (i : Int) (h : Ieee.single.read a = .number s 0 i)
  | less (m : Nat) (i : Int) (h0 : m ≠ 0) (h : Ieee.single.read a = .number true m i)
  | more (m : Nat) (i : Int) (h0 : m ≠ 0) (h : Ieee.single.read a = .number false m i) (L K J1 J2 : Nat) (hw : widen (av .f32 a) = some (nb L K)) (hN : Near L K J1 J2)
theorem kind32 (a : Nat) : Kind32 a := by
  rcases read_single a with ⟨s, m, i, h, hm⟩ | ⟨s, h⟩ | ⟨s, f, h⟩
  · by_cases h0 : m = 0
    · subst h0; exact .zero s i h
    · cases s with
      | true => exact .less m i h0 h
      | false =>
        obtain ⟨h1, h2, h3⟩ := hm h0
        obtain ⟨L, K, e, k1, k2, l1, l2⟩ := widen_nb m i h0 h1 h2 h3
        obtain ⟨J1, J2, hN⟩ := near_of L K k1 k2 l1 l2
        refine .more m i h0 h L K J1 J2 ?_ hN
        have hn : av .f32 a = some a := av_some (k := .f32) (by show (Ieee.single.read a).isNaN = false; rw [h]; rfl)
        rw [hn]
        show some (Ieee.double.write (Ieee.single.read a)) = _
        rw [h]
        exact congrArg some e
  · cases s with
    | true => exact .minf h
    | false => exact .inf h
  · refine .nan ?_
    unfold av; rw [if_pos]; show (Ieee.single.read a).isNaN = true; rw [h]; rfl
theorem av_num {a : Nat} {s : Bool} {m : Nat} {i : Int} (h : Ieee.single.read a = .number s m i) : av .f32 a = some a := av_some (k := .f32) (by show (Ieee.single.read a).isNaN = false; rw [h]; rfl)
theorem av_inf {a : Nat} {s : Bool} (h : Ieee.single.read a = .infinity s) : av .f32 a = some a := av_some (k := .f32) (by show (Ieee.single.read a).isNaN = false; rw [h]; rfl)
theorem read0_32 : Ieee.single.read 0 = .number false 0 (-149) := by decide +kernel
/-- The order of a 32-bit number and 0. -/
theorem ord0_num {a : Nat} {s : Bool} {m : Nat} {i : Int} (h : Ieee.single.read a = .number s m i) : FloatKind.f32.format.order a 0 = some (if m = 0 then .eq else if s = true then .lt else .gt) := by
  show Ieee.single.order a 0 = _
  unfold Ieee.Format.order
  rw [h, read0_32]
  rw [order_number s false m 0 i (-149) (min i (-149)) (by omega) (by omega)]
  have hp : 0 < 2 ^ (i - min i (-149)).toNat := Nat.two_pow_pos _
  have e0 : Ieee.signed false 0 ((-149 : Int) - min i (-149)).toNat = 0 := by simp [Ieee.signed]
  rw [e0, compare_int]
  unfold Ieee.signed
  rw [Nat.shiftLeft_eq]
  by_cases h0 : m = 0
  · subst h0; cases s <;> simp
  · have hq : 0 < m * 2 ^ (i - min i (-149)).toNat := Nat.mul_pos (by omega) hp
    generalize m * 2 ^ (i - min i (-149)).toNat = x at *
    rw [if_neg h0]
    cases s with
    | true =>
      simp only [if_true]
      rw [if_pos (by omega)]
    | false =>
      simp only [Bool.false_eq_true, if_false]
      rw [if_neg (by omega), if_neg (by omega)]
theorem ord0_inf {a : Nat} {s : Bool} (h : Ieee.single.read a = .infinity s) : FloatKind.f32.format.order a 0 = some (if s = true then .lt else .gt) := by
  show Ieee.single.order a 0 = _
  unfold Ieee.Format.order
  rw [h, read0_32]
  cases s <;> rfl
theorem fin_num {a : Nat} {s : Bool} {m : Nat} {i : Int} (h : Ieee.single.read a = .number s m i) : finA .f32 (av .f32 a) = true := by
  rw [av_num h]; show (!(Ieee.single.read a).isInfinity) = true; rw [h]; rfl
theorem fin_inf {a : Nat} {s : Bool} (h : Ieee.single.read a = .infinity s) : finA .f32 (av .f32 a) = false := by
  rw [av_inf h]; show (!(Ieee.single.read a).isInfinity) = false; rw [h]; rfl
end Go.Proofs.Yticmnkgcolgpaaa
