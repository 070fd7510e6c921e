/- The logarithm: what the code and its model return of a number greater than 0. -/
import Derived.Test.YticmnkgcolgpaaaNum
import Derived.Test.YticmnkgcolgpaaaLh
import Derived.LoopTactic
import Derived.Laws.FloatArith
namespace Go.Proofs.Yticmnkgcolgpaaa
open Go Go.RowKit Fl

def NumL (v : Option Nat) (w : World) (e : Ending) (w' : World) : Prop := ∃ r n, e = .returned (.float .f64 r) ∧ Fv .f64 v r ∧ w' = w.drewN n
/-- What the steps behind the loops make. -/
structure Sums (R : Nat) (e : Int) (c1 c2 cs cu : Nat) : Prop where
  a1 : aop .sub .f64 (av .f64 R) (av .f64 4607182418800017408) = some c1
  a2 : aop .add .f64 (av .f64 R) (av .f64 4607182418800017408) = some c2
  a3 : aop .quo .f64 (av .f64 c1) (av .f64 c2) = some cs
  a4 : aop .mul .f64 (av .f64 cs) (av .f64 cs) = some cu
  s : av .f64 cs = some cs
  u : av .f64 cu = some cu
  log : lgA R e = aop .add .f64 (aop .mul .f64 (some 4611686018427387904) (aop .mul .f64 (some cs) (lgQ (some cu) 13))) (aop .mul .f64 (av .f64 (floatOfInt .f64 e)) (some 4604418534313441775))
theorem aop_av' {op : BinOp} {k : FloatKind} {u v : Option Nat} {r : Nat} (h : aop op k u v = some r) : av k r = some r := by
  cases u with
  | none => cases v <;> cases h
  | some x =>
    cases v with
    | none => cases h
    | some y => exact av_some (bop_notNaN (op := op) h)
theorem sums_of (L K : Nat) (e : Int) (h1 : 4503599627370496 ≤ K) (h2 : K < 9007199254740992) (hL : L = 1021 ∨ L = 1022) : ∃ c1 c2 cs cu, Sums (nb L K) e c1 c2 cs cu := by
  obtain ⟨c1, e1⟩ := (near_sub L K h1 h2 hL).has
  obtain ⟨c2, n, d, e2, _⟩ := near_add L K h1 h2 hL
  obtain ⟨cs, e3⟩ := (lgS_in L K h1 h2 hL).has
  have s0 := lgS_in L K h1 h2 hL
  obtain ⟨cu, e4⟩ := (P2.mul s0 s0 (Nat.le_of_ble_eq_true rfl)).has
  have hav := av_nb L K h1 h2 (by omega)
  have e3' := e3
  unfold lgS at e3'
  rw [e1, e2] at e3'
  have e4' := e4
  rw [e3] at e4'
  refine ⟨c1, c2, cs, cu, by rw [hav, av_1]; exact e1, by rw [hav, av_1]; exact e2, by rw [aop_av' e1, aop_av' e2]; exact e3', by rw [aop_av' e3']; exact e4', aop_av' e3', aop_av' e4', ?_⟩
  unfold lgA
  rw [e4, e3]

theorem ge_fact {L K : Nat} {b : Bool} (h : ge15 (nb L K) = b) : (FloatKind.f64.format.order (nb L K) 4609434218613702656 == some Ordering.gt || FloatKind.f64.format.order (nb L K) 4609434218613702656 == some Ordering.eq) = b := h
theorem lt_fact {L K : Nat} {b : Bool} (h : lt75 (nb L K) = b) : (FloatKind.f64.format.order (nb L K) 4604930618986332160 == some Ordering.lt) = b := h
theorem half_fact {P : Program} {L K : Nat} (h1 : 4503599627370496 ≤ K) (h2 : K < 9007199254740992) (h0 : 1 ≤ L) (hL : L ≤ 2045) (t : TypeId) (w : World) :
    (binOp .quo t (.float .f64 (nb L K)) (.float .f64 4611686018427387904)).run P w = .ok (.float .f64 (nb (L - 1) K)) w := run_float_arith w _ _ _ _ _ _ (half_nb L K h1 h2 h0 hL)
theorem twice_fact {P : Program} {L K : Nat} (h1 : 4503599627370496 ≤ K) (h2 : K < 9007199254740992) (hL : L ≤ 2044) (t : TypeId) (w : World) :
    (binOp .mul t (.float .f64 (nb L K)) (.float .f64 4611686018427387904)).run P w = .ok (.float .f64 (nb (L + 1) K)) w := run_float_arith w _ _ _ _ _ _ (twice_nb L K h1 h2 hL)
theorem Fv_of {v : Option Nat} {r c : Nat} (h : Fv .f64 v r) (hv : v = some c) : r = c := av_eq (h.2.trans hv)
theorem fin2' {op : BinOp} {a b r : Nat} {u v : Option Nat} (hr : Fv .f64 (aop op .f64 (av .f64 a) (av .f64 b)) r) (ha : av .f64 a = u) (hb : av .f64 b = v) : Fv .f64 (aop op .f64 u v) r := by rw [← ha, ← hb]; exact hr
theorem lgQ_step {j cu rq r1 r2 r3 : Nat} (hu : av .f64 cu = some cu) (hq : Fv .f64 (lgQ (some cu) j) rq) (h1 : Fv .f64 (aop .quo .f64 (av .f64 4607182418800017408) (av .f64 (floatOfInt .f64 (25 - 2 * (j : Int))))) r1)
    (h2 : Fv .f64 (aop .mul .f64 (av .f64 cu) (av .f64 rq)) r2) (h3 : Fv .f64 (aop .add .f64 (av .f64 r1) (av .f64 r2)) r3) : Fv .f64 (lgQ (some cu) (j + 1)) r3 := by
  rw [h1.2, h2.2, hu, hq.2, av_1] at h3
  exact h3
theorem lg_end {R cs cu rq r1 r2 r3 r4 : Nat} {e : Int} (hl : lgA R e = aop .add .f64 (aop .mul .f64 (some 4611686018427387904) (aop .mul .f64 (some cs) (lgQ (some cu) 13))) (aop .mul .f64 (av .f64 (floatOfInt .f64 e)) (some 4604418534313441775)))
    (hs : av .f64 cs = some cs) (hq : Fv .f64 (lgQ (some cu) 13) rq) (h1 : Fv .f64 (aop .mul .f64 (av .f64 cs) (av .f64 rq)) r1) (h2 : Fv .f64 (aop .mul .f64 (av .f64 4611686018427387904) (av .f64 r1)) r2)
    (h3 : Fv .f64 (aop .mul .f64 (av .f64 (floatOfInt .f64 e)) (av .f64 4604418534313441775)) r3) (h4 : Fv .f64 (aop .add .f64 (av .f64 r2) (av .f64 r3)) r4) : Fv .f64 (lgA R e) r4 := by
  rw [h2.2, h3.2, h1.2, hs, hq.2, av_2, av_ln2] at h4
  rw [hl]; exact h4

set_option maxRecDepth 100000 in
set_option maxHeartbeats 1000000 in
theorem wideLog_any (a L K J1 J2 : Nat) (w : World) (hw : widen (av .f32 a) = some (nb L K)) (hN : Near L K J1 J2) :
    Calls Try.prog 117 #[.float .f32 a] w (NumL (lgA (nb (L - J1 + J2) K) ((J1 : Int) - J2)) w) := by
  have HN := Lib.hid hN
  have HW := Lib.hid hw
  clear hw hN
  have hj1 : (J1 : Int) ≤ 200 := by have := HN.out.j1; omega
  have hj2 : (J2 : Int) ≤ 300 := by have := HN.out.j2; omega
  go_enter Try.func117, Try.ntmps117
  go_wp2_with (refine wpList_widen _ _ _ _ rfl Try.underlying50 Try.underlying22 ?_; intro r n hr)
  have er := Fv_of hr HW.out
  subst er
  clear hr
  go_loop [3, 4] (fun x e => ∃ j : Nat, j ≤ J1 ∧ x = .float .f64 (nb (L - j) K) ∧ e = .int .i64 (j : Int)) (fun _ e => J1 - (intOf e).toNat)
  case atStart => exact ⟨0, Nat.zero_le _, rfl, rfl⟩
  case round =>
    obtain ⟨j, hj, rfl, rfl⟩ := hrel
    by_cases hlt : j < J1
    · have hg := ge_fact (HN.out.down j hlt)
      have hq : ∀ (t : TypeId) (w : World), (binOp .quo t (.float .f64 (nb (L - j) K)) (.float .f64 4611686018427387904)).run Try.prog w = .ok (.float .f64 (nb (L - (j + 1)) K)) w := fun t w => by
        have := half_fact (P := Try.prog) HN.out.k1 HN.out.k2 (L := L - j) (by have := HN.out.l1; have := HN.out.j1; omega) (by have := HN.out.l2; omega) t w
        rwa [show L - j - 1 = L - (j + 1) by omega] at this
      have hjb : (j : Int) ≤ 200 := by omega
      generalize nb (L - j) K = x at *
      generalize hy : nb (L - (j + 1)) K = y at *
      have HY := Lib.hid hy
      clear hy
      go_wp2
      go_round
      case rel => exact ⟨j + 1, by omega, by rw [← HY.out], by go_num⟩
      case measure => simp [intOf]; omega
    · have e' : J1 = j := by omega
      subst e'
      have hg := ge_fact HN.out.stop
      clear hlt hj
      generalize hx : nb (L - J1) K = x at *
      have HX := Lib.hid hx
      clear hx
      go_wp2
      clear hg
      go_loop [3, 4] (fun x e => ∃ j : Nat, j ≤ J2 ∧ x = .float .f64 (nb (L - J1 + j) K) ∧ e = .int .i64 ((J1 : Int) - j)) (fun _ e => J2 + (intOf e + 300 - J1).toNat)
      case atStart => exact ⟨0, Nat.zero_le _, by rw [← HX.out]; rfl, by go_num⟩
      case round =>
        obtain ⟨j, hj, rfl, rfl⟩ := hrel
        have hjb : (j : Int) ≤ 300 := by omega
        by_cases hlt : j < J2
        · have hg := lt_fact (HN.out.up j hlt)
          have hq : ∀ (t : TypeId) (w : World), (binOp .mul t (.float .f64 (nb (L - J1 + j) K)) (.float .f64 4611686018427387904)).run Try.prog w = .ok (.float .f64 (nb (L - J1 + (j + 1)) K)) w := fun t w =>
            twice_fact (P := Try.prog) HN.out.k1 HN.out.k2 (by have := HN.out.hi; omega) t w
          generalize nb (L - J1 + j) K = x at *
          generalize hy : nb (L - J1 + (j + 1)) K = y at *
          have HY := Lib.hid hy
          clear hy
          go_wp2
          go_round
          case rel => exact ⟨j + 1, by omega, by rw [← HY.out], by congr 1; omega⟩
          case measure => simp [intOf]; omega
        · have e' : J2 = j := by omega
          subst e'
          have hg := lt_fact HN.out.done
          obtain ⟨c1, c2, cs, cu, hS⟩ := sums_of (L - J1 + J2) K ((J1 : Int) - J2) HN.out.k1 HN.out.k2 (by have := HN.out.lo; have := HN.out.hi; omega)
          have HS := Lib.hid hS
          clear hlt hj hS HX
          generalize hR : nb (L - J1 + J2) K = R at *
          generalize hE : (J1 : Int) - (J2 : Int) = E at *
          have hE1 : -300 ≤ E := by omega
          have hE2 : E ≤ 200 := by omega
          clear hE hR
          go_wp2_with (refine wpList_farith _ _ _ _ _ .f64 _ _ rfl rfl rfl ?_; intro r n hr; first | (have er := (Fv_of hr HS.out.a1).symm; subst er; clear hr) | (have er := (Fv_of hr HS.out.a2).symm; subst er; clear hr) | (have er := (Fv_of hr HS.out.a3).symm; subst er; clear hr) | (have er := (Fv_of hr HS.out.a4).symm; subst er; clear hr))
          go_loopw [7, 8] (fun q k wr => ∃ j : Nat, j ≤ 13 ∧ k = .int .i64 (25 - 2 * (j : Int)) ∧ ∃ rq n, q = .float .f64 rq ∧ Fv .f64 (lgQ (some cu) j) rq ∧ wr = w.drewN n) (fun _ k _ => (intOf k + 1).toNat)
          case atStart => exact ⟨0, Nat.zero_le _, rfl, 0, _, rfl, ⟨by decide, av_zero .f64⟩, rfl⟩
          case round =>
            obtain ⟨j, hj, rfl, rq, n, rfl, hq, rfl⟩ := hrel
            have HQ := Lib.hid hq
            clear hq
            by_cases hlt : j < 13
            · have hlt' : (j : Int) ≤ 12 := by omega
              go_wp2_with (refine wpList_farith _ _ _ _ _ .f64 _ _ rfl rfl rfl ?_; intro r n hr)
              go_roundw
              case rel => exact ⟨j + 1, by omega, by congr 1; omega, _, _, rfl, lgQ_step HS.out.u HQ.out (by assumption) (by assumption) (by assumption), rfl⟩
              case measure => simp [intOf]; omega
            · obtain rfl : j = 13 := by omega
              go_wp2_with (refine wpList_farith _ _ _ _ _ .f64 _ _ rfl rfl rfl ?_; intro r n hr)
              go_ret
              exact ⟨_, _, rfl, lg_end HS.out.log HS.out.s HQ.out (by assumption) (by assumption) (by assumption) (by assumption), rfl⟩
end Go.Proofs.Yticmnkgcolgpaaa
