/- How much of a bell is below a number: what the code and its model return. -/
import Derived.Test.YtlafmocmkkjkgaaBe
namespace Go.Proofs.Ytlafmocmkkjkgaa
open Go Go.RowKit Fl
set_option linter.unusedVariables false

def bellR (x : Nat) : Nat := if ltB x 3233808384 = true then 0 else if gtB x 1086324736 = true then 1065353216 else clampB (belB x)
theorem tA_step {x j rt fw f1 f2 f3 : Nat} {kk : Int} (hw : Fv .f64 (wX x) fw) (ht : Fv .f64 (tA x j) rt) (hk : kk = ((2 * j + 3 : Nat) : Int)) (h1 : Fv .f64 (aop .mul .f64 (av .f64 rt) (av .f64 fw)) f1) (h2 : Fv .f64 (aop .mul .f64 (av .f64 f1) (av .f64 fw)) f2)
    (h3 : Fv .f64 (aop .quo .f64 (av .f64 f2) (av .f64 (floatOfInt .f64 kk))) f3) : Fv .f64 (tA x (j + 1)) f3 := by
  have e : tA x (j + 1) = aop .quo .f64 (aop .mul .f64 (aop .mul .f64 (tA x j) (wX x)) (wX x)) (oddF j) := rfl
  rw [e, ← ht.2, ← hw.2, ← h1.2, ← h2.2]
  unfold oddF
  rw [← hk]; exact h3
theorem sA_step {x j rs rt f : Nat} (hs : Fv .f64 (sA x j) rs) (ht : Fv .f64 (tA x (j + 1)) rt) (h : Fv .f64 (aop .add .f64 (av .f64 rs) (av .f64 rt)) f) : Fv .f64 (sA x (j + 1)) f := by
  have e : sA x (j + 1) = aop .add .f64 (sA x j) (tA x (j + 1)) := rfl
  rw [e, ← hs.2, ← ht.2]; exact h
theorem arg_fv {x fw f1 f2 : Nat} (hw : Fv .f64 (wX x) fw) (h1 : Fv .f64 (aop .mul .f64 (av .f64 13826050856027422720) (av .f64 fw)) f1) (h2 : Fv .f64 (aop .mul .f64 (av .f64 f1) (av .f64 fw)) f2) : Fv .f64 (argW x) f2 := by
  unfold argW; rw [← hw.2, ← h1.2]; exact h2
theorem bel_fv {x rs re f1 f2 f3 E : Nat} (hE : expB (argB x) = E) (hs : Fv .f64 (sA x 120) rs) (he : Fv .f64 (widen (av .f32 E)) re) (h1 : Fv .f64 (aop .mul .f64 (av .f64 rs) (av .f64 re)) f1) (h2 : Fv .f64 (aop .quo .f64 (av .f64 f1) (av .f64 4612826843881809669)) f2)
    (h3 : Fv .f64 (aop .add .f64 (av .f64 4602678819172646912) (av .f64 f2)) f3) : Fv .f64 (belW x) f3 := by
  unfold belW; rw [hE, ← hs.2, ← he.2, ← h1.2, ← h2.2]; exact h3
theorem nar_eq {v : Option Nat} {f r b : Nat} (hf : Fv .f64 v f) (hn : narrow v = some b) (hr : Fv .f32 (narrow (av .f64 f)) r) : r = b := by
  rw [hf.2, hn] at hr
  exact av_eq hr.2
/-- What a walk needs to know, with no word of how it comes. -/
structure Bel (x A E B : Nat) : Prop where
  ex : expB A = E
  ex2 : expB (argB x) = E
  an : narrow (argW x) = some A
  anp : NonPos A
  aok : In .f64 R127 (argW x)
  bn : narrow (belW x) = some B
  bp : Plain B
  bok : In .f64 R127 (belW x)
theorem bel_mk {x : Nat} (h : Eight x) : ∃ A E B, belB x = B ∧ Bel x A E B :=
  ⟨argB x, expB (argB x), belB x, rfl, rfl, rfl, (argB_is h).1, (argB_is h).2, argW_ok h, (bel_plain h).1, (bel_plain h).2, belW_ok h⟩
theorem ok_in {v : Option Nat} {f : Nat} (hf : Fv .f64 v f) (h : In .f64 R127 v) : av .f64 f = none ∨ In .f64 R127 (av .f64 f) ∨ (Ieee.double.read f).isInfinity = true := .inr (.inl (by rw [hf.2]; exact h))
set_option maxRecDepth 100000 in
set_option maxHeartbeats 1000000 in
theorem implBell_in (x : Nat) (h : Eight x) (g1 : ltB x 3233808384 = false) (g2 : gtB x 1086324736 = false) (w : World) : Calls Try.prog 56 #[.float .f32 x] w (Ret (.float .f32 (clampB (belB x))) w) := by
  have h1 := (show (FloatKind.f32.format.order x 3233808384 == some Ordering.lt) = _ from g1)
  have h2 := (show (FloatKind.f32.format.order x 1086324736 == some Ordering.gt) = _ from g2)
  obtain ⟨A, E, B, hB, hX⟩ := bel_mk h
  rw [hB]
  have HX := Lib.hid hX
  clear g1 g2 h hX hB
  go_enter Try.func56, Try.ntmps56
  go_wp2_with (first | (refine wpList_widen (dst := some 14) _ _ _ _ rfl Try.underlying22 Try.underlying26 ?_; intro fw nw hw))
  have HW : Hid (Fv .f64 (wX x) fw) := Lib.hid hw
  clear hw h1 h2
  go_loopw [4, 5, 6] (fun t s k wr => ∃ (j : Nat) (kk : Int), (j ≤ 120 ∧ kk = (j : Int) + 1) ∧ k = .int .i64 kk ∧ ∃ rt rs n', t = .float .f64 rt ∧ s = .float .f64 rs ∧ Fv .f64 (tA x j) rt ∧ Fv .f64 (sA x j) rs ∧ wr = w.drewN n') (fun _ _ k _ => 121 - (intOf k).toNat)
  case atStart => exact ⟨0, 1, ⟨Nat.zero_le _, rfl⟩, rfl, _, _, _, rfl, rfl, HW.out, HW.out, rfl⟩
  case round =>
    obtain ⟨j, kk, ⟨hj, hkk⟩, rfl, rt, rs, n1, rfl, rfl, ht, hs, rfl⟩ := hrel
    have HR := Lib.hid (And.intro ht (And.intro hs hkk))
    by_cases hlt : j < 120
    · have hk1 : (1 : Int) ≤ kk := by omega
      have hk2 : kk ≤ 120 := by omega
      clear ht hs hkk
      go_wp2_with (first | (refine wpList_farith (dst := some 23) _ _ _ _ _ .f64 _ _ rfl rfl rfl ?_; intro f1 n2 h1) | (refine wpList_farith (dst := some 25) _ _ _ _ _ .f64 _ _ rfl rfl rfl ?_; intro f2 n3 h2) | (refine wpList_farith (dst := some 30) _ _ _ _ _ .f64 _ _ rfl rfl rfl ?_; intro f3 n4 h3) | (refine wpList_farith (dst := some 33) _ _ _ _ _ .f64 _ _ rfl rfl rfl ?_; intro f4 n5 h4))
      have T := tA_step HW.out HR.out.1 (by have := HR.out.2.2; omega) h1 h2 h3
      go_roundw
      case rel => exact ⟨j + 1, kk + 1, ⟨by omega, by have := HR.out.2.2; omega⟩, rfl, f3, f4, _, rfl, rfl, T, sA_step HR.out.2.1 T h4, by first | rfl | simp⟩
      case measure => simp [intOf]; omega
    · obtain rfl : j = 120 := by omega
      have hk1 : (120 : Int) < kk := by omega
      have HS : Hid (Fv .f64 (sA x 120) rs) := Lib.hid hs
      clear ht hs hkk hj hlt HR
      have hmax := fun (ts : Array TypeId) (t : TypeId) (w : World) => max_run (P := Try.prog) HX.out.bp ts t w
      have hmin := fun (ts : Array TypeId) (t : TypeId) (w : World) => min_run (P := Try.prog) (clamp_plain HX.out.bp) ts t w
      rw [clamp_min HX.out.bp] at hmin
      have HM := Lib.hid (And.intro hmax hmin)
      clear hmax hmin
      go_wp2_with (first | (refine wpList_farith (dst := some 35) _ _ _ _ _ .f64 _ _ rfl rfl rfl ?_; intro f1 n2 h1) | (refine wpList_farith (dst := some 37) _ _ _ _ _ .f64 _ _ rfl rfl rfl ?_; intro f2 n3 h2) | (refine wpList_narrow (dst := some 38) _ _ _ _ rfl Try.underlying26 Try.underlying22 (ok_in (arg_fv HW.out h1 h2) HX.out.aok) ?_; intro r4 n4 h4) | (go_at_call 96; fail))
      obtain rfl := nar_eq (arg_fv HW.out h1 h2) HX.out.an h4
      clear h1 h2 h4
      refine (implExp_neg _ HX.out.anp _).mono ?_
      rw [HX.out.ex]
      rintro e w' ⟨n5, rfl, rfl⟩
      go_wp2_with (first | (refine wpList_narrow (dst := some 46) _ _ _ _ rfl Try.underlying26 Try.underlying22 (ok_in (bel_fv HX.out.ex2 HS.out he h1 h2 h3) HX.out.bok) ?_; intro r9 n9 h9; have e9 := nar_eq (bel_fv HX.out.ex2 HS.out he h1 h2 h3) HX.out.bn h9; subst e9; clear he h1 h2 h3 h9; obtain ⟨hmax, hmin⟩ := HM.out) | (refine wpList_farith (dst := some 43) _ _ _ _ _ .f64 _ _ rfl rfl rfl ?_; intro f1 n6 h1) | (refine wpList_farith (dst := some 44) _ _ _ _ _ .f64 _ _ rfl rfl rfl ?_; intro f2 n7 h2) | (refine wpList_farith (dst := some 45) _ _ _ _ _ .f64 _ _ rfl rfl rfl ?_; intro f3 n8 h3) | (refine wpList_widen (dst := some 40) _ _ _ _ rfl Try.underlying22 Try.underlying26 ?_; intro re ne he))
      all_goals go_ret
      all_goals exact ⟨_, rfl, rfl⟩
set_option maxRecDepth 100000 in
set_option maxHeartbeats 1000000 in
theorem l05Bell_in (x : Nat) (h : Eight x) (g1 : ltB x 3233808384 = false) (g2 : gtB x 1086324736 = false) (w : World) : Calls Try.prog 54 #[.float .f32 x] w (Ret (.float .f32 (clampB (belB x))) w) := by
  have h1 := (show (FloatKind.f32.format.order x 3233808384 == some Ordering.lt) = _ from g1)
  have h2 := (show (FloatKind.f32.format.order x 1086324736 == some Ordering.gt) = _ from g2)
  obtain ⟨A, E, B, hB, hX⟩ := bel_mk h
  rw [hB]
  have HX := Lib.hid hX
  clear g1 g2 h hX hB
  go_enter Try.func54, Try.ntmps54
  go_wp2_with (first | (refine wpList_widen (dst := some 14) _ _ _ _ rfl Try.underlying22 Try.underlying26 ?_; intro fw nw hw))
  have HW : Hid (Fv .f64 (wX x) fw) := Lib.hid hw
  clear hw h1 h2
  go_loopw [4, 5, 6] (fun t s k wr => ∃ (j : Nat) (kk : Int), (j ≤ 120 ∧ kk = (j : Int) + 1) ∧ k = .int .i64 kk ∧ ∃ rt rs n', t = .float .f64 rt ∧ s = .float .f64 rs ∧ Fv .f64 (tA x j) rt ∧ Fv .f64 (sA x j) rs ∧ wr = w.drewN n') (fun _ _ k _ => 121 - (intOf k).toNat)
  case atStart => exact ⟨0, 1, ⟨Nat.zero_le _, rfl⟩, rfl, _, _, _, rfl, rfl, HW.out, HW.out, rfl⟩
  case round =>
    obtain ⟨j, kk, ⟨hj, hkk⟩, rfl, rt, rs, n1, rfl, rfl, ht, hs, rfl⟩ := hrel
    have HR := Lib.hid (And.intro ht (And.intro hs hkk))
    by_cases hlt : j < 120
    · have hk1 : (1 : Int) ≤ kk := by omega
      have hk2 : kk ≤ 120 := by omega
      clear ht hs hkk
      go_wp2_with (first | (refine wpList_farith (dst := some 23) _ _ _ _ _ .f64 _ _ rfl rfl rfl ?_; intro f1 n2 h1) | (refine wpList_farith (dst := some 25) _ _ _ _ _ .f64 _ _ rfl rfl rfl ?_; intro f2 n3 h2) | (refine wpList_farith (dst := some 30) _ _ _ _ _ .f64 _ _ rfl rfl rfl ?_; intro f3 n4 h3) | (refine wpList_farith (dst := some 33) _ _ _ _ _ .f64 _ _ rfl rfl rfl ?_; intro f4 n5 h4))
      have T := tA_step HW.out HR.out.1 (by have := HR.out.2.2; omega) h1 h2 h3
      go_roundw
      case rel => exact ⟨j + 1, kk + 1, ⟨by omega, by have := HR.out.2.2; omega⟩, rfl, f3, f4, _, rfl, rfl, T, sA_step HR.out.2.1 T h4, by first | rfl | simp⟩
      case measure => simp [intOf]; omega
    · obtain rfl : j = 120 := by omega
      have hk1 : (120 : Int) < kk := by omega
      have HS : Hid (Fv .f64 (sA x 120) rs) := Lib.hid hs
      clear ht hs hkk hj hlt HR
      go_wp2_with (first | (refine wpList_farith (dst := some 35) _ _ _ _ _ .f64 _ _ rfl rfl rfl ?_; intro f1 n2 h1) | (refine wpList_farith (dst := some 37) _ _ _ _ _ .f64 _ _ rfl rfl rfl ?_; intro f2 n3 h2) | (go_at_call 95; fail))
      refine (l01Narrow_32 _ _ (arg_fv HW.out h1 h2) (.inr (.inl HX.out.aok)) _).mono ?_
      rintro e w' ⟨r4, n4, rfl, h4, rfl⟩
      rw [HX.out.an] at h4
      obtain rfl := av_eq h4.2
      clear h1 h2 h4
      go_wp2_with (first | (go_at_call 94; fail))
      refine (l01Exp_neg _ HX.out.anp _).mono ?_
      rw [HX.out.ex]
      rintro e w' ⟨n5, rfl, rfl⟩
      go_wp2_with (first | (refine wpList_widen (dst := some 40) _ _ _ _ rfl Try.underlying22 Try.underlying26 ?_; intro re ne he) | (refine wpList_farith (dst := some 43) _ _ _ _ _ .f64 _ _ rfl rfl rfl ?_; intro f1 n6 h1) | (refine wpList_farith (dst := some 44) _ _ _ _ _ .f64 _ _ rfl rfl rfl ?_; intro f2 n7 h2) | (refine wpList_farith (dst := some 45) _ _ _ _ _ .f64 _ _ rfl rfl rfl ?_; intro f3 n8 h3) | (go_at_call 95; fail))
      refine (l01Narrow_32 _ _ (bel_fv HX.out.ex2 HS.out he h1 h2 h3) (.inr (.inl HX.out.bok)) _).mono ?_
      rintro e w' ⟨r9, n9, rfl, h9, rfl⟩
      rw [HX.out.bn] at h9
      obtain rfl := av_eq h9.2
      clear he h1 h2 h3 h9
      cases c1 : ltB r9 0 with
      | true =>
        have HC : Hid (clampB r9 = 0) := Lib.hid (by unfold clampB; rw [if_pos c1])
        have d1 := (show (FloatKind.f32.format.order r9 0 == some Ordering.lt) = _ from c1)
        clear c1
        go_wp2
        go_ret
        exact ⟨_, by rw [HC.out]; rfl, rfl⟩
      | false =>
        have d1 := (show (FloatKind.f32.format.order r9 0 == some Ordering.lt) = _ from c1)
        cases c2 : gtB r9 1065353216 with
        | true =>
          have HC : Hid (clampB r9 = 1065353216) := Lib.hid (by unfold clampB; rw [if_neg (by rw [c1]; exact Bool.false_ne_true), if_pos c2])
          have d2 := (show (FloatKind.f32.format.order r9 1065353216 == some Ordering.gt) = _ from c2)
          clear c1 c2
          go_wp2
          go_ret
          exact ⟨_, by rw [HC.out]; rfl, rfl⟩
        | false =>
          have HC : Hid (clampB r9 = r9) := Lib.hid (by unfold clampB; rw [if_neg (by rw [c1]; exact Bool.false_ne_true), if_neg (by rw [c2]; exact Bool.false_ne_true)])
          have d2 := (show (FloatKind.f32.format.order r9 1065353216 == some Ordering.gt) = _ from c2)
          clear c1 c2
          go_wp2
          go_ret
          exact ⟨_, by rw [HC.out]; rfl, rfl⟩
set_option maxRecDepth 100000 in
theorem implBell_any (x : Nat) (hf : finA .f32 (av .f32 x) = true) (w : World) : Calls Try.prog 56 #[.float .f32 x] w (Ret (.float .f32 (bellR x)) w) := by
  cases g1 : ltB x 3233808384 with
  | true =>
    have HC : Hid (bellR x = 0) := Lib.hid (by unfold bellR; rw [if_pos g1])
    have h1 := (show (FloatKind.f32.format.order x 3233808384 == some Ordering.lt) = _ from g1)
    clear g1 hf
    go_enter Try.func56, Try.ntmps56
    go_wp2
    go_ret
    exact ⟨0, by rw [HC.out]; rfl, rfl⟩
  | false =>
    cases g2 : gtB x 1086324736 with
    | true =>
      have HC : Hid (bellR x = 1065353216) := Lib.hid (by unfold bellR; rw [if_neg (by rw [g1]; exact Bool.false_ne_true), if_pos g2])
      have h1 := (show (FloatKind.f32.format.order x 3233808384 == some Ordering.lt) = _ from g1)
      have h2 := (show (FloatKind.f32.format.order x 1086324736 == some Ordering.gt) = _ from g2)
      clear g1 g2 hf
      go_enter Try.func56, Try.ntmps56
      go_wp2
      go_ret
      exact ⟨0, by rw [HC.out]; rfl, rfl⟩
    | false =>
      have e : bellR x = clampB (belB x) := by unfold bellR; rw [if_neg (by rw [g1]; exact Bool.false_ne_true), if_neg (by rw [g2]; exact Bool.false_ne_true)]
      rw [e]
      exact implBell_in x (eight_of hf g1 g2) g1 g2 w
set_option maxRecDepth 100000 in
theorem l05Bell_any (x : Nat) (hf : finA .f32 (av .f32 x) = true) (w : World) : Calls Try.prog 54 #[.float .f32 x] w (Ret (.float .f32 (bellR x)) w) := by
  cases g1 : ltB x 3233808384 with
  | true =>
    have HC : Hid (bellR x = 0) := Lib.hid (by unfold bellR; rw [if_pos g1])
    have h1 := (show (FloatKind.f32.format.order x 3233808384 == some Ordering.lt) = _ from g1)
    clear g1 hf
    go_enter Try.func54, Try.ntmps54
    go_wp2
    go_ret
    exact ⟨0, by rw [HC.out]; rfl, rfl⟩
  | false =>
    cases g2 : gtB x 1086324736 with
    | true =>
      have HC : Hid (bellR x = 1065353216) := Lib.hid (by unfold bellR; rw [if_neg (by rw [g1]; exact Bool.false_ne_true), if_pos g2])
      have h1 := (show (FloatKind.f32.format.order x 3233808384 == some Ordering.lt) = _ from g1)
      have h2 := (show (FloatKind.f32.format.order x 1086324736 == some Ordering.gt) = _ from g2)
      clear g1 g2 hf
      go_enter Try.func54, Try.ntmps54
      go_wp2
      go_ret
      exact ⟨0, by rw [HC.out]; rfl, rfl⟩
    | false =>
      have e : bellR x = clampB (belB x) := by unfold bellR; rw [if_neg (by rw [g1]; exact Bool.false_ne_true), if_neg (by rw [g2]; exact Bool.false_ne_true)]
      rw [e]
      exact l05Bell_in x (eight_of hf g1 g2) g1 g2 w
end Go.Proofs.Ytlafmocmkkjkgaa
