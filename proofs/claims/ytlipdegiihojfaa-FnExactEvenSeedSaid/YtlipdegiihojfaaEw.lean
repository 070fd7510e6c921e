/- The model of EvenSeed: halves one by one. -/
import Derived.Test.YtlipdegiihojfaaEv
namespace Go.Proofs.Ytlipdegiihojfaa
open Go Go.RowKit Fl
set_option linter.unusedVariables false

set_option maxRecDepth 100000 in
set_option maxHeartbeats 1000000 in
theorem l03Even_any (g : Nat) (k : Int) (a b : Nat) (w : World) (hs : sOk k a b) (hw : Whole w g 26 (sdC k a b)) :
    Calls Try.prog 85 #[.pointer (some ⟨g, 0, none⟩)] w (EvP g k a b w) := by
  have HS := Lib.hid hs
  have HW := Lib.hid hw
  clear hs hw
  go_enter Try.func85, Try.ntmps85
  go_wp2_with fail
  go_loopw [3, 4] (fun z i wr => ∃ n : Nat, n ≤ 4 ∧ i = .int .i64 n ∧ z = .int .i64 (32 * (n : Int)) ∧ (∀ j, j < n → wdK k a b j = 0) ∧ Whole wr g 26 (sdC k (sdK k a b n).1 (sdK k a b n).2) ∧ w.grownBy wr (some g)) (fun _ i _ => 4 - (intOf i).toNat)
  case atStart => exact ⟨0, Nat.zero_le _, rfl, rfl, fun j hj => absurd hj (Nat.not_lt_zero _), HW.out, grown_refl _ _⟩
  case round =>
    obtain ⟨n, hn, rfl, rfl, hall, q0, hgr⟩ := hrel
    have H := Lib.hid (And.intro hall (And.intro q0 hgr))
    clear hall q0 hgr
    have HJ := Lib.hid (HS.out.sdK n)
    have HJ2 := Lib.hid (HS.out.sdK (n + 1))
    by_cases hlt : n < 4
    · obtain ⟨W, hW⟩ : ∃ W, nxW k (sdK k a b n).1 (sdK k a b n).2 = W := ⟨_, rfl⟩
      have HW2 : Hid (wdK k a b n = W) := Lib.hid hW
      have hl : W < 4294967296 := by rw [← hW]; exact wdK_lt k a b n HS.out.kind
      have HX := Lib.hid hW
      clear hW
      have hl' : (W : Int) ≤ 4294967295 := by omega
      go_wp2_with fail
      refine (l02Next_any _ _ _ _ _ HJ.out.kind HJ.out.2.1 HJ.out.2.2 H.out.2.1).mono ?_
      rintro e w2 ⟨rfl, q0, hg2⟩
      rw [HX.out]
      have H2 := Lib.hid (And.intro H.out.1 (And.intro (show Whole w2 g 26 (sdC k (sdK k a b (n + 1)).1 (sdK k a b (n + 1)).2) from q0) (grown_trans H.out.2.2 hg2)))
      clear q0 hg2 H
      have HLT := Lib.hid hl
      clear hl
      by_cases h0 : W = 0
      · subst h0
        go_wp2_with fail
        go_roundw
        case rel =>
          refine ⟨n + 1, by omega, by go_num, by go_num, fun j hj => ?_, H2.out.2⟩
          by_cases e : j = n
          · subst e; exact HW2.out
          · exact H2.out.1 j (by omega)
        case measure => simp [intOf]; omega
      · have HZ := Lib.hid (lz_spec h0 HLT.out)
        go_wp2_with fail
        go_loopw [3, 5] (fun z x wr => ∃ j : Nat, j ≤ lz W ∧ z = .int .i64 (32 * (n : Int) + j) ∧ x = .int .u32 ((W * 2 ^ j : Nat) : Int) ∧ wr = w2) (fun z _ _ => 200 - (intOf z).toNat)
        case atStart => exact ⟨0, Nat.zero_le _, by simp, by simp, rfl⟩
        case round =>
          obtain ⟨j, hj, rfl, rfl, rfl⟩ := hrel
          have HL2 := Lib.hid (And.intro hj HZ.out)
          by_cases hw2 : W * 2 ^ j < 2147483648
          · have hj2 : j < lz W := by
              rcases Nat.lt_or_ge j (lz W) with h | h
              · exact h
              · have e : j = lz W := by omega
                rw [e] at hw2
                have := HZ.out.2.1
                omega
            have hj31 : j ≤ 31 := by have := HZ.out.1; omega
            have hdb : Hid (W * 2 ^ j * 2 = W * 2 ^ (j + 1)) := Lib.hid (by rw [Nat.pow_succ, Nat.mul_assoc])
            generalize W * 2 ^ j = V at *
            have hdec : decide ((V : Int) < 2147483648) = true := decide_eq_true (by omega)
            have hwr : IntKind.u32.wrap ((V : Int) * 2) = ((V * 2 : Nat) : Int) := by rw [IntKind.wrap_u32]; omega
            clear hw2
            go_wp2_with fail
            go_roundw
            case rel => exact ⟨j + 1, by omega, by go_num, by rw [← hdb.out, Int.natCast_mul]; rfl, by first | rfl | trivial⟩
            case measure => simp [intOf]; omega
          · have hj2 : j = lz W := by
              rcases Nat.lt_or_ge j (lz W) with h | h
              · exfalso
                have h1 := HZ.out.2.2
                have e : W * 2 ^ lz W = W * 2 ^ j * 2 ^ (lz W - j) := by rw [Nat.mul_assoc, ← Nat.pow_add, show j + (lz W - j) = lz W by omega]
                have h2 : 2 ≤ 2 ^ (lz W - j) := by
                  have := Nat.pow_le_pow_right (n := 2) (by omega) (show 1 ≤ lz W - j by omega)
                  simpa using this
                have h3 := Nat.mul_le_mul (Nat.le_of_not_lt hw2) h2
                rw [← e] at h3
                omega
              · omega
            have HV : Hid (W * 2 ^ j ≤ 4294967295) := Lib.hid (by rw [hj2]; have := HZ.out.2.2; omega)
            have HJZ := Lib.hid hj2
            have hj31 : j ≤ 31 := by have := HZ.out.1; omega
            generalize W * 2 ^ j = V at *
            have hdec : decide ((V : Int) < 2147483648) = false := decide_eq_false (by omega)
            clear hj2 hw2
            go_wp2_with (first | (go_at_call 110; fail))
            refine (l02Next_any _ _ _ _ _ HJ2.out.kind HJ2.out.2.1 HJ2.out.2.2 H2.out.2.1).mono ?_
            rintro e w3 ⟨rfl, q0, hg2⟩
            have H3 := Lib.hid (And.intro H2.out.1 (And.intro (show Whole w3 g 26 (sdC k (sdK k a b (n + 1 + 1)).1 (sdK k a b (n + 1 + 1)).2) from q0) (grown_trans H2.out.2.2 hg2)))
            clear q0 hg2 H2
            obtain ⟨D, hD⟩ : ∃ D, nxW k (sdK k a b (n + 1)).1 (sdK k a b (n + 1)).2 = D := ⟨_, rfl⟩
            have HD : Hid (wdK k a b (n + 1) = D) := Lib.hid hD
            have hdl : D < 4294967296 := by rw [← hD]; exact wdK_lt k a b (n + 1) HS.out.kind
            rw [hD]
            clear hD
            have hfl : floatOfInt .f64 (8388608 + (D : Int) / 512) = nb 1045 ((8388608 + D / 512) * 536870912) := by
              have := float_nb (8388608 + D / 512) (by omega) (by omega)
              rw [← this]; congr 1
            have hdl' : (D : Int) ≤ 4294967295 := by omega
            have HK : Hid (4503599627370496 ≤ (8388608 + D / 512) * 536870912 ∧ (8388608 + D / 512) * 536870912 < 9007199254740992) := Lib.hid (by omega)
            obtain ⟨K, hK⟩ : ∃ K, (8388608 + D / 512) * 536870912 = K := ⟨_, rfl⟩
            rw [hK] at hfl HK
            have HKE := Lib.hid hK
            clear hK hdl
            obtain ⟨N1, hN1⟩ : ∃ N1, nb 1045 K = N1 := ⟨_, rfl⟩
            rw [hN1] at hfl
            have HN1 := Lib.hid hN1
            clear hN1
            have hT : 32 * n + j ≤ 127 := by omega
            go_wp2_with fail
            go_loopw [7, 8] (fun x i wr => ∃ c : Nat, c ≤ 24 + (32 * n + j) ∧ i = .int .i64 c ∧ x = .float .f64 (nb (1045 - c) K) ∧ wr = w3) (fun _ i _ => 200 - (intOf i).toNat)
            case atStart => exact ⟨0, Nat.zero_le _, rfl, by rw [← HN1.out], rfl⟩
            case round =>
              obtain ⟨c, hc, rfl, rfl, rfl⟩ := hrel
              have HTT := Lib.hid hT
              clear hfl hdec hdl' hl' hT
              by_cases hlt2 : c < 24 + (32 * n + j)
              · obtain ⟨N3, hN3⟩ : ∃ N3, N3 = nb (1045 - (c + 1)) K := ⟨_, rfl⟩
                have hq : ∀ (t : TypeId) (w : World), (binOp .quo t (.float .f64 (nb (1045 - c) K)) (.float .f64 4611686018427387904)).run Try.prog w = .ok (.float .f64 N3) w := fun t w => by
                  rw [hN3]; exact half_fact HK.out.1 HK.out.2 (by have := HTT.out; omega) (by omega) t w
                have HQ := Lib.hid hN3
                clear hN3
                generalize nb (1045 - c) K = N2 at *
                go_wp2_with fail
                go_roundw
                case rel => exact ⟨c + 1, by omega, by go_num, by rw [HQ.out], by first | rfl | trivial⟩
                case measure => have := HTT.out; simp [intOf]; omega
              · have hN : Nb (1045 - c) K := ⟨HK.out.1, HK.out.2, by have := HTT.out; omega⟩
                have HF : Hid (Fv .f64 (some (nb (1045 - c) K)) (nb (1045 - c) K) ∧ In .f64 R127 (some (nb (1045 - c) K))) := Lib.hid ⟨⟨hN.lt, av_nb _ _ hN.lo hN.hi (by have := hN.L; omega)⟩, hN.in127⟩
                have HC : Hid (nb (1045 - c) K = nb (1021 - (32 * n + j)) K) := Lib.hid (by rw [show 1045 - c = 1021 - (32 * n + j) by omega])
                clear hN
                generalize nb (1045 - c) K = N2 at *
                go_wp2_with (first | (go_at_call 103; fail))
                refine (l01Narrow_32 _ _ HF.out.1 (.inr (.inl HF.out.2)) _).mono ?_
                rintro e w' ⟨r, nd, rfl, hr, rfl⟩
                have HR := Lib.hid hr
                clear hr
                go_wp2_with fail
                go_ret
                have hN := evN_one (k := k) (a := a) (b := b) (n := n) (by omega) H3.out.1 (fun _ => by rw [HW2.out]; exact h0)
                have hC : evC k a b = n + 1 := by unfold evC; rw [hN, if_pos hlt]
                have hTT : evT k a b = 32 * n + j := by unfold evT; rw [hN, if_pos hlt, HW2.out, HJZ.out]
                refine ⟨r, rfl, ?_, by rw [hC]; exact H3.out.2.1.drewN nd, grown_trans H3.out.2.2 (grown_drewN _ nd _)⟩
                unfold evR evX
                rw [hN, if_pos hlt, hTT, hC, HD.out, HKE.out, ← HC.out]
                exact HR.out
    · have hn4 : 4 ≤ n := by omega
      go_wp2_with (first | (go_at_call 110; fail))
      refine (l02Next_any _ _ _ _ _ HJ.out.kind HJ.out.2.1 HJ.out.2.2 H.out.2.1).mono ?_
      rintro e w2 ⟨rfl, q0, hg2⟩
      have H2 := Lib.hid (And.intro H.out.1 (And.intro (show Whole w2 g 26 (sdC k (sdK k a b (n + 1)).1 (sdK k a b (n + 1)).2) from q0) (grown_trans H.out.2.2 hg2)))
      clear q0 hg2
      go_wp2_with fail
      go_ret
      have e4 : n = 4 := by omega
      have hN := evN_one (k := k) (a := a) (b := b) hn H2.out.1 (fun h => absurd h (by omega))
      have hC : evC k a b = n := by unfold evC; rw [hN, if_neg (by omega)]; exact e4.symm
      refine ⟨0, rfl, ?_, by rw [hC]; exact H2.out.2.1, H2.out.2.2⟩
      unfold evR
      rw [hN, if_neg (by omega)]
      exact ⟨by decide, rfl⟩
set_option maxRecDepth 100000 in
set_option maxHeartbeats 1000000 in
theorem specEven_in (k : Int) (a b : Nat) (w : World) (hs : sOk k a b) :
    Calls Try.prog 44 #[sd k a b] w (RetF (fun r => .tuple #[sd k (sdK k a b (evC k a b + 1)).1 (sdK k a b (evC k a b + 1)).2, .float .f32 r, .bool true]) (evR k a b) w) := by
  have HS := Lib.hid hs
  have p0 := Lib.hid ((Whole.made w 26 (sdC k a b)).alloc (.cells (sdC 0 0 0) 26))
  clear hs
  go_enter Try.func44, Try.ntmps44
  go_wp2_with fail
  refine (l02Is_any _ _ _ _ _ p0.out).mono ?_
  rintro e w1 ⟨rfl, rfl⟩
  rw [HS.out.1]
  generalize hW : World.alloc (World.alloc _ _) _ = w0
  have H0 : Hid (Below w.heap.size w w0 ∧ Whole w0 w.heap.size 26 (sdC k a b) ∧ Whole w0 (w.heap.size + 1) 26 (sdC 0 0 0)) := Lib.hid (by
    rw [← hW]; exact ⟨(by repeat (first | with_reducible exact Below.refl _ _ | with_reducible exact HBL | with_reducible refine Below.drew ?_ | with_reducible refine Bel_drewN ?_ _ | with_reducible refine Below.alloc ?_ (by first | omega | (simp; done) | (simp; omega)) _ | with_reducible refine Below.setCell ?_ (by first | omega | (simp; done) | (simp; omega)) _)), p0.out, Whole.made2 _ _ _ _⟩)
  clear hW p0
  go_wp2_with (first | (go_at_call 85; fail))
  refine (l03Even_any _ _ _ _ _ HS.out H0.out.2.1).mono ?_
  rintro e w2 ⟨r, rfl, hr, r0, hg2⟩
  have H2 := Lib.hid (And.intro (Below.grown H0.out.1 hg2 H0.out.1.size (by simp)) (And.intro r0 (H0.out.2.2.grown hg2 (by simp))))
  have HR := Lib.hid hr
  clear hr r0 hg2 H0
  have HE : Hid (∀ A B, (sdK k a b (evC k a b + 1)).1 = A → (sdK k a b (evC k a b + 1)).2 = B → ∀ w', Below w.heap.size w w' → RetF (fun r => .tuple #[sd k (sdK k a b (evC k a b + 1)).1 (sdK k a b (evC k a b + 1)).2, .float .f32 r, .bool true]) (evR k a b) w (.returned (.tuple #[sd k A B, .float .f32 r, .bool true])) w') := Lib.hid (fun A B hA hB w' hb => by subst hA hB; exact ⟨r, rfl, HR.out, hb⟩)
  obtain ⟨A, hA⟩ : ∃ A, (sdK k a b (evC k a b + 1)).1 = A := ⟨_, rfl⟩
  obtain ⟨B, hB⟩ : ∃ B, (sdK k a b (evC k a b + 1)).2 = B := ⟨_, rfl⟩
  rw [hA, hB] at H2
  have HAB := Lib.hid (And.intro hA hB)
  clear hA hB
  obtain ⟨hc0, hf0⟩ := H2.out.2.1.facts
  obtain ⟨hc1, hf1⟩ := H2.out.2.2.facts
  have hz1 := H2.out.2.2.lt
  have hz0 := H2.out.2.1.lt
  go_wp2_with fail
  obtain ⟨HBL, q0, q1⟩ := H2.out
  exact bodyPost_ret (v := .tuple #[sd k A B, .float .f32 r, .bool true]) (by simp [results, Try.results44, go_sem, hc1]) rfl (HE.out A B HAB.out.1 HAB.out.2 _ (by repeat (first | with_reducible exact Below.refl _ _ | with_reducible exact HBL | with_reducible refine Below.drew ?_ | with_reducible refine Bel_drewN ?_ _ | with_reducible refine Below.alloc ?_ (by first | omega | (simp; done) | (simp; omega)) _ | with_reducible refine Below.setCell ?_ (by first | omega | (simp; done) | (simp; omega)) _)))
theorem specEven_no (k : Int) (a b : Nat) (w : World) (hv : vSeed k a b = false) :
    Calls Try.prog 44 #[sd k a b] w (RetF (fun r => .tuple #[sd 0 0 0, .float .f32 r, .bool false]) (av .f32 0) w) := by
  refine RetB.toF (r := 0) ?_ (by decide)
  have p0 := Lib.hid ((Whole.made w 26 (sdC k a b)).alloc (.cells (sdC 0 0 0) 26))
  go_enter Try.func44, Try.ntmps44
  go_wp2_with fail
  refine (l02Is_any _ _ _ _ _ p0.out).mono ?_
  rintro e w1 ⟨rfl, rfl⟩
  rw [hv]
  go_wp2_with fail
  exact bodyPost_ret (v := .tuple #[sd 0 0 0, .float .f32 0, .bool false]) (by simp [results, Try.results44, go_sem]) rfl ⟨rfl, (by repeat (first | with_reducible exact Below.refl _ _ | with_reducible exact HBL | with_reducible refine Below.drew ?_ | with_reducible refine Bel_drewN ?_ _ | with_reducible refine Below.alloc ?_ (by first | omega | (simp; done) | (simp; omega)) _ | with_reducible refine Below.setCell ?_ (by first | omega | (simp; done) | (simp; omega)) _))⟩
end Go.Proofs.Ytlipdegiihojfaa
