/- Angles: steepTurns of the code. -/
import Derived.Test.YticmnkgcolgpaaaAtb
import Derived.Test.YticmnkgcolgpaaaNum
namespace Go.Proofs.Yticmnkgcolgpaaa.Fl
open Go Go.RowKit Ieee
set_option linter.unusedVariables false
theorem av_onew : av .f64 4607182418800017408 = some ONEW := by decide
theorem av_eightw : av .f64 4620693217682128896 = some EIGHTW := by decide
theorem av_turnw : av .f64 4618760256179416344 = some 4618760256179416344 := by decide
theorem av_odd (j : Nat) (hj : j < 8) : av .f64 (floatOfInt .f64 (15 - 2 * (j : Int))) = some (floatOfInt .f64 (15 - 2 * (j : Int))) := by
  have : j = 0 ∨ j = 1 ∨ j = 2 ∨ j = 3 ∨ j = 4 ∨ j = 5 ∨ j = 6 ∨ j = 7 := by omega
  rcases this with rfl | rfl | rfl | rfl | rfl | rfl | rfl | rfl <;> decide +kernel
set_option maxRecDepth 100000 in
set_option maxHeartbeats 2000000 in
theorem steep_any (b : Nat) (v : Option Nat) (hb : av .f64 b = v) (w : World) : Calls Try.prog 84 #[.float .f64 b] w (NumW (stV v) w) := by
  have HB := Lib.hid hb
  clear hb
  go_enter Try.func84, Try.ntmps84
  go_wp2_with fail
  go_loopw [0, 6] (fun t i wr => ∃ (k r q : Nat), k ≤ 3 ∧ i = .int .i64 k ∧ t = .float .f64 r ∧ av .f64 r = redV v k ∧ wr = w.drewN q) (fun _ i _ => 3 - (intOf i).toNat)
  case atStart => exact ⟨0, b, 0, Nat.zero_le _, rfl, rfl, HB.out, rfl⟩
  case round =>
    obtain ⟨k, r, q, hk, rfl, rfl, hr, rfl⟩ := hrel
    have HR := Lib.hid hr
    have hk3 : (k : Int) ≤ 3 := by omega
    clear hr
    by_cases hlt : k < 3
    · have hlt' : (k : Int) < 3 := by omega
      have hflag : True := trivial
      go_wp2_with (first | (go_at_call 99; fail) | (clear hflag; refine wpList_farith _ _ _ _ _ .f64 _ _ rfl rfl rfl ?_; intro r1 n1 h1) | (refine wpList_farith _ _ _ _ _ .f64 _ _ rfl rfl rfl ?_; intro r2 n2 h2))
      refine (Sqrt_any _ _).mono ?_
      rintro e w' ⟨r3, n3, rfl, h3, rfl⟩
      have hflag : True := trivial
      go_wp2_with (first | (clear hflag; refine wpList_farith _ _ _ _ _ .f64 _ _ rfl rfl rfl ?_; intro r4 n4 h4) | (refine wpList_farith _ _ _ _ _ .f64 _ _ rfl rfl rfl ?_; intro r5 n5 h5))
      have HV : Hid (av .f64 r5 = redV v (k + 1)) := Lib.hid (by
        show _ = aop .quo .f64 _ _
        rw [h5.2, h4.2, h3.2, h2.2, h1.2, av_onew, HR.out])
      clear h1 h2 h3 h4 h5
      go_roundw
      case rel => exact ⟨k + 1, r5, _, by omega, by go_num, rfl, HV.out, rfl⟩
      case measure => simp [intOf]; omega
    · obtain rfl : k = 3 := by omega
      go_wp2_with (refine wpList_farith _ _ _ _ _ .f64 _ _ rfl rfl rfl ?_; intro ru nu hu)
      have HU : Hid (av .f64 ru = aop .mul .f64 (redV v 3) (redV v 3)) := Lib.hid (by rw [hu.2, HR.out])
      clear hu
      go_loopw [4, 5] (fun p i wr => ∃ (j rp q2 : Nat), j ≤ 8 ∧ i = .int .i64 (15 - 2 * (j : Int)) ∧ p = .float .f64 rp ∧ av .f64 rp = polB (aop .mul .f64 (redV v 3) (redV v 3)) j ∧ wr = w.drewN q2) (fun _ i _ => (intOf i + 1).toNat)
      case atStart => exact ⟨0, 0, _, Nat.zero_le _, rfl, rfl, av_zero .f64, rfl⟩
      case round =>
        obtain ⟨j, rp, q2, hj, rfl, rfl, hp, rfl⟩ := hrel
        have HP := Lib.hid hp
        clear hp
        by_cases hlt2 : j < 8
        · have hj1 : (1 : Int) ≤ 15 - 2 * (j : Int) := by omega
          have hj2 : 15 - 2 * (j : Int) ≤ 15 := by omega
          have HO := Lib.hid (av_odd j hlt2)
          have HST : Hid (polB (aop .mul .f64 (redV v 3) (redV v 3)) (j + 1) = aop .sub .f64 (aop .quo .f64 (some ONEW) (some (floatOfInt .f64 (15 - 2 * (j : Int))))) (aop .mul .f64 (aop .mul .f64 (redV v 3) (redV v 3)) (polB (aop .mul .f64 (redV v 3) (redV v 3)) j))) := Lib.hid rfl
          have hf1 : True := trivial
          have hf2 : True := trivial
          go_wp2_with (first | (clear hf1; refine wpList_farith _ _ _ _ _ .f64 _ _ rfl rfl rfl ?_; intro r1 n1 h1) | (clear hf2; refine wpList_farith _ _ _ _ _ .f64 _ _ rfl rfl rfl ?_; intro r2 n2 h2) | (refine wpList_farith _ _ _ _ _ .f64 _ _ rfl rfl rfl ?_; intro r3 n3 h3))
          have HV : Hid (av .f64 r3 = polB (aop .mul .f64 (redV v 3) (redV v 3)) (j + 1)) := Lib.hid (by
            rw [HST.out, h3.2, h2.2, h1.2, av_onew, HO.out, HU.out, HP.out])
          clear h1 h2 h3
          go_roundw
          case rel => exact ⟨j + 1, r3, _, by omega, by go_num, rfl, HV.out, rfl⟩
          case measure => simp [intOf]; omega
        · obtain rfl : j = 8 := by omega
          have hf1 : True := trivial
          have hf2 : True := trivial
          go_wp2_with (first | (clear hf1; refine wpList_farith _ _ _ _ _ .f64 _ _ rfl rfl rfl ?_; intro r1 n1 h1) | (clear hf2; refine wpList_farith _ _ _ _ _ .f64 _ _ rfl rfl rfl ?_; intro r2 n2 h2) | (refine wpList_farith _ _ _ _ _ .f64 _ _ rfl rfl rfl ?_; intro r3 n3 h3))
          go_ret
          exact ⟨r3, _, rfl, ⟨h3.1, by rw [h3.2, h2.2, h1.2, av_turnw, av_eightw, HR.out, HP.out]; rfl⟩, rfl⟩
end Go.Proofs.Yticmnkgcolgpaaa.Fl
