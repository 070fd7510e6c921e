/- Numbers with turned digits: both sides. -/
import Derived.Test.YticmnkgcolgpaaaOr
import Derived.Test.YticmnkgcolgpaaaSh
namespace Go.Proofs.Yticmnkgcolgpaaa
open Go Go.RowKit Fl
set_option linter.unusedVariables false

theorem Fv_av0 : Fv .f32 (av .f32 0) 0 := ⟨by decide, rfl⟩
/-- The number that turned digits tell, and the power of the base. -/
def trnF (ds : List Int) (b : Nat) (q : Nat) (x y : Int) : Int × Int :=
  if h : q = 0 ∨ b < 2 then (x, y) else trnF ds b (q / b) (wrap64 (wrap64 (x * b) + ds[q % b]?.getD 0)) (wrap64 (y * b))
termination_by q
decreasing_by exact Nat.div_lt_self (by omega) (by omega)
theorem trnF_next (ds : List Int) (b q : Nat) (x y : Int) (hq : 0 < q) (hb : 2 ≤ b) : trnF ds b q x y = trnF ds b (q / b) (wrap64 (wrap64 (x * b) + ds[q % b]?.getD 0)) (wrap64 (y * b)) := by
  rw [trnF, dif_neg (by omega)]
theorem trnF_end (ds : List Int) (b : Nat) (x y : Int) : trnF ds b 0 x y = (x, y) := by
  rw [trnF, dif_pos (.inl rfl)]
def trnV (ds : List Int) (b n : Nat) : Option Nat := aop .quo .f32 (av .f32 (floatOfInt .f32 (trnF ds b n 0 1).1)) (av .f32 (floatOfInt .f32 (trnF ds b n 0 1).2))
set_option maxRecDepth 100000 in
set_option maxHeartbeats 1000000 in
theorem implTurn_ret (ds : List Int) (n : Nat) (ao : Option Addr) (c : Nat) (w : World) (hn : n ≤ 65535) (hb : 2 ≤ ds.length ∧ ds.length ≤ 16) (hx : Holds w ao (il ds)) :
    Calls Try.prog 76 #[.int .i64 n, .slice ao ds.length c] w (RetF (fun r => .float .f32 r) (trnV ds ds.length n) w) := by
  have HX := Lib.hid hx
  have hb2 : (2 : Int) ≤ ds.length := by omega
  have hb3 : (ds.length : Int) ≤ 16 := by omega
  clear hx
  go_enter Try.func76, Try.ntmps76
  go_wp2
  go_loopw [0, 6, 7] (fun qv xv yv wr => ∃ q x y, q ≤ 65535 ∧ qv = .int .i64 (q : Nat) ∧ xv = .int .i64 x ∧ yv = .int .i64 y ∧ trnF ds ds.length q x y = trnF ds ds.length n 0 1 ∧ wr = w) (fun qv _ _ _ => (intOf qv).toNat)
  case atStart => exact ⟨n, 0, 1, hn, rfl, rfl, rfl, rfl, rfl⟩
  case round =>
    obtain ⟨q, x, y, hq, rfl, rfl, rfl, hF, rfl⟩ := hrel
    by_cases h0 : 0 < q
    · have h0' : (0 : Int) < q := by omega
      have hm : q % ds.length < ds.length := Nat.mod_lt _ (by omega)
      obtain ⟨b, o, rfl, hc⟩ := HX.out (q % ds.length) (by simpa [il] using hm)
      rw [il_get _ _ hm] at hc
      have HF : Hid (trnF ds ds.length (q / ds.length) (wrap64 (wrap64 (x * ds.length) + ds[q % ds.length]?.getD 0)) (wrap64 (y * ds.length)) = trnF ds ds.length n 0 1) := Lib.hid (by rw [← hF, ← trnF_next _ _ _ _ _ h0 hb.1])
      obtain ⟨p, hp⟩ : ∃ p, p = q % ds.length := ⟨_, rfl⟩
      have hpe : (q : Int) % ds.length = p := by rw [hp]; simp
      rw [← hp] at hc hm
      generalize hv : ds[p]?.getD 0 = v at hc
      obtain ⟨k, hk⟩ : ∃ k, k = q / ds.length := ⟨_, rfl⟩
      have hke : (q : Int) / ds.length = k := by rw [hk]; rfl
      have hkl : k < q := by rw [hk]; exact Nat.div_lt_self h0 (by omega)
      have HP := Lib.hid (And.intro hp (And.intro hv hk))
      have hm' : (p : Int) < ds.length := by omega
      clear hF hp hv hk
      go_wp2
      go_roundw
      case rel => exact ⟨k, _, _, by omega, rfl, rfl, rfl, by rw [← HF.out, ← HP.out.1, HP.out.2.1, HP.out.2.2], by trivial⟩
      case measure => simp [intOf]; omega
    · obtain rfl : q = 0 := by omega
      have HF : Hid (trnV ds ds.length n = aop .quo .f32 (av .f32 (floatOfInt .f32 x)) (av .f32 (floatOfInt .f32 y))) := Lib.hid (by unfold trnV; rw [← hF, trnF_end])
      clear hF h0
      go_wp2_with (refine wpList_farith _ _ _ _ _ .f32 _ _ rfl rfl rfl ?_; intro r n1 hr)
      go_ret
      exact ⟨r, rfl, by rw [HF.out]; exact hr, Bel_drewN (Below.refl _ _) _⟩
set_option maxRecDepth 100000 in
set_option maxHeartbeats 1000000 in
theorem specTurn_ret (ds : List Int) (n : Nat) (ao : Option Addr) (c : Nat) (w : World) (hn : n ≤ 65535) (hb : 2 ≤ ds.length ∧ ds.length ≤ 16) (hx : Holds w ao (il ds)) :
    Calls Try.prog 73 #[.int .i64 n, .int .i64 ds.length, .slice ao ds.length c] w (RetF (fun r => .float .f32 r) (trnV ds ds.length n) w) := by
  have HX := Lib.hid hx
  have hb2 : (2 : Int) ≤ ds.length := by omega
  have hb3 : (ds.length : Int) ≤ 16 := by omega
  clear hx
  go_enter Try.func73, Try.ntmps73
  go_wp2
  go_loopw [0, 7, 8] (fun qv xv yv wr => ∃ q x y, q ≤ 65535 ∧ qv = .int .i64 (q : Nat) ∧ xv = .int .i64 x ∧ yv = .int .i64 y ∧ trnF ds ds.length q x y = trnF ds ds.length n 0 1 ∧ wr = w) (fun qv _ _ _ => (intOf qv).toNat)
  case atStart => exact ⟨n, 0, 1, hn, rfl, rfl, rfl, rfl, rfl⟩
  case round =>
    obtain ⟨q, x, y, hq, rfl, rfl, rfl, hF, rfl⟩ := hrel
    by_cases h0 : 0 < q
    · have h0' : (0 : Int) < q := by omega
      have hm : q % ds.length < ds.length := Nat.mod_lt _ (by omega)
      obtain ⟨b, o, rfl, hc⟩ := HX.out (q % ds.length) (by simpa [il] using hm)
      rw [il_get _ _ hm] at hc
      have HF : Hid (trnF ds ds.length (q / ds.length) (wrap64 (wrap64 (x * ds.length) + ds[q % ds.length]?.getD 0)) (wrap64 (y * ds.length)) = trnF ds ds.length n 0 1) := Lib.hid (by rw [← hF, ← trnF_next _ _ _ _ _ h0 hb.1])
      obtain ⟨p, hp⟩ : ∃ p, p = q % ds.length := ⟨_, rfl⟩
      have hpe : (q : Int) % ds.length = p := by rw [hp]; simp
      rw [← hp] at hc hm
      generalize hv : ds[p]?.getD 0 = v at hc
      obtain ⟨k, hk⟩ : ∃ k, k = q / ds.length := ⟨_, rfl⟩
      have hke : (q : Int) / ds.length = k := by rw [hk]; rfl
      have hkl : k < q := by rw [hk]; exact Nat.div_lt_self h0 (by omega)
      have HP := Lib.hid (And.intro hp (And.intro hv hk))
      have hm' : (p : Int) < ds.length := by omega
      clear hF hp hv hk
      go_wp2
      go_roundw
      case rel => exact ⟨k, _, _, by omega, rfl, rfl, rfl, by rw [← HF.out, ← HP.out.1, HP.out.2.1, HP.out.2.2], by trivial⟩
      case measure => simp [intOf]; omega
    · obtain rfl : q = 0 := by omega
      have HF : Hid (trnV ds ds.length n = aop .quo .f32 (av .f32 (floatOfInt .f32 x)) (av .f32 (floatOfInt .f32 y))) := Lib.hid (by unfold trnV; rw [← hF, trnF_end])
      clear hF h0
      go_wp2_with (refine wpList_farith _ _ _ _ _ .f32 _ _ rfl rfl rfl ?_; intro r n1 hr)
      go_ret
      exact ⟨r, rfl, by rw [HF.out]; exact hr, Bel_drewN (Below.refl _ _) _⟩
/-- The arguments with which digits can be turned. -/
def trnC (n b : Int) (ds : List Int) : Prop := 0 ≤ n ∧ n ≤ 65535 ∧ 2 ≤ b ∧ b ≤ 16 ∧ (ds.length : Int) = b ∧ isOrd ds
end Go.Proofs.Yticmnkgcolgpaaa
