/- Products of two lists of float32: what the code and its model return, and the law's walk. -/
import Derived.Test.YtgkkimocmpgfkadLst
namespace Go.Proofs.Ytgkkimocmpgfkad
open Go Go.RowKit Fl Vag

/-- The sum of products, from left to right, beginning with +0, each product rounded. -/
def dotA (k : FloatKind) (xs ys : List Nat) : Option Nat := (xs.zip ys).foldl (fun s p => aop .add k s (aop .mul k (av k p.1) (av k p.2))) (some 0)
theorem dotA_next (k : FloatKind) (xs ys : List Nat) (i : Nat) (h : i < xs.length) (h' : i < ys.length) :
    dotA k (xs.take (i + 1)) (ys.take (i + 1)) = aop .add k (dotA k (xs.take i) (ys.take i)) (aop .mul k (av k (xs[i]?.getD 0)) (av k (ys[i]?.getD 0))) := by
  have e : (xs.take i).length = (ys.take i).length := by simp; omega
  unfold dotA
  rw [take_next xs i h, take_next ys i h', List.zip_append e]
  simp
theorem dot_first (k : FloatKind) (s : Option Nat) (x y p r : Nat) (hp : Fv k (aop .mul k (av k x) (av k y)) p) (hr : Fv k (aop .add k s (av k p)) r) : Fv k (aop .add k s (aop .mul k (av k x) (av k y))) r := by rw [← hp.2]; exact hr

set_option maxHeartbeats 800000 in
theorem implDot_in (xs ys : List Nat) (ao bo : Option Addr) (c c' : Nat) (w : World) (hx : Holds w ao (fl .f32 xs)) (hy : Holds w bo (fl .f32 ys)) (hlen : xs.length ≤ 256) (hsame : ys.length = xs.length) :
    Calls Try.prog 22 #[.slice ao xs.length c, .slice bo ys.length c'] w (Two .f32 (dotA .f32 xs ys) w) := by
  have HX := Lib.hid hx
  have HY := Lib.hid hy
  clear hx hy
  have hl' : (xs.length : Int) ≤ 256 := by omega
  rw [hsame]
  have HS := Lib.hid hsame
  clear hsame
  go_enter Try.func22, Try.ntmps22
  go_wp2
  go_loopw [6, 21] (fun s i wr => ∃ k : Nat, k ≤ xs.length ∧ i = .int .i64 k ∧ ∃ r n, s = .float .f32 r ∧ Fv .f32 (dotA .f32 (xs.take k) (ys.take k)) r ∧ wr = w.drewN n) (fun _ i _ => xs.length - (intOf i).toNat)
  case atStart => exact ⟨0, Nat.zero_le _, rfl, 0, 0, rfl, Fv_zero _, rfl⟩
  case round =>
    obtain ⟨k, hk, rfl, r, n, rfl, hr, rfl⟩ := hrel
    have HR := Lib.hid hr
    clear hr
    by_cases hlt : k < xs.length
    · have hlt' : k < ys.length := by rw [HS.out]; exact hlt
      obtain ⟨b, o, rfl, hc⟩ := HX.out k (by simpa [fl] using hlt)
      obtain ⟨b', o', rfl, hc'⟩ := HY.out k (by simpa [fl] using hlt')
      rw [fl_get _ _ _ hlt] at hc
      rw [fl_get _ _ _ hlt'] at hc'
      have HT := Lib.hid (dotA_next .f32 xs ys k hlt hlt')
      generalize xs[k]?.getD 0 = x at hc HT
      generalize ys[k]?.getD 0 = y at hc' HT
      clear hlt'
      go_wp2_with (refine wpList_farith _ _ _ _ _ .f32 _ _ rfl rfl rfl ?_; intro r' n' hr')
      go_roundw
      case rel => exact ⟨k + 1, by omega, by go_num, _, _, rfl, by rw [HT.out, ← HR.out.2]; exact dot_first _ _ _ _ _ _ (by assumption) (by assumption), rfl⟩
      case measure => simp [intOf]; omega
    · have HE := Lib.hid (take_whole xs k (by omega))
      have HE' := Lib.hid (take_whole ys k (by rw [HS.out]; omega))
      go_wp2
      go_ret2
      exact ⟨r, n, rfl, by rw [← HE.out, ← HE'.out]; exact HR.out, rfl⟩
theorem implDot_out (n m : Nat) (ao bo : Option Addr) (c c' : Nat) (w : World) (h : ¬ (n ≤ 256 ∧ m = n)) :
    Calls Try.prog 22 #[.slice ao n c, .slice bo m c'] w (fun e w' => e = .returned (.tuple #[.float .f32 0, .bool false]) ∧ w = w') := by
  by_cases h1 : n ≤ 256
  · have h1' : (n : Int) ≤ 256 := by omega
    have h2 : ((n : Int) != (m : Int)) = true := by rw [bne_iff_ne]; omega
    clear h h1
    go_enter Try.func22, Try.ntmps22
    go_wp2
    go_ret2
    exact ⟨rfl, rfl⟩
  · have h1' : (256 : Int) < (n : Int) := by omega
    clear h h1
    go_enter Try.func22, Try.ntmps22
    go_wp2
    go_ret2
    exact ⟨rfl, rfl⟩
set_option maxHeartbeats 800000 in
theorem l01Dot_any (xs ys : List Nat) (ao bo : Option Addr) (c c' : Nat) (w : World) (hx : Holds w ao (fl .f32 xs)) (hy : Holds w bo (fl .f32 ys)) (hlen : xs.length ≤ 1048576) (hsame : ys.length = xs.length) :
    Calls Try.prog 40 #[.slice ao xs.length c, .slice bo ys.length c'] w (Num .f32 (dotA .f32 xs ys) w) := by
  have HX := Lib.hid hx
  have HY := Lib.hid hy
  clear hx hy
  rw [hsame]
  have HS := Lib.hid hsame
  clear hsame
  go_enter Try.func40, Try.ntmps40
  go_wp2
  go_loopw [5, 6] (fun s i wr => ∃ k : Nat, k ≤ xs.length ∧ i = .int .i64 k ∧ ∃ r n, s = .float .f32 r ∧ Fv .f32 (dotA .f32 (xs.take k) (ys.take k)) r ∧ wr = w.drewN n) (fun _ i _ => xs.length - (intOf i).toNat)
  case atStart => exact ⟨0, Nat.zero_le _, rfl, 0, 0, rfl, Fv_zero _, rfl⟩
  case round =>
    obtain ⟨k, hk, rfl, r, n, rfl, hr, rfl⟩ := hrel
    have HR := Lib.hid hr
    clear hr
    by_cases hlt : k < xs.length
    · have hlt' : k < ys.length := by rw [HS.out]; exact hlt
      obtain ⟨b, o, rfl, hc⟩ := HX.out k (by simpa [fl] using hlt)
      obtain ⟨b', o', rfl, hc'⟩ := HY.out k (by simpa [fl] using hlt')
      rw [fl_get _ _ _ hlt] at hc
      rw [fl_get _ _ _ hlt'] at hc'
      have HT := Lib.hid (dotA_next .f32 xs ys k hlt hlt')
      generalize xs[k]?.getD 0 = x at hc HT
      generalize ys[k]?.getD 0 = y at hc' HT
      clear hlt'
      go_wp2
      refine wp_region_lex (C := Cw (w.drewN n)) (by kernel_rfl) (by kernel_rfl) ⟨1, rfl⟩ ?_
      repeat (first
        | (apply lex_move rfl (.inl rfl); (focus (simp [go_sem]; rfl)))
        | (apply lex_move rfl (.inr rfl); (focus (simp [go_sem]; rfl)))
        | (apply lex_farith _ _ _ _ _ .f32 _ _ rfl rfl rfl; (focus (intro r; simp [go_sem]; rfl)); intro r' hr')
        | (apply lex_pure rfl; (focus (intro m; go_simp; rfl)); (focus (simp [go_sem]; rfl))))
      refine lex_nil ?_
      rintro _ ⟨m, rfl⟩
      go_wp2
      go_roundw
      case rel => exact ⟨k + 1, by omega, by go_num, _, _, rfl, by rw [HT.out, ← HR.out.2]; exact dot_first _ _ _ _ _ _ (by assumption) (by assumption), rfl⟩
      case measure => simp [intOf]; omega
    · have HE := Lib.hid (take_whole xs k (by omega))
      have HE' := Lib.hid (take_whole ys k (by rw [HS.out]; omega))
      go_wp2
      go_ret
      exact ⟨r, n, rfl, by rw [← HE.out, ← HE'.out]; exact HR.out, rfl⟩
theorem specDot_in (xs ys : List Nat) (ao bo : Option Addr) (c c' : Nat) (w : World) (hx : Holds w ao (fl .f32 xs)) (hy : Holds w bo (fl .f32 ys)) (hlen : xs.length ≤ 256) (hsame : ys.length = xs.length) :
    Calls Try.prog 21 #[.slice ao xs.length c, .slice bo ys.length c'] w (Two .f32 (dotA .f32 xs ys) w) := by
  have HX := Lib.hid hx
  have HY := Lib.hid hy
  clear hx hy
  have hl' : decide ((xs.length : Int) ≤ 256) = true := by simp; omega
  have hne : ((xs.length : Int) != (ys.length : Int)) = false := by rw [bne_eq_false_iff_eq]; omega
  have HS := Lib.hid hsame
  clear hsame
  go_enter Try.func21, Try.ntmps21
  go_wp2_with (first | (go_at_call 38; refine (l01Few_any _ _ _ _).mono ?_; rintro e w' ⟨rfl, rfl⟩) | (go_at_call 40; refine (l01Dot_any xs ys _ _ _ _ _ HX.out HY.out (by omega) HS.out).mono ?_; rintro e w' ⟨r, n, rfl, hr, rfl⟩))
  go_ret2
  exact ⟨r, n, rfl, hr, rfl⟩
theorem specDot_out (n m : Nat) (ao bo : Option Addr) (c c' : Nat) (w : World) (h : ¬ (n ≤ 256 ∧ m = n)) :
    Calls Try.prog 21 #[.slice ao n c, .slice bo m c'] w (fun e w' => e = .returned (.tuple #[.float .f32 0, .bool false]) ∧ w = w') := by
  by_cases h1 : n ≤ 256
  · have h1' : decide ((n : Int) ≤ 256) = true := by simp; omega
    have h2 : ((n : Int) != (m : Int)) = true := by rw [bne_iff_ne]; omega
    clear h h1
    go_enter Try.func21, Try.ntmps21
    go_wp2_with (first | (go_at_call 38; refine (l01Few_any _ _ _ _).mono ?_; rintro e w' ⟨rfl, rfl⟩))
    go_ret2
    exact ⟨rfl, rfl⟩
  · have h1' : decide ((n : Int) ≤ 256) = false := by simp; omega
    clear h h1
    go_enter Try.func21, Try.ntmps21
    go_wp2_with (first | (go_at_call 38; refine (l01Few_any _ _ _ _).mono ?_; rintro e w' ⟨rfl, rfl⟩))
    go_ret2
    exact ⟨rfl, rfl⟩
set_option maxHeartbeats 800000 in
theorem FnExactDotNumbers_walk (xs : List Nat) (ao : Option Addr) (c : Nat) (ys : List Nat) (bo : Option Addr) (c' : Nat) (w : World) (hx : Holds w ao (fl .f32 xs)) (hy : Holds w bo (fl .f32 ys)) :
    Calls Try.prog 7 #[.slice ao xs.length c, .slice bo ys.length c'] w fun e w' => e = .returned (.bool true) ∧ Below w.heap.size w w' := by
  by_cases hlong : 1048576 < xs.length ∨ 1048576 < ys.length
  · clear hx hy
    by_cases h1 : 1048576 < xs.length
    · have hlong' : (1048576 : Int) < (xs.length : Int) := by omega
      go_enter Try.func7, Try.ntmps7
      go_wp2
      go_ret
      exact ⟨rfl, Below.refl _ _⟩
    · have hs1 : (xs.length : Int) ≤ 1048576 := by omega
      have hlong' : (1048576 : Int) < (ys.length : Int) := by omega
      go_enter Try.func7, Try.ntmps7
      go_wp2
      go_ret
      exact ⟨rfl, Below.refl _ _⟩
  · have hs1 : (xs.length : Int) ≤ 1048576 := by omega
    have hs2 : (ys.length : Int) ≤ 1048576 := by omega
    have hlx : xs.length ≤ 1048576 := by omega
    have hly : ys.length ≤ 1048576 := by omega
    have Hx := Lib.hid hx
    have Hy := Lib.hid hy
    clear hx hy hlong
    by_cases hin : xs.length ≤ 256 ∧ ys.length = xs.length
    · obtain ⟨hlen, hsame'⟩ := hin
      have HS := Lib.hid hsame'
      clear hsame'
      go_enter Try.func7, Try.ntmps7
      go_wp2_with fail
      refine (toFloat32S_any xs _ _ _ Hx.out hlx).mono ?_
      rintro e w1 ⟨A, rfl, hA, bel1, le1⟩
      replace Hx := Lib.hid (Holds.below Hx.out bel1)
      replace Hy := Lib.hid (Holds.below Hy.out bel1)
      have HA := Lib.hid hA
      clear hA
      go_wp2_with fail
      refine (toFloat32S_any ys _ _ _ Hy.out hly).mono ?_
      rintro e w2 ⟨B, rfl, hB, bel2, le2⟩
      replace Hx := Lib.hid (Holds.below Hx.out bel2)
      replace Hy := Lib.hid (Holds.below Hy.out bel2)
      replace HA := Lib.hid (Holds.below HA.out bel2)
      have HB := Lib.hid hB
      clear hB
      go_wp2_with fail
      refine (specDot_in xs ys _ _ _ _ _ HA.out HB.out hlen HS.out).mono ?_
      rintro e w' ⟨r1, n1, rfl, hr1, rfl⟩
      replace Hx := Lib.hid (Holds.drewN Hx.out n1)
      replace Hy := Lib.hid (Holds.drewN Hy.out n1)
      clear HA HB
      go_wp2_with fail
      refine (toFloat32S_any xs _ _ _ Hx.out hlx).mono ?_
      rintro e w3 ⟨C, rfl, hC, bel3, le3⟩
      replace Hx := Lib.hid (Holds.below Hx.out bel3)
      replace Hy := Lib.hid (Holds.below Hy.out bel3)
      have HC := Lib.hid hC
      clear hC
      go_wp2_with fail
      refine (toFloat32S_any ys _ _ _ Hy.out hly).mono ?_
      rintro e w4 ⟨D, rfl, hD, bel4, le4⟩
      replace Hx := Lib.hid (Holds.below Hx.out bel4)
      replace Hy := Lib.hid (Holds.below Hy.out bel4)
      replace HC := Lib.hid (Holds.below HC.out bel4)
      have HD := Lib.hid hD
      clear hD
      go_wp2_with fail
      refine (implDot_in xs ys _ _ _ _ _ HC.out HD.out hlen HS.out).mono ?_
      rintro e w' ⟨r2, n2, rfl, hr2, rfl⟩
      go_wp2_with (first | (refine wpList_widen _ _ _ _ rfl Try.underlying22 Try.underlying25 ?_; intro r n hr) | (go_at_call 12; fail))
      refine (sameFloat_any _ _ (widen (dotA .f32 xs ys)) (by rw [← hr2.2]; assumption) (by rw [← hr1.2]; assumption) _).mono ?_
      rintro e w' ⟨n3, rfl, rfl⟩
      go_wp2_with fail
      refine (toFloat32S_any xs _ _ _ (Hx.out.drewN _) hlx).mono ?_
      rintro e w5 ⟨E, rfl, hE, bel5, le5⟩
      replace Hy := Lib.hid (Holds.below (Hy.out.drewN _) bel5)
      replace HD := Lib.hid (Holds.below (HD.out.drewN _) bel5)
      replace HC := Lib.hid (Holds.below (HC.out.drewN _) bel5)
      have HE := Lib.hid hE
      clear hE
      go_wp2_with fail
      refine (eqFloat32S_yes xs xs (alike_self _ _) _ _ _ _ _ HC.out HE.out hlx).mono ?_
      rintro e w' ⟨n4, rfl, rfl⟩
      replace Hy := Lib.hid (Holds.drewN Hy.out n4)
      replace HD := Lib.hid (Holds.drewN HD.out n4)
      go_wp2_with fail
      refine (toFloat32S_any ys _ _ _ Hy.out hly).mono ?_
      rintro e w6 ⟨F, rfl, hF, bel6, le6⟩
      replace HD := Lib.hid (Holds.below HD.out bel6)
      have HF := Lib.hid hF
      clear hF
      go_wp2_with fail
      refine (eqFloat32S_yes ys ys (alike_self _ _) _ _ _ _ _ HD.out HF.out hly).mono ?_
      rintro e w' ⟨n5, rfl, rfl⟩
      go_wp2_with fail
      go_ret
      exact ⟨rfl, Bel_drewN (Bel_next (Bel_drewN (Bel_next (Bel_drewN (Bel_next (Bel_next (Bel_drewN (Bel_next bel1 bel2) _) bel3) bel4) _) bel5) _) bel6) _⟩
    · have hno := hin
      clear hin
      have HN := Lib.hid hno
      clear hno
      go_enter Try.func7, Try.ntmps7
      go_wp2_with fail
      refine (toFloat32S_any xs _ _ _ Hx.out hlx).mono ?_
      rintro e w1 ⟨A, rfl, hA, bel1, le1⟩
      replace Hx := Lib.hid (Holds.below Hx.out bel1)
      replace Hy := Lib.hid (Holds.below Hy.out bel1)
      have HA := Lib.hid hA
      clear hA
      go_wp2_with fail
      refine (toFloat32S_any ys _ _ _ Hy.out hly).mono ?_
      rintro e w2 ⟨B, rfl, hB, bel2, le2⟩
      replace Hx := Lib.hid (Holds.below Hx.out bel2)
      replace Hy := Lib.hid (Holds.below Hy.out bel2)
      replace HA := Lib.hid (Holds.below HA.out bel2)
      have HB := Lib.hid hB
      clear hB
      go_wp2_with fail
      refine (specDot_out _ _ _ _ _ _ _ HN.out).mono ?_
      rintro e w' ⟨rfl, rfl⟩
      clear HA HB
      go_wp2_with fail
      refine (toFloat32S_any xs _ _ _ Hx.out hlx).mono ?_
      rintro e w3 ⟨C, rfl, hC, bel3, le3⟩
      replace Hx := Lib.hid (Holds.below Hx.out bel3)
      replace Hy := Lib.hid (Holds.below Hy.out bel3)
      have HC := Lib.hid hC
      clear hC
      go_wp2_with fail
      refine (toFloat32S_any ys _ _ _ Hy.out hly).mono ?_
      rintro e w4 ⟨D, rfl, hD, bel4, le4⟩
      replace Hx := Lib.hid (Holds.below Hx.out bel4)
      replace Hy := Lib.hid (Holds.below Hy.out bel4)
      replace HC := Lib.hid (Holds.below HC.out bel4)
      have HD := Lib.hid hD
      clear hD
      go_wp2_with fail
      refine (implDot_out _ _ _ _ _ _ _ HN.out).mono ?_
      rintro e w' ⟨rfl, rfl⟩
      go_wp2_with (first | (refine wpList_widen _ _ _ _ rfl Try.underlying22 Try.underlying25 ?_; intro r n hr) | (go_at_call 12; fail))
      refine (sameFloat_any _ _ (widen (av .f32 0)) (by assumption) (by assumption) _).mono ?_
      rintro e w' ⟨n3, rfl, rfl⟩
      go_wp2_with fail
      refine (toFloat32S_any xs _ _ _ (Hx.out.drewN _) hlx).mono ?_
      rintro e w5 ⟨E, rfl, hE, bel5, le5⟩
      replace Hy := Lib.hid (Holds.below (Hy.out.drewN _) bel5)
      replace HD := Lib.hid (Holds.below (HD.out.drewN _) bel5)
      replace HC := Lib.hid (Holds.below (HC.out.drewN _) bel5)
      have HE := Lib.hid hE
      clear hE
      go_wp2_with fail
      refine (eqFloat32S_yes xs xs (alike_self _ _) _ _ _ _ _ HC.out HE.out hlx).mono ?_
      rintro e w' ⟨n4, rfl, rfl⟩
      replace Hy := Lib.hid (Holds.drewN Hy.out n4)
      replace HD := Lib.hid (Holds.drewN HD.out n4)
      go_wp2_with fail
      refine (toFloat32S_any ys _ _ _ Hy.out hly).mono ?_
      rintro e w6 ⟨F, rfl, hF, bel6, le6⟩
      replace HD := Lib.hid (Holds.below HD.out bel6)
      have HF := Lib.hid hF
      clear hF
      go_wp2_with fail
      refine (eqFloat32S_yes ys ys (alike_self _ _) _ _ _ _ _ HD.out HF.out hly).mono ?_
      rintro e w' ⟨n5, rfl, rfl⟩
      go_wp2_with fail
      go_ret
      exact ⟨rfl, Bel_drewN (Bel_next (Bel_drewN (Bel_next (Bel_drewN (Bel_next (Bel_next (Bel_next bel1 bel2) bel3) bel4) _) bel5) _) bel6) _⟩
end Go.Proofs.Ytgkkimocmpgfkad
