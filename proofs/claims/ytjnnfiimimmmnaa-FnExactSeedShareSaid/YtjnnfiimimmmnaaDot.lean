/- Products of two lists of float32: what the code and its model return, and the law's walk. -/
import Derived.Test.YtjnnfiimimmmnaaLst
namespace Go.Proofs.Ytjnnfiimimmmnaa
open Go Go.RowKit Fl Vag

/-- The sum of products, from left to right, beginning with +0, each product rounded. -/
def dotA (k : FloatKind) (xs ys : List Nat) : Option Nat := (xs.zip ys).foldl (fun s p => aop .add k s (aop .mul k (av k p.1) (av k p.2))) (some 0)
theorem dotA_next (k : FloatKind) (xs ys : List Nat) (i : Nat) (h : i < xs.length) (h' : i < ys.length) :
    dotA k (xs.take (i + 1)) (ys.take (i + 1)) = aop .add k (dotA k (xs.take i) (ys.take i)) (aop .mul k (av k (xs[i]?.getD 0)) (av k (ys[i]?.getD 0))) := by
  have e : (xs.take i).length = (ys.take i).length := by simp; omega
  unfold dotA
  rw [take_next xs i h, take_next ys i h', List.zip_append e]
  simp
theorem dot_first (k : FloatKind) (s : Option Nat) (x y p r : Nat) (hp : Fv k (aop .mul k (av k x) (av k y)) p) (hr : Fv k (aop .add k s (av k p)) r) : Fv k (aop .add k s (aop .mul k (av k x) (av k y))) r := by rw [← hp.2]; exact hr

set_option maxRecDepth 100000 in
set_option maxHeartbeats 800000 in
theorem implDot_in (xs ys : List Nat) (ao bo : Option Addr) (c c' : Nat) (w : World) (hx : Holds w ao (fl .f32 xs)) (hy : Holds w bo (fl .f32 ys)) (hlen : xs.length ≤ 256) (hsame : ys.length = xs.length) :
    Calls Try.prog 59 #[.slice ao xs.length c, .slice bo ys.length c'] w (Two .f32 (dotA .f32 xs ys) w) := by
  have HX := Lib.hid hx
  have HY := Lib.hid hy
  clear hx hy
  have hl' : (xs.length : Int) ≤ 256 := by omega
  rw [hsame]
  have HS := Lib.hid hsame
  clear hsame
  go_enter Try.func59, Try.ntmps59
  go_wp2
  go_loopw [6, 21] (fun s i wr => ∃ k : Nat, k ≤ xs.length ∧ i = .int .i64 k ∧ ∃ r n, s = .float .f32 r ∧ Fv .f32 (dotA .f32 (xs.take k) (ys.take k)) r ∧ wr = w.drewN n) (fun _ i _ => xs.length - (intOf i).toNat)
  case atStart => exact ⟨0, Nat.zero_le _, rfl, 0, 0, rfl, Fv_zero _, rfl⟩
  case round =>
    obtain ⟨k, hk, rfl, r, n, rfl, hr, rfl⟩ := hrel
    have HR := Lib.hid hr
    clear hr
    by_cases hlt : k < xs.length
    · have hlt' : k < ys.length := by rw [HS.out]; exact hlt
      obtain ⟨b, o, rfl, hc⟩ := HX.out k (by simpa [fl] using hlt)
      obtain ⟨b', o', rfl, hc'⟩ := HY.out k (by simpa [fl] using hlt')
      rw [fl_get _ _ _ hlt] at hc
      rw [fl_get _ _ _ hlt'] at hc'
      have HT := Lib.hid (dotA_next .f32 xs ys k hlt hlt')
      generalize xs[k]?.getD 0 = x at hc HT
      generalize ys[k]?.getD 0 = y at hc' HT
      clear hlt'
      go_wp2_with (refine wpList_farith _ _ _ _ _ .f32 _ _ rfl rfl rfl ?_; intro r' n' hr')
      go_roundw
      case rel => exact ⟨k + 1, by omega, by go_num, _, _, rfl, by rw [HT.out, ← HR.out.2]; exact dot_first _ _ _ _ _ _ (by assumption) (by assumption), rfl⟩
      case measure => simp [intOf]; omega
    · have HE := Lib.hid (take_whole xs k (by omega))
      have HE' := Lib.hid (take_whole ys k (by rw [HS.out]; omega))
      go_wp2
      go_ret2
      exact ⟨r, n, rfl, by rw [← HE.out, ← HE'.out]; exact HR.out, rfl⟩
theorem implDot_out (n m : Nat) (ao bo : Option Addr) (c c' : Nat) (w : World) (h : ¬ (n ≤ 256 ∧ m = n)) :
    Calls Try.prog 59 #[.slice ao n c, .slice bo m c'] w (fun e w' => e = .returned (.tuple #[.float .f32 0, .bool false]) ∧ w = w') := by
  by_cases h1 : n ≤ 256
  · have h1' : (n : Int) ≤ 256 := by omega
    have h2 : ((n : Int) != (m : Int)) = true := by rw [bne_iff_ne]; omega
    clear h h1
    go_enter Try.func59, Try.ntmps59
    go_wp2
    go_ret2
    exact ⟨rfl, rfl⟩
  · have h1' : (256 : Int) < (n : Int) := by omega
    clear h h1
    go_enter Try.func59, Try.ntmps59
    go_wp2
    go_ret2
    exact ⟨rfl, rfl⟩
end Go.Proofs.Ytjnnfiimimmmnaa
