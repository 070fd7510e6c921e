/- Lists of float32 in rows: the law's helpers, by the shape of those on int64. -/
import Derived.Test.YtfgkimhcbboipaaDoorLst
namespace Go.Proofs.YtfgkimhcbboipaaDoor
open Go Go.RowKit Fl Vag
set_option linter.unusedVariables false

theorem fl_len (k : FloatKind) (xs : List Nat) : (fl k xs).length = xs.length := by simp [fl]
theorem alike_same (k : FloatKind) (xs : List Nat) : Alike k xs xs := ⟨rfl, fun _ _ => rfl⟩
theorem eqFloat32S_same (xs : List Nat) (n : Nat) (hn : xs.length = n) (ao bo : Option Addr) (ca cb : Nat) (w : World) (hx : Holds w ao (fl .f32 xs)) (hy : Holds w bo (fl .f32 xs)) (hlen : n ≤ 1048576) :
    Calls Tryd.prog 30 #[.slice ao n ca, .slice bo n cb] w (RetB (.bool true) w) := by
  subst hn
  refine (eqFloat32S_yes xs xs (alike_same _ _) ao bo ca cb w hx hy hlen).mono ?_
  rintro e w' ⟨n, rfl, rfl⟩
  exact ⟨rfl, Bel_drewN (Below.refl _ _) _⟩
set_option maxHeartbeats 400000 in
theorem toFloat32S_row (xs : List Nat) (ao : Option Addr) (c : Nat) (w : World) (hx : Holds w ao (fl .f32 xs)) (hlen : xs.length ≤ 1048576) :
    Calls Tryd.prog 28 #[.slice ao xs.length c] w (Copied xs.length (fl .f32 xs) w) := by
  have HX := Lib.hid hx
  clear hx
  have hmk := run_mk (P := Tryd.prog) w 36 81 (.float .f32 0) 4 xs.length Tryd.underlying36 (by kernel_rfl) rfl (by omega) (by omega)
  go_enter Tryd.func28, Tryd.ntmps28
  go_wp2
  go_loopw [4] (fun i wr => ∃ k : Nat, k ≤ xs.length ∧ i = .int .i64 k ∧ wr = w.alloc (.cells (fillA (fl .f32 xs) (.float .f32 0) k) 81)) (fun i _ => xs.length - (intOf i).toNat)
  case atStart => exact ⟨0, Nat.zero_le _, rfl, by rw [fillA_zero]; simp [fl]⟩
  case round =>
    obtain ⟨k, hk, rfl, rfl⟩ := hrel
    by_cases hlt : k < xs.length
    · obtain ⟨b, o, rfl, hc⟩ := HX.out k (by simpa [fl] using hlt)
      have HF := Lib.hid (fillA_set (fl .f32 xs) (.float .f32 0) k (by simpa [fl] using hlt))
      rw [fl_get _ _ _ hlt] at hc
      have hg := fl_get .f32 xs k hlt
      have hb := World.block_lt_of_cell? _ _ hc
      have hsz : k < (fillA (fl .f32 xs) (.float .f32 0) k).size := by rw [fillA_size _ _ _ (by simp [fl]; omega)]; simpa [fl] using hlt
      generalize hx : xs[k]?.getD 0 = x at hc hg
      have HG := Lib.hid hg
      have HC := Lib.hid (cell_old w (.cells (fillA (fl .f32 xs) (.float .f32 0) k) 81) hc)
      clear hx hg
      generalize hA : fillA (fl .f32 xs) (.float .f32 0) k = A at *
      have HA := Lib.hid hA
      clear hA
      have hcA := HC.out
      go_wp2
      go_roundw
      case rel => exact ⟨k + 1, by omega, by go_num, by rw [← HF.out, HG.out]⟩
      case measure => simp [intOf]; omega
    · have HE := Lib.hid (fillA_all (fl .f32 xs) (.float .f32 0) k (by simp [fl]; omega))
      go_wp2
      go_ret
      refine ⟨some ⟨w.heap.size, 0, none⟩, rfl, ?_, (Below.refl _ _).alloc (Nat.le_refl _) _⟩
      rw [HE.out]
      exact .inr ⟨w.heap.size, (fl .f32 xs).toArray, 81, rfl, Nat.le_refl _, by simp, Whole.made _ _ _, fun i hi => by simp [List.getD, hi]⟩
end Go.Proofs.YtfgkimhcbboipaaDoor
