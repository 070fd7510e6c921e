/- Lists of laws: how long they are; marks in lists of float32. -/
import Derived.Test.YtfgkimhcbboipaaDoorFr
import Derived.Test.YtfgkimhcbboipaaDoorIl
import Derived.Test.YtfgkimhcbboipaaDoorSz
namespace Go.Proofs.YtfgkimhcbboipaaDoor
open Go Go.RowKit Fl Vag
set_option linter.unusedVariables false
/-- Marks in a list of float32. -/
def fmark (k : Nat) : Nat := floatOfInt .f32 (k : Int)
def fmarks (k n : Nat) : List Nat := (List.range n).map fun i => fmark (k + i)
theorem fmarks_len (k n : Nat) : (fmarks k n).length = n := by simp [fmarks]
theorem fmark_num (k : Nat) : av .f32 (fmark k) = some (fmark k) := by
  refine av_some (k := .f32) ?_
  unfold fmark
  show (Ieee.single.read (Ieee.single.write (.number (decide ((k : Int) < 0)) (k : Int).natAbs 0))).isNaN = false
  exact read_write Ieee.single _ rfl
/-- What the marking leaves: the next mark, and the marks in the row. -/
def MarkedF (k n lo hi : Nat) (ao : Option Addr) (w : World) (e : Ending) (w' : World) : Prop :=
  e = .returned (.int .i64 ((k + n : Nat) : Int)) ∧ Row w' lo hi ao (fl .f32 (fmarks k n)) ∧ But lo hi w w'
theorem markFloat32S_nil (k c : Nat) (ao : Option Addr) (lo hi : Nat) (w : World) :
    Calls Tryd.prog 33 #[.slice ao 0 c, .int .i64 k] w (MarkedF k 0 lo hi ao w) := by
  go_enter Tryd.func33, Tryd.ntmps33
  go_wp2
  go_loopw [5, 1] (fun i m wr => i = .int .i64 0 ∧ m = .int .i64 k ∧ wr = w) (fun _ _ _ => 0)
  case atStart => exact ⟨rfl, rfl, rfl⟩
  case round =>
    obtain ⟨rfl, rfl, rfl⟩ := hrel
    go_wp2
    go_ret
    exact ⟨rfl, .inl (by simp [fmarks, fl]), But.refl _ _ _⟩
theorem markFloat32S_zero (k c : Nat) (ao : Option Addr) (w : World) :
    Calls Tryd.prog 33 #[.slice ao 0 c, .int .i64 k] w (RetB (.int .i64 ((k + 0 : Nat) : Int)) w) :=
  (markFloat32S_nil k c ao 0 0 w).mono fun e w' ⟨he, _, bt⟩ => ⟨he, bt.os, bt.tape, bt.output, bt.size, fun i hi => bt.block i hi (by omega)⟩
set_option maxHeartbeats 400000 in
theorem markFloat32S_some (k c n lo hi g : Nat) (cs : Array Value) (t : TypeId) (w : World) (h1 : lo ≤ g) (h2 : g < hi) (hw : Whole w g t cs) (hn : n ≤ cs.size) (hk : k + n ≤ 1073741824) :
    Calls Tryd.prog 33 #[.slice (some ⟨g, 0, none⟩) n c, .int .i64 k] w (MarkedF k n lo hi (some ⟨g, 0, none⟩) w) := by
  have HW := Lib.hid hw
  clear hw
  go_enter Tryd.func33, Tryd.ntmps33
  go_wp2
  go_loopw [5, 1] (fun i m wr => ∃ j : Nat, j ≤ n ∧ i = .int .i64 j ∧ m = .int .i64 ((k + j : Nat) : Int) ∧ w.grownBy wr (some g) ∧ ∃ ds : Array Value, Whole wr g t ds ∧ n ≤ ds.size ∧ ∀ i, i < j → ds[i]? = some (.float .f32 (fmark (k + i)))) (fun i _ _ => n - (intOf i).toNat)
  case atStart => exact ⟨0, Nat.zero_le _, rfl, rfl, grown_refl _ _, cs, HW.out, hn, fun i hi => absurd hi (Nat.not_lt_zero _)⟩
  case round =>
    obtain ⟨j, hj, rfl, rfl, hg, ds, hd, hs, hm⟩ := hrel
    by_cases hlt : j < n
    · obtain ⟨u, hcell⟩ : ∃ u, wr.cell? ⟨g, j, none⟩ = some u := ⟨ds[j], by rw [hd.cell]; exact Array.getElem?_eq_getElem (by omega)⟩
      have hfr := hd.frozen j
      have H := Lib.hid (And.intro hg (And.intro hd (And.intro hs hm)))
      clear hg hd hs hm
      go_wp2
      go_roundw
      case rel =>
        obtain ⟨hg, hd, hs, hm⟩ := H.out
        refine ⟨j + 1, by omega, by go_num, by simp; omega, grown_put hg _ _, _, hd.put j _, by simpa using hs, fun i hi => ?_⟩
        by_cases e : i = j
        · subst e; rw [Array.getElem?_setIfInBounds_self_of_lt (by omega)]; unfold fmark; rw [Int.natCast_add]
        · rw [Array.getElem?_setIfInBounds_ne (by omega)]; exact hm i (by omega)
      case measure => simp [intOf]; omega
    · have e : j = n := by omega
      have H := Lib.hid (And.intro hg (And.intro hd hm))
      clear hg hd hm
      go_wp2
      go_ret
      obtain ⟨hg, hd, hm⟩ := H.out
      refine ⟨by rw [← e]; rfl, .inr ⟨g, ds, t, rfl, h1, h2, hd, fun i hi => ?_⟩, But.grown hg h1 h2⟩
      have hi' : i < n := by simpa [fl, fmarks] using hi
      rw [hm i (by omega)]
      simp [fl, fmarks, List.getD, hi']
theorem markFloat32S_row (n : Nat) (vs : List Value) (k c lo hi : Nat) (ao : Option Addr) (w : World) (h : Row w lo hi ao vs) (hn : vs.length = n) (hk : k + n ≤ 1073741824) :
    Calls Tryd.prog 33 #[.slice ao n c, .int .i64 k] w (MarkedF k n lo hi ao w) := by
  subst hn
  rcases h with rfl | ⟨g, cs, t, rfl, h1, h2, hw, hc⟩
  · exact markFloat32S_nil _ _ _ _ _ _
  · rcases Nat.eq_zero_or_pos vs.length with h0 | h0
    · rw [h0]; exact markFloat32S_nil _ _ _ _ _ _
    · refine markFloat32S_some k c vs.length lo hi g cs t w h1 h2 hw ?_ hk
      have := hc (vs.length - 1) (by omega)
      have := (Array.getElem?_eq_some_iff.1 this).1
      omega
set_option maxHeartbeats 400000 in
theorem heldFloat32S_fmarks (k n c : Nat) (ao : Option Addr) (w : World) (hx : Holds w ao (fl .f32 (fmarks k n))) (hk : k + n ≤ 1073741824) :
    Calls Tryd.prog 34 #[.slice ao n c, .int .i64 k] w (RetB (.int .i64 ((k + n : Nat) : Int)) w) := by
  have HX := Lib.hid hx
  clear hx
  go_enter Tryd.func34, Tryd.ntmps34
  go_wp2
  go_loop [5, 1] (fun i m => ∃ j : Nat, j ≤ n ∧ i = .int .i64 j ∧ m = .int .i64 ((k + j : Nat) : Int)) (fun i _ => n - (intOf i).toNat)
  case atStart => exact ⟨0, Nat.zero_le _, rfl, rfl⟩
  case round =>
    obtain ⟨j, hj, rfl, rfl⟩ := hrel
    by_cases hlt : j < n
    · obtain ⟨b, o, rfl, hc⟩ := HX.out j (by simpa [fl, fmarks] using hlt)
      rw [fl_get _ _ _ (by simpa [fmarks] using hlt), show (fmarks k n)[j]?.getD 0 = fmark (k + j) by simp [fmarks, hlt]] at hc
      have hneq : (FloatKind.f32.format.order (fmark (k + j)) (floatOfInt .f32 ((k : Int) + (j : Int))) != some Ordering.eq) = false := by
        have := neq_self_num .f32 _ _ (fmark_num (k + j))
        unfold fmark at this ⊢
        rw [Int.natCast_add] at this ⊢
        exact this
      go_wp2
      go_round
      case rel => exact ⟨j + 1, by omega, by go_num, by simp; omega⟩
      case measure => simp [intOf]; omega
    · have E : Hid (j = n) := Lib.hid (by omega)
      go_wp2
      go_ret
      exact ⟨by rw [← E.out]; rfl, Below.refl _ _⟩
end Go.Proofs.YtfgkimhcbboipaaDoor
