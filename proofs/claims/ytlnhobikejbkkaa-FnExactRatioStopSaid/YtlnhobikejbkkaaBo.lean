/- Lists of bools: the law's helpers. -/
import Derived.Test.YtlnhobikejbkkaaChecked
import Derived.Test.YtlnhobikejbkkaaIl
import Derived.LoopTactic
import Derived.Deep.QuietTactic
import Derived.BigQuiet
namespace Go.Proofs.Ytlnhobikejbkkaa
open Go Go.RowKit
set_option linter.unusedVariables false

def bl (xs : List Bool) : List Value := xs.map Value.bool
theorem bl_len (xs : List Bool) : (bl xs).length = xs.length := by simp [bl]
theorem bl_get (xs : List Bool) (i : Nat) (h : i < xs.length) : (bl xs).getD i undef = .bool (xs[i]?.getD false) := by simp [bl, List.getD, h]
set_option maxHeartbeats 400000 in
theorem eqBoolS_same (xs : List Bool) (n : Nat) (hn : xs.length = n) (ao bo : Option Addr) (ca cb : Nat) (w : World) (hx : Holds w ao (bl xs)) (hy : Holds w bo (bl xs)) (hlen : n ≤ 2097152) :
    Calls Try.prog 33 #[.slice ao n ca, .slice bo n cb] w (RetB (.bool true) w) := by
  subst hn
  have HX := Lib.hid hx
  have HY := Lib.hid hy
  clear hx hy
  go_enter Try.func33, Try.ntmps33
  go_wp2
  go_loopw [5] (fun i wr => ∃ k : Nat, k ≤ xs.length ∧ i = .int .i64 k ∧ ∃ n, wr = w.drewN n) (fun i _ => xs.length - (intOf i).toNat)
  case atStart => exact ⟨0, Nat.zero_le _, rfl, 0, rfl⟩
  case round =>
    obtain ⟨k, hk, rfl, n, rfl⟩ := hrel
    by_cases hlt : k < xs.length
    · obtain ⟨b, o, rfl, hc⟩ := HX.out k (by simpa [bl] using hlt)
      obtain ⟨b', o', rfl, hc'⟩ := HY.out k (by simpa [bl] using hlt)
      rw [bl_get _ _ hlt] at hc hc'
      generalize xs[k]?.getD false = x at hc hc'
      have hlt' : (k : Int) < xs.length := by omega
      go_wp2
      go_quiet (fail)
      go_wp2
      go_roundw
      case rel => exact ⟨k + 1, by omega, by go_num, _, rfl⟩
      case measure => simp [intOf]; omega
    · go_wp2
      go_ret
      exact ⟨rfl, Bel_drewN (Below.refl _ _) _⟩
set_option maxHeartbeats 400000 in
theorem toBoolS_any (xs : List Bool) (ao : Option Addr) (c : Nat) (w : World) (hx : Holds w ao (bl xs)) (hlen : xs.length ≤ 1048576) :
    Calls Try.prog 31 #[.slice ao xs.length c] w (Copied xs.length (bl xs) w) := by
  have HX := Lib.hid hx
  clear hx
  have hmk := run_mk (P := Try.prog) w 38 4 (.bool false) 1 xs.length Try.underlying38 (by kernel_rfl) rfl (by omega) (by omega)
  go_enter Try.func31, Try.ntmps31
  go_wp2
  go_loopw [4] (fun i wr => ∃ k : Nat, k ≤ xs.length ∧ i = .int .i64 k ∧ wr = w.alloc (.cells (fillA (bl xs) (.bool false) k) 4)) (fun i _ => xs.length - (intOf i).toNat)
  case atStart => exact ⟨0, Nat.zero_le _, rfl, by rw [fillA_zero]; simp [bl]⟩
  case round =>
    obtain ⟨k, hk, rfl, rfl⟩ := hrel
    by_cases hlt : k < xs.length
    · obtain ⟨b, o, rfl, hc⟩ := HX.out k (by simpa [bl] using hlt)
      have HF := Lib.hid (fillA_set (bl xs) (.bool false) k (by simpa [bl] using hlt))
      rw [bl_get _ _ hlt] at hc
      have hg := bl_get xs k hlt
      have hb := World.block_lt_of_cell? _ _ hc
      have hsz : k < (fillA (bl xs) (.bool false) k).size := by rw [fillA_size _ _ _ (by simp [bl]; omega)]; simpa [bl] using hlt
      generalize hx : xs[k]?.getD false = x at hc hg
      have HG := Lib.hid hg
      have HC := Lib.hid (cell_old w (.cells (fillA (bl xs) (.bool false) k) 4) hc)
      clear hx hg
      generalize hA : fillA (bl xs) (.bool false) k = A at *
      have HA := Lib.hid hA
      clear hA
      have hcA := HC.out
      go_wp2
      go_roundw
      case rel => exact ⟨k + 1, by omega, by go_num, by rw [← HF.out, HG.out]⟩
      case measure => simp [intOf]; omega
    · have HE := Lib.hid (fillA_all (bl xs) (.bool false) k (by simp [bl]; omega))
      go_wp2
      go_ret
      refine ⟨some ⟨w.heap.size, 0, none⟩, rfl, ?_, (Below.refl _ _).alloc (Nat.le_refl _) _⟩
      rw [HE.out]
      exact .inr ⟨w.heap.size, (bl xs).toArray, 4, rfl, Nat.le_refl _, by simp, Whole.made _ _ _, fun i hi => by simp [List.getD, hi]⟩
/-- The bmarks: k, k + 1, and so on. -/
def bmarks (k n : Nat) : List Bool := (List.range n).map fun i : Nat => ((k : Int) + (i : Int)) % 3 == 0
theorem bmarks_len (k n : Nat) : (bmarks k n).length = n := by simp [bmarks]

/-- What the marking leaves: the next mark, and the bmarks in the row. -/
def BMarked (k n lo hi : Nat) (ao : Option Addr) (w : World) (e : Ending) (w' : World) : Prop :=
  e = .returned (.int .i64 ((k + n : Nat) : Int)) ∧ Row w' lo hi ao (bl (bmarks k n)) ∧ But lo hi w w'
theorem markBoolS_nil (k c : Nat) (ao : Option Addr) (lo hi : Nat) (w : World) :
    Calls Try.prog 34 #[.slice ao 0 c, .int .i64 k] w (BMarked k 0 lo hi ao w) := by
  go_enter Try.func34, Try.ntmps34
  go_wp2
  go_loopw [5, 1] (fun i m wr => i = .int .i64 0 ∧ m = .int .i64 k ∧ wr = w) (fun _ _ _ => 0)
  case atStart => exact ⟨rfl, rfl, rfl⟩
  case round =>
    obtain ⟨rfl, rfl, rfl⟩ := hrel
    go_wp2
    go_ret
    exact ⟨rfl, .inl (by simp [bmarks, bl]), But.refl _ _ _⟩
theorem markBoolS_zero (k c : Nat) (ao : Option Addr) (w : World) :
    Calls Try.prog 34 #[.slice ao 0 c, .int .i64 k] w (RetB (.int .i64 ((k + 0 : Nat) : Int)) w) :=
  (markBoolS_nil k c ao 0 0 w).mono fun e w' ⟨he, _, bt⟩ => ⟨he, bt.os, bt.tape, bt.output, bt.size, fun i hi => bt.block i hi (by omega)⟩
set_option maxHeartbeats 400000 in
theorem markBoolS_some (k c n lo hi g : Nat) (cs : Array Value) (t : TypeId) (w : World) (h1 : lo ≤ g) (h2 : g < hi) (hw : Whole w g t cs) (hn : n ≤ cs.size) (hk : k + n ≤ 1073741824) :
    Calls Try.prog 34 #[.slice (some ⟨g, 0, none⟩) n c, .int .i64 k] w (BMarked k n lo hi (some ⟨g, 0, none⟩) w) := by
  have HW := Lib.hid hw
  clear hw
  go_enter Try.func34, Try.ntmps34
  go_wp2
  go_loopw [5, 1] (fun i m wr => ∃ j : Nat, j ≤ n ∧ i = .int .i64 j ∧ m = .int .i64 ((k + j : Nat) : Int) ∧ w.grownBy wr (some g) ∧ ∃ ds : Array Value, Whole wr g t ds ∧ n ≤ ds.size ∧ ∀ i, i < j → ds[i]? = some (.bool (((k : Int) + (i : Int)) % 3 == 0))) (fun i _ _ => n - (intOf i).toNat)
  case atStart => exact ⟨0, Nat.zero_le _, rfl, rfl, grown_refl _ _, cs, HW.out, hn, fun i hi => absurd hi (Nat.not_lt_zero _)⟩
  case round =>
    obtain ⟨j, hj, rfl, rfl, hg, ds, hd, hs, hm⟩ := hrel
    by_cases hlt : j < n
    · obtain ⟨u, hcell⟩ : ∃ u, wr.cell? ⟨g, j, none⟩ = some u := ⟨ds[j], by rw [hd.cell]; exact Array.getElem?_eq_getElem (by omega)⟩
      have hfr := hd.frozen j
      have H := Lib.hid (And.intro hg (And.intro hd (And.intro hs hm)))
      clear hg hd hs hm
      go_wp2
      go_roundw
      case rel =>
        obtain ⟨hg, hd, hs, hm⟩ := H.out
        refine ⟨j + 1, by omega, by go_num, by simp; omega, grown_put hg _ _, _, hd.put j _, by simpa using hs, fun i hi => ?_⟩
        by_cases e : i = j
        · subst e; rw [Array.getElem?_setIfInBounds_self_of_lt (by omega)]
        · rw [Array.getElem?_setIfInBounds_ne (by omega)]; exact hm i (by omega)
      case measure => simp [intOf]; omega
    · have e : j = n := by omega
      have H := Lib.hid (And.intro hg (And.intro hd hm))
      clear hg hd hm
      go_wp2
      go_ret
      obtain ⟨hg, hd, hm⟩ := H.out
      refine ⟨by rw [← e]; rfl, .inr ⟨g, ds, t, rfl, h1, h2, hd, fun i hi => ?_⟩, But.grown hg h1 h2⟩
      have hi' : i < n := by simpa [bl, bmarks] using hi
      rw [hm i (by omega)]
      simp [bl, bmarks, List.getD, hi']
theorem markBoolS_row (n : Nat) (vs : List Value) (k c lo hi : Nat) (ao : Option Addr) (w : World) (h : Row w lo hi ao vs) (hn : vs.length = n) (hk : k + n ≤ 1073741824) :
    Calls Try.prog 34 #[.slice ao n c, .int .i64 k] w (BMarked k n lo hi ao w) := by
  subst hn
  rcases h with rfl | ⟨g, cs, t, rfl, h1, h2, hw, hc⟩
  · exact markBoolS_nil _ _ _ _ _ _
  · rcases Nat.eq_zero_or_pos vs.length with h0 | h0
    · rw [h0]; exact markBoolS_nil _ _ _ _ _ _
    · refine markBoolS_some k c vs.length lo hi g cs t w h1 h2 hw ?_ hk
      have := hc (vs.length - 1) (by omega)
      have := (Array.getElem?_eq_some_iff.1 this).1
      omega
end Go.Proofs.Ytlnhobikejbkkaa
