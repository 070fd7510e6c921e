/- Lists of int64: the law's helpers. -/
import Derived.Test.YtfgkimhcbboipaaDoorChecked
import Derived.Test.YtfgkimhcbboipaaDoorMm
import Derived.LoopTactic
import Derived.Deep.QuietTactic
import Derived.BigQuiet
namespace Go.Proofs.YtfgkimhcbboipaaDoor
open Go Go.RowKit
set_option linter.unusedVariables false

def il (xs : List Int) : List Value := xs.map (Value.int .i64)
theorem il_len (xs : List Int) : (il xs).length = xs.length := by simp [il]
theorem il_get (xs : List Int) (i : Nat) (h : i < xs.length) : (il xs).getD i undef = .int .i64 (xs[i]?.getD 0) := by simp [il, List.getD, h]
theorem quiet_same' {P : Program} {f : FuncId} {args : Array Value} {w : World} {n : Nat} {v : Value}
    (h : Calls P f args (w.drewN n) fun e w' => e = .returned v ∧ w.drewN n = w') : Calls P f args (w.drewN n) fun e w'' => e = .returned v ∧ ∃ m, w'' = w.drewN m :=
  h.mono fun _ _ ⟨he, hm⟩ => ⟨he, n, hm.symm⟩
/-- It returns v, and has drawn at most. -/
def RetD (v : Value) (w : World) (e : Ending) (w' : World) : Prop := ∃ n, e = .returned v ∧ w' = w.drewN n

set_option maxHeartbeats 400000 in
theorem eqInt64S_same (xs : List Int) (n : Nat) (hn : xs.length = n) (ao bo : Option Addr) (ca cb : Nat) (w : World) (hx : Holds w ao (il xs)) (hy : Holds w bo (il xs)) (hlen : n ≤ 2097152) :
    Calls Tryd.prog 22 #[.slice ao n ca, .slice bo n cb] w (RetB (.bool true) w) := by
  subst hn
  have HX := Lib.hid hx
  have HY := Lib.hid hy
  clear hx hy
  go_enter Tryd.func22, Tryd.ntmps22
  go_wp2
  go_loopw [5] (fun i wr => ∃ k : Nat, k ≤ xs.length ∧ i = .int .i64 k ∧ ∃ n, wr = w.drewN n) (fun i _ => xs.length - (intOf i).toNat)
  case atStart => exact ⟨0, Nat.zero_le _, rfl, 0, rfl⟩
  case round =>
    obtain ⟨k, hk, rfl, n, rfl⟩ := hrel
    by_cases hlt : k < xs.length
    · obtain ⟨b, o, rfl, hc⟩ := HX.out k (by simpa [il] using hlt)
      obtain ⟨b', o', rfl, hc'⟩ := HY.out k (by simpa [il] using hlt)
      rw [il_get _ _ hlt] at hc hc'
      generalize xs[k]?.getD 0 = x at hc hc'
      have hlt' : (k : Int) < xs.length := by omega
      go_wp2
      go_quiet (fail)
      go_wp2
      go_roundw
      case rel => exact ⟨k + 1, by omega, by go_num, _, rfl⟩
      case measure => simp [intOf]; omega
    · go_wp2
      go_ret
      exact ⟨rfl, Bel_drewN (Below.refl _ _) _⟩
set_option maxHeartbeats 400000 in
theorem toInt64S_any (xs : List Int) (ao : Option Addr) (c : Nat) (w : World) (hx : Holds w ao (il xs)) (hlen : xs.length ≤ 1048576) :
    Calls Tryd.prog 20 #[.slice ao xs.length c] w (Copied xs.length (il xs) w) := by
  have HX := Lib.hid hx
  clear hx
  have hmk := run_mk (P := Tryd.prog) w 27 2 (.int .i64 0) 8 xs.length Tryd.underlying27 (by kernel_rfl) rfl (by omega) (by omega)
  go_enter Tryd.func20, Tryd.ntmps20
  go_wp2
  go_loopw [4] (fun i wr => ∃ k : Nat, k ≤ xs.length ∧ i = .int .i64 k ∧ wr = w.alloc (.cells (fillA (il xs) (.int .i64 0) k) 2)) (fun i _ => xs.length - (intOf i).toNat)
  case atStart => exact ⟨0, Nat.zero_le _, rfl, by rw [fillA_zero]; simp [il]⟩
  case round =>
    obtain ⟨k, hk, rfl, rfl⟩ := hrel
    by_cases hlt : k < xs.length
    · obtain ⟨b, o, rfl, hc⟩ := HX.out k (by simpa [il] using hlt)
      have HF := Lib.hid (fillA_set (il xs) (.int .i64 0) k (by simpa [il] using hlt))
      rw [il_get _ _ hlt] at hc
      have hg := il_get xs k hlt
      have hb := World.block_lt_of_cell? _ _ hc
      have hsz : k < (fillA (il xs) (.int .i64 0) k).size := by rw [fillA_size _ _ _ (by simp [il]; omega)]; simpa [il] using hlt
      generalize hx : xs[k]?.getD 0 = x at hc hg
      have HG := Lib.hid hg
      have HC := Lib.hid (cell_old w (.cells (fillA (il xs) (.int .i64 0) k) 2) hc)
      clear hx hg
      generalize hA : fillA (il xs) (.int .i64 0) k = A at *
      have HA := Lib.hid hA
      clear hA
      have hcA := HC.out
      go_wp2
      go_roundw
      case rel => exact ⟨k + 1, by omega, by go_num, by rw [← HF.out, HG.out]⟩
      case measure => simp [intOf]; omega
    · have HE := Lib.hid (fillA_all (il xs) (.int .i64 0) k (by simp [il]; omega))
      go_wp2
      go_ret
      refine ⟨some ⟨w.heap.size, 0, none⟩, rfl, ?_, (Below.refl _ _).alloc (Nat.le_refl _) _⟩
      rw [HE.out]
      exact .inr ⟨w.heap.size, (il xs).toArray, 2, rfl, Nat.le_refl _, by simp, Whole.made _ _ _, fun i hi => by simp [List.getD, hi]⟩
/-- The marks: k, k + 1, and so on. -/
def marks (k n : Nat) : List Int := (List.range n).map fun i => ((k + i : Nat) : Int)
theorem marks_len (k n : Nat) : (marks k n).length = n := by simp [marks]

/-- What the marking leaves: the next mark, and the marks in the row. -/
def Marked (k n lo hi : Nat) (ao : Option Addr) (w : World) (e : Ending) (w' : World) : Prop :=
  e = .returned (.int .i64 ((k + n : Nat) : Int)) ∧ Row w' lo hi ao (il (marks k n)) ∧ But lo hi w w'
theorem markInt64S_nil (k c : Nat) (ao : Option Addr) (lo hi : Nat) (w : World) :
    Calls Tryd.prog 25 #[.slice ao 0 c, .int .i64 k] w (Marked k 0 lo hi ao w) := by
  go_enter Tryd.func25, Tryd.ntmps25
  go_wp2
  go_loopw [5, 1] (fun i m wr => i = .int .i64 0 ∧ m = .int .i64 k ∧ wr = w) (fun _ _ _ => 0)
  case atStart => exact ⟨rfl, rfl, rfl⟩
  case round =>
    obtain ⟨rfl, rfl, rfl⟩ := hrel
    go_wp2
    go_ret
    exact ⟨rfl, .inl (by simp [marks, il]), But.refl _ _ _⟩
theorem markInt64S_zero (k c : Nat) (ao : Option Addr) (w : World) :
    Calls Tryd.prog 25 #[.slice ao 0 c, .int .i64 k] w (RetB (.int .i64 ((k + 0 : Nat) : Int)) w) :=
  (markInt64S_nil k c ao 0 0 w).mono fun e w' ⟨he, _, bt⟩ => ⟨he, bt.os, bt.tape, bt.output, bt.size, fun i hi => bt.block i hi (by omega)⟩
set_option maxHeartbeats 400000 in
theorem markInt64S_some (k c n lo hi g : Nat) (cs : Array Value) (t : TypeId) (w : World) (h1 : lo ≤ g) (h2 : g < hi) (hw : Whole w g t cs) (hn : n ≤ cs.size) (hk : k + n ≤ 1073741824) :
    Calls Tryd.prog 25 #[.slice (some ⟨g, 0, none⟩) n c, .int .i64 k] w (Marked k n lo hi (some ⟨g, 0, none⟩) w) := by
  have HW := Lib.hid hw
  clear hw
  go_enter Tryd.func25, Tryd.ntmps25
  go_wp2
  go_loopw [5, 1] (fun i m wr => ∃ j : Nat, j ≤ n ∧ i = .int .i64 j ∧ m = .int .i64 ((k + j : Nat) : Int) ∧ w.grownBy wr (some g) ∧ ∃ ds : Array Value, Whole wr g t ds ∧ n ≤ ds.size ∧ ∀ i, i < j → ds[i]? = some (.int .i64 ((k + i : Nat) : Int))) (fun i _ _ => n - (intOf i).toNat)
  case atStart => exact ⟨0, Nat.zero_le _, rfl, rfl, grown_refl _ _, cs, HW.out, hn, fun i hi => absurd hi (Nat.not_lt_zero _)⟩
  case round =>
    obtain ⟨j, hj, rfl, rfl, hg, ds, hd, hs, hm⟩ := hrel
    by_cases hlt : j < n
    · obtain ⟨u, hcell⟩ : ∃ u, wr.cell? ⟨g, j, none⟩ = some u := ⟨ds[j], by rw [hd.cell]; exact Array.getElem?_eq_getElem (by omega)⟩
      have hfr := hd.frozen j
      have H := Lib.hid (And.intro hg (And.intro hd (And.intro hs hm)))
      clear hg hd hs hm
      go_wp2
      go_roundw
      case rel =>
        obtain ⟨hg, hd, hs, hm⟩ := H.out
        refine ⟨j + 1, by omega, by go_num, by simp; omega, grown_put hg _ _, _, hd.put j _, by simpa using hs, fun i hi => ?_⟩
        by_cases e : i = j
        · subst e; rw [Array.getElem?_setIfInBounds_self_of_lt (by omega), Int.natCast_add]
        · rw [Array.getElem?_setIfInBounds_ne (by omega)]; exact hm i (by omega)
      case measure => simp [intOf]; omega
    · have e : j = n := by omega
      have H := Lib.hid (And.intro hg (And.intro hd hm))
      clear hg hd hm
      go_wp2
      go_ret
      obtain ⟨hg, hd, hm⟩ := H.out
      refine ⟨by rw [← e]; rfl, .inr ⟨g, ds, t, rfl, h1, h2, hd, fun i hi => ?_⟩, But.grown hg h1 h2⟩
      have hi' : i < n := by simpa [il, marks] using hi
      rw [hm i (by omega)]
      simp [il, marks, List.getD, hi']
theorem markInt64S_row (n : Nat) (vs : List Value) (k c lo hi : Nat) (ao : Option Addr) (w : World) (h : Row w lo hi ao vs) (hn : vs.length = n) (hk : k + n ≤ 1073741824) :
    Calls Tryd.prog 25 #[.slice ao n c, .int .i64 k] w (Marked k n lo hi ao w) := by
  subst hn
  rcases h with rfl | ⟨g, cs, t, rfl, h1, h2, hw, hc⟩
  · exact markInt64S_nil _ _ _ _ _ _
  · rcases Nat.eq_zero_or_pos vs.length with h0 | h0
    · rw [h0]; exact markInt64S_nil _ _ _ _ _ _
    · refine markInt64S_some k c vs.length lo hi g cs t w h1 h2 hw ?_ hk
      have := hc (vs.length - 1) (by omega)
      have := (Array.getElem?_eq_some_iff.1 this).1
      omega
set_option maxHeartbeats 400000 in
theorem heldInt64S_marks (k n c : Nat) (ao : Option Addr) (w : World) (hx : Holds w ao (il (marks k n))) (hk : k + n ≤ 1073741824) :
    Calls Tryd.prog 26 #[.slice ao n c, .int .i64 k] w (RetB (.int .i64 ((k + n : Nat) : Int)) w) := by
  have HX := Lib.hid hx
  clear hx
  go_enter Tryd.func26, Tryd.ntmps26
  go_wp2
  go_loop [5, 1] (fun i m => ∃ j : Nat, j ≤ n ∧ i = .int .i64 j ∧ m = .int .i64 ((k + j : Nat) : Int)) (fun i _ => n - (intOf i).toNat)
  case atStart => exact ⟨0, Nat.zero_le _, rfl, rfl⟩
  case round =>
    obtain ⟨j, hj, rfl, rfl⟩ := hrel
    by_cases hlt : j < n
    · obtain ⟨b, o, rfl, hc⟩ := HX.out j (by simpa [il, marks] using hlt)
      rw [il_get _ _ (by simpa [marks] using hlt), show (marks k n)[j]?.getD 0 = ((k + j : Nat) : Int) by simp [marks, hlt]] at hc
      go_wp2
      go_round
      case rel => exact ⟨j + 1, by omega, by go_num, by simp; omega⟩
      case measure => simp [intOf]; omega
    · have E : Hid (j = n) := Lib.hid (by omega)
      go_wp2
      go_ret
      exact ⟨by rw [← E.out]; rfl, Below.refl _ _⟩
end Go.Proofs.YtfgkimhcbboipaaDoor
