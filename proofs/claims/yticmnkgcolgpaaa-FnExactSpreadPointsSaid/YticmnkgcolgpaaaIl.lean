/- Lists of int64: the law's helpers. -/
import Derived.Test.YticmnkgcolgpaaaChecked
import Derived.Test.YticmnkgcolgpaaaMm
import Derived.LoopTactic
import Derived.Deep.QuietTactic
import Derived.BigQuiet
namespace Go.Proofs.Yticmnkgcolgpaaa
open Go Go.RowKit
set_option linter.unusedVariables false

def il (xs : List Int) : List Value := xs.map (Value.int .i64)
theorem il_len (xs : List Int) : (il xs).length = xs.length := by simp [il]
theorem il_get (xs : List Int) (i : Nat) (h : i < xs.length) : (il xs).getD i undef = .int .i64 (xs[i]?.getD 0) := by simp [il, List.getD, h]
theorem quiet_same' {P : Program} {f : FuncId} {args : Array Value} {w : World} {n : Nat} {v : Value}
    (h : Calls P f args (w.drewN n) fun e w' => e = .returned v ∧ w.drewN n = w') : Calls P f args (w.drewN n) fun e w'' => e = .returned v ∧ ∃ m, w'' = w.drewN m :=
  h.mono fun _ _ ⟨he, hm⟩ => ⟨he, n, hm.symm⟩
/-- It returns v, and has drawn at most. -/
def RetD (v : Value) (w : World) (e : Ending) (w' : World) : Prop := ∃ n, e = .returned v ∧ w' = w.drewN n

set_option maxHeartbeats 400000 in
theorem eqInt64S_same (xs : List Int) (n : Nat) (hn : xs.length = n) (ao bo : Option Addr) (ca cb : Nat) (w : World) (hx : Holds w ao (il xs)) (hy : Holds w bo (il xs)) (hlen : n ≤ 2097152) :
    Calls Try.prog 46 #[.slice ao n ca, .slice bo n cb] w (RetB (.bool true) w) := by
  subst hn
  have HX := Lib.hid hx
  have HY := Lib.hid hy
  clear hx hy
  go_enter Try.func46, Try.ntmps46
  go_wp2
  go_loopw [5] (fun i wr => ∃ k : Nat, k ≤ xs.length ∧ i = .int .i64 k ∧ ∃ n, wr = w.drewN n) (fun i _ => xs.length - (intOf i).toNat)
  case atStart => exact ⟨0, Nat.zero_le _, rfl, 0, rfl⟩
  case round =>
    obtain ⟨k, hk, rfl, n, rfl⟩ := hrel
    by_cases hlt : k < xs.length
    · obtain ⟨b, o, rfl, hc⟩ := HX.out k (by simpa [il] using hlt)
      obtain ⟨b', o', rfl, hc'⟩ := HY.out k (by simpa [il] using hlt)
      rw [il_get _ _ hlt] at hc hc'
      generalize xs[k]?.getD 0 = x at hc hc'
      have hlt' : (k : Int) < xs.length := by omega
      go_wp2
      go_quiet (fail)
      go_wp2
      go_roundw
      case rel => exact ⟨k + 1, by omega, by go_num, _, rfl⟩
      case measure => simp [intOf]; omega
    · go_wp2
      go_ret
      exact ⟨rfl, Bel_drewN (Below.refl _ _) _⟩
set_option maxHeartbeats 400000 in
theorem toInt64S_any (xs : List Int) (ao : Option Addr) (c : Nat) (w : World) (hx : Holds w ao (il xs)) (hlen : xs.length ≤ 1048576) :
    Calls Try.prog 44 #[.slice ao xs.length c] w (Copied xs.length (il xs) w) := by
  have HX := Lib.hid hx
  clear hx
  have hmk := run_mk (P := Try.prog) w 58 2 (.int .i64 0) 8 xs.length Try.underlying58 (by kernel_rfl) rfl (by omega) (by omega)
  go_enter Try.func44, Try.ntmps44
  go_wp2
  go_loopw [4] (fun i wr => ∃ k : Nat, k ≤ xs.length ∧ i = .int .i64 k ∧ wr = w.alloc (.cells (fillA (il xs) (.int .i64 0) k) 2)) (fun i _ => xs.length - (intOf i).toNat)
  case atStart => exact ⟨0, Nat.zero_le _, rfl, by rw [fillA_zero]; simp [il]⟩
  case round =>
    obtain ⟨k, hk, rfl, rfl⟩ := hrel
    by_cases hlt : k < xs.length
    · obtain ⟨b, o, rfl, hc⟩ := HX.out k (by simpa [il] using hlt)
      have HF := Lib.hid (fillA_set (il xs) (.int .i64 0) k (by simpa [il] using hlt))
      rw [il_get _ _ hlt] at hc
      have hg := il_get xs k hlt
      have hb := World.block_lt_of_cell? _ _ hc
      have hsz : k < (fillA (il xs) (.int .i64 0) k).size := by rw [fillA_size _ _ _ (by simp [il]; omega)]; simpa [il] using hlt
      generalize hx : xs[k]?.getD 0 = x at hc hg
      have HG := Lib.hid hg
      have HC := Lib.hid (cell_old w (.cells (fillA (il xs) (.int .i64 0) k) 2) hc)
      clear hx hg
      generalize hA : fillA (il xs) (.int .i64 0) k = A at *
      have HA := Lib.hid hA
      clear hA
      have hcA := HC.out
      go_wp2
      go_roundw
      case rel => exact ⟨k + 1, by omega, by go_num, by rw [← HF.out, HG.out]⟩
      case measure => simp [intOf]; omega
    · have HE := Lib.hid (fillA_all (il xs) (.int .i64 0) k (by simp [il]; omega))
      go_wp2
      go_ret
      refine ⟨some ⟨w.heap.size, 0, none⟩, rfl, ?_, (Below.refl _ _).alloc (Nat.le_refl _) _⟩
      rw [HE.out]
      exact .inr ⟨w.heap.size, (il xs).toArray, 2, rfl, Nat.le_refl _, by simp, Whole.made _ _ _, fun i hi => by simp [List.getD, hi]⟩
/-- The marks: k, k + 1, and so on. -/
def marks (k n : Nat) : List Int := (List.range n).map fun i => ((k + i : Nat) : Int)
theorem marks_len (k n : Nat) : (marks k n).length = n := by simp [marks]

end Go.Proofs.Yticmnkgcolgpaaa
