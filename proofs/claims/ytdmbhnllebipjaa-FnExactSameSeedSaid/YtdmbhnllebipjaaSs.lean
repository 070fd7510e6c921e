/- The law on seeds that are the same. -/
import Derived.Test.YtdmbhnllebipjaaSe
namespace Go.Proofs.Ytdmbhnllebipjaa
open Go Go.RowKit
set_option linter.unusedVariables false

def sameB (k l : Int) (a b c d : Nat) : Bool := decide (k = l ∧ a = c ∧ b = d)
theorem specSame_any (k l : Int) (a b c d : Nat) (w : World) :
    Calls Try.prog 46 #[sd k a b, sd l c d] w (fun e w' => e = .returned (.bool (sameB k l a b c d)) ∧ (w.alloc (.cells (sdC k a b) 24)).alloc (.cells (sdC l c d) 24) = w') := by
  go_enter Try.func46, Try.ntmps46
  go_wp2
  all_goals
    go_ret
    refine ⟨?_, by first | rfl | simp_all⟩
    simp_all [sameB]
    try omega
theorem implSame_any (k l : Int) (a b c d : Nat) (w : World) :
    Calls Try.prog 23 #[sd k a b, sd l c d] w (fun e w' => e = .returned (.bool (sameB k l a b c d)) ∧ (w.alloc (.cells (sdC k a b) 24)).alloc (.cells (sdC l c d) 24) = w') := by
  go_enter Try.func23, Try.ntmps23
  go_wp2
  all_goals
    go_ret
    refine ⟨?_, by first | rfl | simp_all⟩
    simp_all [sameB]
    try omega
set_option maxHeartbeats 4000000 in
theorem FnExactSameSeed_walk (k : Int) (a b : Nat) (_ : (Lit.int .i64 k).wf = true) (ha : a < 18446744073709551616) (hb : b < 18446744073709551616) (l : Int) (c d : Nat) (_ : (Lit.int .i64 l).wf = true) (hc : c < 18446744073709551616) (hd : d < 18446744073709551616) (w : World) :
    Calls Try.prog 7 #[sd k a b, sd l c d] w fun e w' => e = .returned (.bool true) ∧ Below w.heap.size w w' := by
  go_enter Try.func7, Try.ntmps7
  go_wp2_with fail
  go_region_held3 (fun v => v.cell? ⟨w.heap.size, 0, none⟩ = some (.int .i64 k) ∧ v.cell? ⟨w.heap.size, 1, none⟩ = some (.int .u64 a) ∧ v.cell? ⟨w.heap.size, 2, none⟩ = some (.int .u64 b) ∧ v.cell? ⟨w.heap.size + 1, 0, none⟩ = some (.int .i64 l) ∧ v.cell? ⟨w.heap.size + 1, 1, none⟩ = some (.int .u64 c) ∧ v.cell? ⟨w.heap.size + 1, 2, none⟩ = some (.int .u64 d)) (first | (go_simp; done) | (refine ⟨?_, ?_, ?_, ?_, ?_, ?_⟩ <;> (repeat (first | assumption | refine cell_drew _ ?_ | refine cell_old _ _ ?_))))
    (first | (go_at_call 45; refine (toSeed_any _ _ _ _).mono ?_; rintro e w' ⟨rfl, rfl⟩) | (go_at_call 46; refine (specSame_any _ _ _ _ _ _ _).mono ?_; rintro e w' ⟨rfl, rfl⟩))
  rename_i hH
  generalize hW : World.drew _ = w1 at hH ⊢
  have z1 : w.heap.size + 1 < w1.heap.size := World.block_lt_of_cell? _ _ hH.2.2.2.1
  have HB1 : Hid (Below w.heap.size w w1) := Lib.hid (by rw [← hW]; repeat (first | exact Below.refl _ _ | refine Below.drew ?_ | refine Below.alloc ?_ (by first | omega | (simp; done) | (simp; omega)) _))
  clear hW
  obtain ⟨e1, e2, e3, e4, e5, e6⟩ := hH
  go_wp2_with fail
  go_region_held3 (fun v => v.cell? ⟨w.heap.size, 0, none⟩ = some (.int .i64 k) ∧ v.cell? ⟨w.heap.size, 1, none⟩ = some (.int .u64 a) ∧ v.cell? ⟨w.heap.size, 2, none⟩ = some (.int .u64 b) ∧ v.cell? ⟨w.heap.size + 1, 0, none⟩ = some (.int .i64 l) ∧ v.cell? ⟨w.heap.size + 1, 1, none⟩ = some (.int .u64 c) ∧ v.cell? ⟨w.heap.size + 1, 2, none⟩ = some (.int .u64 d)) (first | (go_simp; done) | (refine ⟨?_, ?_, ?_, ?_, ?_, ?_⟩ <;> (repeat (first | assumption | refine cell_drew _ ?_ | refine cell_old _ _ ?_))))
    (first | (go_at_call 45; refine (toSeed_any _ _ _ _).mono ?_; rintro e w' ⟨rfl, rfl⟩) | (go_at_call 23; refine (implSame_any _ _ _ _ _ _ _).mono ?_; rintro e w' ⟨rfl, rfl⟩))
  rename_i hH
  clear hH
  go_wp2_with fail
  go_ret
  exact ⟨rfl, by repeat (first | exact Below.refl _ _ | exact HB.out | exact HB1.out | exact HB2.out | exact hb2 | refine Below.drew ?_ | refine Below.alloc ?_ (by first | omega | (simp; done) | (simp; omega)) _ | refine Below.setCell ?_ (by simp) _)⟩
end Go.Proofs.Ytdmbhnllebipjaa
