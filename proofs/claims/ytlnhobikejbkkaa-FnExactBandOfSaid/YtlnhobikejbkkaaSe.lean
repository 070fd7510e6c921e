/- What the functions on seeds return that have no lists. -/
import Derived.Test.YtlnhobikejbkkaaSd
import Derived.LoopTactic
import Derived.Deep.RegionHeld3
namespace Go.Proofs.Ytlnhobikejbkkaa
open Go Go.RowKit
set_option linter.unusedVariables false

theorem toSeed_any (k : Int) (a b : Nat) (w : World) :
    Calls Try.prog 40 #[sd k a b] w (fun e w' => e = .returned (sd k a b) ∧ ((w.alloc (.cells (sdC k a b) 49)).alloc (.cells (sdC k a b) 50)).alloc (.cells (sdC k a b) 50) = w') := by
  go_enter Try.func40, Try.ntmps40
  go_wp2
  exact bodyPost_ret (v := sd k a b) (by simp [results, Try.results40, go_sem]) rfl ⟨rfl, rfl⟩
theorem toSeed_ret (k : Int) (a b : Nat) (w : World) : Calls Try.prog 40 #[sd k a b] w (RetB (sd k a b) w) :=
  (toSeed_any k a b w).mono fun e w' ⟨he, hw⟩ => ⟨he, by subst hw; exact (((Below.refl _ _).alloc (Nat.le_refl _) _).alloc (by simp) _).alloc (by simp; omega) _⟩
theorem eqSeed_same (k : Int) (a b : Nat) (w : World) :
    Calls Try.prog 42 #[sd k a b, sd k a b] w (RetB (.bool true) w) := by
  go_enter Try.func42, Try.ntmps42
  go_wp2
  go_ret
  exact ⟨rfl, ((Below.refl _ _).alloc (Nat.le_refl _) _).alloc (by simp) _⟩
/-- A valid seed's kind. -/
theorem vSeed_kind {k : Int} {a b : Nat} (h : vSeed k a b = true) : 0 ≤ k ∧ k ≤ 3 := by
  unfold vSeed at h
  split at h
  · omega
  · split at h
    · omega
    · split at h
      · omega
      · split at h
        · omega
        · cases h

end Go.Proofs.Ytlnhobikejbkkaa
