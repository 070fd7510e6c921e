/- What the functions on seeds return that have no lists. -/
import Derived.Test.YtfgkimhcbboipaaDoorSd
import Derived.LoopTactic
import Derived.Deep.RegionHeld3
namespace Go.Proofs.YtfgkimhcbboipaaDoor
open Go Go.RowKit
set_option linter.unusedVariables false

theorem toSeed_any (k : Int) (a b : Nat) (w : World) :
    Calls Tryd.prog 41 #[sd k a b] w (fun e w' => e = .returned (sd k a b) ∧ ((w.alloc (.cells (sdC k a b) 51)).alloc (.cells (sdC k a b) 53)).alloc (.cells (sdC k a b) 53) = w') := by
  go_enter Tryd.func41, Tryd.ntmps41
  go_wp2
  exact bodyPost_ret (v := sd k a b) (by simp [results, Tryd.results41, go_sem]) rfl ⟨rfl, rfl⟩
theorem toSeed_ret (k : Int) (a b : Nat) (w : World) : Calls Tryd.prog 41 #[sd k a b] w (RetB (sd k a b) w) :=
  (toSeed_any k a b w).mono fun e w' ⟨he, hw⟩ => ⟨he, by subst hw; exact (((Below.refl _ _).alloc (Nat.le_refl _) _).alloc (by simp) _).alloc (by simp; omega) _⟩
theorem eqSeed_same (k : Int) (a b : Nat) (w : World) :
    Calls Tryd.prog 45 #[sd k a b, sd k a b] w (RetB (.bool true) w) := by
  go_enter Tryd.func45, Tryd.ntmps45
  go_wp2
  go_ret
  exact ⟨rfl, ((Below.refl _ _).alloc (Nat.le_refl _) _).alloc (by simp) _⟩
/-- A valid seed's kind. -/
theorem vSeed_kind {k : Int} {a b : Nat} (h : vSeed k a b = true) : 0 ≤ k ∧ k ≤ 3 := by
  unfold vSeed at h
  split at h
  · omega
  · split at h
    · omega
    · split at h
      · omega
      · split at h
        · omega
        · cases h

end Go.Proofs.YtfgkimhcbboipaaDoor
