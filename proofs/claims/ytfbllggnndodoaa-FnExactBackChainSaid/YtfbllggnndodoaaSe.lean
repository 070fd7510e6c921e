/- What the functions on seeds return that have no lists. -/
import Derived.Test.YtfbllggnndodoaaSd
import Derived.LoopTactic
import Derived.Deep.RegionHeld3
namespace Go.Proofs.Ytfbllggnndodoaa
open Go Go.RowKit
set_option linter.unusedVariables false

/-- A valid seed's kind. -/
theorem vSeed_kind {k : Int} {a b : Nat} (h : vSeed k a b = true) : 0 ≤ k ∧ k ≤ 3 := by
  unfold vSeed at h
  split at h
  · omega
  · split at h
    · omega
    · split at h
      · omega
      · split at h
        · omega
        · cases h

end Go.Proofs.Ytfbllggnndodoaa
