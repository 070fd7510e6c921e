/- What the functions on seeds return that have no lists. -/
import Derived.Test.YtdmbhnllebipjaaSd
import Derived.LoopTactic
import Derived.Deep.RegionHeld3
namespace Go.Proofs.Ytdmbhnllebipjaa
open Go Go.RowKit
set_option linter.unusedVariables false

theorem toSeed_any (k : Int) (a b : Nat) (w : World) :
    Calls Try.prog 45 #[sd k a b] w (fun e w' => e = .returned (sd k a b) ∧ ((w.alloc (.cells (sdC k a b) 69)).alloc (.cells (sdC k a b) 24)).alloc (.cells (sdC k a b) 24) = w') := by
  go_enter Try.func45, Try.ntmps45
  go_wp2
  exact bodyPost_ret (v := sd k a b) (by simp [results, Try.results45, go_sem]) rfl ⟨rfl, rfl⟩
theorem toSeed_ret (k : Int) (a b : Nat) (w : World) : Calls Try.prog 45 #[sd k a b] w (RetB (sd k a b) w) :=
  (toSeed_any k a b w).mono fun e w' ⟨he, hw⟩ => ⟨he, by subst hw; exact (((Below.refl _ _).alloc (Nat.le_refl _) _).alloc (by simp) _).alloc (by simp; omega) _⟩
theorem eqSeed_same (k : Int) (a b : Nat) (w : World) :
    Calls Try.prog 49 #[sd k a b, sd k a b] w (RetB (.bool true) w) := by
  go_enter Try.func49, Try.ntmps49
  go_wp2
  go_ret
  exact ⟨rfl, ((Below.refl _ _).alloc (Nat.le_refl _) _).alloc (by simp) _⟩
/-- A valid seed's kind. -/
theorem vSeed_kind {k : Int} {a b : Nat} (h : vSeed k a b = true) : 0 ≤ k ∧ k ≤ 3 := by
  unfold vSeed at h
  split at h
  · omega
  · split at h
    · omega
    · split at h
      · omega
      · split at h
        · omega
        · cases h

theorem NextSeed_yes (k : Int) (a b : Nat) (w : World) (hv : vSeed k a b = true) (ha : a < 18446744073709551616) (hb : b < 18446744073709551616) :
    Calls Try.prog 26 #[sd k a b] w (RetB (.tuple #[sd k (nxA k a b) (nxB k a b), .int .i64 (nxW k a b), .bool true]) w) := by
  have hk := Lib.hid (vSeed_kind hv)
  go_enter Try.func26, Try.ntmps26
  go_wp2_with fail
  refine (ValidSeed_any _ _ _ _).mono ?_
  rintro e w1 ⟨rfl, rfl⟩
  go_wp2_with fail
  refine (stepSeed_any _ _ _ _ hk.out ha hb).mono ?_
  rintro e w2 ⟨rfl, rfl⟩
  go_wp2_with fail
  exact bodyPost_ret (v := .tuple #[sd k (nxA k a b) (nxB k a b), .int .i64 (nxW k a b), .bool true]) (by simp [results, Try.results26, go_sem]) rfl ⟨rfl, by repeat (first | exact Below.refl _ _ | refine Below.alloc ?_ (by first | omega | (simp; done) | (simp; omega)) _)⟩
theorem NextSeed_no (k : Int) (a b : Nat) (w : World) (hv : vSeed k a b = false) :
    Calls Try.prog 26 #[sd k a b] w (RetB (.tuple #[sd 0 0 0, .int .i64 0, .bool false]) w) := by
  go_enter Try.func26, Try.ntmps26
  go_wp2_with fail
  refine (ValidSeed_any _ _ _ _).mono ?_
  rintro e w1 ⟨rfl, rfl⟩
  go_wp2_with fail
  exact bodyPost_ret (v := .tuple #[sd 0 0 0, .int .i64 0, .bool false]) (by simp [results, Try.results26, go_sem]) rfl ⟨rfl, by repeat (first | exact Below.refl _ _ | refine Below.alloc ?_ (by first | omega | (simp; done) | (simp; omega)) _)⟩
theorem specNext_yes (k : Int) (a b : Nat) (w : World) (hv : vSeed k a b = true) (ha : a < 18446744073709551616) (hb : b < 18446744073709551616) :
    Calls Try.prog 48 #[sd k a b] w (RetB (.tuple #[sd k (nxA k a b) (nxB k a b), .int .i64 (nxW k a b), .bool true]) w) := by
  have hk := Lib.hid (vSeed_kind hv)
  have hl : 0 ≤ (nxW k a b : Int) ∧ (nxW k a b : Int) < 4294967296 := ⟨by omega, by have := nxW_lt k a b hk.out; omega⟩
  have p0 := Lib.hid ((Whole.made w 24 (sdC k a b)).alloc (.cells (sdC 0 0 0) 24))
  have p1 := Lib.hid (Whole.made2 w (.cells (sdC k a b) 24) 24 (sdC 0 0 0))
  go_enter Try.func48, Try.ntmps48
  go_wp2_with fail
  refine (l02Is_any _ _ _ _ _ p0.out).mono ?_
  rintro e w1 ⟨rfl, rfl⟩
  go_wp2_with fail
  refine (l02Next_any _ _ _ _ _ hk.out ha hb p0.out).mono ?_
  rintro e w2 ⟨rfl, q0, hg⟩
  have q1 := p1.out.grown hg (by simp)
  have B2 : Below w.heap.size w w2 := Below.grown (by repeat (first | exact Below.refl _ _ | refine Below.alloc ?_ (by first | omega | (simp; done) | (simp; omega)) _)) hg (by simp <;> omega) (by simp)
  obtain ⟨hc0, hf0⟩ := q0.facts
  obtain ⟨hc1, hf1⟩ := q1.facts
  have HB := Lib.hid B2
  clear q0 q1 hg B2 p0 p1
  go_wp2_with fail
  exact bodyPost_ret (v := .tuple #[sd k (nxA k a b) (nxB k a b), .int .i64 (nxW k a b), .bool true]) (by simp [results, Try.results48, go_sem, hc1]) rfl ⟨rfl, by repeat (first | exact Below.refl _ _ | exact HB.out | refine Below.alloc ?_ (by first | omega | (simp; done) | (simp; omega)) _ | refine Below.setCell ?_ (by simp) _)⟩
theorem specNext_no (k : Int) (a b : Nat) (w : World) (hv : vSeed k a b = false) :
    Calls Try.prog 48 #[sd k a b] w (RetB (.tuple #[sd 0 0 0, .int .i64 0, .bool false]) w) := by
  have p0 := Lib.hid ((Whole.made w 24 (sdC k a b)).alloc (.cells (sdC 0 0 0) 24))
  go_enter Try.func48, Try.ntmps48
  go_wp2_with fail
  refine (l02Is_any _ _ _ _ _ p0.out).mono ?_
  rintro e w1 ⟨rfl, rfl⟩
  go_wp2_with fail
  exact bodyPost_ret (v := .tuple #[sd 0 0 0, .int .i64 0, .bool false]) (by simp [results, Try.results48, go_sem]) rfl ⟨rfl, by repeat (first | exact Below.refl _ _ | exact HB.out | refine Below.alloc ?_ (by first | omega | (simp; done) | (simp; omega)) _ | refine Below.setCell ?_ (by simp) _)⟩
theorem FnExactNextSeed_walk (k : Int) (a b : Nat) (_ : (Lit.int .i64 k).wf = true) (ha : a < 18446744073709551616) (hb : b < 18446744073709551616) (w : World) :
    Calls Try.prog 9 #[sd k a b] w fun e w' => e = .returned (.bool true) ∧ Below w.heap.size w w' := by
  cases hv : vSeed k a b with
  | true =>
    have HV := Lib.hid hv
    clear hv
    go_enter Try.func9, Try.ntmps9
    go_wp2_with fail
    refine (toSeed_any _ _ _ _).mono ?_
    rintro e w1 ⟨rfl, rfl⟩
    go_wp2_with fail
    refine (specNext_yes _ _ _ _ HV.out ha hb).mono ?_
    rintro e w1 ⟨rfl, hb1⟩
    have q1 := ((((Whole.made w 69 (sdC k a b)).alloc _).alloc _).alloc _).below hb1
    have hc1 := q1.facts.1
    have z1 := q1.lt
    have HB1 : Hid (Below w.heap.size w w1) := Lib.hid (Bel_next (by repeat (first | exact Below.refl _ _ | exact HB.out | exact HB1.out | exact HB2.out | exact hb2 | refine Below.drew ?_ | refine Below.alloc ?_ (by first | omega | (simp; done) | (simp; omega)) _ | refine Below.setCell ?_ (by simp) _)) hb1)
    clear hb1 q1
    go_wp2_with fail
    refine (toSeed_any _ _ _ _).mono ?_
    rintro e w2 ⟨rfl, rfl⟩
    go_wp2_with fail
    refine (NextSeed_yes _ _ _ _ HV.out ha hb).mono ?_
    rintro e w2 ⟨rfl, hb2⟩
    have q2 := ((((Whole.made w1 24 (sdC k (nxA k a b) (nxB k a b))).alloc _).alloc _).alloc _).below hb2
    have hc2 := q2.facts.1
    have z2 := q2.lt
    have HB2 : Hid (Below w.heap.size w w2) := Lib.hid (Bel_next (by repeat (first | exact Below.refl _ _ | exact HB.out | exact HB1.out | exact HB2.out | exact hb2 | refine Below.drew ?_ | refine Below.alloc ?_ (by first | omega | (simp; done) | (simp; omega)) _ | refine Below.setCell ?_ (by simp) _)) hb2)
    clear hb2 q2
    go_wp2_with fail
    refine (eqSeed_same _ _ _ _).mono ?_
    rintro e w3 ⟨rfl, hb3⟩
    have HB3 : Hid (Below w.heap.size w w3) := Lib.hid (Bel_next (by repeat (first | exact Below.refl _ _ | exact HB.out | exact HB1.out | exact HB2.out | exact hb2 | refine Below.drew ?_ | refine Below.alloc ?_ (by first | omega | (simp; done) | (simp; omega)) _ | refine Below.setCell ?_ (by simp) _)) hb3)
    clear hb3
    go_wp2_with fail
    go_ret
    exact ⟨rfl, HB3.out⟩
  | false =>
    have HV := Lib.hid hv
    clear hv
    go_enter Try.func9, Try.ntmps9
    go_wp2_with fail
    refine (toSeed_any _ _ _ _).mono ?_
    rintro e w1 ⟨rfl, rfl⟩
    go_wp2_with fail
    refine (specNext_no _ _ _ _ HV.out).mono ?_
    rintro e w1 ⟨rfl, hb1⟩
    have q1 := ((((Whole.made w 69 (sdC k a b)).alloc _).alloc _).alloc _).below hb1
    have hc1 := q1.facts.1
    have z1 := q1.lt
    have HB1 : Hid (Below w.heap.size w w1) := Lib.hid (Bel_next (by repeat (first | exact Below.refl _ _ | exact HB.out | exact HB1.out | exact HB2.out | exact hb2 | refine Below.drew ?_ | refine Below.alloc ?_ (by first | omega | (simp; done) | (simp; omega)) _ | refine Below.setCell ?_ (by simp) _)) hb1)
    clear hb1 q1
    go_wp2_with fail
    refine (toSeed_any _ _ _ _).mono ?_
    rintro e w2 ⟨rfl, rfl⟩
    go_wp2_with fail
    refine (NextSeed_no _ _ _ _ HV.out).mono ?_
    rintro e w2 ⟨rfl, hb2⟩
    have q2 := ((((Whole.made w1 24 (sdC 0 0 0)).alloc _).alloc _).alloc _).below hb2
    have hc2 := q2.facts.1
    have z2 := q2.lt
    have HB2 : Hid (Below w.heap.size w w2) := Lib.hid (Bel_next (by repeat (first | exact Below.refl _ _ | exact HB.out | exact HB1.out | exact HB2.out | exact hb2 | refine Below.drew ?_ | refine Below.alloc ?_ (by first | omega | (simp; done) | (simp; omega)) _ | refine Below.setCell ?_ (by simp) _)) hb2)
    clear hb2 q2
    go_wp2_with fail
    refine (eqSeed_same _ _ _ _).mono ?_
    rintro e w3 ⟨rfl, hb3⟩
    have HB3 : Hid (Below w.heap.size w w3) := Lib.hid (Bel_next (by repeat (first | exact Below.refl _ _ | exact HB.out | exact HB1.out | exact HB2.out | exact hb2 | refine Below.drew ?_ | refine Below.alloc ?_ (by first | omega | (simp; done) | (simp; omega)) _ | refine Below.setCell ?_ (by simp) _)) hb3)
    clear hb3
    go_wp2_with fail
    go_ret
    exact ⟨rfl, HB3.out⟩
theorem specValid_any (k : Int) (a b : Nat) (w : World) :
    Calls Try.prog 44 #[sd k a b] w (fun e w' => e = .returned (.bool (vSeed k a b)) ∧ w.alloc (.cells (sdC k a b) 24) = w') := by
  have p0 := Lib.hid (Whole.made w 24 (sdC k a b))
  go_enter Try.func44, Try.ntmps44
  go_wp2_with fail
  refine (l02Is_any _ _ _ _ _ p0.out).mono ?_
  rintro e w1 ⟨rfl, rfl⟩
  go_wp2_with fail
  go_ret
  exact ⟨rfl, rfl⟩
theorem FnExactValidSeed_walk (k : Int) (a b : Nat) (_ : (Lit.int .i64 k).wf = true) (ha : a < 18446744073709551616) (hb : b < 18446744073709551616) (w : World) :
    Calls Try.prog 6 #[sd k a b] w fun e w' => e = .returned (.bool true) ∧ Below w.heap.size w w' := by
  go_enter Try.func6, Try.ntmps6
  go_wp2_with fail
  refine (toSeed_any _ _ _ _).mono ?_
  rintro e w1 ⟨rfl, rfl⟩
  go_wp2_with fail
  refine (specValid_any _ _ _ _).mono ?_
  rintro e w1 ⟨rfl, rfl⟩
  go_wp2_with fail
  refine (toSeed_any _ _ _ _).mono ?_
  rintro e w1 ⟨rfl, rfl⟩
  go_wp2_with fail
  refine (ValidSeed_any _ _ _ _).mono ?_
  rintro e w1 ⟨rfl, rfl⟩
  go_wp2_with fail
  go_ret
  exact ⟨rfl, by repeat (first | exact Below.refl _ _ | exact HB.out | refine Below.alloc ?_ (by first | omega | (simp; done) | (simp; omega)) _ | refine Below.setCell ?_ (by simp) _)⟩
theorem specMixWord_any (x : Nat) (hx : x < 18446744073709551616) (w : World) :
    Calls Try.prog 47 #[.int .u64 (x : Int)] w (fun e w' => e = .returned (.int .u64 (mixN x : Nat)) ∧ w = w') := by
  go_enter Try.func47, Try.ntmps47
  go_wp2_with fail
  refine (l02Mix_any x hx _).mono ?_
  rintro e w1 ⟨rfl, rfl⟩
  go_wp2_with fail
  go_ret
  exact ⟨rfl, rfl⟩
theorem FnExactMixWord_walk (x : Nat) (hx : x < 18446744073709551616) (w : World) :
    Calls Try.prog 8 #[.int .u64 (x : Int)] w fun e w' => e = .returned (.bool true) ∧ Below w.heap.size w w' := by
  go_enter Try.func8, Try.ntmps8
  go_wp2_with fail
  refine (specMixWord_any x hx _).mono ?_
  rintro e w1 ⟨rfl, rfl⟩
  go_wp2_with fail
  refine (MixWord_any x hx _).mono ?_
  rintro e w1 ⟨rfl, rfl⟩
  go_wp2_with fail
  go_ret
  exact ⟨rfl, Below.refl _ _⟩
end Go.Proofs.Ytdmbhnllebipjaa
