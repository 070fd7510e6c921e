/- Seeds of streams: the functions that ask whether they may. -/
import Derived.Test.YtdmbhnllebipjaaSq
namespace Go.Proofs.Ytdmbhnllebipjaa
open Go Go.RowKit
set_option linter.unusedVariables false

set_option maxHeartbeats 1000000 in
theorem implSplit_yes (k : Int) (a b s : Nat) (w : World) (hv : vSeed k a b = true) (hs : s ≤ 1000000) (ha : a < 18446744073709551616) (hb : b < 18446744073709551616) :
    Calls Try.prog 28 #[sd k a b, .int .i64 s] w (RetB (.tuple #[sd k (splA a b s) (splB k a b s), .bool true]) w) := by
  have hs' : (s : Int) ≤ 1000000 := by omega
  go_enter Try.func28, Try.ntmps28
  go_wp2_with fail
  refine (ValidSeed_any _ _ _ _).mono ?_
  rintro e w1 ⟨rfl, rfl⟩
  go_wp2_with fail
  refine (streamSeed_any _ _ _ _ _ hs ha hb).mono ?_
  rintro e w1 ⟨rfl, hbl⟩
  have p1 := ((Whole.made2 w (.cells (sdC k a b) 24) 24 (sdC 0 0 0)).alloc (.cells (sdC k a b) 24)).below hbl
  have HBL : Below w.heap.size w w1 := Bel_next (by repeat (first | with_reducible exact Below.refl _ _ | with_reducible exact HBL | with_reducible refine Below.drew ?_ | with_reducible refine Bel_drewN ?_ _ | with_reducible refine Below.alloc ?_ (by first | omega | (simp; done) | (simp; omega)) _ | with_reducible refine Below.setCell ?_ (by first | omega | (simp; done) | (simp; omega)) _)) hbl
  have hz1 : w.heap.size + 1 < w1.heap.size := p1.lt
  have hz0 : w.heap.size < w1.heap.size := by omega
  obtain ⟨hc1, hf1⟩ := p1.facts
  have H := Lib.hid HBL
  clear HBL hbl p1
  go_wp2_with fail
  have HBL := H.out
  exact bodyPost_ret (v := .tuple #[sd k (splA a b s) (splB k a b s), .bool true]) (by simp [results, Try.results28, go_sem, hc1]) rfl ⟨rfl, by repeat (first | with_reducible exact Below.refl _ _ | with_reducible exact HBL | with_reducible refine Below.drew ?_ | with_reducible refine Bel_drewN ?_ _ | with_reducible refine Below.alloc ?_ (by first | omega | (simp; done) | (simp; omega)) _ | with_reducible refine Below.setCell ?_ (by first | omega | (simp; done) | (simp; omega)) _)⟩
theorem implSplit_no (k : Int) (a b : Nat) (s : Int) (w : World) (hv : ¬(vSeed k a b = true ∧ 0 ≤ s ∧ s ≤ 1000000)) :
    Calls Try.prog 28 #[sd k a b, .int .i64 s] w (RetB (.tuple #[sd 0 0 0, .bool false]) w) := by
  have HV := Lib.hid hv
  clear hv
  cases hw : vSeed k a b with
  | false =>
    go_enter Try.func28, Try.ntmps28
    go_wp2_with fail
    refine (ValidSeed_any _ _ _ _).mono ?_
    rintro e w1 ⟨rfl, rfl⟩
    go_wp2_with fail
    exact bodyPost_ret (v := .tuple #[sd 0 0 0, .bool false]) (by simp [results, Try.results28, go_sem]) rfl ⟨rfl, by repeat (first | with_reducible exact Below.refl _ _ | with_reducible exact HBL | with_reducible refine Below.drew ?_ | with_reducible refine Bel_drewN ?_ _ | with_reducible refine Below.alloc ?_ (by first | omega | (simp; done) | (simp; omega)) _ | with_reducible refine Below.setCell ?_ (by first | omega | (simp; done) | (simp; omega)) _)⟩
  | true =>
    by_cases h0 : s < 0
    · go_enter Try.func28, Try.ntmps28
      go_wp2_with fail
      refine (ValidSeed_any _ _ _ _).mono ?_
      rintro e w1 ⟨rfl, rfl⟩
      go_wp2_with fail
      exact bodyPost_ret (v := .tuple #[sd 0 0 0, .bool false]) (by simp [results, Try.results28, go_sem]) rfl ⟨rfl, by repeat (first | with_reducible exact Below.refl _ _ | with_reducible exact HBL | with_reducible refine Below.drew ?_ | with_reducible refine Bel_drewN ?_ _ | with_reducible refine Below.alloc ?_ (by first | omega | (simp; done) | (simp; omega)) _ | with_reducible refine Below.setCell ?_ (by first | omega | (simp; done) | (simp; omega)) _)⟩
    · have h1 : 0 ≤ s := by omega
      have h2 : 1000000 < s := by have h := HV.out; simp [hw] at h; omega
      clear h0
      go_enter Try.func28, Try.ntmps28
      go_wp2_with fail
      refine (ValidSeed_any _ _ _ _).mono ?_
      rintro e w1 ⟨rfl, rfl⟩
      go_wp2_with fail
      exact bodyPost_ret (v := .tuple #[sd 0 0 0, .bool false]) (by simp [results, Try.results28, go_sem]) rfl ⟨rfl, by repeat (first | with_reducible exact Below.refl _ _ | with_reducible exact HBL | with_reducible refine Below.drew ?_ | with_reducible refine Bel_drewN ?_ _ | with_reducible refine Below.alloc ?_ (by first | omega | (simp; done) | (simp; omega)) _ | with_reducible refine Below.setCell ?_ (by first | omega | (simp; done) | (simp; omega)) _)⟩
set_option maxHeartbeats 1000000 in
theorem specSplit_yes (k : Int) (a b s : Nat) (w : World) (hv : vSeed k a b = true) (hs : s ≤ 1000000) (ha : a < 18446744073709551616) (hb : b < 18446744073709551616) :
    Calls Try.prog 55 #[sd k a b, .int .i64 s] w (RetB (.tuple #[sd k (splA a b s) (splB k a b s), .bool true]) w) := by
  have p0 := Lib.hid ((Whole.made w 24 (sdC k a b)).alloc (.cells (sdC 0 0 0) 24))
  go_enter Try.func55, Try.ntmps55
  go_wp2_with fail
  refine (l02Is_any _ _ _ _ _ p0.out).mono ?_
  rintro e w1 ⟨rfl, rfl⟩
  go_wp2_with fail
  refine (l00In_yes _ _ _ (by omega) (by omega) _).mono ?_
  rintro e w1 ⟨rfl, rfl⟩
  go_wp2_with fail
  refine (l02Split_any _ _ _ _ _ _ hs ha hb p0.out).mono ?_
  rintro e w1 ⟨rfl, hbl⟩
  have p1 := (Whole.made2 w (.cells (sdC k a b) 24) 24 (sdC 0 0 0)).below hbl
  have HBL : Below w.heap.size w w1 := Bel_next (by repeat (first | with_reducible exact Below.refl _ _ | with_reducible exact HBL | with_reducible refine Below.drew ?_ | with_reducible refine Bel_drewN ?_ _ | with_reducible refine Below.alloc ?_ (by first | omega | (simp; done) | (simp; omega)) _ | with_reducible refine Below.setCell ?_ (by first | omega | (simp; done) | (simp; omega)) _)) hbl
  have hz1 : w.heap.size + 1 < w1.heap.size := p1.lt
  have hz0 : w.heap.size < w1.heap.size := by omega
  obtain ⟨hc1, hf1⟩ := p1.facts
  have H := Lib.hid HBL
  clear HBL hbl p1 p0
  go_wp2_with fail
  have HBL := H.out
  exact bodyPost_ret (v := .tuple #[sd k (splA a b s) (splB k a b s), .bool true]) (by simp [results, Try.results55, go_sem, hc1]) rfl ⟨rfl, by repeat (first | with_reducible exact Below.refl _ _ | with_reducible exact HBL | with_reducible refine Below.drew ?_ | with_reducible refine Bel_drewN ?_ _ | with_reducible refine Below.alloc ?_ (by first | omega | (simp; done) | (simp; omega)) _ | with_reducible refine Below.setCell ?_ (by first | omega | (simp; done) | (simp; omega)) _)⟩
theorem specSplit_no (k : Int) (a b : Nat) (s : Int) (w : World) (hv : ¬(vSeed k a b = true ∧ 0 ≤ s ∧ s ≤ 1000000)) :
    Calls Try.prog 55 #[sd k a b, .int .i64 s] w (RetB (.tuple #[sd 0 0 0, .bool false]) w) := by
  have p0 := Lib.hid ((Whole.made w 24 (sdC k a b)).alloc (.cells (sdC 0 0 0) 24))
  have HV := Lib.hid hv
  clear hv
  cases hw : vSeed k a b with
  | false =>
    go_enter Try.func55, Try.ntmps55
    go_wp2_with fail
    refine (l02Is_any _ _ _ _ _ p0.out).mono ?_
    rintro e w1 ⟨rfl, rfl⟩
    go_wp2_with fail
    exact bodyPost_ret (v := .tuple #[sd 0 0 0, .bool false]) (by simp [results, Try.results55, go_sem]) rfl ⟨rfl, by repeat (first | with_reducible exact Below.refl _ _ | with_reducible exact HBL | with_reducible refine Below.drew ?_ | with_reducible refine Bel_drewN ?_ _ | with_reducible refine Below.alloc ?_ (by first | omega | (simp; done) | (simp; omega)) _ | with_reducible refine Below.setCell ?_ (by first | omega | (simp; done) | (simp; omega)) _)⟩
  | true =>
    go_enter Try.func55, Try.ntmps55
    go_wp2_with fail
    refine (l02Is_any _ _ _ _ _ p0.out).mono ?_
    rintro e w1 ⟨rfl, rfl⟩
    go_wp2_with fail
    refine (l00In_no _ _ _ (by have h := HV.out; simp [hw] at h; omega) _).mono ?_
    rintro e w1 ⟨rfl, rfl⟩
    go_wp2_with fail
    exact bodyPost_ret (v := .tuple #[sd 0 0 0, .bool false]) (by simp [results, Try.results55, go_sem]) rfl ⟨rfl, by repeat (first | with_reducible exact Below.refl _ _ | with_reducible exact HBL | with_reducible refine Below.drew ?_ | with_reducible refine Bel_drewN ?_ _ | with_reducible refine Below.alloc ?_ (by first | omega | (simp; done) | (simp; omega)) _ | with_reducible refine Below.setCell ?_ (by first | omega | (simp; done) | (simp; omega)) _)⟩
end Go.Proofs.Ytdmbhnllebipjaa
