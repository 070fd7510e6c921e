/- Words of a seed: the functions that ask whether they may. -/
import Derived.Test.YtdmbhnllebipjaaWf
import Derived.Test.YtdmbhnllebipjaaSe
import Derived.Test.YtdmbhnllebipjaaIn0
namespace Go.Proofs.Ytdmbhnllebipjaa
open Go Go.RowKit
set_option linter.unusedVariables false

theorem isWordCount_any (n : Int) (w : World) : Calls Try.prog 69 #[.int .i64 n] w (fun e w' => e = .returned (.bool (decide (0 ≤ n ∧ n ≤ 256))) ∧ w = w') := by
  by_cases h0 : 0 ≤ n
  · have e : decide (0 ≤ n ∧ n ≤ 256) = decide (n ≤ 256) := by rw [Bool.eq_iff_iff]; simp; omega
    have E := Lib.hid e
    clear e
    go_enter Try.func69, Try.ntmps69
    go_wp2
    go_ret
    exact ⟨by first | rfl | (rw [E.out]; rfl), rfl⟩
  · have h1 : decide (0 ≤ n) = false := by simpa using h0
    have e : decide (0 ≤ n ∧ n ≤ 256) = false := by simp; omega
    have E := Lib.hid e
    clear e
    go_enter Try.func69, Try.ntmps69
    go_wp2
    go_ret
    exact ⟨by first | rfl | (rw [E.out]; rfl), rfl⟩
theorem l02Can_any (g : Nat) (k : Int) (a b : Nat) (n : Int) (w : World) (hw : Whole w g 24 (sdC k a b)) :
    Calls Try.prog 82 #[.pointer (some ⟨g, 0, none⟩), .int .i64 n] w (fun e w' => e = .returned (.bool (vSeed k a b && decide (0 ≤ n ∧ n ≤ 256))) ∧ w = w') := by
  have HW := Lib.hid hw
  clear hw
  cases hv : vSeed k a b with
  | true =>
    go_enter Try.func82, Try.ntmps82
    go_wp2_with fail
    refine (l02Is_any _ _ _ _ _ HW.out).mono ?_
    rintro e w1 ⟨rfl, rfl⟩
    go_wp2_with fail
    refine (l00In_any _ _ _ _).mono ?_
    rintro e w1 ⟨rfl, rfl⟩
    go_wp2_with fail
    go_ret
    exact ⟨by simp, rfl⟩
  | false =>
    go_enter Try.func82, Try.ntmps82
    go_wp2_with fail
    refine (l02Is_any _ _ _ _ _ HW.out).mono ?_
    rintro e w1 ⟨rfl, rfl⟩
    go_wp2_with fail
    go_ret
    exact ⟨by simp, rfl⟩
def WordsC (k : Int) (a b : Nat) (n : Int) : Prop := vSeed k a b = true ∧ 0 ≤ n ∧ n ≤ 256

set_option maxHeartbeats 1000000 in
theorem implWordsOf_yes (k : Int) (a b n : Nat) (w : World) (hv : vSeed k a b = true) (hn : n ≤ 256) (ha : a < 18446744073709551616) (hb : b < 18446744073709551616) :
    Calls Try.prog 21 #[sd k a b, .int .i64 n] w (RetL n (il (wordsL k a b n)) (fun s => .tuple #[sd k (sdK k a b n).1 (sdK k a b n).2, s, .bool true]) w) := by
  have hk := Lib.hid (vSeed_kind hv)
  have hd : decide ((0 : Int) ≤ n ∧ (n : Int) ≤ 256) = true := by simp; omega
  have HD := Lib.hid hd
  clear hd
  go_enter Try.func21, Try.ntmps21
  go_wp2_with fail
  refine (ValidSeed_any _ _ _ _).mono ?_
  rintro e w1 ⟨rfl, rfl⟩
  go_wp2_with fail
  refine (isWordCount_any _ _).mono ?_
  rintro e w1 ⟨rfl, rfl⟩
  rw [HD.out]
  go_wp2_with fail
  refine (wordsFrom_any _ _ _ _ _ hk.out ha hb hn).mono ?_
  rintro e w1 ⟨ao, c, rfl, row, hbl⟩
  have p1 := ((Whole.made2 w (.cells (sdC k a b) 24) 24 (sdC 0 0 0)).alloc (.cells (sdC k a b) 24)).below hbl
  have HBL : Below w.heap.size w w1 := Bel_next (by repeat (first | with_reducible exact Below.refl _ _ | with_reducible exact HBL | with_reducible refine Below.drew ?_ | with_reducible refine Bel_drewN ?_ _ | with_reducible refine Below.alloc ?_ (by first | omega | (simp; done) | (simp; omega)) _ | with_reducible refine Below.setCell ?_ (by first | omega | (simp; done) | (simp; omega)) _)) hbl
  have hr := row.wide (lo' := w.heap.size + 2) (by simp) (Nat.le_refl _)
  have hz1 : w.heap.size + 1 < w1.heap.size := p1.lt
  have hz0 : w.heap.size < w1.heap.size := by omega
  obtain ⟨hc1, hf1⟩ := p1.facts
  have H := Lib.hid (And.intro HBL hr)
  clear HBL hr hbl row p1
  go_wp2_with fail
  obtain ⟨HBL, hr⟩ := H.out
  refine bodyPost_ret (v := .tuple #[sd k (sdK k a b n).1 (sdK k a b n).2, .slice ao n c, .bool true]) (by simp [results, Try.results21, go_sem, hc1, hz1]) rfl ⟨_, _, rfl, by refine Row.wide (lo := w.heap.size + 2) (hi := w1.heap.size) ?_ (by omega) (by first | exact Nat.le_refl _ | (simp; done) | (simp; omega)); repeat (first | with_reducible exact hr | with_reducible refine Row.alloc ?_ _ | with_reducible refine Row.far ?_ (by first | omega | (simp; done) | (simp; omega)) _), by repeat (first | with_reducible exact Below.refl _ _ | with_reducible exact HBL | with_reducible refine Below.drew ?_ | with_reducible refine Bel_drewN ?_ _ | with_reducible refine Below.alloc ?_ (by first | omega | (simp; done) | (simp; omega)) _ | with_reducible refine Below.setCell ?_ (by first | omega | (simp; done) | (simp; omega)) _)⟩
theorem implWordsOf_no (k : Int) (a b : Nat) (n : Int) (w : World) (hv : ¬(vSeed k a b = true ∧ 0 ≤ n ∧ n ≤ 256)) :
    Calls Try.prog 21 #[sd k a b, .int .i64 n] w (RetB (.tuple #[sd 0 0 0, .slice none 0 0, .bool false]) w) := by
  have HV := Lib.hid hv
  clear hv
  cases hs : vSeed k a b with
  | true =>
    have hd : decide (0 ≤ n ∧ n ≤ 256) = false := by have h := HV.out; rw [hs] at h; simpa using h
    have HD := Lib.hid hd
    clear hd
    go_enter Try.func21, Try.ntmps21
    go_wp2_with fail
    refine (ValidSeed_any _ _ _ _).mono ?_
    rintro e w1 ⟨rfl, rfl⟩
    go_wp2_with fail
    refine (isWordCount_any _ _).mono ?_
    rintro e w1 ⟨rfl, rfl⟩
    rw [HD.out]
    go_wp2_with fail
    exact bodyPost_ret (v := .tuple #[sd 0 0 0, .slice none 0 0, .bool false]) (by simp [results, Try.results21, go_sem]) rfl ⟨rfl, by repeat (first | with_reducible exact Below.refl _ _ | with_reducible exact HBL | with_reducible refine Below.drew ?_ | with_reducible refine Bel_drewN ?_ _ | with_reducible refine Below.alloc ?_ (by first | omega | (simp; done) | (simp; omega)) _ | with_reducible refine Below.setCell ?_ (by first | omega | (simp; done) | (simp; omega)) _)⟩
  | false =>
    go_enter Try.func21, Try.ntmps21
    go_wp2_with fail
    refine (ValidSeed_any _ _ _ _).mono ?_
    rintro e w1 ⟨rfl, rfl⟩
    go_wp2_with fail
    exact bodyPost_ret (v := .tuple #[sd 0 0 0, .slice none 0 0, .bool false]) (by simp [results, Try.results21, go_sem]) rfl ⟨rfl, by repeat (first | with_reducible exact Below.refl _ _ | with_reducible exact HBL | with_reducible refine Below.drew ?_ | with_reducible refine Bel_drewN ?_ _ | with_reducible refine Below.alloc ?_ (by first | omega | (simp; done) | (simp; omega)) _ | with_reducible refine Below.setCell ?_ (by first | omega | (simp; done) | (simp; omega)) _)⟩
set_option maxHeartbeats 1000000 in
theorem specWordsOf_yes (k : Int) (a b n : Nat) (w : World) (hv : vSeed k a b = true) (hn : n ≤ 256) (ha : a < 18446744073709551616) (hb : b < 18446744073709551616) :
    Calls Try.prog 50 #[sd k a b, .int .i64 n] w (RetL n (il (wordsL k a b n)) (fun s => .tuple #[sd k (sdK k a b n).1 (sdK k a b n).2, s, .bool true]) w) := by
  have hk := Lib.hid (vSeed_kind hv)
  have hd : (vSeed k a b && decide ((0 : Int) ≤ n ∧ (n : Int) ≤ 256)) = true := by rw [hv]; simp; omega
  have HD := Lib.hid hd
  have p0 := Lib.hid ((Whole.made w 24 (sdC k a b)).alloc (.cells (sdC 0 0 0) 24))
  have p1 := Lib.hid (Whole.made2 w (.cells (sdC k a b) 24) 24 (sdC 0 0 0))
  clear hd
  go_enter Try.func50, Try.ntmps50
  go_wp2_with fail
  refine (l02Can_any _ _ _ _ _ _ p0.out).mono ?_
  rintro e w1 ⟨rfl, rfl⟩
  rw [HD.out]
  go_wp2_with fail
  refine (l02Words_any _ _ _ _ _ _ hk.out ha hb hn p0.out).mono ?_
  rintro e w1 ⟨ao, c, rfl, row, q0, hg⟩
  have q1 := p1.out.grown hg (by simp)
  have HBL : Below w.heap.size w w1 := Below.grown (by repeat (first | with_reducible exact Below.refl _ _ | with_reducible exact HBL | with_reducible refine Below.drew ?_ | with_reducible refine Bel_drewN ?_ _ | with_reducible refine Below.alloc ?_ (by first | omega | (simp; done) | (simp; omega)) _ | with_reducible refine Below.setCell ?_ (by first | omega | (simp; done) | (simp; omega)) _)) hg (by simp <;> omega) (by simp)
  have hr := row.wide (lo' := w.heap.size + 2) (by simp) (Nat.le_refl _)
  have hz1 : w.heap.size + 1 < w1.heap.size := q1.lt
  have hz0 : w.heap.size < w1.heap.size := by omega
  obtain ⟨hc0, hf0⟩ := q0.facts
  obtain ⟨hc1, hf1⟩ := q1.facts
  have H := Lib.hid (And.intro HBL hr)
  clear HBL hr row q0 q1 hg p0 p1
  go_wp2_with fail
  obtain ⟨HBL, hr⟩ := H.out
  refine bodyPost_ret (v := .tuple #[sd k (sdK k a b n).1 (sdK k a b n).2, .slice ao n c, .bool true]) (by simp [results, Try.results50, go_sem, hc1]) rfl ⟨_, _, rfl, by refine Row.wide (lo := w.heap.size + 2) (hi := w1.heap.size) ?_ (by omega) (by first | exact Nat.le_refl _ | (simp; done) | (simp; omega)); repeat (first | with_reducible exact hr | with_reducible refine Row.alloc ?_ _ | with_reducible refine Row.far ?_ (by first | omega | (simp; done) | (simp; omega)) _), by repeat (first | with_reducible exact Below.refl _ _ | with_reducible exact HBL | with_reducible refine Below.drew ?_ | with_reducible refine Bel_drewN ?_ _ | with_reducible refine Below.alloc ?_ (by first | omega | (simp; done) | (simp; omega)) _ | with_reducible refine Below.setCell ?_ (by first | omega | (simp; done) | (simp; omega)) _)⟩
theorem specWordsOf_no (k : Int) (a b : Nat) (n : Int) (w : World) (hv : ¬(vSeed k a b = true ∧ 0 ≤ n ∧ n ≤ 256)) :
    Calls Try.prog 50 #[sd k a b, .int .i64 n] w (RetB (.tuple #[sd 0 0 0, .slice none 0 0, .bool false]) w) := by
  have hd : (vSeed k a b && decide (0 ≤ n ∧ n ≤ 256)) = false := by
    cases hs : vSeed k a b with
    | true => rw [hs] at hv; simpa using hv
    | false => rfl
  have HD := Lib.hid hd
  have p0 := Lib.hid ((Whole.made w 24 (sdC k a b)).alloc (.cells (sdC 0 0 0) 24))
  clear hd hv
  go_enter Try.func50, Try.ntmps50
  go_wp2_with fail
  refine (l02Can_any _ _ _ _ _ _ p0.out).mono ?_
  rintro e w1 ⟨rfl, rfl⟩
  rw [HD.out]
  go_wp2_with fail
  exact bodyPost_ret (v := .tuple #[sd 0 0 0, .slice none 0 0, .bool false]) (by simp [results, Try.results50, go_sem]) rfl ⟨rfl, by repeat (first | with_reducible exact Below.refl _ _ | with_reducible exact HBL | with_reducible refine Below.drew ?_ | with_reducible refine Bel_drewN ?_ _ | with_reducible refine Below.alloc ?_ (by first | omega | (simp; done) | (simp; omega)) _ | with_reducible refine Below.setCell ?_ (by first | omega | (simp; done) | (simp; omega)) _)⟩
end Go.Proofs.Ytdmbhnllebipjaa
