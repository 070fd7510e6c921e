/- Seeds that skip. -/
import Derived.Test.YtdmbhnllebipjaaJu
namespace Go.Proofs.Ytdmbhnllebipjaa
open Go Go.RowKit
set_option linter.unusedVariables false

def skA (k : Int) (a b c : Nat) : Nat := if k = 0 then jumpN c 6364136223846793005 b a else if k = 2 then (a + 11400714819323198485 * c) % 18446744073709551616 else (sdK k a b c).1
def skB (k : Int) (a b c : Nat) : Nat := if k = 0 then b else if k = 2 then b else (sdK k a b c).2
def most (k : Int) : Int := if k = 0 ∨ k = 2 then 4611686018427387904 else 4096

theorem mostSkip_any (k : Int) (w : World) : Calls Try.prog 70 #[.int .i64 k] w (fun e w' => e = .returned (.int .i64 (most k)) ∧ w = w') := by
  by_cases h0 : k = 0
  · have E : Hid (most k = 4611686018427387904) := Lib.hid (by unfold most; rw [if_pos (.inl h0)])
    subst h0
    go_enter Try.func70, Try.ntmps70
    go_wp2
    go_ret
    exact ⟨by rw [E.out]; rfl, rfl⟩
  · by_cases h2 : k = 2
    · have E : Hid (most k = 4611686018427387904) := Lib.hid (by unfold most; rw [if_pos (.inr h2)])
      subst h2
      go_enter Try.func70, Try.ntmps70
      go_wp2
      go_ret
      exact ⟨by rw [E.out]; rfl, rfl⟩
    · have E : Hid (most k = 4096) := Lib.hid (by unfold most; rw [if_neg (by omega)])
      have h0' : (k == 0) = false := by rw [beq_eq_false_iff_ne]; exact h0
      have h2' : (k == 2) = false := by rw [beq_eq_false_iff_ne]; exact h2
      clear h0 h2
      go_enter Try.func70, Try.ntmps70
      go_wp2
      go_ret
      exact ⟨by rw [E.out]; rfl, rfl⟩

set_option maxHeartbeats 1000000 in
theorem implSkip_0 (a b c : Nat) (w : World) (hv : vSeed 0 a b = true) (hc : c ≤ 4611686018427387904) (ha : a < 18446744073709551616) (hb : b < 18446744073709551616) :
    Calls Try.prog 22 #[sd 0 a b, .int .i64 c] w (RetB (.tuple #[sd 0 (skA 0 a b c) (skB 0 a b c), .bool true]) w) := by
  have E : Hid (most 0 = 4611686018427387904) := Lib.hid rfl
  have hc' : (c : Int) ≤ 4611686018427387904 := by omega
  go_enter Try.func22, Try.ntmps22
  go_wp2_with fail
  refine (ValidSeed_any _ _ _ _).mono ?_
  rintro e w1 ⟨rfl, rfl⟩
  go_wp2_with fail
  refine (mostSkip_any _ _).mono ?_
  rintro e w1 ⟨rfl, rfl⟩
  rw [E.out]
  go_wp2_with fail
  refine (jumpLine_any a b c _ ha hb hc).mono ?_
  rintro e w1 ⟨rfl, rfl⟩
  go_wp2_with fail
  exact bodyPost_ret (v := .tuple #[sd 0 (skA 0 a b c) (skB 0 a b c), .bool true]) (by simp [results, Try.results22, go_sem, skA, skB]) rfl ⟨rfl, by repeat (first | with_reducible exact Below.refl _ _ | with_reducible exact HBL | with_reducible refine Below.drew ?_ | with_reducible refine Bel_drewN ?_ _ | with_reducible refine Below.alloc ?_ (by first | omega | (simp; done) | (simp; omega)) _ | with_reducible refine Below.setCell ?_ (by first | omega | (simp; done) | (simp; omega)) _)⟩
set_option maxHeartbeats 1000000 in
theorem implSkip_2 (a b c : Nat) (w : World) (hv : vSeed 2 a b = true) (hc : c ≤ 4611686018427387904) (ha : a < 18446744073709551616) (hb : b < 18446744073709551616) :
    Calls Try.prog 22 #[sd 2 a b, .int .i64 c] w (RetB (.tuple #[sd 2 (skA 2 a b c) (skB 2 a b c), .bool true]) w) := by
  have E : Hid (most 2 = 4611686018427387904) := Lib.hid rfl
  have hc' : (c : Int) ≤ 4611686018427387904 := by omega
  have hc2 : IntKind.u64.wrap (c : Int) = c := by rw [IntKind.wrap_u64]; omega
  have hA : IntKind.u64.wrap ((a : Int) + IntKind.u64.wrap (11400714819323198485 * (c : Int))) = (skA 2 a b c : Nat) := by
    show _ = (((a + 11400714819323198485 * c) % 18446744073709551616 : Nat) : Int)
    rw [IntKind.wrap_u64, IntKind.wrap_u64]; omega
  go_enter Try.func22, Try.ntmps22
  go_wp2_with fail
  refine (ValidSeed_any _ _ _ _).mono ?_
  rintro e w1 ⟨rfl, rfl⟩
  go_wp2_with fail
  refine (mostSkip_any _ _).mono ?_
  rintro e w1 ⟨rfl, rfl⟩
  rw [E.out]
  go_wp2_with fail
  exact bodyPost_ret (v := .tuple #[sd 2 (skA 2 a b c) (skB 2 a b c), .bool true]) (by simp [results, Try.results22, go_sem, skB]) rfl ⟨rfl, by repeat (first | with_reducible exact Below.refl _ _ | with_reducible exact HBL | with_reducible refine Below.drew ?_ | with_reducible refine Bel_drewN ?_ _ | with_reducible refine Below.alloc ?_ (by first | omega | (simp; done) | (simp; omega)) _ | with_reducible refine Below.setCell ?_ (by first | omega | (simp; done) | (simp; omega)) _)⟩
set_option maxHeartbeats 1000000 in
theorem implSkip_o (k : Int) (a b c : Nat) (w : World) (hk : k = 1 ∨ k = 3) (hv : vSeed k a b = true) (hc : c ≤ 4096) (ha : a < 18446744073709551616) (hb : b < 18446744073709551616) :
    Calls Try.prog 22 #[sd k a b, .int .i64 c] w (RetB (.tuple #[sd k (skA k a b c) (skB k a b c), .bool true]) w) := by
  have E : Hid (most k = 4096) := Lib.hid (by unfold most; rw [if_neg (by omega)])
  have HK : Hid (0 ≤ k ∧ k ≤ 3) := Lib.hid (by omega)
  have h0' : (k == 0) = false := by rw [beq_eq_false_iff_ne]; omega
  have h2' : (k == 2) = false := by rw [beq_eq_false_iff_ne]; omega
  have hc' : (c : Int) ≤ 4096 := by omega
  have HR : Hid (skA k a b c = (sdK k a b c).1 ∧ skB k a b c = (sdK k a b c).2) := Lib.hid (by unfold skA skB; rw [if_neg (by omega), if_neg (by omega), if_neg (by omega), if_neg (by omega)]; exact ⟨rfl, rfl⟩)
  clear hk
  go_enter Try.func22, Try.ntmps22
  go_wp2_with fail
  refine (ValidSeed_any _ _ _ _).mono ?_
  rintro e w1 ⟨rfl, rfl⟩
  go_wp2_with fail
  refine (mostSkip_any _ _).mono ?_
  rintro e w1 ⟨rfl, rfl⟩
  rw [E.out]
  go_wp2_with fail
  have p0 := (((Whole.made w 24 (sdC k a b)).alloc (.cells (sdC 0 0 0) 24)).alloc (.cells (sdC k a b) 24))
  have p1 := (Whole.made2 w (.cells (sdC k a b) 24) 24 (sdC 0 0 0)).alloc (.cells (sdC k a b) 24)
  have HP := Lib.hid (And.intro p0 p1)
  clear p0 p1
  go_loopw [24] (fun i wr => ∃ j : Nat, j ≤ c ∧ i = .int .i64 j ∧ Below w.heap.size w wr ∧ Whole wr w.heap.size 24 (sdC k (sdK k a b j).1 (sdK k a b j).2) ∧ Whole wr (w.heap.size + 1) 24 (sdC 0 0 0)) (fun i _ => c - (intOf i).toNat)
  case atStart => exact ⟨0, Nat.zero_le _, rfl, by repeat (first | with_reducible exact Below.refl _ _ | with_reducible exact HBL | with_reducible refine Below.drew ?_ | with_reducible refine Bel_drewN ?_ _ | with_reducible refine Below.alloc ?_ (by first | omega | (simp; done) | (simp; omega)) _ | with_reducible refine Below.setCell ?_ (by first | omega | (simp; done) | (simp; omega)) _), HP.out.1, HP.out.2⟩
  case round =>
    obtain ⟨j, hj, rfl, hbel, q0, q1⟩ := hrel
    clear HP
    have hs := Lib.hid (sdK_lt k a b j HK.out ha hb)
    have H := Lib.hid (And.intro hbel (And.intro q0 q1))
    have hz1 : w.heap.size + 1 < wr.heap.size := q1.lt
    have hz0 : w.heap.size < wr.heap.size := q0.lt
    obtain ⟨hc0, hf0⟩ := q0.facts
    by_cases hlt : j < c
    · clear hbel q0 q1
      generalize hA : (sdK k a b j).1 = A at *
      generalize hB : (sdK k a b j).2 = B at *
      have HAB := Lib.hid (And.intro hA hB)
      clear hA hB
      go_wp2_with fail
      refine (stepSeed_any _ _ _ _ HK.out hs.out.1 hs.out.2).mono ?_
      rintro e w2 ⟨rfl, rfl⟩
      go_wp2_with fail
      go_roundw
      case rel =>
        obtain ⟨HBL, q0, q1⟩ := H.out
        obtain ⟨rfl, rfl⟩ := HAB.out
        refine ⟨j + 1, by omega, by go_num, by repeat (first | with_reducible exact Below.refl _ _ | with_reducible exact HBL | with_reducible refine Below.drew ?_ | with_reducible refine Bel_drewN ?_ _ | with_reducible refine Below.alloc ?_ (by first | omega | (simp; done) | (simp; omega)) _ | with_reducible refine Below.setCell ?_ (by first | omega | (simp; done) | (simp; omega)) _), ?_, ?_⟩
        · exact (((((q0.put 0 _).put 1 _).put 2 _).alloc _).alloc _)
        · exact (((((q1.far (by simp) _).far (by simp) _).far (by simp) _).alloc _).alloc _)
      case measure => simp [intOf]; omega
    · have e' : c = j := by omega
      subst e'
      obtain ⟨hc1, hf1⟩ := q1.facts
      clear hbel q0 q1
      go_wp2_with fail
      obtain ⟨HBL, q0, q1⟩ := H.out
      exact bodyPost_ret (v := .tuple #[sd k (skA k a b c) (skB k a b c), .bool true]) (by simp [results, Try.results22, go_sem, hc1]; rw [HR.out.1, HR.out.2]; exact ⟨rfl, rfl⟩) rfl ⟨rfl, by repeat (first | with_reducible exact Below.refl _ _ | with_reducible exact HBL | with_reducible refine Below.drew ?_ | with_reducible refine Bel_drewN ?_ _ | with_reducible refine Below.alloc ?_ (by first | omega | (simp; done) | (simp; omega)) _ | with_reducible refine Below.setCell ?_ (by first | omega | (simp; done) | (simp; omega)) _)⟩
theorem implSkip_no (k : Int) (a b : Nat) (c : Int) (w : World) (hv : ¬(vSeed k a b = true ∧ 0 ≤ c ∧ c ≤ most k)) :
    Calls Try.prog 22 #[sd k a b, .int .i64 c] w (RetB (.tuple #[sd 0 0 0, .bool false]) w) := by
  have HV := Lib.hid hv
  clear hv
  cases hw : vSeed k a b with
  | false =>
    go_enter Try.func22, Try.ntmps22
    go_wp2_with fail
    refine (ValidSeed_any _ _ _ _).mono ?_
    rintro e w1 ⟨rfl, rfl⟩
    go_wp2_with fail
    exact bodyPost_ret (v := .tuple #[sd 0 0 0, .bool false]) (by simp [results, Try.results22, go_sem]) rfl ⟨rfl, by repeat (first | with_reducible exact Below.refl _ _ | with_reducible exact HBL | with_reducible refine Below.drew ?_ | with_reducible refine Bel_drewN ?_ _ | with_reducible refine Below.alloc ?_ (by first | omega | (simp; done) | (simp; omega)) _ | with_reducible refine Below.setCell ?_ (by first | omega | (simp; done) | (simp; omega)) _)⟩
  | true =>
    by_cases h0 : c < 0
    · go_enter Try.func22, Try.ntmps22
      go_wp2_with fail
      refine (ValidSeed_any _ _ _ _).mono ?_
      rintro e w1 ⟨rfl, rfl⟩
      go_wp2_with fail
      exact bodyPost_ret (v := .tuple #[sd 0 0 0, .bool false]) (by simp [results, Try.results22, go_sem]) rfl ⟨rfl, by repeat (first | with_reducible exact Below.refl _ _ | with_reducible exact HBL | with_reducible refine Below.drew ?_ | with_reducible refine Bel_drewN ?_ _ | with_reducible refine Below.alloc ?_ (by first | omega | (simp; done) | (simp; omega)) _ | with_reducible refine Below.setCell ?_ (by first | omega | (simp; done) | (simp; omega)) _)⟩
    · have h1 : 0 ≤ c := by omega
      have h2 : most k < c := by have h := HV.out; simp [hw] at h; omega
      clear h0
      go_enter Try.func22, Try.ntmps22
      go_wp2_with fail
      refine (ValidSeed_any _ _ _ _).mono ?_
      rintro e w1 ⟨rfl, rfl⟩
      go_wp2_with fail
      refine (mostSkip_any _ _).mono ?_
      rintro e w1 ⟨rfl, rfl⟩
      go_wp2_with fail
      exact bodyPost_ret (v := .tuple #[sd 0 0 0, .bool false]) (by simp [results, Try.results22, go_sem]) rfl ⟨rfl, by repeat (first | with_reducible exact Below.refl _ _ | with_reducible exact HBL | with_reducible refine Below.drew ?_ | with_reducible refine Bel_drewN ?_ _ | with_reducible refine Below.alloc ?_ (by first | omega | (simp; done) | (simp; omega)) _ | with_reducible refine Below.setCell ?_ (by first | omega | (simp; done) | (simp; omega)) _)⟩
set_option maxHeartbeats 1000000 in
theorem specSkip_0 (a b c : Nat) (w : World) (hv : vSeed 0 a b = true) (hc : c ≤ 4611686018427387904) (ha : a < 18446744073709551616) (hb : b < 18446744073709551616) :
    Calls Try.prog 54 #[sd 0 a b, .int .i64 c] w (RetB (.tuple #[sd 0 (skA 0 a b c) (skB 0 a b c), .bool true]) w) := by
  have p0 := Lib.hid ((Whole.made w 24 (sdC 0 a b)).alloc (.cells (sdC 0 0 0) 24))
  have p1 := Lib.hid (Whole.made2 w (.cells (sdC 0 a b) 24) 24 (sdC 0 0 0))
  go_enter Try.func54, Try.ntmps54
  go_wp2_with fail
  refine (l02Is_any _ _ _ _ _ p0.out).mono ?_
  rintro e w1 ⟨rfl, rfl⟩
  go_wp2_with fail
  refine (l00In_yes _ _ _ (by omega) (by omega) _).mono ?_
  rintro e w1 ⟨rfl, rfl⟩
  go_wp2_with fail
  refine (l02Skip_any _ _ _ _ _ _ _ rfl ha hb hc p0.out).mono ?_
  rintro e w1 ⟨rfl, q0, hg⟩
  have q1 := p1.out.grown hg (by simp)
  have HBL : Below w.heap.size w w1 := Below.grown (by repeat (first | with_reducible exact Below.refl _ _ | with_reducible exact HBL | with_reducible refine Below.drew ?_ | with_reducible refine Bel_drewN ?_ _ | with_reducible refine Below.alloc ?_ (by first | omega | (simp; done) | (simp; omega)) _ | with_reducible refine Below.setCell ?_ (by first | omega | (simp; done) | (simp; omega)) _)) hg (by simp <;> omega) (by simp)
  have hz1 : w.heap.size + 1 < w1.heap.size := q1.lt
  have hz0 : w.heap.size < w1.heap.size := q0.lt
  obtain ⟨hc0, hf0⟩ := q0.facts
  obtain ⟨hc1, hf1⟩ := q1.facts
  have H := Lib.hid HBL
  clear HBL q0 q1 hg p0 p1
  go_wp2_with fail
  have HBL := H.out
  exact bodyPost_ret (v := .tuple #[sd 0 (skA 0 a b c) (skB 0 a b c), .bool true]) (by simp [results, Try.results54, go_sem, skA, skB, hc1]) rfl ⟨rfl, by repeat (first | with_reducible exact Below.refl _ _ | with_reducible exact HBL | with_reducible refine Below.drew ?_ | with_reducible refine Bel_drewN ?_ _ | with_reducible refine Below.alloc ?_ (by first | omega | (simp; done) | (simp; omega)) _ | with_reducible refine Below.setCell ?_ (by first | omega | (simp; done) | (simp; omega)) _)⟩
set_option maxHeartbeats 1000000 in
theorem specSkip_2 (a b c : Nat) (w : World) (hv : vSeed 2 a b = true) (hc : c ≤ 4611686018427387904) (ha : a < 18446744073709551616) (hb : b < 18446744073709551616) :
    Calls Try.prog 54 #[sd 2 a b, .int .i64 c] w (RetB (.tuple #[sd 2 (skA 2 a b c) (skB 2 a b c), .bool true]) w) := by
  have p0 := Lib.hid ((Whole.made w 24 (sdC 2 a b)).alloc (.cells (sdC 0 0 0) 24))
  have hc2 : IntKind.u64.wrap (c : Int) = c := by rw [IntKind.wrap_u64]; omega
  have hA : IntKind.u64.wrap ((a : Int) + IntKind.u64.wrap (11400714819323198485 * (c : Int))) = (skA 2 a b c : Nat) := by
    show _ = (((a + 11400714819323198485 * c) % 18446744073709551616 : Nat) : Int)
    rw [IntKind.wrap_u64, IntKind.wrap_u64]; omega
  go_enter Try.func54, Try.ntmps54
  go_wp2_with fail
  refine (l02Is_any _ _ _ _ _ p0.out).mono ?_
  rintro e w1 ⟨rfl, rfl⟩
  go_wp2_with fail
  refine (l00In_yes _ _ _ (by omega) (by omega) _).mono ?_
  rintro e w1 ⟨rfl, rfl⟩
  go_wp2_with fail
  exact bodyPost_ret (v := .tuple #[sd 2 (skA 2 a b c) (skB 2 a b c), .bool true]) (by simp [results, Try.results54, go_sem, skB]) rfl ⟨rfl, by repeat (first | with_reducible exact Below.refl _ _ | with_reducible exact HBL | with_reducible refine Below.drew ?_ | with_reducible refine Bel_drewN ?_ _ | with_reducible refine Below.alloc ?_ (by first | omega | (simp; done) | (simp; omega)) _ | with_reducible refine Below.setCell ?_ (by first | omega | (simp; done) | (simp; omega)) _)⟩
set_option maxHeartbeats 1000000 in
theorem specSkip_o (k : Int) (a b c : Nat) (w : World) (hk : k = 1 ∨ k = 3) (hv : vSeed k a b = true) (hc : c ≤ 4096) (ha : a < 18446744073709551616) (hb : b < 18446744073709551616) :
    Calls Try.prog 54 #[sd k a b, .int .i64 c] w (RetB (.tuple #[sd k (skA k a b c) (skB k a b c), .bool true]) w) := by
  have HK : Hid (0 ≤ k ∧ k ≤ 3) := Lib.hid (by omega)
  have h0' : (k == 0) = false := by rw [beq_eq_false_iff_ne]; omega
  have h2' : (k == 2) = false := by rw [beq_eq_false_iff_ne]; omega
  have hc' : (c : Int) ≤ 4096 := by omega
  have HR : Hid (skA k a b c = (sdK k a b c).1 ∧ skB k a b c = (sdK k a b c).2) := Lib.hid (by unfold skA skB; rw [if_neg (by omega), if_neg (by omega), if_neg (by omega), if_neg (by omega)]; exact ⟨rfl, rfl⟩)
  have p0 := Lib.hid ((Whole.made w 24 (sdC k a b)).alloc (.cells (sdC 0 0 0) 24))
  have p1 := Lib.hid (Whole.made2 w (.cells (sdC k a b) 24) 24 (sdC 0 0 0))
  clear hk
  go_enter Try.func54, Try.ntmps54
  go_wp2_with fail
  refine (l02Is_any _ _ _ _ _ p0.out).mono ?_
  rintro e w1 ⟨rfl, rfl⟩
  go_wp2_with fail
  refine (l00In_yes _ _ _ (by omega) (by omega) _).mono ?_
  rintro e w1 ⟨rfl, rfl⟩
  go_wp2_with fail
  go_loopw [7] (fun i wr => ∃ j : Nat, j ≤ c ∧ i = .int .i64 j ∧ Below w.heap.size w wr ∧ Whole wr w.heap.size 24 (sdC k (sdK k a b j).1 (sdK k a b j).2) ∧ Whole wr (w.heap.size + 1) 24 (sdC 0 0 0)) (fun i _ => c - (intOf i).toNat)
  case atStart => exact ⟨0, Nat.zero_le _, rfl, by repeat (first | with_reducible exact Below.refl _ _ | with_reducible exact HBL | with_reducible refine Below.drew ?_ | with_reducible refine Bel_drewN ?_ _ | with_reducible refine Below.alloc ?_ (by first | omega | (simp; done) | (simp; omega)) _ | with_reducible refine Below.setCell ?_ (by first | omega | (simp; done) | (simp; omega)) _), p0.out, p1.out⟩
  case round =>
    obtain ⟨j, hj, rfl, hbel, q0, q1⟩ := hrel
    clear p0 p1
    have hs := Lib.hid (sdK_lt k a b j HK.out ha hb)
    have H := Lib.hid (And.intro hbel (And.intro q0 q1))
    have hz1 : w.heap.size + 1 < wr.heap.size := q1.lt
    have hz0 : w.heap.size < wr.heap.size := q0.lt
    by_cases hlt : j < c
    · clear hbel q0 q1
      go_wp2_with fail
      refine (l02Next_any _ _ _ _ _ HK.out hs.out.1 hs.out.2 H.out.2.1).mono ?_
      rintro e w2 ⟨rfl, r0, hg⟩
      have r1 := H.out.2.2.grown hg (by simp)
      have HBL : Below w.heap.size w w2 := Below.grown H.out.1 hg (by omega) (by simp)
      have H2 := Lib.hid (And.intro HBL (And.intro r0 r1))
      clear HBL r0 r1 hg
      go_wp2_with fail
      go_roundw
      case rel => exact ⟨j + 1, by omega, by go_num, H2.out.1, H2.out.2.1, H2.out.2.2⟩
      case measure => simp [intOf]; omega
    · have e' : c = j := by omega
      subst e'
      obtain ⟨hc0, hf0⟩ := q0.facts
      obtain ⟨hc1, hf1⟩ := q1.facts
      clear hbel q0 q1
      go_wp2_with fail
      obtain ⟨HBL, q0, q1⟩ := H.out
      exact bodyPost_ret (v := .tuple #[sd k (skA k a b c) (skB k a b c), .bool true]) (by simp [results, Try.results54, go_sem, hc1]; rw [HR.out.1, HR.out.2]; exact ⟨rfl, rfl⟩) rfl ⟨rfl, by repeat (first | with_reducible exact Below.refl _ _ | with_reducible exact HBL | with_reducible refine Below.drew ?_ | with_reducible refine Bel_drewN ?_ _ | with_reducible refine Below.alloc ?_ (by first | omega | (simp; done) | (simp; omega)) _ | with_reducible refine Below.setCell ?_ (by first | omega | (simp; done) | (simp; omega)) _)⟩
theorem specSkip_no (k : Int) (a b : Nat) (c : Int) (w : World) (hv : ¬(vSeed k a b = true ∧ 0 ≤ c ∧ c ≤ most k)) :
    Calls Try.prog 54 #[sd k a b, .int .i64 c] w (RetB (.tuple #[sd 0 0 0, .bool false]) w) := by
  have p0 := Lib.hid ((Whole.made w 24 (sdC k a b)).alloc (.cells (sdC 0 0 0) 24))
  have HV := Lib.hid hv
  clear hv
  cases hw : vSeed k a b with
  | false =>
    by_cases h0 : k = 0
    · subst h0
      go_enter Try.func54, Try.ntmps54
      go_wp2_with fail
      refine (l02Is_any _ _ _ _ _ p0.out).mono ?_
      rintro e w1 ⟨rfl, rfl⟩
      go_wp2_with fail
      exact bodyPost_ret (v := .tuple #[sd 0 0 0, .bool false]) (by simp [results, Try.results54, go_sem]) rfl ⟨rfl, by repeat (first | with_reducible exact Below.refl _ _ | with_reducible exact HBL | with_reducible refine Below.drew ?_ | with_reducible refine Bel_drewN ?_ _ | with_reducible refine Below.alloc ?_ (by first | omega | (simp; done) | (simp; omega)) _ | with_reducible refine Below.setCell ?_ (by first | omega | (simp; done) | (simp; omega)) _)⟩
    · by_cases h2 : k = 2
      · subst h2
        go_enter Try.func54, Try.ntmps54
        go_wp2_with fail
        refine (l02Is_any _ _ _ _ _ p0.out).mono ?_
        rintro e w1 ⟨rfl, rfl⟩
        go_wp2_with fail
        exact bodyPost_ret (v := .tuple #[sd 0 0 0, .bool false]) (by simp [results, Try.results54, go_sem]) rfl ⟨rfl, by repeat (first | with_reducible exact Below.refl _ _ | with_reducible exact HBL | with_reducible refine Below.drew ?_ | with_reducible refine Bel_drewN ?_ _ | with_reducible refine Below.alloc ?_ (by first | omega | (simp; done) | (simp; omega)) _ | with_reducible refine Below.setCell ?_ (by first | omega | (simp; done) | (simp; omega)) _)⟩
      · have h0' : (k == 0) = false := by rw [beq_eq_false_iff_ne]; exact h0
        have h2' : (k == 2) = false := by rw [beq_eq_false_iff_ne]; exact h2
        clear h0 h2
        go_enter Try.func54, Try.ntmps54
        go_wp2_with fail
        refine (l02Is_any _ _ _ _ _ p0.out).mono ?_
        rintro e w1 ⟨rfl, rfl⟩
        go_wp2_with fail
        exact bodyPost_ret (v := .tuple #[sd 0 0 0, .bool false]) (by simp [results, Try.results54, go_sem]) rfl ⟨rfl, by repeat (first | with_reducible exact Below.refl _ _ | with_reducible exact HBL | with_reducible refine Below.drew ?_ | with_reducible refine Bel_drewN ?_ _ | with_reducible refine Below.alloc ?_ (by first | omega | (simp; done) | (simp; omega)) _ | with_reducible refine Below.setCell ?_ (by first | omega | (simp; done) | (simp; omega)) _)⟩
  | true =>
    by_cases h0 : k = 0
    · have hn : c < 0 ∨ 4611686018427387904 < c := by have h := HV.out; rw [hw, show most k = 4611686018427387904 from by unfold most; rw [if_pos (.inl h0)]] at h; simp at h; omega
      have HN := Lib.hid hn
      clear hn
      subst h0
      go_enter Try.func54, Try.ntmps54
      go_wp2_with fail
      refine (l02Is_any _ _ _ _ _ p0.out).mono ?_
      rintro e w1 ⟨rfl, rfl⟩
      go_wp2_with fail
      refine (l00In_no _ _ _ HN.out _).mono ?_
      rintro e w1 ⟨rfl, rfl⟩
      go_wp2_with fail
      exact bodyPost_ret (v := .tuple #[sd 0 0 0, .bool false]) (by simp [results, Try.results54, go_sem]) rfl ⟨rfl, by repeat (first | with_reducible exact Below.refl _ _ | with_reducible exact HBL | with_reducible refine Below.drew ?_ | with_reducible refine Bel_drewN ?_ _ | with_reducible refine Below.alloc ?_ (by first | omega | (simp; done) | (simp; omega)) _ | with_reducible refine Below.setCell ?_ (by first | omega | (simp; done) | (simp; omega)) _)⟩
    · by_cases h2 : k = 2
      · have hn : c < 0 ∨ 4611686018427387904 < c := by have h := HV.out; rw [hw, show most k = 4611686018427387904 from by unfold most; rw [if_pos (.inr h2)]] at h; simp at h; omega
        have HN := Lib.hid hn
        clear hn
        subst h2
        go_enter Try.func54, Try.ntmps54
        go_wp2_with fail
        refine (l02Is_any _ _ _ _ _ p0.out).mono ?_
        rintro e w1 ⟨rfl, rfl⟩
        go_wp2_with fail
        refine (l00In_no _ _ _ HN.out _).mono ?_
        rintro e w1 ⟨rfl, rfl⟩
        go_wp2_with fail
        exact bodyPost_ret (v := .tuple #[sd 0 0 0, .bool false]) (by simp [results, Try.results54, go_sem]) rfl ⟨rfl, by repeat (first | with_reducible exact Below.refl _ _ | with_reducible exact HBL | with_reducible refine Below.drew ?_ | with_reducible refine Bel_drewN ?_ _ | with_reducible refine Below.alloc ?_ (by first | omega | (simp; done) | (simp; omega)) _ | with_reducible refine Below.setCell ?_ (by first | omega | (simp; done) | (simp; omega)) _)⟩
      · have hn : c < 0 ∨ 4096 < c := by have h := HV.out; rw [hw, show most k = 4096 from by unfold most; rw [if_neg (by omega)]] at h; simp at h; omega
        have HN := Lib.hid hn
        have h0' : (k == 0) = false := by rw [beq_eq_false_iff_ne]; exact h0
        have h2' : (k == 2) = false := by rw [beq_eq_false_iff_ne]; exact h2
        clear h0 h2 hn
        go_enter Try.func54, Try.ntmps54
        go_wp2_with fail
        refine (l02Is_any _ _ _ _ _ p0.out).mono ?_
        rintro e w1 ⟨rfl, rfl⟩
        go_wp2_with fail
        refine (l00In_no _ _ _ HN.out _).mono ?_
        rintro e w1 ⟨rfl, rfl⟩
        go_wp2_with fail
        exact bodyPost_ret (v := .tuple #[sd 0 0 0, .bool false]) (by simp [results, Try.results54, go_sem]) rfl ⟨rfl, by repeat (first | with_reducible exact Below.refl _ _ | with_reducible exact HBL | with_reducible refine Below.drew ?_ | with_reducible refine Bel_drewN ?_ _ | with_reducible refine Below.alloc ?_ (by first | omega | (simp; done) | (simp; omega)) _ | with_reducible refine Below.setCell ?_ (by first | omega | (simp; done) | (simp; omega)) _)⟩
theorem implSkip_yes (k : Int) (a b c : Nat) (w : World) (hv : vSeed k a b = true) (hc : (c : Int) ≤ most k) (ha : a < 18446744073709551616) (hb : b < 18446744073709551616) :
    Calls Try.prog 22 #[sd k a b, .int .i64 c] w (RetB (.tuple #[sd k (skA k a b c) (skB k a b c), .bool true]) w) := by
  have hk := vSeed_kind hv
  unfold most at hc
  obtain rfl | rfl | h : k = 0 ∨ k = 2 ∨ (k = 1 ∨ k = 3) := by omega
  · exact implSkip_0 a b c w hv (by simp at hc; omega) ha hb
  · exact implSkip_2 a b c w hv (by simp at hc; omega) ha hb
  · rw [if_neg (by omega)] at hc
    exact implSkip_o k a b c w h hv (by omega) ha hb
theorem specSkip_yes (k : Int) (a b c : Nat) (w : World) (hv : vSeed k a b = true) (hc : (c : Int) ≤ most k) (ha : a < 18446744073709551616) (hb : b < 18446744073709551616) :
    Calls Try.prog 54 #[sd k a b, .int .i64 c] w (RetB (.tuple #[sd k (skA k a b c) (skB k a b c), .bool true]) w) := by
  have hk := vSeed_kind hv
  unfold most at hc
  obtain rfl | rfl | h : k = 0 ∨ k = 2 ∨ (k = 1 ∨ k = 3) := by omega
  · exact specSkip_0 a b c w hv (by simp at hc; omega) ha hb
  · exact specSkip_2 a b c w hv (by simp at hc; omega) ha hb
  · rw [if_neg (by omega)] at hc
    exact specSkip_o k a b c w h hv (by omega) ha hb
end Go.Proofs.Ytdmbhnllebipjaa
