/- Numbers below a number, drawn of a seed. -/
import Derived.Test.YtncebfnfmjimmaaWf
import Derived.Test.YtncebfnfmjimmaaSe
import Derived.Test.YtncebfnfmjimmaaIn0
namespace Go.Proofs.Ytncebfnfmjimmaa
open Go Go.RowKit
set_option linter.unusedVariables false

/-- The greatest multiple of n that is at most 2^32. -/
def mulN (n : Nat) : Nat := 4294967296 - 4294967296 % n
theorem mulN_is (n : Nat) : 4294967296 / n * n = mulN n := by
  unfold mulN; have := Nat.div_add_mod 4294967296 n; rw [Nat.mul_comm] at this; omega
theorem mulN_sub (n : Nat) : (4294967296 : Int) - 4294967296 % (n : Int) = (mulN n : Nat) := by
  have h : 4294967296 % n ≤ 4294967296 := Nat.mod_le _ _
  unfold mulN
  rw [show ((4294967296 : Int) % n) = ((4294967296 % n : Nat) : Int) from rfl]
  generalize 4294967296 % n = r at *
  omega
/-- The word number J is the first one that is less. -/
def firstB (k : Int) (a b n J : Nat) : Prop := J < 64 ∧ (∀ i, i < J → ¬ wdK k a b i < mulN n) ∧ wdK k a b J < mulN n
def noneB (k : Int) (a b n : Nat) : Prop := ∀ i, i < 64 → ¬ wdK k a b i < mulN n
theorem first_or_none (k : Int) (a b n : Nat) : (∃ J, firstB k a b n J) ∨ noneB k a b n := by
  suffices H : ∀ m, m ≤ 64 → (∃ J, firstB k a b n J) ∨ ∀ i, i < m → ¬ wdK k a b i < mulN n from H 64 (Nat.le_refl _)
  intro m
  induction m with
  | zero => intro _; right; intro i hi; omega
  | succ m ih =>
    intro hm
    rcases ih (by omega) with h | h
    · exact .inl h
    · by_cases hw : wdK k a b m < mulN n
      · exact .inl ⟨m, by omega, h, hw⟩
      · right; intro i hi
        by_cases e : i = m
        · rw [e]; exact hw
        · exact h i (by omega)

def TriedP (g : Nat) (k : Int) (a b n J : Nat) (w : World) (e : Ending) (w' : World) : Prop :=
  e = .returned (.tuple #[.int .i64 ((wdK k a b J % n : Nat) : Int), .bool true]) ∧ Whole w' g 42 (sdC k (sdK k a b (J + 1)).1 (sdK k a b (J + 1)).2) ∧ w.grownBy w' (some g)
def TriedN (g : Nat) (w : World) (e : Ending) (w' : World) : Prop :=
  e = .returned (.tuple #[.int .i64 0, .bool false]) ∧ w.grownBy w' (some g)
set_option maxRecDepth 100000 in
set_option maxHeartbeats 1000000 in
theorem l02Tried_yes (g : Nat) (k : Int) (a b n : Nat) (w : World) (hk : 0 ≤ k ∧ k ≤ 3) (ha : a < 18446744073709551616) (hb : b < 18446744073709551616) (hn : 1 ≤ n ∧ n ≤ 4294967296) (J : Nat) (hJ : firstB k a b n J) (hw : Whole w g 42 (sdC k a b)) :
    Calls Try.prog 76 #[.pointer (some ⟨g, 0, none⟩), .int .i64 n] w (TriedP g k a b n J w) := by
  have HK := Lib.hid hk
  have HW := Lib.hid hw
  have HJ := Lib.hid hJ
  have hm0 := mulN_is n
  have hql : 4294967296 / n ≤ 4294967296 := Nat.div_le_self _ _
  have hq0 : (4294967296 : Int) / (n : Int) = ((4294967296 / n : Nat) : Int) := rfl
  generalize 4294967296 / n = q at hm0 hql hq0
  have hm : (q : Int) * n = (mulN n : Nat) := by rw [← hm0]; simp
  have hdiv : (q : Int) ≤ 4294967296 := by omega
  clear hm0
  have hml : (mulN n : Int) ≤ 4294967296 := by unfold mulN; omega
  have hn1 : (1 : Int) ≤ n := by omega
  have hne : ((n : Int) == 0) = false := by rw [beq_eq_false_iff_ne]; omega
  have hne' : (n : Int) ≠ 0 := by omega
  obtain ⟨M, eM⟩ : ∃ M, M = mulN n := ⟨_, rfl⟩
  rw [← eM] at hm hml
  have HM := Lib.hid eM
  clear hw hk hJ eM
  obtain ⟨L, eL⟩ : ∃ L : Nat, L = 64 := ⟨_, rfl⟩
  have HLL := Lib.hid eL
  clear eL
  go_enter Try.func76, Try.ntmps76
  go_wp2
  rw [hq0]
  go_loopw [7] (fun i wr => ∃ j : Nat, j ≤ J ∧ i = .int .i64 j ∧ w.grownBy wr (some g) ∧ Whole wr g 42 (sdC k (sdK k a b j).1 (sdK k a b j).2)) (fun i _ => L - (intOf i).toNat)
  case atStart => exact ⟨0, Nat.zero_le _, rfl, grown_refl _ _, HW.out⟩
  case round =>
    obtain ⟨j, hj, rfl, hgr, hwh⟩ := hrel
    have H := Lib.hid (And.intro hgr hwh)
    have hs := Lib.hid (sdK_lt k a b j HK.out ha hb)
    have hwl : (nxW k (sdK k a b j).1 (sdK k a b j).2 : Int) ≤ 4294967295 := by have := wdK_lt k a b j HK.out; unfold wdK at this; omega
    have HWD : Hid (wdK k a b j = nxW k (sdK k a b j).1 (sdK k a b j).2) := Lib.hid rfl
    clear hgr hwh hm hdiv hq0
    by_cases hlt : j < J
    · have hj64 : (j : Int) < 64 := by have := HJ.out.1; omega
      have hno := HJ.out.2.1 j hlt
      rw [HWD.out, ← HM.out] at hno
      have hno' : ¬ ((nxW k (sdK k a b j).1 (sdK k a b j).2 : Nat) : Int) < (M : Nat) := by omega
      have HNO := Lib.hid hno'
      clear hno hno'
      go_wp2_with fail
      refine (l02Next_any _ _ _ _ _ HK.out hs.out.1 hs.out.2 H.out.2).mono ?_
      rintro e w2 ⟨rfl, q0, hg2⟩
      have H2 := Lib.hid (And.intro (grown_trans H.out.1 hg2) q0)
      clear q0 hg2 H
      have hno' := HNO.out
      clear HNO HWD
      generalize nxW k (sdK k a b j).1 (sdK k a b j).2 = x at *
      have hd' : (M : Int) ≤ (x : Int) := by omega
      clear hno'
      go_wp2
      go_roundw
      case rel => exact ⟨j + 1, by omega, by go_num, H2.out⟩
      case measure => have := HLL.out; simp [intOf]; omega
    · have e' : J = j := by omega
      subst e'
      have hj64 : (J : Int) < 64 := by have := HJ.out.1; omega
      have hyes := HJ.out.2.2
      rw [HWD.out, ← HM.out] at hyes
      have hyes' : ((nxW k (sdK k a b J).1 (sdK k a b J).2 : Nat) : Int) < (M : Nat) := by omega
      have HR : Hid (((nxW k (sdK k a b J).1 (sdK k a b J).2 : Nat) : Int) % (n : Int) = ((wdK k a b J % n : Nat) : Int)) := Lib.hid (by rw [HWD.out]; simp)
      clear hyes
      have HYES := Lib.hid hyes'
      clear hyes'
      go_wp2_with fail
      refine (l02Next_any _ _ _ _ _ HK.out hs.out.1 hs.out.2 H.out.2).mono ?_
      rintro e w2 ⟨rfl, q0, hg2⟩
      have H2 := Lib.hid (And.intro (grown_trans H.out.1 hg2) q0)
      clear q0 hg2 H
      have hyes' := HYES.out
      clear HYES HWD
      generalize nxW k (sdK k a b J).1 (sdK k a b J).2 = x at *
      go_wp2
      go_ret2
      exact ⟨by rw [← HR.out]; rfl, H2.out.2, H2.out.1⟩
set_option maxRecDepth 100000 in
set_option maxHeartbeats 1000000 in
theorem l02Tried_no (g : Nat) (k : Int) (a b n : Nat) (w : World) (hk : 0 ≤ k ∧ k ≤ 3) (ha : a < 18446744073709551616) (hb : b < 18446744073709551616) (hn : 1 ≤ n ∧ n ≤ 4294967296) (hJ : noneB k a b n) (hw : Whole w g 42 (sdC k a b)) :
    Calls Try.prog 76 #[.pointer (some ⟨g, 0, none⟩), .int .i64 n] w (TriedN g w) := by
  have HK := Lib.hid hk
  have HW := Lib.hid hw
  have HJ := Lib.hid hJ
  have hm0 := mulN_is n
  have hql : 4294967296 / n ≤ 4294967296 := Nat.div_le_self _ _
  have hq0 : (4294967296 : Int) / (n : Int) = ((4294967296 / n : Nat) : Int) := rfl
  generalize 4294967296 / n = q at hm0 hql hq0
  have hm : (q : Int) * n = (mulN n : Nat) := by rw [← hm0]; simp
  have hdiv : (q : Int) ≤ 4294967296 := by omega
  clear hm0
  have hml : (mulN n : Int) ≤ 4294967296 := by unfold mulN; omega
  have hn1 : (1 : Int) ≤ n := by omega
  have hne : ((n : Int) == 0) = false := by rw [beq_eq_false_iff_ne]; omega
  have hne' : (n : Int) ≠ 0 := by omega
  obtain ⟨M, eM⟩ : ∃ M, M = mulN n := ⟨_, rfl⟩
  rw [← eM] at hm hml
  have HM := Lib.hid eM
  clear hw hk hJ eM
  obtain ⟨L, eL⟩ : ∃ L : Nat, L = 64 := ⟨_, rfl⟩
  have HLL := Lib.hid eL
  clear eL
  go_enter Try.func76, Try.ntmps76
  go_wp2
  rw [hq0]
  go_loopw [7] (fun i wr => ∃ j : Nat, j ≤ 64 ∧ i = .int .i64 j ∧ w.grownBy wr (some g) ∧ Whole wr g 42 (sdC k (sdK k a b j).1 (sdK k a b j).2)) (fun i _ => L - (intOf i).toNat)
  case atStart => exact ⟨0, Nat.zero_le _, rfl, grown_refl _ _, HW.out⟩
  case round =>
    obtain ⟨j, hj, rfl, hgr, hwh⟩ := hrel
    have H := Lib.hid (And.intro hgr hwh)
    have hs := Lib.hid (sdK_lt k a b j HK.out ha hb)
    have hwl : (nxW k (sdK k a b j).1 (sdK k a b j).2 : Int) ≤ 4294967295 := by have := wdK_lt k a b j HK.out; unfold wdK at this; omega
    have HWD : Hid (wdK k a b j = nxW k (sdK k a b j).1 (sdK k a b j).2) := Lib.hid rfl
    clear hgr hwh hm hdiv hq0
    by_cases hlt : j < 64
    · have hj64 : (j : Int) < 64 := by omega
      have hno := HJ.out j hlt
      rw [HWD.out, ← HM.out] at hno
      have hno' : ¬ ((nxW k (sdK k a b j).1 (sdK k a b j).2 : Nat) : Int) < (M : Nat) := by omega
      have HNO := Lib.hid hno'
      clear hno hno'
      go_wp2_with fail
      refine (l02Next_any _ _ _ _ _ HK.out hs.out.1 hs.out.2 H.out.2).mono ?_
      rintro e w2 ⟨rfl, q0, hg2⟩
      have H2 := Lib.hid (And.intro (grown_trans H.out.1 hg2) q0)
      clear q0 hg2 H
      have hno' := HNO.out
      clear HNO HWD
      generalize nxW k (sdK k a b j).1 (sdK k a b j).2 = x at *
      have hd' : (M : Int) ≤ (x : Int) := by omega
      clear hno'
      go_wp2
      go_roundw
      case rel => exact ⟨j + 1, by omega, by go_num, H2.out⟩
      case measure => have := HLL.out; simp [intOf]; omega
    · have hj64 : ¬ (j : Int) < 64 := by omega
      go_wp2
      go_ret2
      exact ⟨rfl, H.out.1⟩
set_option maxHeartbeats 1000000 in
theorem implBelow_yes (k : Int) (a b n : Nat) (w : World) (hv : vSeed k a b = true) (ha : a < 18446744073709551616) (hb : b < 18446744073709551616) (hn : 1 ≤ n ∧ n ≤ 4294967296) (J : Nat) (hJ : firstB k a b n J) :
    Calls Try.prog 73 #[sd k a b, .int .i64 n] w (RetB (.tuple #[sd k (sdK k a b (J + 1)).1 (sdK k a b (J + 1)).2, .int .i64 ((wdK k a b J % n : Nat) : Int), .bool true]) w) := by
  have HK := Lib.hid (vSeed_kind hv)
  have HV := Lib.hid hv
  have HJ := Lib.hid hJ
  have hm : (4294967296 : Int) - 4294967296 % (n : Int) = (mulN n : Nat) := mulN_sub n
  have hmod : (0 : Int) ≤ 4294967296 % (n : Int) ∧ 4294967296 % (n : Int) ≤ 4294967296 := ⟨Int.emod_nonneg _ (by omega), by have := Int.emod_lt_of_pos 4294967296 (show (0 : Int) < n by omega); omega⟩
  obtain ⟨M, eM⟩ : ∃ M, M = mulN n := ⟨_, rfl⟩
  have hml : (M : Int) ≤ 4294967296 := by rw [eM]; unfold mulN; omega
  rw [← eM] at hm
  have HM := Lib.hid eM
  have hn1 : (1 : Int) ≤ n := by omega
  have hn2 : (n : Int) ≤ 4294967296 := by omega
  have hne' : (n : Int) ≠ 0 := by omega
  obtain ⟨L, eL⟩ : ∃ L : Nat, L = 64 := ⟨_, rfl⟩
  have HLL := Lib.hid eL
  clear hJ eM eL hv
  go_enter Try.func73, Try.ntmps73
  go_wp2_with fail
  refine (ValidSeed_any _ _ _ _).mono ?_
  rintro e w1 ⟨rfl, rfl⟩
  rw [HV.out]
  go_wp2_with fail
  have p0 := (((Whole.made w 42 (sdC k a b)).alloc (.cells (sdC 0 0 0) 42)).alloc (.cells (sdC k a b) 42))
  have p1 := (Whole.made2 w (.cells (sdC k a b) 42) 42 (sdC 0 0 0)).alloc (.cells (sdC k a b) 42)
  have HP := Lib.hid (And.intro p0 p1)
  clear p0 p1
  go_loopw [24] (fun i wr => ∃ j : Nat, j ≤ J ∧ i = .int .i64 j ∧ Below w.heap.size w wr ∧ Whole wr w.heap.size 42 (sdC k (sdK k a b j).1 (sdK k a b j).2) ∧ Whole wr (w.heap.size + 1) 42 (sdC 0 0 0)) (fun i _ => L - (intOf i).toNat)
  case atStart => exact ⟨0, Nat.zero_le _, rfl, by repeat (first | with_reducible exact Below.refl _ _ | with_reducible exact HBL | with_reducible refine Below.drew ?_ | with_reducible refine Bel_drewN ?_ _ | with_reducible refine Below.alloc ?_ (by first | omega | (simp; done) | (simp; omega)) _ | with_reducible refine Below.setCell ?_ (by first | omega | (simp; done) | (simp; omega)) _), HP.out.1, HP.out.2⟩
  case round =>
    obtain ⟨j, hj, rfl, hbel, q0, q1⟩ := hrel
    clear HP hm hmod
    have hs := Lib.hid (sdK_lt k a b j HK.out ha hb)
    have H := Lib.hid (And.intro hbel (And.intro q0 q1))
    have hz1 : w.heap.size + 1 < wr.heap.size := q1.lt
    have hz0 : w.heap.size < wr.heap.size := q0.lt
    have hwl : (nxW k (sdK k a b j).1 (sdK k a b j).2 : Int) ≤ 4294967295 := by have := wdK_lt k a b j HK.out; unfold wdK at this; omega
    have HWD : Hid (wdK k a b j = nxW k (sdK k a b j).1 (sdK k a b j).2) := Lib.hid rfl
    by_cases hlt : j < J
    · have hj64 : (j : Int) < 64 := by have := HJ.out.1; omega
      have hno := HJ.out.2.1 j hlt
      rw [HWD.out, ← HM.out] at hno
      have HNO : Hid ((M : Int) ≤ ((nxW k (sdK k a b j).1 (sdK k a b j).2 : Nat) : Int)) := Lib.hid (by omega)
      clear hno
      obtain ⟨hc0, hf0⟩ := q0.facts
      obtain ⟨hc1, hf1⟩ := q1.facts
      clear hbel q0 q1
      generalize hA : (sdK k a b j).1 = A at *
      generalize hB : (sdK k a b j).2 = B at *
      have HAB := Lib.hid (And.intro hA hB)
      clear hA hB
      go_wp2_with fail
      refine (stepSeed_any _ _ _ _ HK.out hs.out.1 hs.out.2).mono ?_
      rintro e w2 ⟨rfl, rfl⟩
      have hno := HNO.out
      clear HWD
      generalize hx : nxW k A B = x at *
      have HX := Lib.hid hx
      clear hx
      go_wp2_with fail
      go_roundw
      case rel =>
        obtain ⟨HBL, q0, q1⟩ := H.out
        obtain ⟨rfl, rfl⟩ := HAB.out
        refine ⟨j + 1, by omega, by go_num, by repeat (first | with_reducible exact Below.refl _ _ | with_reducible exact HBL | with_reducible refine Below.drew ?_ | with_reducible refine Bel_drewN ?_ _ | with_reducible refine Below.alloc ?_ (by first | omega | (simp; done) | (simp; omega)) _ | with_reducible refine Below.setCell ?_ (by first | omega | (simp; done) | (simp; omega)) _), ?_, ?_⟩
        · exact (((((q0.put 0 _).put 1 _).put 2 _).alloc _).alloc _)
        · exact (((((q1.far (by simp) _).far (by simp) _).far (by simp) _).alloc _).alloc _)
      case measure => have := HLL.out; simp [intOf]; omega
    · have e' : J = j := by omega
      subst e'
      have hj64 : (J : Int) < 64 := by have := HJ.out.1; omega
      have hyes := HJ.out.2.2
      rw [HWD.out, ← HM.out] at hyes
      have HYES : Hid (((nxW k (sdK k a b J).1 (sdK k a b J).2 : Nat) : Int) < (M : Nat)) := Lib.hid (by omega)
      have HR : Hid (((nxW k (sdK k a b J).1 (sdK k a b J).2 : Nat) : Int) % (n : Int) = ((wdK k a b J % n : Nat) : Int)) := Lib.hid (by rw [HWD.out]; simp)
      clear hyes
      obtain ⟨hc0, hf0⟩ := q0.facts
      obtain ⟨hc1, hf1⟩ := q1.facts
      clear hbel q0 q1
      generalize hA : (sdK k a b J).1 = A at *
      generalize hB : (sdK k a b J).2 = B at *
      have HAB := Lib.hid (And.intro hA hB)
      clear hA hB
      go_wp2_with fail
      refine (stepSeed_any _ _ _ _ HK.out hs.out.1 hs.out.2).mono ?_
      rintro e w2 ⟨rfl, rfl⟩
      have hyes := HYES.out
      clear HWD
      generalize hx : nxW k A B = x at *
      have HX := Lib.hid hx
      clear hx
      go_wp2_with fail
      generalize hW : World.alloc (World.alloc _ _) _ = w3
      obtain ⟨HBL0, q0, q1⟩ := H.out
      have HBL1 : Below w.heap.size w w3 := by
        rw [← hW]
        have HBL := HBL0
        exact (by repeat (first | with_reducible exact Below.refl _ _ | with_reducible exact HBL | with_reducible refine Below.drew ?_ | with_reducible refine Bel_drewN ?_ _ | with_reducible refine Below.alloc ?_ (by first | omega | (simp; done) | (simp; omega)) _ | with_reducible refine Below.setCell ?_ (by first | omega | (simp; done) | (simp; omega)) _))
      have r0 : Whole w3 w.heap.size 42 (sdC k (nxA k A B) (nxB k A B)) := by rw [← hW]; exact (((((q0.put 0 _).put 1 _).put 2 _).alloc _).alloc _)
      have r1 : Whole w3 (w.heap.size + 1) 42 (sdC 0 0 0) := by rw [← hW]; exact (((((q1.far (by simp) _).far (by simp) _).far (by simp) _).alloc _).alloc _)
      have hy1 : w.heap.size + 1 < w3.heap.size := r1.lt
      clear hW HBL0 q0 q1 hc0 hf0 hc1 hf1 H
      obtain ⟨hc0, hf0⟩ := r0.facts
      obtain ⟨hc1, hf1⟩ := r1.facts
      have H3 := Lib.hid (And.intro HBL1 (And.intro r0 r1))
      clear HBL1 r0 r1
      go_region
      all_goals
        go_wp2
        obtain ⟨HBL, r0, r1⟩ := H3.out
        obtain ⟨rfl, rfl⟩ := HAB.out
        exact bodyPost_ret (v := .tuple #[sd k (sdK k a b (J + 1)).1 (sdK k a b (J + 1)).2, .int .i64 ((wdK k a b J % n : Nat) : Int), .bool true]) (by simp [results, Try.results73, go_sem, hc1]; exact ⟨⟨rfl, rfl⟩, by rw [HR.out]; simp⟩) rfl ⟨rfl, by repeat (first | with_reducible exact Below.refl _ _ | with_reducible exact HBL | with_reducible refine Below.drew ?_ | with_reducible refine Bel_drewN ?_ _ | with_reducible refine Below.alloc ?_ (by first | omega | (simp; done) | (simp; omega)) _ | with_reducible refine Below.setCell ?_ (by first | omega | (simp; done) | (simp; omega)) _)⟩
set_option maxHeartbeats 1000000 in
theorem implBelow_none (k : Int) (a b n : Nat) (w : World) (hv : vSeed k a b = true) (ha : a < 18446744073709551616) (hb : b < 18446744073709551616) (hn : 1 ≤ n ∧ n ≤ 4294967296) (hJ : noneB k a b n) :
    Calls Try.prog 73 #[sd k a b, .int .i64 n] w (RetB (.tuple #[sd 0 0 0, .int .i64 0, .bool false]) w) := by
  have HK := Lib.hid (vSeed_kind hv)
  have HV := Lib.hid hv
  have HJ := Lib.hid hJ
  have hm : (4294967296 : Int) - 4294967296 % (n : Int) = (mulN n : Nat) := mulN_sub n
  have hmod : (0 : Int) ≤ 4294967296 % (n : Int) ∧ 4294967296 % (n : Int) ≤ 4294967296 := ⟨Int.emod_nonneg _ (by omega), by have := Int.emod_lt_of_pos 4294967296 (show (0 : Int) < n by omega); omega⟩
  obtain ⟨M, eM⟩ : ∃ M, M = mulN n := ⟨_, rfl⟩
  have hml : (M : Int) ≤ 4294967296 := by rw [eM]; unfold mulN; omega
  rw [← eM] at hm
  have HM := Lib.hid eM
  have hn1 : (1 : Int) ≤ n := by omega
  have hn2 : (n : Int) ≤ 4294967296 := by omega
  have hne' : (n : Int) ≠ 0 := by omega
  obtain ⟨L, eL⟩ : ∃ L : Nat, L = 64 := ⟨_, rfl⟩
  have HLL := Lib.hid eL
  clear hJ eM eL hv
  go_enter Try.func73, Try.ntmps73
  go_wp2_with fail
  refine (ValidSeed_any _ _ _ _).mono ?_
  rintro e w1 ⟨rfl, rfl⟩
  rw [HV.out]
  go_wp2_with fail
  have p0 := (((Whole.made w 42 (sdC k a b)).alloc (.cells (sdC 0 0 0) 42)).alloc (.cells (sdC k a b) 42))
  have p1 := (Whole.made2 w (.cells (sdC k a b) 42) 42 (sdC 0 0 0)).alloc (.cells (sdC k a b) 42)
  have HP := Lib.hid (And.intro p0 p1)
  clear p0 p1
  go_loopw [24] (fun i wr => ∃ j : Nat, j ≤ 64 ∧ i = .int .i64 j ∧ Below w.heap.size w wr ∧ Whole wr w.heap.size 42 (sdC k (sdK k a b j).1 (sdK k a b j).2) ∧ Whole wr (w.heap.size + 1) 42 (sdC 0 0 0)) (fun i _ => L - (intOf i).toNat)
  case atStart => exact ⟨0, Nat.zero_le _, rfl, by repeat (first | with_reducible exact Below.refl _ _ | with_reducible exact HBL | with_reducible refine Below.drew ?_ | with_reducible refine Bel_drewN ?_ _ | with_reducible refine Below.alloc ?_ (by first | omega | (simp; done) | (simp; omega)) _ | with_reducible refine Below.setCell ?_ (by first | omega | (simp; done) | (simp; omega)) _), HP.out.1, HP.out.2⟩
  case round =>
    obtain ⟨j, hj, rfl, hbel, q0, q1⟩ := hrel
    clear HP hm hmod
    have hs := Lib.hid (sdK_lt k a b j HK.out ha hb)
    have H := Lib.hid (And.intro hbel (And.intro q0 q1))
    have hz1 : w.heap.size + 1 < wr.heap.size := q1.lt
    have hz0 : w.heap.size < wr.heap.size := q0.lt
    have hwl : (nxW k (sdK k a b j).1 (sdK k a b j).2 : Int) ≤ 4294967295 := by have := wdK_lt k a b j HK.out; unfold wdK at this; omega
    have HWD : Hid (wdK k a b j = nxW k (sdK k a b j).1 (sdK k a b j).2) := Lib.hid rfl
    by_cases hlt : j < 64
    · have hj64 : (j : Int) < 64 := by omega
      have hno := HJ.out j hlt
      rw [HWD.out, ← HM.out] at hno
      have HNO : Hid ((M : Int) ≤ ((nxW k (sdK k a b j).1 (sdK k a b j).2 : Nat) : Int)) := Lib.hid (by omega)
      clear hno
      obtain ⟨hc0, hf0⟩ := q0.facts
      obtain ⟨hc1, hf1⟩ := q1.facts
      clear hbel q0 q1
      generalize hA : (sdK k a b j).1 = A at *
      generalize hB : (sdK k a b j).2 = B at *
      have HAB := Lib.hid (And.intro hA hB)
      clear hA hB
      go_wp2_with fail
      refine (stepSeed_any _ _ _ _ HK.out hs.out.1 hs.out.2).mono ?_
      rintro e w2 ⟨rfl, rfl⟩
      have hno := HNO.out
      clear HWD
      generalize hx : nxW k A B = x at *
      have HX := Lib.hid hx
      clear hx
      go_wp2_with fail
      go_roundw
      case rel =>
        obtain ⟨HBL, q0, q1⟩ := H.out
        obtain ⟨rfl, rfl⟩ := HAB.out
        refine ⟨j + 1, by omega, by go_num, by repeat (first | with_reducible exact Below.refl _ _ | with_reducible exact HBL | with_reducible refine Below.drew ?_ | with_reducible refine Bel_drewN ?_ _ | with_reducible refine Below.alloc ?_ (by first | omega | (simp; done) | (simp; omega)) _ | with_reducible refine Below.setCell ?_ (by first | omega | (simp; done) | (simp; omega)) _), ?_, ?_⟩
        · exact (((((q0.put 0 _).put 1 _).put 2 _).alloc _).alloc _)
        · exact (((((q1.far (by simp) _).far (by simp) _).far (by simp) _).alloc _).alloc _)
      case measure => have := HLL.out; simp [intOf]; omega
    · have hj64 : ¬ (j : Int) < 64 := by omega
      obtain ⟨hc1, hf1⟩ := q1.facts
      clear hbel q0 q1 hlt
      go_wp2_with fail
      obtain ⟨HBL, q0, q1⟩ := H.out
      exact bodyPost_ret (v := .tuple #[sd 0 0 0, .int .i64 0, .bool false]) (by simp [results, Try.results73, go_sem, hc1]) rfl ⟨rfl, by repeat (first | with_reducible exact Below.refl _ _ | with_reducible exact HBL | with_reducible refine Below.drew ?_ | with_reducible refine Bel_drewN ?_ _ | with_reducible refine Below.alloc ?_ (by first | omega | (simp; done) | (simp; omega)) _ | with_reducible refine Below.setCell ?_ (by first | omega | (simp; done) | (simp; omega)) _)⟩
theorem implBelow_no (k : Int) (a b : Nat) (n : Int) (w : World) (hv : ¬(vSeed k a b = true ∧ 1 ≤ n ∧ n ≤ 4294967296)) :
    Calls Try.prog 73 #[sd k a b, .int .i64 n] w (RetB (.tuple #[sd 0 0 0, .int .i64 0, .bool false]) w) := by
  have p0 := Lib.hid ((Whole.made w 42 (sdC k a b)).alloc (.cells (sdC 0 0 0) 42))
  have HV := Lib.hid hv
  clear hv
  cases hw : vSeed k a b with
  | false =>
    go_enter Try.func73, Try.ntmps73
    go_wp2_with fail
    refine (ValidSeed_any _ _ _ _).mono ?_
    rintro e w1 ⟨rfl, rfl⟩
    go_wp2_with fail
    exact bodyPost_ret (v := .tuple #[sd 0 0 0, .int .i64 0, .bool false]) (by simp [results, Try.results73, go_sem]) rfl ⟨rfl, by repeat (first | with_reducible exact Below.refl _ _ | with_reducible exact HBL | with_reducible refine Below.drew ?_ | with_reducible refine Bel_drewN ?_ _ | with_reducible refine Below.alloc ?_ (by first | omega | (simp; done) | (simp; omega)) _ | with_reducible refine Below.setCell ?_ (by first | omega | (simp; done) | (simp; omega)) _)⟩
  | true =>
    by_cases h1 : n < 1
    · clear HV
      go_enter Try.func73, Try.ntmps73
      go_wp2_with fail
      refine (ValidSeed_any _ _ _ _).mono ?_
      rintro e w1 ⟨rfl, rfl⟩
      go_wp2_with fail
      exact bodyPost_ret (v := .tuple #[sd 0 0 0, .int .i64 0, .bool false]) (by simp [results, Try.results73, go_sem]) rfl ⟨rfl, by repeat (first | with_reducible exact Below.refl _ _ | with_reducible exact HBL | with_reducible refine Below.drew ?_ | with_reducible refine Bel_drewN ?_ _ | with_reducible refine Below.alloc ?_ (by first | omega | (simp; done) | (simp; omega)) _ | with_reducible refine Below.setCell ?_ (by first | omega | (simp; done) | (simp; omega)) _)⟩
    · have h2 : 4294967296 < n := by have h := HV.out; simp [hw] at h; omega
      have h1' : 1 ≤ n := by omega
      clear h1 HV
      go_enter Try.func73, Try.ntmps73
      go_wp2_with fail
      refine (ValidSeed_any _ _ _ _).mono ?_
      rintro e w1 ⟨rfl, rfl⟩
      go_wp2_with fail
      exact bodyPost_ret (v := .tuple #[sd 0 0 0, .int .i64 0, .bool false]) (by simp [results, Try.results73, go_sem]) rfl ⟨rfl, by repeat (first | with_reducible exact Below.refl _ _ | with_reducible exact HBL | with_reducible refine Below.drew ?_ | with_reducible refine Bel_drewN ?_ _ | with_reducible refine Below.alloc ?_ (by first | omega | (simp; done) | (simp; omega)) _ | with_reducible refine Below.setCell ?_ (by first | omega | (simp; done) | (simp; omega)) _)⟩
end Go.Proofs.Ytncebfnfmjimmaa
