/- Words of a seed. -/
import Derived.Test.YtdnelmmbiccjcaaSd
import Derived.Test.YtdnelmmbiccjcaaTl
namespace Go.Proofs.Ytdnelmmbiccjcaa
open Go Go.RowKit
set_option linter.unusedVariables false

/-- The numbers of the seed behind i words. -/
def sdK (k : Int) (a b : Nat) : Nat → Nat × Nat
  | 0 => (a, b)
  | i + 1 => (nxA k (sdK k a b i).1 (sdK k a b i).2, nxB k (sdK k a b i).1 (sdK k a b i).2)
/-- The word number i. -/
def wdK (k : Int) (a b i : Nat) : Nat := nxW k (sdK k a b i).1 (sdK k a b i).2
def wordsL (k : Int) (a b n : Nat) : List Int := (List.range n).map fun i => (wdK k a b i : Int)
theorem wordsL_len (k : Int) (a b n : Nat) : (wordsL k a b n).length = n := by simp [wordsL]
theorem wordsL_next (k : Int) (a b n : Nat) : wordsL k a b (n + 1) = wordsL k a b n ++ [(wdK k a b n : Int)] := by simp [wordsL, List.range_succ]
theorem sdK_lt (k : Int) (a b i : Nat) (hk : 0 ≤ k ∧ k ≤ 3) (ha : a < 18446744073709551616) (hb : b < 18446744073709551616) : (sdK k a b i).1 < 18446744073709551616 ∧ (sdK k a b i).2 < 18446744073709551616 := by
  induction i with
  | zero => exact ⟨ha, hb⟩
  | succ i ih => exact ⟨nxA_lt _ _ _ hk ih.1 ih.2, nxB_lt _ _ _ hk ih.1 ih.2⟩
theorem wdK_lt (k : Int) (a b i : Nat) (hk : 0 ≤ k ∧ k ≤ 3) : wdK k a b i < 4294967296 := nxW_lt _ _ _ hk

set_option maxHeartbeats 1000000 in
/-- Of the seed the words, and the seed then. -/
theorem wordsFrom_any (k : Int) (a b n : Nat) (w : World) (hk : 0 ≤ k ∧ k ≤ 3) (ha : a < 18446744073709551616) (hb : b < 18446744073709551616) (hn : n ≤ 256) :
    Calls Try.prog 64 #[sd k a b, .int .i64 n] w (RetL n (il (wordsL k a b n)) (fun s => .tuple #[sd k (sdK k a b n).1 (sdK k a b n).2, s]) w) := by
  have hmk : ∀ w : World, (Instr.makeSlice 33 (.int .i64 (n : Int)) (.int .i64 (n : Int))).run Try.prog w = .ok (.slice (some ⟨w.heap.size, 0, none⟩) n n) (w.alloc (.cells (Array.replicate n (.int .i64 0)) 2)) := fun w => run_mk16 w 33 2 n (by omega) Try.underlying33 (by kernel_rfl)
  have HK := Lib.hid hk
  go_enter Try.func64, Try.ntmps64
  go_wp2
  have p0 := (((Whole.made w 28 (sdC k a b)).alloc (.cells (sdC 0 0 0) 28)).alloc (.cells (Array.replicate n (.int .i64 0)) 2))
  have p1 := (Whole.made2 w (.cells (sdC k a b) 28) 28 (sdC 0 0 0)).alloc (.cells (Array.replicate n (.int .i64 0)) 2)
  have p2 := tally_new ((w.alloc (.cells (sdC k a b) 28)).alloc (.cells (sdC 0 0 0) 28)) n 2
  have HP := Lib.hid (And.intro p0 (And.intro p1 p2))
  clear p0 p1 p2 hmk
  go_loopw [12] (fun i wr => ∃ (j : Nat) (cs : List Int), j ≤ n ∧ i = .int .i64 j ∧ cs.length = n ∧ (∀ x, x < j → cs[x]?.getD 0 = (wdK k a b x : Int)) ∧ Below w.heap.size w wr ∧ Whole wr w.heap.size 28 (sdC k (sdK k a b j).1 (sdK k a b j).2) ∧ Whole wr (w.heap.size + 1) 28 (sdC 0 0 0) ∧ Whole wr (w.heap.size + 1 + 1) 2 (il cs).toArray) (fun i _ => n - (intOf i).toNat)
  case atStart => exact ⟨0, List.replicate n 0, Nat.zero_le _, rfl, by simp, fun x hx => absurd hx (Nat.not_lt_zero _), by repeat (first | exact Below.refl _ _ | refine Below.alloc ?_ (by first | omega | (simp; done) | (simp; omega)) _), HP.out.1, HP.out.2.1, by have := HP.out.2.2; rwa [show ((w.alloc (.cells (sdC k a b) 28)).alloc (.cells (sdC 0 0 0) 28)).heap.size = w.heap.size + 1 + 1 by simp] at this⟩
  case round =>
    obtain ⟨j, cs, hj, rfl, hcl, hcs, hbel, q0, q1, q2⟩ := hrel
    clear HP
    have hs := sdK_lt k a b j HK.out ha hb
    have hl := wdK_lt k a b j HK.out
    have H := Lib.hid (And.intro hcl (And.intro hcs (And.intro hbel (And.intro q0 (And.intro q1 q2)))))
    have hz2 : w.heap.size + 1 + 1 < wr.heap.size := q2.lt
    have hz1 : w.heap.size + 1 < wr.heap.size := q1.lt
    have hz0 : w.heap.size < wr.heap.size := q0.lt
    by_cases hlt : j < n
    · obtain ⟨hc0, hf0⟩ := q0.facts
      have hc2 := tally_cell q2 j (by omega)
      have hf2 := q2.frozen j
      obtain ⟨v, hv⟩ : ∃ v, v = cs[j]?.getD 0 := ⟨_, rfl⟩
      rw [← hv] at hc2
      have HST := Lib.hid hs
      generalize hA : (sdK k a b j).1 = A at *
      generalize hB : (sdK k a b j).2 = B at *
      have HAB := Lib.hid (And.intro hA hB)
      clear hcl hcs hbel q0 q1 q2 hv hs hA hB
      go_wp2_with fail
      refine (stepSeed_any _ _ _ _ HK.out HST.out.1 HST.out.2).mono ?_
      rintro e w2 ⟨rfl, rfl⟩
      go_wp2_with fail
      go_roundw
      case rel =>
        obtain ⟨hcl, hcs, HBL, q0, q1, q2⟩ := H.out
        obtain ⟨rfl, rfl⟩ := HAB.out
        refine ⟨j + 1, cs.set j (wdK k a b j : Int), by omega, by go_num, by simpa using hcl, fun x hx => ?_, by repeat (first | with_reducible exact Below.refl _ _ | with_reducible exact HBL | with_reducible refine Below.drew ?_ | with_reducible refine Bel_drewN ?_ _ | with_reducible refine Below.alloc ?_ (by first | omega | (simp; done) | (simp; omega)) _ | with_reducible refine Below.setCell ?_ (by first | omega | (simp; done) | (simp; omega)) _), ?_, ?_, ?_⟩
        · rw [List.getElem?_set]
          by_cases e : j = x
          · subst e; rw [if_pos rfl, if_pos (by omega)]; rfl
          · rw [if_neg e]; exact hcs x (by omega)
        · exact (((((q0.put 0 _).put 1 _).put 2 _).far (by first | omega | (simp; done) | (simp; omega)) _).alloc _).alloc _
        · exact (((((q1.far (by first | omega | (simp; done) | (simp; omega)) _).far (by first | omega | (simp; done) | (simp; omega)) _).far (by first | omega | (simp; done) | (simp; omega)) _).far (by first | omega | (simp; done) | (simp; omega)) _).alloc _).alloc _
        · exact ((tally_put (((q2.far (by first | omega | (simp; done) | (simp; omega)) _).far (by first | omega | (simp; done) | (simp; omega)) _).far (by first | omega | (simp; done) | (simp; omega)) _) j (wdK k a b j : Int)).alloc _).alloc _
      case measure => simp [intOf]; omega
    · have E : Hid (j = n) := Lib.hid (by omega)
      obtain ⟨hc0, hf0⟩ := q0.facts
      obtain ⟨hc1, hf1⟩ := q1.facts
      clear hcl hcs hbel q0 q1 q2
      go_wp2
      obtain ⟨hcl, hcs, HBL, q0, q1, q2⟩ := H.out
      have ew : cs = wordsL k a b n := by
        apply List.ext_getElem?
        intro x
        by_cases hx : x < n
        · have := hcs x (by have := E.out; omega)
          rw [List.getElem?_eq_getElem (by omega)] at this ⊢
          simp [wordsL, hx] at this ⊢
          exact this
        · rw [List.getElem?_eq_none (by omega), List.getElem?_eq_none (by rw [wordsL_len]; omega)]
      subst ew
      have e' := E.out
      subst e'
      refine bodyPost_ret (v := .tuple #[sd k (sdK k a b j).1 (sdK k a b j).2, .slice (some ⟨w.heap.size + 1 + 1, 0, none⟩) j j]) (by simp [results, Try.results64, go_sem, hc1]) rfl ⟨_, _, rfl, ?_, by repeat (first | with_reducible exact Below.refl _ _ | with_reducible exact HBL | with_reducible refine Below.drew ?_ | with_reducible refine Bel_drewN ?_ _ | with_reducible refine Below.alloc ?_ (by first | omega | (simp; done) | (simp; omega)) _ | with_reducible refine Below.setCell ?_ (by first | omega | (simp; done) | (simp; omega)) _)⟩
      refine tally_row (g := w.heap.size + 1 + 1) (t := 2) ?_ (by omega) (by first | omega | (simp; done) | (simp; omega))
      exact ((q2.far (by first | omega | (simp; done) | (simp; omega)) _).far (by first | omega | (simp; done) | (simp; omega)) _).far (by first | omega | (simp; done) | (simp; omega)) _
/-- Of the seed behind a pointer the words; it has been turned to the seed then. -/
def WordsP (g : Nat) (k : Int) (a b n : Nat) (w : World) (e : Ending) (w' : World) : Prop :=
  ∃ ao c, e = .returned (.slice ao n c) ∧ Row w' w.heap.size w'.heap.size ao (il (wordsL k a b n)) ∧ Whole w' g 28 (sdC k (sdK k a b n).1 (sdK k a b n).2) ∧ w.grownBy w' (some g)
set_option maxHeartbeats 1000000 in
theorem l02Words_any (g : Nat) (k : Int) (a b n : Nat) (w : World) (hk : 0 ≤ k ∧ k ≤ 3) (ha : a < 18446744073709551616) (hb : b < 18446744073709551616) (hn : n ≤ 256) (hw : Whole w g 28 (sdC k a b)) :
    Calls Try.prog 62 #[.pointer (some ⟨g, 0, none⟩), .int .i64 n] w (WordsP g k a b n w) := by
  have HK := Lib.hid hk
  have HW := Lib.hid hw
  have hg := hw.lt
  clear hw
  go_enter Try.func62, Try.ntmps62
  go_wp2
  go_loopw [5, 6] (fun v i wr => ∃ j : Nat, j ≤ n ∧ i = .int .i64 j ∧ wr.ownsRow w.heap.size 2 1 v j (il (wordsL k a b j)) ∧ w.grownBy wr (some g) ∧ Whole wr g 28 (sdC k (sdK k a b j).1 (sdK k a b j).2)) (fun _ i _ => n - (intOf i).toNat)
  case atStart => exact ⟨0, Nat.zero_le _, rfl, World.ownsRow_made _ _ _ (Nat.le_refl _) (Nat.zero_le _) rfl, World.grownBy_alloc _ _ _, HW.out.alloc _⟩
  case round =>
    obtain ⟨j, hj, rfl, hown, hgr, hwh⟩ := hrel
    have H := Lib.hid (And.intro hown (And.intro hgr hwh))
    have hs := Lib.hid (sdK_lt k a b j HK.out ha hb)
    have hl : (nxW k (sdK k a b j).1 (sdK k a b j).2 : Int) < 4294967296 := by have := wdK_lt k a b j HK.out; unfold wdK at this; omega
    by_cases hlt : j < n
    · clear hown hgr hwh
      go_wp2_with fail
      refine (l02Next_any _ _ _ _ _ HK.out hs.out.1 hs.out.2 H.out.2.2).mono ?_
      rintro e w2 ⟨rfl, q0, hg2⟩
      have hown2 := H.out.1.kept hg2 (own_ne H.out.1 hg)
      have hgr2 := grown_trans H.out.2.1 hg2
      have H2 := Lib.hid (And.intro hown2 (And.intro hgr2 q0))
      change Hid (_ ∧ _) at H2
      clear hown2 hgr2 q0 hg2 H
      have hz2 : w.heap.size ≤ w2.heap.size := H2.out.2.1.size
      go_wp2_with (at_builtin; refine wpList_app1 rfl _ _ 33 rfl w.heap.size 2 (.int .i64 0) 8 Try.underlying33 (by kernel_rfl) rfl _ j _ rfl (H2.out.1.alloc _) _ _ (.int .i64 (nxW k (sdK k a b j).1 (sdK k a b j).2 : Int)) rfl ?_ rfl ⟨by omega, by omega⟩ ?_ ?_)
      · simp
      · simp; omega
      · intro v' w' hown' hgr'
        have hw3 : Whole w' g 28 (sdC k (sdK k a b (j + 1)).1 (sdK k a b (j + 1)).2) := (H2.out.2.2.alloc _).grown hgr' (own_ne' H2.out.1 hg)
        have hg3 : w.grownBy w' (some g) := grown_more (grown_more H2.out.2.1 (World.grownBy_alloc _ _ none) (fun i hi => by cases hi)) hgr' (own_ge H2.out.1)
        have ho3 : w'.ownsRow w.heap.size 2 1 v' (j + 1) (il (wordsL k a b (j + 1))) := by rw [wordsL_next, il, List.map_append]; exact hown'
        have H3 := Lib.hid (And.intro ho3 (And.intro hg3 hw3))
        clear hown' hgr' hw3 hg3 ho3 H2
        go_wp2
        go_roundw
        case rel => exact ⟨j + 1, by omega, by go_num, H3.out⟩
        case measure => simp [intOf]; omega
    · have E : Hid (j = n) := Lib.hid (by omega)
      clear hown hgr hwh
      go_wp2
      go_ret
      obtain ⟨hown, hgr, hwh⟩ := H.out
      have e' := E.out
      subst e'
      obtain ⟨ao, c, rfl⟩ := own_form hown
      exact ⟨_, _, rfl, Row.of_own hown, hwh, hgr⟩
end Go.Proofs.Ytdnelmmbiccjcaa
