/- Numbers that come again: what the code and its model return. -/
import Derived.Test.YtnofikeeobahjabCd
namespace Go.Proofs.Ytnofikeeobahjab
open Go Go.RowKit
set_option linter.unusedVariables false

theorem take_put (cs : List Int) (j : Nat) (x : Int) (h : j < cs.length) : (cs.set j x).take (j + 1) = cs.take j ++ [x] := by
  rw [List.take_succ_eq_append_getElem (by simpa using h), List.getElem_set_self]
  congr 1
  rw [List.take_set_of_le (Nat.le_refl _)]

set_option maxRecDepth 100000 in
set_option maxHeartbeats 2000000 in
theorem implReturn_in (k : Int) (a b n m : Nat) (w : World) (hs : sOk k a b) (hn : 1 ≤ n ∧ n ≤ 64) (hm : m ≤ 64) :
    Calls Try.prog 25 #[sd k a b, .int .i64 n, .int .i64 m] w (SeedL k (returnF k a b n m) w) := by
  have HD : Hid (decide ((1 : Int) ≤ n ∧ (n : Int) ≤ 64) = true) := Lib.hid (by simp; omega)
  have HS := Lib.hid hs
  have hmk : ∀ w : World, (Instr.makeSlice 26 (.int .i64 (m : Int)) (.int .i64 (m : Int))).run Try.prog w = .ok (.slice (some ⟨w.heap.size, 0, none⟩) m m) (w.alloc (.cells (Array.replicate m (.int .i64 0)) 2)) := fun w => run_mk16 w 26 2 m (by omega) Try.underlying26 (by kernel_rfl)
  have hm0 : (0 : Int) ≤ m := by omega
  have hm1 : (m : Int) ≤ 64 := by omega
  clear hs
  go_enter Try.func25, Try.ntmps25
  go_wp2_with fail
  refine (ValidSeed_any _ _ _ _).mono ?_
  rintro e w1 ⟨rfl, rfl⟩
  rw [HS.out.1]
  go_wp2_with fail
  refine (isPickCount_any _ _).mono ?_
  rintro e w1 ⟨rfl, rfl⟩
  rw [HD.out]
  generalize hW : World.alloc (World.alloc (World.alloc _ _) _) _ = w0
  have hH : Below w.heap.size w w0 ∧ Whole w0 w.heap.size 25 (sdC k a b) ∧ Whole w0 (w.heap.size + 1) 25 (sdC 0 0 0) := by
    rw [← hW]
    exact ⟨(by repeat (first | with_reducible exact Below.refl _ _ | with_reducible exact HBL | with_reducible refine Below.drew ?_ | with_reducible refine Bel_drewN ?_ _ | with_reducible refine Below.alloc ?_ (by first | omega | (simp; done) | (simp; omega)) _ | with_reducible refine Below.setCell ?_ (by first | omega | (simp; done) | (simp; omega)) _)), ((Whole.made _ _ _).alloc _).alloc _, (Whole.made2 _ _ _ _).alloc _⟩
  have H0 := Lib.hid hH
  have hz0 : w.heap.size + 1 < w0.heap.size := hH.2.2.lt
  clear hH hW HD
  go_wp2_with fail
  have p2 := (tally_new w0 m 2).rowAt
  have HP := Lib.hid p2
  clear p2 hmk
  go_loopw [33] (fun i wr => ∃ (j A B : Nat) (cs : List Int), j ≤ m ∧ i = .int .i64 j ∧ cs.length = m ∧ retK k a b n j = some (A, B, cs.take j) ∧ Below w.heap.size w wr ∧ Whole wr w.heap.size 25 (sdC k A B) ∧ Whole wr (w.heap.size + 1) 25 (sdC 0 0 0) ∧ RowAt wr w0.heap.size 2 cs) (fun i _ => m - (intOf i).toNat)
  case atStart =>
    obtain ⟨HBL, q0, q1⟩ := H0.out
    have := HBL.size
    exact ⟨0, a, b, List.replicate m 0, Nat.zero_le _, rfl, by simp, rfl, (by repeat (first | with_reducible exact Below.refl _ _ | with_reducible exact HBL | with_reducible refine Below.drew ?_ | with_reducible refine Bel_drewN ?_ _ | with_reducible refine Below.alloc ?_ (by first | omega | (simp; done) | (simp; omega)) _ | with_reducible refine Below.setCell ?_ (by first | omega | (simp; done) | (simp; omega)) _)), q0.alloc _, q1.alloc _, HP.out⟩
  case round =>
    obtain ⟨j, A, B, cs, hj, rfl, hcl, hK, hbel, q0, q1, q2⟩ := hrel
    clear HP H0
    have HI := Lib.hid (retK_inv HS.out hn.1 hK)
    have H := Lib.hid (And.intro hbel (And.intro q0 (And.intro q1 q2)))
    have HK := Lib.hid (And.intro hcl hK)
    have hz2 : w0.heap.size < wr.heap.size := q2.lt
    by_cases hlt : j < m
    · obtain ⟨hc0, hf0⟩ := q0.facts
      clear hcl hK hbel q0 q1 q2
      go_wp2_with fail
      cases hbo : belowO k A B n with
      | some r =>
        obtain ⟨A', B', x⟩ := r
        have HB := Lib.hid hbo
        clear hbo hc0 hf0
        refine (implBelow_some k A B n A' B' x _ HI.out (by omega) HB.out).mono ?_
        rintro e w3 ⟨rfl, hb3⟩
        have hz3 := hb3.size
        have r0 := H.out.2.1.below hb3
        have r2 := H.out.2.2.2.below hb3
        obtain ⟨hc0, hf0⟩ := r0.facts
        have hc2 := r2.cell j (by have := HK.out.1; omega)
        have hf2 := r2.frozen
        have hz30 : w.heap.size < w3.heap.size := by omega
        have hz32 : w0.heap.size < w3.heap.size := by omega
        have HB3 := Lib.hid hb3
        generalize cs[j]?.getD 0 = v at hc2
        clear hb3 r0 r2
        go_wp2_with fail
        go_roundw
        case rel =>
          obtain ⟨hbel, q0, q1, q2⟩ := H.out
          have HBL := Bel_next hbel HB3.out
          obtain ⟨hcl, hK⟩ := HK.out
          refine ⟨j + 1, A', B', cs.set j (x : Int), by omega, by go_num, by simpa using hcl, ?_, (by repeat (first | with_reducible exact Below.refl _ _ | with_reducible exact HBL | with_reducible refine Below.drew ?_ | with_reducible refine Bel_drewN ?_ _ | with_reducible refine Below.alloc ?_ (by first | omega | (simp; done) | (simp; omega)) _ | with_reducible refine Below.setCell ?_ (by first | omega | (simp; done) | (simp; omega)) _)), (((((q0.below HB3.out).put 0 _).put 1 _).put 2 _).far (by first | omega | (simp; done) | (simp; omega)) _), (((((q1.below HB3.out).far (by first | omega | (simp; done) | (simp; omega)) _).far (by first | omega | (simp; done) | (simp; omega)) _).far (by first | omega | (simp; done) | (simp; omega)) _).far (by first | omega | (simp; done) | (simp; omega)) _), (((((q2.below HB3.out).far (by first | omega | (simp; done) | (simp; omega)) _).far (by first | omega | (simp; done) | (simp; omega)) _).far (by first | omega | (simp; done) | (simp; omega)) _).put j (x : Int))⟩
          rw [take_put cs j _ (by omega)]
          exact retK_step hK HB.out
        case measure => simp [intOf]; omega
      | none =>
        have HB := Lib.hid hbo
        clear hbo hc0 hf0
        refine (implBelow_nil k A B n _ HI.out (by omega) HB.out).mono ?_
        rintro e w3 ⟨rfl, hb3⟩
        have hz3 := hb3.size
        have r0 := H.out.2.1.below hb3
        have r1 := H.out.2.2.1.below hb3
        have r2 := H.out.2.2.2.below hb3
        obtain ⟨hc0, hf0⟩ := r0.facts
        obtain ⟨hc1, hf1⟩ := r1.facts
        have hc2 := r2.cell j (by have := HK.out.1; omega)
        have hf2 := r2.frozen
        have hz30 : w.heap.size < w3.heap.size := by omega
        have hz31 : w.heap.size + 1 < w3.heap.size := by omega
        have hz32 : w0.heap.size < w3.heap.size := by omega
        have HB3 := Lib.hid hb3
        generalize cs[j]?.getD 0 = v at hc2
        have HN : Hid (returnF k a b n m = none) := Lib.hid (by rw [returnF_yes HS.out.1 hn.1 hn.2 hm]; exact retK_stop HK.out.2 HB.out hlt)
        clear hb3 r0 r1 r2
        go_wp2_with fail
        have HBL := Bel_next H.out.1 HB3.out
        exact bodyPost_ret (v := .tuple #[sd 0 0 0, .slice none 0 0, .bool false]) (by simp [results, Try.results25, go_sem, hc1]) rfl (SeedL.no HN.out ⟨rfl, (by repeat (first | with_reducible exact Below.refl _ _ | with_reducible exact HBL | with_reducible refine Below.drew ?_ | with_reducible refine Bel_drewN ?_ _ | with_reducible refine Below.alloc ?_ (by first | omega | (simp; done) | (simp; omega)) _ | with_reducible refine Below.setCell ?_ (by first | omega | (simp; done) | (simp; omega)) _))⟩)
    · obtain rfl : j = m := by omega
      obtain ⟨hc0, hf0⟩ := q0.facts
      obtain ⟨hc1, hf1⟩ := q1.facts
      have hz1 := q1.lt
      have hres : returnF k a b n j = some (A, B, cs) := by rw [returnF_yes HS.out.1 hn.1 hn.2 hm, hK, List.take_of_length_le (by omega)]
      have HR := Lib.hid hres
      have HC : Hid (j = cs.length) := Lib.hid hcl.symm
      clear hcl hK hbel q0 q1 q2 hlt HK hres hj
      go_wp2_with fail
      obtain ⟨HBL, q0, q1, q2⟩ := H.out
      have hcl := HC.out
      subst hcl
      refine bodyPost_ret (v := .tuple #[sd k A B, .slice (some ⟨w0.heap.size, 0, none⟩) cs.length cs.length, .bool true]) (by simp [results, Try.results25, go_sem, hc1]) rfl (SeedL.yes HR.out ⟨_, _, rfl, ?_, (by repeat (first | with_reducible exact Below.refl _ _ | with_reducible exact HBL | with_reducible refine Below.drew ?_ | with_reducible refine Bel_drewN ?_ _ | with_reducible refine Below.alloc ?_ (by first | omega | (simp; done) | (simp; omega)) _ | with_reducible refine Below.setCell ?_ (by first | omega | (simp; done) | (simp; omega)) _))⟩)
      refine RowAt.row (g := w0.heap.size) (t := 2) ?_ (by omega) (by first | omega | (simp; done) | (simp; omega))
      exact ((q2.far (by first | omega | (simp; done) | (simp; omega)) _).far (by first | omega | (simp; done) | (simp; omega)) _).far (by first | omega | (simp; done) | (simp; omega)) _
set_option maxRecDepth 100000 in
theorem implReturn_any (k : Int) (a b : Nat) (n m : Int) (w : World) (ha : a < 18446744073709551616) (hb : b < 18446744073709551616) :
    Calls Try.prog 25 #[sd k a b, .int .i64 n, .int .i64 m] w (SeedL k (returnF k a b n m) w) := by
  by_cases h : vSeed k a b = true ∧ (1 ≤ n ∧ n ≤ 64) ∧ 0 ≤ m ∧ m ≤ 64
  · obtain ⟨n, rfl⟩ : ∃ x : Nat, n = x := ⟨n.toNat, by omega⟩
    obtain ⟨m, rfl⟩ : ∃ x : Nat, m = x := ⟨m.toNat, by omega⟩
    exact implReturn_in k a b n m w ⟨h.1, ha, hb⟩ (by omega) (by omega)
  · have HF : Hid (returnF k a b n m = none) := Lib.hid (returnF_not h)
    cases hv : vSeed k a b with
    | false =>
      clear h
      go_enter Try.func25, Try.ntmps25
      go_wp2_with fail
      refine (ValidSeed_any _ _ _ _).mono ?_
      rintro e w1 ⟨rfl, rfl⟩
      rw [hv]
      go_wp2_with fail
      exact bodyPost_ret (v := .tuple #[sd 0 0 0, .slice none 0 0, .bool false]) (by simp [results, Try.results25, go_sem]) rfl (SeedL.no HF.out ⟨rfl, (by repeat (first | with_reducible exact Below.refl _ _ | with_reducible exact HBL | with_reducible refine Below.drew ?_ | with_reducible refine Bel_drewN ?_ _ | with_reducible refine Below.alloc ?_ (by first | omega | (simp; done) | (simp; omega)) _ | with_reducible refine Below.setCell ?_ (by first | omega | (simp; done) | (simp; omega)) _))⟩)
    | true =>
      cases hd : decide (1 ≤ n ∧ n ≤ 64) with
      | false =>
        have HD := Lib.hid hd
        clear h hd
        go_enter Try.func25, Try.ntmps25
        go_wp2_with fail
        refine (ValidSeed_any _ _ _ _).mono ?_
        rintro e w1 ⟨rfl, rfl⟩
        rw [hv]
        go_wp2_with fail
        refine (isPickCount_any _ _).mono ?_
        rintro e w1 ⟨rfl, rfl⟩
        rw [HD.out]
        go_wp2_with fail
        exact bodyPost_ret (v := .tuple #[sd 0 0 0, .slice none 0 0, .bool false]) (by simp [results, Try.results25, go_sem]) rfl (SeedL.no HF.out ⟨rfl, (by repeat (first | with_reducible exact Below.refl _ _ | with_reducible exact HBL | with_reducible refine Below.drew ?_ | with_reducible refine Bel_drewN ?_ _ | with_reducible refine Below.alloc ?_ (by first | omega | (simp; done) | (simp; omega)) _ | with_reducible refine Below.setCell ?_ (by first | omega | (simp; done) | (simp; omega)) _))⟩)
      | true =>
        have HD := Lib.hid hd
        have hm : m < 0 ∨ 64 < m := by have := of_decide_eq_true hd; rw [hv] at h; simp at h; omega
        clear h hd
        rcases Int.lt_or_le m 0 with h0 | h0
        · clear hm
          go_enter Try.func25, Try.ntmps25
          go_wp2_with fail
          refine (ValidSeed_any _ _ _ _).mono ?_
          rintro e w1 ⟨rfl, rfl⟩
          rw [hv]
          go_wp2_with fail
          refine (isPickCount_any _ _).mono ?_
          rintro e w1 ⟨rfl, rfl⟩
          rw [HD.out]
          go_wp2_with fail
          exact bodyPost_ret (v := .tuple #[sd 0 0 0, .slice none 0 0, .bool false]) (by simp [results, Try.results25, go_sem]) rfl (SeedL.no HF.out ⟨rfl, (by repeat (first | with_reducible exact Below.refl _ _ | with_reducible exact HBL | with_reducible refine Below.drew ?_ | with_reducible refine Bel_drewN ?_ _ | with_reducible refine Below.alloc ?_ (by first | omega | (simp; done) | (simp; omega)) _ | with_reducible refine Below.setCell ?_ (by first | omega | (simp; done) | (simp; omega)) _))⟩)
        · have h1 : 64 < m := by omega
          clear hm
          go_enter Try.func25, Try.ntmps25
          go_wp2_with fail
          refine (ValidSeed_any _ _ _ _).mono ?_
          rintro e w1 ⟨rfl, rfl⟩
          rw [hv]
          go_wp2_with fail
          refine (isPickCount_any _ _).mono ?_
          rintro e w1 ⟨rfl, rfl⟩
          rw [HD.out]
          go_wp2_with fail
          exact bodyPost_ret (v := .tuple #[sd 0 0 0, .slice none 0 0, .bool false]) (by simp [results, Try.results25, go_sem]) rfl (SeedL.no HF.out ⟨rfl, (by repeat (first | with_reducible exact Below.refl _ _ | with_reducible exact HBL | with_reducible refine Below.drew ?_ | with_reducible refine Bel_drewN ?_ _ | with_reducible refine Below.alloc ?_ (by first | omega | (simp; done) | (simp; omega)) _ | with_reducible refine Below.setCell ?_ (by first | omega | (simp; done) | (simp; omega)) _))⟩)
set_option maxRecDepth 100000 in
set_option maxHeartbeats 2000000 in
theorem specReturn_in (k : Int) (a b n m : Nat) (w : World) (hs : sOk k a b) (hn : 1 ≤ n ∧ n ≤ 64) (hm : m ≤ 64) :
    Calls Try.prog 24 #[sd k a b, .int .i64 n, .int .i64 m] w (SeedL k (returnF k a b n m) w) := by
  have HD : Hid (decide ((1 : Int) ≤ n ∧ (n : Int) ≤ 64) = true) := Lib.hid (by simp; omega)
  have HS := Lib.hid hs
  have hm0 : (0 : Int) ≤ m := by omega
  have hm1 : (m : Int) ≤ 64 := by omega
  clear hs
  have p0 := Lib.hid ((Whole.made w 25 (sdC k a b)).alloc (.cells (sdC 0 0 0) 25))
  go_enter Try.func24, Try.ntmps24
  go_wp2_with fail
  refine (l02Is_any _ _ _ _ _ p0.out).mono ?_
  rintro e w1 ⟨rfl, rfl⟩
  rw [HS.out.1]
  go_wp2_with fail
  refine (l03Items_any _ _).mono ?_
  rintro e w1 ⟨rfl, rfl⟩
  rw [HD.out]
  go_wp2_with fail
  refine (l00In_yes _ _ _ hm0 hm1 _).mono ?_
  rintro e w1 ⟨rfl, rfl⟩
  generalize hW : World.alloc (World.alloc _ _) _ = w0
  have hH : Below w.heap.size w w0 ∧ Whole w0 w.heap.size 25 (sdC k a b) ∧ Whole w0 (w.heap.size + 1) 25 (sdC 0 0 0) := by
    rw [← hW]
    exact ⟨(by repeat (first | with_reducible exact Below.refl _ _ | with_reducible exact HBL | with_reducible refine Below.drew ?_ | with_reducible refine Bel_drewN ?_ _ | with_reducible refine Below.alloc ?_ (by first | omega | (simp; done) | (simp; omega)) _ | with_reducible refine Below.setCell ?_ (by first | omega | (simp; done) | (simp; omega)) _)), p0.out, Whole.made2 _ _ _ _⟩
  have H0 := Lib.hid hH
  have hz0 : w.heap.size + 1 < w0.heap.size := hH.2.2.lt
  clear hH hW p0 HD
  go_wp2
  go_loopw [9, 2] (fun v i wr => ∃ (j A B : Nat) (cs : List Int), j ≤ m ∧ i = .int .i64 ((m : Int) - j) ∧ retK k a b n j = some (A, B, cs) ∧ wr.ownsRow w0.heap.size 2 1 v j (il cs) ∧ Below w.heap.size w wr ∧ Whole wr w.heap.size 25 (sdC k A B) ∧ Whole wr (w.heap.size + 1) 25 (sdC 0 0 0) ∧ w0.heap.size ≤ wr.heap.size) (fun _ i _ => (intOf i).toNat)
  case atStart =>
    obtain ⟨HBL, q0, q1⟩ := H0.out
    have := HBL.size
    exact ⟨0, a, b, [], Nat.zero_le _, by congr 1 <;> omega, rfl, World.ownsRow_made _ _ _ (Nat.le_refl _) (Nat.zero_le _) rfl, (by repeat (first | with_reducible exact Below.refl _ _ | with_reducible exact HBL | with_reducible refine Below.drew ?_ | with_reducible refine Bel_drewN ?_ _ | with_reducible refine Below.alloc ?_ (by first | omega | (simp; done) | (simp; omega)) _ | with_reducible refine Below.setCell ?_ (by first | omega | (simp; done) | (simp; omega)) _)), q0.alloc _, q1.alloc _, by simp⟩
  case round =>
    obtain ⟨j, A, B, cs, hj, rfl, hK, hown, hbel, q0, q1, hzw⟩ := hrel
    clear H0
    have HI := Lib.hid (retK_inv HS.out hn.1 hK)
    have H := Lib.hid (And.intro hown (And.intro hbel (And.intro q0 q1)))
    have HK := Lib.hid hK
    have hj64 : (j : Int) ≤ m := by omega
    by_cases hlt : j < m
    · have hlt' : (j : Int) < m := by omega
      have htest : (0 : Int) < (m : Int) - j := by omega
      clear hK hown hbel q0 q1
      go_wp2_with fail
      cases hbo : belowO k A B n with
      | some r =>
        obtain ⟨A', B', x⟩ := r
        have HB := Lib.hid hbo
        clear hbo
        refine (l02Tried_some _ k A B n A' B' x _ HI.out (by omega) HB.out H.out.2.2.1).mono ?_
        rintro e w2 ⟨rfl, r0, hg2⟩
        have hown2 := H.out.1.kept hg2 (own_ne H.out.1 (by omega))
        have r1 := H.out.2.2.2.grown hg2 (by simp)
        have HBL : Below w.heap.size w w2 := Below.grown H.out.2.1 hg2 H.out.2.1.size (by simp)
        have H2 := Lib.hid (And.intro hown2 (And.intro HBL (And.intro r0 r1)))
        have hz2 : w0.heap.size ≤ w2.heap.size := Nat.le_trans hzw hg2.size
        change Hid (_ ∧ _) at H2
        clear hown2 r0 r1 HBL hg2 H
        go_wp2_with (at_builtin; refine wpList_app1 rfl _ _ 26 rfl w0.heap.size 2 (.int .i64 0) 8 Try.underlying26 (by kernel_rfl) rfl _ j _ rfl (H2.out.1.alloc _) _ _ (.int .i64 (x : Int)) rfl ?_ rfl ⟨by omega, by omega⟩ ?_ ?_)
        · simp
        · simp; omega
        · intro v' w' hown' hgr'
          have hb3 : Below w.heap.size w w' := Below.grown (H2.out.2.1.alloc H2.out.2.1.size _) hgr' (by first | omega | (simp; done) | (simp; omega)) (fun i hi => by have := own_ge H2.out.1 i hi; omega)
          have ho3 : w'.ownsRow w0.heap.size 2 1 v' (j + 1) (il (cs ++ [(x : Int)])) := by rw [il, List.map_append]; exact hown'
          have q0 := (H2.out.2.2.1.alloc (.cells #[.int .i64 (x : Int)] 2)).grown hgr' (own_ne' H2.out.1 (by omega))
          have q1 := (H2.out.2.2.2.alloc (.cells #[.int .i64 (x : Int)] 2)).grown hgr' (own_ne' H2.out.1 (by omega))
          have hz3 : w0.heap.size ≤ w'.heap.size := Nat.le_trans hz2 (Nat.le_trans (by simp) hgr'.size)
          have H3 := Lib.hid (And.intro ho3 (And.intro hb3 (And.intro q0 (And.intro q1 hz3))))
          clear hown' hgr' hb3 ho3 H2 q0 q1 hz3
          go_wp2
          go_roundw
          case rel => exact ⟨j + 1, A', B', _, by omega, by congr 1; omega, retK_step HK.out HB.out, H3.out⟩
          case measure => simp [intOf]; omega
      | none =>
        have HB := Lib.hid hbo
        clear hbo
        refine (l02Tried_nil _ k A B n _ HI.out (by omega) HB.out H.out.2.2.1).mono ?_
        rintro e w2 ⟨rfl, hg2⟩
        have r1 := H.out.2.2.2.grown hg2 (by simp)
        have HBL : Below w.heap.size w w2 := Below.grown H.out.2.1 hg2 H.out.2.1.size (by simp)
        obtain ⟨hc1, hf1⟩ := r1.facts
        have hz1 := r1.lt
        have H2 := Lib.hid HBL
        have HN : Hid (returnF k a b n m = none) := Lib.hid (by rw [returnF_yes HS.out.1 hn.1 hn.2 hm]; exact retK_stop HK.out HB.out hlt)
        clear r1 HBL hg2 H
        go_wp2_with fail
        have HBL := H2.out
        exact bodyPost_ret (v := .tuple #[sd 0 0 0, .slice none 0 0, .bool false]) (by simp [results, Try.results24, go_sem, hc1]) rfl (SeedL.no HN.out ⟨rfl, (by repeat (first | with_reducible exact Below.refl _ _ | with_reducible exact HBL | with_reducible refine Below.drew ?_ | with_reducible refine Bel_drewN ?_ _ | with_reducible refine Below.alloc ?_ (by first | omega | (simp; done) | (simp; omega)) _ | with_reducible refine Below.setCell ?_ (by first | omega | (simp; done) | (simp; omega)) _))⟩)
    · obtain rfl : j = m := by omega
      obtain ⟨hc0, hf0⟩ := q0.facts
      obtain ⟨hc1, hf1⟩ := q1.facts
      have hz1 := q1.lt
      have hz0' := q0.lt
      have hres : returnF k a b n j = some (A, B, cs) := by rw [returnF_yes HS.out.1 hn.1 hn.2 hm, hK]
      have HR := Lib.hid hres
      have HC : Hid (j = cs.length) := Lib.hid (retK_len hK).symm
      obtain ⟨ao, c, rfl⟩ := own_form hown
      have hrow := Lib.hid (Row.of_own hown)
      clear hK hown hbel q0 q1 hlt HK hres hj
      go_wp2_with fail
      obtain ⟨_, HBL, q0, q1⟩ := H.out
      have hcl := HC.out
      subst hcl
      refine bodyPost_ret (v := .tuple #[sd k A B, .slice ao cs.length c, .bool true]) (by simp [results, Try.results24, go_sem, hc1]) rfl (SeedL.yes HR.out ⟨_, _, rfl, ?_, (by repeat (first | with_reducible exact Below.refl _ _ | with_reducible exact HBL | with_reducible refine Below.drew ?_ | with_reducible refine Bel_drewN ?_ _ | with_reducible refine Below.alloc ?_ (by first | omega | (simp; done) | (simp; omega)) _ | with_reducible refine Below.setCell ?_ (by first | omega | (simp; done) | (simp; omega)) _))⟩)
      refine Row.wide (lo := w0.heap.size) (hi := wr.heap.size) ?_ (by omega) (by first | omega | (simp; done) | (simp; omega))
      exact ((hrow.out.far (by first | omega | (simp; done) | (simp; omega)) _).far (by first | omega | (simp; done) | (simp; omega)) _).far (by first | omega | (simp; done) | (simp; omega)) _
set_option maxRecDepth 100000 in
theorem specReturn_any (k : Int) (a b : Nat) (n m : Int) (w : World) (ha : a < 18446744073709551616) (hb : b < 18446744073709551616) :
    Calls Try.prog 24 #[sd k a b, .int .i64 n, .int .i64 m] w (SeedL k (returnF k a b n m) w) := by
  by_cases h : vSeed k a b = true ∧ (1 ≤ n ∧ n ≤ 64) ∧ 0 ≤ m ∧ m ≤ 64
  · obtain ⟨n, rfl⟩ : ∃ x : Nat, n = x := ⟨n.toNat, by omega⟩
    obtain ⟨m, rfl⟩ : ∃ x : Nat, m = x := ⟨m.toNat, by omega⟩
    exact specReturn_in k a b n m w ⟨h.1, ha, hb⟩ (by omega) (by omega)
  · have HF : Hid (returnF k a b n m = none) := Lib.hid (returnF_not h)
    have p0 := Lib.hid ((Whole.made w 25 (sdC k a b)).alloc (.cells (sdC 0 0 0) 25))
    cases hv : vSeed k a b with
    | false =>
      clear h
      go_enter Try.func24, Try.ntmps24
      go_wp2_with fail
      refine (l02Is_any _ _ _ _ _ p0.out).mono ?_
      rintro e w1 ⟨rfl, rfl⟩
      rw [hv]
      go_wp2_with fail
      exact bodyPost_ret (v := .tuple #[sd 0 0 0, .slice none 0 0, .bool false]) (by simp [results, Try.results24, go_sem]) rfl (SeedL.no HF.out ⟨rfl, (by repeat (first | with_reducible exact Below.refl _ _ | with_reducible exact HBL | with_reducible refine Below.drew ?_ | with_reducible refine Bel_drewN ?_ _ | with_reducible refine Below.alloc ?_ (by first | omega | (simp; done) | (simp; omega)) _ | with_reducible refine Below.setCell ?_ (by first | omega | (simp; done) | (simp; omega)) _))⟩)
    | true =>
      cases hd : decide (1 ≤ n ∧ n ≤ 64) with
      | false =>
        have HD := Lib.hid hd
        clear h hd
        go_enter Try.func24, Try.ntmps24
        go_wp2_with fail
        refine (l02Is_any _ _ _ _ _ p0.out).mono ?_
        rintro e w1 ⟨rfl, rfl⟩
        rw [hv]
        go_wp2_with fail
        refine (l03Items_any _ _).mono ?_
        rintro e w1 ⟨rfl, rfl⟩
        rw [HD.out]
        go_wp2_with fail
        exact bodyPost_ret (v := .tuple #[sd 0 0 0, .slice none 0 0, .bool false]) (by simp [results, Try.results24, go_sem]) rfl (SeedL.no HF.out ⟨rfl, (by repeat (first | with_reducible exact Below.refl _ _ | with_reducible exact HBL | with_reducible refine Below.drew ?_ | with_reducible refine Bel_drewN ?_ _ | with_reducible refine Below.alloc ?_ (by first | omega | (simp; done) | (simp; omega)) _ | with_reducible refine Below.setCell ?_ (by first | omega | (simp; done) | (simp; omega)) _))⟩)
      | true =>
        have HD := Lib.hid hd
        have hm : m < 0 ∨ 64 < m := by have := of_decide_eq_true hd; rw [hv] at h; simp at h; omega
        clear h hd
        go_enter Try.func24, Try.ntmps24
        go_wp2_with fail
        refine (l02Is_any _ _ _ _ _ p0.out).mono ?_
        rintro e w1 ⟨rfl, rfl⟩
        rw [hv]
        go_wp2_with fail
        refine (l03Items_any _ _).mono ?_
        rintro e w1 ⟨rfl, rfl⟩
        rw [HD.out]
        go_wp2_with fail
        refine (l00In_no _ _ _ hm _).mono ?_
        rintro e w1 ⟨rfl, rfl⟩
        go_wp2_with fail
        exact bodyPost_ret (v := .tuple #[sd 0 0 0, .slice none 0 0, .bool false]) (by simp [results, Try.results24, go_sem]) rfl (SeedL.no HF.out ⟨rfl, (by repeat (first | with_reducible exact Below.refl _ _ | with_reducible exact HBL | with_reducible refine Below.drew ?_ | with_reducible refine Bel_drewN ?_ _ | with_reducible refine Below.alloc ?_ (by first | omega | (simp; done) | (simp; omega)) _ | with_reducible refine Below.setCell ?_ (by first | omega | (simp; done) | (simp; omega)) _))⟩)
end Go.Proofs.Ytnofikeeobahjab
