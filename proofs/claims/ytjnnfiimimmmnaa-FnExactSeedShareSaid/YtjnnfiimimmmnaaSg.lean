/- SeedShare: what the code and its model return. -/
import Derived.Test.YtjnnfiimimmmnaaQo
import Derived.Test.YtjnnfiimimmmnaaSh
namespace Go.Proofs.Ytjnnfiimimmmnaa
open Go Go.RowKit Fl Vag
set_option linter.unusedVariables false

def ssC (k : Int) (a b : Nat) (vs cs : List Nat) (i : Nat) : Prop := vSeed k a b = true ∧ isShr vs cs ∧ Fst cs (gtV (shK k a b)) vs.length i
theorem ssC_not {k : Int} {a b : Nat} {vs cs : List Nat} (h : ¬ ∃ i, ssC k a b vs cs i) : ¬ (vSeed k a b = true ∧ isShr vs cs) := fun ⟨h1, h2⟩ => by
  obtain ⟨i, hi⟩ := fst_ex cs (gtV (shK k a b)) vs.length h2.pos
  exact h ⟨i, h1, h2, hi⟩
set_option maxRecDepth 100000 in
set_option maxHeartbeats 2000000 in
theorem implSs_yes (k : Int) (a b : Nat) (vs cs : List Nat) (m : Nat) (hm : cs.length = m) (ao bo : Option Addr) (c d i : Nat) (w : World) (ha : a < 18446744073709551616) (hb : b < 18446744073709551616) (hx : Holds w ao (fl .f32 vs)) (hy : Holds w bo (fl .f32 cs)) (hC : ssC k a b vs cs i) :
    Calls Try.prog 33 #[sd k a b, .agg #[.slice ao vs.length c, .slice bo m d]] w (RetB (.tuple #[sd k (nxA k a b) (nxB k a b), .float .f32 (vs[i]?.getD 0), .bool true]) w) := by
  have HX := Lib.hid (And.intro hx (And.intro hy hm))
  have HS : Hid (sOk k a b) := Lib.hid ⟨hC.1, ha, hb⟩
  obtain rfl : m = vs.length := by have := hC.2.1.2.1; omega
  have h64 : vs.length ≤ 64 := hC.2.1.1
  have HC := Lib.hid hC.2
  obtain ⟨z, hz⟩ : ∃ z, z = vs[i]?.getD 0 := ⟨_, rfl⟩
  rw [← hz]
  have HZ := Lib.hid hz
  clear hx hy hm hC ha hb hz
  go_enter Try.func33, Try.ntmps33
  go_wp2_with (first | (go_at_call 70; fail))
  generalize hW : World.alloc (World.alloc (World.alloc _ _) _) _ = w0
  have H0 : Hid (Below w.heap.size w w0 ∧ Whole w0 w.heap.size 44 (sdC k a b) ∧ Whole w0 (w.heap.size + 1) 27 #[.slice ao vs.length c, .slice bo vs.length d] ∧ Whole w0 (w.heap.size + 1 + 1) 44 (sdC 0 0 0)) := Lib.hid (by
    rw [← hW]
    exact ⟨(by repeat (first | with_reducible exact Below.refl _ _ | with_reducible exact HBL | with_reducible refine Below.drew ?_ | with_reducible refine Bel_drewN ?_ _ | with_reducible refine Below.alloc ?_ (by first | omega | (simp; done) | (simp; omega)) _ | with_reducible refine Below.setCell ?_ (by first | omega | (simp; done) | (simp; omega)) _)), ((Whole.made _ _ _).alloc _).alloc _, (Whole.made2 _ _ _ _).alloc _, Whole.made3 _ _ _ _ _⟩)
  clear hW
  have hz0 := H0.out.2.2.2.lt
  refine (ValidSeed_any _ _ _ _).mono ?_
  rintro e w1 ⟨rfl, rfl⟩
  rw [HS.out.1]
  generalize hW : World.alloc _ _ = w1
  have H1 : Hid (Below w.heap.size w w1 ∧ Whole w1 w.heap.size 44 (sdC k a b) ∧ Whole w1 (w.heap.size + 1) 27 #[.slice ao vs.length c, .slice bo vs.length d] ∧ Whole w1 (w.heap.size + 1 + 1) 44 (sdC 0 0 0)) := Lib.hid (by
    rw [← hW]
    obtain ⟨HBL, q0, q1, q2⟩ := H0.out
    exact ⟨HBL.alloc (by omega) _, q0.alloc _, q1.alloc _, q2.alloc _⟩)
  clear hW H0 hz0
  obtain ⟨hc1, hf1⟩ := H1.out.2.2.1.facts
  go_wp2_with (first | (go_at_call 18; fail))
  clear hc1 hf1
  refine ((implValidShare_any vs cs _ HX.out.2.2 ao bo c d _ (HX.out.1.below H1.out.1) (HX.out.2.1.below H1.out.1) (by omega) (by omega)).mono fun e w1 h => Bo.yes HC.out.1 h).mono ?_
  rintro e w2 ⟨rfl, hb⟩
  have H2 : Hid (Below w.heap.size w w2 ∧ Whole w2 w.heap.size 44 (sdC k a b) ∧ Whole w2 (w.heap.size + 1) 27 #[.slice ao vs.length c, .slice bo vs.length d] ∧ Whole w2 (w.heap.size + 1 + 1) 44 (sdC 0 0 0)) := Lib.hid
    ⟨Bel_next H1.out.1 hb, H1.out.2.1.below hb, H1.out.2.2.1.below hb, H1.out.2.2.2.below hb⟩
  clear hb H1
  obtain ⟨hc0, hf0⟩ := H2.out.2.1.facts
  go_wp2_with (first | (go_at_call 71; fail))
  clear hc0 hf0
  refine (drawShare_any _ _ _ _ HS.out).mono ?_
  rintro e w3 ⟨rfl, hb⟩
  have H3 : Hid (Below w.heap.size w w3 ∧ Whole w3 (w.heap.size + 1) 27 #[.slice ao vs.length c, .slice bo vs.length d] ∧ Whole w3 (w.heap.size + 1 + 1) 44 (sdC 0 0 0)) := Lib.hid
    ⟨Bel_next H2.out.1 hb, H2.out.2.2.1.below hb, H2.out.2.2.2.below hb⟩
  clear hb H2
  go_wp2_with fail
  generalize hW : World.alloc (World.alloc _ _) _ = w4
  have H4 : Hid (Below w.heap.size w w4 ∧ Whole w4 (w.heap.size + 1) 27 #[.slice ao vs.length c, .slice bo vs.length d] ∧ Whole w4 (w.heap.size + 1 + 1) 44 (sdC 0 0 0) ∧ Whole w4 w3.heap.size 44 (sdC k (nxA k a b) (nxB k a b)) ∧ Whole w4 (w3.heap.size + 1) 32 #[.float .f32 (shK k a b)]) := Lib.hid (by
    obtain ⟨HBL, q1, q2⟩ := H3.out
    have hz3 := q2.lt
    rw [← hW]
    exact ⟨(HBL.alloc (by omega) _).alloc (by simp; omega) _, (q1.alloc _).alloc _, (q2.alloc _).alloc _, (Whole.made _ _ _).alloc _, Whole.made2 _ _ _ _⟩)
  have hz3 : w.heap.size + 1 + 1 < w3.heap.size := H3.out.2.2.lt
  clear hW H3
  obtain ⟨hc1, hf1⟩ := H4.out.2.1.facts
  obtain ⟨hc3, hf3⟩ := H4.out.2.2.2.1.facts
  have hz4 := H4.out.2.2.1.lt
  have H5 : Hid (Below w.heap.size w w4.drew ∧ Whole w4.drew (w.heap.size + 1) 27 #[.slice ao vs.length c, .slice bo vs.length d] ∧ Whole w4.drew (w.heap.size + 1 + 1) 44 (sdC 0 0 0) ∧ Whole w4.drew w3.heap.size 44 (sdC k (nxA k a b) (nxB k a b)) ∧ Whole w4.drew (w3.heap.size + 1) 32 #[.float .f32 (shK k a b)]) := Lib.hid
    ⟨H4.out.1.drew, H4.out.2.1.drew, H4.out.2.2.1.drew, H4.out.2.2.2.1.drew, H4.out.2.2.2.2.drew⟩
  have HK : Hid (∀ v : World, Below w4.drew.heap.size w4.drew v → Below w.heap.size w v ∧ Whole v w3.heap.size 44 (sdC k (nxA k a b) (nxB k a b)) ∧ Whole v (w.heap.size + 1) 27 #[.slice ao vs.length c, .slice bo vs.length d] ∧ Whole v (w.heap.size + 1 + 1) 44 (sdC 0 0 0)) := Lib.hid (fun v hb => ⟨Bel_next H5.out.1 hb, H5.out.2.2.2.1.below hb, H5.out.2.1.below hb, H5.out.2.2.1.below hb⟩)
  go_region_with (first | (go_at_call 66; refine (valueAtGt_any vs cs HX.out.2.2 _ _ _ _ _ _ i _ ((HX.out.1.below H5.out.1)) ((HX.out.2.1.below H5.out.1)) h64 (by exact H5.out.2.2.2.2) HC.out.2).mono ?_; rintro e w5 ⟨rfl, hb⟩; obtain ⟨hb5, hs5, hh5, h05⟩ := HK.out _ hb; obtain ⟨hc5, hf5⟩ := hs5.facts; obtain ⟨hc6, hf6⟩ := hh5.facts; obtain ⟨hc7, hf7⟩ := h05.facts; have hz5 := h05.lt))
  all_goals
    go_wp2_with fail
    have q2 := h05
    have HBL := hb5
    exact bodyPost_ret (v := .tuple #[sd k (nxA k a b) (nxB k a b), .float .f32 z, .bool true]) (by rw [HZ.out]; simp [results, Try.results33, go_sem, hc7]) rfl ⟨rfl, (by repeat (first | with_reducible exact Below.refl _ _ | with_reducible exact HBL | with_reducible refine Below.drew ?_ | with_reducible refine Bel_drewN ?_ _ | with_reducible refine Below.alloc ?_ (by first | omega | (simp; done) | (simp; omega)) _ | with_reducible refine Below.setCell ?_ (by first | omega | (simp; done) | (simp; omega)) _))⟩
set_option maxRecDepth 100000 in
set_option maxHeartbeats 2000000 in
theorem implSs_no (k : Int) (a b : Nat) (vs cs : List Nat) (m : Nat) (hm : cs.length = m) (ao bo : Option Addr) (c d : Nat) (w : World) (hx : Holds w ao (fl .f32 vs)) (hy : Holds w bo (fl .f32 cs)) (hlen : vs.length ≤ 1048576) (hml : m ≤ 1048576) (hC : ¬ (vSeed k a b = true ∧ isShr vs cs)) :
    Calls Try.prog 33 #[sd k a b, .agg #[.slice ao vs.length c, .slice bo m d]] w (RetB (.tuple #[sd 0 0 0, .float .f32 0, .bool false]) w) := by
  have HX := Lib.hid (And.intro hx (And.intro hy hm))
  have HC := Lib.hid hC
  clear hx hy hm hC
  go_enter Try.func33, Try.ntmps33
  go_wp2_with (first | (go_at_call 70; fail))
  generalize hW : World.alloc (World.alloc (World.alloc _ _) _) _ = w0
  have H0 : Hid (Below w.heap.size w w0 ∧ Whole w0 w.heap.size 44 (sdC k a b) ∧ Whole w0 (w.heap.size + 1) 27 #[.slice ao vs.length c, .slice bo m d] ∧ Whole w0 (w.heap.size + 1 + 1) 44 (sdC 0 0 0)) := Lib.hid (by
    rw [← hW]
    exact ⟨(by repeat (first | with_reducible exact Below.refl _ _ | with_reducible exact HBL | with_reducible refine Below.drew ?_ | with_reducible refine Bel_drewN ?_ _ | with_reducible refine Below.alloc ?_ (by first | omega | (simp; done) | (simp; omega)) _ | with_reducible refine Below.setCell ?_ (by first | omega | (simp; done) | (simp; omega)) _)), ((Whole.made _ _ _).alloc _).alloc _, (Whole.made2 _ _ _ _).alloc _, Whole.made3 _ _ _ _ _⟩)
  clear hW
  have hz0 := H0.out.2.2.2.lt
  refine (ValidSeed_any _ _ _ _).mono ?_
  rintro e w1 ⟨rfl, rfl⟩
  generalize hW : World.alloc _ _ = w1
  have H1 : Hid (Below w.heap.size w w1 ∧ Whole w1 w.heap.size 44 (sdC k a b) ∧ Whole w1 (w.heap.size + 1) 27 #[.slice ao vs.length c, .slice bo m d] ∧ Whole w1 (w.heap.size + 1 + 1) 44 (sdC 0 0 0)) := Lib.hid (by
    rw [← hW]
    obtain ⟨HBL, q0, q1, q2⟩ := H0.out
    exact ⟨HBL.alloc (by omega) _, q0.alloc _, q1.alloc _, q2.alloc _⟩)
  clear hW H0 hz0
  cases hv : vSeed k a b with
  | false =>
    obtain ⟨hc2, hf2⟩ := H1.out.2.2.2.facts
    have hz2 := H1.out.2.2.2.lt
    go_wp2_with fail
    obtain ⟨HBL, q0, q1, q2⟩ := H1.out
    exact bodyPost_ret (v := .tuple #[sd 0 0 0, .float .f32 0, .bool false]) (by simp [results, Try.results33, go_sem, hc2]) rfl ⟨rfl, (by repeat (first | with_reducible exact Below.refl _ _ | with_reducible exact HBL | with_reducible refine Below.drew ?_ | with_reducible refine Bel_drewN ?_ _ | with_reducible refine Below.alloc ?_ (by first | omega | (simp; done) | (simp; omega)) _ | with_reducible refine Below.setCell ?_ (by first | omega | (simp; done) | (simp; omega)) _))⟩
  | true =>
    have HV := Lib.hid hv
    clear hv
    obtain ⟨hc1, hf1⟩ := H1.out.2.2.1.facts
    go_wp2_with (first | (go_at_call 18; fail))
    clear hc1 hf1
    refine ((implValidShare_any vs cs _ HX.out.2.2 ao bo c d _ (HX.out.1.below H1.out.1) (HX.out.2.1.below H1.out.1) (by omega) (by omega)).mono fun e w1 h => Bo.no (fun h => HC.out ⟨HV.out, h⟩) h).mono ?_
    rintro e w2 ⟨rfl, hb⟩
    have H2 : Hid (Below w.heap.size w w2 ∧ Whole w2 (w.heap.size + 1 + 1) 44 (sdC 0 0 0)) := Lib.hid
      ⟨Bel_next H1.out.1 hb, H1.out.2.2.2.below hb⟩
    clear hb H1
    obtain ⟨hc2, hf2⟩ := H2.out.2.facts
    have hz2 := H2.out.2.lt
    go_wp2_with fail
    obtain ⟨HBL, q2⟩ := H2.out
    exact bodyPost_ret (v := .tuple #[sd 0 0 0, .float .f32 0, .bool false]) (by simp [results, Try.results33, go_sem, hc2]) rfl ⟨rfl, (by repeat (first | with_reducible exact Below.refl _ _ | with_reducible exact HBL | with_reducible refine Below.drew ?_ | with_reducible refine Bel_drewN ?_ _ | with_reducible refine Below.alloc ?_ (by first | omega | (simp; done) | (simp; omega)) _ | with_reducible refine Below.setCell ?_ (by first | omega | (simp; done) | (simp; omega)) _))⟩
set_option maxRecDepth 100000 in
set_option maxHeartbeats 2000000 in
theorem specSs_yes (k : Int) (a b : Nat) (vs cs : List Nat) (m : Nat) (hm : cs.length = m) (ao bo : Option Addr) (c d i : Nat) (w : World) (ha : a < 18446744073709551616) (hb : b < 18446744073709551616) (hx : Holds w ao (fl .f32 vs)) (hy : Holds w bo (fl .f32 cs)) (hC : ssC k a b vs cs i) :
    Calls Try.prog 31 #[sd k a b, .agg #[.slice ao vs.length c, .slice bo m d]] w (RetB (.tuple #[sd k (nxA k a b) (nxB k a b), .float .f32 (vs[i]?.getD 0), .bool true]) w) := by
  have HX := Lib.hid (And.intro hx (And.intro hy hm))
  have HS : Hid (sOk k a b) := Lib.hid ⟨hC.1, ha, hb⟩
  obtain rfl : m = vs.length := by have := hC.2.1.2.1; omega
  have h64 : vs.length ≤ 64 := hC.2.1.1
  have h1 : 1 ≤ vs.length := hC.2.1.pos
  have HC := Lib.hid hC.2
  have HI := Lib.hid hC.2.2
  have hil : i < vs.length := hC.2.2.1
  obtain ⟨z, hz⟩ : ∃ z, z = vs[i]?.getD 0 := ⟨_, rfl⟩
  rw [← hz]
  have HZ := Lib.hid hz
  clear hx hy hm hC ha hb hz
  go_enter Try.func31, Try.ntmps31
  go_wp2_with (first | (go_at_call 68; fail))
  generalize hW : World.alloc (World.alloc (World.alloc _ _) _) _ = w0
  have H0 : Hid (Below w.heap.size w w0 ∧ Whole w0 w.heap.size 44 (sdC k a b) ∧ Whole w0 (w.heap.size + 1) 27 #[.slice ao vs.length c, .slice bo vs.length d] ∧ Whole w0 (w.heap.size + 1 + 1) 44 (sdC 0 0 0)) := Lib.hid (by
    rw [← hW]
    exact ⟨(by repeat (first | with_reducible exact Below.refl _ _ | with_reducible exact HBL | with_reducible refine Below.drew ?_ | with_reducible refine Bel_drewN ?_ _ | with_reducible refine Below.alloc ?_ (by first | omega | (simp; done) | (simp; omega)) _ | with_reducible refine Below.setCell ?_ (by first | omega | (simp; done) | (simp; omega)) _)), ((Whole.made _ _ _).alloc _).alloc _, (Whole.made2 _ _ _ _).alloc _, Whole.made3 _ _ _ _ _⟩)
  clear hW
  refine (l02Is_any _ _ _ _ _ H0.out.2.1).mono ?_
  rintro e w1 ⟨rfl, rfl⟩
  rw [HS.out.1]
  go_wp2_with (first | (go_at_call 49; fail))
  refine ((l05Is_any vs cs _ HX.out.2.2 ao bo c d _ _ H0.out.2.2.1 (HX.out.1.below H0.out.1) (HX.out.2.1.below H0.out.1) (by omega) (by omega)).mono fun e w1 h => BoD.yes HC.out.1 h).mono ?_
  rintro e w1 ⟨n, rfl, rfl⟩
  go_wp2_with (first | (go_at_call 69; fail))
  refine (l02Share_any _ _ _ _ _ HS.out (H0.out.2.1.drewN n)).mono ?_
  rintro e w2 ⟨rfl, q0, hg⟩
  have H2 : Hid (Below w.heap.size w w2 ∧ Whole w2 w.heap.size 44 (sdC k (nxA k a b) (nxB k a b)) ∧ Whole w2 (w.heap.size + 1) 27 #[.slice ao vs.length c, .slice bo vs.length d] ∧ Whole w2 (w.heap.size + 1 + 1) 44 (sdC 0 0 0)) := Lib.hid
    ⟨Below.grown (Bel_drewN H0.out.1 n) hg (by simpa using H0.out.1.size) (by simp), q0, (H0.out.2.2.1.drewN n).grown hg (by simp), (H0.out.2.2.2.drewN n).grown hg (by simp; omega)⟩
  clear q0 hg H0
  obtain ⟨hc0, hf0⟩ := H2.out.2.2.1.facts
  go_wp2
  go_loopw [8, 21] (fun s j wr => ∃ k' : Nat, (k' ≤ i ∨ (k' = vs.length ∧ i + 1 = vs.length)) ∧ j = .int .i64 k' ∧ ∃ r q, s = .float .f32 r ∧ av .f32 r = sumA .f32 (cs.take k') ∧ wr = w2.drewN q) (fun _ j _ => vs.length - (intOf j).toNat)
  case atStart => exact ⟨0, .inl (Nat.zero_le _), rfl, 0, 0, rfl, av_zero _, rfl⟩
  case round =>
    obtain ⟨k', hk, rfl, r, q, rfl, hr, rfl⟩ := hrel
    have HR := Lib.hid hr
    clear hr
    by_cases hlt : k' < vs.length
    · have hki : k' ≤ i := by omega
      have hltc : k' < cs.length := by rw [HX.out.2.2]; exact hlt
      obtain ⟨b', o', rfl, hc'⟩ := (HX.out.2.1.below H2.out.1) k' (by simpa [fl] using hltc)
      rw [fl_get _ _ _ hltc] at hc'
      have HT := Lib.hid (take_next cs k' hltc)
      obtain ⟨b2, o2, e2, hck⟩ := (HX.out.1.below H2.out.1) k' (by simpa [fl] using hlt)
      obtain ⟨b3, o3, e3, hcI⟩ := HX.out.1 k' (by simpa [fl] using hlt)
      cases e2
      cases e3
      have hb2 : b2 < w.heap.size := World.block_lt_of_cell? _ _ hcI
      rw [fl_get _ _ _ hlt] at hck
      obtain ⟨x, hxk⟩ : ∃ x, x = vs[k']?.getD 0 := ⟨_, rfl⟩
      rw [← hxk] at hck
      have HXE := Lib.hid hxk
      generalize cs[k']?.getD 0 = y at hc' HT
      clear hltc hk hxk hcI
      go_wp2_with (refine wpList_farith _ _ _ _ _ .f32 _ _ rfl rfl rfl ?_; intro r1 n1 hr1; (have HR1 : Hid (av .f32 r1 = sumA .f32 (cs.take (k' + 1))) := Lib.hid (by rw [HT.out, sumA_snoc, ← HR.out]; exact hr1.2)); (obtain ⟨bq, hbq⟩ : ∃ t, gtB r1 (shK k a b) = t := ⟨_, rfl⟩); have hge' := gt_factB hbq)
      · have hq : bq = true := by assumption
        have hbv : gtV (shK k a b) (sumA .f32 (cs.take (k' + 1))) = true := by rw [← gtV_of HR1.out, hbq]; exact hq
        obtain rfl : k' = i := by
          by_cases e : k' = i
          · exact e
          · have := HI.out.2.1 k' (by omega)
            rw [hbv] at this; cases this
        obtain ⟨hc1, hf1⟩ := H2.out.2.1.facts
        obtain ⟨hc2, hf2⟩ := H2.out.2.2.2.facts
        have hz0 := H2.out.2.1.lt
        have hz1 := H2.out.2.2.1.lt
        have hz2 := H2.out.2.2.2.lt
        have hne2 : ¬ b2 = w.heap.size + 1 + 1 := by omega
        have hne3 : ¬ b2 = w.heap.size + 1 := by omega
        have hne4 : ¬ b2 = w.heap.size := by omega
        clear hbv hbq hge' hr1 hc'
        go_region
        all_goals
          go_wp2_with fail
          obtain ⟨HBL, q0, q1, q2⟩ := H2.out
          exact bodyPost_ret (v := .tuple #[sd k (nxA k a b) (nxB k a b), .float .f32 z, .bool true]) (by rw [HZ.out, ← HXE.out]; simp [results, Try.results31, go_sem, hc2]) rfl ⟨rfl, (by repeat (first | with_reducible exact Below.refl _ _ | with_reducible exact HBL | with_reducible refine Below.drew ?_ | with_reducible refine Bel_drewN ?_ _ | with_reducible refine Below.alloc ?_ (by first | omega | (simp; done) | (simp; omega)) _ | with_reducible refine Below.setCell ?_ (by first | omega | (simp; done) | (simp; omega)) _))⟩
      · rename_i hq
        have hbv : gtV (shK k a b) (sumA .f32 (cs.take (k' + 1))) = false := by rw [← gtV_of HR1.out, hbq]; exact hq
        have hnext : k' + 1 ≤ i ∨ (k' + 1 = vs.length ∧ i + 1 = vs.length) := by
          by_cases e : k' = i
          · subst e
            rcases HI.out.2.2 with h | h
            · rw [hbv] at h; cases h
            · omega
          · omega
        go_roundw
        case rel => exact ⟨k' + 1, hnext, by go_num, r1, _, rfl, HR1.out, rfl⟩
        case measure => simp [intOf]; omega
    · obtain ⟨rfl, hin⟩ : k' = vs.length ∧ i + 1 = vs.length := by omega
      have hin' : IntKind.i64.wrap ((vs.length : Int) - 1) = (i : Int) := by rw [IntWalk.i64_in _ (by omega)]; omega
      have hil' : (i : Int) < vs.length := by omega
      obtain ⟨b3, o3, rfl, hcI⟩ := (HX.out.1.below H2.out.1) i (by simpa [fl] using hil)
      rw [fl_get _ _ _ hil, ← HZ.out] at hcI
      obtain ⟨b4, o4, e4, hc4⟩ := HX.out.1 i (by simpa [fl] using hil)
      cases e4
      have hb3 : b3 < w.heap.size := World.block_lt_of_cell? _ _ hc4
      have hne2 : ¬ b3 = w.heap.size + 1 + 1 := by omega
      have hne3 : ¬ b3 = w.heap.size + 1 := by omega
      have hne4 : ¬ b3 = w.heap.size := by omega
      clear hc4
      obtain ⟨hc1, hf1⟩ := H2.out.2.1.facts
      obtain ⟨hc2, hf2⟩ := H2.out.2.2.2.facts
      have hz0 := H2.out.2.1.lt
      have hz1 := H2.out.2.2.1.lt
      have hz2 := H2.out.2.2.2.lt
      clear hin hk
      go_wp2_with fail
      go_region
      all_goals
        go_wp2_with fail
        obtain ⟨HBL, q0, q1, q2⟩ := H2.out
        exact bodyPost_ret (v := .tuple #[sd k (nxA k a b) (nxB k a b), .float .f32 z, .bool true]) (by simp [results, Try.results31, go_sem, hc2]) rfl ⟨rfl, (by repeat (first | with_reducible exact Below.refl _ _ | with_reducible exact HBL | with_reducible refine Below.drew ?_ | with_reducible refine Bel_drewN ?_ _ | with_reducible refine Below.alloc ?_ (by first | omega | (simp; done) | (simp; omega)) _ | with_reducible refine Below.setCell ?_ (by first | omega | (simp; done) | (simp; omega)) _))⟩
set_option maxRecDepth 100000 in
set_option maxHeartbeats 2000000 in
theorem specSs_no (k : Int) (a b : Nat) (vs cs : List Nat) (m : Nat) (hm : cs.length = m) (ao bo : Option Addr) (c d : Nat) (w : World) (hx : Holds w ao (fl .f32 vs)) (hy : Holds w bo (fl .f32 cs)) (hlen : vs.length ≤ 1048576) (hml : m ≤ 1048576) (hC : ¬ (vSeed k a b = true ∧ isShr vs cs)) :
    Calls Try.prog 31 #[sd k a b, .agg #[.slice ao vs.length c, .slice bo m d]] w (RetB (.tuple #[sd 0 0 0, .float .f32 0, .bool false]) w) := by
  have HX := Lib.hid (And.intro hx (And.intro hy hm))
  have HC := Lib.hid hC
  clear hx hy hm hC
  go_enter Try.func31, Try.ntmps31
  go_wp2_with (first | (go_at_call 68; fail))
  generalize hW : World.alloc (World.alloc (World.alloc _ _) _) _ = w0
  have H0 : Hid (Below w.heap.size w w0 ∧ Whole w0 w.heap.size 44 (sdC k a b) ∧ Whole w0 (w.heap.size + 1) 27 #[.slice ao vs.length c, .slice bo m d] ∧ Whole w0 (w.heap.size + 1 + 1) 44 (sdC 0 0 0)) := Lib.hid (by
    rw [← hW]
    exact ⟨(by repeat (first | with_reducible exact Below.refl _ _ | with_reducible exact HBL | with_reducible refine Below.drew ?_ | with_reducible refine Bel_drewN ?_ _ | with_reducible refine Below.alloc ?_ (by first | omega | (simp; done) | (simp; omega)) _ | with_reducible refine Below.setCell ?_ (by first | omega | (simp; done) | (simp; omega)) _)), ((Whole.made _ _ _).alloc _).alloc _, (Whole.made2 _ _ _ _).alloc _, Whole.made3 _ _ _ _ _⟩)
  clear hW
  refine (l02Is_any _ _ _ _ _ H0.out.2.1).mono ?_
  rintro e w1 ⟨rfl, rfl⟩
  cases hv : vSeed k a b with
  | false =>
    obtain ⟨hc2, hf2⟩ := H0.out.2.2.2.facts
    have hz2 := H0.out.2.2.2.lt
    go_wp2_with fail
    obtain ⟨HBL, q0, q1, q2⟩ := H0.out
    exact bodyPost_ret (v := .tuple #[sd 0 0 0, .float .f32 0, .bool false]) (by simp [results, Try.results31, go_sem, hc2]) rfl ⟨rfl, (by repeat (first | with_reducible exact Below.refl _ _ | with_reducible exact HBL | with_reducible refine Below.drew ?_ | with_reducible refine Bel_drewN ?_ _ | with_reducible refine Below.alloc ?_ (by first | omega | (simp; done) | (simp; omega)) _ | with_reducible refine Below.setCell ?_ (by first | omega | (simp; done) | (simp; omega)) _))⟩
  | true =>
    have HV := Lib.hid hv
    clear hv
    go_wp2_with (first | (go_at_call 49; fail))
    refine ((l05Is_any vs cs _ HX.out.2.2 ao bo c d _ _ H0.out.2.2.1 (HX.out.1.below H0.out.1) (HX.out.2.1.below H0.out.1) (by omega) (by omega)).mono fun e w1 h => BoD.no (fun h => HC.out ⟨HV.out, h⟩) h).mono ?_
    rintro e w1 ⟨n, rfl, rfl⟩
    obtain ⟨hc2, hf2⟩ := H0.out.2.2.2.facts
    have hz2 := H0.out.2.2.2.lt
    go_wp2_with fail
    obtain ⟨HBL, q0, q1, q2⟩ := H0.out
    exact bodyPost_ret (v := .tuple #[sd 0 0 0, .float .f32 0, .bool false]) (by simp [results, Try.results31, go_sem, hc2]) rfl ⟨rfl, (by repeat (first | with_reducible exact Below.refl _ _ | with_reducible exact HBL | with_reducible refine Below.drew ?_ | with_reducible refine Bel_drewN ?_ _ | with_reducible refine Below.alloc ?_ (by first | omega | (simp; done) | (simp; omega)) _ | with_reducible refine Below.setCell ?_ (by first | omega | (simp; done) | (simp; omega)) _))⟩
end Go.Proofs.Ytjnnfiimimmmnaa
