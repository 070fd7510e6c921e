/- The walk of the law FnExactNewDesk. -/
import Derived.Test.YtekoahhdbafpmaaNd
namespace Go.Proofs.Ytekoahhdbafpmaa
open Go Go.RowKit Fl Vag
set_option linter.unusedVariables false

set_option maxRecDepth 100000 in
set_option maxHeartbeats 4000000 in
theorem FnExactNewDesk_walk (w : World) :
    Calls Try.prog 5 #[] w fun e w' => e = .returned (.bool true) ∧ Below w.heap.size w w' := by
  go_enter Try.func5, Try.ntmps5
  go_wp2_with fail
  refine (specNewDesk_any _).mono ?_
  rintro e w1 ⟨s0, s1, s2, rfl, hs, r0, r1, r2, hb⟩
  have HA : Hid (Nk w1 s0 s1 s2 [3, 0, 0, 3] [2, 0, 1] [1048576000, 1056964608] ∧ Below w.heap.size w w1) := Lib.hid ⟨⟨r0, r1, r2, hs.2⟩, hb⟩
  clear r0 r1 r2 hb
  go_wp2_with fail
  refine (implNewDesk_any _).mono ?_
  rintro e w2 ⟨g0, g1, g2, rfl, hg, r0, r1, r2, hb⟩
  obtain ⟨bs, hbs⟩ : ∃ x, x = w1.heap.size := ⟨_, rfl⟩
  have hg1 : bs < g0 ∧ g0 < g1 ∧ g1 < g2 ∧ g2 < w2.heap.size := by rw [hbs]; simp at hg; omega
  have hs1 : s2 < bs ∧ w.heap.size ≤ bs := by have := HA.out.2.size; omega
  have HB : Hid (Nk w2 g0 g1 g2 [3, 0, 0, 3] [2, 0, 1] [1048576000, 1056964608] ∧ Nk w2 s0 s1 s2 [3, 0, 0, 3] [2, 0, 1] [1048576000, 1056964608] ∧ Whole w2 bs 36 #[.int .i64 0, .int .u64 0, .int .u64 1, .int .i64 2, .int .i64 2, .slice (some ⟨s0, 0, none⟩) 4 4, .slice (some ⟨s1, 0, none⟩) 3 3, .slice (some ⟨s2, 0, none⟩) 2 2] ∧ Below w.heap.size w w2) := Lib.hid (by
    have HBL := HA.out.2
    exact ⟨⟨r0, r1, r2, hg1.2⟩, (HA.out.1.alloc _).below hb, by rw [hbs]; exact (Whole.made _ _ _).below hb, Bel_next (show Below w.heap.size w (w1.alloc _) from (by repeat (first | with_reducible exact Below.refl _ _ | with_reducible exact HBL | with_reducible refine Below.drew ?_ | with_reducible refine Bel_drewN ?_ _ | with_reducible refine Below.alloc ?_ (by first | omega | (simp; done) | (simp; omega)) _ | with_reducible refine Below.setCell ?_ (by first | omega | (simp; done) | (simp; omega)) _))) hb⟩)
  rw [← hbs]
  clear r0 r1 r2 hb hbs hg HA
  have hzs := HB.out.2.2.1.lt
  obtain ⟨hcs, hfs⟩ := HB.out.2.2.1.facts
  obtain ⟨bg, hbg⟩ : ∃ x, x = w2.heap.size := ⟨_, rfl⟩
  go_wp2_with fail
  generalize hW : World.alloc w2 _ = w3
  have H0 : Hid (Nk w3 g0 g1 g2 [3, 0, 0, 3] [2, 0, 1] [1048576000, 1056964608] ∧ Nk w3 s0 s1 s2 [3, 0, 0, 3] [2, 0, 1] [1048576000, 1056964608] ∧ Whole w3 bs 36 #[.int .i64 0, .int .u64 0, .int .u64 1, .int .i64 2, .int .i64 2, .slice (some ⟨s0, 0, none⟩) 4 4, .slice (some ⟨s1, 0, none⟩) 3 3, .slice (some ⟨s2, 0, none⟩) 2 2] ∧ Whole w3 bg 36 #[.int .i64 0, .int .u64 0, .int .u64 1, .int .i64 2, .int .i64 2, .slice (some ⟨g0, 0, none⟩) 4 4, .slice (some ⟨g1, 0, none⟩) 3 3, .slice (some ⟨g2, 0, none⟩) 2 2] ∧ Below w.heap.size w w3) := Lib.hid (by
    have HBL := HB.out.2.2.2
    rw [← hW]
    exact ⟨HB.out.1.alloc _, HB.out.2.1.alloc _, HB.out.2.2.1.alloc _, by rw [hbg]; exact Whole.made _ _ _, (by repeat (first | with_reducible exact Below.refl _ _ | with_reducible exact HBL | with_reducible refine Below.drew ?_ | with_reducible refine Bel_drewN ?_ _ | with_reducible refine Below.alloc ?_ (by first | omega | (simp; done) | (simp; omega)) _ | with_reducible refine Below.setCell ?_ (by first | omega | (simp; done) | (simp; omega)) _))⟩)
  have hgb : g2 < bg := by omega
  rw [← hbg]
  clear hW HB hbg hcs hfs hzs
  refine (eqDesk_same 0 0 1 2 2 [3, 0, 0, 3] 4 rfl _ _ _ _ [2, 0, 1] 3 rfl _ _ _ _ [1048576000, 1056964608] 2 rfl _ _ _ _ _ H0.out.1.a.holds H0.out.2.1.a.holds H0.out.1.b.holds H0.out.2.1.b.holds H0.out.1.c.holds H0.out.2.1.c.holds (by omega) (by omega) (by omega)).mono ?_
  rintro e w4 ⟨rfl, hb⟩
  have H1 : Hid (Nk w4 g0 g1 g2 [3, 0, 0, 3] [2, 0, 1] [1048576000, 1056964608] ∧ Nk w4 s0 s1 s2 [3, 0, 0, 3] [2, 0, 1] [1048576000, 1056964608] ∧ Whole w4 bs 36 #[.int .i64 0, .int .u64 0, .int .u64 1, .int .i64 2, .int .i64 2, .slice (some ⟨s0, 0, none⟩) 4 4, .slice (some ⟨s1, 0, none⟩) 3 3, .slice (some ⟨s2, 0, none⟩) 2 2] ∧ Whole w4 bg 36 #[.int .i64 0, .int .u64 0, .int .u64 1, .int .i64 2, .int .i64 2, .slice (some ⟨g0, 0, none⟩) 4 4, .slice (some ⟨g1, 0, none⟩) 3 3, .slice (some ⟨g2, 0, none⟩) 2 2] ∧ Below w.heap.size w w4) := Lib.hid ⟨H0.out.1.below hb, H0.out.2.1.below hb, H0.out.2.2.1.below hb, H0.out.2.2.2.1.below hb, Bel_next H0.out.2.2.2.2 hb⟩
  clear hb H0
  obtain ⟨hcs, hfs⟩ := H1.out.2.2.1.facts
  obtain ⟨hcg, hfg⟩ := H1.out.2.2.2.1.facts
  have hzs := H1.out.2.2.1.lt
  have hzg := H1.out.2.2.2.1.lt
  go_wp2_with fail
  clear hcs hfs hcg hfg hzs hzg
  refine (markDesk_new _ g0 g1 g2 _ _ _ H1.out.1 rfl rfl rfl).mono ?_
  rintro e w5 ⟨rfl, nk, bt⟩
  have H2 : Hid (Nk w5 g0 g1 g2 (marks 1 4) (marks 5 3) (fmarks 8 2) ∧ Nk w5 s0 s1 s2 [3, 0, 0, 3] [2, 0, 1] [1048576000, 1056964608] ∧ Whole w5 bs 36 #[.int .i64 0, .int .u64 0, .int .u64 1, .int .i64 2, .int .i64 2, .slice (some ⟨s0, 0, none⟩) 4 4, .slice (some ⟨s1, 0, none⟩) 3 3, .slice (some ⟨s2, 0, none⟩) 2 2] ∧ Whole w5 bg 36 #[.int .i64 0, .int .u64 0, .int .u64 1, .int .i64 2, .int .i64 2, .slice (some ⟨g0, 0, none⟩) 4 4, .slice (some ⟨g1, 0, none⟩) 3 3, .slice (some ⟨g2, 0, none⟩) 2 2] ∧ Below w.heap.size w w5) := Lib.hid ⟨nk, H1.out.2.1.but bt (.inr (by omega)), H1.out.2.2.1.buts bt (by omega), H1.out.2.2.2.1.buts bt (by omega), bt.bel H1.out.2.2.2.2 (by omega)⟩
  clear nk bt H1
  obtain ⟨hcs, hfs⟩ := H2.out.2.2.1.facts
  obtain ⟨hcg, hfg⟩ := H2.out.2.2.2.1.facts
  have hzs := H2.out.2.2.1.lt
  have hzg := H2.out.2.2.2.1.lt
  go_wp2_with fail
  clear hcs hfs hcg hfg hzs hzg
  refine (heldDesk_new _ g0 g1 g2 H2.out.1).mono ?_
  rintro e w6 ⟨rfl, hb⟩
  have H3 : Hid (Nk w6 g0 g1 g2 (marks 1 4) (marks 5 3) (fmarks 8 2) ∧ Nk w6 s0 s1 s2 [3, 0, 0, 3] [2, 0, 1] [1048576000, 1056964608] ∧ Whole w6 bs 36 #[.int .i64 0, .int .u64 0, .int .u64 1, .int .i64 2, .int .i64 2, .slice (some ⟨s0, 0, none⟩) 4 4, .slice (some ⟨s1, 0, none⟩) 3 3, .slice (some ⟨s2, 0, none⟩) 2 2] ∧ Whole w6 bg 36 #[.int .i64 0, .int .u64 0, .int .u64 1, .int .i64 2, .int .i64 2, .slice (some ⟨g0, 0, none⟩) 4 4, .slice (some ⟨g1, 0, none⟩) 3 3, .slice (some ⟨g2, 0, none⟩) 2 2] ∧ Below w.heap.size w w6) := Lib.hid ⟨H2.out.1.below hb, H2.out.2.1.below hb, H2.out.2.2.1.below hb, H2.out.2.2.2.1.below hb, Bel_next H2.out.2.2.2.2 hb⟩
  clear hb H2
  obtain ⟨hcs, hfs⟩ := H3.out.2.2.1.facts
  obtain ⟨hcg, hfg⟩ := H3.out.2.2.2.1.facts
  have hzs := H3.out.2.2.1.lt
  have hzg := H3.out.2.2.2.1.lt
  go_wp2_with fail
  clear hcs hfs hcg hfg hzs hzg
  refine (implNewDesk_any _).mono ?_
  rintro e w7 ⟨p0, p1, p2, rfl, hp, r0, r1, r2, hb⟩
  have HP : Hid (Nk w7 p0 p1 p2 [3, 0, 0, 3] [2, 0, 1] [1048576000, 1056964608]) := Lib.hid ⟨r0, r1, r2, hp.2⟩
  have H4 : Hid (Nk w7 g0 g1 g2 (marks 1 4) (marks 5 3) (fmarks 8 2) ∧ Nk w7 s0 s1 s2 [3, 0, 0, 3] [2, 0, 1] [1048576000, 1056964608] ∧ Whole w7 bs 36 #[.int .i64 0, .int .u64 0, .int .u64 1, .int .i64 2, .int .i64 2, .slice (some ⟨s0, 0, none⟩) 4 4, .slice (some ⟨s1, 0, none⟩) 3 3, .slice (some ⟨s2, 0, none⟩) 2 2] ∧ Whole w7 bg 36 #[.int .i64 0, .int .u64 0, .int .u64 1, .int .i64 2, .int .i64 2, .slice (some ⟨g0, 0, none⟩) 4 4, .slice (some ⟨g1, 0, none⟩) 3 3, .slice (some ⟨g2, 0, none⟩) 2 2] ∧ Below w.heap.size w w7) := Lib.hid ⟨H3.out.1.below hb, H3.out.2.1.below hb, H3.out.2.2.1.below hb, H3.out.2.2.2.1.below hb, Bel_next H3.out.2.2.2.2 hb⟩
  clear r0 r1 r2 hp hb H3
  obtain ⟨hcs, hfs⟩ := H4.out.2.2.1.facts
  obtain ⟨hcg, hfg⟩ := H4.out.2.2.2.1.facts
  have hzs := H4.out.2.2.1.lt
  have hzg := H4.out.2.2.2.1.lt
  go_wp2_with fail
  clear hcs hfs hcg hfg hzs hzg
  generalize hW : World.alloc w7 _ = w8
  have HP8 : Hid (Nk w8 p0 p1 p2 [3, 0, 0, 3] [2, 0, 1] [1048576000, 1056964608]) := Lib.hid (by rw [← hW]; exact HP.out.alloc _)
  have hb : Below w7.heap.size w7 w8 := by rw [← hW]; exact (by repeat (first | with_reducible exact Below.refl _ _ | with_reducible exact HBL | with_reducible refine Below.drew ?_ | with_reducible refine Bel_drewN ?_ _ | with_reducible refine Below.alloc ?_ (by first | omega | (simp; done) | (simp; omega)) _ | with_reducible refine Below.setCell ?_ (by first | omega | (simp; done) | (simp; omega)) _))
  have H5 : Hid (Nk w8 g0 g1 g2 (marks 1 4) (marks 5 3) (fmarks 8 2) ∧ Nk w8 s0 s1 s2 [3, 0, 0, 3] [2, 0, 1] [1048576000, 1056964608] ∧ Whole w8 bs 36 #[.int .i64 0, .int .u64 0, .int .u64 1, .int .i64 2, .int .i64 2, .slice (some ⟨s0, 0, none⟩) 4 4, .slice (some ⟨s1, 0, none⟩) 3 3, .slice (some ⟨s2, 0, none⟩) 2 2] ∧ Whole w8 bg 36 #[.int .i64 0, .int .u64 0, .int .u64 1, .int .i64 2, .int .i64 2, .slice (some ⟨g0, 0, none⟩) 4 4, .slice (some ⟨g1, 0, none⟩) 3 3, .slice (some ⟨g2, 0, none⟩) 2 2] ∧ Below w.heap.size w w8) := Lib.hid ⟨H4.out.1.below hb, H4.out.2.1.below hb, H4.out.2.2.1.below hb, H4.out.2.2.2.1.below hb, Bel_next H4.out.2.2.2.2 hb⟩
  clear hW hb H4 HP
  refine (eqDesk_same 0 0 1 2 2 [3, 0, 0, 3] 4 rfl _ _ _ _ [2, 0, 1] 3 rfl _ _ _ _ [1048576000, 1056964608] 2 rfl _ _ _ _ _ HP8.out.a.holds H5.out.2.1.a.holds HP8.out.b.holds H5.out.2.1.b.holds HP8.out.c.holds H5.out.2.1.c.holds (by omega) (by omega) (by omega)).mono ?_
  rintro e w9 ⟨rfl, hb⟩
  have H6 : Hid (Nk w9 g0 g1 g2 (marks 1 4) (marks 5 3) (fmarks 8 2) ∧ Nk w9 s0 s1 s2 [3, 0, 0, 3] [2, 0, 1] [1048576000, 1056964608] ∧ Whole w9 bs 36 #[.int .i64 0, .int .u64 0, .int .u64 1, .int .i64 2, .int .i64 2, .slice (some ⟨s0, 0, none⟩) 4 4, .slice (some ⟨s1, 0, none⟩) 3 3, .slice (some ⟨s2, 0, none⟩) 2 2] ∧ Whole w9 bg 36 #[.int .i64 0, .int .u64 0, .int .u64 1, .int .i64 2, .int .i64 2, .slice (some ⟨g0, 0, none⟩) 4 4, .slice (some ⟨g1, 0, none⟩) 3 3, .slice (some ⟨g2, 0, none⟩) 2 2] ∧ Below w.heap.size w w9) := Lib.hid ⟨H5.out.1.below hb, H5.out.2.1.below hb, H5.out.2.2.1.below hb, H5.out.2.2.2.1.below hb, Bel_next H5.out.2.2.2.2 hb⟩
  clear hb H5 HP8
  obtain ⟨hcs, hfs⟩ := H6.out.2.2.1.facts
  obtain ⟨hcg, hfg⟩ := H6.out.2.2.2.1.facts
  have hzs := H6.out.2.2.1.lt
  have hzg := H6.out.2.2.2.1.lt
  go_wp2_with fail
  clear hcs hfs hcg hfg hzs hzg
  refine (heldDesk_new _ g0 g1 g2 H6.out.1).mono ?_
  rintro e w10 ⟨rfl, hb⟩
  have H7 := Lib.hid (Bel_next H6.out.2.2.2.2 hb)
  clear hb H6
  go_wp2_with fail
  go_ret
  have HBL := H7.out
  exact ⟨rfl, (by repeat (first | with_reducible exact Below.refl _ _ | with_reducible exact HBL | with_reducible refine Below.drew ?_ | with_reducible refine Bel_drewN ?_ _ | with_reducible refine Below.alloc ?_ (by first | omega | (simp; done) | (simp; omega)) _ | with_reducible refine Below.setCell ?_ (by first | omega | (simp; done) | (simp; omega)) _))⟩
end Go.Proofs.Ytekoahhdbafpmaa
