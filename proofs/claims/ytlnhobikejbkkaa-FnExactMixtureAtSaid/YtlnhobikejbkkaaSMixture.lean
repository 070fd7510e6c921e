/- The helpers of laws on Mixture. -/
import Derived.Test.YtlnhobikejbkkaaFq
namespace Go.Proofs.Ytlnhobikejbkkaa
open Go Go.RowKit Fl Vag
set_option linter.unusedVariables false

set_option maxRecDepth 100000 in
theorem szMixture_yes (x0 : List Nat) (a0 : Option Addr) (c0 : Nat) (x1 : List Nat) (a1 : Option Addr) (c1 : Nat) (x2 : List Nat) (a2 : Option Addr) (c2 : Nat) (l : Nat) (w : World) (h : x0.length + x1.length + x2.length ≤ l) (hl : l ≤ 1048576) :
    Calls Try.prog 43 #[.agg #[.slice a0 x0.length c0, .slice a1 x1.length c1, .slice a2 x2.length c2], .int .i64 l] w (RetB (.int .i64 ((l - (x0.length + x1.length + x2.length) : Nat) : Int)) w) := by
  obtain ⟨q0, hq0⟩ : ∃ q0, l = x0.length + q0 := ⟨l - x0.length, by omega⟩
  have hb0 : q0 ≤ 1048576 := by omega
  have hi0 : (0 : Int) ≤ (q0 : Int) := by omega
  obtain ⟨q1, hq1⟩ : ∃ q1, q0 = x1.length + q1 := ⟨q0 - x1.length, by omega⟩
  have hb1 : q1 ≤ 1048576 := by omega
  have hi1 : (0 : Int) ≤ (q1 : Int) := by omega
  obtain ⟨q2, hq2⟩ : ∃ q2, q1 = x2.length + q2 := ⟨q1 - x2.length, by omega⟩
  have hb2 : q2 ≤ 1048576 := by omega
  have hi2 : (0 : Int) ≤ (q2 : Int) := by omega
  have HE : Hid (l - (x0.length + x1.length + x2.length) = q2) := Lib.hid (by omega)
  have HQ0 := Lib.hid hq0
  have HQ1 := Lib.hid hq1
  have HQ2 := Lib.hid hq2
  clear hq0 hq1 hq2
  clear h
  go_enter Try.func43, Try.ntmps43
  go_wp2_with fail
  refine (szFloat32S_yes _ _ _ _ q0 _ HQ0.out (by omega)).mono ?_
  rintro e w' ⟨rfl, rfl⟩
  go_wp2_with fail
  refine (szFloat32S_yes _ _ _ _ q1 _ HQ1.out (by omega)).mono ?_
  rintro e w' ⟨rfl, rfl⟩
  go_wp2_with fail
  refine (szFloat32S_yes _ _ _ _ q2 _ HQ2.out (by omega)).mono ?_
  rintro e w' ⟨rfl, rfl⟩
  go_wp2_with fail
  go_ret
  exact ⟨by rw [HE.out]; rfl, (by repeat (first | with_reducible exact Below.refl _ _ | with_reducible exact HBL | with_reducible refine Below.drew ?_ | with_reducible refine Bel_drewN ?_ _ | with_reducible refine Below.alloc ?_ (by first | omega | (simp; done) | (simp; omega)) _ | with_reducible refine Below.setCell ?_ (by first | omega | (simp; done) | (simp; omega)) _))⟩
set_option maxRecDepth 100000 in
theorem szMixture_no (x0 : List Nat) (a0 : Option Addr) (c0 : Nat) (x1 : List Nat) (a1 : Option Addr) (c1 : Nat) (x2 : List Nat) (a2 : Option Addr) (c2 : Nat) (l : Nat) (w : World) (h : ¬ x0.length + x1.length + x2.length ≤ l) (hl : l ≤ 1048576) (m0 : x0.length ≤ 9223372036854775807) (m1 : x1.length ≤ 9223372036854775807) (m2 : x2.length ≤ 9223372036854775807) :
    Calls Try.prog 43 #[.agg #[.slice a0 x0.length c0, .slice a1 x1.length c1, .slice a2 x2.length c2], .int .i64 l] w (RetB (.int .i64 (-1)) w) := by
  by_cases hc0 : ¬ x0.length ≤ l
  · clear h
    have HF : Hid (l < x0.length) := Lib.hid (by omega)
    clear hc0
    go_enter Try.func43, Try.ntmps43
    go_wp2_with fail
    refine (szFloat32S_no _ _ _ _ _ HF.out (by omega) m0).mono ?_
    rintro e w' ⟨rfl, rfl⟩
    go_wp2_with fail
    go_ret
    exact ⟨rfl, (by repeat (first | with_reducible exact Below.refl _ _ | with_reducible exact HBL | with_reducible refine Below.drew ?_ | with_reducible refine Bel_drewN ?_ _ | with_reducible refine Below.alloc ?_ (by first | omega | (simp; done) | (simp; omega)) _ | with_reducible refine Below.setCell ?_ (by first | omega | (simp; done) | (simp; omega)) _))⟩
  by_cases hc1 : ¬ x0.length + x1.length ≤ l
  · clear h
    obtain ⟨q0, hq0⟩ : ∃ q0, l = x0.length + q0 := ⟨l - x0.length, by omega⟩
    have hb0 : q0 ≤ 1048576 := by omega
    have hi0 : (0 : Int) ≤ (q0 : Int) := by omega
    have HF : Hid (q0 < x1.length) := Lib.hid (by omega)
    clear hc1 hc0
    have HQ0 := Lib.hid hq0
    clear hq0
    go_enter Try.func43, Try.ntmps43
    go_wp2_with fail
    refine (szFloat32S_yes _ _ _ _ q0 _ HQ0.out (by omega)).mono ?_
    rintro e w' ⟨rfl, rfl⟩
    go_wp2_with fail
    refine (szFloat32S_no _ _ _ _ _ HF.out (by omega) m1).mono ?_
    rintro e w' ⟨rfl, rfl⟩
    go_wp2_with fail
    go_ret
    exact ⟨rfl, (by repeat (first | with_reducible exact Below.refl _ _ | with_reducible exact HBL | with_reducible refine Below.drew ?_ | with_reducible refine Bel_drewN ?_ _ | with_reducible refine Below.alloc ?_ (by first | omega | (simp; done) | (simp; omega)) _ | with_reducible refine Below.setCell ?_ (by first | omega | (simp; done) | (simp; omega)) _))⟩
  obtain ⟨q0, hq0⟩ : ∃ q0, l = x0.length + q0 := ⟨l - x0.length, by omega⟩
  have hb0 : q0 ≤ 1048576 := by omega
  have hi0 : (0 : Int) ≤ (q0 : Int) := by omega
  obtain ⟨q1, hq1⟩ : ∃ q1, q0 = x1.length + q1 := ⟨q0 - x1.length, by omega⟩
  have hb1 : q1 ≤ 1048576 := by omega
  have hi1 : (0 : Int) ≤ (q1 : Int) := by omega
  have HF : Hid (q1 < x2.length) := Lib.hid (by omega)
  clear h hc0 hc1
  have HQ0 := Lib.hid hq0
  have HQ1 := Lib.hid hq1
  clear hq0 hq1
  go_enter Try.func43, Try.ntmps43
  go_wp2_with fail
  refine (szFloat32S_yes _ _ _ _ q0 _ HQ0.out (by omega)).mono ?_
  rintro e w' ⟨rfl, rfl⟩
  go_wp2_with fail
  refine (szFloat32S_yes _ _ _ _ q1 _ HQ1.out (by omega)).mono ?_
  rintro e w' ⟨rfl, rfl⟩
  go_wp2_with fail
  refine (szFloat32S_no _ _ _ _ _ HF.out (by omega) m2).mono ?_
  rintro e w' ⟨rfl, rfl⟩
  go_wp2_with fail
  go_ret
  exact ⟨rfl, (by repeat (first | with_reducible exact Below.refl _ _ | with_reducible exact HBL | with_reducible refine Below.drew ?_ | with_reducible refine Bel_drewN ?_ _ | with_reducible refine Below.alloc ?_ (by first | omega | (simp; done) | (simp; omega)) _ | with_reducible refine Below.setCell ?_ (by first | omega | (simp; done) | (simp; omega)) _))⟩
/-- A copy in new memory. -/
def ToMixture (x0 : List Nat) (x1 : List Nat) (x2 : List Nat) (w : World) (e : Ending) (w' : World) : Prop :=
  ∃ b0 b1 b2 : Option Addr, e = .returned (.agg #[.slice b0 x0.length x0.length, .slice b1 x1.length x1.length, .slice b2 x2.length x2.length]) ∧ Row w' w.heap.size w'.heap.size b0 (fl .f32 x0) ∧ Row w' w.heap.size w'.heap.size b1 (fl .f32 x1) ∧ Row w' w.heap.size w'.heap.size b2 (fl .f32 x2) ∧ Below w.heap.size w w'
set_option maxRecDepth 100000 in
set_option maxHeartbeats 1000000 in
theorem toMixture_any (x0 : List Nat) (a0 : Option Addr) (c0 : Nat) (x1 : List Nat) (a1 : Option Addr) (c1 : Nat) (x2 : List Nat) (a2 : Option Addr) (c2 : Nat) (w : World) (h0 : Holds w a0 (fl .f32 x0)) (h1 : Holds w a1 (fl .f32 x1)) (h2 : Holds w a2 (fl .f32 x2)) (l0 : x0.length ≤ 1048576) (l1 : x1.length ≤ 1048576) (l2 : x2.length ≤ 1048576) :
    Calls Try.prog 45 #[.agg #[.slice a0 x0.length c0, .slice a1 x1.length c1, .slice a2 x2.length c2]] w (ToMixture x0 x1 x2 w) := by
  have HX0 := Lib.hid h0
  have HX1 := Lib.hid h1
  have HX2 := Lib.hid h2
  clear h0 h1 h2
  go_enter Try.func45, Try.ntmps45
  go_wp2_with fail
  generalize hW : World.alloc (World.alloc (World.alloc _ _) _) _ = v0
  have H0 : Hid (Whole v0 w.heap.size 57 #[.slice a0 x0.length c0, .slice a1 x1.length c1, .slice a2 x2.length c2] ∧ Whole v0 (w.heap.size + 1) 60 #[.slice none 0 0, .slice none 0 0, .slice none 0 0] ∧ Whole v0 (w.heap.size + 1 + 1) 60 #[.slice none 0 0, .slice none 0 0, .slice none 0 0] ∧ Below w.heap.size w v0 ∧ w.heap.size + 3 ≤ v0.heap.size) := Lib.hid (by rw [← hW]; exact ⟨((Whole.made _ _ _).alloc _).alloc _, (Whole.made2 _ _ _ _).alloc _, by simpa using Whole.made2 (w.alloc _) _ _ _, (by repeat (first | with_reducible exact Below.refl _ _ | with_reducible exact HBL | with_reducible refine Below.drew ?_ | with_reducible refine Bel_drewN ?_ _ | with_reducible refine Below.alloc ?_ (by first | omega | (simp; done) | (simp; omega)) _ | with_reducible refine Below.setCell ?_ (by first | omega | (simp; done) | (simp; omega)) _)), by simp⟩)
  clear hW
  refine (toFloat32S_row x0 _ _ _ (Holds.below HX0.out H0.out.2.2.2.1) l0).mono ?_
  rintro e u0 ⟨b0, rfl, row, hb⟩
  have Hu0 : Hid (Whole u0 w.heap.size 57 #[.slice a0 x0.length c0, .slice a1 x1.length c1, .slice a2 x2.length c2] ∧ Whole u0 (w.heap.size + 1) 60 #[.slice none 0 0, .slice none 0 0, .slice none 0 0] ∧ Whole u0 (w.heap.size + 1 + 1) 60 #[.slice none 0 0, .slice none 0 0, .slice none 0 0] ∧ Below w.heap.size w u0 ∧ w.heap.size + 3 ≤ u0.heap.size ∧ Row u0 (w.heap.size + 3) u0.heap.size b0 (fl .f32 x0)) := Lib.hid ⟨Whole.below H0.out.1 hb, Whole.below H0.out.2.1 hb, Whole.below H0.out.2.2.1 hb, Bel_next H0.out.2.2.2.1 hb, (by have h1 := hb.size; have h2 := H0.out.2.2.2.2; omega), Row.wide row H0.out.2.2.2.2 (Nat.le_refl _)⟩
  clear row hb H0
  obtain ⟨hc0, hf0⟩ := Hu0.out.1.facts
  obtain ⟨hc1, hf1⟩ := Hu0.out.2.1.facts
  obtain ⟨hc2, hf2⟩ := Hu0.out.2.2.1.facts
  have hz0 := Hu0.out.1.lt
  have hz1 := Hu0.out.2.1.lt
  have hz2 := Hu0.out.2.2.1.lt
  go_wp2_with fail
  clear hc0 hf0 hc1 hf1 hc2 hf2 hz0 hz1 hz2
  generalize hW : World.setCell _ _ _ = v1
  have Hv1 : Hid (Whole v1 w.heap.size 57 #[.slice a0 x0.length c0, .slice a1 x1.length c1, .slice a2 x2.length c2] ∧ Whole v1 (w.heap.size + 1) 60 #[.slice none 0 0, .slice none 0 0, .slice none 0 0] ∧ Whole v1 (w.heap.size + 1 + 1) 60 #[.slice b0 x0.length x0.length, .slice none 0 0, .slice none 0 0] ∧ Below w.heap.size w v1 ∧ w.heap.size + 3 ≤ v1.heap.size ∧ Row v1 (w.heap.size + 3) v1.heap.size b0 (fl .f32 x0)) := Lib.hid (by rw [← hW]; exact ⟨Hu0.out.1.far (by first | omega | (simp; done) | (simp; omega)) _, Hu0.out.2.1.far (by first | omega | (simp; done) | (simp; omega)) _, Hu0.out.2.2.1.put 0 _, Below.setCell Hu0.out.2.2.2.1 (by first | omega | (simp; done) | (simp; omega)) _, (by have := Hu0.out.2.2.2.2.1; simpa using this), by simpa using Hu0.out.2.2.2.2.2.far (.inl (by first | omega | (simp; done) | (simp; omega))) _⟩)
  clear hW Hu0
  refine (toFloat32S_row x1 _ _ _ (Holds.below HX1.out Hv1.out.2.2.2.1) l1).mono ?_
  rintro e u1 ⟨b1, rfl, row, hb⟩
  have Hu1 : Hid (Whole u1 w.heap.size 57 #[.slice a0 x0.length c0, .slice a1 x1.length c1, .slice a2 x2.length c2] ∧ Whole u1 (w.heap.size + 1) 60 #[.slice none 0 0, .slice none 0 0, .slice none 0 0] ∧ Whole u1 (w.heap.size + 1 + 1) 60 #[.slice b0 x0.length x0.length, .slice none 0 0, .slice none 0 0] ∧ Below w.heap.size w u1 ∧ w.heap.size + 3 ≤ u1.heap.size ∧ Row u1 (w.heap.size + 3) u1.heap.size b0 (fl .f32 x0) ∧ Row u1 (w.heap.size + 3) u1.heap.size b1 (fl .f32 x1)) := Lib.hid ⟨Whole.below Hv1.out.1 hb, Whole.below Hv1.out.2.1 hb, Whole.below Hv1.out.2.2.1 hb, Bel_next Hv1.out.2.2.2.1 hb, (by have h1 := hb.size; have h2 := Hv1.out.2.2.2.2.1; omega), Row.wide (Row.below Hv1.out.2.2.2.2.2 hb) (Nat.le_refl _) hb.size, Row.wide row Hv1.out.2.2.2.2.1 (Nat.le_refl _)⟩
  clear row hb Hv1
  obtain ⟨hc0, hf0⟩ := Hu1.out.1.facts
  obtain ⟨hc1, hf1⟩ := Hu1.out.2.1.facts
  obtain ⟨hc2, hf2⟩ := Hu1.out.2.2.1.facts
  have hz0 := Hu1.out.1.lt
  have hz1 := Hu1.out.2.1.lt
  have hz2 := Hu1.out.2.2.1.lt
  go_wp2_with fail
  clear hc0 hf0 hc1 hf1 hc2 hf2 hz0 hz1 hz2
  generalize hW : World.setCell _ _ _ = v2
  have Hv2 : Hid (Whole v2 w.heap.size 57 #[.slice a0 x0.length c0, .slice a1 x1.length c1, .slice a2 x2.length c2] ∧ Whole v2 (w.heap.size + 1) 60 #[.slice none 0 0, .slice none 0 0, .slice none 0 0] ∧ Whole v2 (w.heap.size + 1 + 1) 60 #[.slice b0 x0.length x0.length, .slice b1 x1.length x1.length, .slice none 0 0] ∧ Below w.heap.size w v2 ∧ w.heap.size + 3 ≤ v2.heap.size ∧ Row v2 (w.heap.size + 3) v2.heap.size b0 (fl .f32 x0) ∧ Row v2 (w.heap.size + 3) v2.heap.size b1 (fl .f32 x1)) := Lib.hid (by rw [← hW]; exact ⟨Hu1.out.1.far (by first | omega | (simp; done) | (simp; omega)) _, Hu1.out.2.1.far (by first | omega | (simp; done) | (simp; omega)) _, Hu1.out.2.2.1.put 1 _, Below.setCell Hu1.out.2.2.2.1 (by first | omega | (simp; done) | (simp; omega)) _, (by have := Hu1.out.2.2.2.2.1; simpa using this), by simpa using Hu1.out.2.2.2.2.2.1.far (.inl (by first | omega | (simp; done) | (simp; omega))) _, by simpa using Hu1.out.2.2.2.2.2.2.far (.inl (by first | omega | (simp; done) | (simp; omega))) _⟩)
  clear hW Hu1
  refine (toFloat32S_row x2 _ _ _ (Holds.below HX2.out Hv2.out.2.2.2.1) l2).mono ?_
  rintro e u2 ⟨b2, rfl, row, hb⟩
  have Hu2 : Hid (Whole u2 w.heap.size 57 #[.slice a0 x0.length c0, .slice a1 x1.length c1, .slice a2 x2.length c2] ∧ Whole u2 (w.heap.size + 1) 60 #[.slice none 0 0, .slice none 0 0, .slice none 0 0] ∧ Whole u2 (w.heap.size + 1 + 1) 60 #[.slice b0 x0.length x0.length, .slice b1 x1.length x1.length, .slice none 0 0] ∧ Below w.heap.size w u2 ∧ w.heap.size + 3 ≤ u2.heap.size ∧ Row u2 (w.heap.size + 3) u2.heap.size b0 (fl .f32 x0) ∧ Row u2 (w.heap.size + 3) u2.heap.size b1 (fl .f32 x1) ∧ Row u2 (w.heap.size + 3) u2.heap.size b2 (fl .f32 x2)) := Lib.hid ⟨Whole.below Hv2.out.1 hb, Whole.below Hv2.out.2.1 hb, Whole.below Hv2.out.2.2.1 hb, Bel_next Hv2.out.2.2.2.1 hb, (by have h1 := hb.size; have h2 := Hv2.out.2.2.2.2.1; omega), Row.wide (Row.below Hv2.out.2.2.2.2.2.1 hb) (Nat.le_refl _) hb.size, Row.wide (Row.below Hv2.out.2.2.2.2.2.2 hb) (Nat.le_refl _) hb.size, Row.wide row Hv2.out.2.2.2.2.1 (Nat.le_refl _)⟩
  clear row hb Hv2
  obtain ⟨hc0, hf0⟩ := Hu2.out.1.facts
  obtain ⟨hc1, hf1⟩ := Hu2.out.2.1.facts
  obtain ⟨hc2, hf2⟩ := Hu2.out.2.2.1.facts
  have hz0 := Hu2.out.1.lt
  have hz1 := Hu2.out.2.1.lt
  have hz2 := Hu2.out.2.2.1.lt
  go_wp2_with fail
  have HBL := Hu2.out.2.2.2.1
  exact bodyPost_ret (v := .agg #[.slice b0 x0.length x0.length, .slice b1 x1.length x1.length, .slice b2 x2.length x2.length]) (by simp [results, Try.results45, go_sem, hc1]) rfl ⟨b0, b1, b2, rfl, by simpa using Row.wide (((((Hu2.out.2.2.2.2.2.1).far (.inl (by first | omega | (simp; done) | (simp; omega))) _).far (.inl (by first | omega | (simp; done) | (simp; omega))) _).far (.inl (by first | omega | (simp; done) | (simp; omega))) _).far (.inl (by first | omega | (simp; done) | (simp; omega))) _) (lo' := w.heap.size) (by omega) (Nat.le_refl _), by simpa using Row.wide (((((Hu2.out.2.2.2.2.2.2.1).far (.inl (by first | omega | (simp; done) | (simp; omega))) _).far (.inl (by first | omega | (simp; done) | (simp; omega))) _).far (.inl (by first | omega | (simp; done) | (simp; omega))) _).far (.inl (by first | omega | (simp; done) | (simp; omega))) _) (lo' := w.heap.size) (by omega) (Nat.le_refl _), by simpa using Row.wide (((((Hu2.out.2.2.2.2.2.2.2).far (.inl (by first | omega | (simp; done) | (simp; omega))) _).far (.inl (by first | omega | (simp; done) | (simp; omega))) _).far (.inl (by first | omega | (simp; done) | (simp; omega))) _).far (.inl (by first | omega | (simp; done) | (simp; omega))) _) (lo' := w.heap.size) (by omega) (Nat.le_refl _), (by repeat (first | with_reducible exact Below.refl _ _ | with_reducible exact HBL | with_reducible refine Below.drew ?_ | with_reducible refine Bel_drewN ?_ _ | with_reducible refine Below.alloc ?_ (by first | omega | (simp; done) | (simp; omega)) _ | with_reducible refine Below.setCell ?_ (by first | omega | (simp; done) | (simp; omega)) _))⟩
set_option maxRecDepth 100000 in
set_option maxHeartbeats 1000000 in
theorem eqMixture_same (x0 : List Nat) (n0 : Nat) (e0 : x0.length = n0) (a0 b0 : Option Addr) (c0 d0 : Nat) (x1 : List Nat) (n1 : Nat) (e1 : x1.length = n1) (a1 b1 : Option Addr) (c1 d1 : Nat) (x2 : List Nat) (n2 : Nat) (e2 : x2.length = n2) (a2 b2 : Option Addr) (c2 d2 : Nat) (w : World) (h0 : Holds w a0 (fl .f32 x0)) (k0 : Holds w b0 (fl .f32 x0)) (h1 : Holds w a1 (fl .f32 x1)) (k1 : Holds w b1 (fl .f32 x1)) (h2 : Holds w a2 (fl .f32 x2)) (k2 : Holds w b2 (fl .f32 x2)) (l0 : n0 ≤ 1048576) (l1 : n1 ≤ 1048576) (l2 : n2 ≤ 1048576) :
    Calls Try.prog 47 #[.agg #[.slice a0 n0 c0, .slice a1 n1 c1, .slice a2 n2 c2], .agg #[.slice b0 n0 d0, .slice b1 n1 d1, .slice b2 n2 d2]] w (RetB (.bool true) w) := by
  have HX0 := Lib.hid (And.intro h0 (And.intro k0 e0))
  have HX1 := Lib.hid (And.intro h1 (And.intro k1 e1))
  have HX2 := Lib.hid (And.intro h2 (And.intro k2 e2))
  clear h0 k0 e0 h1 k1 e1 h2 k2 e2
  go_enter Try.func47, Try.ntmps47
  go_wp2_with fail
  generalize hW : World.alloc (World.alloc _ _) _ = v0
  have H0 : Hid (Whole v0 w.heap.size 60 #[.slice a0 n0 c0, .slice a1 n1 c1, .slice a2 n2 c2] ∧ Whole v0 (w.heap.size + 1) 60 #[.slice b0 n0 d0, .slice b1 n1 d1, .slice b2 n2 d2] ∧ Below w.heap.size w v0) := Lib.hid (by rw [← hW]; exact ⟨(Whole.made _ _ _).alloc _, Whole.made2 _ _ _ _, (by repeat (first | with_reducible exact Below.refl _ _ | with_reducible exact HBL | with_reducible refine Below.drew ?_ | with_reducible refine Bel_drewN ?_ _ | with_reducible refine Below.alloc ?_ (by first | omega | (simp; done) | (simp; omega)) _ | with_reducible refine Below.setCell ?_ (by first | omega | (simp; done) | (simp; omega)) _))⟩)
  clear hW
  refine (eqFloat32S_same x0 n0 HX0.out.2.2 _ _ _ _ _ (Holds.below HX0.out.1 H0.out.2.2) (Holds.below HX0.out.2.1 H0.out.2.2) (by omega)).mono ?_
  rintro e u0 ⟨rfl, hb⟩
  have Hu0 : Hid (Whole u0 w.heap.size 60 #[.slice a0 n0 c0, .slice a1 n1 c1, .slice a2 n2 c2] ∧ Whole u0 (w.heap.size + 1) 60 #[.slice b0 n0 d0, .slice b1 n1 d1, .slice b2 n2 d2] ∧ Below w.heap.size w u0) := Lib.hid ⟨H0.out.1.below hb, H0.out.2.1.below hb, Bel_next H0.out.2.2 hb⟩
  clear hb H0
  obtain ⟨hc0, hf0⟩ := Hu0.out.1.facts
  obtain ⟨hc1, hf1⟩ := Hu0.out.2.1.facts
  go_wp2_with fail
  clear hc0 hf0 hc1 hf1
  refine (eqFloat32S_same x1 n1 HX1.out.2.2 _ _ _ _ _ (Holds.below HX1.out.1 Hu0.out.2.2) (Holds.below HX1.out.2.1 Hu0.out.2.2) (by omega)).mono ?_
  rintro e u1 ⟨rfl, hb⟩
  have Hu1 : Hid (Whole u1 w.heap.size 60 #[.slice a0 n0 c0, .slice a1 n1 c1, .slice a2 n2 c2] ∧ Whole u1 (w.heap.size + 1) 60 #[.slice b0 n0 d0, .slice b1 n1 d1, .slice b2 n2 d2] ∧ Below w.heap.size w u1) := Lib.hid ⟨Hu0.out.1.below hb, Hu0.out.2.1.below hb, Bel_next Hu0.out.2.2 hb⟩
  clear hb Hu0
  obtain ⟨hc0, hf0⟩ := Hu1.out.1.facts
  obtain ⟨hc1, hf1⟩ := Hu1.out.2.1.facts
  go_wp2_with fail
  clear hc0 hf0 hc1 hf1
  refine (eqFloat32S_same x2 n2 HX2.out.2.2 _ _ _ _ _ (Holds.below HX2.out.1 Hu1.out.2.2) (Holds.below HX2.out.2.1 Hu1.out.2.2) (by omega)).mono ?_
  rintro e u2 ⟨rfl, hb⟩
  have Hu2 : Hid (Whole u2 w.heap.size 60 #[.slice a0 n0 c0, .slice a1 n1 c1, .slice a2 n2 c2] ∧ Whole u2 (w.heap.size + 1) 60 #[.slice b0 n0 d0, .slice b1 n1 d1, .slice b2 n2 d2] ∧ Below w.heap.size w u2) := Lib.hid ⟨Hu1.out.1.below hb, Hu1.out.2.1.below hb, Bel_next Hu1.out.2.2 hb⟩
  clear hb Hu1
  obtain ⟨hc0, hf0⟩ := Hu2.out.1.facts
  obtain ⟨hc1, hf1⟩ := Hu2.out.2.1.facts
  go_wp2_with fail
  have HBL := Hu2.out.2.2
  go_ret
  exact ⟨rfl, (by repeat (first | with_reducible exact Below.refl _ _ | with_reducible exact HBL | with_reducible refine Below.drew ?_ | with_reducible refine Bel_drewN ?_ _ | with_reducible refine Below.alloc ?_ (by first | omega | (simp; done) | (simp; omega)) _ | with_reducible refine Below.setCell ?_ (by first | omega | (simp; done) | (simp; omega)) _))⟩
end Go.Proofs.Ytlnhobikejbkkaa
