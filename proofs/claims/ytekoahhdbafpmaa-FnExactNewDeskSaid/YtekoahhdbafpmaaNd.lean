/- NewDesk. -/
import Derived.Test.YtekoahhdbafpmaaDk
namespace Go.Proofs.Ytekoahhdbafpmaa
open Go Go.RowKit Fl Vag
set_option linter.unusedVariables false

set_option maxRecDepth 100000 in
theorem heldTable_marks (x0 : Int) (x1 : Int) (k n : Nat) (ao : Option Addr) (c : Nat) (w : World) (hx : Holds w ao (il (marks k n))) (hk : k + n ≤ 1073741824) :
    Calls Try.prog 44 #[.agg #[.int .i64 x0, .int .i64 x1, .slice ao n c], .int .i64 k] w (RetB (.int .i64 ((k + n : Nat) : Int)) w) := by
  have H := Lib.hid hx
  have HB : Hid (Below w.heap.size w (w.alloc (.cells #[.int .i64 x0, .int .i64 x1, .slice ao n c] 34))) := Lib.hid (by repeat (first | with_reducible exact Below.refl _ _ | with_reducible exact HBL | with_reducible refine Below.drew ?_ | with_reducible refine Bel_drewN ?_ _ | with_reducible refine Below.alloc ?_ (by first | omega | (simp; done) | (simp; omega)) _ | with_reducible refine Below.setCell ?_ (by first | omega | (simp; done) | (simp; omega)) _))
  clear hx
  go_enter Try.func44, Try.ntmps44
  go_wp2_with fail
  refine (heldInt64S_marks k n _ _ _ (H.out.below HB.out) hk).mono ?_
  rintro e w1 ⟨rfl, hb⟩
  have H1 := Lib.hid (Bel_next HB.out hb)
  clear hb
  have hk0 : (0 : Int) ≤ ((k + n : Nat) : Int) := by omega
  go_wp2_with fail
  go_ret
  exact ⟨rfl, H1.out⟩
/-- A new desk, whose lists lie in blocks g0, g1 and g2 of its own. -/
def NewD (w : World) (e : Ending) (w' : World) : Prop :=
  ∃ g0 g1 g2 : Nat, e = .returned (.agg #[.int .i64 0, .int .u64 0, .int .u64 1, .int .i64 2, .int .i64 2, .slice (some ⟨g0, 0, none⟩) 4 4, .slice (some ⟨g1, 0, none⟩) 3 3, .slice (some ⟨g2, 0, none⟩) 2 2]) ∧ (w.heap.size ≤ g0 ∧ g0 < g1 ∧ g1 < g2 ∧ g2 < w'.heap.size) ∧ Row w' g0 (g0 + 1) (some ⟨g0, 0, none⟩) (il [3, 0, 0, 3]) ∧ Row w' g1 (g1 + 1) (some ⟨g1, 0, none⟩) (il [2, 0, 1]) ∧ Row w' g2 (g2 + 1) (some ⟨g2, 0, none⟩) (fl .f32 [1048576000, 1056964608]) ∧ Below w.heap.size w w'
theorem Whole.made5 (w : World) (o o2 o3 o4 : Obj) (t : TypeId) (cs : Array Value) : Whole (((((w.alloc o).alloc o2).alloc o3).alloc o4).alloc (.cells cs t)) (w.heap.size + 1 + 1 + 1 + 1) t cs := by simpa using Whole.made4 (w.alloc o) o2 o3 o4 t cs
theorem row_new {w : World} {t : TypeId} {vs : List Value} (v : World) (g : Nat) (h : Whole v g t vs.toArray) : Row v g (g + 1) (some ⟨g, 0, none⟩) vs :=
  .inr ⟨g, _, t, rfl, Nat.le_refl _, Nat.lt_succ_self _, h, fun i hi => by simp [List.getD, hi]⟩
set_option maxRecDepth 100000 in
theorem implNewDesk_any (w : World) : Calls Try.prog 14 #[] w (NewD w) := by
  go_enter Try.func14, Try.ntmps14
  go_wp2_with fail
  exact bodyPost_ret (v := .agg #[.int .i64 0, .int .u64 0, .int .u64 1, .int .i64 2, .int .i64 2, .slice (some ⟨w.heap.size + 1, 0, none⟩) 4 4, .slice (some ⟨w.heap.size + 1 + 1, 0, none⟩) 3 3, .slice (some ⟨w.heap.size + 1 + 1 + 1, 0, none⟩) 2 2]) (by simp [results, Try.results14, go_sem]) rfl ⟨w.heap.size + 1, w.heap.size + 1 + 1, w.heap.size + 1 + 1 + 1, rfl, by simp, row_new (w := w) _ _ (((Whole.made2 _ _ _ _).alloc _).alloc _), row_new (w := w) _ _ ((Whole.made3 _ _ _ _ _).alloc _), row_new (w := w) _ _ (Whole.made4 _ _ _ _ _ _), (by repeat (first | with_reducible exact Below.refl _ _ | with_reducible exact HBL | with_reducible refine Below.drew ?_ | with_reducible refine Bel_drewN ?_ _ | with_reducible refine Below.alloc ?_ (by first | omega | (simp; done) | (simp; omega)) _ | with_reducible refine Below.setCell ?_ (by first | omega | (simp; done) | (simp; omega)) _))⟩
set_option maxRecDepth 100000 in
theorem specNewDesk_any (w : World) : Calls Try.prog 13 #[] w (NewD w) := by
  go_enter Try.func13, Try.ntmps13
  go_wp2_with fail
  exact bodyPost_ret (v := .agg #[.int .i64 0, .int .u64 0, .int .u64 1, .int .i64 2, .int .i64 2, .slice (some ⟨w.heap.size + 1 + 1, 0, none⟩) 4 4, .slice (some ⟨w.heap.size + 1 + 1 + 1, 0, none⟩) 3 3, .slice (some ⟨w.heap.size + 1 + 1 + 1 + 1, 0, none⟩) 2 2]) (by simp [results, Try.results13, go_sem]) rfl ⟨w.heap.size + 1 + 1, w.heap.size + 1 + 1 + 1, w.heap.size + 1 + 1 + 1 + 1, rfl, by simp; omega, row_new (w := w) _ _ (((Whole.made3 _ _ _ _ _).alloc _).alloc _), row_new (w := w) _ _ ((Whole.made4 _ _ _ _ _ _).alloc _), row_new (w := w) _ _ (Whole.made5 _ _ _ _ _ _ _), (by repeat (first | with_reducible exact Below.refl _ _ | with_reducible exact HBL | with_reducible refine Below.drew ?_ | with_reducible refine Bel_drewN ?_ _ | with_reducible refine Below.alloc ?_ (by first | omega | (simp; done) | (simp; omega)) _ | with_reducible refine Below.setCell ?_ (by first | omega | (simp; done) | (simp; omega)) _))⟩
theorem But.three {a0 b0 a1 b1 a2 b2 lo hi : Nat} {w0 w1 w2 w3 : World} (x : But a0 b0 w0 w1) (y : But a1 b1 w1 w2) (z : But a2 b2 w2 w3) (h0 : lo ≤ a0) (h1 : b0 ≤ hi) (h2 : lo ≤ a1) (h3 : b1 ≤ hi) (h4 : lo ≤ a2) (h5 : b2 ≤ hi) : But lo hi w0 w3 :=
  ⟨z.os.trans (y.os.trans x.os), z.tape.trans (y.tape.trans x.tape), z.output.trans (y.output.trans x.output), Nat.le_trans x.size (Nat.le_trans y.size z.size), fun i hi hn =>
    (z.block i (Nat.lt_of_lt_of_le hi (Nat.le_trans x.size y.size)) (by omega)).trans ((y.block i (Nat.lt_of_lt_of_le hi x.size) (by omega)).trans (x.block i hi (by omega)))⟩
/-- A desk of which the first list holds x, the second y, the third z. -/
structure Nk (v : World) (g0 g1 g2 : Nat) (x y : List Int) (z : List Nat) : Prop where
  a : Row v g0 (g0 + 1) (some ⟨g0, 0, none⟩) (il x)
  b : Row v g1 (g1 + 1) (some ⟨g1, 0, none⟩) (il y)
  c : Row v g2 (g2 + 1) (some ⟨g2, 0, none⟩) (fl .f32 z)
  o : g0 < g1 ∧ g1 < g2 ∧ g2 < v.heap.size
theorem Nk.below {v v' : World} {g0 g1 g2 : Nat} {x y : List Int} {z : List Nat} (h : Nk v g0 g1 g2 x y z) (hb : Below v.heap.size v v') : Nk v' g0 g1 g2 x y z :=
  ⟨h.a.below hb, h.b.below hb, h.c.below hb, ⟨h.o.1, h.o.2.1, Nat.lt_of_lt_of_le h.o.2.2 hb.size⟩⟩
theorem Nk.alloc {v : World} {g0 g1 g2 : Nat} {x y : List Int} {z : List Nat} (h : Nk v g0 g1 g2 x y z) (q : Obj) : Nk (v.alloc q) g0 g1 g2 x y z :=
  h.below (Below.alloc (Below.refl _ _) (Nat.le_refl _) _)
theorem Nk.but {v v' : World} {g0 g1 g2 lo hi : Nat} {x y : List Int} {z : List Nat} (h : Nk v g0 g1 g2 x y z) (hb : But lo hi v v') (h0 : hi ≤ g0 ∨ g2 < lo) : Nk v' g0 g1 g2 x y z := by
  have ho := h.o
  exact ⟨h.a.but hb (by omega), h.b.but hb (by omega), h.c.but hb (by omega), ⟨ho.1, ho.2.1, Nat.lt_of_lt_of_le ho.2.2 hb.size⟩⟩
set_option maxRecDepth 100000 in
set_option maxHeartbeats 1000000 in
theorem markDesk_new (w : World) (g0 g1 g2 : Nat) (x y : List Int) (z : List Nat) (h : Nk w g0 g1 g2 x y z) (hx : x.length = 4) (hy : y.length = 3) (hz : z.length = 2) :
    Calls Try.prog 15 #[.agg #[.int .i64 0, .int .u64 0, .int .u64 1, .int .i64 2, .int .i64 2, .slice (some ⟨g0, 0, none⟩) 4 4, .slice (some ⟨g1, 0, none⟩) 3 3, .slice (some ⟨g2, 0, none⟩) 2 2], .int .i64 1] w (fun e w' => e = .returned (.int .i64 10) ∧ Nk w' g0 g1 g2 (marks 1 4) (marks 5 3) (fmarks 8 2) ∧ But g0 (g2 + 1) w w') := by
  have H0 : Hid (Nk (w.alloc (.cells #[.int .i64 0, .int .u64 0, .int .u64 1, .int .i64 2, .int .i64 2, .slice (some ⟨g0, 0, none⟩) 4 4, .slice (some ⟨g1, 0, none⟩) 3 3, .slice (some ⟨g2, 0, none⟩) 2 2] 36)) g0 g1 g2 x y z ∧ Whole (w.alloc (.cells #[.int .i64 0, .int .u64 0, .int .u64 1, .int .i64 2, .int .i64 2, .slice (some ⟨g0, 0, none⟩) 4 4, .slice (some ⟨g1, 0, none⟩) 3 3, .slice (some ⟨g2, 0, none⟩) 2 2] 36)) w.heap.size 36 #[.int .i64 0, .int .u64 0, .int .u64 1, .int .i64 2, .int .i64 2, .slice (some ⟨g0, 0, none⟩) 4 4, .slice (some ⟨g1, 0, none⟩) 3 3, .slice (some ⟨g2, 0, none⟩) 2 2] ∧ Below w.heap.size w (w.alloc (.cells #[.int .i64 0, .int .u64 0, .int .u64 1, .int .i64 2, .int .i64 2, .slice (some ⟨g0, 0, none⟩) 4 4, .slice (some ⟨g1, 0, none⟩) 3 3, .slice (some ⟨g2, 0, none⟩) 2 2] 36))) := Lib.hid ⟨h.alloc _, Whole.made _ _ _, (by repeat (first | with_reducible exact Below.refl _ _ | with_reducible exact HBL | with_reducible refine Below.drew ?_ | with_reducible refine Bel_drewN ?_ _ | with_reducible refine Below.alloc ?_ (by first | omega | (simp; done) | (simp; omega)) _ | with_reducible refine Below.setCell ?_ (by first | omega | (simp; done) | (simp; omega)) _))⟩
  have ho := h.o
  clear h
  go_enter Try.func15, Try.ntmps15
  go_wp2_with fail
  refine (markTable_row 2 2 1 4 g0 (g0 + 1) _ _ _ H0.out.1.a (by rw [il_len]; exact hx) (by omega)).mono ?_
  rintro e w1 ⟨rfl, row, bt⟩
  have H1 := Lib.hid (And.intro row (And.intro (H0.out.1.b.but bt (by omega)) (And.intro (H0.out.1.c.but bt (by omega)) (And.intro (H0.out.2.1.buts bt (by omega)) (But.first H0.out.2.2 bt)))))
  change Hid (_ ∧ _ ∧ _ ∧ _ ∧ _) at H1
  clear row bt H0
  obtain ⟨hc0, hf0⟩ := H1.out.2.2.2.1.facts
  have hz0 := H1.out.2.2.2.1.lt
  go_wp2_with fail
  refine (markInt64S_row 3 _ 5 _ g1 (g1 + 1) _ _ H1.out.2.1 (by rw [il_len]; exact hy) (by omega)).mono ?_
  rintro e w2 ⟨rfl, row, bt⟩
  have H2 := Lib.hid (And.intro (H1.out.1.but bt (by omega)) (And.intro row (And.intro (H1.out.2.2.1.but bt (by omega)) (And.intro (H1.out.2.2.2.1.buts bt (by omega)) (And.intro H1.out.2.2.2.2 bt)))))
  change Hid (_ ∧ _ ∧ _ ∧ _ ∧ _ ∧ _) at H2
  clear row bt H1 hc0 hf0 hz0
  obtain ⟨hc0, hf0⟩ := H2.out.2.2.2.1.facts
  have hz0 := H2.out.2.2.2.1.lt
  go_wp2_with fail
  refine (markFloat32S_row 2 _ 8 _ g2 (g2 + 1) _ _ H2.out.2.2.1 (by rw [fl_len]; exact hz) (by omega)).mono ?_
  rintro e w3 ⟨rfl, row, bt⟩
  have H3 := Lib.hid (And.intro (H2.out.1.but bt (by omega)) (And.intro (H2.out.2.1.but bt (by omega)) (And.intro row (And.intro H2.out.2.2.2.2.1 (And.intro H2.out.2.2.2.2.2 bt)))))
  change Hid (_ ∧ _ ∧ _ ∧ _ ∧ _ ∧ _) at H3
  clear row bt H2 hc0 hf0 hz0
  go_wp2_with fail
  go_ret
  exact ⟨rfl, ⟨H3.out.1, H3.out.2.1, H3.out.2.2.1, ⟨ho.1, ho.2.1, Nat.lt_of_lt_of_le ho.2.2 (Nat.le_trans H3.out.2.2.2.1.size (Nat.le_trans H3.out.2.2.2.2.1.size H3.out.2.2.2.2.2.size))⟩⟩, But.three H3.out.2.2.2.1 H3.out.2.2.2.2.1 H3.out.2.2.2.2.2 (by omega) (by omega) (by omega) (by omega) (by omega) (by omega)⟩
set_option maxRecDepth 100000 in
set_option maxHeartbeats 1000000 in
theorem heldDesk_new (w : World) (g0 g1 g2 : Nat) (h : Nk w g0 g1 g2 (marks 1 4) (marks 5 3) (fmarks 8 2)) :
    Calls Try.prog 16 #[.agg #[.int .i64 0, .int .u64 0, .int .u64 1, .int .i64 2, .int .i64 2, .slice (some ⟨g0, 0, none⟩) 4 4, .slice (some ⟨g1, 0, none⟩) 3 3, .slice (some ⟨g2, 0, none⟩) 2 2], .int .i64 1] w (RetB (.int .i64 10) w) := by
  have H0 : Hid (Nk (w.alloc (.cells #[.int .i64 0, .int .u64 0, .int .u64 1, .int .i64 2, .int .i64 2, .slice (some ⟨g0, 0, none⟩) 4 4, .slice (some ⟨g1, 0, none⟩) 3 3, .slice (some ⟨g2, 0, none⟩) 2 2] 36)) g0 g1 g2 (marks 1 4) (marks 5 3) (fmarks 8 2) ∧ Whole (w.alloc (.cells #[.int .i64 0, .int .u64 0, .int .u64 1, .int .i64 2, .int .i64 2, .slice (some ⟨g0, 0, none⟩) 4 4, .slice (some ⟨g1, 0, none⟩) 3 3, .slice (some ⟨g2, 0, none⟩) 2 2] 36)) w.heap.size 36 #[.int .i64 0, .int .u64 0, .int .u64 1, .int .i64 2, .int .i64 2, .slice (some ⟨g0, 0, none⟩) 4 4, .slice (some ⟨g1, 0, none⟩) 3 3, .slice (some ⟨g2, 0, none⟩) 2 2] ∧ Below w.heap.size w (w.alloc (.cells #[.int .i64 0, .int .u64 0, .int .u64 1, .int .i64 2, .int .i64 2, .slice (some ⟨g0, 0, none⟩) 4 4, .slice (some ⟨g1, 0, none⟩) 3 3, .slice (some ⟨g2, 0, none⟩) 2 2] 36))) := Lib.hid ⟨h.alloc _, Whole.made _ _ _, (by repeat (first | with_reducible exact Below.refl _ _ | with_reducible exact HBL | with_reducible refine Below.drew ?_ | with_reducible refine Bel_drewN ?_ _ | with_reducible refine Below.alloc ?_ (by first | omega | (simp; done) | (simp; omega)) _ | with_reducible refine Below.setCell ?_ (by first | omega | (simp; done) | (simp; omega)) _))⟩
  clear h
  go_enter Try.func16, Try.ntmps16
  go_wp2_with fail
  refine (heldTable_marks 2 2 1 4 _ _ _ H0.out.1.a.holds (by omega)).mono ?_
  rintro e w1 ⟨rfl, hb⟩
  have H1 := Lib.hid (And.intro (H0.out.1.below hb) (And.intro (H0.out.2.1.below hb) (Bel_next H0.out.2.2 hb)))
  change Hid (_ ∧ _ ∧ _) at H1
  clear hb H0
  obtain ⟨hc0, hf0⟩ := H1.out.2.1.facts
  have hz0 := H1.out.2.1.lt
  go_wp2_with fail
  refine (heldInt64S_marks 5 3 _ _ _ H1.out.1.b.holds (by omega)).mono ?_
  rintro e w2 ⟨rfl, hb⟩
  have H2 := Lib.hid (And.intro (H1.out.1.below hb) (And.intro (H1.out.2.1.below hb) (Bel_next H1.out.2.2 hb)))
  change Hid (_ ∧ _ ∧ _) at H2
  clear hb H1 hc0 hf0 hz0
  obtain ⟨hc0, hf0⟩ := H2.out.2.1.facts
  have hz0 := H2.out.2.1.lt
  go_wp2_with fail
  refine (heldFloat32S_fmarks 8 2 _ _ _ H2.out.1.c.holds (by omega)).mono ?_
  rintro e w3 ⟨rfl, hb⟩
  have H3 := Lib.hid (Bel_next H2.out.2.2 hb)
  clear hb H2 hc0 hf0 hz0
  go_wp2_with fail
  go_ret
  exact ⟨rfl, H3.out⟩
end Go.Proofs.Ytekoahhdbafpmaa
