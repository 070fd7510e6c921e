/- An index at once: AliasSeed. -/
import Derived.Test.YtlipdegiihojfaaVa
import Derived.Test.YtlipdegiihojfaaBw
namespace Go.Proofs.Ytlipdegiihojfaa
open Go Go.RowKit Fl Vag
set_option linter.unusedVariables false

/-- What is picked: the index, or the other one. -/
def pickO (k : Int) (A B x : Nat) (xs : List Nat) (ys : List Int) : Int := if ltB (shK k A B) (xs[x]?.getD 0) = true then (x : Int) else ys[x]?.getD 0
def aliC (k : Int) (a b : Nat) (xs : List Nat) (ys : List Int) (A B x : Nat) : Prop := isAli xs ys ∧ vSeed k a b = true ∧ belowO k a b xs.length = some (A, B, x)
set_option maxRecDepth 100000 in
set_option maxHeartbeats 2000000 in
theorem implAliasSeed_yes (k : Int) (a b : Nat) (xs : List Nat) (ys : List Int) (m : Nat) (hm : ys.length = m) (ao bo : Option Addr) (c d A B x : Nat) (w : World) (ha : a < 18446744073709551616) (hb : b < 18446744073709551616) (hx : Holds w ao (fl .f32 xs)) (hy : Holds w bo (il ys)) (hC : aliC k a b xs ys A B x) :
    Calls Try.prog 38 #[sd k a b, .agg #[.slice ao xs.length c, .slice bo m d]] w (RetB (.tuple #[sd k (nxA k A B) (nxB k A B), .int .i64 (pickO k A B x xs ys), .bool true]) w) := by
  have HX := Lib.hid (And.intro hx (And.intro hy hm))
  have HC := Lib.hid hC
  have HS : Hid (sOk k a b) := Lib.hid ⟨hC.2.1, ha, hb⟩
  have hl64 : xs.length ≤ 64 := hC.1.1.2
  have hl1 : 1 ≤ xs.length := hC.1.1.1
  obtain ⟨hso, hxl⟩ := belowO_ok hC.2.2 HS.out hl1
  have HSo := Lib.hid hso
  obtain rfl : m = xs.length := hm.symm.trans hC.1.2.1
  clear hx hy hm hC hso ha hb
  go_enter Try.func38, Try.ntmps38
  go_wp2_with (first | (go_at_call 30; fail))
  generalize hW : World.alloc (World.alloc (World.alloc _ _) _) _ = w0
  have H0 : Hid (Below w.heap.size w w0 ∧ Whole w0 w.heap.size 26 (sdC k a b) ∧ Whole w0 (w.heap.size + 1) 43 #[.slice ao xs.length c, .slice bo xs.length d] ∧ Whole w0 (w.heap.size + 1 + 1) 26 (sdC 0 0 0)) := Lib.hid (by
    rw [← hW]
    exact ⟨(by repeat (first | with_reducible exact Below.refl _ _ | with_reducible exact HBL | with_reducible refine Below.drew ?_ | with_reducible refine Bel_drewN ?_ _ | with_reducible refine Below.alloc ?_ (by first | omega | (simp; done) | (simp; omega)) _ | with_reducible refine Below.setCell ?_ (by first | omega | (simp; done) | (simp; omega)) _)), ((Whole.made _ _ _).alloc _).alloc _, (Whole.made2 _ _ _ _).alloc _, Whole.made3 _ _ _ _ _⟩)
  clear hW
  refine (implValidAlias_any xs ys _ HX.out.2.2 ao bo c d _ (HX.out.1.below H0.out.1) (HX.out.2.1.below H0.out.1) (by omega) (by omega)).mono ?_
  rintro e w1 ⟨q, rfl, hq, hb⟩
  obtain rfl : q = true := hq.2 HC.out.1
  clear hq
  have H1 : Hid (Below w.heap.size w w1 ∧ Whole w1 w.heap.size 26 (sdC k a b) ∧ Whole w1 (w.heap.size + 1) 43 #[.slice ao xs.length c, .slice bo xs.length d] ∧ Whole w1 (w.heap.size + 1 + 1) 26 (sdC 0 0 0)) := Lib.hid
    ⟨Bel_next H0.out.1 hb, H0.out.2.1.below hb, H0.out.2.2.1.below hb, H0.out.2.2.2.below hb⟩
  clear hb H0
  obtain ⟨hc0, hf0⟩ := H1.out.2.1.facts
  obtain ⟨hc1, hf1⟩ := H1.out.2.2.1.facts
  have hz0 := H1.out.2.1.lt
  have hz1 := H1.out.2.2.1.lt
  have hz2 := H1.out.2.2.2.lt
  go_wp2_with (first | (go_at_call 83; fail))
  clear hc0 hf0 hc1 hf1 hz0 hz1 hz2
  refine (implBelow_some k a b xs.length A B x _ HS.out (by omega) HC.out.2.2).mono ?_
  rintro e w2 ⟨rfl, hb⟩
  have H2 : Hid (Below w.heap.size w w2 ∧ Whole w2 w.heap.size 26 (sdC k a b) ∧ Whole w2 (w.heap.size + 1) 43 #[.slice ao xs.length c, .slice bo xs.length d] ∧ Whole w2 (w.heap.size + 1 + 1) 26 (sdC 0 0 0)) := Lib.hid
    ⟨Bel_next H1.out.1 hb, H1.out.2.1.below hb, H1.out.2.2.1.below hb, H1.out.2.2.2.below hb⟩
  clear hb H1
  obtain ⟨hc0, hf0⟩ := H2.out.2.1.facts
  obtain ⟨hc1, hf1⟩ := H2.out.2.2.1.facts
  have hz0 := H2.out.2.1.lt
  have hz1 := H2.out.2.2.1.lt
  have hz2 := H2.out.2.2.2.lt
  go_wp2_with (first | (go_at_call 63; fail))
  clear hc0 hf0 hc1 hf1 hz0 hz1 hz2
  generalize hW : World.setCell (World.setCell (World.setCell _ _ _) _ _) _ _ = w3
  have H3 : Hid (Below w.heap.size w w3 ∧ Whole w3 w.heap.size 26 (sdC k A B) ∧ Whole w3 (w.heap.size + 1) 43 #[.slice ao xs.length c, .slice bo xs.length d] ∧ Whole w3 (w.heap.size + 1 + 1) 26 (sdC 0 0 0)) := Lib.hid (by
    rw [← hW]
    obtain ⟨HBL, q0, q1, q2⟩ := H2.out
    exact ⟨(by repeat (first | with_reducible exact Below.refl _ _ | with_reducible exact HBL | with_reducible refine Below.drew ?_ | with_reducible refine Bel_drewN ?_ _ | with_reducible refine Below.alloc ?_ (by first | omega | (simp; done) | (simp; omega)) _ | with_reducible refine Below.setCell ?_ (by first | omega | (simp; done) | (simp; omega)) _)), ((q0.put 0 _).put 1 _).put 2 _, ((q1.far (by first | omega | (simp; done) | (simp; omega)) _).far (by first | omega | (simp; done) | (simp; omega)) _).far (by first | omega | (simp; done) | (simp; omega)) _, ((q2.far (by first | omega | (simp; done) | (simp; omega)) _).far (by first | omega | (simp; done) | (simp; omega)) _).far (by first | omega | (simp; done) | (simp; omega)) _⟩)
  clear hW H2
  refine (drawShare_any _ _ _ _ HSo.out).mono ?_
  rintro e w4 ⟨rfl, hb⟩
  have H4 : Hid (Below w.heap.size w w4 ∧ Whole w4 w.heap.size 26 (sdC k A B) ∧ Whole w4 (w.heap.size + 1) 43 #[.slice ao xs.length c, .slice bo xs.length d] ∧ Whole w4 (w.heap.size + 1 + 1) 26 (sdC 0 0 0)) := Lib.hid
    ⟨Bel_next H3.out.1 hb, H3.out.2.1.below hb, H3.out.2.2.1.below hb, H3.out.2.2.2.below hb⟩
  clear hb H3
  obtain ⟨hc0, hf0⟩ := H4.out.2.1.facts
  obtain ⟨hc1, hf1⟩ := H4.out.2.2.1.facts
  obtain ⟨hc2, hf2⟩ := H4.out.2.2.2.facts
  have hz0 := H4.out.2.1.lt
  have hz1 := H4.out.2.2.1.lt
  have hz2 := H4.out.2.2.2.lt
  obtain ⟨bb, o, rfl, hc⟩ := HX.out.1 x (by simpa [fl] using hxl)
  obtain ⟨b', o', rfl, hc'⟩ := HX.out.2.1 x (by have := HX.out.2.2; simp [il]; omega)
  have hbl := World.block_lt_of_cell? _ _ hc
  have hbl' := World.block_lt_of_cell? _ _ hc'
  rw [← H4.out.1.cell (p := ⟨bb, o + x, none⟩) hbl] at hc
  rw [← H4.out.1.cell (p := ⟨b', o' + x, none⟩) hbl'] at hc'
  rw [fl_get _ _ _ hxl] at hc
  rw [il_get _ _ (by have := HX.out.2.2; omega)] at hc'
  have HI : Hid (pickO k A B x xs ys = if ltB (shK k A B) (xs[x]?.getD 0) = true then (x : Int) else ys[x]?.getD 0) := Lib.hid rfl
  generalize xs[x]?.getD 0 = xv at *
  generalize ys[x]?.getD 0 = yv at *
  generalize pickO k A B x xs ys = I at *
  have hbl2 : bb < w.heap.size := hbl
  have hbl2' : b' < w.heap.size := hbl'
  have hne1 : ¬ bb = w.heap.size := by omega
  have hne2 : ¬ b' = w.heap.size := by omega
  cases hlt : ltB (shK k A B) xv with
  | true =>
    have HL := Lib.hid hlt
    have hlt' : (FloatKind.f32.format.order (shK k A B) xv == some Ordering.lt) = true := hlt
    clear hlt
    go_wp2_with fail
    obtain ⟨HBL, q0, q1, q2⟩ := H4.out
    exact bodyPost_ret (v := .tuple #[sd k (nxA k A B) (nxB k A B), .int .i64 I, .bool true]) (by rw [HI.out, if_pos HL.out]; simp [results, Try.results38, go_sem, hc2]) rfl ⟨rfl, (by repeat (first | with_reducible exact Below.refl _ _ | with_reducible exact HBL | with_reducible refine Below.drew ?_ | with_reducible refine Bel_drewN ?_ _ | with_reducible refine Below.alloc ?_ (by first | omega | (simp; done) | (simp; omega)) _ | with_reducible refine Below.setCell ?_ (by first | omega | (simp; done) | (simp; omega)) _))⟩
  | false =>
    have HL := Lib.hid hlt
    have hlt' : (FloatKind.f32.format.order (shK k A B) xv == some Ordering.lt) = false := hlt
    clear hlt
    go_wp2_with fail
    have hne3 : ¬ b' = w.heap.size + 1 + 1 := by omega
    have hne4 : ¬ b' = w.heap.size + 1 := by omega
    go_region
    all_goals
      go_wp2_with fail
      obtain ⟨HBL, q0, q1, q2⟩ := H4.out
      exact bodyPost_ret (v := .tuple #[sd k (nxA k A B) (nxB k A B), .int .i64 I, .bool true]) (by rw [HI.out, if_neg (by rw [HL.out]; exact Bool.false_ne_true)]; simp [results, Try.results38, go_sem, hc2]) rfl ⟨rfl, (by repeat (first | with_reducible exact Below.refl _ _ | with_reducible exact HBL | with_reducible refine Below.drew ?_ | with_reducible refine Bel_drewN ?_ _ | with_reducible refine Below.alloc ?_ (by first | omega | (simp; done) | (simp; omega)) _ | with_reducible refine Below.setCell ?_ (by first | omega | (simp; done) | (simp; omega)) _))⟩
set_option maxRecDepth 100000 in
set_option maxHeartbeats 2000000 in
theorem implAliasSeed_no (k : Int) (a b : Nat) (xs : List Nat) (ys : List Int) (m : Nat) (hm : ys.length = m) (ao bo : Option Addr) (c d : Nat) (w : World) (ha : a < 18446744073709551616) (hb : b < 18446744073709551616) (hx : Holds w ao (fl .f32 xs)) (hy : Holds w bo (il ys)) (hlen : xs.length ≤ 1048576) (hml : m ≤ 1048576) (hC : ¬∃ A B x, aliC k a b xs ys A B x) :
    Calls Try.prog 38 #[sd k a b, .agg #[.slice ao xs.length c, .slice bo m d]] w (RetB (.tuple #[sd 0 0 0, .int .i64 0, .bool false]) w) := by
  have HX := Lib.hid (And.intro hx (And.intro hy hm))
  have HC := Lib.hid (And.intro hC (And.intro ha hb))
  clear hx hy hm hC ha hb
  go_enter Try.func38, Try.ntmps38
  go_wp2_with (first | (go_at_call 30; fail))
  generalize hW : World.alloc (World.alloc (World.alloc _ _) _) _ = w0
  have H0 : Hid (Below w.heap.size w w0 ∧ Whole w0 w.heap.size 26 (sdC k a b) ∧ Whole w0 (w.heap.size + 1) 43 #[.slice ao xs.length c, .slice bo m d] ∧ Whole w0 (w.heap.size + 1 + 1) 26 (sdC 0 0 0)) := Lib.hid (by
    rw [← hW]
    exact ⟨(by repeat (first | with_reducible exact Below.refl _ _ | with_reducible exact HBL | with_reducible refine Below.drew ?_ | with_reducible refine Bel_drewN ?_ _ | with_reducible refine Below.alloc ?_ (by first | omega | (simp; done) | (simp; omega)) _ | with_reducible refine Below.setCell ?_ (by first | omega | (simp; done) | (simp; omega)) _)), ((Whole.made _ _ _).alloc _).alloc _, (Whole.made2 _ _ _ _).alloc _, Whole.made3 _ _ _ _ _⟩)
  clear hW
  refine (implValidAlias_any xs ys _ HX.out.2.2 ao bo c d _ (HX.out.1.below H0.out.1) (HX.out.2.1.below H0.out.1) (by omega) (by omega)).mono ?_
  rintro e w1 ⟨q, rfl, hq, hb⟩
  have H1 : Hid (Below w.heap.size w w1 ∧ Whole w1 w.heap.size 26 (sdC k a b) ∧ Whole w1 (w.heap.size + 1) 43 #[.slice ao xs.length c, .slice bo m d] ∧ Whole w1 (w.heap.size + 1 + 1) 26 (sdC 0 0 0)) := Lib.hid
    ⟨Bel_next H0.out.1 hb, H0.out.2.1.below hb, H0.out.2.2.1.below hb, H0.out.2.2.2.below hb⟩
  clear hb H0
  obtain ⟨hc0, hf0⟩ := H1.out.2.1.facts
  obtain ⟨hc1, hf1⟩ := H1.out.2.2.1.facts
  obtain ⟨hc2, hf2⟩ := H1.out.2.2.2.facts
  have hz0 := H1.out.2.1.lt
  have hz1 := H1.out.2.2.1.lt
  have hz2 := H1.out.2.2.2.lt
  cases q with
  | false =>
    clear hq
    go_wp2_with fail
    obtain ⟨HBL, q0, q1, q2⟩ := H1.out
    exact bodyPost_ret (v := .tuple #[sd 0 0 0, .int .i64 0, .bool false]) (by simp [results, Try.results38, go_sem, hc2]) rfl ⟨rfl, (by repeat (first | with_reducible exact Below.refl _ _ | with_reducible exact HBL | with_reducible refine Below.drew ?_ | with_reducible refine Bel_drewN ?_ _ | with_reducible refine Below.alloc ?_ (by first | omega | (simp; done) | (simp; omega)) _ | with_reducible refine Below.setCell ?_ (by first | omega | (simp; done) | (simp; omega)) _))⟩
  | true =>
    have HQ := Lib.hid (hq.1 rfl)
    clear hq
    clear hc2 hf2
    have HN : Hid (∀ v : World, Calls Try.prog 83 #[sd k a b, .int .i64 xs.length] v (RetB (.tuple #[sd 0 0 0, .int .i64 0, .bool false]) v)) := Lib.hid (fun v => by
      have hq := HQ.out.1
      by_cases hv : vSeed k a b = true
      · cases hb : belowO k a b xs.length with
        | none => exact implBelow_nil k a b xs.length v ⟨hv, HC.out.2.1, HC.out.2.2⟩ (by omega) hb
        | some z => exact absurd ⟨z.1, z.2.1, z.2.2, HQ.out, hv, hb⟩ HC.out.1
      · exact implBelow_no k a b _ v (fun h => hv h.1))
    go_wp2_with (first | (go_at_call 83; fail))
    clear hc0 hf0 hc1 hf1 hz0 hz1 hz2
    refine (HN.out _).mono ?_
    rintro e w2 ⟨rfl, hb⟩
    have H2 : Hid (Below w.heap.size w w2 ∧ Whole w2 w.heap.size 26 (sdC k a b) ∧ Whole w2 (w.heap.size + 1) 43 #[.slice ao xs.length c, .slice bo m d] ∧ Whole w2 (w.heap.size + 1 + 1) 26 (sdC 0 0 0)) := Lib.hid
      ⟨Bel_next H1.out.1 hb, H1.out.2.1.below hb, H1.out.2.2.1.below hb, H1.out.2.2.2.below hb⟩
    clear hb H1
    obtain ⟨hc0, hf0⟩ := H2.out.2.1.facts
    obtain ⟨hc1, hf1⟩ := H2.out.2.2.1.facts
    obtain ⟨hc2, hf2⟩ := H2.out.2.2.2.facts
    have hz0 := H2.out.2.1.lt
    have hz1 := H2.out.2.2.1.lt
    have hz2 := H2.out.2.2.2.lt
    go_wp2_with fail
    obtain ⟨HBL, q0, q1, q2⟩ := H2.out
    exact bodyPost_ret (v := .tuple #[sd 0 0 0, .int .i64 0, .bool false]) (by simp [results, Try.results38, go_sem, hc2]) rfl ⟨rfl, (by repeat (first | with_reducible exact Below.refl _ _ | with_reducible exact HBL | with_reducible refine Below.drew ?_ | with_reducible refine Bel_drewN ?_ _ | with_reducible refine Below.alloc ?_ (by first | omega | (simp; done) | (simp; omega)) _ | with_reducible refine Below.setCell ?_ (by first | omega | (simp; done) | (simp; omega)) _))⟩
/-- The index that is picked, and the seed behind it. -/
def PickP (g : Nat) (k : Int) (A B : Nat) (I : Int) (w : World) (e : Ending) (w' : World) : Prop :=
  e = .returned (.tuple #[.int .i64 I, .bool true]) ∧ Whole w' g 26 (sdC k (nxA k A B) (nxB k A B)) ∧ w.grownBy w' (some g)
set_option maxRecDepth 100000 in
set_option maxHeartbeats 2000000 in
theorem l03Pick_yes (k : Int) (a b : Nat) (xs : List Nat) (ys : List Int) (m : Nat) (hm : ys.length = m) (ao bo : Option Addr) (c d g h A B x : Nat) (w : World) (hgh : g ≠ h) (hag : ∀ p : Addr, ao = some p → p.block ≠ g) (hbg : ∀ p : Addr, bo = some p → p.block ≠ g) (ha : a < 18446744073709551616) (hb : b < 18446744073709551616) (hw : Whole w g 26 (sdC k a b)) (hu : Whole w h 43 #[.slice ao xs.length c, .slice bo m d]) (hx : Holds w ao (fl .f32 xs)) (hy : Holds w bo (il ys)) (hC : aliC k a b xs ys A B x) :
    Calls Try.prog 82 #[.pointer (some ⟨g, 0, none⟩), .pointer (some ⟨h, 0, none⟩)] w (PickP g k A B (pickO k A B x xs ys) w) := by
  have HX := Lib.hid (And.intro hx (And.intro hy hm))
  have HC := Lib.hid hC
  have HS : Hid (sOk k a b) := Lib.hid ⟨hC.2.1, ha, hb⟩
  have hl64 : xs.length ≤ 64 := hC.1.1.2
  have hl1 : 1 ≤ xs.length := hC.1.1.1
  obtain ⟨hso, hxl⟩ := belowO_ok hC.2.2 HS.out hl1
  have HSo := Lib.hid hso
  obtain rfl : m = xs.length := hm.symm.trans hC.1.2.1
  obtain ⟨hc1, hf1⟩ := hu.facts
  have H0 := Lib.hid (And.intro hw hu)
  clear hx hy hm hC hso ha hb hw hu
  go_enter Try.func82, Try.ntmps82
  go_wp2_with (first | (go_at_call 114; fail))
  clear hc1 hf1
  refine (l02Tried_some g k a b xs.length A B x _ HS.out (by omega) HC.out.2.2 H0.out.1).mono ?_
  rintro e w2 ⟨rfl, q0, hg⟩
  obtain ⟨bb, o, rfl, hc⟩ := (HX.out.1) x (by simpa [fl] using hxl)
  obtain ⟨b', o', rfl, hc'⟩ := (HX.out.2.1) x (by have := HX.out.2.2; simp [il]; omega)
  have hne1 : bb ≠ g := hag _ rfl
  have hne2 : b' ≠ g := hbg _ rfl
  clear hag hbg
  replace hc := World.grownBy.cell hg hc (by simpa using hne1)
  replace hc' := World.grownBy.cell hg hc' (by simpa using hne2)
  have hu2 := H0.out.2.grown hg (by simpa using hgh.symm)
  obtain ⟨hc1, hf1⟩ := hu2.facts
  have hbl : bb < w2.heap.size := World.block_lt_of_cell? _ _ hc
  have hbl' : b' < w2.heap.size := World.block_lt_of_cell? _ _ hc'
  have H2 := Lib.hid (And.intro q0 (And.intro hu2 hg))
  clear q0 hu2 hg H0
  rw [fl_get _ _ _ hxl] at hc
  rw [il_get _ _ (by have := HX.out.2.2; omega)] at hc'
  have HI : Hid (pickO k A B x xs ys = if ltB (shK k A B) (xs[x]?.getD 0) = true then (x : Int) else ys[x]?.getD 0) := Lib.hid rfl
  generalize xs[x]?.getD 0 = xv at *
  generalize ys[x]?.getD 0 = yv at *
  generalize pickO k A B x xs ys = I at *
  go_wp2_with fail
  have hcD : w2.drew.cell? ⟨bb, o + x, none⟩ = some (.float .f32 xv) := hc
  have hcD1 : w2.drew.cell? ⟨h, 0, none⟩ = some (.slice (some ⟨bb, o, none⟩) xs.length c) := hc1 0
  have hcK : Hid (∀ w3 : World, w2.drew.grownBy w3 (some g) → w3.cell? ⟨bb, o + x, none⟩ = some (.float .f32 xv) ∧ w3.cell? ⟨h, 0, none⟩ = some (.slice (some ⟨bb, o, none⟩) xs.length c)) := Lib.hid (fun w3 hg => ⟨hg.cell hcD (by simpa using hne1), hg.cell hcD1 (by simpa using hgh.symm)⟩)
  go_region_with (first | (go_at_call 66; refine (l02Share_any _ _ _ _ _ HSo.out (by exact H2.out.1)).mono ?_; rintro e w3 ⟨rfl, r0, hg3⟩; have hk3 := hcK.out _ hg3; obtain ⟨hk31, hk32⟩ := hk3))
  all_goals
    have hd : w.grownBy w3 (some g) := grown_trans H2.out.2.2 (grown_trans (grown_drew (grown_refl _ _)) hg3)
    have hk41 : w3.cell? ⟨h, 1, none⟩ = some (.slice (some ⟨b', o', none⟩) xs.length d) := hg3.cell (show w2.drew.cell? _ = _ from hc1 1) (by simpa using hgh.symm)
    have hk42 : w3.cell? ⟨b', o' + x, none⟩ = some (.int .i64 yv) := hg3.cell (show w2.drew.cell? _ = _ from hc') (by simpa using hne2)
    have H3 := Lib.hid (And.intro r0 hd)
    clear r0 hd hg3 hc hc' hc1 hf1 hcD hcD1 hcK hk31 hk32 H2
    go_wp2
    · have hl : (FloatKind.f32.format.order (shK k A B) xv == some Ordering.lt) = true := by assumption
      have HL : Hid (ltB (shK k A B) xv = true) := Lib.hid hl
      go_ret2
      exact ⟨by rw [HI.out, if_pos HL.out]; rfl, H3.out⟩
    · have hl : (FloatKind.f32.format.order (shK k A B) xv == some Ordering.lt) = false := by assumption
      have HL : Hid (ltB (shK k A B) xv = false) := Lib.hid hl
      go_ret2
      exact ⟨by rw [HI.out, if_neg (by rw [HL.out]; exact Bool.false_ne_true)]; rfl, H3.out⟩
/-- No index: the seed behind the pointer is not told. -/
theorem l03Pick_no (k : Int) (a b : Nat) (xs : List Nat) (ys : List Int) (m : Nat) (hm : ys.length = m) (ao bo : Option Addr) (c d g h : Nat) (w : World) (hs : sOk k a b) (hA : isAli xs ys) (hw : Whole w g 26 (sdC k a b)) (hu : Whole w h 43 #[.slice ao xs.length c, .slice bo m d]) (hb : belowO k a b xs.length = none) :
    Calls Try.prog 82 #[.pointer (some ⟨g, 0, none⟩), .pointer (some ⟨h, 0, none⟩)] w (TriedN g w) := by
  have HS := Lib.hid (And.intro hs hb)
  have hl64 : xs.length ≤ 64 := hA.1.2
  have hl1 : 1 ≤ xs.length := hA.1.1
  obtain ⟨hc1, hf1⟩ := hu.facts
  have H0 := Lib.hid (And.intro hw hu)
  clear hs hA hw hu hb
  go_enter Try.func82, Try.ntmps82
  go_wp2_with (first | (go_at_call 114; fail))
  clear hc1 hf1
  refine (l02Tried_nil g k a b xs.length _ HS.out.1 (by omega) HS.out.2 H0.out.1).mono ?_
  rintro e w2 ⟨rfl, hg⟩
  have HG := Lib.hid hg
  clear hg
  go_wp2
  go_ret2
  exact ⟨rfl, HG.out⟩
set_option maxRecDepth 100000 in
set_option maxHeartbeats 2000000 in
theorem specAliasSeed_yes (k : Int) (a b : Nat) (xs : List Nat) (ys : List Int) (m : Nat) (hm : ys.length = m) (ao bo : Option Addr) (c d A B x : Nat) (w : World) (ha : a < 18446744073709551616) (hb : b < 18446744073709551616) (hx : Holds w ao (fl .f32 xs)) (hy : Holds w bo (il ys)) (hC : aliC k a b xs ys A B x) :
    Calls Try.prog 37 #[sd k a b, .agg #[.slice ao xs.length c, .slice bo m d]] w (RetB (.tuple #[sd k (nxA k A B) (nxB k A B), .int .i64 (pickO k A B x xs ys), .bool true]) w) := by
  have HX := Lib.hid (And.intro hx (And.intro hy hm))
  have HC := Lib.hid hC
  have HS : Hid (sOk k a b) := Lib.hid ⟨hC.2.1, ha, hb⟩
  have hl64 : xs.length ≤ 64 := hC.1.1.2
  have hl1 : 1 ≤ xs.length := hC.1.1.1
  obtain ⟨hso, hxl⟩ := belowO_ok hC.2.2 HS.out hl1
  have hao : ∀ p : Addr, ao = some p → p.block ≠ w.heap.size := fun p hp => by
    obtain ⟨b1, o1, he, hc⟩ := hx 0 (by simp [fl]; omega)
    rw [hp] at he
    injection he with he
    have := World.block_lt_of_cell? _ _ hc
    rw [he]
    exact Nat.ne_of_lt this
  have hbo : ∀ p : Addr, bo = some p → p.block ≠ w.heap.size := fun p hp => by
    obtain ⟨b1, o1, he, hc⟩ := hy 0 (by have := hC.1.2.1; simp [il]; omega)
    rw [hp] at he
    injection he with he
    have := World.block_lt_of_cell? _ _ hc
    rw [he]
    exact Nat.ne_of_lt this
  have HAB := Lib.hid (And.intro hao (And.intro hbo (And.intro ha hb)))
  obtain rfl : m = xs.length := hm.symm.trans hC.1.2.1
  clear hx hy hm hC hso ha hb hao hbo
  go_enter Try.func37, Try.ntmps37
  go_wp2_with (first | (go_at_call 57; fail))
  generalize hW : World.alloc (World.alloc (World.alloc _ _) _) _ = w0
  have H0 : Hid (Below w.heap.size w w0 ∧ Whole w0 w.heap.size 26 (sdC k a b) ∧ Whole w0 (w.heap.size + 1) 43 #[.slice ao xs.length c, .slice bo xs.length d] ∧ Whole w0 (w.heap.size + 1 + 1) 26 (sdC 0 0 0)) := Lib.hid (by
    rw [← hW]
    exact ⟨(by repeat (first | with_reducible exact Below.refl _ _ | with_reducible exact HBL | with_reducible refine Below.drew ?_ | with_reducible refine Bel_drewN ?_ _ | with_reducible refine Below.alloc ?_ (by first | omega | (simp; done) | (simp; omega)) _ | with_reducible refine Below.setCell ?_ (by first | omega | (simp; done) | (simp; omega)) _)), ((Whole.made _ _ _).alloc _).alloc _, (Whole.made2 _ _ _ _).alloc _, Whole.made3 _ _ _ _ _⟩)
  clear hW
  refine (l02Is_any _ _ _ _ _ H0.out.2.1).mono ?_
  rintro e w1 ⟨rfl, rfl⟩
  rw [HS.out.1]
  go_wp2_with (first | (go_at_call 75; fail))
  refine (l03IsAlias_any xs ys _ HX.out.2.2 ao bo c d _ _ H0.out.2.2.1 (HX.out.1.below H0.out.1) (HX.out.2.1.below H0.out.1) (by omega) (by omega)).mono ?_
  rintro e w1 ⟨q, rfl, hq, rfl⟩
  obtain rfl : q = true := hq.2 HC.out.1
  clear hq
  go_wp2_with (first | (go_at_call 82; fail))
  refine (l03Pick_yes k a b xs ys _ HX.out.2.2 ao bo c d w.heap.size (w.heap.size + 1) A B x _ (by omega) HAB.out.1 HAB.out.2.1 HAB.out.2.2.1 HAB.out.2.2.2 H0.out.2.1 H0.out.2.2.1 (HX.out.1.below H0.out.1) (HX.out.2.1.below H0.out.1) HC.out).mono ?_
  rintro e w2 ⟨rfl, q0, hg⟩
  have H2 : Hid (Below w.heap.size w w2 ∧ Whole w2 w.heap.size 26 (sdC k (nxA k A B) (nxB k A B)) ∧ Whole w2 (w.heap.size + 1 + 1) 26 (sdC 0 0 0)) := Lib.hid
    ⟨Below.grown H0.out.1 hg H0.out.1.size (by simp), q0, H0.out.2.2.2.grown hg (by simp; omega)⟩
  clear q0 hg H0
  obtain ⟨hc0, hf0⟩ := H2.out.2.1.facts
  obtain ⟨hc2, hf2⟩ := H2.out.2.2.facts
  have hz0 := H2.out.2.1.lt
  have hz2 := H2.out.2.2.lt
  go_wp2_with fail
  obtain ⟨HBL, q0, q2⟩ := H2.out
  exact bodyPost_ret (v := .tuple #[sd k (nxA k A B) (nxB k A B), .int .i64 (pickO k A B x xs ys), .bool true]) (by simp [results, Try.results37, go_sem, hc2]) rfl ⟨rfl, (by repeat (first | with_reducible exact Below.refl _ _ | with_reducible exact HBL | with_reducible refine Below.drew ?_ | with_reducible refine Bel_drewN ?_ _ | with_reducible refine Below.alloc ?_ (by first | omega | (simp; done) | (simp; omega)) _ | with_reducible refine Below.setCell ?_ (by first | omega | (simp; done) | (simp; omega)) _))⟩
set_option maxRecDepth 100000 in
set_option maxHeartbeats 2000000 in
theorem specAliasSeed_no (k : Int) (a b : Nat) (xs : List Nat) (ys : List Int) (m : Nat) (hm : ys.length = m) (ao bo : Option Addr) (c d : Nat) (w : World) (ha : a < 18446744073709551616) (hb : b < 18446744073709551616) (hx : Holds w ao (fl .f32 xs)) (hy : Holds w bo (il ys)) (hlen : xs.length ≤ 1048576) (hml : m ≤ 1048576) (hC : ¬∃ A B x, aliC k a b xs ys A B x) :
    Calls Try.prog 37 #[sd k a b, .agg #[.slice ao xs.length c, .slice bo m d]] w (RetB (.tuple #[sd 0 0 0, .int .i64 0, .bool false]) w) := by
  have HX := Lib.hid (And.intro hx (And.intro hy hm))
  have HC := Lib.hid (And.intro hC (And.intro ha hb))
  clear hx hy hm hC ha hb
  go_enter Try.func37, Try.ntmps37
  go_wp2_with (first | (go_at_call 57; fail))
  generalize hW : World.alloc (World.alloc (World.alloc _ _) _) _ = w0
  have H0 : Hid (Below w.heap.size w w0 ∧ Whole w0 w.heap.size 26 (sdC k a b) ∧ Whole w0 (w.heap.size + 1) 43 #[.slice ao xs.length c, .slice bo m d] ∧ Whole w0 (w.heap.size + 1 + 1) 26 (sdC 0 0 0)) := Lib.hid (by
    rw [← hW]
    exact ⟨(by repeat (first | with_reducible exact Below.refl _ _ | with_reducible exact HBL | with_reducible refine Below.drew ?_ | with_reducible refine Bel_drewN ?_ _ | with_reducible refine Below.alloc ?_ (by first | omega | (simp; done) | (simp; omega)) _ | with_reducible refine Below.setCell ?_ (by first | omega | (simp; done) | (simp; omega)) _)), ((Whole.made _ _ _).alloc _).alloc _, (Whole.made2 _ _ _ _).alloc _, Whole.made3 _ _ _ _ _⟩)
  clear hW
  refine (l02Is_any _ _ _ _ _ H0.out.2.1).mono ?_
  rintro e w1 ⟨rfl, rfl⟩
  cases hv : vSeed k a b with
  | false =>
    obtain ⟨hc2, hf2⟩ := H0.out.2.2.2.facts
    have hz2 := H0.out.2.2.2.lt
    go_wp2_with fail
    obtain ⟨HBL, q0, q1, q2⟩ := H0.out
    exact bodyPost_ret (v := .tuple #[sd 0 0 0, .int .i64 0, .bool false]) (by simp [results, Try.results37, go_sem, hc2]) rfl ⟨rfl, (by repeat (first | with_reducible exact Below.refl _ _ | with_reducible exact HBL | with_reducible refine Below.drew ?_ | with_reducible refine Bel_drewN ?_ _ | with_reducible refine Below.alloc ?_ (by first | omega | (simp; done) | (simp; omega)) _ | with_reducible refine Below.setCell ?_ (by first | omega | (simp; done) | (simp; omega)) _))⟩
  | true =>
    have HV := Lib.hid hv
    clear hv
    go_wp2_with (first | (go_at_call 75; fail))
    refine (l03IsAlias_any xs ys _ HX.out.2.2 ao bo c d _ _ H0.out.2.2.1 (HX.out.1.below H0.out.1) (HX.out.2.1.below H0.out.1) (by omega) (by omega)).mono ?_
    rintro e w1 ⟨q, rfl, hq, rfl⟩
    cases q with
    | false =>
      clear hq
      obtain ⟨hc2, hf2⟩ := H0.out.2.2.2.facts
      have hz2 := H0.out.2.2.2.lt
      go_wp2_with fail
      obtain ⟨HBL, q0, q1, q2⟩ := H0.out
      exact bodyPost_ret (v := .tuple #[sd 0 0 0, .int .i64 0, .bool false]) (by simp [results, Try.results37, go_sem, hc2]) rfl ⟨rfl, (by repeat (first | with_reducible exact Below.refl _ _ | with_reducible exact HBL | with_reducible refine Below.drew ?_ | with_reducible refine Bel_drewN ?_ _ | with_reducible refine Below.alloc ?_ (by first | omega | (simp; done) | (simp; omega)) _ | with_reducible refine Below.setCell ?_ (by first | omega | (simp; done) | (simp; omega)) _))⟩
    | true =>
      have HQ := Lib.hid (hq.1 rfl)
      clear hq
      have HB : Hid (belowO k a b xs.length = none) := Lib.hid (by
        cases hb : belowO k a b xs.length with
        | none => rfl
        | some z => exact absurd ⟨z.1, z.2.1, z.2.2, HQ.out, HV.out, hb⟩ HC.out.1)
      go_wp2_with (first | (go_at_call 82; fail))
      refine (l03Pick_no k a b xs ys _ HX.out.2.2 ao bo c d w.heap.size (w.heap.size + 1) _ ⟨HV.out, HC.out.2⟩ HQ.out H0.out.2.1 H0.out.2.2.1 HB.out).mono ?_
      rintro e w2 ⟨rfl, hg⟩
      have H2 : Hid (Below w.heap.size w w2 ∧ Whole w2 (w.heap.size + 1 + 1) 26 (sdC 0 0 0)) := Lib.hid
        ⟨Below.grown H0.out.1 hg H0.out.1.size (by simp), H0.out.2.2.2.grown hg (by simp; omega)⟩
      clear hg H0
      obtain ⟨hc2, hf2⟩ := H2.out.2.facts
      have hz2 := H2.out.2.lt
      go_wp2_with fail
      obtain ⟨HBL, q2⟩ := H2.out
      exact bodyPost_ret (v := .tuple #[sd 0 0 0, .int .i64 0, .bool false]) (by simp [results, Try.results37, go_sem, hc2]) rfl ⟨rfl, (by repeat (first | with_reducible exact Below.refl _ _ | with_reducible exact HBL | with_reducible refine Below.drew ?_ | with_reducible refine Bel_drewN ?_ _ | with_reducible refine Below.alloc ?_ (by first | omega | (simp; done) | (simp; omega)) _ | with_reducible refine Below.setCell ?_ (by first | omega | (simp; done) | (simp; omega)) _))⟩
end Go.Proofs.Ytlipdegiihojfaa
