/- Desks: the laws' helpers. -/
import Derived.Test.YtekoahhdbafpmaaSTable
import Derived.Test.YtekoahhdbafpmaaFq
import Derived.Test.YtekoahhdbafpmaaSe
namespace Go.Proofs.Ytekoahhdbafpmaa
open Go Go.RowKit Fl Vag
set_option linter.unusedVariables false

/-- The cells of a desk. -/
def dkC (k : Int) (a b : Nat) (r c : Int) (x y z : Value) : Array Value := #[.int .i64 k, .int .u64 (a : Int), .int .u64 (b : Int), .int .i64 r, .int .i64 c, x, y, z]
set_option maxRecDepth 100000 in
set_option maxHeartbeats 1000000 in
theorem szDesk_yes (k : Int) (a b : Nat) (r c : Int) (xs : List Int) (ax : Option Addr) (cx : Nat) (ys : List Int) (ay : Option Addr) (cy : Nat) (zs : List Nat) (az : Option Addr) (cz : Nat) (l : Nat) (w : World) (h : xs.length + ys.length + zs.length ≤ l) (hl : l ≤ 1048576) :
    Calls Try.prog 6 #[.agg #[.int .i64 k, .int .u64 (a : Int), .int .u64 (b : Int), .int .i64 r, .int .i64 c, .slice ax xs.length cx, .slice ay ys.length cy, .slice az zs.length cz], .int .i64 l] w (RetB (.int .i64 ((l - (xs.length + ys.length + zs.length) : Nat) : Int)) w) := by
  obtain ⟨q0, hq0⟩ : ∃ q, l = xs.length + q := ⟨l - xs.length, by omega⟩
  obtain ⟨q1, hq1⟩ : ∃ q, q0 = ys.length + q := ⟨q0 - ys.length, by omega⟩
  obtain ⟨q2, hq2⟩ : ∃ q, q1 = zs.length + q := ⟨q1 - zs.length, by omega⟩
  have b0 : q0 ≤ 1048576 := by omega
  have b1 : q1 ≤ 1048576 := by omega
  have b2 : q2 ≤ 1048576 := by omega
  have i0 : (0 : Int) ≤ (q0 : Int) := by omega
  have i1 : (0 : Int) ≤ (q1 : Int) := by omega
  have i2 : (0 : Int) ≤ (q2 : Int) := by omega
  have HE : Hid (l - (xs.length + ys.length + zs.length) = q2 ∧ l - xs.length = q0) := Lib.hid (by omega)
  have HQ := Lib.hid (And.intro hq0 (And.intro hq1 hq2))
  have HT : Hid (∀ w : World, Calls Try.prog 17 #[.agg #[.int .i64 r, .int .i64 c, .slice ax xs.length cx], .int .i64 l] w (RetB (.int .i64 (q0 : Int)) w)) := Lib.hid (fun w => HE.out.2 ▸ szTable_yes r c xs ax cx l w (by omega) hl)
  have H0 : Hid (Whole (w.alloc (.cells #[.int .i64 k, .int .u64 (a : Int), .int .u64 (b : Int), .int .i64 r, .int .i64 c, .slice ax xs.length cx, .slice ay ys.length cy, .slice az zs.length cz] 30)) w.heap.size 30 #[.int .i64 k, .int .u64 (a : Int), .int .u64 (b : Int), .int .i64 r, .int .i64 c, .slice ax xs.length cx, .slice ay ys.length cy, .slice az zs.length cz] ∧ Below w.heap.size w (w.alloc (.cells #[.int .i64 k, .int .u64 (a : Int), .int .u64 (b : Int), .int .i64 r, .int .i64 c, .slice ax xs.length cx, .slice ay ys.length cy, .slice az zs.length cz] 30))) := Lib.hid ⟨Whole.made _ _ _, (by repeat (first | with_reducible exact Below.refl _ _ | with_reducible exact HBL | with_reducible refine Below.drew ?_ | with_reducible refine Bel_drewN ?_ _ | with_reducible refine Below.alloc ?_ (by first | omega | (simp; done) | (simp; omega)) _ | with_reducible refine Below.setCell ?_ (by first | omega | (simp; done) | (simp; omega)) _))⟩
  clear hq0 hq1 hq2 h
  go_enter Try.func6, Try.ntmps6
  go_wp2_with fail
  refine (HT.out _).mono ?_
  rintro e w1 ⟨rfl, hb⟩
  have H1 := Lib.hid (And.intro (H0.out.1.below hb) (Bel_next H0.out.2 hb))
  clear hb H0 HT
  obtain ⟨hc1, hf1⟩ := H1.out.1.facts
  have hz := H1.out.1.lt
  go_wp2_with fail
  refine (szInt64S_yes _ _ _ _ q1 _ HQ.out.2.1 (by omega)).mono ?_
  rintro e w' ⟨rfl, rfl⟩
  go_wp2_with fail
  refine (szFloat32S_yes _ _ _ _ q2 _ HQ.out.2.2 (by omega)).mono ?_
  rintro e w' ⟨rfl, rfl⟩
  go_wp2_with fail
  go_ret
  have HBL := H1.out.2
  exact ⟨by rw [HE.out.1]; rfl, (by repeat (first | with_reducible exact Below.refl _ _ | with_reducible exact HBL | with_reducible refine Below.drew ?_ | with_reducible refine Bel_drewN ?_ _ | with_reducible refine Below.alloc ?_ (by first | omega | (simp; done) | (simp; omega)) _ | with_reducible refine Below.setCell ?_ (by first | omega | (simp; done) | (simp; omega)) _))⟩
theorem szDesk_no (k : Int) (a b : Nat) (r c : Int) (xs : List Int) (ax : Option Addr) (cx : Nat) (ys : List Int) (ay : Option Addr) (cy : Nat) (zs : List Nat) (az : Option Addr) (cz : Nat) (l : Nat) (w : World) (h : ¬ xs.length + ys.length + zs.length ≤ l) (hl : l ≤ 1048576) (m0 : xs.length ≤ 9223372036854775807) (m1 : ys.length ≤ 9223372036854775807) (m2 : zs.length ≤ 9223372036854775807) :
    Calls Try.prog 6 #[.agg #[.int .i64 k, .int .u64 (a : Int), .int .u64 (b : Int), .int .i64 r, .int .i64 c, .slice ax xs.length cx, .slice ay ys.length cy, .slice az zs.length cz], .int .i64 l] w (RetB (.int .i64 (-1)) w) := by
  have H0 : Hid (Whole (w.alloc (.cells #[.int .i64 k, .int .u64 (a : Int), .int .u64 (b : Int), .int .i64 r, .int .i64 c, .slice ax xs.length cx, .slice ay ys.length cy, .slice az zs.length cz] 30)) w.heap.size 30 #[.int .i64 k, .int .u64 (a : Int), .int .u64 (b : Int), .int .i64 r, .int .i64 c, .slice ax xs.length cx, .slice ay ys.length cy, .slice az zs.length cz] ∧ Below w.heap.size w (w.alloc (.cells #[.int .i64 k, .int .u64 (a : Int), .int .u64 (b : Int), .int .i64 r, .int .i64 c, .slice ax xs.length cx, .slice ay ys.length cy, .slice az zs.length cz] 30))) := Lib.hid ⟨Whole.made _ _ _, (by repeat (first | with_reducible exact Below.refl _ _ | with_reducible exact HBL | with_reducible refine Below.drew ?_ | with_reducible refine Bel_drewN ?_ _ | with_reducible refine Below.alloc ?_ (by first | omega | (simp; done) | (simp; omega)) _ | with_reducible refine Below.setCell ?_ (by first | omega | (simp; done) | (simp; omega)) _))⟩
  by_cases g0 : xs.length ≤ l
  · obtain ⟨q0, hq0⟩ : ∃ q, l = xs.length + q := ⟨l - xs.length, by omega⟩
    have b0 : q0 ≤ 1048576 := by omega
    have i0 : (0 : Int) ≤ (q0 : Int) := by omega
    have HT : Hid (∀ w : World, Calls Try.prog 17 #[.agg #[.int .i64 r, .int .i64 c, .slice ax xs.length cx], .int .i64 l] w (RetB (.int .i64 (q0 : Int)) w)) := Lib.hid (fun w => (show l - xs.length = q0 by omega) ▸ szTable_yes r c xs ax cx l w (by omega) hl)
    by_cases g1 : ys.length ≤ q0
    · obtain ⟨q1, hq1⟩ : ∃ q, q0 = ys.length + q := ⟨q0 - ys.length, by omega⟩
      have b1 : q1 ≤ 1048576 := by omega
      have i1 : (0 : Int) ≤ (q1 : Int) := by omega
      have HQ := Lib.hid (And.intro hq1 (show q1 < zs.length by omega))
      clear hq0 hq1 h g0 g1
      go_enter Try.func6, Try.ntmps6
      go_wp2_with fail
      refine (HT.out _).mono ?_
      rintro e w1 ⟨rfl, hb⟩
      have H1 := Lib.hid (And.intro (H0.out.1.below hb) (Bel_next H0.out.2 hb))
      clear hb H0 HT
      obtain ⟨hc1, hf1⟩ := H1.out.1.facts
      have hz := H1.out.1.lt
      go_wp2_with fail
      refine (szInt64S_yes _ _ _ _ q1 _ HQ.out.1 (by omega)).mono ?_
      rintro e w' ⟨rfl, rfl⟩
      go_wp2_with fail
      refine (szFloat32S_no _ _ _ _ _ HQ.out.2 (by omega) m2).mono ?_
      rintro e w' ⟨rfl, rfl⟩
      go_wp2_with fail
      go_ret
      have HBL := H1.out.2
      exact ⟨rfl, (by repeat (first | with_reducible exact Below.refl _ _ | with_reducible exact HBL | with_reducible refine Below.drew ?_ | with_reducible refine Bel_drewN ?_ _ | with_reducible refine Below.alloc ?_ (by first | omega | (simp; done) | (simp; omega)) _ | with_reducible refine Below.setCell ?_ (by first | omega | (simp; done) | (simp; omega)) _))⟩
    · have HQ := Lib.hid (show q0 < ys.length by omega)
      clear hq0 h g0 g1
      go_enter Try.func6, Try.ntmps6
      go_wp2_with fail
      refine (HT.out _).mono ?_
      rintro e w1 ⟨rfl, hb⟩
      have H1 := Lib.hid (And.intro (H0.out.1.below hb) (Bel_next H0.out.2 hb))
      clear hb H0 HT
      obtain ⟨hc1, hf1⟩ := H1.out.1.facts
      have hz := H1.out.1.lt
      go_wp2_with fail
      refine (szInt64S_no _ _ _ _ _ HQ.out (by omega) m1).mono ?_
      rintro e w' ⟨rfl, rfl⟩
      go_wp2_with fail
      go_ret
      have HBL := H1.out.2
      exact ⟨rfl, (by repeat (first | with_reducible exact Below.refl _ _ | with_reducible exact HBL | with_reducible refine Below.drew ?_ | with_reducible refine Bel_drewN ?_ _ | with_reducible refine Below.alloc ?_ (by first | omega | (simp; done) | (simp; omega)) _ | with_reducible refine Below.setCell ?_ (by first | omega | (simp; done) | (simp; omega)) _))⟩
  · have HQ := Lib.hid g0
    clear h g0
    go_enter Try.func6, Try.ntmps6
    go_wp2_with fail
    refine (szTable_no r c xs ax cx l _ HQ.out hl m0).mono ?_
    rintro e w1 ⟨rfl, hb⟩
    have H1 := Lib.hid (Bel_next H0.out.2 hb)
    clear hb H0
    go_wp2_with fail
    go_ret
    have HBL := H1.out
    exact ⟨rfl, (by repeat (first | with_reducible exact Below.refl _ _ | with_reducible exact HBL | with_reducible refine Below.drew ?_ | with_reducible refine Bel_drewN ?_ _ | with_reducible refine Below.alloc ?_ (by first | omega | (simp; done) | (simp; omega)) _ | with_reducible refine Below.setCell ?_ (by first | omega | (simp; done) | (simp; omega)) _))⟩
/-- A copy in new memory. -/
def ToDesk (k : Int) (a b : Nat) (r c : Int) (xs : List Int) (ys : List Int) (zs : List Nat) (w : World) (e : Ending) (w' : World) : Prop :=
  ∃ b0 b1 b2 : Option Addr, e = .returned (.agg #[.int .i64 k, .int .u64 (a : Int), .int .u64 (b : Int), .int .i64 r, .int .i64 c, .slice b0 xs.length xs.length, .slice b1 ys.length ys.length, .slice b2 zs.length zs.length]) ∧ Row w' w.heap.size w'.heap.size b0 (il xs) ∧ Row w' w.heap.size w'.heap.size b1 (il ys) ∧ Row w' w.heap.size w'.heap.size b2 (fl .f32 zs) ∧ Below w.heap.size w w'
set_option maxRecDepth 100000 in
set_option maxHeartbeats 4000000 in
theorem toDesk_any (k : Int) (a b : Nat) (r c : Int) (xs : List Int) (ax : Option Addr) (cx : Nat) (ys : List Int) (ay : Option Addr) (cy : Nat) (zs : List Nat) (az : Option Addr) (cz : Nat) (w : World) (h0 : Holds w ax (il xs)) (h1 : Holds w ay (il ys)) (h2 : Holds w az (fl .f32 zs)) (l0 : xs.length ≤ 1048576) (l1 : ys.length ≤ 1048576) (l2 : zs.length ≤ 1048576) :
    Calls Try.prog 8 #[.agg #[.int .i64 k, .int .u64 (a : Int), .int .u64 (b : Int), .int .i64 r, .int .i64 c, .slice ax xs.length cx, .slice ay ys.length cy, .slice az zs.length cz]] w (ToDesk k a b r c xs ys zs w) := by
  have HX := Lib.hid (And.intro h0 (And.intro h1 h2))
  clear h0 h1 h2
  go_enter Try.func8, Try.ntmps8
  go_wp2_with fail
  generalize hW : World.alloc (World.alloc (World.alloc _ _) _) _ = v0
  have H0 : Hid (Whole v0 w.heap.size 30 #[.int .i64 k, .int .u64 (a : Int), .int .u64 (b : Int), .int .i64 r, .int .i64 c, .slice ax xs.length cx, .slice ay ys.length cy, .slice az zs.length cz] ∧ Whole v0 (w.heap.size + 1) 36 #[.int .i64 0, .int .u64 0, .int .u64 0, .int .i64 0, .int .i64 0, .slice none 0 0, .slice none 0 0, .slice none 0 0] ∧ Whole v0 (w.heap.size + 1 + 1) 36 #[.int .i64 0, .int .u64 0, .int .u64 0, .int .i64 0, .int .i64 0, .slice none 0 0, .slice none 0 0, .slice none 0 0] ∧ Below w.heap.size w v0 ∧ w.heap.size + 3 ≤ v0.heap.size) := Lib.hid (by rw [← hW]; exact ⟨((Whole.made _ _ _).alloc _).alloc _, (Whole.made2 _ _ _ _).alloc _, by simpa using Whole.made2 (w.alloc _) _ _ _, (by repeat (first | with_reducible exact Below.refl _ _ | with_reducible exact HBL | with_reducible refine Below.drew ?_ | with_reducible refine Bel_drewN ?_ _ | with_reducible refine Below.alloc ?_ (by first | omega | (simp; done) | (simp; omega)) _ | with_reducible refine Below.setCell ?_ (by first | omega | (simp; done) | (simp; omega)) _)), by simp⟩)
  clear hW
  refine (toSeed_ret k a b _).mono ?_
  rintro e u0 ⟨rfl, hb⟩
  have HU0 : Hid (Whole u0 w.heap.size 30 #[.int .i64 k, .int .u64 (a : Int), .int .u64 (b : Int), .int .i64 r, .int .i64 c, .slice ax xs.length cx, .slice ay ys.length cy, .slice az zs.length cz] ∧ Whole u0 (w.heap.size + 1) 36 #[.int .i64 0, .int .u64 0, .int .u64 0, .int .i64 0, .int .i64 0, .slice none 0 0, .slice none 0 0, .slice none 0 0] ∧ Whole u0 (w.heap.size + 1 + 1) 36 #[.int .i64 0, .int .u64 0, .int .u64 0, .int .i64 0, .int .i64 0, .slice none 0 0, .slice none 0 0, .slice none 0 0] ∧ Below w.heap.size w u0 ∧ w.heap.size + 3 ≤ u0.heap.size) := Lib.hid ⟨Whole.below H0.out.1 hb, Whole.below H0.out.2.1 hb, Whole.below H0.out.2.2.1 hb, Bel_next H0.out.2.2.2.1 hb, (by have h1 := hb.size; have h2 := H0.out.2.2.2.2; omega)⟩
  clear hb H0
  obtain ⟨hc0, hf0⟩ := HU0.out.1.facts
  obtain ⟨hc1, hf1⟩ := HU0.out.2.1.facts
  obtain ⟨hc2, hf2⟩ := HU0.out.2.2.1.facts
  have hz0 := HU0.out.1.lt
  have hz1 := HU0.out.2.1.lt
  have hz2 := HU0.out.2.2.1.lt
  go_wp2_with fail
  clear hc0 hf0 hc1 hf1 hc2 hf2 hz0 hz1 hz2
  generalize hW : World.setCell (World.setCell (World.setCell _ _ _) _ _) _ _ = v1
  have HV1 : Hid (Whole v1 w.heap.size 30 #[.int .i64 k, .int .u64 (a : Int), .int .u64 (b : Int), .int .i64 r, .int .i64 c, .slice ax xs.length cx, .slice ay ys.length cy, .slice az zs.length cz] ∧ Whole v1 (w.heap.size + 1) 36 #[.int .i64 0, .int .u64 0, .int .u64 0, .int .i64 0, .int .i64 0, .slice none 0 0, .slice none 0 0, .slice none 0 0] ∧ Whole v1 (w.heap.size + 1 + 1) 36 #[.int .i64 k, .int .u64 (a : Int), .int .u64 (b : Int), .int .i64 0, .int .i64 0, .slice none 0 0, .slice none 0 0, .slice none 0 0] ∧ Below w.heap.size w v1 ∧ w.heap.size + 3 ≤ v1.heap.size) := Lib.hid (by rw [← hW]; exact ⟨(((HU0.out.1).far (by first | omega | (simp; done) | (simp; omega)) _).far (by first | omega | (simp; done) | (simp; omega)) _).far (by first | omega | (simp; done) | (simp; omega)) _, (((HU0.out.2.1).far (by first | omega | (simp; done) | (simp; omega)) _).far (by first | omega | (simp; done) | (simp; omega)) _).far (by first | omega | (simp; done) | (simp; omega)) _, (((HU0.out.2.2.1).put 0 _).put 1 _).put 2 _, (Below.setCell (Below.setCell (Below.setCell HU0.out.2.2.2.1 (by first | omega | (simp; done) | (simp; omega)) _) (by first | omega | (simp; done) | (simp; omega)) _) (by first | omega | (simp; done) | (simp; omega)) _), (by have := HU0.out.2.2.2.2; simpa using this)⟩)
  clear hW HU0
  refine (toTable_any r c xs _ _ _ (Holds.below HX.out.1 HV1.out.2.2.2.1) l0).mono ?_
  rintro e u1 ⟨b0, rfl, row, hb⟩
  have HU1 : Hid (Whole u1 w.heap.size 30 #[.int .i64 k, .int .u64 (a : Int), .int .u64 (b : Int), .int .i64 r, .int .i64 c, .slice ax xs.length cx, .slice ay ys.length cy, .slice az zs.length cz] ∧ Whole u1 (w.heap.size + 1) 36 #[.int .i64 0, .int .u64 0, .int .u64 0, .int .i64 0, .int .i64 0, .slice none 0 0, .slice none 0 0, .slice none 0 0] ∧ Whole u1 (w.heap.size + 1 + 1) 36 #[.int .i64 k, .int .u64 (a : Int), .int .u64 (b : Int), .int .i64 0, .int .i64 0, .slice none 0 0, .slice none 0 0, .slice none 0 0] ∧ Below w.heap.size w u1 ∧ w.heap.size + 3 ≤ u1.heap.size ∧ Row u1 (w.heap.size + 3) u1.heap.size b0 (il xs)) := Lib.hid ⟨Whole.below HV1.out.1 hb, Whole.below HV1.out.2.1 hb, Whole.below HV1.out.2.2.1 hb, Bel_next HV1.out.2.2.2.1 hb, (by have h1 := hb.size; have h2 := HV1.out.2.2.2.2; omega), Row.wide row HV1.out.2.2.2.2 (Nat.le_refl _)⟩
  clear row hb HV1
  obtain ⟨hc0, hf0⟩ := HU1.out.1.facts
  obtain ⟨hc1, hf1⟩ := HU1.out.2.1.facts
  obtain ⟨hc2, hf2⟩ := HU1.out.2.2.1.facts
  have hz0 := HU1.out.1.lt
  have hz1 := HU1.out.2.1.lt
  have hz2 := HU1.out.2.2.1.lt
  go_wp2_with fail
  clear hc0 hf0 hc1 hf1 hc2 hf2 hz0 hz1 hz2
  generalize hW : World.setCell (World.setCell (World.setCell _ _ _) _ _) _ _ = v2
  have HV2 : Hid (Whole v2 w.heap.size 30 #[.int .i64 k, .int .u64 (a : Int), .int .u64 (b : Int), .int .i64 r, .int .i64 c, .slice ax xs.length cx, .slice ay ys.length cy, .slice az zs.length cz] ∧ Whole v2 (w.heap.size + 1) 36 #[.int .i64 0, .int .u64 0, .int .u64 0, .int .i64 0, .int .i64 0, .slice none 0 0, .slice none 0 0, .slice none 0 0] ∧ Whole v2 (w.heap.size + 1 + 1) 36 #[.int .i64 k, .int .u64 (a : Int), .int .u64 (b : Int), .int .i64 r, .int .i64 c, .slice b0 xs.length xs.length, .slice none 0 0, .slice none 0 0] ∧ Below w.heap.size w v2 ∧ w.heap.size + 3 ≤ v2.heap.size ∧ Row v2 (w.heap.size + 3) v2.heap.size b0 (il xs)) := Lib.hid (by rw [← hW]; exact ⟨(((HU1.out.1).far (by first | omega | (simp; done) | (simp; omega)) _).far (by first | omega | (simp; done) | (simp; omega)) _).far (by first | omega | (simp; done) | (simp; omega)) _, (((HU1.out.2.1).far (by first | omega | (simp; done) | (simp; omega)) _).far (by first | omega | (simp; done) | (simp; omega)) _).far (by first | omega | (simp; done) | (simp; omega)) _, (((HU1.out.2.2.1).put 3 _).put 4 _).put 5 _, (Below.setCell (Below.setCell (Below.setCell HU1.out.2.2.2.1 (by first | omega | (simp; done) | (simp; omega)) _) (by first | omega | (simp; done) | (simp; omega)) _) (by first | omega | (simp; done) | (simp; omega)) _), (by have := HU1.out.2.2.2.2.1; simpa using this), by simpa using (((HU1.out.2.2.2.2.2).far (.inl (by first | omega | (simp; done) | (simp; omega))) _).far (.inl (by first | omega | (simp; done) | (simp; omega))) _).far (.inl (by first | omega | (simp; done) | (simp; omega))) _⟩)
  clear hW HU1
  refine (toInt64S_any ys _ _ _ (Holds.below HX.out.2.1 HV2.out.2.2.2.1) l1).mono ?_
  rintro e u2 ⟨b1, rfl, row, hb⟩
  have HU2 : Hid (Whole u2 w.heap.size 30 #[.int .i64 k, .int .u64 (a : Int), .int .u64 (b : Int), .int .i64 r, .int .i64 c, .slice ax xs.length cx, .slice ay ys.length cy, .slice az zs.length cz] ∧ Whole u2 (w.heap.size + 1) 36 #[.int .i64 0, .int .u64 0, .int .u64 0, .int .i64 0, .int .i64 0, .slice none 0 0, .slice none 0 0, .slice none 0 0] ∧ Whole u2 (w.heap.size + 1 + 1) 36 #[.int .i64 k, .int .u64 (a : Int), .int .u64 (b : Int), .int .i64 r, .int .i64 c, .slice b0 xs.length xs.length, .slice none 0 0, .slice none 0 0] ∧ Below w.heap.size w u2 ∧ w.heap.size + 3 ≤ u2.heap.size ∧ Row u2 (w.heap.size + 3) u2.heap.size b0 (il xs) ∧ Row u2 (w.heap.size + 3) u2.heap.size b1 (il ys)) := Lib.hid ⟨Whole.below HV2.out.1 hb, Whole.below HV2.out.2.1 hb, Whole.below HV2.out.2.2.1 hb, Bel_next HV2.out.2.2.2.1 hb, (by have h1 := hb.size; have h2 := HV2.out.2.2.2.2.1; omega), Row.wide (Row.below HV2.out.2.2.2.2.2 hb) (Nat.le_refl _) hb.size, Row.wide row HV2.out.2.2.2.2.1 (Nat.le_refl _)⟩
  clear row hb HV2
  obtain ⟨hc0, hf0⟩ := HU2.out.1.facts
  obtain ⟨hc1, hf1⟩ := HU2.out.2.1.facts
  obtain ⟨hc2, hf2⟩ := HU2.out.2.2.1.facts
  have hz0 := HU2.out.1.lt
  have hz1 := HU2.out.2.1.lt
  have hz2 := HU2.out.2.2.1.lt
  go_wp2_with fail
  clear hc0 hf0 hc1 hf1 hc2 hf2 hz0 hz1 hz2
  generalize hW : World.setCell _ _ _ = v3
  have HV3 : Hid (Whole v3 w.heap.size 30 #[.int .i64 k, .int .u64 (a : Int), .int .u64 (b : Int), .int .i64 r, .int .i64 c, .slice ax xs.length cx, .slice ay ys.length cy, .slice az zs.length cz] ∧ Whole v3 (w.heap.size + 1) 36 #[.int .i64 0, .int .u64 0, .int .u64 0, .int .i64 0, .int .i64 0, .slice none 0 0, .slice none 0 0, .slice none 0 0] ∧ Whole v3 (w.heap.size + 1 + 1) 36 #[.int .i64 k, .int .u64 (a : Int), .int .u64 (b : Int), .int .i64 r, .int .i64 c, .slice b0 xs.length xs.length, .slice b1 ys.length ys.length, .slice none 0 0] ∧ Below w.heap.size w v3 ∧ w.heap.size + 3 ≤ v3.heap.size ∧ Row v3 (w.heap.size + 3) v3.heap.size b0 (il xs) ∧ Row v3 (w.heap.size + 3) v3.heap.size b1 (il ys)) := Lib.hid (by rw [← hW]; exact ⟨(HU2.out.1).far (by first | omega | (simp; done) | (simp; omega)) _, (HU2.out.2.1).far (by first | omega | (simp; done) | (simp; omega)) _, (HU2.out.2.2.1).put 6 _, (Below.setCell HU2.out.2.2.2.1 (by first | omega | (simp; done) | (simp; omega)) _), (by have := HU2.out.2.2.2.2.1; simpa using this), by simpa using (HU2.out.2.2.2.2.2.1).far (.inl (by first | omega | (simp; done) | (simp; omega))) _, by simpa using (HU2.out.2.2.2.2.2.2).far (.inl (by first | omega | (simp; done) | (simp; omega))) _⟩)
  clear hW HU2
  refine (toFloat32S_row zs _ _ _ (Holds.below HX.out.2.2 HV3.out.2.2.2.1) l2).mono ?_
  rintro e u3 ⟨b2, rfl, row, hb⟩
  have HU3 : Hid (Whole u3 w.heap.size 30 #[.int .i64 k, .int .u64 (a : Int), .int .u64 (b : Int), .int .i64 r, .int .i64 c, .slice ax xs.length cx, .slice ay ys.length cy, .slice az zs.length cz] ∧ Whole u3 (w.heap.size + 1) 36 #[.int .i64 0, .int .u64 0, .int .u64 0, .int .i64 0, .int .i64 0, .slice none 0 0, .slice none 0 0, .slice none 0 0] ∧ Whole u3 (w.heap.size + 1 + 1) 36 #[.int .i64 k, .int .u64 (a : Int), .int .u64 (b : Int), .int .i64 r, .int .i64 c, .slice b0 xs.length xs.length, .slice b1 ys.length ys.length, .slice none 0 0] ∧ Below w.heap.size w u3 ∧ w.heap.size + 3 ≤ u3.heap.size ∧ Row u3 (w.heap.size + 3) u3.heap.size b0 (il xs) ∧ Row u3 (w.heap.size + 3) u3.heap.size b1 (il ys) ∧ Row u3 (w.heap.size + 3) u3.heap.size b2 (fl .f32 zs)) := Lib.hid ⟨Whole.below HV3.out.1 hb, Whole.below HV3.out.2.1 hb, Whole.below HV3.out.2.2.1 hb, Bel_next HV3.out.2.2.2.1 hb, (by have h1 := hb.size; have h2 := HV3.out.2.2.2.2.1; omega), Row.wide (Row.below HV3.out.2.2.2.2.2.1 hb) (Nat.le_refl _) hb.size, Row.wide (Row.below HV3.out.2.2.2.2.2.2 hb) (Nat.le_refl _) hb.size, Row.wide row HV3.out.2.2.2.2.1 (Nat.le_refl _)⟩
  clear row hb HV3
  obtain ⟨hc0, hf0⟩ := HU3.out.1.facts
  obtain ⟨hc1, hf1⟩ := HU3.out.2.1.facts
  obtain ⟨hc2, hf2⟩ := HU3.out.2.2.1.facts
  have hz0 := HU3.out.1.lt
  have hz1 := HU3.out.2.1.lt
  have hz2 := HU3.out.2.2.1.lt
  go_wp2_with fail
  have HBL := HU3.out.2.2.2.1
  exact bodyPost_ret (v := .agg #[.int .i64 k, .int .u64 (a : Int), .int .u64 (b : Int), .int .i64 r, .int .i64 c, .slice b0 xs.length xs.length, .slice b1 ys.length ys.length, .slice b2 zs.length zs.length]) (by simp [results, Try.results8, go_sem, hc1]) rfl ⟨b0, b1, b2, rfl, by simpa using Row.wide ((((((((((HU3.out.2.2.2.2.2.1).far (.inl (by first | omega | (simp; done) | (simp; omega))) _).far (.inl (by first | omega | (simp; done) | (simp; omega))) _).far (.inl (by first | omega | (simp; done) | (simp; omega))) _).far (.inl (by first | omega | (simp; done) | (simp; omega))) _).far (.inl (by first | omega | (simp; done) | (simp; omega))) _).far (.inl (by first | omega | (simp; done) | (simp; omega))) _).far (.inl (by first | omega | (simp; done) | (simp; omega))) _).far (.inl (by first | omega | (simp; done) | (simp; omega))) _).far (.inl (by first | omega | (simp; done) | (simp; omega))) _) (lo' := w.heap.size) (by omega) (Nat.le_refl _), by simpa using Row.wide ((((((((((HU3.out.2.2.2.2.2.2.1).far (.inl (by first | omega | (simp; done) | (simp; omega))) _).far (.inl (by first | omega | (simp; done) | (simp; omega))) _).far (.inl (by first | omega | (simp; done) | (simp; omega))) _).far (.inl (by first | omega | (simp; done) | (simp; omega))) _).far (.inl (by first | omega | (simp; done) | (simp; omega))) _).far (.inl (by first | omega | (simp; done) | (simp; omega))) _).far (.inl (by first | omega | (simp; done) | (simp; omega))) _).far (.inl (by first | omega | (simp; done) | (simp; omega))) _).far (.inl (by first | omega | (simp; done) | (simp; omega))) _) (lo' := w.heap.size) (by omega) (Nat.le_refl _), by simpa using Row.wide ((((((((((HU3.out.2.2.2.2.2.2.2).far (.inl (by first | omega | (simp; done) | (simp; omega))) _).far (.inl (by first | omega | (simp; done) | (simp; omega))) _).far (.inl (by first | omega | (simp; done) | (simp; omega))) _).far (.inl (by first | omega | (simp; done) | (simp; omega))) _).far (.inl (by first | omega | (simp; done) | (simp; omega))) _).far (.inl (by first | omega | (simp; done) | (simp; omega))) _).far (.inl (by first | omega | (simp; done) | (simp; omega))) _).far (.inl (by first | omega | (simp; done) | (simp; omega))) _).far (.inl (by first | omega | (simp; done) | (simp; omega))) _) (lo' := w.heap.size) (by omega) (Nat.le_refl _), (by repeat (first | with_reducible exact Below.refl _ _ | with_reducible exact HBL | with_reducible refine Below.drew ?_ | with_reducible refine Bel_drewN ?_ _ | with_reducible refine Below.alloc ?_ (by first | omega | (simp; done) | (simp; omega)) _ | with_reducible refine Below.setCell ?_ (by first | omega | (simp; done) | (simp; omega)) _))⟩
set_option maxRecDepth 100000 in
set_option maxHeartbeats 2000000 in
theorem eqDesk_same (k : Int) (a b : Nat) (r c : Int) (xs : List Int) (n0 : Nat) (e0 : xs.length = n0) (ax bx : Option Addr) (cx dx : Nat) (ys : List Int) (n1 : Nat) (e1 : ys.length = n1) (ay by_ : Option Addr) (cy dy : Nat) (zs : List Nat) (n2 : Nat) (e2 : zs.length = n2) (az bz : Option Addr) (cz dz : Nat) (w : World) (h0 : Holds w ax (il xs)) (k0 : Holds w bx (il xs)) (h1 : Holds w ay (il ys)) (k1 : Holds w by_ (il ys)) (h2 : Holds w az (fl .f32 zs)) (k2 : Holds w bz (fl .f32 zs)) (l0 : n0 ≤ 1048576) (l1 : n1 ≤ 1048576) (l2 : n2 ≤ 1048576) :
    Calls Try.prog 10 #[.agg #[.int .i64 k, .int .u64 (a : Int), .int .u64 (b : Int), .int .i64 r, .int .i64 c, .slice ax n0 cx, .slice ay n1 cy, .slice az n2 cz], .agg #[.int .i64 k, .int .u64 (a : Int), .int .u64 (b : Int), .int .i64 r, .int .i64 c, .slice bx n0 dx, .slice by_ n1 dy, .slice bz n2 dz]] w (RetB (.bool true) w) := by
  have HX := Lib.hid (And.intro h0 (And.intro k0 e0))
  have HY := Lib.hid (And.intro h1 (And.intro k1 e1))
  have HZ := Lib.hid (And.intro h2 (And.intro k2 e2))
  clear h0 k0 e0 h1 k1 e1 h2 k2 e2
  go_enter Try.func10, Try.ntmps10
  go_wp2_with fail
  generalize hW : World.alloc (World.alloc _ _) _ = v0
  have H0 : Hid (Whole v0 w.heap.size 36 #[.int .i64 k, .int .u64 (a : Int), .int .u64 (b : Int), .int .i64 r, .int .i64 c, .slice ax n0 cx, .slice ay n1 cy, .slice az n2 cz] ∧ Whole v0 (w.heap.size + 1) 36 #[.int .i64 k, .int .u64 (a : Int), .int .u64 (b : Int), .int .i64 r, .int .i64 c, .slice bx n0 dx, .slice by_ n1 dy, .slice bz n2 dz] ∧ Below w.heap.size w v0) := Lib.hid (by rw [← hW]; exact ⟨(Whole.made _ _ _).alloc _, Whole.made2 _ _ _ _, (by repeat (first | with_reducible exact Below.refl _ _ | with_reducible exact HBL | with_reducible refine Below.drew ?_ | with_reducible refine Bel_drewN ?_ _ | with_reducible refine Below.alloc ?_ (by first | omega | (simp; done) | (simp; omega)) _ | with_reducible refine Below.setCell ?_ (by first | omega | (simp; done) | (simp; omega)) _))⟩)
  clear hW
  refine (eqSeed_same k a b _).mono ?_
  rintro e u0 ⟨rfl, hb⟩
  have HU0 : Hid (Whole u0 w.heap.size 36 #[.int .i64 k, .int .u64 (a : Int), .int .u64 (b : Int), .int .i64 r, .int .i64 c, .slice ax n0 cx, .slice ay n1 cy, .slice az n2 cz] ∧ Whole u0 (w.heap.size + 1) 36 #[.int .i64 k, .int .u64 (a : Int), .int .u64 (b : Int), .int .i64 r, .int .i64 c, .slice bx n0 dx, .slice by_ n1 dy, .slice bz n2 dz] ∧ Below w.heap.size w u0) := Lib.hid ⟨H0.out.1.below hb, H0.out.2.1.below hb, Bel_next H0.out.2.2 hb⟩
  clear hb H0
  obtain ⟨hc0, hf0⟩ := HU0.out.1.facts
  obtain ⟨hc1, hf1⟩ := HU0.out.2.1.facts
  go_wp2_with fail
  clear hc0 hf0 hc1 hf1
  refine (eqTable_same r c xs n0 HX.out.2.2 _ _ _ _ _ (Holds.below HX.out.1 HU0.out.2.2) (Holds.below HX.out.2.1 HU0.out.2.2) l0).mono ?_
  rintro e u1 ⟨rfl, hb⟩
  have HU1 : Hid (Whole u1 w.heap.size 36 #[.int .i64 k, .int .u64 (a : Int), .int .u64 (b : Int), .int .i64 r, .int .i64 c, .slice ax n0 cx, .slice ay n1 cy, .slice az n2 cz] ∧ Whole u1 (w.heap.size + 1) 36 #[.int .i64 k, .int .u64 (a : Int), .int .u64 (b : Int), .int .i64 r, .int .i64 c, .slice bx n0 dx, .slice by_ n1 dy, .slice bz n2 dz] ∧ Below w.heap.size w u1) := Lib.hid ⟨HU0.out.1.below hb, HU0.out.2.1.below hb, Bel_next HU0.out.2.2 hb⟩
  clear hb HU0
  obtain ⟨hc0, hf0⟩ := HU1.out.1.facts
  obtain ⟨hc1, hf1⟩ := HU1.out.2.1.facts
  go_wp2_with fail
  clear hc0 hf0 hc1 hf1
  refine (eqInt64S_same ys n1 HY.out.2.2 _ _ _ _ _ (Holds.below HY.out.1 HU1.out.2.2) (Holds.below HY.out.2.1 HU1.out.2.2) (by omega)).mono ?_
  rintro e u2 ⟨rfl, hb⟩
  have HU2 : Hid (Whole u2 w.heap.size 36 #[.int .i64 k, .int .u64 (a : Int), .int .u64 (b : Int), .int .i64 r, .int .i64 c, .slice ax n0 cx, .slice ay n1 cy, .slice az n2 cz] ∧ Whole u2 (w.heap.size + 1) 36 #[.int .i64 k, .int .u64 (a : Int), .int .u64 (b : Int), .int .i64 r, .int .i64 c, .slice bx n0 dx, .slice by_ n1 dy, .slice bz n2 dz] ∧ Below w.heap.size w u2) := Lib.hid ⟨HU1.out.1.below hb, HU1.out.2.1.below hb, Bel_next HU1.out.2.2 hb⟩
  clear hb HU1
  obtain ⟨hc0, hf0⟩ := HU2.out.1.facts
  obtain ⟨hc1, hf1⟩ := HU2.out.2.1.facts
  go_wp2_with fail
  clear hc0 hf0 hc1 hf1
  refine (eqFloat32S_same zs n2 HZ.out.2.2 _ _ _ _ _ (Holds.below HZ.out.1 HU2.out.2.2) (Holds.below HZ.out.2.1 HU2.out.2.2) (by omega)).mono ?_
  rintro e u3 ⟨rfl, hb⟩
  have HU3 : Hid (Whole u3 w.heap.size 36 #[.int .i64 k, .int .u64 (a : Int), .int .u64 (b : Int), .int .i64 r, .int .i64 c, .slice ax n0 cx, .slice ay n1 cy, .slice az n2 cz] ∧ Whole u3 (w.heap.size + 1) 36 #[.int .i64 k, .int .u64 (a : Int), .int .u64 (b : Int), .int .i64 r, .int .i64 c, .slice bx n0 dx, .slice by_ n1 dy, .slice bz n2 dz] ∧ Below w.heap.size w u3) := Lib.hid ⟨HU2.out.1.below hb, HU2.out.2.1.below hb, Bel_next HU2.out.2.2 hb⟩
  clear hb HU2
  obtain ⟨hc0, hf0⟩ := HU3.out.1.facts
  obtain ⟨hc1, hf1⟩ := HU3.out.2.1.facts
  go_wp2_with fail
  have HBL := HU3.out.2.2
  go_ret
  exact ⟨rfl, (by repeat (first | with_reducible exact Below.refl _ _ | with_reducible exact HBL | with_reducible refine Below.drew ?_ | with_reducible refine Bel_drewN ?_ _ | with_reducible refine Below.alloc ?_ (by first | omega | (simp; done) | (simp; omega)) _ | with_reducible refine Below.setCell ?_ (by first | omega | (simp; done) | (simp; omega)) _))⟩
end Go.Proofs.Ytekoahhdbafpmaa
