/- Records: the laws' helpers. -/
import Derived.Test.YtgeomaeccalceaaSz
import Derived.Test.YtgeomaeccalceaaSe
import Derived.Test.YtgeomaeccalceaaOi
import Derived.Test.YtgeomaeccalceaaIl
namespace Go.Proofs.Ytgeomaeccalceaa
open Go Go.RowKit Go.ChangeShapes Go.WideShapes Go.ChangeAt Go.Deep Go.Joins
set_option linter.unusedVariables false

set_option maxRecDepth 100000 in
set_option maxHeartbeats 1000000 in
theorem szRecord_yes (nm : ByteArray) (k : Int) (a b : Nat) (xs : List Int) (ax : Option Addr) (cx : Nat) (l : Nat) (w : World) (h : nm.size + xs.length ≤ l) (hl : l ≤ 1048576) :
    Calls Try.prog 49 #[.agg #[.string nm, .int .i64 k, .int .u64 (a : Int), .int .u64 (b : Int), .slice ax xs.length cx], .int .i64 l] w (RetB (.int .i64 ((l - (nm.size + xs.length) : Nat) : Int)) w) := by
  obtain ⟨q0, hq0⟩ : ∃ q, l = nm.size + q := ⟨l - nm.size, by omega⟩
  obtain ⟨q1, hq1⟩ : ∃ q, q0 = xs.length + q := ⟨q0 - xs.length, by omega⟩
  have b0 : q0 ≤ 1048576 := by omega
  have b1 : q1 ≤ 1048576 := by omega
  have i0 : (0 : Int) ≤ (q0 : Int) := by omega
  have i1 : (0 : Int) ≤ (q1 : Int) := by omega
  have e0 : (l : Int) - (nm.size : Int) = (q0 : Int) := by omega
  have HE : Hid (l - (nm.size + xs.length) = q1) := Lib.hid (by omega)
  have HQ := Lib.hid hq1
  clear hq0 hq1 h
  go_enter Try.func49, Try.ntmps49
  go_wp2_with (first | (go_at_call 103; fail))
  refine (szInt64S_yes _ _ _ _ q1 _ HQ.out (by omega)).mono ?_
  rintro e w' ⟨rfl, rfl⟩
  go_wp2_with fail
  go_ret
  exact ⟨by rw [HE.out]; rfl, (by repeat (first | with_reducible exact Below.refl _ _ | with_reducible exact HBL | with_reducible refine Below.drew ?_ | with_reducible refine Bel_drewN ?_ _ | with_reducible refine Below.alloc ?_ (by first | omega | (simp; done) | (simp; omega)) _ | with_reducible refine Below.setCell ?_ (by first | omega | (simp; done) | (simp; omega)) _))⟩
set_option maxRecDepth 100000 in
set_option maxHeartbeats 1000000 in
theorem szRecord_no (nm : ByteArray) (k : Int) (a b : Nat) (xs : List Int) (ax : Option Addr) (cx : Nat) (l : Nat) (w : World) (h : ¬ nm.size + xs.length ≤ l) (hl : l ≤ 1048576) (m0 : nm.size ≤ maxLen) (m1 : xs.length ≤ 9223372036854775807) :
    Calls Try.prog 49 #[.agg #[.string nm, .int .i64 k, .int .u64 (a : Int), .int .u64 (b : Int), .slice ax xs.length cx], .int .i64 l] w (RetB (.int .i64 (-1)) w) := by
  have hml : maxLen = 9223372036854775807 := by decide
  rw [hml] at m0
  by_cases g0 : nm.size ≤ l
  · obtain ⟨q0, hq0⟩ : ∃ q, l = nm.size + q := ⟨l - nm.size, by omega⟩
    have b0 : q0 ≤ 1048576 := by omega
    have i0 : (0 : Int) ≤ (q0 : Int) := by omega
    have e0 : (l : Int) - (nm.size : Int) = (q0 : Int) := by omega
    have HQ := Lib.hid (show q0 < xs.length by omega)
    clear hq0 h g0 hml
    go_enter Try.func49, Try.ntmps49
    go_wp2_with (first | (go_at_call 103; fail))
    refine (szInt64S_no _ _ _ _ _ HQ.out (by omega) m1).mono ?_
    rintro e w' ⟨rfl, rfl⟩
    go_wp2_with fail
    go_ret
    exact ⟨rfl, (by repeat (first | with_reducible exact Below.refl _ _ | with_reducible exact HBL | with_reducible refine Below.drew ?_ | with_reducible refine Bel_drewN ?_ _ | with_reducible refine Below.alloc ?_ (by first | omega | (simp; done) | (simp; omega)) _ | with_reducible refine Below.setCell ?_ (by first | omega | (simp; done) | (simp; omega)) _))⟩
  · have e0 : (l : Int) - (nm.size : Int) < 0 := by omega
    have e1 : IntKind.i64.wrap ((l : Int) - (nm.size : Int)) = (l : Int) - (nm.size : Int) := by rw [IntKind.wrap_i64]; omega
    clear h g0 hml
    go_enter Try.func49, Try.ntmps49
    go_wp2_with fail
    go_ret
    exact ⟨rfl, (by repeat (first | with_reducible exact Below.refl _ _ | with_reducible exact HBL | with_reducible refine Below.drew ?_ | with_reducible refine Bel_drewN ?_ _ | with_reducible refine Below.alloc ?_ (by first | omega | (simp; done) | (simp; omega)) _ | with_reducible refine Below.setCell ?_ (by first | omega | (simp; done) | (simp; omega)) _))⟩
/-- A copy in new memory. -/
def ToRecord (nm : ByteArray) (k : Int) (a b : Nat) (xs : List Int) (w : World) (e : Ending) (w' : World) : Prop :=
  ∃ b0 : Option Addr, e = .returned (.agg #[.string nm, .int .i64 k, .int .u64 (a : Int), .int .u64 (b : Int), .slice b0 xs.length xs.length]) ∧ Row w' w.heap.size w'.heap.size b0 (il xs) ∧ Below w.heap.size w w'
set_option maxRecDepth 100000 in
set_option maxHeartbeats 4000000 in
theorem toRecord_any (nm : ByteArray) (k : Int) (a b : Nat) (xs : List Int) (ax : Option Addr) (cx : Nat) (w : World) (h0 : Holds w ax (il xs)) (l0 : xs.length ≤ 1048576) :
    Calls Try.prog 51 #[.agg #[.string nm, .int .i64 k, .int .u64 (a : Int), .int .u64 (b : Int), .slice ax xs.length cx]] w (ToRecord nm k a b xs w) := by
  have HX := Lib.hid h0
  clear h0
  go_enter Try.func51, Try.ntmps51
  go_wp2_with (first | (go_at_call 17; fail))
  generalize hW : World.alloc (World.alloc (World.alloc _ _) _) _ = v0
  have H0 : Hid (Whole v0 w.heap.size 71 #[.string nm, .int .i64 k, .int .u64 (a : Int), .int .u64 (b : Int), .slice ax xs.length cx] ∧ Whole v0 (w.heap.size + 1) 75 #[.string ByteArray.empty, .int .i64 0, .int .u64 0, .int .u64 0, .slice none 0 0] ∧ Whole v0 (w.heap.size + 1 + 1) 75 #[.string nm, .int .i64 0, .int .u64 0, .int .u64 0, .slice none 0 0] ∧ Below w.heap.size w v0 ∧ w.heap.size + 3 ≤ v0.heap.size) := Lib.hid (by rw [← hW]; exact ⟨((Whole.made _ _ _).alloc _).alloc _, (Whole.made2 _ _ _ _).alloc _, by simpa using Whole.made2 (w.alloc _) _ _ _, (by repeat (first | with_reducible exact Below.refl _ _ | with_reducible exact HBL | with_reducible refine Below.drew ?_ | with_reducible refine Bel_drewN ?_ _ | with_reducible refine Below.alloc ?_ (by first | omega | (simp; done) | (simp; omega)) _ | with_reducible refine Below.setCell ?_ (by first | omega | (simp; done) | (simp; omega)) _)), by simp⟩)
  clear hW
  refine (toSeed_ret k a b _).mono ?_
  rintro e u0 ⟨rfl, hb⟩
  have H1 : Hid (Whole u0 w.heap.size 71 #[.string nm, .int .i64 k, .int .u64 (a : Int), .int .u64 (b : Int), .slice ax xs.length cx] ∧ Whole u0 (w.heap.size + 1) 75 #[.string ByteArray.empty, .int .i64 0, .int .u64 0, .int .u64 0, .slice none 0 0] ∧ Whole u0 (w.heap.size + 1 + 1) 75 #[.string nm, .int .i64 0, .int .u64 0, .int .u64 0, .slice none 0 0] ∧ Below w.heap.size w u0 ∧ w.heap.size + 3 ≤ u0.heap.size) := Lib.hid ⟨H0.out.1.below hb, H0.out.2.1.below hb, H0.out.2.2.1.below hb, Bel_next H0.out.2.2.2.1 hb, (by have h1 := hb.size; have h2 := H0.out.2.2.2.2; omega)⟩
  clear hb H0
  obtain ⟨hc0, hf0⟩ := H1.out.1.facts
  obtain ⟨hc1, hf1⟩ := H1.out.2.1.facts
  obtain ⟨hc2, hf2⟩ := H1.out.2.2.1.facts
  have hz0 := H1.out.1.lt
  have hz1 := H1.out.2.1.lt
  have hz2 := H1.out.2.2.1.lt
  go_wp2_with (first | (go_at_call 31; fail))
  clear hc0 hf0 hc1 hf1 hc2 hf2 hz0 hz1 hz2
  generalize hW : World.setCell (World.setCell (World.setCell _ _ _) _ _) _ _ = v1
  have H2 : Hid (Whole v1 w.heap.size 71 #[.string nm, .int .i64 k, .int .u64 (a : Int), .int .u64 (b : Int), .slice ax xs.length cx] ∧ Whole v1 (w.heap.size + 1) 75 #[.string ByteArray.empty, .int .i64 0, .int .u64 0, .int .u64 0, .slice none 0 0] ∧ Whole v1 (w.heap.size + 1 + 1) 75 #[.string nm, .int .i64 k, .int .u64 (a : Int), .int .u64 (b : Int), .slice none 0 0] ∧ Below w.heap.size w v1 ∧ w.heap.size + 3 ≤ v1.heap.size) := Lib.hid (by rw [← hW]; exact ⟨((H1.out.1.far (by first | omega | (simp; done) | (simp; omega)) _).far (by first | omega | (simp; done) | (simp; omega)) _).far (by first | omega | (simp; done) | (simp; omega)) _, ((H1.out.2.1.far (by first | omega | (simp; done) | (simp; omega)) _).far (by first | omega | (simp; done) | (simp; omega)) _).far (by first | omega | (simp; done) | (simp; omega)) _, ((H1.out.2.2.1.put 1 _).put 2 _).put 3 _, (Below.setCell (Below.setCell (Below.setCell H1.out.2.2.2.1 (by first | omega | (simp; done) | (simp; omega)) _) (by first | omega | (simp; done) | (simp; omega)) _) (by first | omega | (simp; done) | (simp; omega)) _), (by have := H1.out.2.2.2.2; simpa using this)⟩)
  clear hW H1
  refine (toInt64S_any xs _ _ _ (Holds.below HX.out H2.out.2.2.2.1) l0).mono ?_
  rintro e u1 ⟨b0, rfl, row, hb⟩
  have H3 : Hid (Whole u1 w.heap.size 71 #[.string nm, .int .i64 k, .int .u64 (a : Int), .int .u64 (b : Int), .slice ax xs.length cx] ∧ Whole u1 (w.heap.size + 1) 75 #[.string ByteArray.empty, .int .i64 0, .int .u64 0, .int .u64 0, .slice none 0 0] ∧ Whole u1 (w.heap.size + 1 + 1) 75 #[.string nm, .int .i64 k, .int .u64 (a : Int), .int .u64 (b : Int), .slice none 0 0] ∧ Below w.heap.size w u1 ∧ w.heap.size + 3 ≤ u1.heap.size ∧ Row u1 (w.heap.size + 3) u1.heap.size b0 (il xs)) := Lib.hid ⟨H2.out.1.below hb, H2.out.2.1.below hb, H2.out.2.2.1.below hb, Bel_next H2.out.2.2.2.1 hb, (by have h1 := hb.size; have h2 := H2.out.2.2.2.2; omega), Row.wide row H2.out.2.2.2.2 (Nat.le_refl _)⟩
  clear row hb H2
  obtain ⟨hc0, hf0⟩ := H3.out.1.facts
  obtain ⟨hc1, hf1⟩ := H3.out.2.1.facts
  obtain ⟨hc2, hf2⟩ := H3.out.2.2.1.facts
  have hz0 := H3.out.1.lt
  have hz1 := H3.out.2.1.lt
  have hz2 := H3.out.2.2.1.lt
  go_wp2_with fail
  have HBL := H3.out.2.2.2.1
  exact bodyPost_ret (v := .agg #[.string nm, .int .i64 k, .int .u64 (a : Int), .int .u64 (b : Int), .slice b0 xs.length xs.length]) (by simp [results, Try.results51, go_sem, hc1]) rfl ⟨b0, rfl, by simpa using Row.wide (((((((H3.out.2.2.2.2.2).far (.inl (by first | omega | (simp; done) | (simp; omega))) _).far (.inl (by first | omega | (simp; done) | (simp; omega))) _).far (.inl (by first | omega | (simp; done) | (simp; omega))) _).far (.inl (by first | omega | (simp; done) | (simp; omega))) _).far (.inl (by first | omega | (simp; done) | (simp; omega))) _).far (.inl (by first | omega | (simp; done) | (simp; omega))) _) (lo' := w.heap.size) (by omega) (Nat.le_refl _), (by repeat (first | with_reducible exact Below.refl _ _ | with_reducible exact HBL | with_reducible refine Below.drew ?_ | with_reducible refine Bel_drewN ?_ _ | with_reducible refine Below.alloc ?_ (by first | omega | (simp; done) | (simp; omega)) _ | with_reducible refine Below.setCell ?_ (by first | omega | (simp; done) | (simp; omega)) _))⟩
set_option maxRecDepth 100000 in
set_option maxHeartbeats 2000000 in
theorem eqRecord_same (nm : ByteArray) (k : Int) (a b : Nat) (xs : List Int) (n0 : Nat) (e0 : xs.length = n0) (ax bx : Option Addr) (cx dx : Nat) (w : World) (h0 : Holds w ax (il xs)) (k0 : Holds w bx (il xs)) (l0 : n0 ≤ 1048576) :
    Calls Try.prog 53 #[.agg #[.string nm, .int .i64 k, .int .u64 (a : Int), .int .u64 (b : Int), .slice ax n0 cx], .agg #[.string nm, .int .i64 k, .int .u64 (a : Int), .int .u64 (b : Int), .slice bx n0 dx]] w (RetB (.bool true) w) := by
  have HX := Lib.hid (And.intro h0 (And.intro k0 e0))
  clear h0 k0 e0
  go_enter Try.func53, Try.ntmps53
  go_wp2_with (first | (go_at_call 20; fail))
  generalize hW : World.alloc (World.alloc _ _) _ = v0
  have H0 : Hid (Whole v0 w.heap.size 75 #[.string nm, .int .i64 k, .int .u64 (a : Int), .int .u64 (b : Int), .slice ax n0 cx] ∧ Whole v0 (w.heap.size + 1) 75 #[.string nm, .int .i64 k, .int .u64 (a : Int), .int .u64 (b : Int), .slice bx n0 dx] ∧ Below w.heap.size w v0) := Lib.hid (by rw [← hW]; exact ⟨(Whole.made _ _ _).alloc _, Whole.made2 _ _ _ _, (by repeat (first | with_reducible exact Below.refl _ _ | with_reducible exact HBL | with_reducible refine Below.drew ?_ | with_reducible refine Bel_drewN ?_ _ | with_reducible refine Below.alloc ?_ (by first | omega | (simp; done) | (simp; omega)) _ | with_reducible refine Below.setCell ?_ (by first | omega | (simp; done) | (simp; omega)) _))⟩)
  clear hW
  refine (eqSeed_same k a b _).mono ?_
  rintro e u0 ⟨rfl, hb⟩
  have HU0 : Hid (Whole u0 w.heap.size 75 #[.string nm, .int .i64 k, .int .u64 (a : Int), .int .u64 (b : Int), .slice ax n0 cx] ∧ Whole u0 (w.heap.size + 1) 75 #[.string nm, .int .i64 k, .int .u64 (a : Int), .int .u64 (b : Int), .slice bx n0 dx] ∧ Below w.heap.size w u0) := Lib.hid ⟨H0.out.1.below hb, H0.out.2.1.below hb, Bel_next H0.out.2.2 hb⟩
  clear hb H0
  obtain ⟨hc0, hf0⟩ := HU0.out.1.facts
  obtain ⟨hc1, hf1⟩ := HU0.out.2.1.facts
  go_wp2_with fail
  clear hc0 hf0 hc1 hf1
  refine (eqInt64S_same xs n0 HX.out.2.2 _ _ _ _ _ (Holds.below HX.out.1 HU0.out.2.2) (Holds.below HX.out.2.1 HU0.out.2.2) (by omega)).mono ?_
  rintro e u1 ⟨rfl, hb⟩
  have HU1 : Hid (Whole u1 w.heap.size 75 #[.string nm, .int .i64 k, .int .u64 (a : Int), .int .u64 (b : Int), .slice ax n0 cx] ∧ Whole u1 (w.heap.size + 1) 75 #[.string nm, .int .i64 k, .int .u64 (a : Int), .int .u64 (b : Int), .slice bx n0 dx] ∧ Below w.heap.size w u1) := Lib.hid ⟨HU0.out.1.below hb, HU0.out.2.1.below hb, Bel_next HU0.out.2.2 hb⟩
  clear hb HU0
  obtain ⟨hc0, hf0⟩ := HU1.out.1.facts
  obtain ⟨hc1, hf1⟩ := HU1.out.2.1.facts
  go_wp2_with fail
  have HBL := HU1.out.2.2
  go_ret
  exact ⟨rfl, (by repeat (first | with_reducible exact Below.refl _ _ | with_reducible exact HBL | with_reducible refine Below.drew ?_ | with_reducible refine Bel_drewN ?_ _ | with_reducible refine Below.alloc ?_ (by first | omega | (simp; done) | (simp; omega)) _ | with_reducible refine Below.setCell ?_ (by first | omega | (simp; done) | (simp; omega)) _))⟩
section
variable {H : Type} {enc : TypeId × Value → H} {P : Program} {W : World} {base : Nat} {spare : Nat → Bool} {held : Bool}
theorem array5 {α : Type} {cs : Array α} (h : cs.size = 5) : ∃ c0 c1 c2 c3 c4, cs = #[c0, c1, c2, c3, c4] := by
  obtain ⟨l⟩ := cs
  match l, h with
  | [c0, c1, c2, c3, c4], _ => exact ⟨c0, c1, c2, c3, c4, rfl⟩
theorem u64_ofR {t : TypeId} {v : Value} {n : Nat} {y : DataW H × List MemPlace} (ht : P.underlying t = some (.int .u64)) (h : DataW.trod enc P W base spare held n t [v] = some y) :
    ∃ x : Nat, v = .int .u64 (x : Int) ∧ x < 18446744073709551616 := by
  obtain ⟨x, q, _, wx⟩ := DataW.trod_int ht h
  simp at q
  obtain ⟨a, rfl, ha⟩ := wf_u64 wx
  exact ⟨a, q, ha⟩
theorem open_record {r : Reach} {b0 : Nat} {t ts ti tu tI : TypeId} {f0 f1 f2 g0 g1 g2 : Field} {v : Value} {d : DataW H} {p : List MemPlace} (hs : P.underlying t = some (.struct #[f0, f1, f2])) (hsS : P.underlying f1.type = some (.struct #[g0, g1, g2]))
    (hst : P.underlying ts = some .string) (hi : P.underlying ti = some (.int .i64)) (hu : P.underlying tu = some (.int .u64)) (hI : P.underlying tI = some (.slice ti)) (hci : P.cellsOf ti = 1)
    (hb : (P.cellsOf t == 5 && f0.offset == 0 && P.cellsOf f0.type == 1 && f1.offset == 1 && P.cellsOf f1.type == 3 && f2.offset == 4 && P.cellsOf f2.type == 1 && f0.type == ts && f2.type == tI && g0.offset == 0 && P.cellsOf g0.type == 1 && g1.offset == 1 && P.cellsOf g1.type == 1 && g2.offset == 2 && P.cellsOf g2.type == 1 && g0.type == ti && g1.type == tu && g2.type == tu) = true)
    (hval : Value.okWide P W r b0 t v) (hd : DataW.Trod enc P W base spare held t v d p) :
    ∃ (nm : ByteArray) (k : Int) (a b : Nat) (ax : Option Addr) (cx : Nat) (xs : List Int), v = .agg #[.string nm, .int .i64 k, .int .u64 (a : Int), .int .u64 (b : Int), .slice ax xs.length cx] ∧
      nm.size ≤ maxLen ∧ (Lit.int .i64 k).wf = true ∧ a < 18446744073709551616 ∧ b < 18446744073709551616 ∧
      (Holds W ax (xs.map (Value.int .i64)) ∧ (∀ x ∈ xs, -9223372036854775808 ≤ x ∧ x ≤ 9223372036854775807) ∧ xs.length ≤ 9223372036854775807) := by
  simp only [Bool.and_eq_true, beq_iff_eq] at hb
  obtain ⟨⟨⟨⟨⟨⟨⟨⟨⟨⟨⟨⟨⟨⟨⟨⟨⟨e1, e2⟩, e3⟩, e4⟩, e5⟩, e6⟩, e7⟩, e8⟩, e9⟩, e10⟩, e11⟩, e12⟩, e13⟩, e14⟩, e15⟩, e16⟩, e17⟩, e18⟩ := hb
  obtain ⟨cs, rfl, hsz⟩ := okWide_struct hs hval
  obtain ⟨c0, c1, c2, c3, c4, rfl⟩ := array5 (hsz.trans e1)
  obtain ⟨fuel, hf⟩ := hd
  obtain ⟨y0, y1, y2, n, _, _, k0, k1, k2⟩ := trod_struct3 hs hf
  rw [e2, e3, e8] at k0; rw [e4, e5] at k1; rw [e6, e7, e9] at k2
  simp only [Value.cells, List.drop, List.take] at k0 k1 k2
  obtain ⟨u0, u1, u2, n', _, _, j0, j1, j2⟩ := trod_struct3 hsS k1
  rw [e10, e11, e16] at j0; rw [e12, e13, e17] at j1; rw [e14, e15, e18] at j2
  simp only [List.drop, List.take] at j0 j1 j2
  obtain ⟨nm, hn, _, wn⟩ := DataW.trod_string hst k0
  simp at hn
  subst hn
  obtain ⟨k, rfl, wk⟩ := int_of hi j0
  obtain ⟨a, rfl, wa⟩ := u64_ofR hu j1
  obtain ⟨b, rfl, wb⟩ := u64_ofR hu j2
  obtain ⟨ax, cx, xs, rfl, hx, wx, mx⟩ := ints_of hI hi hci k2
  exact ⟨nm, k, a, b, ax, cx, xs, rfl, wn, wk, wa, wb, ⟨hx, wx, mx⟩⟩
end
end Go.Proofs.Ytgeomaeccalceaa
