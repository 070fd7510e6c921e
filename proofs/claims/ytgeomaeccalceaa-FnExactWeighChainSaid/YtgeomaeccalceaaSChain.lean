/- The helpers of laws on Chain. -/
import Derived.Test.YtgeomaeccalceaaFq
namespace Go.Proofs.Ytgeomaeccalceaa
open Go Go.RowKit Fl Vag
set_option linter.unusedVariables false

set_option maxRecDepth 100000 in
theorem szChain_yes (x0 : Int) (x1 : List Nat) (a1 : Option Addr) (c1 : Nat) (l : Nat) (w : World) (h : x1.length ≤ l) (hl : l ≤ 1048576) :
    Calls Try.prog 15 #[.agg #[.int .i64 x0, .slice a1 x1.length c1], .int .i64 l] w (RetB (.int .i64 ((l - (x1.length) : Nat) : Int)) w) := by
  obtain ⟨q1, hq1⟩ : ∃ q1, l = x1.length + q1 := ⟨l - x1.length, by omega⟩
  have hb1 : q1 ≤ 1048576 := by omega
  have hi1 : (0 : Int) ≤ (q1 : Int) := by omega
  have HE : Hid (l - (x1.length) = q1) := Lib.hid (by omega)
  have HQ1 := Lib.hid hq1
  clear hq1
  clear h
  go_enter Try.func15, Try.ntmps15
  go_wp2_with fail
  refine (szFloat32S_yes _ _ _ _ q1 _ HQ1.out (by omega)).mono ?_
  rintro e w' ⟨rfl, rfl⟩
  go_wp2_with fail
  go_ret
  exact ⟨by rw [HE.out]; rfl, (by repeat (first | with_reducible exact Below.refl _ _ | with_reducible exact HBL | with_reducible refine Below.drew ?_ | with_reducible refine Bel_drewN ?_ _ | with_reducible refine Below.alloc ?_ (by first | omega | (simp; done) | (simp; omega)) _ | with_reducible refine Below.setCell ?_ (by first | omega | (simp; done) | (simp; omega)) _))⟩
set_option maxRecDepth 100000 in
theorem szChain_no (x0 : Int) (x1 : List Nat) (a1 : Option Addr) (c1 : Nat) (l : Nat) (w : World) (h : ¬ x1.length ≤ l) (hl : l ≤ 1048576) (m1 : x1.length ≤ 9223372036854775807) :
    Calls Try.prog 15 #[.agg #[.int .i64 x0, .slice a1 x1.length c1], .int .i64 l] w (RetB (.int .i64 (-1)) w) := by
  have HF : Hid (l < x1.length) := Lib.hid (by omega)
  clear h
  go_enter Try.func15, Try.ntmps15
  go_wp2_with fail
  refine (szFloat32S_no _ _ _ _ _ HF.out (by omega) m1).mono ?_
  rintro e w' ⟨rfl, rfl⟩
  go_wp2_with fail
  go_ret
  exact ⟨rfl, (by repeat (first | with_reducible exact Below.refl _ _ | with_reducible exact HBL | with_reducible refine Below.drew ?_ | with_reducible refine Bel_drewN ?_ _ | with_reducible refine Below.alloc ?_ (by first | omega | (simp; done) | (simp; omega)) _ | with_reducible refine Below.setCell ?_ (by first | omega | (simp; done) | (simp; omega)) _))⟩
/-- A copy in new memory. -/
def ToChain (x0 : Int) (x1 : List Nat) (w : World) (e : Ending) (w' : World) : Prop :=
  ∃ b1 : Option Addr, e = .returned (.agg #[.int .i64 x0, .slice b1 x1.length x1.length]) ∧ Row w' w.heap.size w'.heap.size b1 (fl .f32 x1) ∧ Below w.heap.size w w'
set_option maxRecDepth 100000 in
set_option maxHeartbeats 1000000 in
theorem toChain_any (x0 : Int) (x1 : List Nat) (a1 : Option Addr) (c1 : Nat) (w : World) (h1 : Holds w a1 (fl .f32 x1)) (l1 : x1.length ≤ 1048576) :
    Calls Try.prog 18 #[.agg #[.int .i64 x0, .slice a1 x1.length c1]] w (ToChain x0 x1 w) := by
  have HX1 := Lib.hid h1
  clear h1
  go_enter Try.func18, Try.ntmps18
  go_wp2_with fail
  generalize hW : World.alloc (World.alloc (World.alloc _ _) _) _ = v0
  have H0 : Hid (Whole v0 w.heap.size 27 #[.int .i64 x0, .slice a1 x1.length c1] ∧ Whole v0 (w.heap.size + 1) 34 #[.int .i64 0, .slice none 0 0] ∧ Whole v0 (w.heap.size + 1 + 1) 34 #[.int .i64 x0, .slice none 0 0] ∧ Below w.heap.size w v0 ∧ w.heap.size + 3 ≤ v0.heap.size) := Lib.hid (by rw [← hW]; exact ⟨((Whole.made _ _ _).alloc _).alloc _, (Whole.made2 _ _ _ _).alloc _, by simpa using Whole.made2 (w.alloc _) _ _ _, (by repeat (first | with_reducible exact Below.refl _ _ | with_reducible exact HBL | with_reducible refine Below.drew ?_ | with_reducible refine Bel_drewN ?_ _ | with_reducible refine Below.alloc ?_ (by first | omega | (simp; done) | (simp; omega)) _ | with_reducible refine Below.setCell ?_ (by first | omega | (simp; done) | (simp; omega)) _)), by simp⟩)
  clear hW
  -- field 0
  refine (toFloat32S_row x1 _ _ _ (Holds.below HX1.out H0.out.2.2.2.1) l1).mono ?_
  rintro e u1 ⟨b1, rfl, row, hb⟩
  have Hu1 : Hid (Whole u1 w.heap.size 27 #[.int .i64 x0, .slice a1 x1.length c1] ∧ Whole u1 (w.heap.size + 1) 34 #[.int .i64 0, .slice none 0 0] ∧ Whole u1 (w.heap.size + 1 + 1) 34 #[.int .i64 x0, .slice none 0 0] ∧ Below w.heap.size w u1 ∧ w.heap.size + 3 ≤ u1.heap.size ∧ Row u1 (w.heap.size + 3) u1.heap.size b1 (fl .f32 x1)) := Lib.hid ⟨Whole.below H0.out.1 hb, Whole.below H0.out.2.1 hb, Whole.below H0.out.2.2.1 hb, Bel_next H0.out.2.2.2.1 hb, (by have h1 := hb.size; have h2 := H0.out.2.2.2.2; omega), Row.wide row H0.out.2.2.2.2 (Nat.le_refl _)⟩
  clear row hb H0
  obtain ⟨hc0, hf0⟩ := Hu1.out.1.facts
  obtain ⟨hc1, hf1⟩ := Hu1.out.2.1.facts
  obtain ⟨hc2, hf2⟩ := Hu1.out.2.2.1.facts
  have hz0 := Hu1.out.1.lt
  have hz1 := Hu1.out.2.1.lt
  have hz2 := Hu1.out.2.2.1.lt
  go_wp2_with fail
  have HBL := Hu1.out.2.2.2.1
  exact bodyPost_ret (v := .agg #[.int .i64 x0, .slice b1 x1.length x1.length]) (by simp [results, Try.results18, go_sem, hc1]) rfl ⟨b1, rfl, by simpa using Row.wide ((((Hu1.out.2.2.2.2.2).far (.inl (by first | omega | (simp; done) | (simp; omega))) _).far (.inl (by first | omega | (simp; done) | (simp; omega))) _).far (.inl (by first | omega | (simp; done) | (simp; omega))) _) (lo' := w.heap.size) (by omega) (Nat.le_refl _), (by repeat (first | with_reducible exact Below.refl _ _ | with_reducible exact HBL | with_reducible refine Below.drew ?_ | with_reducible refine Bel_drewN ?_ _ | with_reducible refine Below.alloc ?_ (by first | omega | (simp; done) | (simp; omega)) _ | with_reducible refine Below.setCell ?_ (by first | omega | (simp; done) | (simp; omega)) _))⟩
set_option maxRecDepth 100000 in
set_option maxHeartbeats 1000000 in
theorem eqChain_same (x0 : Int) (x1 : List Nat) (n1 : Nat) (e1 : x1.length = n1) (a1 b1 : Option Addr) (c1 d1 : Nat) (w : World) (h1 : Holds w a1 (fl .f32 x1)) (k1 : Holds w b1 (fl .f32 x1)) (l1 : n1 ≤ 1048576) :
    Calls Try.prog 22 #[.agg #[.int .i64 x0, .slice a1 n1 c1], .agg #[.int .i64 x0, .slice b1 n1 d1]] w (RetB (.bool true) w) := by
  have HX1 := Lib.hid (And.intro h1 (And.intro k1 e1))
  clear h1 k1 e1
  go_enter Try.func22, Try.ntmps22
  go_wp2_with fail
  generalize hW : World.alloc (World.alloc _ _) _ = v0
  have H0 : Hid (Whole v0 w.heap.size 34 #[.int .i64 x0, .slice a1 n1 c1] ∧ Whole v0 (w.heap.size + 1) 34 #[.int .i64 x0, .slice b1 n1 d1] ∧ Below w.heap.size w v0) := Lib.hid (by rw [← hW]; exact ⟨(Whole.made _ _ _).alloc _, Whole.made2 _ _ _ _, (by repeat (first | with_reducible exact Below.refl _ _ | with_reducible exact HBL | with_reducible refine Below.drew ?_ | with_reducible refine Bel_drewN ?_ _ | with_reducible refine Below.alloc ?_ (by first | omega | (simp; done) | (simp; omega)) _ | with_reducible refine Below.setCell ?_ (by first | omega | (simp; done) | (simp; omega)) _))⟩)
  clear hW
  refine (eqFloat32S_same x1 n1 HX1.out.2.2 _ _ _ _ _ (Holds.below HX1.out.1 H0.out.2.2) (Holds.below HX1.out.2.1 H0.out.2.2) (by omega)).mono ?_
  rintro e u1 ⟨rfl, hb⟩
  have Hu1 : Hid (Whole u1 w.heap.size 34 #[.int .i64 x0, .slice a1 n1 c1] ∧ Whole u1 (w.heap.size + 1) 34 #[.int .i64 x0, .slice b1 n1 d1] ∧ Below w.heap.size w u1) := Lib.hid ⟨H0.out.1.below hb, H0.out.2.1.below hb, Bel_next H0.out.2.2 hb⟩
  clear hb H0
  obtain ⟨hc0, hf0⟩ := Hu1.out.1.facts
  obtain ⟨hc1, hf1⟩ := Hu1.out.2.1.facts
  go_wp2_with fail
  have HBL := Hu1.out.2.2
  go_ret
  exact ⟨rfl, (by repeat (first | with_reducible exact Below.refl _ _ | with_reducible exact HBL | with_reducible refine Below.drew ?_ | with_reducible refine Bel_drewN ?_ _ | with_reducible refine Below.alloc ?_ (by first | omega | (simp; done) | (simp; omega)) _ | with_reducible refine Below.setCell ?_ (by first | omega | (simp; done) | (simp; omega)) _))⟩
theorem But.first {lo hi : Nat} {a b c : World} (h : Below a.heap.size a b) (k : But lo hi b c) : But lo hi a c := ⟨k.os.trans h.os, k.tape.trans h.tape, k.output.trans h.output, Nat.le_trans h.size k.size, fun i hi hn => (k.block i (Nat.lt_of_lt_of_le hi h.size) hn).trans (h.block i hi)⟩
set_option maxRecDepth 100000 in
theorem markChain_row (x0 : Int) (k n lo hi : Nat) (ao : Option Addr) (c : Nat) {vs : List Value} (w : World) (h : Row w lo hi ao vs) (hn : vs.length = n) (hk : k + n ≤ 1073741824) :
    Calls Try.prog 23 #[.agg #[.int .i64 x0, .slice ao n c], .int .i64 k] w (MarkedF k n lo hi ao w) := by
  have H := Lib.hid (And.intro h hn)
  have HB : Hid (Below w.heap.size w (w.alloc (.cells #[.int .i64 x0, .slice ao n c] 34))) := Lib.hid (by repeat (first | with_reducible exact Below.refl _ _ | with_reducible exact HBL | with_reducible refine Below.drew ?_ | with_reducible refine Bel_drewN ?_ _ | with_reducible refine Below.alloc ?_ (by first | omega | (simp; done) | (simp; omega)) _ | with_reducible refine Below.setCell ?_ (by first | omega | (simp; done) | (simp; omega)) _))
  clear h hn
  go_enter Try.func23, Try.ntmps23
  go_wp2_with fail
  refine (markFloat32S_row n _ k _ lo hi ao _ (H.out.1.alloc _) H.out.2 hk).mono ?_
  rintro e w1 ⟨rfl, row, bt⟩
  have H1 := Lib.hid (And.intro row (But.first HB.out bt))
  clear row bt
  go_wp2_with fail
  go_ret
  exact ⟨rfl, H1.out⟩
theorem markChain_zero (x0 : Int) (k : Nat) (ao : Option Addr) (c : Nat) (w : World) (hk : k ≤ 1073741824 := by omega) :
    Calls Try.prog 23 #[.agg #[.int .i64 x0, .slice ao 0 c], .int .i64 k] w (RetB (.int .i64 ((k + 0 : Nat) : Int)) w) :=
  (markChain_row x0 k 0 0 0 ao c (vs := []) w (.inl rfl) rfl (by omega)).mono fun e w1 ⟨he, _, bt⟩ => ⟨he, bt.os, bt.tape, bt.output, bt.size, fun i hi => bt.block i hi (by omega)⟩
set_option maxRecDepth 100000 in
theorem heldChain_marks (x0 : Int) (k n : Nat) (ao : Option Addr) (c : Nat) (w : World) (hx : Holds w ao (fl .f32 (fmarks k n))) (hk : k + n ≤ 1073741824) :
    Calls Try.prog 44 #[.agg #[.int .i64 x0, .slice ao n c], .int .i64 k] w (RetB (.int .i64 ((k + n : Nat) : Int)) w) := by
  have H := Lib.hid hx
  have HB : Hid (Below w.heap.size w (w.alloc (.cells #[.int .i64 x0, .slice ao n c] 34))) := Lib.hid (by repeat (first | with_reducible exact Below.refl _ _ | with_reducible exact HBL | with_reducible refine Below.drew ?_ | with_reducible refine Bel_drewN ?_ _ | with_reducible refine Below.alloc ?_ (by first | omega | (simp; done) | (simp; omega)) _ | with_reducible refine Below.setCell ?_ (by first | omega | (simp; done) | (simp; omega)) _))
  clear hx
  go_enter Try.func44, Try.ntmps44
  go_wp2_with fail
  refine (heldFloat32S_fmarks k n _ _ _ (H.out.below HB.out) hk).mono ?_
  rintro e w1 ⟨rfl, hb⟩
  have H1 := Lib.hid (Bel_next HB.out hb)
  clear hb
  have hk0 : (0 : Int) ≤ ((k + n : Nat) : Int) := by omega
  go_wp2_with fail
  go_ret
  exact ⟨rfl, H1.out⟩
end Go.Proofs.Ytgeomaeccalceaa
