/- The helpers of laws on Table. -/
import Derived.Test.YtfgkimhcbboipaaDoorSz
namespace Go.Proofs.YtfgkimhcbboipaaDoor
open Go Go.RowKit
set_option linter.unusedVariables false

set_option maxRecDepth 100000 in
theorem szTable_yes (x0 : Int) (x1 : Int) (x2 : List Int) (a2 : Option Addr) (c2 : Nat) (l : Nat) (w : World) (h : x2.length ≤ l) (hl : l ≤ 1048576) :
    Calls Tryd.prog 46 #[.agg #[.int .i64 x0, .int .i64 x1, .slice a2 x2.length c2], .int .i64 l] w (RetB (.int .i64 ((l - (x2.length) : Nat) : Int)) w) := by
  obtain ⟨q2, hq2⟩ : ∃ q2, l = x2.length + q2 := ⟨l - x2.length, by omega⟩
  have hb2 : q2 ≤ 1048576 := by omega
  have hi2 : (0 : Int) ≤ (q2 : Int) := by omega
  have HE : Hid (l - (x2.length) = q2) := Lib.hid (by omega)
  have HQ2 := Lib.hid hq2
  clear hq2
  clear h
  go_enter Tryd.func46, Tryd.ntmps46
  go_wp2_with fail
  refine (szInt64S_yes _ _ _ _ q2 _ HQ2.out (by omega)).mono ?_
  rintro e w' ⟨rfl, rfl⟩
  go_wp2_with fail
  go_ret
  exact ⟨by rw [HE.out]; rfl, (by repeat (first | with_reducible exact Below.refl _ _ | with_reducible exact HBL | with_reducible refine Below.drew ?_ | with_reducible refine Bel_drewN ?_ _ | with_reducible refine Below.alloc ?_ (by first | omega | (simp; done) | (simp; omega)) _ | with_reducible refine Below.setCell ?_ (by first | omega | (simp; done) | (simp; omega)) _))⟩
set_option maxRecDepth 100000 in
theorem szTable_no (x0 : Int) (x1 : Int) (x2 : List Int) (a2 : Option Addr) (c2 : Nat) (l : Nat) (w : World) (h : ¬ x2.length ≤ l) (hl : l ≤ 1048576) (m2 : x2.length ≤ 9223372036854775807) :
    Calls Tryd.prog 46 #[.agg #[.int .i64 x0, .int .i64 x1, .slice a2 x2.length c2], .int .i64 l] w (RetB (.int .i64 (-1)) w) := by
  have HF : Hid (l < x2.length) := Lib.hid (by omega)
  clear h
  go_enter Tryd.func46, Tryd.ntmps46
  go_wp2_with fail
  refine (szInt64S_no _ _ _ _ _ HF.out (by omega) m2).mono ?_
  rintro e w' ⟨rfl, rfl⟩
  go_wp2_with fail
  go_ret
  exact ⟨rfl, (by repeat (first | with_reducible exact Below.refl _ _ | with_reducible exact HBL | with_reducible refine Below.drew ?_ | with_reducible refine Bel_drewN ?_ _ | with_reducible refine Below.alloc ?_ (by first | omega | (simp; done) | (simp; omega)) _ | with_reducible refine Below.setCell ?_ (by first | omega | (simp; done) | (simp; omega)) _))⟩
/-- A copy in new memory. -/
def ToTable (x0 : Int) (x1 : Int) (x2 : List Int) (w : World) (e : Ending) (w' : World) : Prop :=
  ∃ b2 : Option Addr, e = .returned (.agg #[.int .i64 x0, .int .i64 x1, .slice b2 x2.length x2.length]) ∧ Row w' w.heap.size w'.heap.size b2 (il x2) ∧ Below w.heap.size w w'
set_option maxRecDepth 100000 in
set_option maxHeartbeats 1000000 in
theorem toTable_any (x0 : Int) (x1 : Int) (x2 : List Int) (a2 : Option Addr) (c2 : Nat) (w : World) (h2 : Holds w a2 (il x2)) (l2 : x2.length ≤ 1048576) :
    Calls Tryd.prog 48 #[.agg #[.int .i64 x0, .int .i64 x1, .slice a2 x2.length c2]] w (ToTable x0 x1 x2 w) := by
  have HX2 := Lib.hid h2
  clear h2
  go_enter Tryd.func48, Tryd.ntmps48
  go_wp2_with fail
  generalize hW : World.alloc (World.alloc (World.alloc _ _) _) _ = v0
  have H0 : Hid (Whole v0 w.heap.size 60 #[.int .i64 x0, .int .i64 x1, .slice a2 x2.length c2] ∧ Whole v0 (w.heap.size + 1) 63 #[.int .i64 0, .int .i64 0, .slice none 0 0] ∧ Whole v0 (w.heap.size + 1 + 1) 63 #[.int .i64 x0, .int .i64 x1, .slice none 0 0] ∧ Below w.heap.size w v0 ∧ w.heap.size + 3 ≤ v0.heap.size) := Lib.hid (by rw [← hW]; exact ⟨((Whole.made _ _ _).alloc _).alloc _, (Whole.made2 _ _ _ _).alloc _, by simpa using Whole.made2 (w.alloc _) _ _ _, (by repeat (first | with_reducible exact Below.refl _ _ | with_reducible exact HBL | with_reducible refine Below.drew ?_ | with_reducible refine Bel_drewN ?_ _ | with_reducible refine Below.alloc ?_ (by first | omega | (simp; done) | (simp; omega)) _ | with_reducible refine Below.setCell ?_ (by first | omega | (simp; done) | (simp; omega)) _)), by simp⟩)
  clear hW
  -- field 0
  -- field 1
  refine (toInt64S_any x2 _ _ _ (Holds.below HX2.out H0.out.2.2.2.1) l2).mono ?_
  rintro e u2 ⟨b2, rfl, row, hb⟩
  have Hu2 : Hid (Whole u2 w.heap.size 60 #[.int .i64 x0, .int .i64 x1, .slice a2 x2.length c2] ∧ Whole u2 (w.heap.size + 1) 63 #[.int .i64 0, .int .i64 0, .slice none 0 0] ∧ Whole u2 (w.heap.size + 1 + 1) 63 #[.int .i64 x0, .int .i64 x1, .slice none 0 0] ∧ Below w.heap.size w u2 ∧ w.heap.size + 3 ≤ u2.heap.size ∧ Row u2 (w.heap.size + 3) u2.heap.size b2 (il x2)) := Lib.hid ⟨Whole.below H0.out.1 hb, Whole.below H0.out.2.1 hb, Whole.below H0.out.2.2.1 hb, Bel_next H0.out.2.2.2.1 hb, (by have h1 := hb.size; have h2 := H0.out.2.2.2.2; omega), Row.wide row H0.out.2.2.2.2 (Nat.le_refl _)⟩
  clear row hb H0
  obtain ⟨hc0, hf0⟩ := Hu2.out.1.facts
  obtain ⟨hc1, hf1⟩ := Hu2.out.2.1.facts
  obtain ⟨hc2, hf2⟩ := Hu2.out.2.2.1.facts
  have hz0 := Hu2.out.1.lt
  have hz1 := Hu2.out.2.1.lt
  have hz2 := Hu2.out.2.2.1.lt
  go_wp2_with fail
  have HBL := Hu2.out.2.2.2.1
  exact bodyPost_ret (v := .agg #[.int .i64 x0, .int .i64 x1, .slice b2 x2.length x2.length]) (by simp [results, Tryd.results48, go_sem, hc1]) rfl ⟨b2, rfl, by simpa using Row.wide (((((Hu2.out.2.2.2.2.2).far (.inl (by first | omega | (simp; done) | (simp; omega))) _).far (.inl (by first | omega | (simp; done) | (simp; omega))) _).far (.inl (by first | omega | (simp; done) | (simp; omega))) _).far (.inl (by first | omega | (simp; done) | (simp; omega))) _) (lo' := w.heap.size) (by omega) (Nat.le_refl _), (by repeat (first | with_reducible exact Below.refl _ _ | with_reducible exact HBL | with_reducible refine Below.drew ?_ | with_reducible refine Bel_drewN ?_ _ | with_reducible refine Below.alloc ?_ (by first | omega | (simp; done) | (simp; omega)) _ | with_reducible refine Below.setCell ?_ (by first | omega | (simp; done) | (simp; omega)) _))⟩
set_option maxRecDepth 100000 in
set_option maxHeartbeats 1000000 in
theorem eqTable_same (x0 : Int) (x1 : Int) (x2 : List Int) (n2 : Nat) (e2 : x2.length = n2) (a2 b2 : Option Addr) (c2 d2 : Nat) (w : World) (h2 : Holds w a2 (il x2)) (k2 : Holds w b2 (il x2)) (l2 : n2 ≤ 1048576) :
    Calls Tryd.prog 50 #[.agg #[.int .i64 x0, .int .i64 x1, .slice a2 n2 c2], .agg #[.int .i64 x0, .int .i64 x1, .slice b2 n2 d2]] w (RetB (.bool true) w) := by
  have HX2 := Lib.hid (And.intro h2 (And.intro k2 e2))
  clear h2 k2 e2
  go_enter Tryd.func50, Tryd.ntmps50
  go_wp2_with fail
  generalize hW : World.alloc (World.alloc _ _) _ = v0
  have H0 : Hid (Whole v0 w.heap.size 63 #[.int .i64 x0, .int .i64 x1, .slice a2 n2 c2] ∧ Whole v0 (w.heap.size + 1) 63 #[.int .i64 x0, .int .i64 x1, .slice b2 n2 d2] ∧ Below w.heap.size w v0) := Lib.hid (by rw [← hW]; exact ⟨(Whole.made _ _ _).alloc _, Whole.made2 _ _ _ _, (by repeat (first | with_reducible exact Below.refl _ _ | with_reducible exact HBL | with_reducible refine Below.drew ?_ | with_reducible refine Bel_drewN ?_ _ | with_reducible refine Below.alloc ?_ (by first | omega | (simp; done) | (simp; omega)) _ | with_reducible refine Below.setCell ?_ (by first | omega | (simp; done) | (simp; omega)) _))⟩)
  clear hW
  refine (eqInt64S_same x2 n2 HX2.out.2.2 _ _ _ _ _ (Holds.below HX2.out.1 H0.out.2.2) (Holds.below HX2.out.2.1 H0.out.2.2) (by omega)).mono ?_
  rintro e u2 ⟨rfl, hb⟩
  have Hu2 : Hid (Whole u2 w.heap.size 63 #[.int .i64 x0, .int .i64 x1, .slice a2 n2 c2] ∧ Whole u2 (w.heap.size + 1) 63 #[.int .i64 x0, .int .i64 x1, .slice b2 n2 d2] ∧ Below w.heap.size w u2) := Lib.hid ⟨H0.out.1.below hb, H0.out.2.1.below hb, Bel_next H0.out.2.2 hb⟩
  clear hb H0
  obtain ⟨hc0, hf0⟩ := Hu2.out.1.facts
  obtain ⟨hc1, hf1⟩ := Hu2.out.2.1.facts
  go_wp2_with fail
  have HBL := Hu2.out.2.2
  go_ret
  exact ⟨rfl, (by repeat (first | with_reducible exact Below.refl _ _ | with_reducible exact HBL | with_reducible refine Below.drew ?_ | with_reducible refine Bel_drewN ?_ _ | with_reducible refine Below.alloc ?_ (by first | omega | (simp; done) | (simp; omega)) _ | with_reducible refine Below.setCell ?_ (by first | omega | (simp; done) | (simp; omega)) _))⟩
theorem But.first {lo hi : Nat} {a b c : World} (h : Below a.heap.size a b) (k : But lo hi b c) : But lo hi a c := ⟨k.os.trans h.os, k.tape.trans h.tape, k.output.trans h.output, Nat.le_trans h.size k.size, fun i hi hn => (k.block i (Nat.lt_of_lt_of_le hi h.size) hn).trans (h.block i hi)⟩
set_option maxRecDepth 100000 in
theorem markTable_row (x0 : Int) (x1 : Int) (k n lo hi : Nat) (ao : Option Addr) (c : Nat) {vs : List Value} (w : World) (h : Row w lo hi ao vs) (hn : vs.length = n) (hk : k + n ≤ 1073741824) :
    Calls Tryd.prog 53 #[.agg #[.int .i64 x0, .int .i64 x1, .slice ao n c], .int .i64 k] w (Marked k n lo hi ao w) := by
  have H := Lib.hid (And.intro h hn)
  have HB : Hid (Below w.heap.size w (w.alloc (.cells #[.int .i64 x0, .int .i64 x1, .slice ao n c] 63))) := Lib.hid (by repeat (first | with_reducible exact Below.refl _ _ | with_reducible exact HBL | with_reducible refine Below.drew ?_ | with_reducible refine Bel_drewN ?_ _ | with_reducible refine Below.alloc ?_ (by first | omega | (simp; done) | (simp; omega)) _ | with_reducible refine Below.setCell ?_ (by first | omega | (simp; done) | (simp; omega)) _))
  clear h hn
  go_enter Tryd.func53, Tryd.ntmps53
  go_wp2_with fail
  refine (markInt64S_row n _ k _ lo hi ao _ (H.out.1.alloc _) H.out.2 hk).mono ?_
  rintro e w1 ⟨rfl, row, bt⟩
  have H1 := Lib.hid (And.intro row (But.first HB.out bt))
  clear row bt
  go_wp2_with fail
  go_ret
  exact ⟨rfl, H1.out⟩
end Go.Proofs.YtfgkimhcbboipaaDoor
