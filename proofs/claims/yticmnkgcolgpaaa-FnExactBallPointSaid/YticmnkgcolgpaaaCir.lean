/- Points of a circle: both sides return the next seed and a complex number whose parts are known but for not-a-numbers' bits. -/
import Derived.Test.YticmnkgcolgpaaaPhi
import Derived.Test.YticmnkgcolgpaaaSh
import Derived.Test.YticmnkgcolgpaaaGd
namespace Go.Proofs.Yticmnkgcolgpaaa
open Go Go.RowKit Fl
set_option linter.unusedVariables false
/-- It returns a complex number among other results, each part known but for a not-a-number's bits, and has turned only memory of its own. -/
def RetC (f : Nat → Nat → Value) (u v : Option Nat) (w : World) (e : Ending) (w' : World) : Prop := ∃ r t, e = .returned (f r t) ∧ Fv .f32 u r ∧ Fv .f32 v t ∧ Below w.heap.size w w'
theorem wpList_widenC_g {P : Program} {ops : Array Oper} {Q : Exit → Act → World → Prop} {rest : List Oper} {a : Act} {w : World} {dst : Option Tmp} {ty : TypeId} {pos : String} {af : Array Edge} {g : Option (Nat × Bool)} (src dt : TypeId) (x : Operand) (b c : Nat) (hx : a.eval x = .complex .f32 b c) (hs : P.underlying src = some (.complex .f32)) (hd : P.underlying dt = some (.complex .f64))
    (hw : Region.wanted ⟨dst, .convert src dt x, ty, pos, af, g⟩ (yielded ops a.tmps) = true)
    (hK : ∀ r s n, Fv .f64 (widen (av .f32 b)) r → Fv .f64 (widen (av .f32 c)) s → wpList P ops Q rest (a.put dst (.complex .f64 r s)) (w.drewN n)) :
    wpList P ops Q (⟨dst, .convert src dt x, ty, pos, af, g⟩ :: rest) a w := by
  refine BigFrame.wpList_want hw fun K hK' => ?_
  obtain ⟨r, s, n, hrun, h1, h2⟩ := run_widenC (P := P) b c w
  unfold Oper.wp
  simp [execOp, hx, convert, run_underlying hs, run_underlying hd, hrun]
  exact hK' _ _ (hK r s n h1 h2)
theorem widen_num {P : Program} {b : Nat} (hb : (Ieee.single.read b).isNaN = false) (w : World) : (Conv.floatToFloat .f32 b .f64).run P w = .ok (.float .f64 (Ieee.double.write (Ieee.single.read b))) w := by
  rcases read_single b with ⟨s, m, i, e, hm⟩ | ⟨s, e⟩ | ⟨s, f, e⟩
  · have hi := wide_not_inf b s m i e
    rw [e] at hi ⊢
    simp [Conv.floatToFloat, FloatKind.decode, FloatKind.encode, FloatKind.format, e, hi]
  · rw [e]
    simp [Conv.floatToFloat, FloatKind.decode, FloatKind.encode, FloatKind.format, e]
  · rw [e] at hb; cases hb
/-- The share as a wide number. -/
def shW (k : Int) (a b : Nat) : Nat := Ieee.double.write (Ieee.single.read (shK k a b))
theorem shW_lt (k : Int) (a b : Nat) : shW k a b < 18446744073709551616 := Ieee.double.write_lt _
theorem shW_run {P : Program} {k : Int} {a b : Nat} (hs : sOk k a b) (w : World) : (Conv.floatToFloat .f32 (shK k a b) .f64).run P w = .ok (.float .f64 (shW k a b)) w := widen_num (shF_lt _ (shK_lt hs.kind)).2 w
theorem convert_wideC {P : Program} {src dt : TypeId} (hs : P.underlying src = some (.float .f32)) (hd : P.underlying dt = some (.float .f64)) (b : Nat) (w : World) : (convert src dt (.float .f32 b)).run P w = (Conv.floatToFloat .f32 b .f64).run P w := by
  simp [convert, run_underlying hs, run_underlying hd]
set_option maxRecDepth 100000 in
set_option maxHeartbeats 1000000 in
theorem implCircle_yes (k : Int) (a b : Nat) (w : World) (hs : sOk k a b) (u v : Option Nat) (hP : ∀ w, Calls Try.prog 15 #[.float .f64 (shW k a b)] w (NumC u v w)) :
    Calls Try.prog 19 #[sd k a b] w (RetC (fun r t => .tuple #[sd k (nxA k a b) (nxB k a b), .complex .f32 r t, .bool true]) u v w) := by
  have HS := Lib.hid hs
  have HP := Lib.hid hP
  have hwd : ∀ w : World, (convert 50 22 (.float .f32 (shK k a b))).run Try.prog w = .ok (.float .f64 (shW k a b)) w := fun w => (convert_wideC Try.underlying50 Try.underlying22 _ w).trans (shW_run hs w)
  clear hs hP
  go_enter Try.func19, Try.ntmps19
  go_wp2_with fail
  refine (ValidSeed_any _ _ _ _).mono ?_
  rintro e w1 ⟨rfl, rfl⟩
  rw [HS.out.1]
  go_wp2_with fail
  refine (drawShare_any _ _ _ _ HS.out).mono ?_
  rintro e w1 ⟨rfl, hb⟩
  have HBL : Below w.heap.size w w1 := Bel_next (by repeat (first | with_reducible exact Below.refl _ _ | with_reducible exact HBL | with_reducible refine Below.drew ?_ | with_reducible refine Bel_drewN ?_ _ | with_reducible refine Below.alloc ?_ (by first | omega | (simp; done) | (simp; omega)) _ | with_reducible refine Below.setCell ?_ (by first | omega | (simp; done) | (simp; omega)) _)) hb
  have q0 := (((Whole.made w 31 (sdC k a b)).alloc (.cells (sdC 0 0 0) 31)).alloc (.cells (sdC k a b) 31)).below hb
  have q1 := ((Whole.made2 w (.cells (sdC k a b) 31) 31 (sdC 0 0 0)).alloc (.cells (sdC k a b) 31)).below hb
  have H := Lib.hid (And.intro HBL (And.intro q0 q1))
  obtain ⟨hc0, hf0⟩ := q0.facts
  obtain ⟨hc1, hf1⟩ := q1.facts
  have hz0 := q0.lt
  have hz1 := q1.lt
  clear hb HBL q0 q1
  generalize hu : shK k a b = su at *
  generalize hW : shW k a b = sw at *
  have HU := Lib.hid (And.intro hu hW)
  clear hu hW
  go_wp2_with (first | (go_at_call 15; fail))
  go_region_with (first | (go_at_call 15; refine (HP.out _).mono ?_; rintro e w4 ⟨r1, s1, n1, rfl, hr1, hs1, rfl⟩))
  all_goals
    go_wp2_with fail
    obtain ⟨HBL, q0, q1⟩ := H.out
    exact bodyPost_ret (v := .tuple #[sd k (nxA k a b) (nxB k a b), .complex .f32 r1 s1, .bool true]) (by simp [results, Try.results19, go_sem, hc1]) rfl ⟨r1, s1, rfl, hr1, hs1, (by repeat (first | with_reducible exact Below.refl _ _ | with_reducible exact HBL | with_reducible refine Below.drew ?_ | with_reducible refine Bel_drewN ?_ _ | with_reducible refine Below.alloc ?_ (by first | omega | (simp; done) | (simp; omega)) _ | with_reducible refine Below.setCell ?_ (by first | omega | (simp; done) | (simp; omega)) _))⟩
theorem implCircle_no (k : Int) (a b : Nat) (w : World) (hv : vSeed k a b = false) :
    Calls Try.prog 19 #[sd k a b] w (RetC (fun r t => .tuple #[sd 0 0 0, .complex .f32 r t, .bool false]) (some 0) (some 0) w) := by
  go_enter Try.func19, Try.ntmps19
  go_wp2_with fail
  refine (ValidSeed_any _ _ _ _).mono ?_
  rintro e w1 ⟨rfl, rfl⟩
  go_wp2_with fail
  exact bodyPost_ret (v := .tuple #[sd 0 0 0, .complex .f32 0 0, .bool false]) (by simp [results, Try.results19, go_sem]) rfl ⟨0, 0, rfl, ⟨by decide, by decide +kernel⟩, ⟨by decide, by decide +kernel⟩, (by repeat (first | with_reducible exact Below.refl _ _ | with_reducible exact HBL | with_reducible refine Below.drew ?_ | with_reducible refine Bel_drewN ?_ _ | with_reducible refine Below.alloc ?_ (by first | omega | (simp; done) | (simp; omega)) _ | with_reducible refine Below.setCell ?_ (by first | omega | (simp; done) | (simp; omega)) _))⟩
set_option maxRecDepth 100000 in
set_option maxHeartbeats 1000000 in
theorem specCircle_yes (k : Int) (a b : Nat) (w : World) (hs : sOk k a b) (u v : Option Nat) (hP : ∀ w, Calls Try.prog 49 #[.float .f64 (shW k a b)] w (NumC u v w)) :
    Calls Try.prog 17 #[sd k a b] w (RetC (fun r t => .tuple #[sd k (nxA k a b) (nxB k a b), .complex .f32 r t, .bool true]) u v w) := by
  have HS := Lib.hid hs
  have HP := Lib.hid hP
  have p0 := Lib.hid ((Whole.made w 31 (sdC k a b)).alloc (.cells (sdC 0 0 0) 31))
  have p1 := Lib.hid (Whole.made2 w (.cells (sdC k a b) 31) 31 (sdC 0 0 0))
  have hwd : ∀ w : World, (convert 50 22 (.float .f32 (shK k a b))).run Try.prog w = .ok (.float .f64 (shW k a b)) w := fun w => (convert_wideC Try.underlying50 Try.underlying22 _ w).trans (shW_run hs w)
  clear hs hP
  generalize hW : shW k a b = sw at *
  have HU := Lib.hid hW
  clear hW
  go_enter Try.func17, Try.ntmps17
  go_wp2_with fail
  refine (l02Is_any _ _ _ _ _ p0.out).mono ?_
  rintro e w1 ⟨rfl, rfl⟩
  rw [HS.out.1]
  go_wp2_with fail
  refine (l02Share_any _ _ _ _ _ HS.out p0.out).mono ?_
  rintro e w2 ⟨rfl, q0, hg⟩
  have q1 := p1.out.grown hg (by simp)
  have B2 : Below w.heap.size w w2 := Below.grown (by repeat (first | with_reducible exact Below.refl _ _ | with_reducible exact HBL | with_reducible refine Below.drew ?_ | with_reducible refine Bel_drewN ?_ _ | with_reducible refine Below.alloc ?_ (by first | omega | (simp; done) | (simp; omega)) _ | with_reducible refine Below.setCell ?_ (by first | omega | (simp; done) | (simp; omega)) _)) hg (by simp <;> omega) (by simp)
  have HB := Lib.hid (And.intro B2 (And.intro q0 q1))
  clear q0 q1 hg B2 p0 p1
  go_wp2_with (first | (go_at_call 49; fail))
  refine (HP.out _).mono ?_
  rintro e w3 ⟨r1, s1, n1, rfl, hr1, hs1, rfl⟩
  obtain ⟨HBL, q0, q1⟩ := HB.out
  have q0 := q0.drewN n1
  have q1 := q1.drewN n1
  obtain ⟨hc0, hf0⟩ := q0.facts
  obtain ⟨hc1, hf1⟩ := q1.facts
  have hz0 := q0.lt
  have hz1 := q1.lt
  clear q0 q1
  go_wp2_with fail
  exact bodyPost_ret (v := .tuple #[sd k (nxA k a b) (nxB k a b), .complex .f32 r1 s1, .bool true]) (by simp [results, Try.results17, go_sem, hc1]) rfl ⟨r1, s1, rfl, hr1, hs1, (by repeat (first | with_reducible exact Below.refl _ _ | with_reducible exact HBL | with_reducible refine Below.drew ?_ | with_reducible refine Bel_drewN ?_ _ | with_reducible refine Below.alloc ?_ (by first | omega | (simp; done) | (simp; omega)) _ | with_reducible refine Below.setCell ?_ (by first | omega | (simp; done) | (simp; omega)) _))⟩
theorem specCircle_no (k : Int) (a b : Nat) (w : World) (hv : vSeed k a b = false) :
    Calls Try.prog 17 #[sd k a b] w (RetC (fun r t => .tuple #[sd 0 0 0, .complex .f32 r t, .bool false]) (some 0) (some 0) w) := by
  have p0 := Lib.hid ((Whole.made w 31 (sdC k a b)).alloc (.cells (sdC 0 0 0) 31))
  go_enter Try.func17, Try.ntmps17
  go_wp2_with fail
  refine (l02Is_any _ _ _ _ _ p0.out).mono ?_
  rintro e w1 ⟨rfl, rfl⟩
  go_wp2_with fail
  exact bodyPost_ret (v := .tuple #[sd 0 0 0, .complex .f32 0 0, .bool false]) (by simp [results, Try.results17, go_sem]) rfl ⟨0, 0, rfl, ⟨by decide, by decide +kernel⟩, ⟨by decide, by decide +kernel⟩, (by repeat (first | with_reducible exact Below.refl _ _ | with_reducible exact HBL | with_reducible refine Below.drew ?_ | with_reducible refine Bel_drewN ?_ _ | with_reducible refine Below.alloc ?_ (by first | omega | (simp; done) | (simp; omega)) _ | with_reducible refine Below.setCell ?_ (by first | omega | (simp; done) | (simp; omega)) _))⟩
theorem circle_both (k : Int) (a b : Nat) (hs : sOk k a b) : ∃ u v, (∀ w, Calls Try.prog 19 #[sd k a b] w (RetC (fun r t => .tuple #[sd k (nxA k a b) (nxB k a b), .complex .f32 r t, .bool true]) u v w)) ∧ (∀ w, Calls Try.prog 17 #[sd k a b] w (RetC (fun r t => .tuple #[sd k (nxA k a b) (nxB k a b), .complex .f32 r t, .bool true]) u v w)) := by
  obtain ⟨u, v, hI, hS⟩ := phasor_both (shW k a b) (shW_lt k a b)
  exact ⟨u, v, fun w => implCircle_yes k a b w hs u v hI, fun w => specCircle_yes k a b w hs u v hS⟩
end Go.Proofs.Yticmnkgcolgpaaa
