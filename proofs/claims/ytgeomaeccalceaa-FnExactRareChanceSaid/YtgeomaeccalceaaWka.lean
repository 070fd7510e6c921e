/- Walks: what both sides call. -/
import Derived.Test.YtgeomaeccalceaaGon
import Derived.Test.YtgeomaeccalceaaSh
import Derived.Test.YtgeomaeccalceaaIl
import Derived.Test.YtgeomaeccalceaaOp
namespace Go.Proofs.Ytgeomaeccalceaa
open Go Go.RowKit Fl Vag
set_option linter.unusedVariables false

/-- A share, and the seed of a drawer turned to the next one. -/
def SharedD (g : Nat) (k : Int) (a b : Nat) (w : World) (e : Ending) (w' : World) : Prop :=
  e = .returned (.float .f32 (shK k a b)) ∧ Whole w' g 99 (sdC k (nxA k a b) (nxB k a b)) ∧ w.grownBy w' (some g)
set_option maxHeartbeats 1000000 in
theorem share_any (g : Nat) (k : Int) (a b : Nat) (w : World) (hs : sOk k a b) (hw : Whole w g 99 (sdC k a b)) :
    Calls Try.prog 72 #[.pointer (some ⟨g, 0, none⟩)] w (SharedD g k a b w) := by
  have HS := Lib.hid hs
  have HW := Lib.hid hw
  obtain ⟨hc0, hf0⟩ := hw.facts
  have hz := hw.lt
  clear hs hw
  go_enter Try.func72, Try.ntmps72
  go_wp2_with (first | (go_at_call 116; fail))
  refine (implShare_yes _ _ _ _ HS.out).mono ?_
  rintro e w1 ⟨rfl, hb⟩
  have H1 := Lib.hid (And.intro (HW.out.below hb) (grown_below (row := some g) hb))
  clear hc0 hf0 hz hb
  obtain ⟨hc0, hf0⟩ := H1.out.1.facts
  have hz := H1.out.1.lt
  go_wp2_with fail
  go_ret
  exact ⟨rfl, (((H1.out.1.put 0 _).put 1 _).put 2 _).alloc _, grown_trans H1.out.2 (grown_trans (grown_put (grown_put (grown_set w1 g 0 _) 1 _) 2 _) (grown_below (Below.alloc (Below.refl _ _) (Nat.le_refl _) _)))⟩
theorem has_any (n i : Int) (ao : Option Addr) (m c : Nat) (v : Bool) (w : World) (hv : decide (0 ≤ i ∧ i < n) = v) :
    Calls Try.prog 69 #[.agg #[.int .i64 n, .slice ao m c], .int .i64 i] w (RetB (.bool v) w) := by
  by_cases h0 : 0 ≤ i
  · have e : v = decide (i < n) := by rw [← hv, Bool.eq_iff_iff]; simp; omega
    have E := Lib.hid e
    clear e hv
    go_enter Try.func69, Try.ntmps69
    go_wp2
    go_ret
    exact ⟨by first | rfl | (rw [E.out]; rfl), (by repeat (first | with_reducible exact Below.refl _ _ | with_reducible exact HBL | with_reducible refine Below.drew ?_ | with_reducible refine Bel_drewN ?_ _ | with_reducible refine Below.alloc ?_ (by first | omega | (simp; done) | (simp; omega)) _ | with_reducible refine Below.setCell ?_ (by first | omega | (simp; done) | (simp; omega)) _))⟩
  · have h1 : decide (0 ≤ i) = false := by simpa using h0
    have e : v = false := by rw [← hv]; simp; omega
    have E := Lib.hid e
    clear e hv
    go_enter Try.func69, Try.ntmps69
    go_wp2
    go_ret
    exact ⟨by first | rfl | (rw [E.out]; rfl), (by repeat (first | with_reducible exact Below.refl _ _ | with_reducible exact HBL | with_reducible refine Below.drew ?_ | with_reducible refine Bel_drewN ?_ _ | with_reducible refine Below.alloc ?_ (by first | omega | (simp; done) | (simp; omega)) _ | with_reducible refine Below.setCell ?_ (by first | omega | (simp; done) | (simp; omega)) _))⟩
theorem wlen_any (n : Int) (v : Bool) (w : World) (hv : decide (0 ≤ n ∧ n ≤ 512) = v) : Calls Try.prog 70 #[.int .i64 n] w (fun e w' => e = .returned (.bool v) ∧ w = w') := by
  by_cases h0 : 0 ≤ n
  · have e : v = decide (n ≤ 512) := by rw [← hv, Bool.eq_iff_iff]; simp; omega
    have E := Lib.hid e
    clear e hv
    go_enter Try.func70, Try.ntmps70
    go_wp2
    go_ret
    exact ⟨by first | rfl | (rw [E.out]; rfl), rfl⟩
  · have h1 : decide (0 ≤ n) = false := by simpa using h0
    have e : v = false := by rw [← hv]; simp; omega
    have E := Lib.hid e
    clear e hv
    go_enter Try.func70, Try.ntmps70
    go_wp2
    go_ret
    exact ⟨by first | rfl | (rw [E.out]; rfl), rfl⟩
/-- A state of a valid chain. -/
def isState (s : Int) (ss : List Nat) (i : Int) : Prop := isChain s ss ∧ 0 ≤ i ∧ i < s
set_option maxRecDepth 100000 in
set_option maxHeartbeats 1000000 in
theorem l07State_any (s i : Int) (ss : List Nat) (m : Nat) (hm : ss.length = m) (ao : Option Addr) (c g : Nat) (w : World) (hw : Whole w g 34 #[.int .i64 s, .slice ao m c]) (hx : Holds w ao (fl .f32 ss)) (hlen : m ≤ 1048576) :
    Calls Try.prog 63 #[.pointer (some ⟨g, 0, none⟩), .int .i64 i] w (Bo (isState s ss i) w) := by
  have HW := Lib.hid (And.intro hw hx)
  have hz := hw.lt
  obtain ⟨hc0, hf0⟩ := hw.facts
  clear hw hx
  go_enter Try.func63, Try.ntmps63
  go_wp2_with (first | (go_at_call 75; fail))
  refine (l07Is_any s ss m hm ao c g _ HW.out.1 HW.out.2 hlen).mono ?_
  rintro e w' ⟨bb, q, rfl, hb, rfl⟩
  have HB := Lib.hid hb
  clear hb
  cases bb with
  | false =>
    go_wp2
    go_ret
    exact Bo.mk _ (falseIs fun h => by have := HB.out.2 h.1; cases this) (by repeat (first | with_reducible exact Below.refl _ _ | with_reducible exact HBL | with_reducible refine Below.drew ?_ | with_reducible refine Bel_drewN ?_ _ | with_reducible refine Below.alloc ?_ (by first | omega | (simp; done) | (simp; omega)) _ | with_reducible refine Below.setCell ?_ (by first | omega | (simp; done) | (simp; omega)) _))
  | true =>
    have hc := HB.out.1 rfl
    have hs1 := hc.side
    have HC := Lib.hid hc
    clear hc
    obtain ⟨v, hv⟩ : ∃ v, decide (0 ≤ i ∧ i ≤ s - 1) = v := ⟨_, rfl⟩
    have HV : Hid (v = true ↔ isState s ss i) := Lib.hid (by rw [← hv]; simp only [decide_eq_true_eq]; exact ⟨fun h => ⟨HC.out, h.1, by omega⟩, fun h => ⟨h.2.1, by have := h.2.2; omega⟩⟩)
    go_wp2_with (first | (go_at_call 64; refine (l00In_vc _ _ _ _ hv _).mono ?_; rintro e w' ⟨rfl, rfl⟩))
    go_ret
    exact Bo.mk _ HV.out (by repeat (first | with_reducible exact Below.refl _ _ | with_reducible exact HBL | with_reducible refine Below.drew ?_ | with_reducible refine Bel_drewN ?_ _ | with_reducible refine Below.alloc ?_ (by first | omega | (simp; done) | (simp; omega)) _ | with_reducible refine Below.setCell ?_ (by first | omega | (simp; done) | (simp; omega)) _))
end Go.Proofs.Ytgeomaeccalceaa
