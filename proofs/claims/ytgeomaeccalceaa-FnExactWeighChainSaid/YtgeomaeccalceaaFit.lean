/- A chain and a row for it, both sides; copies of rows. -/
import Derived.Test.YtgeomaeccalceaaRrw
import Derived.Deep.RegionLaw
import Derived.Lib.SliceRun
namespace Go.Proofs.Ytgeomaeccalceaa
open Go Go.RowKit Fl Vag
set_option linter.unusedVariables false

theorem eq_cast (a : Nat) (s : Int) : (((a : Int) == s) = true ↔ (a : Int) = s) := by simp
set_option maxRecDepth 100000 in
set_option maxHeartbeats 1000000 in
theorem isChainWith_any (s : Int) (ss xs : List Nat) (m k : Nat) (hm : ss.length = m) (hk : xs.length = k) (ao bo : Option Addr) (c d : Nat) (w : World) (hs : Holds w ao (fl .f32 ss)) (hx : Holds w bo (fl .f32 xs)) (hlen : m ≤ 1048576) (hlk : k ≤ 1048576) (hc : m ≤ c) :
    Calls Try.prog 85 #[.agg #[.int .i64 s, .slice ao m c], .slice bo k d] w (Bo (fits s ss xs) w) := by
  have HX := Lib.hid (And.intro hs (And.intro hx (And.intro hm hk)))
  have hc0 : Whole (w.alloc (.cells #[.int .i64 s, .slice ao m c] 34)) w.heap.size 34 #[.int .i64 s, .slice ao m c] := Whole.made _ _ _
  have H0 : Hid (ChBox w (w.alloc (.cells #[.int .i64 s, .slice ao m c] 34)) s ao m c) := Lib.hid ⟨hc0, (by repeat (first | with_reducible exact Below.refl _ _ | with_reducible exact HBL | with_reducible refine Below.drew ?_ | with_reducible refine Bel_drewN ?_ _ | with_reducible refine Below.alloc ?_ (by first | omega | (simp; done) | (simp; omega)) _ | with_reducible refine Below.setCell ?_ (by first | omega | (simp; done) | (simp; omega)) _))⟩
  clear hs hx hm hk hc0
  go_enter Try.func85, Try.ntmps85
  go_wp2_with (first | (go_at_call 68; fail))
  refine (implValidChain_any s ss m HX.out.2.2.1 ao c _ (HX.out.1.below H0.out.2) hlen hc).mono ?_
  rintro e w1 ⟨b, rfl, hb, hw1⟩
  have H1 := Lib.hid (And.intro hb (H0.out.below hw1))
  clear hb hw1 H0
  obtain ⟨hc1, hf1⟩ := H1.out.2.1.facts
  cases b with
  | false =>
    go_wp2_with (first | (go_at_call 124; fail))
    go_ret
    exact Bo.mk _ (falseIs fun h => by have := H1.out.1.2 h.1; cases this) H1.out.2.2
  | true =>
    go_wp2_with (first | (go_at_call 124; fail))
    refine (implIsRow_bo xs k HX.out.2.2.2 bo d _ (HX.out.2.1.below H1.out.2.2) hlk).mono ?_
    rintro e w2 ⟨b2, n2, rfl, hb2, rfl⟩
    have H2 := Lib.hid hb2
    clear hb2
    cases b2 with
    | false =>
      go_wp2
      go_ret
      exact Bo.mk _ (falseIs fun h => by have := H2.out.2 h.2.1; cases this) (Bel_drewN H1.out.2.2 _)
    | true =>
      go_wp2
      go_ret
      exact Bo.mk _ ⟨fun h => ⟨H1.out.1.1 trivial, H2.out.1 trivial, by rw [HX.out.2.2.2]; simpa using h⟩, fun h => by have := h.2.2; rw [HX.out.2.2.2] at this; simpa using this⟩ (Bel_drewN H1.out.2.2 _)
set_option maxRecDepth 100000 in
set_option maxHeartbeats 1000000 in
theorem l07Fits_any (s : Int) (ss xs : List Nat) (m k : Nat) (hm : ss.length = m) (hk : xs.length = k) (ao bo : Option Addr) (c d g : Nat) (w : World) (hw : Whole w g 34 #[.int .i64 s, .slice ao m c]) (hs : Holds w ao (fl .f32 ss)) (hx : Holds w bo (fl .f32 xs)) (hlen : m ≤ 1048576) (hlk : k ≤ 1048576) :
    Calls Try.prog 83 #[.pointer (some ⟨g, 0, none⟩), .slice bo k d] w (BoD (fits s ss xs) w) := by
  have HX := Lib.hid (And.intro hs (And.intro hx (And.intro hm hk)))
  have HW := Lib.hid hw
  clear hs hx hm hk hw
  go_enter Try.func83, Try.ntmps83
  go_wp2_with (first | (go_at_call 75; fail))
  refine (l07Is_any s ss m HX.out.2.2.1 ao c g _ HW.out HX.out.1 hlen).mono ?_
  rintro e w1 ⟨b, n, rfl, hb, rfl⟩
  have H1 := Lib.hid hb
  have hcg := (HW.out.drewN n).cell
  clear hb
  cases b with
  | false =>
    go_wp2_with (first | (go_at_call 123; fail))
    go_ret
    exact BoD.mk _ _ (falseIs fun h => by have := H1.out.2 h.1; cases this)
  | true =>
    go_wp2_with (first | (go_at_call 123; fail))
    refine (l07Row_any xs k HX.out.2.2.2 bo d _ (HX.out.2.1.drewN _) hlk).mono ?_
    rintro e w2 ⟨b2, n2, rfl, hb2, rfl⟩
    have H2 := Lib.hid hb2
    clear hb2
    cases b2 with
    | false =>
      go_wp2
      go_ret
      exact BoD.of _ (falseIs fun h => by have := H2.out.2 h.2.1; cases this) ⟨_, rfl⟩
    | true =>
      have hcg2 := (HW.out.drewN (n + n2)).cell
      go_wp2
      go_ret
      exact BoD.of _ ⟨fun h => ⟨H1.out.1 trivial, H2.out.1 trivial, by rw [HX.out.2.2.2]; simpa using h⟩, fun h => by have := h.2.2; rw [HX.out.2.2.2] at this; simpa using this⟩ ⟨_, rfl⟩
theorem holds_newsF {w : World} {ao : Option Addr} {xs : List Nat} {b o : Nat} (h : Holds w ao (fl .f32 xs)) (e : ao = some ⟨b, o, none⟩) : ∀ j u, (fl .f32 xs)[j]? = some u → w.cell? ((⟨b, o, none⟩ : Addr).add j) = some u := fun j u hu => by
  have hj : j < (fl .f32 xs).length := (List.getElem?_eq_some_iff.1 hu).1
  obtain ⟨b', o', e', hc⟩ := h j hj
  rw [e] at e'
  cases e'
  rw [Addr.add_lit, hc]
  simp [List.getD, hu]
theorem fl_one (xs : List Nat) : ∀ u ∈ fl .f32 xs, u.oneCell' = true := fun u hu => by
  simp only [fl, List.mem_map] at hu
  obtain ⟨x, _, rfl⟩ := hu
  rfl
theorem isWalkLength_any (n : Int) (w : World) : Calls Try.prog 70 #[.int .i64 n] w (fun e w' => e = .returned (.bool (decide (0 ≤ n ∧ n ≤ 512))) ∧ w = w') := by
  by_cases h0 : 0 ≤ n
  · have e : decide (0 ≤ n ∧ n ≤ 512) = decide (n ≤ 512) := by rw [Bool.eq_iff_iff]; simp; omega
    have E := Lib.hid e
    clear e
    go_enter Try.func70, Try.ntmps70
    go_wp2
    go_ret
    exact ⟨by first | rfl | (rw [E.out]; rfl), rfl⟩
  · have h1 : decide (0 ≤ n) = false := by simpa using h0
    have e : decide (0 ≤ n ∧ n ≤ 512) = false := by simp; omega
    have E := Lib.hid e
    clear e
    go_enter Try.func70, Try.ntmps70
    go_wp2
    go_ret
    exact ⟨by first | rfl | (rw [E.out]; rfl), rfl⟩
end Go.Proofs.Ytgeomaeccalceaa
