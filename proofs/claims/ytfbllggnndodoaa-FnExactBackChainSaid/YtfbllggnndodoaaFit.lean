/- A chain and a row for it, both sides; copies of rows. -/
import Derived.Test.YtfbllggnndodoaaRrw
import Derived.Deep.RegionLaw
import Derived.Lib.SliceRun
namespace Go.Proofs.Ytfbllggnndodoaa
open Go Go.RowKit Fl Vag
set_option linter.unusedVariables false

theorem eq_cast (a : Nat) (s : Int) : (((a : Int) == s) = true ↔ (a : Int) = s) := by simp
set_option maxRecDepth 100000 in
set_option maxHeartbeats 1000000 in
theorem isChainWith_any (s : Int) (ss xs : List Nat) (m k : Nat) (hm : ss.length = m) (hk : xs.length = k) (ao bo : Option Addr) (c d : Nat) (w : World) (hs : Holds w ao (fl .f32 ss)) (hx : Holds w bo (fl .f32 xs)) (hlen : m ≤ 1048576) (hlk : k ≤ 1048576) (hc : m ≤ c) :
    Calls Try.prog 68 #[.agg #[.int .i64 s, .slice ao m c], .slice bo k d] w (Bo (fits s ss xs) w) := by
  have HX := Lib.hid (And.intro hs (And.intro hx (And.intro hm hk)))
  have hc0 : Whole (w.alloc (.cells #[.int .i64 s, .slice ao m c] 27)) w.heap.size 27 #[.int .i64 s, .slice ao m c] := Whole.made _ _ _
  have H0 : Hid (ChBox w (w.alloc (.cells #[.int .i64 s, .slice ao m c] 27)) s ao m c) := Lib.hid ⟨hc0, (by repeat (first | with_reducible exact Below.refl _ _ | with_reducible exact HBL | with_reducible refine Below.drew ?_ | with_reducible refine Bel_drewN ?_ _ | with_reducible refine Below.alloc ?_ (by first | omega | (simp; done) | (simp; omega)) _ | with_reducible refine Below.setCell ?_ (by first | omega | (simp; done) | (simp; omega)) _))⟩
  clear hs hx hm hk hc0
  go_enter Try.func68, Try.ntmps68
  go_wp2_with (first | (go_at_call 18; fail))
  refine (implValidChain_any s ss m HX.out.2.2.1 ao c _ (HX.out.1.below H0.out.2) hlen hc).mono ?_
  rintro e w1 ⟨b, rfl, hb, hw1⟩
  have H1 := Lib.hid (And.intro hb (H0.out.below hw1))
  clear hb hw1 H0
  obtain ⟨hc1, hf1⟩ := H1.out.2.1.facts
  cases b with
  | false =>
    go_wp2_with (first | (go_at_call 28; fail))
    go_ret
    exact Bo.mk _ (falseIs fun h => by have := H1.out.1.2 h.1; cases this) H1.out.2.2
  | true =>
    go_wp2_with (first | (go_at_call 28; fail))
    refine (implIsRow_bo xs k HX.out.2.2.2 bo d _ (HX.out.2.1.below H1.out.2.2) hlk).mono ?_
    rintro e w2 ⟨b2, n2, rfl, hb2, rfl⟩
    have H2 := Lib.hid hb2
    clear hb2
    cases b2 with
    | false =>
      go_wp2
      go_ret
      exact Bo.mk _ (falseIs fun h => by have := H2.out.2 h.2.1; cases this) (Bel_drewN H1.out.2.2 _)
    | true =>
      go_wp2
      go_ret
      exact Bo.mk _ ⟨fun h => ⟨H1.out.1.1 trivial, H2.out.1 trivial, by rw [HX.out.2.2.2]; simpa using h⟩, fun h => by have := h.2.2; rw [HX.out.2.2.2] at this; simpa using this⟩ (Bel_drewN H1.out.2.2 _)
set_option maxRecDepth 100000 in
set_option maxHeartbeats 1000000 in
theorem l07Fits_any (s : Int) (ss xs : List Nat) (m k : Nat) (hm : ss.length = m) (hk : xs.length = k) (ao bo : Option Addr) (c d g : Nat) (w : World) (hw : Whole w g 27 #[.int .i64 s, .slice ao m c]) (hs : Holds w ao (fl .f32 ss)) (hx : Holds w bo (fl .f32 xs)) (hlen : m ≤ 1048576) (hlk : k ≤ 1048576) :
    Calls Try.prog 64 #[.pointer (some ⟨g, 0, none⟩), .slice bo k d] w (BoD (fits s ss xs) w) := by
  have HX := Lib.hid (And.intro hs (And.intro hx (And.intro hm hk)))
  have HW := Lib.hid hw
  clear hs hx hm hk hw
  go_enter Try.func64, Try.ntmps64
  go_wp2_with (first | (go_at_call 50; fail))
  refine (l07Is_any s ss m HX.out.2.2.1 ao c g _ HW.out HX.out.1 hlen).mono ?_
  rintro e w1 ⟨b, n, rfl, hb, rfl⟩
  have H1 := Lib.hid hb
  have hcg := (HW.out.drewN n).cell
  clear hb
  cases b with
  | false =>
    go_wp2_with (first | (go_at_call 62; fail))
    go_ret
    exact BoD.mk _ _ (falseIs fun h => by have := H1.out.2 h.1; cases this)
  | true =>
    go_wp2_with (first | (go_at_call 62; fail))
    refine (l07Row_any xs k HX.out.2.2.2 bo d _ (HX.out.2.1.drewN _) hlk).mono ?_
    rintro e w2 ⟨b2, n2, rfl, hb2, rfl⟩
    have H2 := Lib.hid hb2
    clear hb2
    cases b2 with
    | false =>
      go_wp2
      go_ret
      exact BoD.of _ (falseIs fun h => by have := H2.out.2 h.2.1; cases this) ⟨_, rfl⟩
    | true =>
      have hcg2 := (HW.out.drewN (n + n2)).cell
      go_wp2
      go_ret
      exact BoD.of _ ⟨fun h => ⟨H1.out.1 trivial, H2.out.1 trivial, by rw [HX.out.2.2.2]; simpa using h⟩, fun h => by have := h.2.2; rw [HX.out.2.2.2] at this; simpa using this⟩ ⟨_, rfl⟩
theorem holds_newsF {w : World} {ao : Option Addr} {xs : List Nat} {b o : Nat} (h : Holds w ao (fl .f32 xs)) (e : ao = some ⟨b, o, none⟩) : ∀ j u, (fl .f32 xs)[j]? = some u → w.cell? ((⟨b, o, none⟩ : Addr).add j) = some u := fun j u hu => by
  have hj : j < (fl .f32 xs).length := (List.getElem?_eq_some_iff.1 hu).1
  obtain ⟨b', o', e', hc⟩ := h j hj
  rw [e] at e'
  cases e'
  rw [Addr.add_lit, hc]
  simp [List.getD, hu]
theorem fl_one (xs : List Nat) : ∀ u ∈ fl .f32 xs, u.oneCell' = true := fun u hu => by
  simp only [fl, List.mem_map] at hu
  obtain ⟨x, _, rfl⟩ := hu
  rfl
set_option maxRecDepth 100000 in
set_option maxHeartbeats 1000000 in
theorem cloneF_any (xs : List Nat) (n : Nat) (hn : xs.length = n) (ao : Option Addr) (c : Nat) (w : World) (hx : Holds w ao (fl .f32 xs)) (h1 : 1 ≤ n) (hl : n ≤ 1048576) :
    Calls Try.prog 70 #[.slice ao n c] w (RetL n (fl .f32 xs) (fun s => s) w) := by
  obtain ⟨b1, o1, rfl⟩ := hx.at (by rw [fl_len32]; omega)
  have HX := Lib.hid (And.intro hx hn)
  clear hx hn
  obtain ⟨i8, hi8, hi1, hi2, hi3⟩ := info_parts (show (Try.prog.info? 32).map (fun i => (i.zero, i.size, i.bytes)) = some (some (.float .f32 0), 1, 4) by kernel_rfl)
  have HI := Lib.hid (And.intro hi8 (And.intro hi1 (And.intro hi2 hi3)))
  clear hi8 hi1 hi2 hi3
  have H0 : Hid ((w.alloc (.cells #[] 32)).ownsRow w.heap.size 32 1 (.slice (some ⟨w.heap.size, 0, none⟩) 0 0) 0 [] ∧ Below w.heap.size w (w.alloc (.cells #[] 32))) := Lib.hid ⟨World.ownsRow_made _ _ _ (Nat.le_refl _) (Nat.zero_le _) rfl, (by repeat (first | with_reducible exact Below.refl _ _ | with_reducible exact HBL | with_reducible refine Below.drew ?_ | with_reducible refine Bel_drewN ?_ _ | with_reducible refine Below.alloc ?_ (by first | omega | (simp; done) | (simp; omega)) _ | with_reducible refine Below.setCell ?_ (by first | omega | (simp; done) | (simp; omega)) _))⟩
  have heq := fun w => Lib.run_eql_slice_nil (P := Try.prog) w 22 32 (some ⟨b1, o1, none⟩) n c 0 0 Try.underlying22
  go_enter Try.func70, Try.ntmps70
  go_wp2_with (at_builtin; refine wpList_append_own _ rfl _ _ 22 rfl w.heap.size 32 i8 (.float .f32 0) 1 4 Try.underlying22 HI.out.1 HI.out.2.1 HI.out.2.2.1 HI.out.2.2.2 rfl (by decide) _ 0 _ rfl H0.out.1 ⟨b1, o1, none⟩ n _ (fl .f32 xs) rfl (by rw [fl_len32]; have := HX.out.2; omega) (holds_newsF (HX.out.1.below H0.out.2) rfl) (fl_one _) (by unfold maxLen; omega) (by omega) (by simp) ?_)
  intro v1 w1 hown hgr _
  have hown2 : w1.ownsRow w.heap.size 32 1 v1 n (fl .f32 xs) := by simpa using hown
  have H1 : Hid (w1.ownsRow w.heap.size 32 1 v1 n (fl .f32 xs) ∧ Below w.heap.size w w1) := Lib.hid ⟨hown2, H0.out.2.grown hgr (by simp) (own_ge H0.out.1)⟩
  obtain ⟨ao', cc', rfl⟩ := own_form hown2
  clear hown hgr hown2
  go_wp2_with fail
  go_ret
  exact ⟨ao', cc', rfl, Row.of_own H1.out.1, H1.out.2⟩
theorem isWalkLength_any (n : Int) (w : World) : Calls Try.prog 69 #[.int .i64 n] w (fun e w' => e = .returned (.bool (decide (0 ≤ n ∧ n ≤ 512))) ∧ w = w') := by
  by_cases h0 : 0 ≤ n
  · have e : decide (0 ≤ n ∧ n ≤ 512) = decide (n ≤ 512) := by rw [Bool.eq_iff_iff]; simp; omega
    have E := Lib.hid e
    clear e
    go_enter Try.func69, Try.ntmps69
    go_wp2
    go_ret
    exact ⟨by first | rfl | (rw [E.out]; rfl), rfl⟩
  · have h1 : decide (0 ≤ n) = false := by simpa using h0
    have e : decide (0 ≤ n ∧ n ≤ 512) = false := by simp; omega
    have E := Lib.hid e
    clear e
    go_enter Try.func69, Try.ntmps69
    go_wp2
    go_ret
    exact ⟨by first | rfl | (rw [E.out]; rfl), rfl⟩
end Go.Proofs.Ytfbllggnndodoaa
