/- RunRow and StepRow, both sides. -/
import Derived.Test.YtfbllggnndodoaaFit
namespace Go.Proofs.Ytfbllggnndodoaa
open Go Go.RowKit Fl Vag
set_option linter.unusedVariables false

/-- The row is returned if it is finite. -/
def RunR (n : Nat) (f : Nat → Option Nat) (w : World) (e : Ending) (w' : World) : Prop :=
  (finF n f ∧ RetL n (fl .f32 (listF n f)) (fun s => .tuple #[s, .bool true]) w e w') ∨ (¬finF n f ∧ RetB (.tuple #[.slice none 0 0, .bool false]) w e w')
theorem RunR.yes {n : Nat} {f : Nat → Option Nat} {w w' : World} {e : Ending} (hf : finF n f) (hr : RunR n f w e w') : RetL n (fl .f32 (listF n f)) (fun s => .tuple #[s, .bool true]) w e w' := by
  rcases hr with ⟨_, h⟩ | ⟨h, _⟩
  · exact h
  · exact absurd hf h
theorem RunR.no {n : Nat} {f : Nat → Option Nat} {w w' : World} {e : Ending} (hf : ¬finF n f) (hr : RunR n f w e w') : RetB (.tuple #[.slice none 0 0, .bool false]) w e w' := by
  rcases hr with ⟨h, _⟩ | ⟨_, h⟩
  · exact absurd h hf
  · exact h
def rowV (xs : List Nat) : Nat → Option Nat := fun i => av .f32 (xs[i]?.getD 0)
/-- A row's own numbers, known but for not-a-numbers' bits. -/
def RowA (w : World) (lo hi : Nat) (ao : Option Addr) (n : Nat) (f : Nat → Option Nat) : Prop := ∃ ds, ds.length = n ∧ (∀ i, i < n → av .f32 (ds[i]?.getD 0) = f i) ∧ Row w lo hi ao (fl .f32 ds)
theorem row_fins {xs : List Nat} (h : isRow xs) : finF xs.length (rowV xs) := fun i hi => least_fins h.2 i hi
set_option maxRecDepth 100000 in
set_option maxHeartbeats 4000000 in
theorem implRun_yes (s : Int) (ss xs : List Nat) (m k : Nat) (hm : ss.length = m) (hk : xs.length = k) (ao bo : Option Addr) (c d t : Nat) (w : World) (hs : Holds w ao (fl .f32 ss)) (hx : Holds w bo (fl .f32 xs)) (hlen : m ≤ 1048576) (hlk : k ≤ 1048576) (hc : m ≤ c) (hF : fits s ss xs) (ht : t ≤ 512) :
    Calls Try.prog 35 #[.agg #[.int .i64 s, .slice ao m c], .slice bo k d, .int .i64 t] w (RunR k (runF k ss (rowV xs) t) w) := by
  have HX := Lib.hid (And.intro hs (And.intro hx (And.intro hm hk)))
  have HF := Lib.hid hF
  obtain ⟨n, rfl, n1, n2, n3, n4, n5, n6⟩ := hF.nat
  obtain rfl : k = n := by omega
  obtain ⟨b, o, rfl⟩ := hs.at (by rw [fl_len32, n3]; exact Nat.mul_pos n1 n1)
  have HN := Lib.hid (And.intro n3 (And.intro n4 n6))
  have hc0 : Whole (w.alloc (.cells #[.int .i64 k, .slice (some ⟨b, o, none⟩) m c] 27)) w.heap.size 27 #[.int .i64 k, .slice (some ⟨b, o, none⟩) m c] := Whole.made _ _ _
  have H0 : Hid (ChBox w (w.alloc (.cells #[.int .i64 k, .slice (some ⟨b, o, none⟩) m c] 27)) k (some ⟨b, o, none⟩) m c) := Lib.hid ⟨hc0, (by repeat (first | with_reducible exact Below.refl _ _ | with_reducible exact HBL | with_reducible refine Below.drew ?_ | with_reducible refine Bel_drewN ?_ _ | with_reducible refine Below.alloc ?_ (by first | omega | (simp; done) | (simp; omega)) _ | with_reducible refine Below.setCell ?_ (by first | omega | (simp; done) | (simp; omega)) _))⟩
  have HT : Hid (decide ((0 : Int) ≤ (t : Int) ∧ (t : Int) ≤ 512) = true) := Lib.hid (by simp; omega)
  have ht' : (t : Int) ≤ 512 := by omega
  clear hs hx hm hk hF n3 n4 n5 n6 hc0
  go_enter Try.func35, Try.ntmps35
  go_wp2_with (first | (go_at_call 68; fail))
  refine ((isChainWith_any k ss xs m k HX.out.2.2.1 HX.out.2.2.2 _ bo c d _ (HX.out.1.below H0.out.2) (HX.out.2.1.below H0.out.2) hlen hlk hc).mono fun e w1 h => Bo.yes HF.out h).mono ?_
  rintro e w1 ⟨rfl, hw1⟩
  have H1 := Lib.hid (H0.out.below hw1)
  clear hw1 H0
  go_wp2_with (first | (go_at_call 69; fail))
  refine (isWalkLength_any _ _).mono ?_
  rintro e w' ⟨rfl, rfl⟩
  rw [HT.out]
  go_wp2_with (first | (go_at_call 70; fail))
  refine (cloneF_any xs k HX.out.2.2.2 bo d _ (HX.out.2.1.below H1.out.2) n1 (by omega)).mono ?_
  rintro e w2 ⟨ao2, c2, rfl, hrow, hw2⟩
  have H2 := Lib.hid (show ChBox w w2 k (some ⟨b, o, none⟩) m c ∧ RowA w2 w.heap.size w2.heap.size ao2 k (rowV xs) from ⟨H1.out.below hw2, xs, HX.out.2.2.2, fun i hi => rfl, hrow.wide H1.out.2.size (Nat.le_refl _)⟩)
  clear hrow hw2 H1
  go_wp2_with fail
  go_loopw [1, 20] (fun v i wr => ∃ (j : Nat) (ao3 : Option Addr) (c3 : Nat), j ≤ t ∧ i = .int .i64 j ∧ v = .slice ao3 k c3 ∧ ChBox w wr k (some ⟨b, o, none⟩) m c ∧ RowA wr w.heap.size wr.heap.size ao3 k (runF k ss (rowV xs) j)) (fun _ i _ => t - (intOf i).toNat)
  case atStart => exact ⟨0, _, _, Nat.zero_le _, rfl, rfl, H2.out⟩
  case round =>
    obtain ⟨j, ao3, c3, hj, rfl, rfl, hbox, hrow⟩ := hrel
    have H := Lib.hid (And.intro hbox hrow)
    have hz := hbox.1.lt
    obtain ⟨hcb, hfb⟩ := hbox.1.facts
    have hjt : (j : Int) ≤ t := by omega
    clear hbox hrow H2
    by_cases hlt : j < t
    · have hlt' : (j : Int) < t := by omega
      go_wp2_with (first | (go_at_call 71; fail))
      clear hcb hfb
      obtain ⟨ds, hdl, hds, hrow⟩ := H.out.2
      refine (stepRow_any ss ds (runF k ss (rowV xs) j) k b o m c c3 ao3 _ (HX.out.1.below H.out.1.2) hrow.holds n1 n2 (by rw [← HX.out.2.2.1]; exact HN.out.1) HX.out.2.2.1 hdl hds).mono ?_
      rintro e w3 ⟨es, ao4, c4, rfl, hel, hes, hrow2, hw3⟩
      have H3 := Lib.hid (show ChBox w w3 k (some ⟨b, o, none⟩) m c ∧ RowA w3 w.heap.size w3.heap.size ao4 k (runF k ss (rowV xs) (j + 1)) from ⟨H.out.1.below hw3, es, hel, hes, hrow2.wide H.out.1.2.size (Nat.le_refl _)⟩)
      clear hdl hds hrow hel hes hrow2 hw3
      go_wp2_with fail
      go_roundw
      case rel => exact ⟨j + 1, ao4, c4, by omega, by go_num, rfl, H3.out⟩
      case measure => simp [intOf]; omega
    · obtain rfl : j = t := by omega
      clear hcb hfb
      obtain ⟨ds, hdl, hds, hrow⟩ := H.out.2
      have HD := Lib.hid (And.intro hdl (And.intro hds hrow))
      clear hdl hds hrow
      go_wp2_with (first | (go_at_call 63; fail))
      refine (areFinite_any ds k HD.out.1 _ _ _ HD.out.2.2.holds (by omega)).mono ?_
      rintro e w' ⟨bf, q, rfl, hbf, rfl⟩
      have HB := Lib.hid (hbf.trans (fins_F HD.out.1 HD.out.2.1))
      clear hbf
      cases bf with
      | true =>
        have hfin := HB.out.1 rfl
        have HE := Lib.hid (And.intro hfin (listF_of HD.out.1 HD.out.2.1 hfin))
        clear hfin
        go_wp2_with fail
        go_ret2
        exact .inl ⟨HE.out.1, _, _, rfl, by rw [← HE.out.2]; exact HD.out.2.2.drewN _, Bel_drewN H.out.1.2 _⟩
      | false =>
        have HE := Lib.hid (show ¬ finF k _ from fun h => by have := HB.out.2 h; cases this)
        go_wp2_with fail
        go_ret2
        exact .inr ⟨HE.out, rfl, Bel_drewN H.out.1.2 _⟩
set_option maxRecDepth 100000 in
set_option maxHeartbeats 4000000 in
theorem implRun_no (s t : Int) (ss xs : List Nat) (m k : Nat) (hm : ss.length = m) (hk : xs.length = k) (ao bo : Option Addr) (c d : Nat) (w : World) (hs : Holds w ao (fl .f32 ss)) (hx : Holds w bo (fl .f32 xs)) (hlen : m ≤ 1048576) (hlk : k ≤ 1048576) (hc : m ≤ c) (hF : ¬ (fits s ss xs ∧ 0 ≤ t ∧ t ≤ 512)) :
    Calls Try.prog 35 #[.agg #[.int .i64 s, .slice ao m c], .slice bo k d, .int .i64 t] w (RetB (.tuple #[.slice none 0 0, .bool false]) w) := by
  have HX := Lib.hid (And.intro hs (And.intro hx (And.intro hm hk)))
  have HF := Lib.hid hF
  have hc0 : Whole (w.alloc (.cells #[.int .i64 s, .slice ao m c] 27)) w.heap.size 27 #[.int .i64 s, .slice ao m c] := Whole.made _ _ _
  have H0 : Hid (ChBox w (w.alloc (.cells #[.int .i64 s, .slice ao m c] 27)) s ao m c) := Lib.hid ⟨hc0, (by repeat (first | with_reducible exact Below.refl _ _ | with_reducible exact HBL | with_reducible refine Below.drew ?_ | with_reducible refine Bel_drewN ?_ _ | with_reducible refine Below.alloc ?_ (by first | omega | (simp; done) | (simp; omega)) _ | with_reducible refine Below.setCell ?_ (by first | omega | (simp; done) | (simp; omega)) _))⟩
  clear hs hx hm hk hF hc0
  go_enter Try.func35, Try.ntmps35
  go_wp2_with (first | (go_at_call 68; fail))
  refine (isChainWith_any s ss xs m k HX.out.2.2.1 HX.out.2.2.2 _ bo c d _ (HX.out.1.below H0.out.2) (HX.out.2.1.below H0.out.2) hlen hlk hc).mono ?_
  rintro e w1 ⟨bf, rfl, hbf, hw1⟩
  have H1 := Lib.hid (And.intro hbf (H0.out.below hw1))
  clear hbf hw1 H0
  cases bf with
  | false =>
    go_wp2_with (first | (go_at_call 69; fail))
    go_ret2
    exact ⟨rfl, H1.out.2.2⟩
  | true =>
    have HT : Hid (decide ((0 : Int) ≤ t ∧ t ≤ 512) = false) := Lib.hid (by
      have h1 := H1.out.1.1 rfl
      by_cases h : 0 ≤ t ∧ t ≤ 512
      · exact absurd ⟨h1, h⟩ HF.out
      · simpa using h)
    go_wp2_with (first | (go_at_call 69; fail))
    refine (isWalkLength_any _ _).mono ?_
    rintro e w' ⟨rfl, rfl⟩
    rw [HT.out]
    go_wp2
    go_ret2
    exact ⟨rfl, H1.out.2.2⟩
end Go.Proofs.Ytfbllggnndodoaa
