/- RunRow and StepRow of the model, StepRow of the code. -/
import Derived.Test.YtfbllggnndodoaaRn7
namespace Go.Proofs.Ytfbllggnndodoaa
open Go Go.RowKit Fl Vag
set_option linter.unusedVariables false
theorem RunR.wide {n : Nat} {f : Nat → Option Nat} {w w1 w' : World} {e : Ending} (hb : Below w.heap.size w w1) (h : RunR n f w1 e w') : RunR n f w e w' := by
  rcases h with ⟨hf, ao, c, he, hr, hw⟩ | ⟨hf, he, hw⟩
  · exact .inl ⟨hf, ao, c, he, hr.wide hb.size (Nat.le_refl _), Bel_next hb hw⟩
  · exact .inr ⟨hf, he, Bel_next hb hw⟩
set_option maxRecDepth 100000 in
theorem implStep_yes (s : Int) (ss xs : List Nat) (m k : Nat) (hm : ss.length = m) (hk : xs.length = k) (ao bo : Option Addr) (c d : Nat) (w : World) (hs : Holds w ao (fl .f32 ss)) (hx : Holds w bo (fl .f32 xs)) (hlen : m ≤ 1048576) (hlk : k ≤ 1048576) (hc : m ≤ c) (hF : fits s ss xs) :
    Calls Try.prog 31 #[.agg #[.int .i64 s, .slice ao m c], .slice bo k d] w (RunR k (runF k ss (rowV xs) 1) w) := by
  have HX := Lib.hid (And.intro hs (And.intro hx (And.intro hm hk)))
  have HF := Lib.hid hF
  have hc0 : Whole (w.alloc (.cells #[.int .i64 s, .slice ao m c] 27)) w.heap.size 27 #[.int .i64 s, .slice ao m c] := Whole.made _ _ _
  have H0 : Hid (ChBox w (w.alloc (.cells #[.int .i64 s, .slice ao m c] 27)) s ao m c) := Lib.hid ⟨hc0, (by repeat (first | with_reducible exact Below.refl _ _ | with_reducible exact HBL | with_reducible refine Below.drew ?_ | with_reducible refine Bel_drewN ?_ _ | with_reducible refine Below.alloc ?_ (by first | omega | (simp; done) | (simp; omega)) _ | with_reducible refine Below.setCell ?_ (by first | omega | (simp; done) | (simp; omega)) _))⟩
  clear hs hx hm hk hF hc0
  go_enter Try.func31, Try.ntmps31
  go_wp2_with (first | (go_at_call 35; fail))
  refine (implRun_yes s ss xs m k HX.out.2.2.1 HX.out.2.2.2 ao bo c d 1 _ (HX.out.1.below H0.out.2) (HX.out.2.1.below H0.out.2) hlen hlk hc HF.out (by omega)).mono ?_
  intro e w1 h
  have h2 := Lib.hid (RunR.wide H0.out.2 h)
  rcases h with ⟨_, ao1, c1, rfl, _, _⟩ | ⟨_, rfl, _⟩
  · go_wp2
    go_ret2
    exact h2.out
  · go_wp2
    go_ret2
    exact h2.out
set_option maxRecDepth 100000 in
theorem implStep_no (s : Int) (ss xs : List Nat) (m k : Nat) (hm : ss.length = m) (hk : xs.length = k) (ao bo : Option Addr) (c d : Nat) (w : World) (hs : Holds w ao (fl .f32 ss)) (hx : Holds w bo (fl .f32 xs)) (hlen : m ≤ 1048576) (hlk : k ≤ 1048576) (hc : m ≤ c) (hF : ¬ fits s ss xs) :
    Calls Try.prog 31 #[.agg #[.int .i64 s, .slice ao m c], .slice bo k d] w (RetB (.tuple #[.slice none 0 0, .bool false]) w) := by
  have HX := Lib.hid (And.intro hs (And.intro hx (And.intro hm hk)))
  have HF := Lib.hid hF
  have hc0 : Whole (w.alloc (.cells #[.int .i64 s, .slice ao m c] 27)) w.heap.size 27 #[.int .i64 s, .slice ao m c] := Whole.made _ _ _
  have H0 : Hid (ChBox w (w.alloc (.cells #[.int .i64 s, .slice ao m c] 27)) s ao m c) := Lib.hid ⟨hc0, (by repeat (first | with_reducible exact Below.refl _ _ | with_reducible exact HBL | with_reducible refine Below.drew ?_ | with_reducible refine Bel_drewN ?_ _ | with_reducible refine Below.alloc ?_ (by first | omega | (simp; done) | (simp; omega)) _ | with_reducible refine Below.setCell ?_ (by first | omega | (simp; done) | (simp; omega)) _))⟩
  clear hs hx hm hk hF hc0
  go_enter Try.func31, Try.ntmps31
  go_wp2_with (first | (go_at_call 35; fail))
  refine (implRun_no s 1 ss xs m k HX.out.2.2.1 HX.out.2.2.2 ao bo c d _ (HX.out.1.below H0.out.2) (HX.out.2.1.below H0.out.2) hlen hlk hc (fun h => HF.out h.1)).mono ?_
  rintro e w1 ⟨rfl, hw1⟩
  have H1 := Lib.hid (Bel_next H0.out.2 hw1)
  clear hw1 H0
  go_wp2
  go_ret2
  exact ⟨rfl, H1.out⟩
set_option maxRecDepth 100000 in
theorem l02List_any (n lo : Nat) (f : Nat → Option Nat) (ao : Option Addr) (c : Nat) (w : World) (hr : RowA w lo w.heap.size ao n f) (hn : n ≤ 1048576) :
    Calls Try.prog 65 #[.slice ao n c] w (fun e w' => (finF n f ∧ e = .returned (.tuple #[.slice ao n c, .bool true]) ∧ ∃ q, w' = w.drewN q) ∨ (¬finF n f ∧ e = .returned (.tuple #[.slice none 0 0, .bool false]) ∧ ∃ q, w' = w.drewN q)) := by
  obtain ⟨ds, hdl, hds, hrow⟩ := hr
  have HD := Lib.hid (And.intro hdl (And.intro hds hrow))
  clear hdl hds hrow
  go_enter Try.func65, Try.ntmps65
  go_wp2_with (first | (go_at_call 67; fail))
  refine (l02Finite_any ds n HD.out.1 _ _ _ HD.out.2.2.holds hn).mono ?_
  rintro e w' ⟨bf, q, rfl, hbf, rfl⟩
  have HB := Lib.hid (hbf.trans (fins_F HD.out.1 HD.out.2.1))
  clear hbf
  cases bf with
  | true =>
    go_wp2
    go_ret2
    exact .inl ⟨HB.out.1 trivial, rfl, _, rfl⟩
  | false =>
    go_wp2
    go_ret2
    exact .inr ⟨(fun h => by have := HB.out.2 h; cases this), rfl, _, rfl⟩
set_option maxRecDepth 100000 in
set_option maxHeartbeats 1000000 in
theorem specStep_yes (s : Int) (ss xs : List Nat) (m k : Nat) (hm : ss.length = m) (hk : xs.length = k) (ao bo : Option Addr) (c d : Nat) (w : World) (hs : Holds w ao (fl .f32 ss)) (hx : Holds w bo (fl .f32 xs)) (hlen : m ≤ 1048576) (hlk : k ≤ 1048576) (hF : fits s ss xs) :
    Calls Try.prog 30 #[.agg #[.int .i64 s, .slice ao m c], .slice bo k d] w (RunR k (runF k ss (rowV xs) 1) w) := by
  have HX := Lib.hid (And.intro hs (And.intro hx (And.intro hm hk)))
  have HF := Lib.hid hF
  obtain ⟨n, rfl, n1, n2, n3, n4, n5, n6⟩ := hF.nat
  obtain rfl : k = n := by omega
  obtain ⟨b, o, rfl⟩ := hs.at (by rw [fl_len32, n3]; exact Nat.mul_pos n1 n1)
  have HN := Lib.hid (And.intro n3 (And.intro n4 n6))
  have hc0 : Whole (w.alloc (.cells #[.int .i64 k, .slice (some ⟨b, o, none⟩) m c] 27)) w.heap.size 27 #[.int .i64 k, .slice (some ⟨b, o, none⟩) m c] := Whole.made _ _ _
  have H0 : Hid (ChBox w (w.alloc (.cells #[.int .i64 k, .slice (some ⟨b, o, none⟩) m c] 27)) k (some ⟨b, o, none⟩) m c) := Lib.hid ⟨hc0, (by repeat (first | with_reducible exact Below.refl _ _ | with_reducible exact HBL | with_reducible refine Below.drew ?_ | with_reducible refine Bel_drewN ?_ _ | with_reducible refine Below.alloc ?_ (by first | omega | (simp; done) | (simp; omega)) _ | with_reducible refine Below.setCell ?_ (by first | omega | (simp; done) | (simp; omega)) _))⟩
  clear hs hx hm hk hF n3 n4 n5 n6 hc0
  go_enter Try.func30, Try.ntmps30
  go_wp2_with (first | (go_at_call 64; fail))
  refine ((l07Fits_any k ss xs m k HX.out.2.2.1 HX.out.2.2.2 _ bo c d _ _ H0.out.1 (HX.out.1.below H0.out.2) (HX.out.2.1.below H0.out.2) hlen hlk).mono fun e w1 h => BoD.yes HF.out h).mono ?_
  rintro e w1 ⟨q, rfl, rfl⟩
  have H1 := Lib.hid (H0.out.drewN q)
  go_wp2_with (first | (go_at_call 66; fail))
  refine (l07Step_any ss xs (rowV xs) k _ b o m c d bo _ H1.out.1 (HX.out.1.below H1.out.2) (HX.out.2.1.below H1.out.2) n1 n2 (by rw [← HX.out.2.2.1]; exact HN.out.1) HX.out.2.2.1 HX.out.2.2.2 (fun i hi => rfl)).mono ?_
  rintro e w2 ⟨es, ao2, c2, rfl, hel, hes, hrow, hw2⟩
  have H2 := Lib.hid (And.intro (Bel_next H1.out.2 hw2) (And.intro (show RowA w2 w.heap.size w2.heap.size ao2 k (runF k ss (rowV xs) 1) from ⟨es, hel, hes, hrow.wide H1.out.2.size (Nat.le_refl _)⟩) (show Row w2 w.heap.size w2.heap.size ao2 (fl .f32 es) from hrow.wide H1.out.2.size (Nat.le_refl _))))
  have HE := Lib.hid (And.intro hel (show ∀ i, i < k → av .f32 (es[i]?.getD 0) = runF k ss (rowV xs) 1 i from hes))
  clear hel hes hrow hw2 H1
  go_wp2_with (first | (go_at_call 65; fail))
  refine (l02List_any k w.heap.size (runF k ss (rowV xs) 1) ao2 c2 _ H2.out.2.1 (by omega)).mono ?_
  rintro e w3 (⟨hf, rfl, q2, rfl⟩ | ⟨hf, rfl, q2, rfl⟩)
  · have HFF := Lib.hid (And.intro hf (listF_of HE.out.1 HE.out.2 hf))
    clear hf
    go_wp2
    go_ret2
    exact .inl ⟨HFF.out.1, _, _, rfl, by rw [← HFF.out.2]; exact H2.out.2.2.drewN _, Bel_drewN H2.out.1 _⟩
  · have HFF := Lib.hid hf
    clear hf
    go_wp2
    go_ret2
    exact .inr ⟨HFF.out, rfl, Bel_drewN H2.out.1 _⟩
set_option maxRecDepth 100000 in
theorem specStep_no (s : Int) (ss xs : List Nat) (m k : Nat) (hm : ss.length = m) (hk : xs.length = k) (ao bo : Option Addr) (c d : Nat) (w : World) (hs : Holds w ao (fl .f32 ss)) (hx : Holds w bo (fl .f32 xs)) (hlen : m ≤ 1048576) (hlk : k ≤ 1048576) (hF : ¬ fits s ss xs) :
    Calls Try.prog 30 #[.agg #[.int .i64 s, .slice ao m c], .slice bo k d] w (RetB (.tuple #[.slice none 0 0, .bool false]) w) := by
  have HX := Lib.hid (And.intro hs (And.intro hx (And.intro hm hk)))
  have HF := Lib.hid hF
  have hc0 : Whole (w.alloc (.cells #[.int .i64 s, .slice ao m c] 27)) w.heap.size 27 #[.int .i64 s, .slice ao m c] := Whole.made _ _ _
  have H0 : Hid (ChBox w (w.alloc (.cells #[.int .i64 s, .slice ao m c] 27)) s ao m c) := Lib.hid ⟨hc0, (by repeat (first | with_reducible exact Below.refl _ _ | with_reducible exact HBL | with_reducible refine Below.drew ?_ | with_reducible refine Bel_drewN ?_ _ | with_reducible refine Below.alloc ?_ (by first | omega | (simp; done) | (simp; omega)) _ | with_reducible refine Below.setCell ?_ (by first | omega | (simp; done) | (simp; omega)) _))⟩
  clear hs hx hm hk hF hc0
  go_enter Try.func30, Try.ntmps30
  go_wp2_with (first | (go_at_call 64; fail))
  refine ((l07Fits_any s ss xs m k HX.out.2.2.1 HX.out.2.2.2 _ bo c d _ _ H0.out.1 (HX.out.1.below H0.out.2) (HX.out.2.1.below H0.out.2) hlen hlk).mono fun e w1 h => BoD.no HF.out h).mono ?_
  rintro e w1 ⟨q, rfl, rfl⟩
  go_wp2
  go_ret2
  exact ⟨rfl, Bel_drewN H0.out.2 _⟩
set_option maxRecDepth 100000 in
set_option maxHeartbeats 4000000 in
theorem specRun_yes (s : Int) (ss xs : List Nat) (m k : Nat) (hm : ss.length = m) (hk : xs.length = k) (ao bo : Option Addr) (c d t : Nat) (w : World) (hs : Holds w ao (fl .f32 ss)) (hx : Holds w bo (fl .f32 xs)) (hlen : m ≤ 1048576) (hlk : k ≤ 1048576) (hF : fits s ss xs) (ht : t ≤ 512) :
    Calls Try.prog 34 #[.agg #[.int .i64 s, .slice ao m c], .slice bo k d, .int .i64 t] w (RunR k (runF k ss (rowV xs) t) w) := by
  have HX := Lib.hid (And.intro hs (And.intro hx (And.intro hm hk)))
  have HF := Lib.hid hF
  obtain ⟨n, rfl, n1, n2, n3, n4, n5, n6⟩ := hF.nat
  obtain rfl : k = n := by omega
  obtain ⟨b, o, rfl⟩ := hs.at (by rw [fl_len32, n3]; exact Nat.mul_pos n1 n1)
  obtain ⟨b1, o1, rfl⟩ := hx.at (by rw [fl_len32]; omega)
  have HN := Lib.hid (And.intro n3 (And.intro n4 n6))
  have hc0 : Whole (w.alloc (.cells #[.int .i64 k, .slice (some ⟨b, o, none⟩) m c] 27)) w.heap.size 27 #[.int .i64 k, .slice (some ⟨b, o, none⟩) m c] := Whole.made _ _ _
  have H0 : Hid (ChBox w (w.alloc (.cells #[.int .i64 k, .slice (some ⟨b, o, none⟩) m c] 27)) k (some ⟨b, o, none⟩) m c) := Lib.hid ⟨hc0, (by repeat (first | with_reducible exact Below.refl _ _ | with_reducible exact HBL | with_reducible refine Below.drew ?_ | with_reducible refine Bel_drewN ?_ _ | with_reducible refine Below.alloc ?_ (by first | omega | (simp; done) | (simp; omega)) _ | with_reducible refine Below.setCell ?_ (by first | omega | (simp; done) | (simp; omega)) _))⟩
  have HT : Hid ((0 : Int) ≤ (t : Int) ∧ (t : Int) ≤ 512) := Lib.hid (by omega)
  have ht' : (t : Int) ≤ 512 := by omega
  have HFB := Lib.hid (show ∀ j, finF k (runF k ss (rowV xs) t) → j ≤ t → finF k (runF k ss (rowV xs) j) from fun j h hj => runF_less n1 hj h)
  have HR0 := Lib.hid (show finF k (runF k ss (rowV xs) 0) from by have := row_fins n6; rw [hk] at this; exact this)
  obtain ⟨i8, hi8, hi1, hi2, hi3⟩ := info_parts (show (Try.prog.info? 32).map (fun i => (i.zero, i.size, i.bytes)) = some (some (.float .f32 0), 1, 4) by kernel_rfl)
  have HI := Lib.hid (And.intro hi8 (And.intro hi1 (And.intro hi2 hi3)))
  clear hi8 hi1 hi2 hi3 hs hx hm hk hF n3 n4 n5 n6 hc0
  go_enter Try.func34, Try.ntmps34
  go_wp2_with (first | (go_at_call 64; fail))
  refine ((l07Fits_any k ss xs m k HX.out.2.2.1 HX.out.2.2.2 _ _ c d _ _ H0.out.1 (HX.out.1.below H0.out.2) (HX.out.2.1.below H0.out.2) hlen hlk).mono fun e w1 h => BoD.yes HF.out h).mono ?_
  rintro e w1 ⟨q, rfl, rfl⟩
  go_wp2_with (first | (go_at_call 57; fail))
  refine (l00In_yes _ _ _ HT.out.1 HT.out.2 _).mono ?_
  rintro e w' ⟨rfl, rfl⟩
  obtain ⟨wq, hwq⟩ : ∃ wq, wq = World.drewN (w.alloc (.cells #[.int .i64 k, .slice (some ⟨b, o, none⟩) m c] 27)) q := ⟨_, rfl⟩
  have H1 := Lib.hid (show ChBox w wq k (some ⟨b, o, none⟩) m c from by rw [hwq]; exact H0.out.drewN q)
  have hzq := H1.out.1.lt
  rw [← hwq]
  clear hwq H0
  have H2 : Hid ((wq.alloc (.cells #[] 32)).ownsRow wq.heap.size 32 1 (.slice (some ⟨wq.heap.size, 0, none⟩) 0 0) 0 [] ∧ Below wq.heap.size wq (wq.alloc (.cells #[] 32))) := Lib.hid ⟨World.ownsRow_made _ _ _ (Nat.le_refl _) (Nat.zero_le _) rfl, (by repeat (first | with_reducible exact Below.refl _ _ | with_reducible exact HBL | with_reducible refine Below.drew ?_ | with_reducible refine Bel_drewN ?_ _ | with_reducible refine Below.alloc ?_ (by first | omega | (simp; done) | (simp; omega)) _ | with_reducible refine Below.setCell ?_ (by first | omega | (simp; done) | (simp; omega)) _))⟩
  go_wp2_with (at_builtin; refine wpList_append_own _ rfl _ _ 22 rfl wq.heap.size 32 i8 (.float .f32 0) 1 4 Try.underlying22 HI.out.1 HI.out.2.1 HI.out.2.2.1 HI.out.2.2.2 rfl (by decide) _ 0 _ rfl H2.out.1 ⟨b1, o1, none⟩ k _ (fl .f32 xs) rfl (by rw [fl_len32]; have := HX.out.2.2.2; omega) (holds_newsF ((HX.out.2.1.below H1.out.2).below H2.out.2) rfl) (fl_one _) (by unfold maxLen; omega) (by omega) (by simp) ?_)
  intro v1 w1 hown hgr _
  have hown2 : w1.ownsRow wq.heap.size 32 1 v1 k (fl .f32 xs) := by simpa using hown
  have hb2 : Below wq.heap.size wq w1 := H2.out.2.grown hgr (by simp) (own_ge H2.out.1)
  obtain ⟨ao2, c2, rfl⟩ := own_form hown2
  have H3 := Lib.hid (show ChBox w w1 k (some ⟨b, o, none⟩) m c ∧ RowA w1 w.heap.size w1.heap.size ao2 k (rowV xs) from ⟨H1.out.below hb2, xs, HX.out.2.2.2, fun i hi => rfl, (Row.of_own hown2).wide H1.out.2.size (Nat.le_refl _)⟩)
  clear hown hgr hown2 hb2 H1 H2
  go_wp2_with fail
  go_loopw [2, 8] (fun i v wr => ∃ (j : Nat) (ao3 : Option Addr) (c3 : Nat), j ≤ t ∧ i = .int .i64 ((t : Int) - (j : Int)) ∧ v = .slice ao3 k c3 ∧ finF k (runF k ss (rowV xs) j) ∧ ChBox w wr k (some ⟨b, o, none⟩) m c ∧ RowA wr w.heap.size wr.heap.size ao3 k (runF k ss (rowV xs) j)) (fun i _ _ => (intOf i).toNat)
  case atStart => exact ⟨0, _, _, Nat.zero_le _, by simp, rfl, HR0.out, H3.out⟩
  case round =>
    obtain ⟨j, ao3, c3, hj, rfl, rfl, hfj, hbox, hrow⟩ := hrel
    have H := Lib.hid (And.intro hbox (And.intro hrow hfj))
    have hz := hbox.1.lt
    have hjt : (j : Int) ≤ t := by omega
    clear hbox hrow H3 hfj
    by_cases hlt : j < t
    · have hlt' : (0 : Int) < (t : Int) - j := by omega
      go_wp2_with (first | (go_at_call 66; fail))
      obtain ⟨ds, hdl, hds, hrow⟩ := H.out.2.1
      refine (l07Step_any ss ds (runF k ss (rowV xs) j) k _ b o m c c3 ao3 _ H.out.1.1 (HX.out.1.below H.out.1.2) hrow.holds n1 n2 (by rw [← HX.out.2.2.1]; exact HN.out.1) HX.out.2.2.1 hdl hds).mono ?_
      rintro e w3 ⟨es, ao4, c4, rfl, hel, hes, hrow2, hw3⟩
      have H3 := Lib.hid (show ChBox w w3 k (some ⟨b, o, none⟩) m c ∧ Row w3 w.heap.size w3.heap.size ao4 (fl .f32 es) from ⟨H.out.1.below hw3, hrow2.wide H.out.1.2.size (Nat.le_refl _)⟩)
      have HE := Lib.hid (And.intro hel (show ∀ i, i < k → av .f32 (es[i]?.getD 0) = runF k ss (rowV xs) (j + 1) i from hes))
      clear hdl hds hrow hel hes hrow2 hw3
      go_wp2_with (first | (go_at_call 67; fail))
      refine (l02Finite_any es k HE.out.1 _ _ _ H3.out.2.holds (by omega)).mono ?_
      rintro e w' ⟨bf, q2, rfl, hbf, rfl⟩
      have HB := Lib.hid (hbf.trans (fins_F HE.out.1 HE.out.2))
      clear hbf
      cases bf with
      | true =>
        go_wp2_with fail
        go_roundw
        case rel => exact ⟨j + 1, ao4, c4, by omega, by congr 1; omega, rfl, HB.out.1 trivial, H3.out.1.drewN _, es, HE.out.1, HE.out.2, H3.out.2.drewN _⟩
        case measure => simp [intOf]; omega
      | false =>
        have HE := Lib.hid (show ¬ finF k (runF k ss (rowV xs) t) from fun h => by have := HB.out.2 (HFB.out (j + 1) h hlt); cases this)
        go_wp2_with fail
        go_ret2
        exact .inr ⟨HE.out, rfl, Bel_drewN H3.out.1.2 _⟩
    · obtain rfl : j = t := by omega
      obtain ⟨ds, hdl, hds, hrow⟩ := H.out.2.1
      have HD := Lib.hid (And.intro (listF_of hdl hds H.out.2.2) hrow)
      clear hdl hds hrow
      go_wp2_with fail
      go_ret2
      exact .inl ⟨H.out.2.2, _, _, rfl, by rw [← HD.out.1]; exact HD.out.2, H.out.1.2⟩
set_option maxRecDepth 100000 in
theorem specRun_no (s t : Int) (ss xs : List Nat) (m k : Nat) (hm : ss.length = m) (hk : xs.length = k) (ao bo : Option Addr) (c d : Nat) (w : World) (hs : Holds w ao (fl .f32 ss)) (hx : Holds w bo (fl .f32 xs)) (hlen : m ≤ 1048576) (hlk : k ≤ 1048576) (hF : ¬ (fits s ss xs ∧ 0 ≤ t ∧ t ≤ 512)) :
    Calls Try.prog 34 #[.agg #[.int .i64 s, .slice ao m c], .slice bo k d, .int .i64 t] w (RetB (.tuple #[.slice none 0 0, .bool false]) w) := by
  have HX := Lib.hid (And.intro hs (And.intro hx (And.intro hm hk)))
  have HF := Lib.hid hF
  have hc0 : Whole (w.alloc (.cells #[.int .i64 s, .slice ao m c] 27)) w.heap.size 27 #[.int .i64 s, .slice ao m c] := Whole.made _ _ _
  have H0 : Hid (ChBox w (w.alloc (.cells #[.int .i64 s, .slice ao m c] 27)) s ao m c) := Lib.hid ⟨hc0, (by repeat (first | with_reducible exact Below.refl _ _ | with_reducible exact HBL | with_reducible refine Below.drew ?_ | with_reducible refine Bel_drewN ?_ _ | with_reducible refine Below.alloc ?_ (by first | omega | (simp; done) | (simp; omega)) _ | with_reducible refine Below.setCell ?_ (by first | omega | (simp; done) | (simp; omega)) _))⟩
  clear hs hx hm hk hF hc0
  go_enter Try.func34, Try.ntmps34
  go_wp2_with (first | (go_at_call 64; fail))
  refine (l07Fits_any s ss xs m k HX.out.2.2.1 HX.out.2.2.2 _ bo c d _ _ H0.out.1 (HX.out.1.below H0.out.2) (HX.out.2.1.below H0.out.2) hlen hlk).mono ?_
  rintro e w1 ⟨bf, q, rfl, hbf, rfl⟩
  have HB := Lib.hid hbf
  clear hbf
  cases bf with
  | false =>
    go_wp2_with (first | (go_at_call 57; fail))
    go_ret2
    exact ⟨rfl, Bel_drewN H0.out.2 _⟩
  | true =>
    have HT : Hid (t < 0 ∨ 512 < t) := Lib.hid (by
      have h1 := HB.out.1 rfl
      by_cases h : 0 ≤ t ∧ t ≤ 512
      · exact absurd ⟨h1, h⟩ HF.out
      · omega)
    go_wp2_with (first | (go_at_call 57; fail))
    refine (l00In_no _ _ _ HT.out _).mono ?_
    rintro e w' ⟨rfl, rfl⟩
    go_wp2
    go_ret2
    exact ⟨rfl, Bel_drewN H0.out.2 _⟩
theorem specStep_not (s : Int) (ss xs : List Nat) (m k : Nat) (hm : ss.length = m) (hk : xs.length = k) (ao bo : Option Addr) (c d : Nat) (w : World) (hs : Holds w ao (fl .f32 ss)) (hx : Holds w bo (fl .f32 xs)) (hlen : m ≤ 1048576) (hlk : k ≤ 1048576) (hN : ¬(fits s ss xs ∧ finF k (runF k ss (rowV xs) 1))) :
    Calls Try.prog 30 #[.agg #[.int .i64 s, .slice ao m c], .slice bo k d] w (RetB (.tuple #[.slice none 0 0, .bool false]) w) := by
  by_cases hf : fits s ss xs
  · exact (specStep_yes s ss xs m k hm hk ao bo c d w hs hx hlen hlk hf).mono fun e w1 h => RunR.no (fun h2 => hN ⟨hf, h2⟩) h
  · exact specStep_no s ss xs m k hm hk ao bo c d w hs hx hlen hlk hf
theorem specRun_is (s t : Int) (ss xs : List Nat) (m k : Nat) (hm : ss.length = m) (hk : xs.length = k) (ao bo : Option Addr) (c d : Nat) (w : World) (hs : Holds w ao (fl .f32 ss)) (hx : Holds w bo (fl .f32 xs)) (hlen : m ≤ 1048576) (hlk : k ≤ 1048576) (hF : (fits s ss xs ∧ 0 ≤ t ∧ t ≤ 512) ∧ finF k (runF k ss (rowV xs) t.toNat)) :
    Calls Try.prog 34 #[.agg #[.int .i64 s, .slice ao m c], .slice bo k d, .int .i64 t] w (RetL k (fl .f32 (listF k (runF k ss (rowV xs) t.toNat))) (fun s => .tuple #[s, .bool true]) w) := by
  obtain ⟨n, rfl⟩ : ∃ n : Nat, t = n := ⟨t.toNat, by have := hF.1.2; omega⟩
  simp only [Int.toNat_natCast] at hF ⊢
  exact (specRun_yes s ss xs m k hm hk ao bo c d n w hs hx hlen hlk hF.1.1 (by have := hF.1.2; omega)).mono fun e w1 h => RunR.yes hF.2 h
theorem specRun_not (s t : Int) (ss xs : List Nat) (m k : Nat) (hm : ss.length = m) (hk : xs.length = k) (ao bo : Option Addr) (c d : Nat) (w : World) (hs : Holds w ao (fl .f32 ss)) (hx : Holds w bo (fl .f32 xs)) (hlen : m ≤ 1048576) (hlk : k ≤ 1048576) (hN : ¬((fits s ss xs ∧ 0 ≤ t ∧ t ≤ 512) ∧ finF k (runF k ss (rowV xs) t.toNat))) :
    Calls Try.prog 34 #[.agg #[.int .i64 s, .slice ao m c], .slice bo k d, .int .i64 t] w (RetB (.tuple #[.slice none 0 0, .bool false]) w) := by
  by_cases hf : fits s ss xs ∧ 0 ≤ t ∧ t ≤ 512
  · obtain ⟨n, rfl⟩ : ∃ n : Nat, t = n := ⟨t.toNat, by have := hf.2; omega⟩
    simp only [Int.toNat_natCast] at hN
    exact (specRun_yes s ss xs m k hm hk ao bo c d n w hs hx hlen hlk hf.1 (by have := hf.2; omega)).mono fun e w1 h => RunR.no (fun h2 => hN ⟨hf, h2⟩) h
  · exact specRun_no s t ss xs m k hm hk ao bo c d w hs hx hlen hlk hf
theorem implStep_not (s : Int) (ss xs : List Nat) (m k : Nat) (hm : ss.length = m) (hk : xs.length = k) (ao bo : Option Addr) (c d : Nat) (w : World) (hs : Holds w ao (fl .f32 ss)) (hx : Holds w bo (fl .f32 xs)) (hlen : m ≤ 1048576) (hlk : k ≤ 1048576) (hc : m ≤ c) (hN : ¬(fits s ss xs ∧ finF k (runF k ss (rowV xs) 1))) :
    Calls Try.prog 31 #[.agg #[.int .i64 s, .slice ao m c], .slice bo k d] w (RetB (.tuple #[.slice none 0 0, .bool false]) w) := by
  by_cases hf : fits s ss xs
  · exact (implStep_yes s ss xs m k hm hk ao bo c d w hs hx hlen hlk hc hf).mono fun e w1 h => RunR.no (fun h2 => hN ⟨hf, h2⟩) h
  · exact implStep_no s ss xs m k hm hk ao bo c d w hs hx hlen hlk hc hf
theorem implRun_is (s t : Int) (ss xs : List Nat) (m k : Nat) (hm : ss.length = m) (hk : xs.length = k) (ao bo : Option Addr) (c d : Nat) (w : World) (hs : Holds w ao (fl .f32 ss)) (hx : Holds w bo (fl .f32 xs)) (hlen : m ≤ 1048576) (hlk : k ≤ 1048576) (hc : m ≤ c) (hF : (fits s ss xs ∧ 0 ≤ t ∧ t ≤ 512) ∧ finF k (runF k ss (rowV xs) t.toNat)) :
    Calls Try.prog 35 #[.agg #[.int .i64 s, .slice ao m c], .slice bo k d, .int .i64 t] w (RetL k (fl .f32 (listF k (runF k ss (rowV xs) t.toNat))) (fun s => .tuple #[s, .bool true]) w) := by
  obtain ⟨n, rfl⟩ : ∃ n : Nat, t = n := ⟨t.toNat, by have := hF.1.2; omega⟩
  simp only [Int.toNat_natCast] at hF ⊢
  exact (implRun_yes s ss xs m k hm hk ao bo c d n w hs hx hlen hlk hc hF.1.1 (by have := hF.1.2; omega)).mono fun e w1 h => RunR.yes hF.2 h
theorem implRun_not (s t : Int) (ss xs : List Nat) (m k : Nat) (hm : ss.length = m) (hk : xs.length = k) (ao bo : Option Addr) (c d : Nat) (w : World) (hs : Holds w ao (fl .f32 ss)) (hx : Holds w bo (fl .f32 xs)) (hlen : m ≤ 1048576) (hlk : k ≤ 1048576) (hc : m ≤ c) (hN : ¬((fits s ss xs ∧ 0 ≤ t ∧ t ≤ 512) ∧ finF k (runF k ss (rowV xs) t.toNat))) :
    Calls Try.prog 35 #[.agg #[.int .i64 s, .slice ao m c], .slice bo k d, .int .i64 t] w (RetB (.tuple #[.slice none 0 0, .bool false]) w) := by
  by_cases hf : fits s ss xs ∧ 0 ≤ t ∧ t ≤ 512
  · obtain ⟨n, rfl⟩ : ∃ n : Nat, t = n := ⟨t.toNat, by have := hf.2; omega⟩
    simp only [Int.toNat_natCast] at hN
    exact (implRun_yes s ss xs m k hm hk ao bo c d n w hs hx hlen hlk hc hf.1 (by have := hf.2; omega)).mono fun e w1 h => RunR.no (fun h2 => hN ⟨hf, h2⟩) h
  · exact implRun_no s t ss xs m k hm hk ao bo c d w hs hx hlen hlk hc hf
end Go.Proofs.Ytfbllggnndodoaa
