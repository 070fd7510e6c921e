/- JoinChains: its numbers, the closure, the code. -/
import Derived.Test.YtfbllggnndodoaaCofJoinChains
import Derived.Test.YtfbllggnndodoaaLaz
namespace Go.Proofs.Ytfbllggnndodoaa
open Go Go.RowKit Fl Vag
set_option linter.unusedVariables false

/-- The sum of the first j products of both Steps. -/
def accJ (n : Nat) (ss us : List Nat) (i k : Nat) : Nat → Option Nat
  | 0 => some 0
  | j + 1 => aop .add .f32 (accJ n ss us i k j) (aop .mul .f32 (av .f32 (ss[i * n + j]?.getD 0)) (av .f32 (us[j * n + k]?.getD 0)))
def joiG (n : Nat) (ss us : List Nat) (j : Nat) : Option Nat := accJ n ss us (j / n) (j % n) n
def joiC (s t : Int) (ss us : List Nat) : Prop := isChain s ss ∧ isChain t us ∧ s = t
set_option maxRecDepth 100000 in
set_option maxHeartbeats 4000000 in
theorem joiClo (ss us : List Nat) (n i k b o m c b' o' c' g0 g1 : Nat) (w : World) (h0 : Whole w g0 27 #[.int .i64 n, .slice (some ⟨b, o, none⟩) m c]) (h1 : Whole w g1 27 #[.int .i64 n, .slice (some ⟨b', o', none⟩) m c']) (hs : Holds w (some ⟨b, o, none⟩) (fl .f32 ss)) (hu : Holds w (some ⟨b', o', none⟩) (fl .f32 us)) (hi : i < n) (hk : k < n) (hn : n ≤ 12) (hm : m = n * n) (hl : ss.length = m) (hl' : us.length = m) :
    Calls Try.prog 77 #[.int .i64 i, .int .i64 k, .pointer (some ⟨g0, 0, none⟩), .pointer (some ⟨g1, 0, none⟩)] w (CloR (joiG n ss us (i * n + k)) w) := by
  have HA : Hid (∀ j, j < n → ∀ v, CB w v → Calls Try.prog 78 #[.agg #[.int .i64 n, .slice (some ⟨b, o, none⟩) m c], .int .i64 i, .int .i64 j] v (fun e w' => e = .returned (.float .f32 (ss[i * n + j]?.getD 0)) ∧ CB v w')) := Lib.hid (fun j hj v hv => (step_any ss n i j b o m c v (hs.below hv) hi hj hn hm hl).mono fun e w' ⟨he, hw⟩ => ⟨he, by rw [hw]; exact Below.alloc (Below.refl _ _) (Nat.le_refl _) _⟩)
  have HU : Hid (∀ j, j < n → ∀ v, CB w v → Calls Try.prog 78 #[.agg #[.int .i64 n, .slice (some ⟨b', o', none⟩) m c'], .int .i64 j, .int .i64 k] v (fun e w' => e = .returned (.float .f32 (us[j * n + k]?.getD 0)) ∧ CB v w')) := Lib.hid (fun j hj v hv => (step_any us n j k b' o' m c' v (hu.below hv) hj hk hn hm hl').mono fun e w' ⟨he, hw⟩ => ⟨he, by rw [hw]; exact Below.alloc (Below.refl _ _) (Nat.le_refl _) _⟩)
  have HB := Lib.hid (And.intro h0 h1)
  obtain ⟨d1, d2⟩ := div_at (i := i) hk
  have HG : Hid (joiG n ss us (i * n + k) = accJ n ss us i k n) := Lib.hid (by unfold joiG; rw [d1, d2])
  have hn12 : (n : Int) ≤ 12 := by omega
  obtain ⟨hc0, hf0⟩ := h0.facts
  clear d1 d2 h0 h1 hs hu hm hl hl'
  go_enter Try.func77, Try.ntmps77
  go_wp2_with fail
  clear hc0 hf0
  go_loopw [7, 11] (fun s x wr => ∃ (j r : Nat), j ≤ n ∧ x = .int .i64 j ∧ s = .float .f32 r ∧ av .f32 r = accJ n ss us i k j ∧ Below w.heap.size w wr) (fun _ x _ => n - (intOf x).toNat)
  case atStart => exact ⟨0, 0, Nat.zero_le _, rfl, rfl, av_zero .f32, Below.refl _ _⟩
  case round =>
    obtain ⟨j, r, hj, rfl, rfl, hr, hbel⟩ := hrel
    have HR := Lib.hid (And.intro hr hbel)
    have hjn : (j : Int) ≤ n := by omega
    clear hr hbel
    by_cases hlt : j < n
    · have hlt' : (j : Int) < n := by omega
      have HA2 := Lib.hid (HA.out j hlt)
      have HU2 := Lib.hid (HU.out j hlt)
      have HC : Hid (accJ n ss us i k (j + 1) = aop .add .f32 (accJ n ss us i k j) (aop .mul .f32 (av .f32 (ss[i * n + j]?.getD 0)) (av .f32 (us[j * n + k]?.getD 0)))) := Lib.hid rfl
      generalize ss[i * n + j]?.getD 0 = x at HA2 HC
      generalize us[j * n + k]?.getD 0 = y at HU2 HC
      have HQ := Lib.hid (And.intro (HB.out.1.below HR.out.2) (HB.out.2.below HR.out.2))
      have HA3 : Hid (∀ v, CB wr v → Calls Try.prog 78 #[.agg #[.int .i64 n, .slice (some ⟨b, o, none⟩) m c], .int .i64 i, .int .i64 j] v (fun e w' => e = .returned (.float .f32 x) ∧ CB wr w')) := Lib.hid (fun v hv => (HA2.out v (Bel_next HR.out.2 hv)).mono fun e w' ⟨he, hw⟩ => ⟨he, Bel_next hv hw⟩)
      have HU3 : Hid (∀ v, CB wr v → Calls Try.prog 78 #[.agg #[.int .i64 n, .slice (some ⟨b', o', none⟩) m c'], .int .i64 j, .int .i64 k] v (fun e w' => e = .returned (.float .f32 y) ∧ CB wr w')) := Lib.hid (fun v hv => (HU2.out v (Bel_next HR.out.2 hv)).mono fun e w' ⟨he, hw⟩ => ⟨he, Bel_next hv hw⟩)
      clear HA HU HA2 HU2
      go_wp2_with fail
      refine wp_region_lex (C := CB wr) (by kernel_rfl) (by kernel_rfl) (CB.drew wr) ?_
      repeat (first
        | (apply lexB_move rfl (.inl rfl); (focus (simp [go_sem]; rfl)))
        | (apply lexB_move rfl (.inr rfl); (focus (simp [go_sem]; rfl)))
        | (apply lexB_farith .mul _ _ _ _ .f32 _ _ rfl rfl rfl; (focus (intro r; simp [go_sem]; rfl)); intro r1 hr1)
        | (apply lexB_farith .add _ _ _ _ .f32 _ _ rfl rfl rfl; (focus (intro r; simp [go_sem]; rfl)); intro r2 hr2)
        | (apply lexB_fn (.float .f32 x); (focus kernel_rfl); (focus (intro v hv; go_simp; rfl)); (focus (intro v hv; with_reducible exact HA3.out v hv)); (focus (simp [go_sem]; rfl)))
        | (apply lexB_fn (.float .f32 y); (focus kernel_rfl); (focus (intro v hv; go_simp; rfl)); (focus (intro v hv; with_reducible exact HU3.out v hv)); (focus (simp [go_sem]; rfl)))
        | (apply lexB_pure rfl; (focus (intro v hv; obtain ⟨hq0, _⟩ := CB.cells hv HQ.out.1; obtain ⟨hq1, _⟩ := CB.cells hv HQ.out.2; go_simp; rfl)); (focus (simp [go_sem]; rfl))))
      refine lexB_nil ?_
      rintro w5 hw5
      have HV : Hid (av .f32 r2 = accJ n ss us i k (j + 1)) := Lib.hid (by rw [HC.out, ← HR.out.1, ← hr1.2]; exact hr2.2)
      have H5 := Lib.hid (Bel_next HR.out.2 hw5)
      clear hr1 hr2 hw5 HA3 HU3 HQ HC
      go_wp2_with fail
      go_roundw
      case rel => exact ⟨j + 1, r2, by omega, by go_num, rfl, HV.out, H5.out⟩
      case measure => simp [intOf]; omega
    · obtain rfl : j = n := by omega
      go_wp2_with fail
      go_ret
      exact ⟨r, rfl, by rw [HG.out]; exact HR.out.1, HR.out.2⟩
set_option maxRecDepth 100000 in
set_option maxHeartbeats 1000000 in
theorem implJoi_yes (s t : Int) (ss us : List Nat) (m k : Nat) (hm : ss.length = m) (hk : us.length = k) (ao bo : Option Addr) (c d : Nat) (w : World) (hs : Holds w ao (fl .f32 ss)) (hu : Holds w bo (fl .f32 us)) (hlen : m ≤ 1048576) (hlk : k ≤ 1048576) (hc : m ≤ c) (hd : k ≤ d) (hC : joiC s t ss us) :
    ∃ n : Nat, s = n ∧ m = n * n ∧ Calls Try.prog 39 #[.agg #[.int .i64 s, .slice ao m c], .agg #[.int .i64 t, .slice bo k d]] w (ChR n (n * n) (joiG n ss us) w) := by
  obtain ⟨n, rfl, n1, n2, n3, n4⟩ := hC.1.nat
  obtain rfl : t = n := hC.2.2.symm
  have n5 : us.length = n * n := by have := hC.2.1.len; rw [← Int.natCast_mul] at this; omega
  obtain ⟨b, o, rfl⟩ := hs.at (by rw [fl_len32, n3]; exact Nat.mul_pos n1 n1)
  obtain ⟨b', o', rfl⟩ := hu.at (by rw [fl_len32, n5]; exact Nat.mul_pos n1 n1)
  obtain rfl : k = m := by omega
  refine ⟨n, rfl, by rw [← hm]; exact n3, ?_⟩
  have HX := Lib.hid (And.intro hs (And.intro hu (And.intro hm (And.intro hk (And.intro n3 hC)))))
  clear hs hu hm hk n3 n4 n5 hC
  go_enter Try.func39, Try.ntmps39
  go_wp2_with (first | (go_at_call 18; fail))
  generalize hW : World.alloc (World.alloc (World.alloc _ _) _) _ = w0
  have H0 : Hid (Whole w0 w.heap.size 27 #[.int .i64 n, .slice (some ⟨b, o, none⟩) k c] ∧ Whole w0 (w.heap.size + 1) 27 #[.int .i64 n, .slice (some ⟨b', o', none⟩) k d] ∧ Whole w0 (w.heap.size + 2) 27 #[.int .i64 0, .slice none 0 0] ∧ Below w.heap.size w w0) := Lib.hid (by rw [← hW]; exact ⟨((Whole.made _ _ _).alloc _).alloc _, (Whole.made2 _ _ _ _).alloc _, by simpa using Whole.made2 (w.alloc _) _ _ _, (by repeat (first | with_reducible exact Below.refl _ _ | with_reducible exact HBL | with_reducible refine Below.drew ?_ | with_reducible refine Bel_drewN ?_ _ | with_reducible refine Below.alloc ?_ (by first | omega | (simp; done) | (simp; omega)) _ | with_reducible refine Below.setCell ?_ (by first | omega | (simp; done) | (simp; omega)) _))⟩)
  clear hW
  refine ((implValidChain_any n ss k HX.out.2.2.1 _ c _ (HX.out.1.below H0.out.2.2.2) hlen hc).mono fun e w1 h => Bo.yes HX.out.2.2.2.2.2.1 h).mono ?_
  rintro e w1 ⟨rfl, hw1⟩
  have H1 := Lib.hid (And.intro (H0.out.1.below hw1) (And.intro (H0.out.2.1.below hw1) (And.intro (H0.out.2.2.1.below hw1) (Bel_next H0.out.2.2.2 hw1))))
  clear hw1 H0
  obtain ⟨hc1, hf1⟩ := H1.out.2.1.facts
  go_wp2_with (first | (go_at_call 18; fail))
  clear hc1 hf1
  refine ((implValidChain_any n us k HX.out.2.2.2.1 _ d _ (HX.out.2.1.below H1.out.2.2.2) hlen hd).mono fun e w1 h => Bo.yes HX.out.2.2.2.2.2.2.1 h).mono ?_
  rintro e w2 ⟨rfl, hw1⟩
  have H2 := Lib.hid (And.intro (H1.out.1.below hw1) (And.intro (H1.out.2.1.below hw1) (And.intro (H1.out.2.2.1.below hw1) (Bel_next H1.out.2.2.2 hw1))))
  clear hw1 H1
  obtain ⟨hc0, hf0⟩ := H2.out.1.facts
  obtain ⟨hc1, hf1⟩ := H2.out.2.1.facts
  go_wp2_with (first | (go_at_call 60; fail))
  clear hc0 hf0 hc1 hf1
  refine (chainOf_JoinChains n (joiG n ss us) w.heap.size (w.heap.size + 1) _ n1 n2 (fun i j hi hj v hv => joiClo ss us n i j b o k c b' o' d w.heap.size (w.heap.size + 1) v (H2.out.1.below hv) (H2.out.2.1.below hv) (HX.out.1.below (Bel_next H2.out.2.2.2 hv)) (HX.out.2.1.below (Bel_next H2.out.2.2.2 hv)) hi hj n2 (by rw [← HX.out.2.2.1]; exact HX.out.2.2.2.2.1) HX.out.2.2.1 HX.out.2.2.2.1)).mono ?_
  intro e w3 h
  rcases h with ⟨hf, ao2, c2, rfl, hrow, hw2⟩ | ⟨hf, rfl, hw2⟩
  · have q2 := H2.out.2.2.1.below hw2
    have HBL := Bel_next H2.out.2.2.2 hw2
    have HR := Lib.hid (And.intro hf hrow)
    have hz1 := H2.out.2.2.2.size
    have hz2 := HBL.size
    have hz3 := H2.out.2.2.1.lt
    obtain ⟨hc2, hf2⟩ := q2.facts
    clear hf hrow hw2 q2
    go_wp2_with fail
    refine bodyPost_ret (v := .tuple #[.agg #[.int .i64 n, .slice ao2 (n * n) c2], .bool true]) (by simp [results, Try.results39, go_sem, hc2]) rfl (.inl ⟨HR.out.1, ao2, c2, rfl, ?_, (by repeat (first | with_reducible exact Below.refl _ _ | with_reducible exact HBL | with_reducible refine Below.drew ?_ | with_reducible refine Bel_drewN ?_ _ | with_reducible refine Below.alloc ?_ (by first | omega | (simp; done) | (simp; omega)) _ | with_reducible refine Below.setCell ?_ (by first | omega | (simp; done) | (simp; omega)) _))⟩)
    exact ((((HR.out.2.far (.inl (by simp; omega)) _).far (.inl (by simp; omega)) _)).wide (by omega) (by simp))
  · have q2 := H2.out.2.2.1.below hw2
    have HBL := Bel_next H2.out.2.2.2 hw2
    have HR := Lib.hid hf
    obtain ⟨hc2, hf2⟩ := q2.facts
    clear hf hw2 q2
    go_wp2_with fail
    exact bodyPost_ret (v := .tuple #[.agg #[.int .i64 0, .slice none 0 0], .bool false]) (by simp [results, Try.results39, go_sem, hc2]) rfl (.inr ⟨HR.out, rfl, (by repeat (first | with_reducible exact Below.refl _ _ | with_reducible exact HBL | with_reducible refine Below.drew ?_ | with_reducible refine Bel_drewN ?_ _ | with_reducible refine Below.alloc ?_ (by first | omega | (simp; done) | (simp; omega)) _ | with_reducible refine Below.setCell ?_ (by first | omega | (simp; done) | (simp; omega)) _))⟩)
set_option maxRecDepth 100000 in
set_option maxHeartbeats 1000000 in
theorem implJoi_no (s t : Int) (ss us : List Nat) (m k : Nat) (hm : ss.length = m) (hk : us.length = k) (ao bo : Option Addr) (c d : Nat) (w : World) (hs : Holds w ao (fl .f32 ss)) (hu : Holds w bo (fl .f32 us)) (hlen : m ≤ 1048576) (hlk : k ≤ 1048576) (hc : m ≤ c) (hd : k ≤ d) (hC : ¬ joiC s t ss us) :
    Calls Try.prog 39 #[.agg #[.int .i64 s, .slice ao m c], .agg #[.int .i64 t, .slice bo k d]] w (RetB (.tuple #[.agg #[.int .i64 0, .slice none 0 0], .bool false]) w) := by
  have HX := Lib.hid (And.intro hs (And.intro hu (And.intro hm (And.intro hk hC))))
  clear hs hu hm hk hC
  go_enter Try.func39, Try.ntmps39
  go_wp2_with (first | (go_at_call 18; fail))
  generalize hW : World.alloc (World.alloc (World.alloc _ _) _) _ = w0
  have H0 : Hid (Whole w0 w.heap.size 27 #[.int .i64 s, .slice ao m c] ∧ Whole w0 (w.heap.size + 1) 27 #[.int .i64 t, .slice bo k d] ∧ Whole w0 (w.heap.size + 2) 27 #[.int .i64 0, .slice none 0 0] ∧ Below w.heap.size w w0) := Lib.hid (by rw [← hW]; exact ⟨((Whole.made _ _ _).alloc _).alloc _, (Whole.made2 _ _ _ _).alloc _, by simpa using Whole.made2 (w.alloc _) _ _ _, (by repeat (first | with_reducible exact Below.refl _ _ | with_reducible exact HBL | with_reducible refine Below.drew ?_ | with_reducible refine Bel_drewN ?_ _ | with_reducible refine Below.alloc ?_ (by first | omega | (simp; done) | (simp; omega)) _ | with_reducible refine Below.setCell ?_ (by first | omega | (simp; done) | (simp; omega)) _))⟩)
  clear hW
  refine (implValidChain_any s ss m HX.out.2.2.1 _ c _ (HX.out.1.below H0.out.2.2.2) hlen hc).mono ?_
  rintro e w1 ⟨bf, rfl, hbf, hw1⟩
  have HB := Lib.hid hbf
  have H1 := Lib.hid (And.intro (H0.out.1.below hw1) (And.intro (H0.out.2.1.below hw1) (And.intro (H0.out.2.2.1.below hw1) (Bel_next H0.out.2.2.2 hw1))))
  clear hw1 H0 hbf
  obtain ⟨hc1, hf1⟩ := H1.out.2.1.facts
  obtain ⟨hc2, hf2⟩ := H1.out.2.2.1.facts
  have HBL := H1.out.2.2.2
  cases bf with
  | false =>
    go_wp2_with (first | (go_at_call 18; fail))
    exact bodyPost_ret (v := .tuple #[.agg #[.int .i64 0, .slice none 0 0], .bool false]) (by simp [results, Try.results39, go_sem, hc2]) rfl ⟨rfl, (by repeat (first | with_reducible exact Below.refl _ _ | with_reducible exact HBL | with_reducible refine Below.drew ?_ | with_reducible refine Bel_drewN ?_ _ | with_reducible refine Below.alloc ?_ (by first | omega | (simp; done) | (simp; omega)) _ | with_reducible refine Below.setCell ?_ (by first | omega | (simp; done) | (simp; omega)) _))⟩
  | true =>
    go_wp2_with (first | (go_at_call 18; fail))
    clear hc1 hf1 hc2 hf2 HBL
    refine (implValidChain_any t us k HX.out.2.2.2.1 _ d _ (HX.out.2.1.below H1.out.2.2.2) hlk hd).mono ?_
    rintro e w2 ⟨bf, rfl, hbf, hw1⟩
    have HB2 := Lib.hid hbf
    have H2 := Lib.hid (And.intro (H1.out.1.below hw1) (And.intro (H1.out.2.1.below hw1) (And.intro (H1.out.2.2.1.below hw1) (Bel_next H1.out.2.2.2 hw1))))
    clear hw1 H1 hbf
    obtain ⟨hc0, hf0⟩ := H2.out.1.facts
    obtain ⟨hc1, hf1⟩ := H2.out.2.1.facts
    obtain ⟨hc2, hf2⟩ := H2.out.2.2.1.facts
    have HBL := H2.out.2.2.2
    cases bf with
    | false =>
      go_wp2_with (first | (go_at_call 60; fail))
      exact bodyPost_ret (v := .tuple #[.agg #[.int .i64 0, .slice none 0 0], .bool false]) (by simp [results, Try.results39, go_sem, hc2]) rfl ⟨rfl, (by repeat (first | with_reducible exact Below.refl _ _ | with_reducible exact HBL | with_reducible refine Below.drew ?_ | with_reducible refine Bel_drewN ?_ _ | with_reducible refine Below.alloc ?_ (by first | omega | (simp; done) | (simp; omega)) _ | with_reducible refine Below.setCell ?_ (by first | omega | (simp; done) | (simp; omega)) _))⟩
    | true =>
      have hne : (s != t) = true := by
        have h1 := HB.out.1 (by first | exact rfl | exact trivial)
        have h2 := HB2.out.1 (by first | exact rfl | exact trivial)
        by_cases e : s = t
        · exact absurd ⟨h1, h2, e⟩ HX.out.2.2.2.2
        · simpa using e
      go_wp2_with (first | (go_at_call 60; fail))
      exact bodyPost_ret (v := .tuple #[.agg #[.int .i64 0, .slice none 0 0], .bool false]) (by simp [results, Try.results39, go_sem, hc2]) rfl ⟨rfl, (by repeat (first | with_reducible exact Below.refl _ _ | with_reducible exact HBL | with_reducible refine Below.drew ?_ | with_reducible refine Bel_drewN ?_ _ | with_reducible refine Below.alloc ?_ (by first | omega | (simp; done) | (simp; omega)) _ | with_reducible refine Below.setCell ?_ (by first | omega | (simp; done) | (simp; omega)) _))⟩
end Go.Proofs.Ytfbllggnndodoaa
