/- RingChain: its numbers, the closure, the code. -/
import Derived.Test.YtfbllggnndodoaaCofRingChain
import Derived.Test.YtfbllggnndodoaaLaz
namespace Go.Proofs.Ytfbllggnndodoaa
open Go Go.RowKit Fl Vag
set_option linter.unusedVariables false

/-- What goes to the one before. -/
def lefV (st ri : Nat) : Option Nat := aop .sub .f32 (aop .sub .f32 (some 1065353216) (av .f32 st)) (av .f32 ri)
def rinD (n i k : Nat) : Nat := (n + k - i) % n
def rinP (n st ri : Nat) (d : Nat) : Option Nat := if d = 0 then av .f32 st else if d = 1 then av .f32 ri else if d = n - 1 then lefV st ri else some 0
def rinG (n st ri j : Nat) : Option Nat := rinP n st ri (rinD n (j / n) (j % n))
set_option maxRecDepth 100000 in
set_option maxHeartbeats 1000000 in
theorem rinClo (n i k st ri l g0 g1 g2 g3 : Nat) (T0 T1 T2 T3 : TypeId) (w : World) (h0 : Whole w g0 T0 #[.int .i64 n]) (h1 : Whole w g1 T1 #[.float .f32 st]) (h2 : Whole w g2 T2 #[.float .f32 ri]) (h3 : Whole w g3 T3 #[.float .f32 l]) (hi : i < n) (hk : k < n) (hn3 : 3 ≤ n) (hn : n ≤ 12) (hl : av .f32 l = lefV st ri) :
    Calls Try.prog 61 #[.int .i64 i, .int .i64 k, .pointer (some ⟨g0, 0, none⟩), .pointer (some ⟨g1, 0, none⟩), .pointer (some ⟨g2, 0, none⟩), .pointer (some ⟨g3, 0, none⟩)] w (CloR (rinG n st ri (i * n + k)) w) := by
  obtain ⟨d1, d2⟩ := div_at (i := i) hk
  obtain ⟨z, hz⟩ : ∃ z, (n + k - i) % n = z := ⟨_, rfl⟩
  have HG : Hid (rinG n st ri (i * n + k) = rinP n st ri z) := Lib.hid (by unfold rinG rinD; rw [d1, d2, hz])
  have hzn : z < n := by rw [← hz]; exact Nat.mod_lt _ (by omega)
  obtain ⟨p, hp⟩ : ∃ p, n + k = p := ⟨_, rfl⟩
  obtain ⟨q, hq⟩ : ∃ q, p - i = q := ⟨_, rfl⟩
  have e1 : (n : Int) + (k : Int) = (p : Int) := by omega
  have e2 : (p : Int) - (i : Int) = (q : Int) := by omega
  have e3 : (q : Int) % (n : Int) = (z : Int) := by rw [← hz, hp, hq]; simp
  have b1 : (n : Int) ≤ 12 := by omega
  have b2 : (k : Int) ≤ 12 := by omega
  have b3 : (i : Int) ≤ 12 := by omega
  have b4 : (p : Int) ≤ 24 := by omega
  have b5 : (q : Int) ≤ 24 := by omega
  have b6 : ((n : Int) == 0) = false := by simp; omega
  have b7 : (3 : Int) ≤ n := by omega
  have b8 : (z : Int) ≤ 12 := by omega
  have HL := Lib.hid hl
  obtain ⟨c0, _⟩ := h0.facts
  obtain ⟨c1, _⟩ := h1.facts
  obtain ⟨c2, _⟩ := h2.facts
  obtain ⟨c3, _⟩ := h3.facts
  clear d1 d2 hz hp hq h0 h1 h2 h3 hl hi hk
  by_cases z0 : z = 0
  · subst z0
    go_enter Try.func61, Try.ntmps61
    go_wp2_with fail
    go_ret
    exact ⟨st, rfl, by rw [HG.out]; rfl, Below.refl _ _⟩
  · have f0 : ((z : Int) == 0) = false := by simp; omega
    by_cases z1 : z = 1
    · subst z1
      go_enter Try.func61, Try.ntmps61
      go_wp2_with fail
      go_ret
      exact ⟨ri, rfl, by rw [HG.out]; rfl, Below.refl _ _⟩
    · have f1 : ((z : Int) == 1) = false := by simp; omega
      obtain ⟨n1, hn1⟩ : ∃ m, n - 1 = m := ⟨_, rfl⟩
      have e4 : (n : Int) - 1 = (n1 : Int) := by omega
      by_cases z2 : z = n1
      · have f2 : ((z : Int) == (n1 : Int)) = true := by rw [z2]; simp
        have HV : Hid (rinP n st ri z = lefV st ri) := Lib.hid (by unfold rinP; rw [if_neg z0, if_neg z1, if_pos (by omega)])
        clear z2 hn1
        go_enter Try.func61, Try.ntmps61
        go_wp2_with fail
        go_ret
        exact ⟨l, rfl, by rw [HG.out, HV.out]; exact HL.out, Below.refl _ _⟩
      · have f2 : ((z : Int) == (n1 : Int)) = false := by simp; omega
        have HV : Hid (rinP n st ri z = some 0) := Lib.hid (by unfold rinP; rw [if_neg z0, if_neg z1, if_neg (by omega)])
        clear z2 hn1
        go_enter Try.func61, Try.ntmps61
        go_wp2_with fail
        go_ret
        exact ⟨0, rfl, by rw [HG.out, HV.out]; exact av_zero .f32, Below.refl _ _⟩
set_option maxRecDepth 100000 in
set_option maxHeartbeats 1000000 in
theorem implRin_yes (n st ri : Nat) (w : World) (hn3 : 3 ≤ n) (hn : n ≤ 12) :
    Calls Try.prog 23 #[.int .i64 n, .float .f32 st, .float .f32 ri] w (ChR n (n * n) (rinG n st ri) w) := by
  have b1 : (n : Int) ≤ 12 := by omega
  have b2 : (3 : Int) ≤ n := by omega
  go_enter Try.func23, Try.ntmps23
  go_wp2_with (first | (refine wpList_farith (dst := some 17) _ _ _ _ _ .f32 _ _ rfl rfl rfl ?_; intro r1 n1 hr1) | (refine wpList_farith (dst := some 19) _ _ _ _ _ .f32 _ _ rfl rfl rfl ?_; intro r2 n2 hr2) | (go_at_call 60; fail))
  have HL : Hid (av .f32 r2 = lefV st ri) := Lib.hid (by unfold lefV; rw [← av_one32, ← hr1.2]; exact hr2.2)
  clear hr1 hr2
  generalize hW : World.alloc _ _ = w0
  have H0 : Hid (Whole w0 w.heap.size 2 #[.int .i64 n] ∧ Whole w0 (w.heap.size + 1) 32 #[.float .f32 st] ∧ Whole w0 (w.heap.size + 2) 32 #[.float .f32 ri] ∧ Whole w0 (w.heap.size + 3) 27 #[.int .i64 0, .slice none 0 0] ∧ Whole w0 (w.heap.size + 4) 32 #[.float .f32 r2] ∧ Below w.heap.size w w0) := Lib.hid (by
    rw [← hW]
    refine ⟨?_, ?_, ?_, ?_, ?_, (by repeat (first | with_reducible exact Below.refl _ _ | with_reducible exact HBL | with_reducible refine Below.drew ?_ | with_reducible refine Bel_drewN ?_ _ | with_reducible refine Below.alloc ?_ (by first | omega | (simp; done) | (simp; omega)) _ | with_reducible refine Below.setCell ?_ (by first | omega | (simp; done) | (simp; omega)) _))⟩
    · exact ((((Whole.made _ _ _).alloc _).alloc _).alloc _).drewN _ |>.alloc _
    · exact (((Whole.made2 _ _ _ _).alloc _).alloc _).drewN _ |>.alloc _
    · exact ((by simpa using Whole.made2 (w.alloc _) _ _ _ : Whole (((w.alloc _).alloc _).alloc _) (w.heap.size + 2) _ _).alloc _).drewN _ |>.alloc _
    · exact (by simpa using Whole.made2 ((w.alloc _).alloc _) _ _ _ : Whole ((((w.alloc _).alloc _).alloc _).alloc _) (w.heap.size + 3) _ _).drewN _ |>.alloc _
    · simpa using Whole.made (World.drewN ((((w.alloc _).alloc _).alloc _).alloc _) _) _ _)
  clear hW
  refine (chainOf_RingChain n (rinG n st ri) w.heap.size (w.heap.size + 1) (w.heap.size + 2) (w.heap.size + 4) _ (by omega) hn (fun i k hi hk v hv => rinClo n i k st ri r2 _ _ _ _ _ _ _ _ v (H0.out.1.below hv) (H0.out.2.1.below hv) (H0.out.2.2.1.below hv) (H0.out.2.2.2.2.1.below hv) hi hk hn3 hn HL.out)).mono ?_
  intro e w2 h
  rcases h with ⟨hf, ao2, c2, rfl, hrow, hw2⟩ | ⟨hf, rfl, hw2⟩
  · have q2 := H0.out.2.2.2.1.below hw2
    have HBL := Bel_next H0.out.2.2.2.2.2 hw2
    have HR := Lib.hid (And.intro hf hrow)
    have hz1 := H0.out.2.2.2.2.2.size
    have hz2 := HBL.size
    have hz3 := H0.out.2.2.2.1.lt
    obtain ⟨hc2, hf2⟩ := q2.facts
    clear hf hrow hw2 q2
    go_wp2_with fail
    refine bodyPost_ret (v := .tuple #[.agg #[.int .i64 n, .slice ao2 (n * n) c2], .bool true]) (by simp [results, Try.results23, go_sem, hc2]) rfl (.inl ⟨HR.out.1, ao2, c2, rfl, ?_, (by repeat (first | with_reducible exact Below.refl _ _ | with_reducible exact HBL | with_reducible refine Below.drew ?_ | with_reducible refine Bel_drewN ?_ _ | with_reducible refine Below.alloc ?_ (by first | omega | (simp; done) | (simp; omega)) _ | with_reducible refine Below.setCell ?_ (by first | omega | (simp; done) | (simp; omega)) _))⟩)
    exact ((((HR.out.2.far (.inl (by simp; omega)) _).far (.inl (by simp; omega)) _)).wide (by omega) (by simp))
  · have q2 := H0.out.2.2.2.1.below hw2
    have HBL := Bel_next H0.out.2.2.2.2.2 hw2
    have HR := Lib.hid hf
    obtain ⟨hc2, hf2⟩ := q2.facts
    clear hf hw2 q2
    go_wp2_with fail
    exact bodyPost_ret (v := .tuple #[.agg #[.int .i64 0, .slice none 0 0], .bool false]) (by simp [results, Try.results23, go_sem, hc2]) rfl (.inr ⟨HR.out, rfl, (by repeat (first | with_reducible exact Below.refl _ _ | with_reducible exact HBL | with_reducible refine Below.drew ?_ | with_reducible refine Bel_drewN ?_ _ | with_reducible refine Below.alloc ?_ (by first | omega | (simp; done) | (simp; omega)) _ | with_reducible refine Below.setCell ?_ (by first | omega | (simp; done) | (simp; omega)) _))⟩)
theorem implRin_no (n : Int) (st ri : Nat) (w : World) (hn : ¬(3 ≤ n ∧ n ≤ 12)) :
    Calls Try.prog 23 #[.int .i64 n, .float .f32 st, .float .f32 ri] w (RetB (.tuple #[.agg #[.int .i64 0, .slice none 0 0], .bool false]) w) := by
  by_cases h1 : n < 3
  · clear hn
    go_enter Try.func23, Try.ntmps23
    go_wp2_with fail
    exact bodyPost_ret (v := .tuple #[.agg #[.int .i64 0, .slice none 0 0], .bool false]) (by simp [results, Try.results23, go_sem]) rfl ⟨rfl, (by repeat (first | with_reducible exact Below.refl _ _ | with_reducible exact HBL | with_reducible refine Below.drew ?_ | with_reducible refine Bel_drewN ?_ _ | with_reducible refine Below.alloc ?_ (by first | omega | (simp; done) | (simp; omega)) _ | with_reducible refine Below.setCell ?_ (by first | omega | (simp; done) | (simp; omega)) _))⟩
  · have h2 : 12 < n := by omega
    have h3 : 3 ≤ n := by omega
    clear hn h1
    go_enter Try.func23, Try.ntmps23
    go_wp2_with fail
    exact bodyPost_ret (v := .tuple #[.agg #[.int .i64 0, .slice none 0 0], .bool false]) (by simp [results, Try.results23, go_sem]) rfl ⟨rfl, (by repeat (first | with_reducible exact Below.refl _ _ | with_reducible exact HBL | with_reducible refine Below.drew ?_ | with_reducible refine Bel_drewN ?_ _ | with_reducible refine Below.alloc ?_ (by first | omega | (simp; done) | (simp; omega)) _ | with_reducible refine Below.setCell ?_ (by first | omega | (simp; done) | (simp; omega)) _))⟩
end Go.Proofs.Ytfbllggnndodoaa
