/- LazyChain: its numbers, the closure, both sides. -/
import Derived.Test.YtfbllggnndodoaaCofLazyChain
import Derived.Test.YtfbllggnndodoaaSrx
import Derived.Test.YtfbllggnndodoaaLxb
namespace Go.Proofs.Ytfbllggnndodoaa
open Go Go.RowKit Fl Vag
set_option linter.unusedVariables false

theorem div_at {n i k : Nat} (hk : k < n) : (i * n + k) / n = i ∧ (i * n + k) % n = k := by
  have hn : 0 < n := by omega
  refine ⟨?_, ?_⟩
  · rw [Nat.mul_comm, Nat.mul_add_div hn, Nat.div_eq_of_lt hk, Nat.add_zero]
  · rw [Nat.mul_comm, Nat.mul_add_mod]; exact Nat.mod_eq_of_lt hk
theorem at_div {n j : Nat} (hn : 0 < n) (hj : j < n * n) : ∃ i k, i < n ∧ k < n ∧ j = i * n + k :=
  ⟨j / n, j % n, Nat.div_lt_of_lt_mul hj, Nat.mod_lt _ hn, by rw [Nat.mul_comm]; exact (Nat.div_add_mod j n).symm⟩
theorem diag_at {n i k : Nat} (hi : i < n) (hk : k < n) : (i * n + k) % (n + 1) = 0 ↔ i = k := by
  rcases Nat.lt_trichotomy i k with h | h | h
  · have e : i * n + k = (k - i) + i * (n + 1) := by rw [Nat.mul_succ]; omega
    rw [e, Nat.add_mul_mod_self_right, Nat.mod_eq_of_lt (by omega)]; omega
  · subst h
    have e : i * n + i = 0 + i * (n + 1) := by rw [Nat.mul_succ]; omega
    rw [e, Nat.add_mul_mod_self_right]; simp
  · obtain ⟨i', rfl⟩ : ∃ i', i = i' + 1 := ⟨i - 1, by omega⟩
    have e : (i' + 1) * n + k = (n + k - i') + i' * (n + 1) := by rw [Nat.succ_mul, Nat.mul_succ]; omega
    rw [e, Nat.add_mul_mod_self_right, Nat.mod_eq_of_lt (by omega)]; omega
/-- A Step less what stays. -/
def lazP (st x : Nat) : Option Nat := aop .mul .f32 (aop .sub .f32 (some 1065353216) (av .f32 st)) (av .f32 x)
def lazG (n : Nat) (ss : List Nat) (st j : Nat) : Option Nat := if j / n = j % n then aop .add .f32 (lazP st (ss[j]?.getD 0)) (av .f32 st) else lazP st (ss[j]?.getD 0)
theorem av_one32 : av .f32 1065353216 = some 1065353216 := by decide +kernel
def lazC (s : Int) (ss : List Nat) (st : Nat) : Prop := isChain s ss ∧ partB st = true
set_option maxRecDepth 100000 in
set_option maxHeartbeats 1000000 in
theorem lazClo (ss : List Nat) (n i k st b o m c g0 g1 : Nat) (T : TypeId) (w : World) (h0 : Whole w g0 T #[.float .f32 st]) (h1 : Whole w g1 27 #[.int .i64 n, .slice (some ⟨b, o, none⟩) m c]) (hs : Holds w (some ⟨b, o, none⟩) (fl .f32 ss)) (hi : i < n) (hk : k < n) (hn : n ≤ 12) (hm : m = n * n) (hl : ss.length = m) :
    Calls Try.prog 80 #[.int .i64 i, .int .i64 k, .pointer (some ⟨g0, 0, none⟩), .pointer (some ⟨g1, 0, none⟩)] w (CloR (lazG n ss st (i * n + k)) w) := by
  have HST : Hid (∀ v, CB w v → Calls Try.prog 78 #[.agg #[.int .i64 n, .slice (some ⟨b, o, none⟩) m c], .int .i64 i, .int .i64 k] v (fun e w' => e = .returned (.float .f32 (ss[i * n + k]?.getD 0)) ∧ CB w w')) := Lib.hid (fun v hv => (step_any ss n i k b o m c v (hs.below hv) hi hk hn hm hl).mono fun e w' ⟨he, hw⟩ => ⟨he, by rw [hw]; exact Below.alloc hv (Below.size hv) _⟩)
  have HB := Lib.hid (And.intro h0 h1)
  obtain ⟨d1, d2⟩ := div_at (i := i) hk
  have HG : Hid (lazG n ss st (i * n + k) = if i = k then aop .add .f32 (lazP st (ss[i * n + k]?.getD 0)) (av .f32 st) else lazP st (ss[i * n + k]?.getD 0)) := Lib.hid (by unfold lazG; rw [d1, d2])
  generalize ss[i * n + k]?.getD 0 = x at HST HG
  clear d1 d2 h0 h1 hs hm hl
  by_cases he : i = k
  · subst he
    go_enter Try.func80, Try.ntmps80
    go_wp2_with fail
    refine wp_region_lex (C := CB w) (by kernel_rfl) (by kernel_rfl) (CB.drew w) ?_
    repeat (first
      | (apply lexB_move rfl (.inl rfl); (focus (simp [go_sem]; rfl)))
      | (apply lexB_move rfl (.inr rfl); (focus (simp [go_sem]; rfl)))
      | (apply lexB_farith .mul _ _ _ _ .f32 _ _ rfl rfl rfl; (focus (intro r; simp [go_sem]; rfl)); intro r1 hr1)
      | (apply lexB_farith .sub _ _ _ _ .f32 _ _ rfl rfl rfl; (focus (intro r; simp [go_sem]; rfl)); intro r2 hr2)
      | (apply lexB_fn (.float .f32 x); (focus kernel_rfl); (focus (intro v hv; go_simp; rfl)); (focus (intro v hv; exact HST.out v hv)); (focus (simp [go_sem]; rfl)))
      | (apply lexB_pure rfl; (focus (intro v hv; obtain ⟨hq0, _⟩ := CB.cells hv HB.out.1; obtain ⟨hq1, _⟩ := CB.cells hv HB.out.2; go_simp; rfl)); (focus (simp [go_sem]; rfl))))
    refine lexB_nil ?_
    rintro w5 hw5
    have HV : Hid (av .f32 r1 = lazP st x) := Lib.hid (by unfold lazP; rw [← av_one32, ← hr2.2]; exact hr1.2)
    have H5 := Lib.hid (show Below w.heap.size w w5 from hw5)
    clear hr1 hr2 hw5
    obtain ⟨hc0, hf0⟩ := (HB.out.1.below H5.out).facts
    go_wp2_with (refine wpList_farith _ _ _ _ _ .f32 _ _ rfl rfl rfl ?_; intro r3 n3 hr3)
    go_ret
    exact ⟨r3, rfl, by rw [HG.out, if_pos trivial, ← HV.out]; exact hr3.2, Bel_drewN H5.out _⟩
  · have he' : ((i : Int) == (k : Int)) = false := by simp; omega
    have HE := Lib.hid he
    clear he
    go_enter Try.func80, Try.ntmps80
    go_wp2_with fail
    refine wp_region_lex (C := CB w) (by kernel_rfl) (by kernel_rfl) (CB.drew w) ?_
    repeat (first
      | (apply lexB_move rfl (.inl rfl); (focus (simp [go_sem]; rfl)))
      | (apply lexB_move rfl (.inr rfl); (focus (simp [go_sem]; rfl)))
      | (apply lexB_farith .mul _ _ _ _ .f32 _ _ rfl rfl rfl; (focus (intro r; simp [go_sem]; rfl)); intro r1 hr1)
      | (apply lexB_farith .sub _ _ _ _ .f32 _ _ rfl rfl rfl; (focus (intro r; simp [go_sem]; rfl)); intro r2 hr2)
      | (apply lexB_fn (.float .f32 x); (focus kernel_rfl); (focus (intro v hv; go_simp; rfl)); (focus (intro v hv; exact HST.out v hv)); (focus (simp [go_sem]; rfl)))
      | (apply lexB_pure rfl; (focus (intro v hv; obtain ⟨hq0, _⟩ := CB.cells hv HB.out.1; obtain ⟨hq1, _⟩ := CB.cells hv HB.out.2; go_simp; rfl)); (focus (simp [go_sem]; rfl))))
    refine lexB_nil ?_
    rintro w5 hw5
    have HV : Hid (av .f32 r1 = lazP st x) := Lib.hid (by unfold lazP; rw [← av_one32, ← hr2.2]; exact hr1.2)
    have H5 := Lib.hid (show Below w.heap.size w w5 from hw5)
    clear hr1 hr2 hw5
    obtain ⟨hc0, hf0⟩ := (HB.out.1.below H5.out).facts
    go_wp2_with fail
    go_ret
    exact ⟨r1, rfl, by rw [HG.out, if_neg HE.out]; exact HV.out, H5.out⟩
set_option maxRecDepth 100000 in
set_option maxHeartbeats 1000000 in
theorem implLazy_yes (s : Int) (ss : List Nat) (st m : Nat) (hm : ss.length = m) (ao : Option Addr) (c : Nat) (w : World) (hs : Holds w ao (fl .f32 ss)) (hlen : m ≤ 1048576) (hc : m ≤ c) (hC : lazC s ss st) :
    ∃ n : Nat, s = n ∧ m = n * n ∧ Calls Try.prog 41 #[.agg #[.int .i64 s, .slice ao m c], .float .f32 st] w (ChR n (n * n) (lazG n ss st) w) := by
  obtain ⟨n, rfl, n1, n2, n3, n4⟩ := hC.1.nat
  obtain ⟨b, o, rfl⟩ := hs.at (by rw [fl_len32, n3]; exact Nat.mul_pos n1 n1)
  refine ⟨n, rfl, by rw [← hm]; exact n3, ?_⟩
  have HX := Lib.hid (And.intro hs (And.intro hm (And.intro n3 hC)))
  have HP := Lib.hid (show (geB st 0 && leB st 1065353216) = true from hC.2)
  clear hs hm n3 n4 hC
  go_enter Try.func41, Try.ntmps41
  go_wp2_with (first | (go_at_call 18; fail))
  generalize hW : World.alloc (World.alloc (World.alloc _ _) _) _ = w0
  have H0 : Hid (Whole w0 w.heap.size 27 #[.int .i64 n, .slice (some ⟨b, o, none⟩) m c] ∧ Whole w0 (w.heap.size + 1) 32 #[.float .f32 st] ∧ Whole w0 (w.heap.size + 2) 27 #[.int .i64 0, .slice none 0 0] ∧ Below w.heap.size w w0) := Lib.hid (by rw [← hW]; exact ⟨((Whole.made _ _ _).alloc _).alloc _, (Whole.made2 _ _ _ _).alloc _, by simpa using Whole.made2 (w.alloc _) _ _ _, (by repeat (first | with_reducible exact Below.refl _ _ | with_reducible exact HBL | with_reducible refine Below.drew ?_ | with_reducible refine Bel_drewN ?_ _ | with_reducible refine Below.alloc ?_ (by first | omega | (simp; done) | (simp; omega)) _ | with_reducible refine Below.setCell ?_ (by first | omega | (simp; done) | (simp; omega)) _))⟩)
  clear hW
  refine ((implValidChain_any n ss m HX.out.2.1 _ c _ (HX.out.1.below H0.out.2.2.2) hlen hc).mono fun e w1 h => Bo.yes HX.out.2.2.2.1 h).mono ?_
  rintro e w1 ⟨rfl, hw1⟩
  have H1 := Lib.hid (And.intro (H0.out.1.below hw1) (And.intro (H0.out.2.1.below hw1) (And.intro (H0.out.2.2.1.below hw1) (Bel_next H0.out.2.2.2 hw1))))
  clear hw1 H0
  obtain ⟨hc0, hf0⟩ := H1.out.1.facts
  obtain ⟨hc1, hf1⟩ := H1.out.2.1.facts
  go_wp2_with (first | (go_at_call 79; fail))
  refine (isWithin_any _ _ _ _).mono ?_
  rintro e w' ⟨rfl, rfl⟩
  rw [HP.out]
  go_wp2_with (first | (go_at_call 60; fail))
  clear hc0 hf0 hc1 hf1
  refine (chainOf_LazyChain n (lazG n ss st) (w.heap.size + 1) w.heap.size _ n1 n2 (fun i k hi hk v hv => lazClo ss n i k st b o m c (w.heap.size + 1) w.heap.size _ v (H1.out.2.1.below hv) (H1.out.1.below hv) (HX.out.1.below (Bel_next H1.out.2.2.2 hv)) hi hk n2 (by rw [← HX.out.2.1]; exact HX.out.2.2.1) HX.out.2.1)).mono ?_
  intro e w2 h
  rcases h with ⟨hf, ao2, c2, rfl, hrow, hw2⟩ | ⟨hf, rfl, hw2⟩
  · have q2 := H1.out.2.2.1.below hw2
    have HBL := Bel_next H1.out.2.2.2 hw2
    have HR := Lib.hid (And.intro hf hrow)
    have hz1 := H1.out.2.2.2.size
    have hz2 := HBL.size
    have hz3 := H1.out.2.2.1.lt
    obtain ⟨hc2, hf2⟩ := q2.facts
    clear hf hrow hw2 q2
    go_wp2_with fail
    refine bodyPost_ret (v := .tuple #[.agg #[.int .i64 n, .slice ao2 (n * n) c2], .bool true]) (by simp [results, Try.results41, go_sem, hc2]) rfl (.inl ⟨HR.out.1, ao2, c2, rfl, ?_, (by repeat (first | with_reducible exact Below.refl _ _ | with_reducible exact HBL | with_reducible refine Below.drew ?_ | with_reducible refine Bel_drewN ?_ _ | with_reducible refine Below.alloc ?_ (by first | omega | (simp; done) | (simp; omega)) _ | with_reducible refine Below.setCell ?_ (by first | omega | (simp; done) | (simp; omega)) _))⟩)
    exact ((((HR.out.2.far (.inl (by simp; omega)) _).far (.inl (by simp; omega)) _)).wide (by omega) (by simp))
  · have q2 := H1.out.2.2.1.below hw2
    have HBL := Bel_next H1.out.2.2.2 hw2
    have HR := Lib.hid hf
    obtain ⟨hc2, hf2⟩ := q2.facts
    clear hf hw2 q2
    go_wp2_with fail
    exact bodyPost_ret (v := .tuple #[.agg #[.int .i64 0, .slice none 0 0], .bool false]) (by simp [results, Try.results41, go_sem, hc2]) rfl (.inr ⟨HR.out, rfl, (by repeat (first | with_reducible exact Below.refl _ _ | with_reducible exact HBL | with_reducible refine Below.drew ?_ | with_reducible refine Bel_drewN ?_ _ | with_reducible refine Below.alloc ?_ (by first | omega | (simp; done) | (simp; omega)) _ | with_reducible refine Below.setCell ?_ (by first | omega | (simp; done) | (simp; omega)) _))⟩)
set_option maxRecDepth 100000 in
set_option maxHeartbeats 1000000 in
theorem implLazy_no (s : Int) (ss : List Nat) (st m : Nat) (hm : ss.length = m) (ao : Option Addr) (c : Nat) (w : World) (hs : Holds w ao (fl .f32 ss)) (hlen : m ≤ 1048576) (hc : m ≤ c) (hC : ¬ lazC s ss st) :
    Calls Try.prog 41 #[.agg #[.int .i64 s, .slice ao m c], .float .f32 st] w (RetB (.tuple #[.agg #[.int .i64 0, .slice none 0 0], .bool false]) w) := by
  have HX := Lib.hid (And.intro hs (And.intro hm hC))
  clear hs hm hC
  go_enter Try.func41, Try.ntmps41
  go_wp2_with (first | (go_at_call 18; fail))
  generalize hW : World.alloc (World.alloc (World.alloc _ _) _) _ = w0
  have H0 : Hid (Whole w0 w.heap.size 27 #[.int .i64 s, .slice ao m c] ∧ Whole w0 (w.heap.size + 1) 32 #[.float .f32 st] ∧ Whole w0 (w.heap.size + 2) 27 #[.int .i64 0, .slice none 0 0] ∧ Below w.heap.size w w0) := Lib.hid (by rw [← hW]; exact ⟨((Whole.made _ _ _).alloc _).alloc _, (Whole.made2 _ _ _ _).alloc _, by simpa using Whole.made2 (w.alloc _) _ _ _, (by repeat (first | with_reducible exact Below.refl _ _ | with_reducible exact HBL | with_reducible refine Below.drew ?_ | with_reducible refine Bel_drewN ?_ _ | with_reducible refine Below.alloc ?_ (by first | omega | (simp; done) | (simp; omega)) _ | with_reducible refine Below.setCell ?_ (by first | omega | (simp; done) | (simp; omega)) _))⟩)
  clear hW
  refine (implValidChain_any s ss m HX.out.2.1 _ c _ (HX.out.1.below H0.out.2.2.2) hlen hc).mono ?_
  rintro e w1 ⟨bf, rfl, hbf, hw1⟩
  have HB := Lib.hid hbf
  have H1 := Lib.hid (And.intro (H0.out.2.1.below hw1) (And.intro (H0.out.2.2.1.below hw1) (Bel_next H0.out.2.2.2 hw1)))
  clear hw1 H0 hbf
  obtain ⟨hc1, hf1⟩ := H1.out.1.facts
  obtain ⟨hc2, hf2⟩ := H1.out.2.1.facts
  have HBL := H1.out.2.2
  cases bf with
  | false =>
    go_wp2_with (first | (go_at_call 79; fail))
    exact bodyPost_ret (v := .tuple #[.agg #[.int .i64 0, .slice none 0 0], .bool false]) (by simp [results, Try.results41, go_sem, hc2]) rfl ⟨rfl, (by repeat (first | with_reducible exact Below.refl _ _ | with_reducible exact HBL | with_reducible refine Below.drew ?_ | with_reducible refine Bel_drewN ?_ _ | with_reducible refine Below.alloc ?_ (by first | omega | (simp; done) | (simp; omega)) _ | with_reducible refine Below.setCell ?_ (by first | omega | (simp; done) | (simp; omega)) _))⟩
  | true =>
    have HP : Hid ((geB st 0 && leB st 1065353216) = false) := Lib.hid (by
      have h1 := HB.out.1 rfl
      cases hp : partB st with
      | false => exact hp
      | true => exact absurd ⟨h1, hp⟩ HX.out.2.2)
    go_wp2_with (first | (go_at_call 79; fail))
    refine (isWithin_any _ _ _ _).mono ?_
    rintro e w' ⟨rfl, rfl⟩
    rw [HP.out]
    go_wp2_with fail
    exact bodyPost_ret (v := .tuple #[.agg #[.int .i64 0, .slice none 0 0], .bool false]) (by simp [results, Try.results41, go_sem, hc2]) rfl ⟨rfl, (by repeat (first | with_reducible exact Below.refl _ _ | with_reducible exact HBL | with_reducible refine Below.drew ?_ | with_reducible refine Bel_drewN ?_ _ | with_reducible refine Below.alloc ?_ (by first | omega | (simp; done) | (simp; omega)) _ | with_reducible refine Below.setCell ?_ (by first | omega | (simp; done) | (simp; omega)) _))⟩
end Go.Proofs.Ytfbllggnndodoaa
