/- Quantiles. -/
import Derived.Test.YtjnnfiimimmmnaaQu
namespace Go.Proofs.Ytjnnfiimimmmnaa
open Go Go.RowKit Fl Vag
set_option linter.unusedVariables false

set_option maxRecDepth 100000 in
set_option maxHeartbeats 1000000 in
theorem implQua_yes (vs cs : List Nat) (m : Nat) (hm : cs.length = m) (ao bo : Option Addr) (c d p i : Nat) (w : World) (hx : Holds w ao (fl .f32 vs)) (hy : Holds w bo (fl .f32 cs)) (hS : isShr vs cs) (hp : partB p = true) (hi : Fst cs (geV p) vs.length i) :
    Calls Try.prog 30 #[.agg #[.slice ao vs.length c, .slice bo m d], .float .f32 p] w (RetA (fun r => .tuple #[.float .f32 r, .bool true]) (av .f32 (vs[i]?.getD 0)) w) := by
  have HX := Lib.hid (And.intro hx (And.intro hy hm))
  obtain rfl : m = vs.length := by have := hS.2.1; omega
  have h64 : vs.length ≤ 64 := hS.1
  have HS := Lib.hid (And.intro hS (And.intro (show (geB p 0 && leB p 1065353216) = true from hp) hi))
  clear hx hy hm hS hp hi
  go_enter Try.func30, Try.ntmps30
  go_wp2_with (first | (go_at_call 18; fail))
  generalize hW : World.alloc (World.alloc _ _) _ = w0
  have H0 : Hid (ShrBox w w0 ao bo vs.length c d ∧ Whole w0 (w.heap.size + 1) 32 #[.float .f32 p]) := Lib.hid (by rw [← hW]; exact ⟨⟨(Whole.made _ _ _).alloc _, (by repeat (first | with_reducible exact Below.refl _ _ | with_reducible exact HBL | with_reducible refine Below.drew ?_ | with_reducible refine Bel_drewN ?_ _ | with_reducible refine Below.alloc ?_ (by first | omega | (simp; done) | (simp; omega)) _ | with_reducible refine Below.setCell ?_ (by first | omega | (simp; done) | (simp; omega)) _))⟩, Whole.made2 _ _ _ _⟩)
  clear hW
  refine ((implValidShare_any vs cs _ HX.out.2.2 ao bo c d _ (HX.out.1.below H0.out.1.2) (HX.out.2.1.below H0.out.1.2) (by omega) (by omega)).mono fun e w1 h => Bo.yes HS.out.1 h).mono ?_
  rintro e w1 ⟨rfl, hb⟩
  have H1 := Lib.hid (And.intro (H0.out.1.below hb) (H0.out.2.below hb))
  clear hb H0
  obtain ⟨hc0, hf0⟩ := H1.out.1.1.facts
  obtain ⟨hc1, hf1⟩ := H1.out.2.facts
  go_wp2_with (first | (go_at_call 65; fail))
  refine (isWithin_any _ _ _ _).mono ?_
  rintro e w' ⟨rfl, rfl⟩
  rw [HS.out.2.1]
  go_wp2_with (first | (go_at_call 66; fail))
  clear hc0 hf0 hc1 hf1
  refine (valueAtGe_any vs cs HX.out.2.2 _ _ _ _ p _ i _ (HX.out.1.below H1.out.1.2) (HX.out.2.1.below H1.out.1.2) h64 H1.out.2 HS.out.2.2).mono ?_
  rintro e w2 ⟨rfl, hb⟩
  have HB := Lib.hid (Bel_next H1.out.1.2 hb)
  clear hb
  go_wp2
  go_ret2
  exact ⟨_, rfl, ⟨trivial, rfl⟩, HB.out⟩
set_option maxRecDepth 100000 in
set_option maxHeartbeats 1000000 in
theorem implQua_no (vs cs : List Nat) (m : Nat) (hm : cs.length = m) (ao bo : Option Addr) (c d p : Nat) (w : World) (hx : Holds w ao (fl .f32 vs)) (hy : Holds w bo (fl .f32 cs)) (hlen : vs.length ≤ 1048576) (hml : m ≤ 1048576) (hN : ¬ (isShr vs cs ∧ partB p = true)) :
    Calls Try.prog 30 #[.agg #[.slice ao vs.length c, .slice bo m d], .float .f32 p] w (RetB (.tuple #[.float .f32 0, .bool false]) w) := by
  have HX := Lib.hid (And.intro hx (And.intro hy hm))
  clear hx hy hm
  by_cases hS : isShr vs cs
  · have hp : (geB p 0 && leB p 1065353216) = false := by
      cases h : partB p with
      | false => exact h
      | true => exact absurd ⟨hS, h⟩ hN
    have HS := Lib.hid (And.intro hS hp)
    clear hS hN hp
    go_enter Try.func30, Try.ntmps30
    go_wp2_with (first | (go_at_call 18; fail))
    generalize hW : World.alloc (World.alloc _ _) _ = w0
    have H0 : Hid (Below w.heap.size w w0 ∧ Whole w0 (w.heap.size + 1) 32 #[.float .f32 p]) := Lib.hid (by rw [← hW]; exact ⟨(by repeat (first | with_reducible exact Below.refl _ _ | with_reducible exact HBL | with_reducible refine Below.drew ?_ | with_reducible refine Bel_drewN ?_ _ | with_reducible refine Below.alloc ?_ (by first | omega | (simp; done) | (simp; omega)) _ | with_reducible refine Below.setCell ?_ (by first | omega | (simp; done) | (simp; omega)) _)), Whole.made2 _ _ _ _⟩)
    clear hW
    refine ((implValidShare_any vs cs _ HX.out.2.2 ao bo c d _ (HX.out.1.below H0.out.1) (HX.out.2.1.below H0.out.1) (by omega) (by omega)).mono fun e w1 h => Bo.yes HS.out.1 h).mono ?_
    rintro e w1 ⟨rfl, hb⟩
    have H1 := Lib.hid (And.intro (Bel_next H0.out.1 hb) (H0.out.2.below hb))
    clear hb H0
    obtain ⟨hc1, hf1⟩ := H1.out.2.facts
    go_wp2_with (first | (go_at_call 65; fail))
    refine (isWithin_any _ _ _ _).mono ?_
    rintro e w' ⟨rfl, rfl⟩
    rw [HS.out.2]
    go_wp2
    go_ret2
    exact ⟨rfl, H1.out.1⟩
  · have HS := Lib.hid hS
    clear hS hN
    go_enter Try.func30, Try.ntmps30
    go_wp2_with (first | (go_at_call 18; fail))
    generalize hW : World.alloc (World.alloc _ _) _ = w0
    have H0 : Hid (Below w.heap.size w w0) := Lib.hid (by rw [← hW]; exact (by repeat (first | with_reducible exact Below.refl _ _ | with_reducible exact HBL | with_reducible refine Below.drew ?_ | with_reducible refine Bel_drewN ?_ _ | with_reducible refine Below.alloc ?_ (by first | omega | (simp; done) | (simp; omega)) _ | with_reducible refine Below.setCell ?_ (by first | omega | (simp; done) | (simp; omega)) _)))
    clear hW
    refine ((implValidShare_any vs cs _ HX.out.2.2 ao bo c d _ (HX.out.1.below H0.out) (HX.out.2.1.below H0.out) (by omega) (by omega)).mono fun e w1 h => Bo.no HS.out h).mono ?_
    rintro e w1 ⟨rfl, hb⟩
    have H1 := Lib.hid (Bel_next H0.out hb)
    clear hb H0
    go_wp2
    go_ret2
    exact ⟨rfl, H1.out⟩
set_option maxRecDepth 100000 in
set_option maxHeartbeats 2000000 in
theorem specQua_yes (vs cs : List Nat) (m : Nat) (hm : cs.length = m) (ao bo : Option Addr) (c d p i : Nat) (w : World) (hx : Holds w ao (fl .f32 vs)) (hy : Holds w bo (fl .f32 cs)) (hS : isShr vs cs) (hp : partB p = true) (hi : Fst cs (geV p) vs.length i) :
    Calls Try.prog 29 #[.agg #[.slice ao vs.length c, .slice bo m d], .float .f32 p] w (RetA (fun r => .tuple #[.float .f32 r, .bool true]) (av .f32 (vs[i]?.getD 0)) w) := by
  have HX := Lib.hid (And.intro hx (And.intro hy hm))
  obtain rfl : m = vs.length := by have := hS.2.1; omega
  have h64 : vs.length ≤ 64 := hS.1
  have h1 : 1 ≤ vs.length := hS.pos
  have HI := Lib.hid hi
  have hil : i < vs.length := hi.1
  have HS := Lib.hid (And.intro hS hp)
  clear hx hy hm hS hp hi
  obtain ⟨z, hz⟩ : ∃ z, z = vs[i]?.getD 0 := ⟨_, rfl⟩
  rw [← hz]
  have HZ := Lib.hid hz
  clear hz
  go_enter Try.func29, Try.ntmps29
  go_wp2_with (first | (go_at_call 49; fail))
  generalize hW : World.alloc _ _ = w0
  have H0 : Hid (ShrBox w w0 ao bo vs.length c d) := Lib.hid (by rw [← hW]; exact ⟨Whole.made _ _ _, (by repeat (first | with_reducible exact Below.refl _ _ | with_reducible exact HBL | with_reducible refine Below.drew ?_ | with_reducible refine Bel_drewN ?_ _ | with_reducible refine Below.alloc ?_ (by first | omega | (simp; done) | (simp; omega)) _ | with_reducible refine Below.setCell ?_ (by first | omega | (simp; done) | (simp; omega)) _))⟩)
  clear hW
  refine ((l05Is_any vs cs _ HX.out.2.2 ao bo c d _ _ H0.out.1 (HX.out.1.below H0.out.2) (HX.out.2.1.below H0.out.2) (by omega) (by omega)).mono fun e w1 h => BoD.yes HS.out.1 h).mono ?_
  rintro e w1 ⟨n, rfl, rfl⟩
  go_wp2_with (first | (go_at_call 64; fail))
  refine (l02Part_any _ _).mono ?_
  rintro e w' ⟨rfl, rfl⟩
  rw [HS.out.2]
  obtain ⟨hc0, hf0⟩ := H0.out.1.facts
  obtain ⟨bi, oi, rfl, hci⟩ := (HX.out.1.below H0.out.2) i (by simpa [fl] using hil)
  rw [fl_get _ _ _ hil, ← HZ.out] at hci
  go_wp2
  go_loopw [6, 18] (fun s j wr => ∃ k : Nat, (k ≤ i ∨ (k = vs.length ∧ i + 1 = vs.length)) ∧ j = .int .i64 k ∧ ∃ r q, s = .float .f32 r ∧ av .f32 r = sumA .f32 (cs.take k) ∧ wr = w0.drewN q) (fun _ j _ => vs.length - (intOf j).toNat)
  case atStart => exact ⟨0, .inl (Nat.zero_le _), rfl, 0, n, rfl, av_zero _, rfl⟩
  case round =>
    obtain ⟨k, hk, rfl, r, q, rfl, hr, rfl⟩ := hrel
    have HR := Lib.hid hr
    clear hr
    by_cases hlt : k < vs.length
    · have hki : k ≤ i := by omega
      have hltc : k < cs.length := by rw [HX.out.2.2]; exact hlt
      obtain ⟨b', o', rfl, hc'⟩ := (HX.out.2.1.below H0.out.2) k (by simpa [fl] using hltc)
      rw [fl_get _ _ _ hltc] at hc'
      have HT := Lib.hid (take_next cs k hltc)
      obtain ⟨b2, o2, e2, hck⟩ := (HX.out.1.below H0.out.2) k (by simpa [fl] using hlt)
      cases e2
      rw [fl_get _ _ _ hlt] at hck
      have HXK : Hid (∃ x, x = vs[k]?.getD 0) := Lib.hid ⟨_, rfl⟩
      obtain ⟨x, hxk⟩ : ∃ x, x = vs[k]?.getD 0 := ⟨_, rfl⟩
      rw [← hxk] at hck
      have HXE := Lib.hid hxk
      generalize cs[k]?.getD 0 = y at hc' HT
      clear hltc hk hci hxk HXK
      go_wp2_with (refine wpList_farith _ _ _ _ _ .f32 _ _ rfl rfl rfl ?_; intro r1 n1 hr1; (have HR1 : Hid (av .f32 r1 = sumA .f32 (cs.take (k + 1))) := Lib.hid (by rw [HT.out, sumA_snoc, ← HR.out]; exact hr1.2)); (obtain ⟨bq, hbq⟩ : ∃ b, geB r1 p = b := ⟨_, rfl⟩); have hge' := ge_factB hbq)
      · rename_i hq
        have hbv : geV p (sumA .f32 (cs.take (k + 1))) = true := by rw [← geV_of HR1.out, hbq]; exact hq
        obtain rfl : k = i := by
          by_cases e : k = i
          · exact e
          · have := HI.out.2.1 k (by omega)
            rw [hbv] at this; cases this
        go_ret2
        exact ⟨x, rfl, ⟨trivial, by rw [HXE.out, ← HZ.out]⟩, Bel_drewN H0.out.2 _⟩
      · rename_i hq
        have hbv : geV p (sumA .f32 (cs.take (k + 1))) = false := by rw [← geV_of HR1.out, hbq]; exact hq
        have hnext : k + 1 ≤ i ∨ (k + 1 = vs.length ∧ i + 1 = vs.length) := by
          by_cases e : k = i
          · subst e
            rcases HI.out.2.2 with h | h
            · rw [hbv] at h; cases h
            · omega
          · omega
        go_roundw
        case rel => exact ⟨k + 1, hnext, by go_num, r1, _, rfl, HR1.out, rfl⟩
        case measure => simp [intOf]; omega
    · obtain ⟨rfl, hin⟩ : k = vs.length ∧ i + 1 = vs.length := by omega
      have hin' : IntKind.i64.wrap ((vs.length : Int) - 1) = (i : Int) := by rw [IntWalk.i64_in _ (by omega)]; omega
      have hil' : (i : Int) < vs.length := by omega
      clear hin hk
      go_wp2
      go_ret2
      exact ⟨z, rfl, ⟨trivial, rfl⟩, Bel_drewN H0.out.2 _⟩
set_option maxRecDepth 100000 in
set_option maxHeartbeats 1000000 in
theorem specQua_no (vs cs : List Nat) (m : Nat) (hm : cs.length = m) (ao bo : Option Addr) (c d p : Nat) (w : World) (hx : Holds w ao (fl .f32 vs)) (hy : Holds w bo (fl .f32 cs)) (hlen : vs.length ≤ 1048576) (hml : m ≤ 1048576) (hN : ¬ (isShr vs cs ∧ partB p = true)) :
    Calls Try.prog 29 #[.agg #[.slice ao vs.length c, .slice bo m d], .float .f32 p] w (RetB (.tuple #[.float .f32 0, .bool false]) w) := by
  have HX := Lib.hid (And.intro hx (And.intro hy hm))
  clear hx hy hm
  by_cases hS : isShr vs cs
  · have hp : partB p = false := by
      cases h : partB p with
      | false => rfl
      | true => exact absurd ⟨hS, h⟩ hN
    have HS := Lib.hid (And.intro hS hp)
    clear hS hN hp
    go_enter Try.func29, Try.ntmps29
    go_wp2_with (first | (go_at_call 49; fail))
    generalize hW : World.alloc _ _ = w0
    have H0 : Hid (Whole w0 w.heap.size 27 #[.slice ao vs.length c, .slice bo m d] ∧ Below w.heap.size w w0) := Lib.hid (by rw [← hW]; exact ⟨Whole.made _ _ _, (by repeat (first | with_reducible exact Below.refl _ _ | with_reducible exact HBL | with_reducible refine Below.drew ?_ | with_reducible refine Bel_drewN ?_ _ | with_reducible refine Below.alloc ?_ (by first | omega | (simp; done) | (simp; omega)) _ | with_reducible refine Below.setCell ?_ (by first | omega | (simp; done) | (simp; omega)) _))⟩)
    clear hW
    refine ((l05Is_any vs cs _ HX.out.2.2 ao bo c d _ _ H0.out.1 (HX.out.1.below H0.out.2) (HX.out.2.1.below H0.out.2) (by omega) (by omega)).mono fun e w1 h => BoD.yes HS.out.1 h).mono ?_
    rintro e w1 ⟨n, rfl, rfl⟩
    go_wp2_with (first | (go_at_call 64; fail))
    refine (l02Part_any _ _).mono ?_
    rintro e w' ⟨rfl, rfl⟩
    rw [HS.out.2]
    go_wp2
    go_ret2
    exact ⟨rfl, Bel_drewN H0.out.2 _⟩
  · have HS := Lib.hid hS
    clear hS hN
    go_enter Try.func29, Try.ntmps29
    go_wp2_with (first | (go_at_call 49; fail))
    generalize hW : World.alloc _ _ = w0
    have H0 : Hid (Whole w0 w.heap.size 27 #[.slice ao vs.length c, .slice bo m d] ∧ Below w.heap.size w w0) := Lib.hid (by rw [← hW]; exact ⟨Whole.made _ _ _, (by repeat (first | with_reducible exact Below.refl _ _ | with_reducible exact HBL | with_reducible refine Below.drew ?_ | with_reducible refine Bel_drewN ?_ _ | with_reducible refine Below.alloc ?_ (by first | omega | (simp; done) | (simp; omega)) _ | with_reducible refine Below.setCell ?_ (by first | omega | (simp; done) | (simp; omega)) _))⟩)
    clear hW
    refine ((l05Is_any vs cs _ HX.out.2.2 ao bo c d _ _ H0.out.1 (HX.out.1.below H0.out.2) (HX.out.2.1.below H0.out.2) (by omega) (by omega)).mono fun e w1 h => BoD.no HS.out h).mono ?_
    rintro e w1 ⟨n, rfl, rfl⟩
    go_wp2
    go_ret2
    exact ⟨rfl, Bel_drewN H0.out.2 _⟩
def quaC (vs cs : List Nat) (p i : Nat) : Prop := isShr vs cs ∧ partB p = true ∧ Fst cs (geV p) vs.length i
theorem quaC_not {vs cs : List Nat} {p : Nat} (h : ¬ ∃ i, quaC vs cs p i) : ¬ (isShr vs cs ∧ partB p = true) := fun ⟨h1, h2⟩ => by
  obtain ⟨i, hi⟩ := fst_ex cs (geV p) vs.length h1.pos
  exact h ⟨i, h1, h2, hi⟩
theorem RetA.zero {w w' : World} {e : Ending} {f : Nat → Value} (h : RetB (f 0) w e w') : RetA f (av .f32 0) w e w' := ⟨0, h.1, ⟨trivial, rfl⟩, h.2⟩
end Go.Proofs.Ytjnnfiimimmmnaa
