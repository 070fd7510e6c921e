/- Moments of shares. -/
import Derived.Test.YtjnnfiimimmmnaaMn
import Derived.Test.YtjnnfiimimmmnaaIn0
namespace Go.Proofs.Ytjnnfiimimmmnaa
open Go Go.RowKit Fl Vag
set_option linter.unusedVariables false

/-- A term, times something again and again. -/
def momT (v d : Option Nat) : Nat → Option Nat
  | 0 => v
  | j + 1 => aop .mul .f32 (momT v d j) d
def momA (vs cs : List Nat) (mean : Option Nat) (n : Nat) : Nat → Option Nat
  | 0 => some 0
  | k + 1 => aop .add .f32 (momA vs cs mean n k) (momT (av .f32 (cs[k]?.getD 0)) (aop .sub .f32 (av .f32 (vs[k]?.getD 0)) mean) n)
def momV (vs cs : List Nat) (n : Nat) : Option Nat := momA vs cs (dotA .f32 vs cs) n vs.length
/-- A number if it is finite, and whether it is. -/
def Given (v : Option Nat) (w : World) (e : Ending) (w' : World) : Prop :=
  (finA .f32 v = true ∧ RetF (fun r => .tuple #[.float .f32 r, .bool true]) v w e w') ∨ (finA .f32 v = false ∧ RetB (.tuple #[.float .f32 0, .bool false]) w e w')
theorem Given.yes {v : Option Nat} {w w' : World} {e : Ending} (h : finA .f32 v = true) (hg : Given v w e w') : RetF (fun r => .tuple #[.float .f32 r, .bool true]) v w e w' := by
  rcases hg with h' | h'
  · exact h'.2
  · rw [h] at h'; exact absurd h'.1 (by simp)
theorem Given.no {v : Option Nat} {w w' : World} {e : Ending} (h : finA .f32 v = false) (hg : Given v w e w') : RetB (.tuple #[.float .f32 0, .bool false]) w e w' := by
  rcases hg with h' | h'
  · rw [h] at h'; exact absurd h'.1 (by simp)
  · exact h'.2
theorem l02Number_any {v : Option Nat} {x : Nat} (h : Fv .f32 v x) (w : World) : Calls Try.prog 57 #[.float .f32 x] w (fun e w' => ∃ n, w' = w.drewN n ∧ ((finA .f32 v = true ∧ e = .returned (.tuple #[.float .f32 x, .bool true])) ∨ (finA .f32 v = false ∧ e = .returned (.tuple #[.float .f32 0, .bool false])))) := by
  cases hf : finA .f32 v with
  | true =>
    refine (l02Number_fin x (by rw [Fv_fin h, hf]) w).mono ?_
    rintro e w' ⟨n, rfl, rfl⟩
    exact ⟨n, rfl, .inl ⟨rfl, rfl⟩⟩
  | false =>
    refine (l02Number_not x (by rw [Fv_fin h, hf]) w).mono ?_
    rintro e w' ⟨n, rfl, rfl⟩
    exact ⟨n, rfl, .inr ⟨rfl, rfl⟩⟩
set_option maxRecDepth 100000 in
set_option maxHeartbeats 2000000 in
theorem implMom_in (vs cs : List Nat) (m : Nat) (hm : cs.length = m) (ao bo : Option Addr) (c d : Nat) (n : Nat) (w : World) (hx : Holds w ao (fl .f32 vs)) (hy : Holds w bo (fl .f32 cs)) (hS : isShr vs cs) (hF : finA .f32 (dotA .f32 vs cs) = true) (hn : n ≤ 8) :
    Calls Try.prog 26 #[.agg #[.slice ao vs.length c, .slice bo m d], .int .i64 n] w (Given (momV vs cs n) w) := by
  have HX := Lib.hid (And.intro hx (And.intro hy hm))
  obtain rfl : m = vs.length := by have := hS.2.1; omega
  have h64 : vs.length ≤ 64 := hS.1
  have HS := Lib.hid (And.intro hS hF)
  have hn0 : (0 : Int) ≤ (n : Int) := by omega
  have hn8 : (n : Int) ≤ 8 := by omega
  clear hx hy hm hS hF
  go_enter Try.func26, Try.ntmps26
  go_wp2_with (first | (go_at_call 23; fail))
  generalize hW : World.alloc _ _ = w0
  have H0 : Hid (ShrBox w w0 ao bo vs.length c d) := Lib.hid (by rw [← hW]; exact ⟨Whole.made _ _ _, (by repeat (first | with_reducible exact Below.refl _ _ | with_reducible exact HBL | with_reducible refine Below.drew ?_ | with_reducible refine Bel_drewN ?_ _ | with_reducible refine Below.alloc ?_ (by first | omega | (simp; done) | (simp; omega)) _ | with_reducible refine Below.setCell ?_ (by first | omega | (simp; done) | (simp; omega)) _))⟩)
  clear hW
  refine (implMean_yes vs cs _ HX.out.2.2 ao bo c d _ (HX.out.1.below H0.out.2) (HX.out.2.1.below H0.out.2) HS.out.1 HS.out.2).mono ?_
  rintro e w1 ⟨rm, rfl, hrm, hb⟩
  have H1 := Lib.hid (H0.out.below hb)
  have HM := Lib.hid hrm
  clear hb H0 hrm
  obtain ⟨hc0, hf0⟩ := H1.out.1.facts
  go_wp2
  go_loopw [8, 29] (fun s i wr => ∃ k : Nat, k ≤ vs.length ∧ i = .int .i64 k ∧ ∃ r q, s = .float .f32 r ∧ Fv .f32 (momA vs cs (dotA .f32 vs cs) n k) r ∧ wr = w1.drewN q) (fun _ i _ => vs.length - (intOf i).toNat)
  case atStart => exact ⟨0, Nat.zero_le _, rfl, 0, 0, rfl, Fv_zero _, rfl⟩
  case round =>
    obtain ⟨k, hk, rfl, r, q, rfl, hr, rfl⟩ := hrel
    have HR := Lib.hid hr
    clear hr
    by_cases hlt : k < vs.length
    · have hltc : k < cs.length := by rw [HX.out.2.2]; exact hlt
      obtain ⟨b, o, rfl, hc⟩ := (HX.out.1.below H1.out.2) k (by simpa [fl] using hlt)
      obtain ⟨b', o', rfl, hc'⟩ := (HX.out.2.1.below H1.out.2) k (by simpa [fl] using hltc)
      rw [fl_get _ _ _ hlt] at hc
      rw [fl_get _ _ _ hltc] at hc'
      have HT : Hid (momA vs cs (dotA .f32 vs cs) n (k + 1) = aop .add .f32 (momA vs cs (dotA .f32 vs cs) n k) (momT (av .f32 (cs[k]?.getD 0)) (aop .sub .f32 (av .f32 (vs[k]?.getD 0)) (dotA .f32 vs cs)) n)) := Lib.hid rfl
      generalize vs[k]?.getD 0 = x at hc HT
      generalize cs[k]?.getD 0 = y at hc' HT
      clear hltc
      go_wp2
      go_loopw [10, 35] (fun t j wr => ∃ l : Nat, l ≤ n ∧ j = .int .i64 l ∧ ∃ s q, t = .float .f32 s ∧ av .f32 s = momT (av .f32 y) (aop .sub .f32 (av .f32 x) (dotA .f32 vs cs)) l ∧ wr = w1.drewN q) (fun _ j _ => n - (intOf j).toNat)
      case atStart => exact ⟨0, Nat.zero_le _, rfl, y, q, rfl, rfl, rfl⟩
      case round =>
        obtain ⟨l, hl, rfl, s, q2, rfl, hs, rfl⟩ := hrel
        by_cases hlt2 : l < n
        · have HT2 : Hid (momT (av .f32 y) (aop .sub .f32 (av .f32 x) (dotA .f32 vs cs)) (l + 1) = aop .mul .f32 (momT (av .f32 y) (aop .sub .f32 (av .f32 x) (dotA .f32 vs cs)) l) (aop .sub .f32 (av .f32 x) (dotA .f32 vs cs))) := Lib.hid rfl
          have HS2 := Lib.hid hs
          clear hs hc'
          go_wp2_with (first | (refine wpList_farith (dst := some 44) _ _ _ _ _ .f32 _ _ rfl rfl rfl ?_; intro d1 n1 hd1) | (refine wpList_farith (dst := some 45) _ _ _ _ _ .f32 _ _ rfl rfl rfl ?_; intro d2 n2 hd2))
          go_roundw
          case rel => exact ⟨l + 1, by omega, by go_num, d2, _, rfl, by rw [HT2.out, ← HS2.out, ← HM.out.2, ← hd1.2]; exact hd2.2, rfl⟩
          case measure => simp [intOf]; omega
        · obtain rfl : l = n := by omega
          have HS2 := Lib.hid hs
          clear hs hc' hc hc0
          go_wp2_with (refine wpList_farith _ _ _ _ _ .f32 _ _ rfl rfl rfl ?_; intro d3 n3 hd3)
          go_roundw
          case rel => exact ⟨k + 1, by omega, by go_num, d3, _, rfl, by rw [HT.out, ← HS2.out, ← HR.out.2]; exact hd3, rfl⟩
          case measure => simp [intOf]; omega
    · obtain rfl : k = vs.length := by omega
      have HV : Hid (momV vs cs n = momA vs cs (dotA .f32 vs cs) n vs.length) := Lib.hid rfl
      clear hc0
      go_wp2_with (first | (go_at_call 51; fail))
      refine (IsFinite_any _ _).mono ?_
      rintro e w' ⟨n2, rfl, rfl⟩
      rw [Fv_fin HR.out]
      cases hf : finA .f32 (momA vs cs (dotA .f32 vs cs) n vs.length) with
      | true =>
        have HF := Lib.hid hf
        clear hf
        go_wp2
        go_ret2
        exact .inl ⟨by rw [HV.out]; exact HF.out, r, rfl, by rw [HV.out]; exact HR.out, Bel_drewN H1.out.2 _⟩
      | false =>
        have HF := Lib.hid hf
        clear hf
        go_wp2
        go_ret2
        exact .inr ⟨by rw [HV.out]; exact HF.out, rfl, Bel_drewN H1.out.2 _⟩
set_option maxRecDepth 100000 in
set_option maxHeartbeats 2000000 in
theorem implMom_no (vs cs : List Nat) (m : Nat) (hm : cs.length = m) (ao bo : Option Addr) (c d : Nat) (n : Int) (w : World) (hx : Holds w ao (fl .f32 vs)) (hy : Holds w bo (fl .f32 cs)) (hlen : vs.length ≤ 1048576) (hml : m ≤ 1048576) (hN : ¬ ((isShr vs cs ∧ finA .f32 (dotA .f32 vs cs) = true) ∧ 0 ≤ n ∧ n ≤ 8)) :
    Calls Try.prog 26 #[.agg #[.slice ao vs.length c, .slice bo m d], .int .i64 n] w (RetB (.tuple #[.float .f32 0, .bool false]) w) := by
  have HX := Lib.hid (And.intro hx (And.intro hy hm))
  clear hx hy hm
  by_cases hS : isShr vs cs ∧ finA .f32 (dotA .f32 vs cs) = true
  · have hn : n < 0 ∨ 8 < n := by
      by_cases h : 0 ≤ n ∧ n ≤ 8
      · exact absurd ⟨hS, h⟩ hN
      · omega
    have HS := Lib.hid hS
    clear hS hN
    go_enter Try.func26, Try.ntmps26
    go_wp2_with (first | (go_at_call 23; fail))
    generalize hW : World.alloc _ _ = w0
    have H0 : Hid (Below w.heap.size w w0) := Lib.hid (by rw [← hW]; exact (by repeat (first | with_reducible exact Below.refl _ _ | with_reducible exact HBL | with_reducible refine Below.drew ?_ | with_reducible refine Bel_drewN ?_ _ | with_reducible refine Below.alloc ?_ (by first | omega | (simp; done) | (simp; omega)) _ | with_reducible refine Below.setCell ?_ (by first | omega | (simp; done) | (simp; omega)) _)))
    clear hW
    refine (implMean_yes vs cs _ HX.out.2.2 ao bo c d _ (HX.out.1.below H0.out) (HX.out.2.1.below H0.out) HS.out.1 HS.out.2).mono ?_
    rintro e w1 ⟨rm, rfl, hrm, hb⟩
    have H1 := Lib.hid (Bel_next H0.out hb)
    clear hb H0 hrm
    rcases hn with hn | hn
    · go_wp2
      go_ret2
      exact ⟨rfl, H1.out⟩
    · have hn0 : 0 ≤ n := by omega
      go_wp2
      go_ret2
      exact ⟨rfl, H1.out⟩
  · have HS := Lib.hid hS
    clear hS hN
    go_enter Try.func26, Try.ntmps26
    go_wp2_with (first | (go_at_call 23; fail))
    generalize hW : World.alloc _ _ = w0
    have H0 : Hid (Below w.heap.size w w0) := Lib.hid (by rw [← hW]; exact (by repeat (first | with_reducible exact Below.refl _ _ | with_reducible exact HBL | with_reducible refine Below.drew ?_ | with_reducible refine Bel_drewN ?_ _ | with_reducible refine Below.alloc ?_ (by first | omega | (simp; done) | (simp; omega)) _ | with_reducible refine Below.setCell ?_ (by first | omega | (simp; done) | (simp; omega)) _)))
    clear hW
    refine (implMean_no vs cs _ HX.out.2.2 ao bo c d _ (HX.out.1.below H0.out) (HX.out.2.1.below H0.out) hlen hml HS.out).mono ?_
    rintro e w1 ⟨rfl, hb⟩
    have H1 := Lib.hid (Bel_next H0.out hb)
    clear hb H0
    go_wp2
    go_ret2
    exact ⟨rfl, H1.out⟩
set_option maxRecDepth 100000 in
set_option maxHeartbeats 2000000 in
theorem specMom_in (vs cs : List Nat) (m : Nat) (hm : cs.length = m) (ao bo : Option Addr) (c d : Nat) (n : Nat) (w : World) (hx : Holds w ao (fl .f32 vs)) (hy : Holds w bo (fl .f32 cs)) (hS : isShr vs cs) (hF : finA .f32 (dotA .f32 vs cs) = true) (hn : n ≤ 8) :
    Calls Try.prog 25 #[.agg #[.slice ao vs.length c, .slice bo m d], .int .i64 n] w (Given (momV vs cs n) w) := by
  have HX := Lib.hid (And.intro hx (And.intro hy hm))
  obtain rfl : m = vs.length := by have := hS.2.1; omega
  have h64 : vs.length ≤ 64 := hS.1
  have HS := Lib.hid (And.intro hS hF)
  have hn0 : (0 : Int) ≤ (n : Int) := by omega
  have hn8 : (n : Int) ≤ 8 := by omega
  clear hx hy hm hS hF
  go_enter Try.func25, Try.ntmps25
  go_wp2_with (first | (go_at_call 22; fail))
  generalize hW : World.alloc _ _ = w0
  have H0 : Hid (ShrBox w w0 ao bo vs.length c d) := Lib.hid (by rw [← hW]; exact ⟨Whole.made _ _ _, (by repeat (first | with_reducible exact Below.refl _ _ | with_reducible exact HBL | with_reducible refine Below.drew ?_ | with_reducible refine Bel_drewN ?_ _ | with_reducible refine Below.alloc ?_ (by first | omega | (simp; done) | (simp; omega)) _ | with_reducible refine Below.setCell ?_ (by first | omega | (simp; done) | (simp; omega)) _))⟩)
  clear hW
  refine (specMean_yes vs cs _ HX.out.2.2 ao bo c d _ (HX.out.1.below H0.out.2) (HX.out.2.1.below H0.out.2) HS.out.1 HS.out.2).mono ?_
  rintro e w1 ⟨rm, rfl, hrm, hb⟩
  have H1 := Lib.hid (H0.out.below hb)
  have HM := Lib.hid hrm
  clear hb H0 hrm
  go_wp2_with (first | (go_at_call 60; fail))
  refine (l00In_yes _ _ _ hn0 hn8 _).mono ?_
  rintro e w' ⟨rfl, rfl⟩
  obtain ⟨hc0, hf0⟩ := H1.out.1.facts
  go_wp2
  go_loopw [8, 27] (fun s i wr => ∃ k : Nat, k ≤ vs.length ∧ i = .int .i64 k ∧ ∃ r q, s = .float .f32 r ∧ Fv .f32 (momA vs cs (dotA .f32 vs cs) n k) r ∧ wr = w1.drewN q) (fun _ i _ => vs.length - (intOf i).toNat)
  case atStart => exact ⟨0, Nat.zero_le _, rfl, 0, 0, rfl, Fv_zero _, rfl⟩
  case round =>
    obtain ⟨k, hk, rfl, r, q, rfl, hr, rfl⟩ := hrel
    have HR := Lib.hid hr
    clear hr
    by_cases hlt : k < vs.length
    · have hltc : k < cs.length := by rw [HX.out.2.2]; exact hlt
      obtain ⟨b, o, rfl, hc⟩ := (HX.out.1.below H1.out.2) k (by simpa [fl] using hlt)
      obtain ⟨b', o', rfl, hc'⟩ := (HX.out.2.1.below H1.out.2) k (by simpa [fl] using hltc)
      rw [fl_get _ _ _ hlt] at hc
      rw [fl_get _ _ _ hltc] at hc'
      have HT : Hid (momA vs cs (dotA .f32 vs cs) n (k + 1) = aop .add .f32 (momA vs cs (dotA .f32 vs cs) n k) (momT (av .f32 (cs[k]?.getD 0)) (aop .sub .f32 (av .f32 (vs[k]?.getD 0)) (dotA .f32 vs cs)) n)) := Lib.hid rfl
      generalize vs[k]?.getD 0 = x at hc HT
      generalize cs[k]?.getD 0 = y at hc' HT
      clear hltc
      go_wp2
      go_loopw [10, 11] (fun t j wr => ∃ l : Nat, l ≤ n ∧ j = .int .i64 l ∧ ∃ s q, t = .float .f32 s ∧ av .f32 s = momT (av .f32 y) (aop .sub .f32 (av .f32 x) (dotA .f32 vs cs)) l ∧ wr = w1.drewN q) (fun _ j _ => n - (intOf j).toNat)
      case atStart => exact ⟨0, Nat.zero_le _, rfl, y, q, rfl, rfl, rfl⟩
      case round =>
        obtain ⟨l, hl, rfl, s, q2, rfl, hs, rfl⟩ := hrel
        by_cases hlt2 : l < n
        · have HT2 : Hid (momT (av .f32 y) (aop .sub .f32 (av .f32 x) (dotA .f32 vs cs)) (l + 1) = aop .mul .f32 (momT (av .f32 y) (aop .sub .f32 (av .f32 x) (dotA .f32 vs cs)) l) (aop .sub .f32 (av .f32 x) (dotA .f32 vs cs))) := Lib.hid rfl
          have HS2 := Lib.hid hs
          clear hs hc'
          go_wp2_with (first | (refine wpList_farith (dst := some 47) _ _ _ _ _ .f32 _ _ rfl rfl rfl ?_; intro d1 n1 hd1) | (refine wpList_farith (dst := some 48) _ _ _ _ _ .f32 _ _ rfl rfl rfl ?_; intro d2 n2 hd2))
          go_roundw
          case rel => exact ⟨l + 1, by omega, by go_num, d2, _, rfl, by rw [HT2.out, ← HS2.out, ← HM.out.2, ← hd1.2]; exact hd2.2, rfl⟩
          case measure => simp [intOf]; omega
        · obtain rfl : l = n := by omega
          have HS2 := Lib.hid hs
          clear hs hc' hc hc0
          go_wp2_with (refine wpList_farith _ _ _ _ _ .f32 _ _ rfl rfl rfl ?_; intro d3 n3 hd3)
          go_roundw
          case rel => exact ⟨k + 1, by omega, by go_num, d3, _, rfl, by rw [HT.out, ← HS2.out, ← HR.out.2]; exact hd3, rfl⟩
          case measure => simp [intOf]; omega
    · obtain rfl : k = vs.length := by omega
      have HV : Hid (momV vs cs n = momA vs cs (dotA .f32 vs cs) n vs.length) := Lib.hid rfl
      clear hc0
      go_wp2_with (first | (go_at_call 57; fail))
      refine (l02Number_any HR.out _).mono ?_
      rintro e w' ⟨n2, rfl, hg⟩
      rcases hg with ⟨hf, rfl⟩ | ⟨hf, rfl⟩
      · have HF := Lib.hid hf
        clear hf
        go_wp2
        go_ret2
        exact .inl ⟨by rw [HV.out]; exact HF.out, r, rfl, by rw [HV.out]; exact HR.out, Bel_drewN H1.out.2 _⟩
      · have HF := Lib.hid hf
        clear hf
        go_wp2
        go_ret2
        exact .inr ⟨by rw [HV.out]; exact HF.out, rfl, Bel_drewN H1.out.2 _⟩
set_option maxRecDepth 100000 in
set_option maxHeartbeats 2000000 in
theorem specMom_no (vs cs : List Nat) (m : Nat) (hm : cs.length = m) (ao bo : Option Addr) (c d : Nat) (n : Int) (w : World) (hx : Holds w ao (fl .f32 vs)) (hy : Holds w bo (fl .f32 cs)) (hlen : vs.length ≤ 1048576) (hml : m ≤ 1048576) (hN : ¬ ((isShr vs cs ∧ finA .f32 (dotA .f32 vs cs) = true) ∧ 0 ≤ n ∧ n ≤ 8)) :
    Calls Try.prog 25 #[.agg #[.slice ao vs.length c, .slice bo m d], .int .i64 n] w (RetB (.tuple #[.float .f32 0, .bool false]) w) := by
  have HX := Lib.hid (And.intro hx (And.intro hy hm))
  clear hx hy hm
  by_cases hS : isShr vs cs ∧ finA .f32 (dotA .f32 vs cs) = true
  · have hn : n < 0 ∨ 8 < n := by
      by_cases h : 0 ≤ n ∧ n ≤ 8
      · exact absurd ⟨hS, h⟩ hN
      · omega
    have HS := Lib.hid hS
    have HN := Lib.hid hn
    clear hS hN hn
    go_enter Try.func25, Try.ntmps25
    go_wp2_with (first | (go_at_call 22; fail))
    generalize hW : World.alloc _ _ = w0
    have H0 : Hid (Below w.heap.size w w0) := Lib.hid (by rw [← hW]; exact (by repeat (first | with_reducible exact Below.refl _ _ | with_reducible exact HBL | with_reducible refine Below.drew ?_ | with_reducible refine Bel_drewN ?_ _ | with_reducible refine Below.alloc ?_ (by first | omega | (simp; done) | (simp; omega)) _ | with_reducible refine Below.setCell ?_ (by first | omega | (simp; done) | (simp; omega)) _)))
    clear hW
    refine (specMean_yes vs cs _ HX.out.2.2 ao bo c d _ (HX.out.1.below H0.out) (HX.out.2.1.below H0.out) HS.out.1 HS.out.2).mono ?_
    rintro e w1 ⟨rm, rfl, hrm, hb⟩
    have H1 := Lib.hid (Bel_next H0.out hb)
    clear hb H0 hrm
    go_wp2_with (first | (go_at_call 60; fail))
    refine (l00In_no _ _ _ HN.out _).mono ?_
    rintro e w' ⟨rfl, rfl⟩
    go_wp2
    go_ret2
    exact ⟨rfl, H1.out⟩
  · have HS := Lib.hid hS
    clear hS hN
    go_enter Try.func25, Try.ntmps25
    go_wp2_with (first | (go_at_call 22; fail))
    generalize hW : World.alloc _ _ = w0
    have H0 : Hid (Below w.heap.size w w0) := Lib.hid (by rw [← hW]; exact (by repeat (first | with_reducible exact Below.refl _ _ | with_reducible exact HBL | with_reducible refine Below.drew ?_ | with_reducible refine Bel_drewN ?_ _ | with_reducible refine Below.alloc ?_ (by first | omega | (simp; done) | (simp; omega)) _ | with_reducible refine Below.setCell ?_ (by first | omega | (simp; done) | (simp; omega)) _)))
    clear hW
    refine (specMean_no vs cs _ HX.out.2.2 ao bo c d _ (HX.out.1.below H0.out) (HX.out.2.1.below H0.out) hlen hml HS.out).mono ?_
    rintro e w1 ⟨rfl, hb⟩
    have H1 := Lib.hid (Bel_next H0.out hb)
    clear hb H0
    go_wp2
    go_ret2
    exact ⟨rfl, H1.out⟩
def momC (vs cs : List Nat) (n : Int) : Prop := ((isShr vs cs ∧ finA .f32 (dotA .f32 vs cs) = true) ∧ 0 ≤ n ∧ n ≤ 8) ∧ finA .f32 (momV vs cs n.toNat) = true
theorem implMom_yes (vs cs : List Nat) (m : Nat) (hm : cs.length = m) (ao bo : Option Addr) (c d : Nat) (n : Int) (w : World) (hx : Holds w ao (fl .f32 vs)) (hy : Holds w bo (fl .f32 cs)) (h : momC vs cs n) :
    Calls Try.prog 26 #[.agg #[.slice ao vs.length c, .slice bo m d], .int .i64 n] w (RetF (fun r => .tuple #[.float .f32 r, .bool true]) (momV vs cs n.toNat) w) := by
  obtain ⟨N, rfl⟩ : ∃ N : Nat, n = (N : Int) := ⟨n.toNat, by have := h.1.2; omega⟩
  have hN : ((N : Int)).toNat = N := Int.toNat_natCast N
  have h2 := h.2
  rw [hN] at h2 ⊢
  exact (implMom_in vs cs m hm ao bo c d N w hx hy h.1.1.1 h.1.1.2 (by have := h.1.2; omega)).mono fun e w' hg => hg.yes h2
theorem implMom_not (vs cs : List Nat) (m : Nat) (hm : cs.length = m) (ao bo : Option Addr) (c d : Nat) (n : Int) (w : World) (hx : Holds w ao (fl .f32 vs)) (hy : Holds w bo (fl .f32 cs)) (hlen : vs.length ≤ 1048576) (hml : m ≤ 1048576) (h : ¬ momC vs cs n) :
    Calls Try.prog 26 #[.agg #[.slice ao vs.length c, .slice bo m d], .int .i64 n] w (RetF (fun r => .tuple #[.float .f32 r, .bool false]) (av .f32 0) w) := by
  by_cases h1 : (isShr vs cs ∧ finA .f32 (dotA .f32 vs cs) = true) ∧ 0 ≤ n ∧ n ≤ 8
  · obtain ⟨N, rfl⟩ : ∃ N : Nat, n = (N : Int) := ⟨n.toNat, by have := h1.2; omega⟩
    have hN : ((N : Int)).toNat = N := Int.toNat_natCast N
    refine (implMom_in vs cs m hm ao bo c d N w hx hy h1.1.1 h1.1.2 (by have := h1.2; omega)).mono fun e w' hg => RetF.zero (f := fun r => .tuple #[.float .f32 r, .bool false]) (hg.no ?_)
    cases hf : finA .f32 (momV vs cs N) with
    | false => rfl
    | true => exact absurd ⟨h1, by rw [hN]; exact hf⟩ h
  · exact (implMom_no vs cs m hm ao bo c d n w hx hy hlen hml h1).mono fun e w' hg => RetF.zero (f := fun r => .tuple #[.float .f32 r, .bool false]) hg
theorem specMom_yes (vs cs : List Nat) (m : Nat) (hm : cs.length = m) (ao bo : Option Addr) (c d : Nat) (n : Int) (w : World) (hx : Holds w ao (fl .f32 vs)) (hy : Holds w bo (fl .f32 cs)) (h : momC vs cs n) :
    Calls Try.prog 25 #[.agg #[.slice ao vs.length c, .slice bo m d], .int .i64 n] w (RetF (fun r => .tuple #[.float .f32 r, .bool true]) (momV vs cs n.toNat) w) := by
  obtain ⟨N, rfl⟩ : ∃ N : Nat, n = (N : Int) := ⟨n.toNat, by have := h.1.2; omega⟩
  have hN : ((N : Int)).toNat = N := Int.toNat_natCast N
  have h2 := h.2
  rw [hN] at h2 ⊢
  exact (specMom_in vs cs m hm ao bo c d N w hx hy h.1.1.1 h.1.1.2 (by have := h.1.2; omega)).mono fun e w' hg => hg.yes h2
theorem specMom_not (vs cs : List Nat) (m : Nat) (hm : cs.length = m) (ao bo : Option Addr) (c d : Nat) (n : Int) (w : World) (hx : Holds w ao (fl .f32 vs)) (hy : Holds w bo (fl .f32 cs)) (hlen : vs.length ≤ 1048576) (hml : m ≤ 1048576) (h : ¬ momC vs cs n) :
    Calls Try.prog 25 #[.agg #[.slice ao vs.length c, .slice bo m d], .int .i64 n] w (RetF (fun r => .tuple #[.float .f32 r, .bool false]) (av .f32 0) w) := by
  by_cases h1 : (isShr vs cs ∧ finA .f32 (dotA .f32 vs cs) = true) ∧ 0 ≤ n ∧ n ≤ 8
  · obtain ⟨N, rfl⟩ : ∃ N : Nat, n = (N : Int) := ⟨n.toNat, by have := h1.2; omega⟩
    have hN : ((N : Int)).toNat = N := Int.toNat_natCast N
    refine (specMom_in vs cs m hm ao bo c d N w hx hy h1.1.1 h1.1.2 (by have := h1.2; omega)).mono fun e w' hg => RetF.zero (f := fun r => .tuple #[.float .f32 r, .bool false]) (hg.no ?_)
    cases hf : finA .f32 (momV vs cs N) with
    | false => rfl
    | true => exact absurd ⟨h1, by rw [hN]; exact hf⟩ h
  · exact (specMom_no vs cs m hm ao bo c d n w hx hy hlen hml h1).mono fun e w' hg => RetF.zero (f := fun r => .tuple #[.float .f32 r, .bool false]) hg
end Go.Proofs.Ytjnnfiimimmmnaa
