/- Means of shares. -/
import Derived.Test.YtjnnfiimimmmnaaShr
import Derived.Test.YtjnnfiimimmmnaaDot
namespace Go.Proofs.Ytjnnfiimimmmnaa
open Go Go.RowKit Fl Vag
set_option linter.unusedVariables false

theorem Fv_fin {v : Option Nat} {r : Nat} (h : Fv .f32 v r) : finA .f32 (av .f32 r) = finA .f32 v := by rw [h.2]
theorem Fv_av0 : Fv .f32 (av .f32 0) 0 := ⟨by decide, rfl⟩
theorem RetF.zero {w w' : World} {e : Ending} {f : Nat → Value} (h : RetB (f 0) w e w') : RetF f (av .f32 0) w e w' := ⟨0, h.1, Fv_av0, h.2⟩
/-- The share in the box of a call's own. -/
def ShrBox (w v : World) (ao bo : Option Addr) (n c d : Nat) : Prop := Whole v w.heap.size 27 #[.slice ao n c, .slice bo n d] ∧ Below w.heap.size w v
theorem ShrBox.below {w v v' : World} {ao bo : Option Addr} {n c d : Nat} (h : ShrBox w v ao bo n c d) (hb : Below v.heap.size v v') : ShrBox w v' ao bo n c d := ⟨h.1.below hb, Bel_next h.2 hb⟩
theorem ShrBox.drewN {w v : World} {ao bo : Option Addr} {n c d : Nat} (h : ShrBox w v ao bo n c d) (k : Nat) : ShrBox w (v.drewN k) ao bo n c d := ⟨h.1.drewN k, Bel_drewN h.2 k⟩
theorem implDot_same (xs ys : List Nat) (n : Nat) (hn : xs.length = n) (hm : ys.length = n) (ao bo : Option Addr) (c c' : Nat) (w : World) (hx : Holds w ao (fl .f32 xs)) (hy : Holds w bo (fl .f32 ys)) (hlen : n ≤ 256) :
    Calls Try.prog 59 #[.slice ao n c, .slice bo n c'] w (Two .f32 (dotA .f32 xs ys) w) := by
  subst hn
  have h := implDot_in xs ys ao bo c c' w hx hy hlen hm
  rw [hm] at h
  exact h
set_option maxRecDepth 100000 in
set_option maxHeartbeats 1000000 in
theorem implMean_yes (vs cs : List Nat) (m : Nat) (hm : cs.length = m) (ao bo : Option Addr) (c d : Nat) (w : World) (hx : Holds w ao (fl .f32 vs)) (hy : Holds w bo (fl .f32 cs)) (hS : isShr vs cs) (hF : finA .f32 (dotA .f32 vs cs) = true) :
    Calls Try.prog 23 #[.agg #[.slice ao vs.length c, .slice bo m d]] w (RetF (fun r => .tuple #[.float .f32 r, .bool true]) (dotA .f32 vs cs) w) := by
  have HX := Lib.hid (And.intro hx (And.intro hy hm))
  obtain rfl : m = vs.length := by have := hS.2.1; omega
  have h64 : vs.length ≤ 64 := hS.1
  have HS := Lib.hid (And.intro hS hF)
  clear hx hy hm hS hF
  go_enter Try.func23, Try.ntmps23
  go_wp2_with (first | (go_at_call 18; fail))
  generalize hW : World.alloc _ _ = w0
  have H0 : Hid (ShrBox w w0 ao bo vs.length c d) := Lib.hid (by rw [← hW]; exact ⟨Whole.made _ _ _, (by repeat (first | with_reducible exact Below.refl _ _ | with_reducible exact HBL | with_reducible refine Below.drew ?_ | with_reducible refine Bel_drewN ?_ _ | with_reducible refine Below.alloc ?_ (by first | omega | (simp; done) | (simp; omega)) _ | with_reducible refine Below.setCell ?_ (by first | omega | (simp; done) | (simp; omega)) _))⟩)
  clear hW
  refine ((implValidShare_any vs cs _ HX.out.2.2 ao bo c d _ (HX.out.1.below H0.out.2) (HX.out.2.1.below H0.out.2) (by omega) (by omega)).mono fun e w1 h => Bo.yes HS.out.1 h).mono ?_
  rintro e w1 ⟨rfl, hb⟩
  have H1 := Lib.hid (H0.out.below hb)
  clear hb H0
  obtain ⟨hc0, hf0⟩ := H1.out.1.facts
  go_wp2_with (first | (go_at_call 59; fail))
  clear hc0 hf0
  refine (implDot_same vs cs _ rfl HX.out.2.2 _ _ _ _ _ (HX.out.1.below H1.out.2) (HX.out.2.1.below H1.out.2) (by omega)).mono ?_
  rintro e w' ⟨r, n, rfl, hr, rfl⟩
  have HR := Lib.hid hr
  clear hr
  go_wp2_with (first | (go_at_call 51; fail))
  refine (IsFinite_any _ _).mono ?_
  rintro e w' ⟨n2, rfl, rfl⟩
  rw [Fv_fin HR.out, HS.out.2]
  go_wp2
  go_ret2
  exact ⟨r, rfl, HR.out, Bel_drewN H1.out.2 _⟩
set_option maxRecDepth 100000 in
set_option maxHeartbeats 1000000 in
theorem implMean_no (vs cs : List Nat) (m : Nat) (hm : cs.length = m) (ao bo : Option Addr) (c d : Nat) (w : World) (hx : Holds w ao (fl .f32 vs)) (hy : Holds w bo (fl .f32 cs)) (hlen : vs.length ≤ 1048576) (hml : m ≤ 1048576) (hN : ¬ (isShr vs cs ∧ finA .f32 (dotA .f32 vs cs) = true)) :
    Calls Try.prog 23 #[.agg #[.slice ao vs.length c, .slice bo m d]] w (RetB (.tuple #[.float .f32 0, .bool false]) w) := by
  have HX := Lib.hid (And.intro hx (And.intro hy hm))
  clear hx hy hm
  by_cases hS : isShr vs cs
  · have hF : finA .f32 (dotA .f32 vs cs) = false := by
      cases h : finA .f32 (dotA .f32 vs cs) with
      | false => rfl
      | true => exact absurd ⟨hS, h⟩ hN
    obtain rfl : m = vs.length := by have := hS.2.1; have := HX.out.2.2; omega
    have h64 : vs.length ≤ 64 := hS.1
    have HS := Lib.hid (And.intro hS hF)
    clear hS hF hN
    go_enter Try.func23, Try.ntmps23
    go_wp2_with (first | (go_at_call 18; fail))
    generalize hW : World.alloc _ _ = w0
    have H0 : Hid (ShrBox w w0 ao bo vs.length c d) := Lib.hid (by rw [← hW]; exact ⟨Whole.made _ _ _, (by repeat (first | with_reducible exact Below.refl _ _ | with_reducible exact HBL | with_reducible refine Below.drew ?_ | with_reducible refine Bel_drewN ?_ _ | with_reducible refine Below.alloc ?_ (by first | omega | (simp; done) | (simp; omega)) _ | with_reducible refine Below.setCell ?_ (by first | omega | (simp; done) | (simp; omega)) _))⟩)
    clear hW
    refine ((implValidShare_any vs cs _ HX.out.2.2 ao bo c d _ (HX.out.1.below H0.out.2) (HX.out.2.1.below H0.out.2) (by omega) (by omega)).mono fun e w1 h => Bo.yes HS.out.1 h).mono ?_
    rintro e w1 ⟨rfl, hb⟩
    have H1 := Lib.hid (H0.out.below hb)
    clear hb H0
    obtain ⟨hc0, hf0⟩ := H1.out.1.facts
    go_wp2_with (first | (go_at_call 59; fail))
    clear hc0 hf0
    refine (implDot_same vs cs _ rfl HX.out.2.2 _ _ _ _ _ (HX.out.1.below H1.out.2) (HX.out.2.1.below H1.out.2) (by omega)).mono ?_
    rintro e w' ⟨r, n, rfl, hr, rfl⟩
    have HR := Lib.hid hr
    clear hr
    go_wp2_with (first | (go_at_call 51; fail))
    refine (IsFinite_any _ _).mono ?_
    rintro e w' ⟨n2, rfl, rfl⟩
    rw [Fv_fin HR.out, HS.out.2]
    go_wp2
    go_ret2
    exact ⟨rfl, Bel_drewN H1.out.2 _⟩
  · have HS := Lib.hid hS
    clear hS hN
    go_enter Try.func23, Try.ntmps23
    go_wp2_with (first | (go_at_call 18; fail))
    generalize hW : World.alloc _ _ = w0
    have H0 : Hid (Below w.heap.size w w0) := Lib.hid (by rw [← hW]; exact (by repeat (first | with_reducible exact Below.refl _ _ | with_reducible exact HBL | with_reducible refine Below.drew ?_ | with_reducible refine Bel_drewN ?_ _ | with_reducible refine Below.alloc ?_ (by first | omega | (simp; done) | (simp; omega)) _ | with_reducible refine Below.setCell ?_ (by first | omega | (simp; done) | (simp; omega)) _)))
    clear hW
    refine ((implValidShare_any vs cs _ HX.out.2.2 ao bo c d _ (HX.out.1.below H0.out) (HX.out.2.1.below H0.out) (by omega) (by omega)).mono fun e w1 h => Bo.no HS.out h).mono ?_
    rintro e w1 ⟨rfl, hb⟩
    have H1 := Lib.hid (Bel_next H0.out hb)
    clear hb H0
    go_wp2
    go_ret2
    exact ⟨rfl, H1.out⟩
set_option maxRecDepth 100000 in
set_option maxHeartbeats 1000000 in
theorem l05Mean_any (vs cs : List Nat) (m : Nat) (hm : cs.length = vs.length) (ao bo : Option Addr) (c d g : Nat) (w : World) (hw : Whole w g 27 #[.slice ao vs.length c, .slice bo vs.length d]) (hx : Holds w ao (fl .f32 vs)) (hy : Holds w bo (fl .f32 cs)) (h64 : vs.length ≤ 64) :
    Calls Try.prog 58 #[.pointer (some ⟨g, 0, none⟩)] w (Num .f32 (dotA .f32 vs cs) w) := by
  have HX := Lib.hid (And.intro hx (And.intro hy hm))
  obtain ⟨hc0, hf0⟩ := hw.facts
  clear hx hy hm hw
  go_enter Try.func58, Try.ntmps58
  go_wp2
  go_loopw [3, 10] (fun s i wr => ∃ k : Nat, k ≤ vs.length ∧ i = .int .i64 k ∧ ∃ r n, s = .float .f32 r ∧ Fv .f32 (dotA .f32 (vs.take k) (cs.take k)) r ∧ wr = w.drewN n) (fun _ i _ => vs.length - (intOf i).toNat)
  case atStart => exact ⟨0, Nat.zero_le _, rfl, 0, 0, rfl, Fv_zero _, rfl⟩
  case round =>
    obtain ⟨k, hk, rfl, r, n, rfl, hr, rfl⟩ := hrel
    have HR := Lib.hid hr
    clear hr
    by_cases hlt : k < vs.length
    · have hltc : k < cs.length := by rw [HX.out.2.2]; exact hlt
      obtain ⟨b, o, rfl, hc⟩ := HX.out.1 k (by simpa [fl] using hlt)
      obtain ⟨b', o', rfl, hc'⟩ := HX.out.2.1 k (by simpa [fl] using hltc)
      rw [fl_get _ _ _ hlt] at hc
      rw [fl_get _ _ _ hltc] at hc'
      have HT := Lib.hid (dotA_next .f32 vs cs k hlt hltc)
      generalize vs[k]?.getD 0 = x at hc HT
      generalize cs[k]?.getD 0 = y at hc' HT
      clear hltc
      go_wp2
      refine wp_region_lex (C := Cw (w.drewN n)) (by kernel_rfl) (by kernel_rfl) ⟨1, rfl⟩ ?_
      repeat (first
        | (apply lex_move rfl (.inl rfl); (focus (simp [go_sem]; rfl)))
        | (apply lex_move rfl (.inr rfl); (focus (simp [go_sem]; rfl)))
        | (apply lex_farith _ _ _ _ _ .f32 _ _ rfl rfl rfl; (focus (intro r; simp [go_sem]; rfl)); intro r' hr')
        | (apply lex_pure rfl; (focus (intro m; go_simp; rfl)); (focus (simp [go_sem]; rfl))))
      refine lex_nil ?_
      rintro _ ⟨m, rfl⟩
      go_wp2
      go_roundw
      case rel => exact ⟨k + 1, by omega, by go_num, _, _, rfl, by rw [HT.out, ← HR.out.2]; exact dot_first _ _ _ _ _ _ (by assumption) (by assumption), rfl⟩
      case measure => simp [intOf]; omega
    · have HE := Lib.hid (take_whole vs k (by omega))
      have HE' := Lib.hid (take_whole cs k (by rw [HX.out.2.2]; omega))
      go_wp2
      go_ret
      exact ⟨r, n, rfl, by rw [← HE.out, ← HE'.out]; exact HR.out, rfl⟩
theorem l02Number_fin (x : Nat) (h : finA .f32 (av .f32 x) = true) (w : World) : Calls Try.prog 57 #[.float .f32 x] w (fun e w' => ∃ n, e = .returned (.tuple #[.float .f32 x, .bool true]) ∧ w' = w.drewN n) := by
  go_enter Try.func57, Try.ntmps57
  go_wp2_with (first | (go_at_call 61; fail))
  refine (l01Fin_is _ _ h _).mono ?_
  rintro e w' ⟨n, rfl, rfl⟩
  go_wp2
  go_ret2
  exact ⟨n, rfl, rfl⟩
theorem l02Number_not (x : Nat) (h : finA .f32 (av .f32 x) = false) (w : World) : Calls Try.prog 57 #[.float .f32 x] w (fun e w' => ∃ n, e = .returned (.tuple #[.float .f32 0, .bool false]) ∧ w' = w.drewN n) := by
  go_enter Try.func57, Try.ntmps57
  go_wp2_with (first | (go_at_call 61; fail))
  refine (l01Fin_is _ _ h _).mono ?_
  rintro e w' ⟨n, rfl, rfl⟩
  go_wp2
  go_ret2
  exact ⟨n, rfl, rfl⟩
set_option maxRecDepth 100000 in
set_option maxHeartbeats 1000000 in
theorem specMean_yes (vs cs : List Nat) (m : Nat) (hm : cs.length = m) (ao bo : Option Addr) (c d : Nat) (w : World) (hx : Holds w ao (fl .f32 vs)) (hy : Holds w bo (fl .f32 cs)) (hS : isShr vs cs) (hF : finA .f32 (dotA .f32 vs cs) = true) :
    Calls Try.prog 22 #[.agg #[.slice ao vs.length c, .slice bo m d]] w (RetF (fun r => .tuple #[.float .f32 r, .bool true]) (dotA .f32 vs cs) w) := by
  have HX := Lib.hid (And.intro hx (And.intro hy hm))
  obtain rfl : m = vs.length := by have := hS.2.1; omega
  have h64 : vs.length ≤ 64 := hS.1
  have HS := Lib.hid (And.intro hS hF)
  clear hx hy hm hS hF
  go_enter Try.func22, Try.ntmps22
  go_wp2_with (first | (go_at_call 49; fail))
  generalize hW : World.alloc _ _ = w0
  have H0 : Hid (ShrBox w w0 ao bo vs.length c d) := Lib.hid (by rw [← hW]; exact ⟨Whole.made _ _ _, (by repeat (first | with_reducible exact Below.refl _ _ | with_reducible exact HBL | with_reducible refine Below.drew ?_ | with_reducible refine Bel_drewN ?_ _ | with_reducible refine Below.alloc ?_ (by first | omega | (simp; done) | (simp; omega)) _ | with_reducible refine Below.setCell ?_ (by first | omega | (simp; done) | (simp; omega)) _))⟩)
  clear hW
  refine ((l05Is_any vs cs _ HX.out.2.2 ao bo c d _ _ H0.out.1 (HX.out.1.below H0.out.2) (HX.out.2.1.below H0.out.2) (by omega) (by omega)).mono fun e w1 h => BoD.yes HS.out.1 h).mono ?_
  rintro e w1 ⟨n, rfl, rfl⟩
  have H1 := Lib.hid (H0.out.drewN n)
  go_wp2_with (first | (go_at_call 58; fail))
  refine (l05Mean_any vs cs vs.length HX.out.2.2 ao bo c d _ _ H1.out.1 (HX.out.1.below H1.out.2) (HX.out.2.1.below H1.out.2) (by omega)).mono ?_
  rintro e w' ⟨r, n2, rfl, hr, rfl⟩
  have HR := Lib.hid hr
  clear hr
  go_wp2_with (first | (go_at_call 57; fail))
  refine (l02Number_fin _ (by rw [Fv_fin HR.out, HS.out.2]) _).mono ?_
  rintro e w' ⟨n3, rfl, rfl⟩
  go_wp2
  go_ret2
  exact ⟨r, rfl, HR.out, Bel_drewN H0.out.2 _⟩
set_option maxRecDepth 100000 in
set_option maxHeartbeats 1000000 in
theorem specMean_no (vs cs : List Nat) (m : Nat) (hm : cs.length = m) (ao bo : Option Addr) (c d : Nat) (w : World) (hx : Holds w ao (fl .f32 vs)) (hy : Holds w bo (fl .f32 cs)) (hlen : vs.length ≤ 1048576) (hml : m ≤ 1048576) (hN : ¬ (isShr vs cs ∧ finA .f32 (dotA .f32 vs cs) = true)) :
    Calls Try.prog 22 #[.agg #[.slice ao vs.length c, .slice bo m d]] w (RetB (.tuple #[.float .f32 0, .bool false]) w) := by
  have HX := Lib.hid (And.intro hx (And.intro hy hm))
  clear hx hy hm
  by_cases hS : isShr vs cs
  · have hF : finA .f32 (dotA .f32 vs cs) = false := by
      cases h : finA .f32 (dotA .f32 vs cs) with
      | false => rfl
      | true => exact absurd ⟨hS, h⟩ hN
    obtain rfl : m = vs.length := by have := hS.2.1; have := HX.out.2.2; omega
    have h64 : vs.length ≤ 64 := hS.1
    have HS := Lib.hid (And.intro hS hF)
    clear hS hF hN
    go_enter Try.func22, Try.ntmps22
    go_wp2_with (first | (go_at_call 49; fail))
    generalize hW : World.alloc _ _ = w0
    have H0 : Hid (ShrBox w w0 ao bo vs.length c d) := Lib.hid (by rw [← hW]; exact ⟨Whole.made _ _ _, (by repeat (first | with_reducible exact Below.refl _ _ | with_reducible exact HBL | with_reducible refine Below.drew ?_ | with_reducible refine Bel_drewN ?_ _ | with_reducible refine Below.alloc ?_ (by first | omega | (simp; done) | (simp; omega)) _ | with_reducible refine Below.setCell ?_ (by first | omega | (simp; done) | (simp; omega)) _))⟩)
    clear hW
    refine ((l05Is_any vs cs _ HX.out.2.2 ao bo c d _ _ H0.out.1 (HX.out.1.below H0.out.2) (HX.out.2.1.below H0.out.2) (by omega) (by omega)).mono fun e w1 h => BoD.yes HS.out.1 h).mono ?_
    rintro e w1 ⟨n, rfl, rfl⟩
    have H1 := Lib.hid (H0.out.drewN n)
    go_wp2_with (first | (go_at_call 58; fail))
    refine (l05Mean_any vs cs vs.length HX.out.2.2 ao bo c d _ _ H1.out.1 (HX.out.1.below H1.out.2) (HX.out.2.1.below H1.out.2) (by omega)).mono ?_
    rintro e w' ⟨r, n2, rfl, hr, rfl⟩
    have HR := Lib.hid hr
    clear hr
    go_wp2_with (first | (go_at_call 57; fail))
    refine (l02Number_not _ (by rw [Fv_fin HR.out, HS.out.2]) _).mono ?_
    rintro e w' ⟨n3, rfl, rfl⟩
    go_wp2
    go_ret2
    exact ⟨rfl, Bel_drewN H0.out.2 _⟩
  · have HS := Lib.hid hS
    clear hS hN
    go_enter Try.func22, Try.ntmps22
    go_wp2_with (first | (go_at_call 49; fail))
    generalize hW : World.alloc _ _ = w0
    have H0 : Hid (Whole w0 w.heap.size 27 #[.slice ao vs.length c, .slice bo m d] ∧ Below w.heap.size w w0) := Lib.hid (by rw [← hW]; exact ⟨Whole.made _ _ _, (by repeat (first | with_reducible exact Below.refl _ _ | with_reducible exact HBL | with_reducible refine Below.drew ?_ | with_reducible refine Bel_drewN ?_ _ | with_reducible refine Below.alloc ?_ (by first | omega | (simp; done) | (simp; omega)) _ | with_reducible refine Below.setCell ?_ (by first | omega | (simp; done) | (simp; omega)) _))⟩)
    clear hW
    refine ((l05Is_any vs cs _ HX.out.2.2 ao bo c d _ _ H0.out.1 (HX.out.1.below H0.out.2) (HX.out.2.1.below H0.out.2) (by omega) (by omega)).mono fun e w1 h => BoD.no HS.out h).mono ?_
    rintro e w1 ⟨n, rfl, rfl⟩
    go_wp2
    go_ret2
    exact ⟨rfl, Bel_drewN H0.out.2 _⟩
end Go.Proofs.Ytjnnfiimimmmnaa
