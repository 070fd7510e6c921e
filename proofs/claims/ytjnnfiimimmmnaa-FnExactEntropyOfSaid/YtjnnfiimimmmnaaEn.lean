/- How open shares are. -/
import Derived.Test.YtjnnfiimimmmnaaMo
import Derived.Test.YtjnnfiimimmmnaaLy
import Derived.Test.YtjnnfiimimmmnaaNg
namespace Go.Proofs.Ytjnnfiimimmmnaa
open Go Go.RowKit Fl Vag
set_option linter.unusedVariables false

theorem log_pos (a : Nat) (hf : finA .f32 (av .f32 a) = true) (hg : gtB a 0 = true) : ∃ L, av .f32 L = some L ∧ (∀ w, Calls Try.prog 74 #[.float .f32 a] w (Ret (.float .f32 L) w)) ∧ (∀ w, Calls Try.prog 73 #[.float .f32 a] w (Ret (.float .f32 L) w)) := by
  have key : ∀ {V : Option Nat} {L : Nat} {w w' : World} {e : Ending}, narrow V = some L → Num32 (narrow V) w e w' → Ret (.float .f32 L) w e w' := by
    rintro V L w w' e hL ⟨r, n, rfl, hr, rfl⟩
    rw [hL] at hr
    exact ⟨n, by rw [av_eq hr.2], rfl⟩
  cases kind32 a with
  | nan h => rw [h] at hf; cases hf
  | minf h => rw [fin_inf h] at hf; cases hf
  | inf h => rw [fin_inf h] at hf; cases hf
  | less m i h0 h => unfold gtB at hg; rw [ord0_num h, if_neg h0] at hg; cases hg
  | zero s i h => unfold gtB at hg; rw [ord0_num h, if_pos rfl] at hg; cases hg
  | more m i h0 h L K J1 J2 hw hN =>
    obtain ⟨b, s, m', i', e1, e2, _, _⟩ := In.read (k := .f64) (R := R127) (lg_ok hN) (by decide)
    have e2' : Ieee.double.read b = .number s m' i' := e2
    have hn : narrow (lgA (nb (L - J1 + J2) K) ((J1 : Int) - J2)) = some (Ieee.single.write (Ieee.double.read b)) := by rw [e1]; rfl
    refine ⟨_, ?_, fun w => (implLog_more a w m i h0 h L K J1 J2 hw hN).mono fun e w' h' => key hn h', fun w => (l01Log_of a _ w (.inr (.inl (lg_ok hN))) (fun r w hr => by
      have er := Fv_of hr hw
      rw [er]
      exact l01LogWide_any L K J1 J2 w hN)).mono fun e w' h' => key hn h'⟩
    refine av_some (k := .f32) (read_write Ieee.single _ ?_)
    rw [e2']; rfl
open Classical in
/-- The logarithm of a number greater than 0. -/
noncomputable def lgP (a : Nat) : Nat := if h : finA .f32 (av .f32 a) = true ∧ gtB a 0 = true then Classical.choose (log_pos a h.1 h.2) else 0
theorem implLog_pos (a : Nat) (hf : finA .f32 (av .f32 a) = true) (hg : gtB a 0 = true) (w : World) : Calls Try.prog 74 #[.float .f32 a] w (Ret (.float .f32 (lgP a)) w) := by
  unfold lgP; rw [dif_pos ⟨hf, hg⟩]; exact (Classical.choose_spec (log_pos a hf hg)).2.1 w
theorem specLog_pos (a : Nat) (hf : finA .f32 (av .f32 a) = true) (hg : gtB a 0 = true) (w : World) : Calls Try.prog 73 #[.float .f32 a] w (Ret (.float .f32 (lgP a)) w) := by
  unfold lgP; rw [dif_pos ⟨hf, hg⟩]; exact (Classical.choose_spec (log_pos a hf hg)).2.2 w
/-- The sum behind k chances. -/
noncomputable def entA (cs : List Nat) : Nat → Option Nat
  | 0 => some 0
  | k + 1 => if gtB (cs[k]?.getD 0) 0 = true then aop .add .f32 (entA cs k) (aop .quo .f32 (aop .mul .f32 (av .f32 (cs[k]?.getD 0)) (av .f32 (lgP (cs[k]?.getD 0)))) (av .f32 1060205080)) else entA cs k
theorem entA_yes {cs : List Nat} {k : Nat} (h : gtB (cs[k]?.getD 0) 0 = true) : entA cs (k + 1) = aop .add .f32 (entA cs k) (aop .quo .f32 (aop .mul .f32 (av .f32 (cs[k]?.getD 0)) (av .f32 (lgP (cs[k]?.getD 0)))) (av .f32 1060205080)) := by
  show (if _ then _ else _) = _; rw [if_pos h]
theorem entA_no {cs : List Nat} {k : Nat} (h : gtB (cs[k]?.getD 0) 0 = false) : entA cs (k + 1) = entA cs k := by
  show (if _ then _ else _) = _; rw [if_neg (by rw [h]; exact Bool.false_ne_true)]
noncomputable def entV (vs cs : List Nat) : Option Nat := negV .f32 (entA cs vs.length)
theorem isShr.cfin {vs cs : List Nat} (h : isShr vs cs) (k : Nat) (hk : k < vs.length) : finA .f32 (av .f32 (cs[k]?.getD 0)) = true := by
  have := h.okTo.2 k hk
  unfold leastB at this
  simp only [Bool.and_eq_true] at this
  exact this.1
set_option maxRecDepth 100000 in
set_option maxHeartbeats 2000000 in
theorem implEnt_yes (vs cs : List Nat) (m : Nat) (hm : cs.length = m) (ao bo : Option Addr) (c d : Nat) (w : World) (hx : Holds w ao (fl .f32 vs)) (hy : Holds w bo (fl .f32 cs)) (hS : isShr vs cs) :
    Calls Try.prog 36 #[.agg #[.slice ao vs.length c, .slice bo m d]] w (RetF (fun r => .tuple #[.float .f32 r, .bool true]) (entV vs cs) w) := by
  have HX := Lib.hid (And.intro hx (And.intro hy hm))
  obtain rfl : m = vs.length := by have := hS.2.1; omega
  have h64 : vs.length ≤ 64 := hS.1
  have HS := Lib.hid hS
  clear hx hy hm hS
  go_enter Try.func36, Try.ntmps36
  go_wp2_with (first | (go_at_call 18; fail))
  generalize hW : World.alloc _ _ = w0
  have H0 : Hid (ShrBox w w0 ao bo vs.length c d) := Lib.hid (by rw [← hW]; exact ⟨Whole.made _ _ _, (by repeat (first | with_reducible exact Below.refl _ _ | with_reducible exact HBL | with_reducible refine Below.drew ?_ | with_reducible refine Bel_drewN ?_ _ | with_reducible refine Below.alloc ?_ (by first | omega | (simp; done) | (simp; omega)) _ | with_reducible refine Below.setCell ?_ (by first | omega | (simp; done) | (simp; omega)) _))⟩)
  clear hW
  refine ((implValidShare_any vs cs _ HX.out.2.2 ao bo c d _ (HX.out.1.below H0.out.2) (HX.out.2.1.below H0.out.2) (by omega) (by omega)).mono fun e w1 h => Bo.yes HS.out h).mono ?_
  rintro e w1 ⟨rfl, hb⟩
  have H1 := Lib.hid (H0.out.below hb)
  clear hb H0
  obtain ⟨hc0, hf0⟩ := H1.out.1.facts
  go_wp2
  go_loopw [4, 13] (fun s i wr => ∃ k : Nat, k ≤ vs.length ∧ i = .int .i64 k ∧ ∃ r q, s = .float .f32 r ∧ Fv .f32 (entA cs k) r ∧ wr = w1.drewN q) (fun _ i _ => vs.length - (intOf i).toNat)
  case atStart => exact ⟨0, Nat.zero_le _, rfl, 0, 0, rfl, Fv_zero _, rfl⟩
  case round =>
    obtain ⟨k, hk, rfl, r, q, rfl, hr, rfl⟩ := hrel
    have HR := Lib.hid hr
    clear hr
    by_cases hlt : k < vs.length
    · have hltc : k < cs.length := by rw [HX.out.2.2]; exact hlt
      obtain ⟨b', o', rfl, hc'⟩ := (HX.out.2.1.below H1.out.2) k (by simpa [fl] using hltc)
      rw [fl_get _ _ _ hltc] at hc'
      have HF := Lib.hid (HS.out.cfin k hlt)
      have HY := Lib.hid (And.intro (@entA_yes cs k) (@entA_no cs k))
      generalize cs[k]?.getD 0 = y at hc' HF HY
      clear hltc
      cases hg : gtB y 0 with
      | true =>
        have HG := Lib.hid hg
        have hg' := gt_factB hg
        clear hg
        go_wp2_with (first | (go_at_call 74; fail))
        refine (implLog_pos y HF.out HG.out _).mono ?_
        rintro e w' ⟨n2, rfl, rfl⟩
        go_wp2_with (first | (refine wpList_farith (dst := some 23) _ _ _ _ _ .f32 _ _ rfl rfl rfl ?_; intro d1 n1 hd1) | (refine wpList_farith (dst := some 24) _ _ _ _ _ .f32 _ _ rfl rfl rfl ?_; intro d2 n2 hd2) | (refine wpList_farith (dst := some 25) _ _ _ _ _ .f32 _ _ rfl rfl rfl ?_; intro d3 n3 hd3))
        go_roundw
        case rel => exact ⟨k + 1, by omega, by go_num, d3, _, rfl, by rw [HY.out.1 HG.out, ← HR.out.2, ← hd1.2, ← hd2.2]; exact hd3, rfl⟩
        case measure => simp [intOf]; omega
      | false =>
        have HG := Lib.hid hg
        have hg' := gt_factB hg
        clear hg
        go_wp2
        go_roundw
        case rel => exact ⟨k + 1, by omega, by go_num, r, _, rfl, by rw [HY.out.2 HG.out]; exact HR.out, rfl⟩
        case measure => simp [intOf]; omega
    · obtain rfl : k = vs.length := by omega
      go_wp2
      go_ret2
      exact ⟨_, rfl, Fv_ng HR.out, Bel_drewN H1.out.2 _⟩
set_option maxRecDepth 100000 in
set_option maxHeartbeats 1000000 in
theorem implEnt_no (vs cs : List Nat) (m : Nat) (hm : cs.length = m) (ao bo : Option Addr) (c d : Nat) (w : World) (hx : Holds w ao (fl .f32 vs)) (hy : Holds w bo (fl .f32 cs)) (hlen : vs.length ≤ 1048576) (hml : m ≤ 1048576) (hS : ¬ isShr vs cs) :
    Calls Try.prog 36 #[.agg #[.slice ao vs.length c, .slice bo m d]] w (RetB (.tuple #[.float .f32 0, .bool false]) w) := by
  have HX := Lib.hid (And.intro hx (And.intro hy hm))
  have HS := Lib.hid hS
  clear hx hy hm hS
  go_enter Try.func36, Try.ntmps36
  go_wp2_with (first | (go_at_call 18; fail))
  generalize hW : World.alloc _ _ = w0
  have H0 : Hid (Below w.heap.size w w0) := Lib.hid (by rw [← hW]; exact (by repeat (first | with_reducible exact Below.refl _ _ | with_reducible exact HBL | with_reducible refine Below.drew ?_ | with_reducible refine Bel_drewN ?_ _ | with_reducible refine Below.alloc ?_ (by first | omega | (simp; done) | (simp; omega)) _ | with_reducible refine Below.setCell ?_ (by first | omega | (simp; done) | (simp; omega)) _)))
  clear hW
  refine ((implValidShare_any vs cs _ HX.out.2.2 ao bo c d _ (HX.out.1.below H0.out) (HX.out.2.1.below H0.out) (by omega) (by omega)).mono fun e w1 h => Bo.no HS.out h).mono ?_
  rintro e w1 ⟨rfl, hb⟩
  have H1 := Lib.hid (Bel_next H0.out hb)
  clear hb H0
  go_wp2
  go_ret2
  exact ⟨rfl, H1.out⟩
set_option maxRecDepth 100000 in
set_option maxHeartbeats 2000000 in
theorem specEnt_yes (vs cs : List Nat) (m : Nat) (hm : cs.length = m) (ao bo : Option Addr) (c d : Nat) (w : World) (hx : Holds w ao (fl .f32 vs)) (hy : Holds w bo (fl .f32 cs)) (hS : isShr vs cs) :
    Calls Try.prog 35 #[.agg #[.slice ao vs.length c, .slice bo m d]] w (RetF (fun r => .tuple #[.float .f32 r, .bool true]) (entV vs cs) w) := by
  have HX := Lib.hid (And.intro hx (And.intro hy hm))
  obtain rfl : m = vs.length := by have := hS.2.1; omega
  have h64 : vs.length ≤ 64 := hS.1
  have HS := Lib.hid hS
  clear hx hy hm hS
  go_enter Try.func35, Try.ntmps35
  go_wp2_with (first | (go_at_call 49; fail))
  generalize hW : World.alloc _ _ = w0
  have H0 : Hid (ShrBox w w0 ao bo vs.length c d) := Lib.hid (by rw [← hW]; exact ⟨Whole.made _ _ _, (by repeat (first | with_reducible exact Below.refl _ _ | with_reducible exact HBL | with_reducible refine Below.drew ?_ | with_reducible refine Bel_drewN ?_ _ | with_reducible refine Below.alloc ?_ (by first | omega | (simp; done) | (simp; omega)) _ | with_reducible refine Below.setCell ?_ (by first | omega | (simp; done) | (simp; omega)) _))⟩)
  clear hW
  refine ((l05Is_any vs cs _ HX.out.2.2 ao bo c d _ _ H0.out.1 (HX.out.1.below H0.out.2) (HX.out.2.1.below H0.out.2) (by omega) (by omega)).mono fun e w1 h => BoD.yes HS.out h).mono ?_
  rintro e w1 ⟨n, rfl, rfl⟩
  obtain ⟨hc0, hf0⟩ := H0.out.1.facts
  go_wp2
  go_loopw [4, 11] (fun s i wr => ∃ k : Nat, k ≤ vs.length ∧ i = .int .i64 k ∧ ∃ r q, s = .float .f32 r ∧ Fv .f32 (entA cs k) r ∧ wr = w0.drewN q) (fun _ i _ => vs.length - (intOf i).toNat)
  case atStart => exact ⟨0, Nat.zero_le _, rfl, 0, n, rfl, Fv_zero _, rfl⟩
  case round =>
    obtain ⟨k, hk, rfl, r, q, rfl, hr, rfl⟩ := hrel
    have HR := Lib.hid hr
    clear hr
    by_cases hlt : k < vs.length
    · have hltc : k < cs.length := by rw [HX.out.2.2]; exact hlt
      obtain ⟨b', o', rfl, hc'⟩ := (HX.out.2.1.below H0.out.2) k (by simpa [fl] using hltc)
      rw [fl_get _ _ _ hltc] at hc'
      have HF := Lib.hid (HS.out.cfin k hlt)
      have HY := Lib.hid (And.intro (@entA_yes cs k) (@entA_no cs k))
      generalize cs[k]?.getD 0 = y at hc' HF HY
      clear hltc
      cases hg : gtB y 0 with
      | true =>
        have HG := Lib.hid hg
        have hg' := gt_factB hg
        clear hg
        go_wp2
        refine wp_region_lex (C := Cw (w0.drewN q)) (by kernel_rfl) (by kernel_rfl) ⟨1, rfl⟩ ?_
        repeat (first
          | (apply lex_move rfl (.inl rfl); (focus (simp [go_sem]; rfl)))
          | (apply lex_move rfl (.inr rfl); (focus (simp [go_sem]; rfl)))
          | (apply lex_farith (dst := some 32) _ _ _ _ _ .f32 _ _ rfl rfl rfl; (focus (intro r; simp [go_sem]; rfl)); intro d1 hd1)
          | (apply lex_farith (dst := some 33) _ _ _ _ _ .f32 _ _ rfl rfl rfl; (focus (intro r; simp [go_sem]; rfl)); intro d2 hd2)
          | (apply lex_farith (dst := some 34) _ _ _ _ _ .f32 _ _ rfl rfl rfl; (focus (intro r; simp [go_sem]; rfl)); intro d3 hd3)
          | (apply lex_fn (.float .f32 (lgP y)); (focus kernel_rfl); (focus (intro m; go_simp; rfl)); (focus (intro m; refine Calls.mono (specLog_pos y HF.out HG.out _) ?_; rintro e w' ⟨q', rfl, rfl⟩; exact ⟨rfl, m + q', by simp [Nat.add_assoc]⟩)); (focus (simp [go_sem]; rfl)))
          | (apply lex_pure rfl; (focus (intro m; go_simp; rfl)); (focus (simp [go_sem]; rfl))))
        refine lex_nil ?_
        rintro _ ⟨m, rfl⟩
        go_wp2
        go_roundw
        case rel => exact ⟨k + 1, by omega, by go_num, d3, _, rfl, by rw [HY.out.1 HG.out, ← HR.out.2, ← hd1.2, ← hd2.2]; exact hd3, rfl⟩
        case measure => simp [intOf]; omega
      | false =>
        have HG := Lib.hid hg
        have hg' := gt_factB hg
        clear hg
        go_wp2
        go_roundw
        case rel => exact ⟨k + 1, by omega, by go_num, r, _, rfl, by rw [HY.out.2 HG.out]; exact HR.out, rfl⟩
        case measure => simp [intOf]; omega
    · obtain rfl : k = vs.length := by omega
      go_wp2
      go_ret2
      exact ⟨_, rfl, Fv_ng HR.out, Bel_drewN H0.out.2 _⟩
set_option maxRecDepth 100000 in
set_option maxHeartbeats 1000000 in
theorem specEnt_no (vs cs : List Nat) (m : Nat) (hm : cs.length = m) (ao bo : Option Addr) (c d : Nat) (w : World) (hx : Holds w ao (fl .f32 vs)) (hy : Holds w bo (fl .f32 cs)) (hlen : vs.length ≤ 1048576) (hml : m ≤ 1048576) (hS : ¬ isShr vs cs) :
    Calls Try.prog 35 #[.agg #[.slice ao vs.length c, .slice bo m d]] w (RetB (.tuple #[.float .f32 0, .bool false]) w) := by
  have HX := Lib.hid (And.intro hx (And.intro hy hm))
  have HS := Lib.hid hS
  clear hx hy hm hS
  go_enter Try.func35, Try.ntmps35
  go_wp2_with (first | (go_at_call 49; fail))
  generalize hW : World.alloc _ _ = w0
  have H0 : Hid (Whole w0 w.heap.size 27 #[.slice ao vs.length c, .slice bo m d] ∧ Below w.heap.size w w0) := Lib.hid (by rw [← hW]; exact ⟨Whole.made _ _ _, (by repeat (first | with_reducible exact Below.refl _ _ | with_reducible exact HBL | with_reducible refine Below.drew ?_ | with_reducible refine Bel_drewN ?_ _ | with_reducible refine Below.alloc ?_ (by first | omega | (simp; done) | (simp; omega)) _ | with_reducible refine Below.setCell ?_ (by first | omega | (simp; done) | (simp; omega)) _))⟩)
  clear hW
  refine ((l05Is_any vs cs _ HX.out.2.2 ao bo c d _ _ H0.out.1 (HX.out.1.below H0.out.2) (HX.out.2.1.below H0.out.2) (by omega) (by omega)).mono fun e w1 h => BoD.no HS.out h).mono ?_
  rintro e w1 ⟨n, rfl, rfl⟩
  go_wp2
  go_ret2
  exact ⟨rfl, Bel_drewN H0.out.2 _⟩
end Go.Proofs.Ytjnnfiimimmmnaa
