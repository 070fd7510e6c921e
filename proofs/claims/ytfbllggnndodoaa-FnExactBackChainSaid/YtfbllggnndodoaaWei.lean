/- Rows of numbers greater than 0: both sides. -/
import Derived.Test.YtfbllggnndodoaaFit
namespace Go.Proofs.Ytfbllggnndodoaa
open Go Go.RowKit Fl Vag
set_option linter.unusedVariables false

/-- The lesser one of two numbers. -/
def minF (x y : Nat) : Nat := if fK x < fK y then x else if fK y < fK x then y else if (Ieee.single.read x).neg then x else y
theorem minF_run {P : Program} {x y : Nat} (hx : av .f32 x = some x) (hy : av .f32 y = some y) (ts : Array TypeId) (t : TypeId) (w : World) : (Builtin.min_ ts t #[.float .f32 x, .float .f32 y]).run P w = .ok (.float .f32 (minF x y)) w := by
  have ho := order_K hx hy
  unfold minF
  rcases Int.lt_trichotomy (fK x) (fK y) with e | e | e
  · rw [if_pos e]
    have ho' : FloatKind.f32.format.order x y = some .lt := by rw [ho, compare_int, if_pos e]
    simp [Builtin.min_, Builtin.min2, ho']
  · rw [if_neg (by omega), if_neg (by omega)]
    have ho' : FloatKind.f32.format.order x y = some .eq := by rw [ho, compare_int, if_neg (by omega), if_pos e]
    have hd : (FloatKind.f32.decode x).neg = (Ieee.single.read x).neg := rfl
    cases hn : (Ieee.single.read x).neg with
    | true => rw [hn] at hd; simp [Builtin.min_, Builtin.min2, ho', hd]
    | false => rw [hn] at hd; simp [Builtin.min_, Builtin.min2, ho', hd]
  · rw [if_neg (by omega), if_pos e]
    have ho' : FloatKind.f32.format.order x y = some .gt := by rw [ho, compare_int, if_neg (by omega), if_neg (by omega)]
    simp [Builtin.min_, Builtin.min2, ho']
theorem minF_or (x y : Nat) : (minF x y = x ∧ fK x ≤ fK y) ∨ (minF x y = y ∧ fK y ≤ fK x) := by
  unfold minF
  split
  · exact .inl ⟨rfl, by omega⟩
  · split
    · exact .inr ⟨rfl, by omega⟩
    · split
      · exact .inl ⟨rfl, by omega⟩
      · exact .inr ⟨rfl, by omega⟩
theorem av_zero32 : av .f32 0 = some 0 := by decide +kernel
theorem gt0_K {x : Nat} (hx : av .f32 x = some x) : gtB x 0 = decide (fK 0 < fK x) := gtB_K hx av_zero32
theorem minF_gt {x y : Nat} (hx : av .f32 x = some x) (hy : av .f32 y = some y) : gtB (minF x y) 0 = true ↔ gtB x 0 = true ∧ gtB y 0 = true := by
  rcases minF_or x y with ⟨e, h⟩ | ⟨e, h⟩
  · rw [e, gt0_K hx, gt0_K hy]; simp; omega
  · rw [e, gt0_K hx, gt0_K hy]; simp; omega
def gts (xs : List Nat) (k : Nat) : Prop := ∀ i, i < k → gtB (xs[i]?.getD 0) 0 = true
theorem gts_next {xs : List Nat} {k : Nat} : gts xs (k + 1) ↔ gts xs k ∧ gtB (xs[k]?.getD 0) 0 = true := by
  refine ⟨fun h => ⟨fun i hi => h i (by omega), h k (by omega)⟩, fun h i hi => ?_⟩
  by_cases e : i = k
  · subst e; exact h.2
  · exact h.1 i (by omega)
/-- The chain is valid, and the row one of weights for it. -/
def weighed (s : Int) (ss xs : List Nat) : Prop := fits s ss xs ∧ gts xs xs.length
set_option maxRecDepth 100000 in
set_option maxHeartbeats 1000000 in
theorem minOf_any (xs : List Nat) (n : Nat) (hn : xs.length = n) (ao : Option Addr) (c : Nat) (w : World) (hx : Holds w ao (fl .f32 xs)) (h1 : 1 ≤ n) (hlen : n ≤ 1048576) (hf : fins xs) :
    Calls Try.prog 92 #[.slice ao n c] w (fun e w' => ∃ r, e = .returned (.float .f32 r) ∧ (gtB r 0 = true ↔ gts xs n) ∧ w = w') := by
  obtain ⟨b, o, rfl⟩ := hx.at (by rw [fl_len32]; omega)
  have HX := Lib.hid (And.intro hx (And.intro hn hf))
  obtain ⟨b', o', e', hc0⟩ := hx 0 (by rw [fl_len32]; omega)
  cases e'
  rw [fl_get _ _ _ (by omega)] at hc0
  rw [Nat.add_zero] at hc0
  have H0 : Hid (av .f32 (xs[0]?.getD 0) = some (xs[0]?.getD 0) ∧ (gtB (xs[0]?.getD 0) 0 = true ↔ gts xs 1)) := Lib.hid ⟨fin_self (hf 0 (by omega)), ⟨fun h i hi => (by obtain rfl : i = 0 := (by omega); exact h), fun h => h 0 (by omega)⟩⟩
  generalize xs[0]?.getD 0 = x0 at hc0 H0
  have h1' : (1 : Int) ≤ n := by omega
  clear hx hn hf
  go_enter Try.func92, Try.ntmps92
  go_wp2_with fail
  go_loopw [3, 4] (fun v i wr => ∃ (k m : Nat), 1 ≤ k ∧ k ≤ n ∧ i = .int .i64 k ∧ v = .float .f32 m ∧ av .f32 m = some m ∧ (gtB m 0 = true ↔ gts xs k) ∧ wr = w) (fun _ i _ => n - (intOf i).toNat)
  case atStart => exact ⟨1, x0, Nat.le_refl _, h1, rfl, rfl, H0.out.1, H0.out.2, rfl⟩
  case round =>
    obtain ⟨k, m, hk1, hk, rfl, rfl, hav, hgt, rfl⟩ := hrel
    have HM := Lib.hid (And.intro hav hgt)
    have hkn : (k : Int) ≤ n := by omega
    clear hav hgt hc0 H0
    by_cases hlt : k < n
    · have hlt' : (k : Int) < n := by omega
      obtain ⟨b', o', e', hc⟩ := HX.out.1 k (by rw [fl_len32, HX.out.2.1]; exact hlt)
      cases e'
      rw [fl_get _ _ _ (by rw [HX.out.2.1]; exact hlt)] at hc
      have HV := Lib.hid (show av .f32 (xs[k]?.getD 0) = some (xs[k]?.getD 0) from fin_self (HX.out.2.2 k (by rw [HX.out.2.1]; exact hlt)))
      have HG : Hid (gts xs (k + 1) ↔ gts xs k ∧ gtB (xs[k]?.getD 0) 0 = true) := Lib.hid gts_next
      generalize xs[k]?.getD 0 = x at hc HV HG
      have hmin : ∀ ts t w, (Builtin.min_ ts t #[.float .f32 m, .float .f32 x]).run Try.prog w = .ok (.float .f32 (minF m x)) w := fun ts t w => minF_run HM.out.1 HV.out ts t w
      have HR : Hid (av .f32 (minF m x) = some (minF m x) ∧ (gtB (minF m x) 0 = true ↔ gts xs (k + 1))) := Lib.hid ⟨by
        rcases minF_or m x with ⟨e, _⟩ | ⟨e, _⟩
        · rw [e]; exact HM.out.1
        · rw [e]; exact HV.out, by rw [minF_gt HM.out.1 HV.out, HG.out, HM.out.2]⟩
      generalize minF m x = r at hmin HR
      go_wp2_with fail
      go_roundw
      case rel => exact ⟨k + 1, r, by omega, by omega, by go_num, rfl, HR.out.1, HR.out.2, trivial⟩
      case measure => simp [intOf]; omega
    · obtain rfl : k = n := by omega
      go_wp2_with fail
      go_ret
      exact ⟨m, rfl, HM.out.2, rfl⟩
set_option maxRecDepth 100000 in
set_option maxHeartbeats 1000000 in
theorem isWeighed_any (s : Int) (ss xs : List Nat) (m k : Nat) (hm : ss.length = m) (hk : xs.length = k) (ao bo : Option Addr) (c d : Nat) (w : World) (hs : Holds w ao (fl .f32 ss)) (hx : Holds w bo (fl .f32 xs)) (hlen : m ≤ 1048576) (hlk : k ≤ 1048576) (hc : m ≤ c) :
    Calls Try.prog 82 #[.agg #[.int .i64 s, .slice ao m c], .slice bo k d] w (Bo (weighed s ss xs) w) := by
  have HX := Lib.hid (And.intro hs (And.intro hx (And.intro hm hk)))
  have hc0 : Whole (w.alloc (.cells #[.int .i64 s, .slice ao m c] 27)) w.heap.size 27 #[.int .i64 s, .slice ao m c] := Whole.made _ _ _
  have H0 : Hid (ChBox w (w.alloc (.cells #[.int .i64 s, .slice ao m c] 27)) s ao m c) := Lib.hid ⟨hc0, (by repeat (first | with_reducible exact Below.refl _ _ | with_reducible exact HBL | with_reducible refine Below.drew ?_ | with_reducible refine Bel_drewN ?_ _ | with_reducible refine Below.alloc ?_ (by first | omega | (simp; done) | (simp; omega)) _ | with_reducible refine Below.setCell ?_ (by first | omega | (simp; done) | (simp; omega)) _))⟩
  clear hs hx hm hk hc0
  go_enter Try.func82, Try.ntmps82
  go_wp2_with (first | (go_at_call 68; fail))
  refine (isChainWith_any s ss xs m k HX.out.2.2.1 HX.out.2.2.2 ao bo c d _ (HX.out.1.below H0.out.2) (HX.out.2.1.below H0.out.2) hlen hlk hc).mono ?_
  rintro e w1 ⟨b, rfl, hb, hw1⟩
  have H1 := Lib.hid (And.intro hb (Bel_next H0.out.2 hw1))
  clear hb hw1 H0
  cases b with
  | false =>
    go_wp2_with (first | (go_at_call 92; fail))
    go_ret
    exact Bo.mk _ (falseIs fun h => by have := H1.out.1.2 h.1; cases this) H1.out.2
  | true =>
    have hfit := H1.out.1.1 rfl
    have HF := Lib.hid hfit
    have hk1 : 1 ≤ k := by have := hfit.2.1.1.1; have := HX.out.2.2.2; omega
    clear hfit
    go_wp2_with (first | (go_at_call 92; fail))
    refine (minOf_any xs k HX.out.2.2.2 bo d _ (HX.out.2.1.below H1.out.2) hk1 hlk (least_fins HF.out.2.1.2)).mono ?_
    rintro e w' ⟨r, rfl, hr, rfl⟩
    have HR := Lib.hid hr
    clear hr
    cases hg : gtB r 0 with
    | true =>
      have hg' := gt_factB hg
      have HG := Lib.hid (HR.out.1 hg)
      clear hg
      go_wp2_with fail
      go_ret
      exact Bo.mk _ ⟨fun _ => ⟨HF.out, by rw [HX.out.2.2.2]; exact HG.out⟩, fun _ => rfl⟩ H1.out.2
    | false =>
      have hg' := gt_factB hg
      have HG := Lib.hid (show ¬ gts xs k from fun h => by have := HR.out.2 h; rw [hg] at this; cases this)
      clear hg
      go_wp2_with fail
      go_ret
      exact Bo.mk _ (falseIs fun h => HG.out (by have := h.2; rw [HX.out.2.2.2] at this; exact this)) H1.out.2
set_option maxRecDepth 100000 in
theorem l07Above_any (xs : List Nat) (n : Nat) (hn : xs.length = n) (ao : Option Addr) (c : Nat) (w : World) (hx : Holds w ao (fl .f32 xs)) (hlen : n ≤ 1048576) :
    Calls Try.prog 81 #[.slice ao n c] w (BoS (gts xs xs.length) w) := by
  subst hn
  have HX := Lib.hid hx
  clear hx
  go_enter Try.func81, Try.ntmps81
  go_wp2
  go_loopw [6] (fun i wr => ∃ k : Nat, k ≤ xs.length ∧ i = .int .i64 k ∧ gts xs k ∧ wr = w) (fun i _ => xs.length - (intOf i).toNat)
  case atStart => exact ⟨0, Nat.zero_le _, rfl, fun j hj => absurd hj (Nat.not_lt_zero _), rfl⟩
  case round =>
    obtain ⟨k, hk, rfl, hall, rfl⟩ := hrel
    have HA := Lib.hid hall
    clear hall
    by_cases hlt : k < xs.length
    · obtain ⟨b, o, rfl, hc⟩ := HX.out k (by simpa [fl] using hlt)
      rw [fl_get _ _ _ hlt] at hc
      obtain ⟨x, hx⟩ : ∃ x, x = xs[k]?.getD 0 := ⟨_, rfl⟩
      rw [← hx] at hc
      have HE := Lib.hid hx
      clear hx
      cases hf : gtB x 0 with
      | true =>
        have HF := Lib.hid hf
        have hf' := gt_factB hf
        clear hf
        go_wp2
        go_roundw
        case rel => exact ⟨k + 1, by omega, by go_num, gts_next.2 ⟨HA.out, by rw [← HE.out]; exact HF.out⟩, trivial⟩
        case measure => simp [intOf]; omega
      | false =>
        have HF := Lib.hid hf
        have hf' := gt_factB hf
        clear hf
        go_wp2
        go_ret
        refine BoS.mk _ (falseIs fun h => ?_)
        have := h k hlt
        rw [← HE.out, HF.out] at this
        cases this
    · obtain rfl : k = xs.length := by omega
      go_wp2
      go_ret
      exact BoS.mk _ ⟨fun _ => HA.out, fun _ => rfl⟩
end Go.Proofs.Ytfbllggnndodoaa
