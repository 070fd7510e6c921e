/- Shares that are the same. -/
import Derived.Test.YtekoahhdbafpmaaShr
namespace Go.Proofs.Ytekoahhdbafpmaa
open Go Go.RowKit Fl Vag
set_option linter.unusedVariables false

/-- Lists of numbers that are the same, one after another. -/
def sameL (xs us : List Nat) : Prop := xs.length = us.length ∧ ∀ i, i < xs.length → bitsA (av .f32 (xs[i]?.getD 0)) = bitsA (av .f32 (us[i]?.getD 0))
def BoS (p : Prop) (w : World) (e : Ending) (w' : World) : Prop := ∃ b, e = .returned (.bool b) ∧ (b = true ↔ p) ∧ w = w'
theorem BoS.mk {p : Prop} {w : World} (b : Bool) (h : b = true ↔ p) : BoS p w (.returned (.bool b)) w := ⟨b, rfl, h, rfl⟩
def wfl (xs : List Nat) : Prop := ∀ x ∈ xs, (Lit.float .f32 x).wf = true
theorem wfl_at {xs : List Nat} (h : wfl xs) {i : Nat} (hi : i < xs.length) : Fv .f32 (av .f32 (xs[i]?.getD 0)) (xs[i]?.getD 0) := by
  have hm : xs[i]?.getD 0 ∈ xs := by simp [hi]
  have := h _ hm
  have h2 : xs[i]?.getD 0 < 2 ^ 32 := by simpa [Lit.wf] using this
  exact ⟨h2, rfl⟩
theorem beq_bits (u v : Option Nat) : ((bitsA u : Int) == (bitsA v : Int)) = decide (bitsA u = bitsA v) := by
  by_cases h : bitsA u = bitsA v
  · rw [decide_eq_true h, h]; simp
  · rw [decide_eq_false h]; simp; omega
set_option maxRecDepth 100000 in
set_option maxHeartbeats 1000000 in
theorem equalF_any (xs us : List Nat) (ao bo : Option Addr) (c d : Nat) (w : World) (hx : Holds w ao (fl .f32 xs)) (hy : Holds w bo (fl .f32 us)) (hlen : xs.length ≤ 1048576) (hlen2 : us.length ≤ 1048576) (hw1 : wfl xs) (hw2 : wfl us) :
    Calls Try.prog 39 #[.slice ao xs.length c, .slice bo us.length d, .func (.func 40) #[] #[]] w (BoS (sameL xs us) w) := by
  have HX := Lib.hid (And.intro (And.intro hx hy) (And.intro hw1 hw2))
  clear hx hy hw1 hw2
  by_cases he : xs.length = us.length
  · have HE := Lib.hid he
    have he' : (us.length : Int) = xs.length := by omega
    obtain ⟨m, hm⟩ : ∃ m, m = us.length := ⟨_, rfl⟩
    obtain rfl : m = xs.length := by omega
    rw [← hm]
    clear he he' hm
    go_enter Try.func39, Try.ntmps39
    go_wp2
    go_loopw [17] (fun i wr => ∃ k : Nat, k ≤ xs.length ∧ i = .int .i64 k ∧ (∀ j, j < k → bitsA (av .f32 (xs[j]?.getD 0)) = bitsA (av .f32 (us[j]?.getD 0))) ∧ wr = w) (fun i _ => xs.length - (intOf i).toNat)
    case atStart => exact ⟨0, Nat.zero_le _, rfl, fun j hj => absurd hj (Nat.not_lt_zero _), rfl⟩
    case round =>
      obtain ⟨k, hk, rfl, hall, rfl⟩ := hrel
      have HA := Lib.hid hall
      clear hall
      by_cases hlt : k < xs.length
      · have hlt2 : k < us.length := by rw [← HE.out]; exact hlt
        obtain ⟨b, o, rfl, hc⟩ := HX.out.1.1 k (by simpa [fl] using hlt)
        obtain ⟨b', o', rfl, hc'⟩ := HX.out.1.2 k (by simpa [fl] using hlt2)
        rw [fl_get _ _ _ hlt] at hc
        rw [fl_get _ _ _ hlt2] at hc'
        have HF := Lib.hid (And.intro (wfl_at HX.out.2.1 hlt) (wfl_at HX.out.2.2 hlt2))
        obtain ⟨x, hx⟩ : ∃ x, x = xs[k]?.getD 0 := ⟨_, rfl⟩
        obtain ⟨y, hy⟩ : ∃ y, y = us[k]?.getD 0 := ⟨_, rfl⟩
        rw [← hx] at hc HF
        rw [← hy] at hc' HF
        have HY := Lib.hid (And.intro hx hy)
        clear hx hy hlt2
        go_wp2_with (first | (go_at_call 40; fail))
        refine (SameNumber_any x y _ _ HF.out.1 HF.out.2 _).mono ?_
        rintro e w' ⟨rfl, rfl⟩
        rw [beq_bits]
        by_cases hb : bitsA (av .f32 x) = bitsA (av .f32 y)
        · have HB := Lib.hid hb
          rw [decide_eq_true hb]
          clear hb
          go_wp2
          go_roundw
          case rel =>
            refine ⟨k + 1, by omega, by go_num, fun j hj => ?_, trivial⟩
            by_cases e : j = k
            · subst e; rw [← HY.out.1, ← HY.out.2]; exact HB.out
            · exact HA.out j (by omega)
          case measure => simp [intOf]; omega
        · have HB := Lib.hid hb
          rw [decide_eq_false hb]
          clear hb
          go_wp2
          go_ret
          refine BoS.mk _ (falseIs fun h => HB.out ?_)
          have := h.2 k hlt
          rw [← HY.out.1, ← HY.out.2] at this
          exact this
      · obtain rfl : k = xs.length := by omega
        go_wp2
        go_ret
        exact BoS.mk _ ⟨fun _ => ⟨HE.out, HA.out⟩, fun _ => rfl⟩
  · have hne : ((xs.length : Int) != (us.length : Int)) = true := by simp; omega
    have HN := Lib.hid he
    clear he
    go_enter Try.func39, Try.ntmps39
    go_wp2
    go_ret
    exact BoS.mk _ (falseIs fun h => HN.out h.1)
set_option maxRecDepth 100000 in
set_option maxHeartbeats 1000000 in
theorem l01SameAll_any (xs us : List Nat) (ao bo : Option Addr) (c d : Nat) (w : World) (hx : Holds w ao (fl .f32 xs)) (hy : Holds w bo (fl .f32 us)) (hlen : xs.length ≤ 1048576) (hlen2 : us.length ≤ 1048576) (hw1 : wfl xs) (hw2 : wfl us) :
    Calls Try.prog 35 #[.slice ao xs.length c, .slice bo us.length d] w (BoD (sameL xs us) w) := by
  have HX := Lib.hid (And.intro (And.intro hx hy) (And.intro hw1 hw2))
  clear hx hy hw1 hw2
  by_cases he : xs.length = us.length
  · have HE := Lib.hid he
    obtain ⟨m, hm⟩ : ∃ m, m = us.length := ⟨_, rfl⟩
    obtain rfl : m = xs.length := by omega
    rw [← hm]
    clear he hm
    go_enter Try.func35, Try.ntmps35
    go_wp2
    go_loopw [5] (fun i wr => ∃ k : Nat, k ≤ xs.length ∧ i = .int .i64 k ∧ (∀ j, j < k → bitsA (av .f32 (xs[j]?.getD 0)) = bitsA (av .f32 (us[j]?.getD 0))) ∧ ∃ n, wr = w.drewN n) (fun i _ => xs.length - (intOf i).toNat)
    case atStart => exact ⟨0, Nat.zero_le _, rfl, fun j hj => absurd hj (Nat.not_lt_zero _), 0, rfl⟩
    case round =>
      obtain ⟨k, hk, rfl, hall, n, hwr⟩ := hrel
      have HA := Lib.hid hall
      have HW := Lib.hid (show ∃ n, wr = w.drewN n from ⟨n, hwr⟩)
      have hbel : Below w.heap.size w wr := by rw [hwr]; exact Bel_drewN (Below.refl _ _) _
      clear hall hwr
      by_cases hlt : k < xs.length
      · have hlt2 : k < us.length := by rw [← HE.out]; exact hlt
        obtain ⟨b, o, rfl, hc⟩ := (Holds.below HX.out.1.1 hbel) k (by simpa [fl] using hlt)
        obtain ⟨b', o', rfl, hc'⟩ := (Holds.below HX.out.1.2 hbel) k (by simpa [fl] using hlt2)
        rw [fl_get _ _ _ hlt] at hc
        rw [fl_get _ _ _ hlt2] at hc'
        have HF := Lib.hid (And.intro (wfl_at HX.out.2.1 hlt) (wfl_at HX.out.2.2 hlt2))
        obtain ⟨x, hx⟩ : ∃ x, x = xs[k]?.getD 0 := ⟨_, rfl⟩
        obtain ⟨y, hy⟩ : ∃ y, y = us[k]?.getD 0 := ⟨_, rfl⟩
        rw [← hx] at hc HF
        rw [← hy] at hc' HF
        have HY := Lib.hid (And.intro hx hy)
        clear hx hy hlt2
        by_cases hb : bitsA (av .f32 x) = bitsA (av .f32 y)
        · have HB := Lib.hid hb
          have HC : Hid (∀ v, Calls Try.prog 57 #[.float .f32 x, .float .f32 y] v (fun e w' => e = .returned (.bool true) ∧ v = w')) := Lib.hid (fun v => by have h := l01Same_any x y _ _ HF.out.1 HF.out.2 v; rw [beq_bits, decide_eq_true hb] at h; exact h)
          clear hb
          go_wp2_with fail
          go_quiet (first | (go_at_call 57; exact quiet_same (HC.out _)))
          go_wp2
          go_roundw
          case rel =>
            refine ⟨k + 1, by omega, by go_num, fun j hj => ?_, drewn_more HW.out _⟩
            by_cases e : j = k
            · subst e; rw [← HY.out.1, ← HY.out.2]; exact HB.out
            · exact HA.out j (by omega)
          case measure => simp [intOf]; omega
        · have HB := Lib.hid hb
          have HC : Hid (∀ v, Calls Try.prog 57 #[.float .f32 x, .float .f32 y] v (fun e w' => e = .returned (.bool false) ∧ v = w')) := Lib.hid (fun v => by have h := l01Same_any x y _ _ HF.out.1 HF.out.2 v; rw [beq_bits, decide_eq_false hb] at h; exact h)
          clear hb
          go_wp2_with fail
          go_quiet (first | (go_at_call 57; exact quiet_same (HC.out _)))
          go_wp2
          go_ret
          refine BoD.of _ (falseIs fun h => HB.out ?_) (drewn_more HW.out _)
          have := h.2 k hlt
          rw [← HY.out.1, ← HY.out.2] at this
          exact this
      · obtain rfl : k = xs.length := by omega
        go_wp2
        go_ret
        exact BoD.of _ ⟨fun _ => ⟨HE.out, HA.out⟩, fun _ => rfl⟩ HW.out
  · have hne : ((xs.length : Int) != (us.length : Int)) = true := by simp; omega
    have HN := Lib.hid he
    clear he
    go_enter Try.func35, Try.ntmps35
    go_wp2
    go_ret
    exact BoD.mk _ 0 (falseIs fun h => HN.out h.1)
/-- Two shares that are the same. -/
def same2 (xs ys us vs : List Nat) : Prop := sameL xs us ∧ sameL ys vs
end Go.Proofs.Ytekoahhdbafpmaa
