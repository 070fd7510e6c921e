/- How many values are at most x. -/
import Derived.Test.YtjnnfiimimmmnaaShr
namespace Go.Proofs.Ytjnnfiimimmmnaa
open Go Go.RowKit Fl Vag
set_option linter.unusedVariables false

/-- The key of a value of a list. -/
def vK (vs : List Nat) (i : Nat) : Int := fK (vs[i]?.getD 0)
theorem fin_at {vs : List Nat} (h : fins vs) {i : Nat} (hi : i < vs.length) : av .f32 (vs[i]?.getD 0) = some (vs[i]?.getD 0) := fin_self (h i hi)
theorem vK_next {vs : List Nat} (hf : fins vs) (hu : ups vs) (i : Nat) (h : i + 1 < vs.length) : vK vs i < vK vs (i + 1) := by
  have h1 := hu i h
  rw [leB_K (fin_at hf h) (fin_at hf (by omega))] at h1
  have := of_decide_eq_false h1
  unfold vK; omega
theorem vK_lt {vs : List Nat} (hf : fins vs) (hu : ups vs) (i : Nat) : ∀ j, i < j → j < vs.length → vK vs i < vK vs j
  | 0, h, _ => absurd h (Nat.not_lt_zero _)
  | j + 1, h, hl => by
    have h1 := vK_next hf hu j hl
    by_cases e : i = j
    · subst e; exact h1
    · exact Int.lt_trans (vK_lt hf hu i j (by omega) (by omega)) h1
theorem vK_le {vs : List Nat} (hf : fins vs) (hu : ups vs) {i j : Nat} (h : i ≤ j) (hl : j < vs.length) : vK vs i ≤ vK vs j := by
  by_cases e : i = j
  · subst e; exact Int.le_refl _
  · exact Int.le_of_lt (vK_lt hf hu i j (by omega) hl)
/-- Where a number belongs. -/
def Place (vs : List Nat) (x i : Nat) : Prop := i ≤ vs.length ∧ (∀ j, j < i → vK vs j < fK x) ∧ ∀ j, i ≤ j → j < vs.length → fK x ≤ vK vs j
/-- How many are at most x. -/
def Upto (vs : List Nat) (x c : Nat) : Prop := c ≤ vs.length ∧ (∀ j, j < c → leB (vs[j]?.getD 0) x = true) ∧ ∀ j, c ≤ j → j < vs.length → leB (vs[j]?.getD 0) x = false
theorem Upto.same {vs : List Nat} {x c d : Nat} (h : Upto vs x c) (k : Upto vs x d) : c = d := by
  rcases Nat.lt_trichotomy c d with e | e | e
  · have h1 := h.2.2 c (Nat.le_refl _) (by have := k.1; omega)
    rw [k.2.1 c e] at h1; cases h1
  · exact e
  · have h1 := k.2.2 d (Nat.le_refl _) (by have := h.1; omega)
    rw [h.2.1 d e] at h1; cases h1
theorem Place.found {vs : List Nat} {x i : Nat} (hf : fins vs) (hu : ups vs) (hx : av .f32 x = some x) (h : Place vs x i) (hi : i < vs.length) (he : fK x = vK vs i) : Upto vs x (i + 1) := by
  refine ⟨hi, fun j hj => ?_, fun j hj hl => ?_⟩
  · rw [leB_K (fin_at hf (by omega)) hx]
    have := vK_le hf hu (i := j) (j := i) (by omega) hi
    exact decide_eq_true (by unfold vK at *; omega)
  · rw [leB_K (fin_at hf hl) hx]
    have := vK_lt hf hu i j (by omega) hl
    exact decide_eq_false (by unfold vK at *; omega)
theorem Place.not {vs : List Nat} {x i : Nat} (hf : fins vs) (hu : ups vs) (hx : av .f32 x = some x) (h : Place vs x i) (he : i < vs.length → fK x ≠ vK vs i) : Upto vs x i := by
  refine ⟨h.1, fun j hj => ?_, fun j hj hl => ?_⟩
  · rw [leB_K (fin_at hf (by have := h.1; omega)) hx]
    have := h.2.1 j hj
    exact decide_eq_true (by unfold vK at *; omega)
  · rw [leB_K (fin_at hf hl) hx]
    have h1 := h.2.2 i (Nat.le_refl _) (by omega)
    have h2 := he (by omega)
    have := vK_le hf hu (i := i) (j := j) hj hl
    exact decide_eq_false (by unfold vK at *; omega)
theorem neq_fin {x : Nat} (h : av .f32 x = some x) : (FloatKind.f32.format.order x x != some Ordering.eq) = false := neq_self_num .f32 x _ h
theorem cmpNaN_fin (x : Nat) (h : av .f32 x = some x) (w : World) : Calls Try.prog 119 #[.float .f32 x] w (fun e w' => e = .returned (.bool false) ∧ w = w') := by
  have hn := neq_fin h
  go_enter Try.func119, Try.ntmps119
  go_wp2
  go_ret
  exact ⟨rfl, rfl⟩
theorem slNaN_fin (x : Nat) (h : av .f32 x = some x) (w : World) : Calls Try.prog 115 #[.float .f32 x] w (fun e w' => e = .returned (.bool false) ∧ w = w') := by
  have hn := neq_fin h
  go_enter Try.func115, Try.ntmps115
  go_wp2
  go_ret
  exact ⟨rfl, rfl⟩
theorem cmpLess_fin (x y : Nat) (h : av .f32 x = some x) (w : World) : Calls Try.prog 114 #[.float .f32 x, .float .f32 y] w (fun e w' => e = .returned (.bool (ltB x y)) ∧ w = w') := by
  go_enter Try.func114, Try.ntmps114
  go_wp2_with (first | (go_at_call 119; refine (cmpNaN_fin x h _).mono ?_; rintro e w' ⟨rfl, rfl⟩))
  go_ret
  exact ⟨rfl, rfl⟩
theorem eq_K {x y : Nat} (hx : av .f32 x = some x) (hy : av .f32 y = some y) : (FloatKind.f32.format.order x y == some Ordering.eq) = decide (fK x = fK y) := by rw [order_K hx hy, cmp_eq]
set_option maxRecDepth 100000 in
set_option maxHeartbeats 2000000 in
theorem search_any (vs : List Nat) (x : Nat) (ao : Option Addr) (c : Nat) (w : World) (hx : Holds w ao (fl .f32 vs)) (hlen : vs.length ≤ 1048576) (hf : fins vs) (hu : ups vs) (hxf : av .f32 x = some x) :
    Calls Try.prog 107 #[.slice ao vs.length c, .float .f32 x] w (fun e w' => ∃ i : Nat, e = .returned (.tuple #[.int .i64 i, .bool (decide (i < vs.length ∧ vK vs i = fK x))]) ∧ Place vs x i ∧ w = w') := by
  have HX := Lib.hid (And.intro hx (And.intro hf hu))
  clear hx hf hu
  go_enter Try.func107, Try.ntmps107
  go_wp2
  go_loopw [7, 8] (fun s t wr => ∃ lo hi : Nat, s = .int .i64 lo ∧ t = .int .i64 hi ∧ lo ≤ hi ∧ hi ≤ vs.length ∧ (∀ j, j < lo → vK vs j < fK x) ∧ (∀ j, hi ≤ j → j < vs.length → fK x ≤ vK vs j) ∧ wr = w) (fun s t _ => (intOf t - intOf s).toNat)
  case atStart => exact ⟨0, vs.length, rfl, rfl, Nat.zero_le _, Nat.le_refl _, fun j hj => absurd hj (Nat.not_lt_zero _), fun j h1 h2 => by omega, rfl⟩
  case round =>
    obtain ⟨lo, hi, rfl, rfl, hlh, hin, h1, h2, rfl⟩ := hrel
    have I := Lib.hid (And.intro h1 h2)
    clear h1 h2
    by_cases hlt : lo < hi
    · have hml : (lo + hi) / 2 < vs.length := by omega
      obtain ⟨b, o, rfl, hc⟩ := HX.out.1 ((lo + hi) / 2) (by simpa [fl] using hml)
      rw [fl_get _ _ _ hml] at hc
      have HF := Lib.hid (fin_at HX.out.2.1 hml)
      obtain ⟨y, hy⟩ : ∃ y, y = vs[(lo + hi) / 2]?.getD 0 := ⟨_, rfl⟩
      have HY : Hid (vK vs ((lo + hi) / 2) = fK y) := Lib.hid (by unfold vK; rw [← hy])
      rw [← hy] at hc HF
      clear hy
      have HM := Lib.hid hml
      clear hml
      cases hb : ltB y x with
      | true =>
        have HB : Hid (fK y < fK x) := Lib.hid (of_decide_eq_true (by rw [← ltB_K HF.out hxf]; exact hb))
        have HBB := Lib.hid hb
        clear hb
        go_wp2_with (first | (go_at_call 114; refine (cmpLess_fin _ _ HF.out _).mono ?_; rintro e w' ⟨rfl, rfl⟩; rw [HBB.out]))
        go_roundw
        case rel =>
          refine ⟨(lo + hi) / 2 + 1, hi, by first | rfl | (congr 1; omega), rfl, by omega, hin, fun j hj => ?_, I.out.2, trivial⟩
          have := vK_le HX.out.2.1 HX.out.2.2 (i := j) (j := (lo + hi) / 2) (by omega) HM.out
          have h3 := HB.out
          rw [← HY.out] at h3
          omega
        case measure => simp [intOf]; omega
      | false =>
        have HB : Hid (fK x ≤ fK y) := Lib.hid (by have := of_decide_eq_false ((ltB_K HF.out hxf).symm.trans hb); omega)
        have HBB := Lib.hid hb
        clear hb
        go_wp2_with (first | (go_at_call 114; refine (cmpLess_fin _ _ HF.out _).mono ?_; rintro e w' ⟨rfl, rfl⟩; rw [HBB.out]))
        go_roundw
        case rel =>
          refine ⟨lo, (lo + hi) / 2, rfl, by first | rfl | (congr 1; omega), by omega, by omega, I.out.1, fun j hj hl => ?_, trivial⟩
          have := vK_le HX.out.2.1 HX.out.2.2 (i := (lo + hi) / 2) (j := j) hj hl
          have h3 := HB.out
          rw [← HY.out] at h3
          omega
        case measure => simp [intOf]; omega
    · obtain rfl : hi = lo := by omega
      have HP : Hid (Place vs x hi) := Lib.hid ⟨hin, I.out.1, I.out.2⟩
      by_cases hn : hi < vs.length
      · obtain ⟨b, o, rfl, hc⟩ := HX.out.1 hi (by simpa [fl] using hn)
        rw [fl_get _ _ _ hn] at hc
        have HF := Lib.hid (fin_at HX.out.2.1 hn)
        obtain ⟨y, hy⟩ : ∃ y, y = vs[hi]?.getD 0 := ⟨_, rfl⟩
        have HY : Hid (vK vs hi = fK y) := Lib.hid (by unfold vK; rw [← hy])
        rw [← hy] at hc HF
        clear hy
        have HN := Lib.hid hn
        cases hq : decide (fK y = fK x) with
        | true =>
          have hq' : (FloatKind.f32.format.order y x == some Ordering.eq) = true := by rw [eq_K HF.out hxf]; exact hq
          have HD : Hid (decide (hi < vs.length ∧ vK vs hi = fK x) = true) := Lib.hid (by rw [HY.out]; exact decide_eq_true ⟨hn, of_decide_eq_true hq⟩)
          clear hq
          go_wp2
          go_ret2
          exact ⟨hi, by rw [HD.out]; rfl, HP.out, rfl⟩
        | false =>
          have hq' : (FloatKind.f32.format.order y x == some Ordering.eq) = false := by rw [eq_K HF.out hxf]; exact hq
          have HD : Hid (decide (hi < vs.length ∧ vK vs hi = fK x) = false) := Lib.hid (by rw [HY.out]; exact decide_eq_false (fun h => of_decide_eq_false hq h.2))
          clear hq
          go_wp2_with (first | (go_at_call 115; refine (slNaN_fin _ HF.out _).mono ?_; rintro e w' ⟨rfl, rfl⟩))
          go_ret2
          exact ⟨hi, by rw [HD.out]; rfl, HP.out, rfl⟩
      · have HD : Hid (decide (hi < vs.length ∧ vK vs hi = fK x) = false) := Lib.hid (decide_eq_false (fun h => hn h.1))
        go_wp2
        go_ret2
        exact ⟨hi, by rw [HD.out]; rfl, HP.out, rfl⟩
set_option maxRecDepth 100000 in
set_option maxHeartbeats 1000000 in
theorem countUpTo_any (vs : List Nat) (x : Nat) (ao bo : Option Addr) (c m d : Nat) (w : World) (hx : Holds w ao (fl .f32 vs)) (hlen : vs.length ≤ 64) (hf : fins vs) (hu : ups vs) (hxf : av .f32 x = some x) :
    Calls Try.prog 89 #[.agg #[.slice ao vs.length c, .slice bo m d], .float .f32 x] w (fun e w' => ∃ k : Nat, e = .returned (.int .i64 k) ∧ Upto vs x k ∧ Below w.heap.size w w') := by
  have HX := Lib.hid (And.intro hx (And.intro hf hu))
  clear hx hf hu
  go_enter Try.func89, Try.ntmps89
  go_wp2_with (first | (go_at_call 107; fail))
  generalize hW : World.alloc _ _ = w0
  have H0 : Hid (Below w.heap.size w w0) := Lib.hid (by rw [← hW]; exact (by repeat (first | with_reducible exact Below.refl _ _ | with_reducible exact HBL | with_reducible refine Below.drew ?_ | with_reducible refine Bel_drewN ?_ _ | with_reducible refine Below.alloc ?_ (by first | omega | (simp; done) | (simp; omega)) _ | with_reducible refine Below.setCell ?_ (by first | omega | (simp; done) | (simp; omega)) _)))
  clear hW
  refine (search_any vs x _ _ _ (HX.out.1.below H0.out) (by omega) HX.out.2.1 HX.out.2.2 hxf).mono ?_
  rintro e w1 ⟨i, rfl, hp, rfl⟩
  have HP := Lib.hid hp
  have hi : i ≤ 64 := by have := hp.1; omega
  clear hp
  by_cases hd : i < vs.length ∧ vK vs i = fK x
  · have HU := Lib.hid (HP.out.found HX.out.2.1 HX.out.2.2 hxf hd.1 hd.2.symm)
    have hd' : decide (i < vs.length ∧ vK vs i = fK x) = true := decide_eq_true hd
    rw [hd']
    clear hd hd'
    go_wp2
    go_ret
    exact ⟨i + 1, by go_num, HU.out, H0.out⟩
  · have HU := Lib.hid (HP.out.not HX.out.2.1 HX.out.2.2 hxf (fun h1 h2 => hd ⟨h1, h2.symm⟩))
    have hd' : decide (i < vs.length ∧ vK vs i = fK x) = false := decide_eq_false hd
    rw [hd']
    clear hd hd'
    go_wp2
    go_ret
    exact ⟨i, rfl, HU.out, H0.out⟩
theorem Holds.take {w : World} {ao : Option Addr} {xs : List Nat} (h : Holds w ao (fl .f32 xs)) (k : Nat) : Holds w ao (fl .f32 (xs.take k)) := fun i hi => by
  have hi' : i < xs.length ∧ i < k := by simp [fl] at hi; omega
  obtain ⟨b, o, e, hc⟩ := h i (by simpa [fl] using hi'.1)
  refine ⟨b, o, e, ?_⟩
  rw [hc, fl_get _ _ _ hi'.1, fl_get _ _ _ (by simp; omega)]
  simp [hi'.2]
theorem implSum_len (xs : List Nat) (n : Nat) (hn : xs.length = n) (ao : Option Addr) (c : Nat) (w : World) (hx : Holds w ao (fl .f32 xs)) (hlen : n ≤ 256) :
    Calls Try.prog 78 #[.slice ao n c] w (Two .f32 (sumA .f32 xs) w) := by
  subst hn; exact implSum_in xs ao c w hx hlen
set_option maxRecDepth 100000 in
set_option maxHeartbeats 2000000 in
theorem chanceUpTo_any (vs cs : List Nat) (x k : Nat) (ao bo : Option Addr) (c d : Nat) (w : World) (hm : cs.length = vs.length) (hd : vs.length ≤ d) (hx : Holds w ao (fl .f32 vs)) (hy : Holds w bo (fl .f32 cs)) (hlen : vs.length ≤ 64) (h1 : 1 ≤ vs.length) (hf : fins vs) (hu : ups vs) (hxf : av .f32 x = some x) (hk : Upto vs x k) :
    Calls Try.prog 63 #[.agg #[.slice ao vs.length c, .slice bo vs.length d], .float .f32 x] w (RetF (fun r => .float .f32 r) (sumA .f32 (cs.take k)) w) := by
  obtain ⟨b0, o0, rfl, _⟩ := hy 0 (by simp [fl]; omega)
  have HX := Lib.hid (And.intro (And.intro hx hy) (And.intro hf (And.intro hu (And.intro hm hk))))
  have hkl : k ≤ vs.length := hk.1
  have hkd : (k : Int) ≤ (d : Int) := by omega
  clear hx hy hf hu hm hk
  go_enter Try.func63, Try.ntmps63
  go_wp2
  generalize hW : World.alloc _ _ = w0
  have hR : w0.cell? ⟨w.heap.size, 0, none⟩ = some (.slice ao vs.length c) ∧ w0.cell? ⟨w.heap.size, 1, none⟩ = some (.slice (some ⟨b0, o0, none⟩) vs.length d) ∧ Below w.heap.size w w0 := by
    have q : Whole w0 w.heap.size 27 #[.slice ao vs.length c, .slice (some ⟨b0, o0, none⟩) vs.length d] := by rw [← hW]; exact Whole.made _ _ _
    exact ⟨q.cell 0, q.cell 1, by rw [← hW]; exact (by repeat (first | with_reducible exact Below.refl _ _ | with_reducible exact HBL | with_reducible refine Below.drew ?_ | with_reducible refine Bel_drewN ?_ _ | with_reducible refine Below.alloc ?_ (by first | omega | (simp; done) | (simp; omega)) _ | with_reducible refine Below.setCell ?_ (by first | omega | (simp; done) | (simp; omega)) _))⟩
  clear hW
  have HK : Hid (∀ v v' : World, (v.cell? ⟨w.heap.size, 0, none⟩ = some (.slice ao vs.length c) ∧ v.cell? ⟨w.heap.size, 1, none⟩ = some (.slice (some ⟨b0, o0, none⟩) vs.length d) ∧ Below w.heap.size w v) → Below v.heap.size v v' → (v'.cell? ⟨w.heap.size, 0, none⟩ = some (.slice ao vs.length c) ∧ v'.cell? ⟨w.heap.size, 1, none⟩ = some (.slice (some ⟨b0, o0, none⟩) vs.length d) ∧ Below w.heap.size w v')) :=
    Lib.hid (fun v v' h hb => ⟨by rw [Below.cell hb (World.block_lt_of_cell? _ _ h.1)]; exact h.1, by rw [Below.cell hb (World.block_lt_of_cell? _ _ h.2.1)]; exact h.2.1, Bel_next h.2.2 hb⟩)
  have HP : Hid (∀ v : World, (v.cell? ⟨w.heap.size, 0, none⟩ = some (.slice ao vs.length c) ∧ v.cell? ⟨w.heap.size, 1, none⟩ = some (.slice (some ⟨b0, o0, none⟩) vs.length d) ∧ Below w.heap.size w v) → Holds v ao (fl .f32 vs) ∧ Holds v (some ⟨b0, o0, none⟩) (fl .f32 (cs.take k)) ∧ Below w.heap.size w v) :=
    Lib.hid (fun v h => ⟨HX.out.1.1.below h.2.2, (HX.out.1.2.below h.2.2).take k, h.2.2⟩)
  have HL : Hid ((cs.take k).length = k) := Lib.hid (by have := HX.out.2.2.2.1; simp; omega)
  go_region_held3 (fun v => v.cell? ⟨w.heap.size, 0, none⟩ = some (.slice ao vs.length c) ∧ v.cell? ⟨w.heap.size, 1, none⟩ = some (.slice (some ⟨b0, o0, none⟩) vs.length d) ∧ Below w.heap.size w v)
    (first | assumption | exact HK.out _ _ (by assumption) (by assumption) | exact HK.out _ _ (by assumption) ((Below.refl _ _).drew) | exact HK.out _ _ (by assumption) (Bel_drewN (Below.refl _ _) _))
    (first | (go_at_call 89; refine (countUpTo_any vs x _ _ _ _ _ _ (HP.out _ (by assumption)).1 hlen HX.out.2.1 HX.out.2.2.1 hxf).mono ?_; rintro e wt ⟨k', rfl, hk', hbt⟩; obtain rfl := HX.out.2.2.2.2.same hk') | (go_at_call 78; refine (implSum_len (cs.take k) k HL.out _ _ _ (HP.out _ (by assumption)).2.1 (by omega)).mono ?_; rintro e w2 ⟨r, n, rfl, hr, rfl⟩))
  go_wp2
  go_ret
  exact ⟨r, rfl, hr, (HP.out _ (by assumption)).2.2⟩
end Go.Proofs.Ytjnnfiimimmmnaa
