/- SignedTail: the code's side. -/
import Derived.Test.YtbjcomjokkhaeaaSnt
import Derived.Deep.RegionLaw
import Derived.Lib.SliceRun
namespace Go.Proofs.Ytbjcomjokkhaeaa
open Go Go.RowKit
set_option linter.unusedVariables false

theorem nz_pre {xs : List Int} {k : Nat} (h : ∀ j : Nat, j < k → xs[j]?.getD 0 ≠ 0) : (nzK xs k).length = k ∧ ∀ t : Nat, t < k → (nzK xs k)[t]?.getD 0 = xs[t]?.getD 0 := by
  induction k with
  | zero => exact ⟨rfl, fun t ht => absurd ht (Nat.not_lt_zero _)⟩
  | succ k ih =>
    obtain ⟨h1, h2⟩ := ih (fun j hj => h j (by omega))
    rw [nzK_some (h k (by omega))]
    refine ⟨by simp [h1], fun t ht => ?_⟩
    by_cases e : t = k
    · subst e; rw [List.getElem?_append_right (by omega), h1]; simp
    · rw [List.getElem?_append_left (by omega)]; exact h2 t (by omega)
/-- At the head of a block n numbers lie, told by a function. -/
def ORow (w : World) (g : Nat) (t : TypeId) (n : Nat) (f : Nat → Int) : Prop := ∃ cur : Array Value, Whole w g t cur ∧ ∀ i, i < n → cur[i]? = some (.int .i64 (f i))
section
variable {w w' : World} {g : Nat} {t : TypeId} {n : Nat} {f : Nat → Int}
theorem ORow.lt (h : ORow w g t n f) : g < w.heap.size := by obtain ⟨cur, h, _⟩ := h; exact h.lt
theorem ORow.cell (h : ORow w g t n f) (i : Nat) (hi : i < n) : w.cell? ⟨g, i, none⟩ = some (.int .i64 (f i)) := by
  obtain ⟨cur, h, hc⟩ := h; rw [h.cell, hc i hi]
theorem ORow.frozen (h : ORow w g t n f) (i : Nat) : w.frozen? ⟨g, i, none⟩ = false := by obtain ⟨cur, h, hc⟩ := h; exact h.frozen i
theorem ORow.put (h : ORow w g t n f) (i : Nat) (v : Int) : ORow (w.setCell ⟨g, i, none⟩ (.int .i64 v)) g t n (fun j => if j = i then v else f j) := by
  obtain ⟨cur, h, hc⟩ := h
  refine ⟨_, h.put i _, fun j hj => ?_⟩
  have h1 := hc j hj
  rw [Array.getElem?_setIfInBounds]
  by_cases e : i = j
  · subst e
    have hs : i < cur.size := (Array.getElem?_eq_some_iff.1 h1).1
    rw [if_pos rfl, if_pos hs]
    exact congrArg (fun z => some (Value.int .i64 z)) (if_pos rfl).symm
  · rw [if_neg e, h1]
    exact congrArg (fun z => some (Value.int .i64 z)) (if_neg (show ¬ j = i from fun h => e h.symm)).symm
theorem ORow.less (h : ORow w g t n f) {m : Nat} (hm : m ≤ n) {f' : Nat → Int} (e : ∀ i, i < m → f i = f' i) : ORow w g t m f' := by
  obtain ⟨cur, h, hc⟩ := h; exact ⟨cur, h, fun i hi => by rw [hc i (by omega), e i hi]⟩
theorem ORow.drew (h : ORow w g t n f) : ORow w.drew g t n f := h
theorem ORow.cells : ∀ (k o : Nat) {w : World}, ORow w g t n f → n ≤ o → ORow (w.setCells g o (List.replicate k (.int .i64 0))) g t n f := by
  intro k
  induction k with
  | zero => intro o w h _; exact h
  | succ k ih =>
    intro o w h ho
    exact ih (o + 1) ((h.put o 0).less (Nat.le_refl _) (fun i hi => if_neg (by omega))) (by omega)
theorem ORow.of_own {base : Nat} {v : Value} {xs : List Int} (h : w.ownsRow base t 1 v n (il xs)) (hn : 0 < n) (hx : xs.length = n) : ∃ g cap, v = .slice (some ⟨g, 0, none⟩) n cap ∧ base ≤ g ∧ ORow w g t n (fun i => xs[i]?.getD 0) ∧ n ≤ cap ∧ cap ≤ maxLen := by
  obtain ⟨hl, h⟩ := h
  rcases h with ⟨_, h0⟩ | ⟨g, cap, cur, hv, hg, hh, hn', hcm, hsz, ht⟩
  · omega
  · refine ⟨g, cap, hv, hg, ⟨cur, hh, fun i hi => ?_⟩, hn', hcm⟩
    have hil : (il xs).length = xs.length := il_len xs
    have hc : i < cur.size := by omega
    have hin : i < n * 1 := by omega
    have e : (il xs)[i]? = some cur[i] := by rw [← ht, List.getElem?_take_of_lt hin, Array.getElem?_toList, Array.getElem?_eq_getElem hc]
    rw [show cur[i]? = some cur[i] from Array.getElem?_eq_getElem hc, ← e]
    simp [il, hx, hi]
theorem ORow.holds {xs : List Int} (h : ORow w g t n f) (hn : xs.length = n) (e : ∀ i, i < n → f i = xs[i]?.getD 0) : Holds w (some ⟨g, 0, none⟩) (il xs) := fun i hi => by
  have hi' : i < n := by rw [il_len] at hi; omega
  refine ⟨g, 0, rfl, ?_⟩
  rw [il_get _ _ (by omega), ← e i hi', Nat.zero_add]
  exact h.cell i hi'
end
theorem og_cells (vs : List Value) {g : Nat} : ∀ {w w' : World}, w.grownBy w' (some g) → ∀ o, w.grownBy (w'.setCells g o vs) (some g) := by
  induction vs with
  | nil => intro w w' h o; exact h
  | cons v vs ih => intro w w' h o; exact ih (grown_put h o v) (o + 1)
theorem og_refl (w : World) (r : Option Nat) : w.grownBy w r := ⟨rfl, rfl, rfl, Nat.le_refl _, fun _ _ _ => rfl⟩
theorem isZero_any (x : Int) (w : World) : Calls Try.prog 49 #[.int .i64 x] w (fun e w' => e = .returned (.bool (x == 0)) ∧ w = w') := by
  go_enter Try.func49, Try.ntmps49
  go_wp2_with fail
  go_ret
  exact ⟨rfl, rfl⟩
set_option maxHeartbeats 1000000 in
theorem indexZero_any (xs : List Int) (n g cap : Nat) (t : TypeId) (w : World) (hr : ORow w g t n (fun i => xs[i]?.getD 0)) (hl : n ≤ 1048576) :
    Calls Try.prog 91 #[.slice (some ⟨g, 0, none⟩) n cap, .func (.func 49) #[] #[]] w (fun e w' => (∃ r : Int, e = .returned (.int .i64 r) ∧ ((r = -1 ∧ ∀ j : Nat, j < n → xs[j]?.getD 0 ≠ 0) ∨ ∃ i : Nat, r = (i : Int) ∧ i < n ∧ xs[i]?.getD 0 = 0 ∧ ∀ j : Nat, j < i → xs[j]?.getD 0 ≠ 0)) ∧ w = w') := by
  have HR := Lib.hid hr
  clear hr
  go_enter Try.func91, Try.ntmps91
  go_wp2_with fail
  go_loop [8] (fun i => ∃ k : Nat, k ≤ n ∧ i = .int .i64 (k : Int) ∧ ∀ j : Nat, j < k → xs[j]?.getD 0 ≠ 0) (fun i => n - (intOf i).toNat)
  case atStart => exact ⟨0, Nat.zero_le _, rfl, fun j hj => absurd hj (Nat.not_lt_zero _)⟩
  case round =>
    obtain ⟨k, hk, rfl, hall⟩ := hrel
    have HA := Lib.hid hall
    clear hall
    by_cases hlk : k < n
    · have hlk' : (k : Int) < n := by omega
      have hc := HR.out.cell k hlk
      obtain ⟨x, hx⟩ : ∃ x, xs[k]?.getD 0 = x := ⟨_, rfl⟩
      rw [hx] at hc
      have HX := Lib.hid hx
      clear hx
      go_wp2_with fail
      refine (isZero_any x _).mono ?_
      rintro e w1 ⟨rfl, rfl⟩
      by_cases h0 : x = 0
      · subst h0
        go_wp2_with fail
        go_ret
        exact ⟨⟨_, rfl, .inr ⟨k, rfl, hlk, HX.out, HA.out⟩⟩, rfl⟩
      · have h0' : (x == 0) = false := by simp [h0]
        rw [h0']
        go_wp2_with fail
        go_round
        case rel => exact ⟨k + 1, by omega, by go_num, fun j hj => by
          by_cases e : j = k
          · subst e; rw [HX.out]; exact h0
          · exact HA.out j (by omega)⟩
        case measure => simp [intOf]; omega
    · have e : n = k := by omega
      subst e
      go_wp2_with fail
      go_ret
      exact ⟨⟨-1, rfl, .inl ⟨rfl, HA.out⟩⟩, rfl⟩
set_option maxRecDepth 100000 in
set_option maxHeartbeats 2000000 in
theorem deleteZero_any (xs : List Int) (n g cap : Nat) (w : World) (hr : ORow w g 2 n (fun i => xs[i]?.getD 0)) (hl : n ≤ 40) (hnc : n ≤ cap) (hcm : cap ≤ maxLen) :
    Calls Try.prog 47 #[.slice (some ⟨g, 0, none⟩) n cap, .func (.func 49) #[] #[]] w (fun e w' => e = .returned (.slice (some ⟨g, 0, none⟩) (nzK xs n).length cap) ∧ ORow w' g 2 (nzK xs n).length (fun i => (nzK xs n)[i]?.getD 0) ∧ w.grownBy w' (some g)) := by
  obtain ⟨i0, hi0, hz0, hz1, hz2⟩ := info_parts (show (Try.prog.info? 2).map (fun i => (i.zero, i.size, i.bytes)) = some (some (.int .i64 0), 1, 8) by kernel_rfl)
  have HI := Lib.hid (And.intro hi0 hz0)
  have HR := Lib.hid hr
  have hcap : (n : Int) ≤ cap := by omega
  clear hr hi0 hz0 hz1 hz2
  go_enter Try.func47, Try.ntmps47
  go_wp2_with fail
  refine (indexZero_any xs n g cap _ w HR.out (by omega)).mono ?_
  rintro e w1 ⟨⟨r, rfl, hr⟩, rfl⟩
  rcases hr with ⟨rfl, hall⟩ | ⟨i, rfl, hi, h0, hpre⟩
  · have HP := Lib.hid (nz_pre hall)
    clear hall
    go_wp2_with fail
    go_ret
    exact ⟨by rw [HP.out.1]; rfl, by rw [HP.out.1]; exact HR.out.less (Nat.le_refl _) (fun i hi => (HP.out.2 i hi).symm), grown_refl _ _⟩
  · have HP := Lib.hid (nz_pre hpre)
    have HZ := Lib.hid (nzK_zero h0)
    have hi' : (i : Int) < n := by omega
    have hi2 : ((i : Int) == -1) = false := by first | (simp; done) | (simp; omega)
    clear hpre h0
    go_wp2_with fail
    go_loopw [5, 6] (fun m j w5 => ∃ k : Nat, k ≤ n ∧ (nzK xs k).length < k ∧ j = .int .i64 (k : Int) ∧ m = .int .i64 ((nzK xs k).length : Nat) ∧ w.grownBy w5 (some g) ∧ ∃ f : Nat → Int, ORow w5 g 2 n f ∧ (∀ t : Nat, t < (nzK xs k).length → f t = (nzK xs k)[t]?.getD 0) ∧ ∀ t : Nat, k ≤ t → t < n → f t = xs[t]?.getD 0) (fun _ j _ => n - (intOf j).toNat)
    case atStart => exact ⟨i + 1, by omega, by rw [HZ.out, HP.out.1]; omega, by go_num, by rw [HZ.out, HP.out.1], grown_refl _ _, _, HR.out, fun t ht => by rw [HZ.out] at ht ⊢; rw [HP.out.1] at ht; exact (HP.out.2 t ht).symm, fun t _ _ => rfl⟩
    case round =>
      obtain ⟨k, hk, hmk, rfl, rfl, hgr, f, hrow, hf1, hf2⟩ := hrel
      have H := Lib.hid (And.intro hgr (And.intro hrow (And.intro hf1 hf2)))
      by_cases hlk : k < n
      · have hlk' : (k : Int) < n := by omega
        have hc := hrow.cell k hlk
        rw [hf2 k (Nat.le_refl _) hlk] at hc
        by_cases h0 : xs[k]?.getD 0 = 0
        · have HK : Hid (nzK xs (k + 1) = nzK xs k) := Lib.hid (nzK_zero h0)
          rw [h0] at hc
          clear hgr hrow hf1 hf2 h0
          go_wp2_with fail
          refine (isZero_any 0 _).mono ?_
          rintro e w5 ⟨rfl, rfl⟩
          go_wp2_with fail
          go_roundw
          case rel => exact ⟨k + 1, by omega, by rw [HK.out]; omega, by go_num, by rw [HK.out], H.out.1, f, H.out.2.1, by rw [HK.out]; exact H.out.2.2.1, fun t h1 h2 => H.out.2.2.2 t (by omega) h2⟩
          case measure => simp [intOf]; omega
        · have HK : Hid (nzK xs (k + 1) = nzK xs k ++ [xs[k]?.getD 0]) := Lib.hid (nzK_some h0)
          have hfm := hrow.frozen (nzK xs k).length
          have hcm0 := hrow.cell (nzK xs k).length (by omega)
          obtain ⟨m, hme⟩ : ∃ m, (nzK xs k).length = m := ⟨_, rfl⟩
          obtain ⟨x, hx⟩ : ∃ x, xs[k]?.getD 0 = x := ⟨_, rfl⟩
          rw [hme] at hfm hcm0 hmk ⊢
          rw [hx] at hc h0
          have h0' : (x == 0) = false := by simp [h0]
          have hmn : (m : Int) < n := by omega
          have HX := Lib.hid (And.intro hme hx)
          clear hgr hrow hf1 hf2 hme hx
          go_wp2_with fail
          refine (isZero_any x _).mono ?_
          rintro e w5 ⟨rfl, rfl⟩
          rw [h0']
          go_wp2_with fail
          go_roundw
          case rel =>
            have hlen : (nzK xs (k + 1)).length = m + 1 := by rw [HK.out, List.length_append, HX.out.1]; rfl
            refine ⟨k + 1, by omega, by rw [hlen]; omega, by go_num, by rw [hlen]; go_num, grown_put H.out.1 _ _, _, H.out.2.1.put m x, fun t ht => ?_, fun t h1 h2 => ?_⟩
            · rw [HK.out, HX.out.2]
              show (if t = m then x else f t) = _
              by_cases e : t = m
              · rw [if_pos e, e, List.getElem?_append_right (by rw [HX.out.1]; exact Nat.le_refl _), HX.out.1]; simp
              · have ht' : t < m := by rw [hlen] at ht; omega
                rw [if_neg e, List.getElem?_append_left (by rw [HX.out.1]; exact ht')]
                exact H.out.2.2.1 t (by rw [HX.out.1]; exact ht')
            · show (if t = m then x else f t) = _
              rw [if_neg (by omega)]
              exact H.out.2.2.2 t (by omega) h2
          case measure => simp [intOf]; omega
      · have e : n = k := by omega
        subst e
        obtain ⟨m, hme⟩ : ∃ m, (nzK xs n).length = m := ⟨_, rfl⟩
        have hcl : ∀ ty, (Builtin.clear_ #[22] ty #[.slice (some ⟨g, m, none⟩) (n - m) (cap - m)]).run Try.prog wr = .ok (.tuple #[]) (wr.setCells g m (List.replicate (n - m) (.int .i64 0))) :=
          fun ty => Lib.run_clear_slice wr _ _ ty _ Try.underlying22 (fun w => by simp [zeroValue, typeInfo, HI.out.1, HI.out.2]) rfl rfl g _ _ _ (by omega) (fun j hj => by
            rw [hrow.cell (m + j) (by omega)]; rfl) (fun j hj => hrow.frozen _)
        have hE : Hid (ORow (wr.setCells g m (List.replicate (n - m) (.int .i64 0))) g 2 m (fun i => (nzK xs n)[i]?.getD 0) ∧ w.grownBy (wr.setCells g m (List.replicate (n - m) (.int .i64 0))) (some g)) := Lib.hid ⟨(hrow.less (m := m) (by omega) (fun i hi => hf1 i (by rw [hme]; exact hi))).cells _ _ (Nat.le_refl _), og_cells _ hgr _⟩
        have hmn : (m : Int) ≤ n := by omega
        have hmn2 : m ≤ n := by omega
        have hmc : ¬ cap = m := by omega
        have hmc2 : (m : Int) ≤ cap := by omega
        have HME := Lib.hid hme
        rw [hme]
        clear hgr hrow hf1 hf2 hme
        go_wp2_with fail
        go_ret
        rw [HME.out]
        exact ⟨rfl, hE.out⟩
theorem own_cap {w : World} {base : Nat} {e : TypeId} {v : Value} {n : Nat} {xs : List Value} (h : w.ownsRow base e 1 v n xs) (h0 : 0 < n) : ∃ ao c, v = .slice ao n c ∧ n ≤ c := by
  rcases h.2 with ⟨_, h1⟩ | ⟨g', cap, cur, hv, _, _, h2, _⟩
  · omega
  · exact ⟨_, _, hv, h2⟩
set_option maxRecDepth 100000 in
set_option maxHeartbeats 1000000 in
theorem clone_own (xs : List Int) (n : Nat) (hn : xs.length = n) (ao : Option Addr) (c : Nat) (w : World) (hx : Holds w ao (il xs)) (h1 : 1 ≤ n) (hl : n ≤ 1048576) :
    Calls Try.prog 48 #[.slice ao n c] w (fun e w' => ∃ v, e = .returned v ∧ w'.ownsRow w.heap.size 2 1 v n (il xs) ∧ Below w.heap.size w w') := by
  obtain ⟨b1, o1, rfl⟩ := holds_some hx (by omega)
  have HX := Lib.hid (And.intro hx hn)
  clear hx hn
  obtain ⟨i8, hi8, hi1, hi2, hi3⟩ := info_parts (show (Try.prog.info? 2).map (fun i => (i.zero, i.size, i.bytes)) = some (some (.int .i64 0), 1, 8) by kernel_rfl)
  have HI := Lib.hid (And.intro hi8 (And.intro hi1 (And.intro hi2 hi3)))
  clear hi8 hi1 hi2 hi3
  have H0 : Hid ((w.alloc (.cells #[] 2)).ownsRow w.heap.size 2 1 (.slice (some ⟨w.heap.size, 0, none⟩) 0 0) 0 [] ∧ Below w.heap.size w (w.alloc (.cells #[] 2))) := Lib.hid ⟨World.ownsRow_made _ _ _ (Nat.le_refl _) (Nat.zero_le _) rfl, (by repeat (first | with_reducible exact Below.refl _ _ | with_reducible exact HBL | with_reducible refine Below.drew ?_ | with_reducible refine Bel_drewN ?_ _ | with_reducible refine Below.alloc ?_ (by first | omega | (simp; done) | (simp; omega)) _ | with_reducible refine Below.setCell ?_ (by first | omega | (simp; done) | (simp; omega)) _))⟩
  have heq := fun w => Lib.run_eql_slice_nil (P := Try.prog) w 22 2 (some ⟨b1, o1, none⟩) n c 0 0 Try.underlying22
  go_enter Try.func48, Try.ntmps48
  go_wp2_with (at_builtin; refine wpList_append_own _ rfl _ _ 22 rfl w.heap.size 2 i8 (.int .i64 0) 1 8 Try.underlying22 HI.out.1 HI.out.2.1 HI.out.2.2.1 HI.out.2.2.2 rfl (by decide) _ 0 _ rfl H0.out.1 ⟨b1, o1, none⟩ n _ (il xs) rfl (by rw [il_len]; have := HX.out.2; omega) (holds_news (HX.out.1.below H0.out.2) rfl) (il_one _) (by unfold maxLen; omega) (by omega) (by simp) ?_)
  intro v1 w1 hown hgr _
  have H1 : Hid (w1.ownsRow w.heap.size 2 1 v1 n (il xs) ∧ Below w.heap.size w w1) := Lib.hid ⟨by simpa using hown, H0.out.2.grown hgr (by simp) (own_ge H0.out.1)⟩
  clear hown hgr
  go_wp2_with fail
  go_ret
  exact ⟨_, rfl, H1.out⟩
def mxI (x : Int) : Int := if x < -x then -x else x
theorem abL_fn (l : List Int) : abL l = fnL l.length (fun i => mxI (l[i]?.getD 0)) := by
  apply List.ext_getElem
  · simp [abL, fnL]
  · intro i h1 h2
    have hi : i < l.length := by simpa [abL] using h1
    simp [abL, fnL, hi, mxI]
    split <;> omega
set_option maxRecDepth 100000 in
set_option maxHeartbeats 8000000 in
theorem implSigned_yes (xs : List Int) (n : Nat) (hn : (nz xs).length = n) (ao : Option Addr) (ca : Nat) (w : World) (hv : sgnC xs) (hx : Holds w ao (il xs)) :
    Calls Try.prog 17 #[.slice ao xs.length ca] w (RetB (.tuple #[.int .i64 (sgnP xs), .int .i64 ((2 ^ n : Nat) : Int), .bool true]) w) := by
  have HX := Lib.hid hx
  have HV := Lib.hid hv
  have h1 := hv.1.1
  obtain ⟨h1, h1'⟩ := h1
  have HN := Lib.hid hn
  have hn1 : 1 ≤ n := by rw [← hn]; exact List.length_pos_iff.2 hv.2
  have hn40 : n ≤ 40 := by rw [← hn]; have := nzK_len xs xs.length; unfold nz; omega
  have HA := Lib.hid (nzK_all (poolC_abs hv.1) xs.length)
  clear hx hv hn
  go_enter Try.func17, Try.ntmps17
  go_wp2_with (first | (go_at_call 46; refine (isSample_any xs _ _ _ HX.out (by omega)).mono ?_; rintro e w1 ⟨rfl, rfl⟩; rw [samB_yes HV.out.1]))
  refine (clone_own xs xs.length rfl _ _ _ HX.out h1 (by omega)).mono ?_
  rintro e w2 ⟨v, rfl, hown, hb⟩
  obtain ⟨g, cap, rfl, hg, hrow, hnc, hcm⟩ := ORow.of_own hown (by omega) rfl
  have H2 := Lib.hid (And.intro hrow (And.intro hb hg))
  clear hown hb hrow
  go_wp2_with fail
  refine (deleteZero_any xs xs.length g cap _ H2.out.1 h1' hnc hcm).mono ?_
  rintro e w3 ⟨rfl, hrow, hgr⟩
  have H3 : Hid (Holds w3 (some ⟨g, 0, none⟩) (il (nz xs)) ∧ Below w.heap.size w w3) := Lib.hid ⟨hrow.holds rfl (fun _ _ => rfl), H2.out.2.1.grown hgr H2.out.2.1.size (fun i hi => by injection hi with hi; omega)⟩
  clear hrow hgr
  rw [show (nzK xs xs.length).length = n from HN.out]
  have hmk := run_mkI0 (P := Try.prog) w3 22 2 n Try.underlying22 (by kernel_rfl) (by omega)
  have HO := Lib.hid (World.ownsRow_made (base := w3.heap.size) (e := 2) (size := 1) w3 (Array.replicate n (.int .i64 0)) n (Nat.le_refl _) (by unfold maxLen; omega) (by simp))
  have hn0 : ((n : Int) == 0) = false := by first | (simp; done) | (simp; omega)
  have HAB : Hid (abL (nz xs) = fnL n (fun i => mxI ((nz xs)[i]?.getD 0))) := Lib.hid (by rw [abL_fn, HN.out])
  have HBD : Hid (absLe 1000 (nz xs)) := Lib.hid (fun i => by
    by_cases h : i < (nz xs).length
    · have := HA.out ((nz xs)[i]) (List.getElem_mem h)
      rw [List.getElem?_eq_getElem h]
      exact ⟨by simpa using this.2.1, by simpa using this.2.2⟩
    · rw [List.getElem?_eq_none (by omega)]; simp)
  go_wp2_with fail
  clear hmk
  go_loopw [6, 27] (fun v i w5 => ∃ k : Nat, k ≤ n ∧ i = .int .i64 (k : Int) ∧ w5.ownsRow w3.heap.size 2 1 v k (il (fnL k (fun i => mxI ((nz xs)[i]?.getD 0)))) ∧ Below w3.heap.size w3 w5) (fun _ i _ => n - (intOf i).toNat)
  case atStart => exact ⟨0, Nat.zero_le _, rfl, by simpa [fnL, il] using HO.out, (by repeat (first | with_reducible exact Below.refl _ _ | with_reducible exact HBL | with_reducible refine Below.drew ?_ | with_reducible refine Bel_drewN ?_ _ | with_reducible refine Below.alloc ?_ (by first | omega | (simp; done) | (simp; omega)) _ | with_reducible refine Below.setCell ?_ (by first | omega | (simp; done) | (simp; omega)) _))⟩
  case round =>
    obtain ⟨k, hk, rfl, hown, hb5⟩ := hrel
    have H5 := Lib.hid (And.intro hown hb5)
    have hz5 := hb5.size
    by_cases hlk : k < n
    · have hlk' : (k : Int) < n := by omega
      obtain ⟨b, o, e, hc⟩ := (H3.out.1.below hb5) k (by rw [il_len, HN.out]; exact hlk)
      rw [il_get _ _ (by rw [HN.out]; exact hlk)] at hc
      have hx2 := HBD.out k
      obtain ⟨x, hxx⟩ : ∃ x, (nz xs)[k]?.getD 0 = x := ⟨_, rfl⟩
      rw [hxx] at hc hx2
      have HD := Lib.hid hxx
      obtain ⟨rfl, rfl⟩ : g = b ∧ 0 = o := by simpa using e
      rw [Nat.zero_add] at hc
      clear hown hb5 hxx e
      by_cases hxm : x < -x
      · have HM : Hid (mxI x = -x) := Lib.hid (by unfold mxI; rw [if_pos hxm])
        go_wp2_with (at_builtin; refine wpList_app1 rfl _ _ 22 rfl w3.heap.size 2 (.int .i64 0) 8 Try.underlying22 (by kernel_rfl) rfl _ k _ rfl (H5.out.1.alloc _) _ _ (.int .i64 (-x)) rfl ?_ rfl ⟨by omega, by omega⟩ ?_ ?_)
        · simp
        · simp; omega
        · intro v' w' hown' hgr'
          have hb7 : Below w3.heap.size w3 w' := by
            have HBL := H5.out.2
            have h1 : Below w3.heap.size w3 _ := Below.alloc HBL (by omega) (.cells #[.int .i64 (-x)] 2)
            exact h1.grown hgr' (by simp; omega) (own_ge H5.out.1)
          have ho7 : w'.ownsRow w3.heap.size 2 1 v' (k + 1) (il (fnL (k + 1) (fun i => mxI ((nz xs)[i]?.getD 0)))) := by rw [fnL_next, il, List.map_append, HD.out, HM.out]; exact hown'
          have H7 := Lib.hid (And.intro ho7 hb7)
          clear hown' hgr' hb7 ho7
          go_wp2_with fail
          go_roundw
          case rel => exact ⟨k + 1, by omega, by go_num, H7.out⟩
          case measure => simp [intOf]; omega
      · have HM : Hid (mxI x = x) := Lib.hid (by unfold mxI; rw [if_neg hxm])
        go_wp2_with (at_builtin; refine wpList_app1 rfl _ _ 22 rfl w3.heap.size 2 (.int .i64 0) 8 Try.underlying22 (by kernel_rfl) rfl _ k _ rfl (H5.out.1.alloc _) _ _ (.int .i64 (x)) rfl ?_ rfl ⟨by omega, by omega⟩ ?_ ?_)
        · omega
        · intro v' w' hown' hgr'
          have hb7 : Below w3.heap.size w3 w' := by
            have HBL := H5.out.2
            have h1 : Below w3.heap.size w3 _ := Below.alloc HBL (by omega) (.cells #[.int .i64 (x)] 2)
            exact h1.grown hgr' (by simp; omega) (own_ge H5.out.1)
          have ho7 : w'.ownsRow w3.heap.size 2 1 v' (k + 1) (il (fnL (k + 1) (fun i => mxI ((nz xs)[i]?.getD 0)))) := by rw [fnL_next, il, List.map_append, HD.out, HM.out]; exact hown'
          have H7 := Lib.hid (And.intro ho7 hb7)
          clear hown' hgr' hb7 ho7
          go_wp2_with fail
          go_roundw
          case rel => exact ⟨k + 1, by omega, by go_num, H7.out⟩
          case measure => simp [intOf]; omega
    · have e : n = k := by omega
      subst e
      rw [← HAB.out] at hown
      obtain ⟨ao2, c2, rfl, hc2⟩ := own_cap hown (by omega)
      have H7 : Hid (Holds wr ao2 (il (abL (nz xs))) ∧ Holds wr (some ⟨g, 0, none⟩) (il (nz xs)) ∧ Below w.heap.size w wr) := Lib.hid ⟨(Row.of_own hown).holds, H3.out.1.below hb5, Bel_next H3.out.2 hb5⟩
      have HSP : Hid (sgnP xs = sq (fun s => c1 (rN (sgnR xs)) n s) ((sgnO xs).toNat + 1) ∧ sgnO xs = ownK (nz xs) (sgnR xs) n) := Lib.hid ⟨by rw [sgnP, HN.out], by rw [sgnO, HN.out]⟩
      have HLL : Hid ((abL (nz xs)).length = n) := Lib.hid (by rw [abL_len, HN.out])
      have HRL : Hid ((sgnR xs).length = n) := Lib.hid (by rw [sgnR_len, HN.out])
      have HPL : Hid (posL (sgnR xs)) := Lib.hid (rkL_pos _ (by rw [HLL.out]; exact hn40))
      have HB81 : Hid (absLe 81 (sgnR xs)) := Lib.hid (rkL_abs _ (by rw [HLL.out]; exact hn40))
      have HW : Hid (wrap64 ((2 : Int) ^ n) = ((2 ^ n : Nat) : Int)) := Lib.hid (by
        have h : 2 ^ n ≤ 2 ^ 40 := Nat.pow_le_pow_right (by omega) hn40
        rw [show ((2 : Int) ^ n) = ((2 ^ n : Nat) : Int) by simp]
        generalize 2 ^ n = M at h
        unfold wrap64
        omega)
      clear hown hb5 H5 hz5 hlk hk HAB HBD HA HO H3 H2
      go_wp2_with fail
      refine (show Calls _ _ #[.slice ao2 n c2] _ _ from HLL.out ▸ ranksOf_cop (abL (nz xs)) ao2 c2 wr H7.out.1 (by rw [HLL.out]; omega)).mono ?_
      rintro e w4 ⟨ao4, rfl, hrow, hb⟩
      have H8 : Hid (Holds w4 ao4 (il (sgnR xs)) ∧ Holds w4 (some ⟨g, 0, none⟩) (il (nz xs)) ∧ Below w.heap.size w w4) := Lib.hid ⟨hrow.holds, H7.out.2.1.below hb, Bel_next H7.out.2.2 hb⟩
      clear hrow hb
      obtain ⟨P, hP⟩ : ∃ P, sgnP xs = P := ⟨_, rfl⟩
      rw [hP] at HSP
      have HPX := Lib.hid hP
      clear hP
      generalize sgnO xs = O at HSP
      generalize sgnR xs = rk at *
      generalize nz xs = l at *
      obtain ⟨own, howi⟩ : ∃ own : Nat, ownK l rk n = (own : Int) := ⟨_, (Int.toNat_of_nonneg (ownK_le HPL.out n (by rw [HRL.out]; exact Nat.le_refl _)).1).symm⟩
      have hom : own ≤ 3240 := by
        have h1 := (ownK_le (l := l) HPL.out n (by rw [HRL.out]; exact Nat.le_refl _)).2
        have h2 := (sumK_le HB81.out n).2
        rw [howi] at h1
        have : 81 * n ≤ 81 * 40 := Nat.mul_le_mul_left _ hn40
        omega
      have HOT := Lib.hid howi
      have HPP : Hid (P = sq (fun s => c1 (rN rk) n s) (own + 1)) := Lib.hid (by rw [HSP.out.1, HSP.out.2, howi, Int.toNat_natCast])
      clear howi
      go_wp2_with fail
      go_loop [10, 43] (fun o i => ∃ q : Nat, q ≤ n ∧ i = .int .i64 (q : Int) ∧ o = .int .i64 (ownK l rk q)) (fun _ i => n - (intOf i).toNat)
      case atStart => exact ⟨0, Nat.zero_le _, rfl, rfl⟩
      case round =>
        obtain ⟨q, hq, rfl, rfl⟩ := hrel
        by_cases hlq : q < n
        · have hlq' : (q : Int) < n := by omega
          have hob := ownK_le (l := l) HPL.out q (by rw [HRL.out]; omega)
          have hsb := sumK_le HPL.out.abs q
          have hrb := HPL.out.abs q
          have HNX : Hid (ownK l rk (q + 1) = ownK l rk q + (if 0 < l[q]?.getD 0 then rk[q]?.getD 0 else 0)) := Lib.hid rfl
          obtain ⟨b1, o1, e1, hm⟩ := H8.out.2.1 q (by rw [il_len, HN.out]; exact hlq)
          obtain ⟨rfl, rfl⟩ : g = b1 ∧ 0 = o1 := by simpa using e1
          rw [il_get _ _ (by rw [HN.out]; exact hlq), Nat.zero_add] at hm
          obtain ⟨b2, o2, e2, hr⟩ := H8.out.1 q (by rw [il_len, HRL.out]; exact hlq)
          rw [il_get _ _ (by rw [HRL.out]; exact hlq)] at hr
          by_cases hp : 0 < l[q]?.getD 0
          · rw [if_pos hp] at HNX
            generalize l[q]?.getD 0 = y at hm hp
            generalize rk[q]?.getD 0 = x at hr hrb HNX
            generalize ownK l rk q = t at hob HNX ⊢
            generalize sumK rk q = t2 at hob hsb
            subst e2
            go_wp2_with fail
            go_round
            case rel => exact ⟨q + 1, by omega, by go_num, by rw [HNX.out]⟩
            case measure => simp [intOf]; omega
          · rw [if_neg hp, Int.add_zero] at HNX
            generalize l[q]?.getD 0 = y at hm hp
            clear hr
            generalize ownK l rk q = t at hob HNX ⊢
            go_wp2_with fail
            go_round
            case rel => exact ⟨q + 1, by omega, by go_num, by rw [HNX.out]⟩
            case measure => simp [intOf]; omega
        · have e : n = q := by omega
          subst e
          rw [HOT.out]
          have HWU : Hid (∀ (ca : Nat) (w : World), Holds w ao4 (il rk) → Calls Try.prog 51 #[.slice ao4 n ca, .int .i64 own] w (RetL (n + 1) (il (wyL rk own)) (fun s => s) w)) := Lib.hid (fun ca w h => by
            have := waysUpTo_any rk own ao4 ca w h (fun i hi => by have := HPL.out i hi; omega) (by rw [HRL.out]; exact hn40) (by omega)
            rwa [HRL.out] at this)
          have HSU : Hid (∀ (ao : Option Addr) (c : Nat) (w : World), Holds w ao (il (wyL rk own)) → Calls Try.prog 50 #[.slice ao (n + 1) c] w (fun e w' => e = .returned (.int .i64 (P : Int)) ∧ w = w')) := Lib.hid (fun ao c w h => by
            have hb : absLe (1099511627776 * 3241) (wyL rk own) := fnL_abs _ _ _ (fun k => Nat.le_trans (wyS_le rk own k (by rw [HRL.out]; exact hn40)) (Nat.mul_le_mul_left _ (by omega)))
            have hs := sumOf_any (wyL rk own) (1099511627776 * 3241) (n + 1) (by rw [wyL_len, HRL.out]) ao c w h hb (by omega) (by omega)
            have e : sumK (wyL rk own) (n + 1) = (P : Int) := by
              rw [wyL, sumK_fnL _ _ _ (by rw [HRL.out]; exact Nat.le_refl _), HPP.out]
              congr 1
              show sq (fun k => sq (fun s => cw (rN rk) rk.length k s) (own + 1)) (n + 1) = _
              rw [sq_swap]
              exact sq_ext (fun s _ => by rw [HRL.out]; exact cw_sum (rN rk) n n s (Nat.le_refl _))
            rwa [e] at hs)
          go_wp2_with fail
          go_region_with (first | (go_at_call 51; refine (HWU.out _ _ (by exact H8.out.1)).mono ?_; rintro e w5 ⟨ao5, c5, rfl, hrow, hb⟩) | (go_at_call 50; refine (HSU.out _ _ _ (by exact hrow.holds)).mono ?_; rintro e w6 ⟨rfl, rfl⟩))
          have HW2 : Hid (IntKind.i64.wrap ((2 : Int) ^ n) = (2 : Int) ^ n) := Lib.hid (by
            have h : 2 ^ n ≤ 2 ^ 40 := Nat.pow_le_pow_right (by omega) hn40
            rw [show ((2 : Int) ^ n) = ((2 ^ n : Nat) : Int) by simp]
            generalize 2 ^ n = M at h
            rw [IntKind.wrap_i64]
            first | omega | (unfold wrap64; omega))
          all_goals
            go_wp2_with fail
            go_ret3
            have HBL := H8.out.2.2
            have hd : Below w.heap.size w w4.drew := (by repeat (first | with_reducible exact Below.refl _ _ | with_reducible exact HBL | with_reducible refine Below.drew ?_ | with_reducible refine Bel_drewN ?_ _ | with_reducible refine Below.alloc ?_ (by first | omega | (simp; done) | (simp; omega)) _ | with_reducible refine Below.setCell ?_ (by first | omega | (simp; done) | (simp; omega)) _))
            refine ⟨?_, Bel_next hd hb⟩
            simp [Act.put]
            exact ⟨by rw [HPX.out], HW2.out⟩
set_option maxRecDepth 100000 in
set_option maxHeartbeats 2000000 in
theorem implSigned_no (xs : List Int) (ao : Option Addr) (ca : Nat) (w : World) (hv : ¬ sgnC xs) (hx : Holds w ao (il xs)) (hl : xs.length ≤ 1048576) :
    Calls Try.prog 17 #[.slice ao xs.length ca] w (RetB (.tuple #[.int .i64 0, .int .i64 0, .bool false]) w) := by
  have HX := Lib.hid hx
  by_cases hs : isSam xs
  · have hz : nz xs = [] := by
      by_cases h : nz xs = []
      · exact h
      · exact absurd ⟨hs, h⟩ hv
    have HZ : Hid ((nzK xs xs.length).length = 0) := Lib.hid (by show (nz xs).length = 0; rw [hz]; rfl)
    have HS := Lib.hid hs
    have h1 := hs.1.1
    have h1' := hs.1.2
    clear hv hx hs hz
    go_enter Try.func17, Try.ntmps17
    go_wp2_with (first | (go_at_call 46; refine (isSample_any xs _ _ _ HX.out (by omega)).mono ?_; rintro e w1 ⟨rfl, rfl⟩; rw [samB_yes HS.out]))
    refine (clone_own xs xs.length rfl _ _ _ HX.out h1 (by omega)).mono ?_
    rintro e w2 ⟨v, rfl, hown, hb⟩
    obtain ⟨g, cap, rfl, hg, hrow, hnc, hcm⟩ := ORow.of_own hown (by omega) rfl
    have H2 := Lib.hid (And.intro hrow (And.intro hb hg))
    clear hown hb hrow
    go_wp2_with fail
    refine (deleteZero_any xs xs.length g cap _ H2.out.1 h1' hnc hcm).mono ?_
    rintro e w3 ⟨rfl, hrow, hgr⟩
    have H3 : Hid (Below w.heap.size w w3) := Lib.hid (H2.out.2.1.grown hgr H2.out.2.1.size (fun i hi => by injection hi with hi; omega))
    clear hrow hgr
    rw [HZ.out]
    go_wp2_with fail
    go_ret3
    exact ⟨rfl, H3.out⟩
  · have HS := Lib.hid hs
    clear hx hv hs
    go_enter Try.func17, Try.ntmps17
    go_wp2_with (first | (go_at_call 46; refine (isSample_any xs _ _ _ HX.out hl).mono ?_; rintro e w1 ⟨rfl, rfl⟩; rw [samB_no HS.out]))
    go_ret3
    exact ⟨rfl, (by repeat (first | with_reducible exact Below.refl _ _ | with_reducible exact HBL | with_reducible refine Below.drew ?_ | with_reducible refine Bel_drewN ?_ _ | with_reducible refine Below.alloc ?_ (by first | omega | (simp; done) | (simp; omega)) _ | with_reducible refine Below.setCell ?_ (by first | omega | (simp; done) | (simp; omega)) _))⟩
end Go.Proofs.Ytbjcomjokkhaeaa
