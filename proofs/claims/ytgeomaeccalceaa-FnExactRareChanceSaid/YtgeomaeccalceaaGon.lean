/- Going on from a state, both sides. -/
import Derived.Test.YtgeomaeccalceaaChv
import Derived.BigQuiet
namespace Go.Proofs.Ytgeomaeccalceaa
open Go Go.RowKit Fl Vag
set_option linter.unusedVariables false

/-- Does a sum pass a share? -/
def overV (v : Option Nat) (u : Nat) : Bool := match v with | some m => gtB m u | none => false
theorem over_of_Fv {v : Option Nat} {r u : Nat} (h : Fv .f32 v r) : gtB r u = overV v u := by
  have h2 := h.2
  unfold overV
  cases e : v with
  | none => rw [e] at h2; exact (nan_ord h2).2.2.2
  | some d => rw [e] at h2; rw [av_eq h2]
/-- The state to which one goes with n numbers left from k on: the first one up to which the sum passes the share, else the last one with a number greater than 0, else what there was. -/
def onF (xs : List Nat) (u : Nat) : Nat → Nat → Nat → Nat
  | 0, _, last => last
  | n + 1, k, last => if overV (sumA .f32 (xs.take (k + 1))) u = true then k else onF xs u n (k + 1) (if gtB (xs[k]?.getD 0) 0 = true then k else last)
theorem onF_over {xs : List Nat} {u n k last : Nat} (h : overV (sumA .f32 (xs.take (k + 1))) u = true) : onF xs u (n + 1) k last = k := by
  unfold onF; rw [if_pos h]
theorem onF_gt {xs : List Nat} {u n k last : Nat} (h : overV (sumA .f32 (xs.take (k + 1))) u = false) (hg : gtB (xs[k]?.getD 0) 0 = true) : onF xs u (n + 1) k last = onF xs u n (k + 1) k := by
  rw [onF, if_neg (by rw [h]; simp), if_pos hg]
theorem onF_le {xs : List Nat} {u n k last : Nat} (h : overV (sumA .f32 (xs.take (k + 1))) u = false) (hg : gtB (xs[k]?.getD 0) 0 = false) : onF xs u (n + 1) k last = onF xs u n (k + 1) last := by
  rw [onF, if_neg (by rw [h]; simp), if_neg (by rw [hg]; simp)]
theorem onF_lt {xs : List Nat} {u N : Nat} : ∀ {n k last : Nat}, last < N → k + n ≤ N → onF xs u n k last < N
  | 0, _, _, h, _ => h
  | n + 1, k, last, h, hk => by
    unfold onF
    split
    · omega
    · refine onF_lt ?_ (by omega)
      split <;> omega
theorem onF_any {xs : List Nat} {u : Nat} (a b : Nat) : ∀ {n k : Nat}, (∃ j, k ≤ j ∧ j < k + n ∧ gtB (xs[j]?.getD 0) 0 = true) → onF xs u n k a = onF xs u n k b
  | 0, k, ⟨j, h1, h2, _⟩ => absurd h2 (by omega)
  | n + 1, k, ⟨j, h1, h2, h3⟩ => by
    unfold onF
    split
    · rfl
    · by_cases e : gtB (xs[k]?.getD 0) 0 = true
      · rw [if_pos e, if_pos e]
      · rw [if_neg e, if_neg e]
        refine onF_any a b ⟨j, ?_, by omega, h3⟩
        rcases Nat.lt_or_ge k j with h | h
        · omega
        · obtain rfl : j = k := by omega
          exact absurd h3 e
theorem sumA_take (xs : List Nat) (k : Nat) (hk : k < xs.length) : sumA .f32 (xs.take (k + 1)) = aop .add .f32 (sumA .f32 (xs.take k)) (av .f32 (xs[k]?.getD 0)) := by
  rw [List.take_add_one, List.getElem?_eq_getElem hk]
  simp only [Option.toList_some, Option.getD_some]
  exact sumA_snoc _ _ _
theorem add_null {x : Nat} (hx : av .f32 x = some x) (h : fK x = 0) : aop .add .f32 (some 0) (av .f32 x) = some 0 := by
  rw [hx]
  show Ieee.single.add 0 x = some 0
  have e0 : Ieee.single.read 0 = .number false 0 (-149) := by decide +kernel
  rcases read_all x with ⟨s, m, i, e, h1, h2, h3⟩ | ⟨s, e⟩ | ⟨s, f, e⟩
  · have hm : m = 0 := by
      unfold fK at h; rw [e] at h
      have h' : Ieee.signed s m (i + 149).toNat = 0 := h
      unfold Ieee.signed at h'
      rw [Nat.shiftLeft_eq] at h'
      have hp : 0 < 2 ^ (i + 149).toNat := Nat.two_pow_pos _
      have h4 : m * 2 ^ (i + 149).toNat = 0 := by split at h' <;> omega
      rcases Nat.mul_eq_zero.1 h4 with h5 | h5
      · exact h5
      · omega
    subst hm
    unfold Ieee.Format.add
    rw [e0, e]
    have hb : min (-149 : Int) i = -149 := by omega
    have hz : ∀ t (q : Nat), Ieee.signed t 0 q = 0 := fun t q => by unfold Ieee.signed; rw [Nat.zero_shiftLeft]; cases t <;> rfl
    simp only [Ieee.Datum.sum, hb, hz, Option.map_some]
    cases s <;> decide +kernel
  · exfalso; unfold fK at h; rw [e] at h
    cases s <;> exact absurd h (by decide +kernel)
  · exfalso
    unfold av at hx
    have : (FloatKind.f32.format.read x).isNaN = true := by show (Ieee.single.read x).isNaN = true; rw [e]; rfl
    rw [this] at hx
    cases hx
theorem okRow.pos {xs : List Nat} (h : okRow xs) : ∃ j, 0 ≤ j ∧ j < 0 + xs.length ∧ gtB (xs[j]?.getD 0) 0 = true := by
  apply Classical.byContradiction
  intro hn
  have hz : ∀ j, j < xs.length → gtB (xs[j]?.getD 0) 0 = false := fun j hj => by
    cases e : gtB (xs[j]?.getD 0) 0 with
    | false => rfl
    | true => exact absurd ⟨j, Nat.zero_le _, by omega, e⟩ hn
  have hs : ∀ k, k ≤ xs.length → sumA .f32 (xs.take k) = some 0 := by
    intro k
    induction k with
    | zero => intro _; rfl
    | succ k ih =>
      intro hk
      have hfin := sum_fin (near_fin h.2) k (by omega)
      have hav : av .f32 (xs[k]?.getD 0) = some (xs[k]?.getD 0) := fin_self hfin
      have hge := part_ge (h.1 k (by omega))
      have hz0 : av .f32 0 = some 0 := by decide +kernel
      have hk0 : fK 0 = 0 := by decide +kernel
      have hle := hz k (by omega)
      rw [gtB_K hav hz0, hk0] at hle
      rw [geB_K hav hz0, hk0] at hge
      have h1 := of_decide_eq_false hle
      have h2 := of_decide_eq_true hge
      rw [sumA_take xs k (by omega), ih (by omega)]
      exact add_null hav (by omega)
  have := hs xs.length (Nat.le_refl _)
  rw [List.take_length] at this
  have h2 := h.2
  rw [this] at h2
  exact absurd h2 (by decide +kernel)
set_option maxRecDepth 100000 in
set_option maxHeartbeats 2000000 in
theorem goOn_any (ss : List Nat) (n i u b o m c : Nat) (w : World) (hx : Holds w (some ⟨b, o, none⟩) (fl .f32 ss)) (hi : i < n) (hn : n ≤ 12) (hm : m = n * n) (hl : ss.length = m) (hc : m ≤ c) :
    Calls Try.prog 71 #[.agg #[.int .i64 n, .slice (some ⟨b, o, none⟩) m c], .int .i64 i, .float .f32 u] w (RetB (.int .i64 (onF (rowA n i ss) u n 0 0 : Nat)) w) := by
  have HM := Lib.hid (And.intro hm (And.intro hi (And.intro hn hc)))
  have HR0 : Hid (Holds w (some ⟨b, o + i * n, none⟩) (fl .f32 (rowA n i ss)) ∧ (rowA n i ss).length = n) := Lib.hid ⟨hx.rowA n i, rowA_len (by have := row_in hi; omega)⟩
  generalize rowA n i ss = xs at HR0 ⊢
  have H0 : Hid (Below w.heap.size w (w.alloc (.cells #[.int .i64 n, .slice (some ⟨b, o, none⟩) m c] 34))) := Lib.hid (by repeat (first | with_reducible exact Below.refl _ _ | with_reducible exact HBL | with_reducible refine Below.drew ?_ | with_reducible refine Bel_drewN ?_ _ | with_reducible refine Below.alloc ?_ (by first | omega | (simp; done) | (simp; omega)) _ | with_reducible refine Below.setCell ?_ (by first | omega | (simp; done) | (simp; omega)) _))
  have hn12 : (n : Int) ≤ 12 := by omega
  clear hx hm hl hi hn hc
  go_enter Try.func71, Try.ntmps71
  go_wp2_with (first | (go_at_call 113; fail))
  refine (from_any n i b o m c _ HM.out.2.1 HM.out.2.2.1 HM.out.1 HM.out.2.2.2).mono ?_
  rintro e w1 ⟨rfl, hb⟩
  have H1 := Lib.hid (Bel_next H0.out hb)
  have HX := Lib.hid (HR0.out.1.below H1.out)
  have HL := Lib.hid HR0.out.2
  clear hb H0 HR0
  go_wp2_with fail
  go_loopw [7, 8, 15] (fun s l j wr => ∃ (k r la q : Nat), k ≤ n ∧ j = .int .i64 k ∧ s = .float .f32 r ∧ l = .int .i64 la ∧ Fv .f32 (sumA .f32 (xs.take k)) r ∧ onF xs u (n - k) k la = onF xs u n 0 0 ∧ wr = w1.drewN q) (fun _ _ j _ => n - (intOf j).toNat)
  case atStart => exact ⟨0, 0, 0, 0, Nat.zero_le _, rfl, rfl, rfl, ⟨by decide, av_zero .f32⟩, rfl, rfl⟩
  case round =>
    obtain ⟨k, r, la, q, hk, rfl, rfl, rfl, hr, hon, rfl⟩ := hrel
    have HR := Lib.hid (And.intro hr hon)
    clear hr hon
    have hkn : (k : Int) ≤ n := by omega
    by_cases hlt : k < n
    · have hlt' : (k : Int) < n := by omega
      obtain ⟨b', o', e', hcx⟩ := HX.out k (by rw [fl_len32, HL.out]; exact hlt)
      cases e'
      rw [fl_get _ _ _ (by rw [HL.out]; exact hlt)] at hcx
      obtain ⟨x, hx⟩ : ∃ x, x = xs[k]?.getD 0 := ⟨_, rfl⟩
      rw [← hx] at hcx
      have HE := Lib.hid hx
      clear hx
      have HS : Hid (sumA .f32 (xs.take (k + 1)) = aop .add .f32 (sumA .f32 (xs.take k)) (av .f32 x)) := Lib.hid (by rw [HE.out]; exact sumA_take xs k (by rw [HL.out]; exact hlt))
      obtain ⟨j, hj⟩ : ∃ j, n - k = j + 1 := ⟨n - k - 1, by omega⟩
      have HJ : Hid (n - k = j + 1 ∧ n - (k + 1) = j) := Lib.hid ⟨hj, by omega⟩
      clear hj
      cases hbg : gtB x 0 with
      | true =>
        have hbg' := gt_factB hbg
        have HG := Lib.hid hbg
        clear hbg
        go_wp2_with (first | (refine wpList_farith_g _ _ _ _ _ .f32 _ _ rfl rfl rfl rfl ?_; intro r1 n1 hr1; obtain ⟨bq, hbq⟩ : ∃ t, gtB r1 u = t := ⟨_, rfl⟩; have hbq' := gt_factB hbq; have HQ := Lib.hid hbq; have HF := Lib.hid hr1; clear hbq hr1))
        · have hq : bq = true := by assumption
          have HF2 : Fv .f32 (sumA .f32 (xs.take (k + 1))) r1 := by rw [HS.out, ← HR.out.1.2]; exact HF.out
          have hon := HR.out.2
          rw [HJ.out.1, onF_over (by rw [← over_of_Fv HF2, HQ.out]; exact hq)] at hon
          go_ret
          exact ⟨by rw [← hon]; rfl, Bel_drewN H1.out _⟩
        · have hq : bq = false := by assumption
          have HF2 : Fv .f32 (sumA .f32 (xs.take (k + 1))) r1 := by rw [HS.out, ← HR.out.1.2]; exact HF.out
          have hon := HR.out.2
          rw [HJ.out.1, onF_gt (by rw [← over_of_Fv HF2, HQ.out]; exact hq) (by rw [← HE.out]; exact HG.out), ← HJ.out.2] at hon
          have HN := Lib.hid (And.intro HF2 hon)
          clear hon HF2
          go_roundw
          case rel => exact ⟨k + 1, r1, k, _, by omega, by go_num, rfl, rfl, HN.out.1, HN.out.2, rfl⟩
          case measure => simp [intOf]; omega
      | false =>
        have hbg' := gt_factB hbg
        have HG := Lib.hid hbg
        clear hbg
        go_wp2_with (first | (refine wpList_farith_g _ _ _ _ _ .f32 _ _ rfl rfl rfl rfl ?_; intro r1 n1 hr1; obtain ⟨bq, hbq⟩ : ∃ t, gtB r1 u = t := ⟨_, rfl⟩; have hbq' := gt_factB hbq; have HQ := Lib.hid hbq; have HF := Lib.hid hr1; clear hbq hr1))
        · have hq : bq = true := by assumption
          have HF2 : Fv .f32 (sumA .f32 (xs.take (k + 1))) r1 := by rw [HS.out, ← HR.out.1.2]; exact HF.out
          have hon := HR.out.2
          rw [HJ.out.1, onF_over (by rw [← over_of_Fv HF2, HQ.out]; exact hq)] at hon
          go_ret
          exact ⟨by rw [← hon]; rfl, Bel_drewN H1.out _⟩
        · have hq : bq = false := by assumption
          have HF2 : Fv .f32 (sumA .f32 (xs.take (k + 1))) r1 := by rw [HS.out, ← HR.out.1.2]; exact HF.out
          have hon := HR.out.2
          rw [HJ.out.1, onF_le (by rw [← over_of_Fv HF2, HQ.out]; exact hq) (by rw [← HE.out]; exact HG.out), ← HJ.out.2] at hon
          have HN := Lib.hid (And.intro HF2 hon)
          clear hon HF2
          go_roundw
          case rel => exact ⟨k + 1, r1, la, _, by omega, by go_num, rfl, rfl, HN.out.1, HN.out.2, rfl⟩
          case measure => simp [intOf]; omega
    · obtain rfl : k = n := by omega
      go_wp2
      go_ret
      have hon := HR.out.2
      rw [Nat.sub_self] at hon
      exact ⟨by rw [← hon]; rfl, Bel_drewN H1.out _⟩
set_option maxRecDepth 100000 in
set_option maxHeartbeats 2000000 in
theorem l07On_any (ss : List Nat) (n i u g b o m c : Nat) (w : World) (hw : Whole w g 34 #[.int .i64 n, .slice (some ⟨b, o, none⟩) m c]) (hx : Holds w (some ⟨b, o, none⟩) (fl .f32 ss)) (hi : i < n) (hn : n ≤ 12) (hm : m = n * n) (hl : ss.length = m) (hp : okRow (rowA n i ss)) :
    Calls Try.prog 66 #[.pointer (some ⟨g, 0, none⟩), .int .i64 i, .float .f32 u] w (RetB (.int .i64 (onF (rowA n i ss) u n 0 0 : Nat)) w) := by
  have HR0 : Hid (Holds w (some ⟨b, o + i * n, none⟩) (fl .f32 (rowA n i ss)) ∧ (rowA n i ss).length = n) := Lib.hid ⟨hx.rowA n i, rowA_len (by have := row_in hi; omega)⟩
  have HP := Lib.hid hp.pos
  have hin := row_in hi
  have hsq := sq_le hn
  obtain ⟨q0, hq0⟩ : ∃ q, i * n = q := ⟨_, rfl⟩
  rw [hq0] at HR0 hin
  have e1 : (i : Int) * (n : Int) = (q0 : Int) := by rw [← hq0]; simp
  have b1 : (q0 : Int) + n ≤ m := by omega
  have b2 : (m : Int) ≤ 144 := by omega
  generalize rowA n i ss = xs at HR0 HP ⊢
  have hn12 : (n : Int) ≤ 12 := by omega
  have hi12 : (i : Int) ≤ 12 := by omega
  have HL := Lib.hid HR0.out.2
  have hfr := hw.facts.2
  have HX := Lib.hid HR0.out.1
  have HW := Lib.hid hw
  have hcg := hw.cell
  have hon0 : onF xs u n 0 i = onF xs u n 0 0 := onF_any i 0 (by rw [← HL.out]; exact HP.out)
  have HON := Lib.hid hon0
  clear hx hm hl hi hn hp hq0 hin hsq HR0 hw HP hon0
  go_enter Try.func66, Try.ntmps66
  go_wp2
  go_loopw [7, 8, 9] (fun s l j wr => ∃ (k r la q : Nat), k ≤ n ∧ j = .int .i64 k ∧ s = .float .f32 r ∧ l = .int .i64 la ∧ Fv .f32 (sumA .f32 (xs.take k)) r ∧ onF xs u (n - k) k la = onF xs u n 0 0 ∧ wr = w.drewN q) (fun _ _ j _ => n - (intOf j).toNat)
  case atStart => exact ⟨0, 0, i, 0, Nat.zero_le _, rfl, rfl, rfl, ⟨by decide, av_zero .f32⟩, HON.out, rfl⟩
  case round =>
    obtain ⟨k, r, la, q, hk, rfl, rfl, rfl, hr, hon, rfl⟩ := hrel
    have HR := Lib.hid (And.intro hr hon)
    clear hr hon
    have hkn : (k : Int) ≤ n := by omega
    by_cases hlt : k < n
    · have hlt' : (k : Int) < n := by omega
      obtain ⟨b', o', e', hcx⟩ := HX.out k (by rw [fl_len32, HL.out]; exact hlt)
      cases e'
      rw [fl_get _ _ _ (by rw [HL.out]; exact hlt), Nat.add_assoc] at hcx
      obtain ⟨x, hx⟩ : ∃ x, x = xs[k]?.getD 0 := ⟨_, rfl⟩
      rw [← hx] at hcx
      have HE := Lib.hid hx
      obtain ⟨f, hf⟩ : ∃ f, q0 + k = f := ⟨_, rfl⟩
      have hw1 : IntKind.i64.wrap ((i : Int) * (n : Int)) = (q0 : Int) := by rw [e1, IntKind.wrap_i64]; omega
      have hw2 : IntKind.i64.wrap ((q0 : Int) + (k : Int)) = (f : Int) := by rw [IntKind.wrap_i64]; omega
      have hf0 : (0 : Int) ≤ (f : Int) := by omega
      have b3 : (f : Int) < m := by omega
      rw [hf] at hcx
      clear hx hf
      have HS : Hid (sumA .f32 (xs.take (k + 1)) = aop .add .f32 (sumA .f32 (xs.take k)) (av .f32 x)) := Lib.hid (by rw [HE.out]; exact sumA_take xs k (by rw [HL.out]; exact hlt))
      obtain ⟨j, hj⟩ : ∃ j, n - k = j + 1 := ⟨n - k - 1, by omega⟩
      have HJ : Hid (n - k = j + 1 ∧ n - (k + 1) = j) := Lib.hid ⟨hj, by omega⟩
      clear hj
      cases hbg : gtB x 0 with
      | true =>
        have hbg' := gt_factB hbg
        have HG := Lib.hid hbg
        clear hbg
        go_wp2_with fail
        go_quiet (fail)
        go_wp2_with (first | (refine wpList_farith_g _ _ _ _ _ .f32 _ _ rfl rfl rfl rfl ?_; intro r1 n1 hr1; obtain ⟨bq, hbq⟩ : ∃ t, gtB r1 u = t := ⟨_, rfl⟩; have hbq' := gt_factB hbq; have HQ := Lib.hid hbq; have HF := Lib.hid hr1; clear hbq hr1))
        · have hq : bq = true := by assumption
          have HF2 : Fv .f32 (sumA .f32 (xs.take (k + 1))) r1 := by rw [HS.out, ← HR.out.1.2]; exact HF.out
          have hon := HR.out.2
          rw [HJ.out.1, onF_over (by rw [← over_of_Fv HF2, HQ.out]; exact hq)] at hon
          go_ret
          exact ⟨by rw [← hon]; rfl, Bel_drewN (Below.refl _ _) _⟩
        · have hq : bq = false := by assumption
          have HF2 : Fv .f32 (sumA .f32 (xs.take (k + 1))) r1 := by rw [HS.out, ← HR.out.1.2]; exact HF.out
          have hon := HR.out.2
          rw [HJ.out.1, onF_gt (by rw [← over_of_Fv HF2, HQ.out]; exact hq) (by rw [← HE.out]; exact HG.out), ← HJ.out.2] at hon
          have HN := Lib.hid (And.intro HF2 hon)
          clear hon HF2
          go_roundw
          case rel => exact ⟨k + 1, r1, k, _, by omega, by go_num, rfl, rfl, HN.out.1, HN.out.2, rfl⟩
          case measure => simp [intOf]; omega
      | false =>
        have hbg' := gt_factB hbg
        have HG := Lib.hid hbg
        clear hbg
        go_wp2_with fail
        go_quiet (fail)
        go_wp2_with (first | (refine wpList_farith_g _ _ _ _ _ .f32 _ _ rfl rfl rfl rfl ?_; intro r1 n1 hr1; obtain ⟨bq, hbq⟩ : ∃ t, gtB r1 u = t := ⟨_, rfl⟩; have hbq' := gt_factB hbq; have HQ := Lib.hid hbq; have HF := Lib.hid hr1; clear hbq hr1))
        · have hq : bq = true := by assumption
          have HF2 : Fv .f32 (sumA .f32 (xs.take (k + 1))) r1 := by rw [HS.out, ← HR.out.1.2]; exact HF.out
          have hon := HR.out.2
          rw [HJ.out.1, onF_over (by rw [← over_of_Fv HF2, HQ.out]; exact hq)] at hon
          go_ret
          exact ⟨by rw [← hon]; rfl, Bel_drewN (Below.refl _ _) _⟩
        · have hq : bq = false := by assumption
          have HF2 : Fv .f32 (sumA .f32 (xs.take (k + 1))) r1 := by rw [HS.out, ← HR.out.1.2]; exact HF.out
          have hon := HR.out.2
          rw [HJ.out.1, onF_le (by rw [← over_of_Fv HF2, HQ.out]; exact hq) (by rw [← HE.out]; exact HG.out), ← HJ.out.2] at hon
          have HN := Lib.hid (And.intro HF2 hon)
          clear hon HF2
          go_roundw
          case rel => exact ⟨k + 1, r1, la, _, by omega, by go_num, rfl, rfl, HN.out.1, HN.out.2, rfl⟩
          case measure => simp [intOf]; omega
    · obtain rfl : k = n := by omega
      go_wp2
      go_ret
      have hon := HR.out.2
      rw [Nat.sub_self] at hon
      exact ⟨by rw [← hon]; rfl, Bel_drewN (Below.refl _ _) _⟩
end Go.Proofs.Ytgeomaeccalceaa
