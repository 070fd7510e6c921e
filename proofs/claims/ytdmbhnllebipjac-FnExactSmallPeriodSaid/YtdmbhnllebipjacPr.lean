/- Periods of small lines. -/
import Derived.Test.YtdmbhnllebipjacTl
import Derived.Test.YtdmbhnllebipjacIn0
namespace Go.Proofs.Ytdmbhnllebipjac
open Go Go.RowKit
set_option linter.unusedVariables false

/-- The table of places and the number behind k steps. -/
def perK (m a c x : Nat) : Nat → List Int × Nat
  | 0 => (List.replicate m 0, x)
  | k + 1 => ((perK m a c x k).1.set (perK m a c x k).2 ((k : Int) + 1), (a * (perK m a c x k).2 + c) % m)
/-- The place that is written at the number behind k steps. -/
def perE (m a c x k : Nat) : Int := (perK m a c x k).1[(perK m a c x k).2]?.getD 0
theorem perK_len (m a c x k : Nat) : (perK m a c x k).1.length = m := by
  induction k with
  | zero => simp [perK]
  | succ k ih => simp [perK, ih]
theorem perK_lt (m a c x k : Nat) (hx : x < m) : (perK m a c x k).2 < m := by
  cases k with
  | zero => exact hx
  | succ k => exact Nat.mod_lt _ (by omega)
theorem perK_up (m a c x k : Nat) : ∀ j : Nat, 0 ≤ (perK m a c x k).1[j]?.getD 0 ∧ (perK m a c x k).1[j]?.getD 0 ≤ k := by
  induction k with
  | zero => intro j; simp only [perK]; rw [List.getElem?_replicate]; split <;> simp
  | succ k ih =>
    intro j
    have := ih j
    simp only [perK]
    rw [List.getElem?_set]
    split
    · split
      · simp; omega
      · simp; omega
    · omega
theorem perE_up (m a c x k : Nat) : 0 ≤ perE m a c x k ∧ perE m a c x k ≤ k := perK_up m a c x k _
theorem count_set0 (l : List Int) (i : Nat) (v : Int) (hi : i < l.length) (h0 : l[i]?.getD 0 = 0) (hv : v ≠ 0) : (l.set i v).count 0 + 1 = l.count 0 := by
  have h0' : l[i] = 0 := by simpa [hi] using h0
  have hp : 0 < l.count 0 := List.count_pos_iff.2 (by rw [← h0']; exact List.getElem_mem hi)
  rw [List.count_set hi]
  simp [h0', hv]
  omega
theorem perK_count (m a c x k : Nat) (hx : x < m) (h : ∀ j, j < k → perE m a c x j = 0) : (perK m a c x k).1.count 0 + k = m := by
  induction k with
  | zero => simp [perK]
  | succ k ih =>
    have h1 := ih (fun j hj => h j (by omega))
    have h2 := count_set0 (perK m a c x k).1 (perK m a c x k).2 ((k : Int) + 1) (by rw [perK_len]; exact perK_lt _ _ _ _ _ hx) (h k (by omega)) (by omega)
    simp only [perK]
    omega
/-- It comes to a number again. -/
theorem per_stops (m a c x : Nat) (hx : x < m) : ∃ K, K ≤ m ∧ (∀ j, j < K → perE m a c x j = 0) ∧ perE m a c x K ≠ 0 := by
  have : ¬ ∀ j, j < m + 1 → perE m a c x j = 0 := fun h => by have := perK_count m a c x (m + 1) hx h; omega
  suffices H : ∀ n, (∀ j, j < n → perE m a c x j = 0) ∨ ∃ K, K < n ∧ (∀ j, j < K → perE m a c x j = 0) ∧ perE m a c x K ≠ 0 by
    rcases H (m + 1) with h | ⟨K, h1, h2⟩
    · exact absurd h this
    · exact ⟨K, by omega, h2⟩
  intro n
  induction n with
  | zero => left; intro j hj; omega
  | succ n ih =>
    rcases ih with h | ⟨K, h1, h2⟩
    · by_cases h0 : perE m a c x n = 0
      · left; intro j hj
        by_cases e : j = n
        · rw [e]; exact h0
        · exact h j (by omega)
      · exact .inr ⟨n, by omega, h, h0⟩
    · exact .inr ⟨K, by omega, h2⟩

theorem isBelow_yes (x m : Int) (h : 0 ≤ x ∧ x < m) (w : World) : Calls Try.prog 10 #[.int .i64 x, .int .i64 m] w (fun e w' => e = .returned (.bool true) ∧ w = w') := by
  go_enter Try.func10, Try.ntmps10
  go_wp2
  go_ret
  exact ⟨by simp, rfl⟩
theorem isBelow_no (x m : Int) (h : ¬(0 ≤ x ∧ x < m)) (w : World) : Calls Try.prog 10 #[.int .i64 x, .int .i64 m] w (fun e w' => e = .returned (.bool false) ∧ w = w') := by
  by_cases h0 : 0 ≤ x
  · have h1 : decide (x < m) = false := by simp; omega
    go_enter Try.func10, Try.ntmps10
    go_wp2
    go_ret
    exact ⟨by simp, rfl⟩
  · have h1 : decide (0 ≤ x) = false := by simpa using h0
    go_enter Try.func10, Try.ntmps10
    go_wp2
    go_ret
    exact ⟨by simp, rfl⟩
theorem implPeriod_yes (m a c x K : Nat) (w : World) (hm : 1 ≤ m ∧ m ≤ 4096) (ha : a < m) (hc : c < m) (hx : x < m) (hK : K ≤ m ∧ (∀ j, j < K → perE m a c x j = 0) ∧ perE m a c x K ≠ 0) :
    Calls Try.prog 6 #[.int .i64 m, .int .i64 a, .int .i64 c, .int .i64 x] w (RetB (.tuple #[.int .i64 (perE m a c x K - 1), .int .i64 ((K : Int) + 1 - perE m a c x K), .bool true]) w) := by
  have HK := Lib.hid hK
  have hmk := run_mk16 (P := Try.prog) w 28 2 m (by omega) Try.underlying28 (by kernel_rfl)
  clear hK
  go_enter Try.func6, Try.ntmps6
  go_wp2_with (go_at_call 10; refine (isBelow_yes _ _ (by omega) _).mono ?_; rintro e w' ⟨rfl, rfl⟩)
  clear hmk
  go_loopw [3, 12] (fun y p wr => ∃ k : Nat, k ≤ K ∧ p = .int .i64 ((k : Int) + 1) ∧ y = .int .i64 ((perK m a c x k).2 : Nat) ∧ Below w.heap.size w wr ∧ Whole wr w.heap.size 2 (il (perK m a c x k).1).toArray) (fun _ p _ => K + 1 - (intOf p).toNat)
  case atStart => exact ⟨0, Nat.zero_le _, rfl, rfl, (Below.refl _ _).alloc (Nat.le_refl _) _, tally_new _ _ _⟩
  case round =>
    obtain ⟨k, hk, rfl, rfl, hbel, hwh⟩ := hrel
    have HW := Lib.hid (And.intro hbel hwh)
    have hy := perK_lt m a c x k hx
    have hl := perK_len m a c x k
    have hcell := tally_cell hwh (perK m a c x k).2 (by rw [hl]; exact hy)
    have hfr := hwh.frozen (perK m a c x k).2
    have hup := perE_up m a c x k
    change wr.cell? _ = some (.int .i64 (perE m a c x k)) at hcell
    have hmul : 0 ≤ (a : Int) * ((perK m a c x k).2 : Int) ∧ (a : Int) * ((perK m a c x k).2 : Int) ≤ 16777216 := by
      have : a * (perK m a c x k).2 ≤ 4096 * 4096 := Nat.mul_le_mul (by omega) (by omega)
      rw [← Int.natCast_mul]; omega
    have HN : Hid ((((a : Int) * ((perK m a c x k).2 : Int) + c) % m) = ((perK m a c x (k + 1)).2 : Nat)) := Lib.hid (by simp [perK])
    clear hwh hbel hl
    have hkm : (k : Int) ≤ 4096 := by have := HK.out.1; omega
    by_cases hlt : k < K
    · have h0 := HK.out.2.1 k hlt
      rw [h0] at hcell
      obtain ⟨y, ey⟩ : ∃ y, y = (perK m a c x k).2 := ⟨_, rfl⟩
      rw [← ey] at hcell hfr hmul hy HN ⊢
      have EY := Lib.hid ey
      clear h0 hup ey
      go_wp2
      go_roundw
      case rel =>
        refine ⟨k + 1, by omega, by go_num, by rw [HN.out], HW.out.1.setCell (Nat.le_refl _) _, ?_⟩
        have := tally_put HW.out.2 y ((k : Int) + 1)
        rw [EY.out] at this ⊢
        exact this
      case measure => simp [intOf]; omega
    · have E : Hid (k = K) := Lib.hid (by omega)
      have hne : perE m a c x k ≠ 0 := by rw [E.out]; exact HK.out.2.2
      obtain ⟨v, ev⟩ : ∃ v, v = perE m a c x k := ⟨_, rfl⟩
      obtain ⟨y, ey⟩ : ∃ y, y = (perK m a c x k).2 := ⟨_, rfl⟩
      rw [← ev] at hcell hne hup
      rw [← ey] at hcell hfr hmul hy ⊢
      have EV := Lib.hid ev
      clear ev ey
      have hpos : 0 < v := by omega
      clear hne
      go_wp2
      go_quiet (fail)
      go_wp2
      go_ret3
      refine ⟨?_, Bel_drewN HW.out.1 _⟩
      rw [← E.out, ← EV.out]
      rfl
theorem implPeriod_no (m a c x : Int) (w : World) (hv : ¬(1 ≤ m ∧ m ≤ 4096 ∧ (0 ≤ a ∧ a < m) ∧ (0 ≤ c ∧ c < m) ∧ (0 ≤ x ∧ x < m))) :
    Calls Try.prog 6 #[.int .i64 m, .int .i64 a, .int .i64 c, .int .i64 x] w (RetB (.tuple #[.int .i64 0, .int .i64 0, .bool false]) w) := by
  by_cases h1 : m < 1
  · clear hv
    go_enter Try.func6, Try.ntmps6
    go_wp2
    go_ret3
    exact ⟨rfl, Below.refl _ _⟩
  · have h1' : 1 ≤ m := by omega
    by_cases h2 : 4096 < m
    · clear hv h1
      go_enter Try.func6, Try.ntmps6
      go_wp2
      go_ret3
      exact ⟨rfl, Below.refl _ _⟩
    · have h2' : m ≤ 4096 := by omega
      have HV := Lib.hid hv
      clear hv h1 h2
      by_cases ha : 0 ≤ a ∧ a < m
      · by_cases hc : 0 ≤ c ∧ c < m
        · have hx : ¬(0 ≤ x ∧ x < m) := fun h => HV.out ⟨h1', h2', ha, hc, h⟩
          have HA := Lib.hid ha
          have HC := Lib.hid hc
          have HX := Lib.hid hx
          clear ha hc hx
          go_enter Try.func6, Try.ntmps6
          go_wp2_with fail
          refine (isBelow_yes _ _ HA.out _).mono ?_
          rintro e w1 ⟨rfl, rfl⟩
          go_wp2_with fail
          refine (isBelow_yes _ _ HC.out _).mono ?_
          rintro e w1 ⟨rfl, rfl⟩
          go_wp2_with fail
          refine (isBelow_no _ _ HX.out _).mono ?_
          rintro e w1 ⟨rfl, rfl⟩
          go_wp2_with fail
          go_ret3
          exact ⟨rfl, Below.refl _ _⟩
        · have HA := Lib.hid ha
          have HC := Lib.hid hc
          clear ha hc
          go_enter Try.func6, Try.ntmps6
          go_wp2_with fail
          refine (isBelow_yes _ _ HA.out _).mono ?_
          rintro e w1 ⟨rfl, rfl⟩
          go_wp2_with fail
          refine (isBelow_no _ _ HC.out _).mono ?_
          rintro e w1 ⟨rfl, rfl⟩
          go_wp2_with fail
          go_ret3
          exact ⟨rfl, Below.refl _ _⟩
      · have HA := Lib.hid ha
        clear ha
        go_enter Try.func6, Try.ntmps6
        go_wp2_with fail
        refine (isBelow_no _ _ HA.out _).mono ?_
        rintro e w1 ⟨rfl, rfl⟩
        go_wp2_with fail
        go_ret3
        exact ⟨rfl, Below.refl _ _⟩
theorem specPeriod_yes (m a c x K : Nat) (w : World) (hm : 1 ≤ m ∧ m ≤ 4096) (ha : a < m) (hc : c < m) (hx : x < m) (hK : K ≤ m ∧ (∀ j, j < K → perE m a c x j = 0) ∧ perE m a c x K ≠ 0) :
    Calls Try.prog 5 #[.int .i64 m, .int .i64 a, .int .i64 c, .int .i64 x] w (RetB (.tuple #[.int .i64 (perE m a c x K - 1), .int .i64 ((K : Int) + 1 - perE m a c x K), .bool true]) w) := by
  have HK := Lib.hid hK
  have hmk := run_mk16 (P := Try.prog) w 28 2 m (by omega) Try.underlying28 (by kernel_rfl)
  clear hK
  go_enter Try.func5, Try.ntmps5
  go_wp2_with (go_at_call 9; refine (l00In_yes _ _ _ (by omega) (by omega) _).mono ?_; rintro e w' ⟨rfl, rfl⟩)
  clear hmk
  go_loopw [3, 12] (fun y p wr => ∃ k : Nat, k ≤ K ∧ p = .int .i64 ((k : Int) + 1) ∧ y = .int .i64 ((perK m a c x k).2 : Nat) ∧ Below w.heap.size w wr ∧ Whole wr w.heap.size 2 (il (perK m a c x k).1).toArray) (fun _ p _ => K + 1 - (intOf p).toNat)
  case atStart => exact ⟨0, Nat.zero_le _, rfl, rfl, (Below.refl _ _).alloc (Nat.le_refl _) _, tally_new _ _ _⟩
  case round =>
    obtain ⟨k, hk, rfl, rfl, hbel, hwh⟩ := hrel
    have HW := Lib.hid (And.intro hbel hwh)
    have hy := perK_lt m a c x k hx
    have hl := perK_len m a c x k
    have hcell := tally_cell hwh (perK m a c x k).2 (by rw [hl]; exact hy)
    have hfr := hwh.frozen (perK m a c x k).2
    have hup := perE_up m a c x k
    change wr.cell? _ = some (.int .i64 (perE m a c x k)) at hcell
    have hmul : 0 ≤ (a : Int) * ((perK m a c x k).2 : Int) ∧ (a : Int) * ((perK m a c x k).2 : Int) ≤ 16777216 := by
      have : a * (perK m a c x k).2 ≤ 4096 * 4096 := Nat.mul_le_mul (by omega) (by omega)
      rw [← Int.natCast_mul]; omega
    have HN : Hid ((((a : Int) * ((perK m a c x k).2 : Int) + c) % m) = ((perK m a c x (k + 1)).2 : Nat)) := Lib.hid (by simp [perK])
    clear hwh hbel hl
    have hkm : (k : Int) ≤ 4096 := by have := HK.out.1; omega
    by_cases hlt : k < K
    · have h0 := HK.out.2.1 k hlt
      rw [h0] at hcell
      obtain ⟨y, ey⟩ : ∃ y, y = (perK m a c x k).2 := ⟨_, rfl⟩
      rw [← ey] at hcell hfr hmul hy HN ⊢
      have EY := Lib.hid ey
      clear h0 hup ey
      go_wp2
      go_roundw
      case rel =>
        refine ⟨k + 1, by omega, by go_num, by rw [HN.out], HW.out.1.setCell (Nat.le_refl _) _, ?_⟩
        have := tally_put HW.out.2 y ((k : Int) + 1)
        rw [EY.out] at this ⊢
        exact this
      case measure => simp [intOf]; omega
    · have E : Hid (k = K) := Lib.hid (by omega)
      have hne : perE m a c x k ≠ 0 := by rw [E.out]; exact HK.out.2.2
      obtain ⟨v, ev⟩ : ∃ v, v = perE m a c x k := ⟨_, rfl⟩
      obtain ⟨y, ey⟩ : ∃ y, y = (perK m a c x k).2 := ⟨_, rfl⟩
      rw [← ev] at hcell hne hup
      rw [← ey] at hcell hfr hmul hy ⊢
      have EV := Lib.hid ev
      clear ev ey
      have hpos : 0 < v := by omega
      clear hne
      go_wp2
      go_quiet (fail)
      go_wp2
      go_ret3
      refine ⟨?_, Bel_drewN HW.out.1 _⟩
      rw [← E.out, ← EV.out]
      rfl
theorem specPeriod_no (m a c x : Int) (w : World) (hv : ¬(1 ≤ m ∧ m ≤ 4096 ∧ (0 ≤ a ∧ a < m) ∧ (0 ≤ c ∧ c < m) ∧ (0 ≤ x ∧ x < m))) :
    Calls Try.prog 5 #[.int .i64 m, .int .i64 a, .int .i64 c, .int .i64 x] w (RetB (.tuple #[.int .i64 0, .int .i64 0, .bool false]) w) := by
  have HV := Lib.hid hv
  clear hv
  by_cases hm : 1 ≤ m ∧ m ≤ 4096
  · obtain ⟨hm1, hm2⟩ := hm
    by_cases ha : 0 ≤ a ∧ a < m
    · by_cases hc : 0 ≤ c ∧ c < m
      · have hx : ¬(0 ≤ x ∧ x < m) := fun h => HV.out ⟨hm1, hm2, ha, hc, h⟩
        have HA := Lib.hid ha
        have HC := Lib.hid hc
        have HX := Lib.hid hx
        clear ha hc hx
        go_enter Try.func5, Try.ntmps5
        go_wp2_with fail
        refine (l00In_yes _ _ _ hm1 hm2 _).mono ?_
        rintro e w1 ⟨rfl, rfl⟩
        go_wp2_with fail
        refine (l00In_yes _ _ _ HA.out.1 (by have := HA.out.2; omega) _).mono ?_
        rintro e w1 ⟨rfl, rfl⟩
        go_wp2_with fail
        refine (l00In_yes _ _ _ HC.out.1 (by have := HC.out.2; omega) _).mono ?_
        rintro e w1 ⟨rfl, rfl⟩
        go_wp2_with fail
        refine (l00In_no _ _ _ (by have := HX.out; omega) _).mono ?_
        rintro e w1 ⟨rfl, rfl⟩
        go_wp2_with fail
        go_ret3
        exact ⟨rfl, Below.refl _ _⟩
      · have HA := Lib.hid ha
        have HC := Lib.hid hc
        clear ha hc
        go_enter Try.func5, Try.ntmps5
        go_wp2_with fail
        refine (l00In_yes _ _ _ hm1 hm2 _).mono ?_
        rintro e w1 ⟨rfl, rfl⟩
        go_wp2_with fail
        refine (l00In_yes _ _ _ HA.out.1 (by have := HA.out.2; omega) _).mono ?_
        rintro e w1 ⟨rfl, rfl⟩
        go_wp2_with fail
        refine (l00In_no _ _ _ (by have := HC.out; omega) _).mono ?_
        rintro e w1 ⟨rfl, rfl⟩
        go_wp2_with fail
        go_ret3
        exact ⟨rfl, Below.refl _ _⟩
    · have HA := Lib.hid ha
      clear ha
      go_enter Try.func5, Try.ntmps5
      go_wp2_with fail
      refine (l00In_yes _ _ _ hm1 hm2 _).mono ?_
      rintro e w1 ⟨rfl, rfl⟩
      go_wp2_with fail
      refine (l00In_no _ _ _ (by have := HA.out; omega) _).mono ?_
      rintro e w1 ⟨rfl, rfl⟩
      go_wp2_with fail
      go_ret3
      exact ⟨rfl, Below.refl _ _⟩
  · have HM := Lib.hid hm
    clear hm
    go_enter Try.func5, Try.ntmps5
    go_wp2_with fail
    refine (l00In_no _ _ _ (by have := HM.out; omega) _).mono ?_
    rintro e w1 ⟨rfl, rfl⟩
    go_wp2_with fail
    go_ret3
    exact ⟨rfl, Below.refl _ _⟩
theorem FnExactSmallPeriod_walk (m : Int) (_ : (Lit.int .i64 m).wf = true) (a : Int) (_ : (Lit.int .i64 a).wf = true) (c : Int) (_ : (Lit.int .i64 c).wf = true) (x : Int) (_ : (Lit.int .i64 x).wf = true) (w : World) :
    Calls Try.prog 3 #[.int .i64 m, .int .i64 a, .int .i64 c, .int .i64 x] w fun e w' => e = .returned (.bool true) ∧ Below w.heap.size w w' := by
  by_cases hv : 1 ≤ m ∧ m ≤ 4096 ∧ (0 ≤ a ∧ a < m) ∧ (0 ≤ c ∧ c < m) ∧ (0 ≤ x ∧ x < m)
  · obtain ⟨h1, h2, ha, hc, hx⟩ := hv
    obtain ⟨m, rfl⟩ : ∃ n : Nat, m = n := ⟨m.toNat, by omega⟩
    obtain ⟨a, rfl⟩ : ∃ n : Nat, a = n := ⟨a.toNat, by omega⟩
    obtain ⟨c, rfl⟩ : ∃ n : Nat, c = n := ⟨c.toNat, by omega⟩
    obtain ⟨x, rfl⟩ : ∃ n : Nat, x = n := ⟨x.toNat, by omega⟩
    obtain ⟨K, hK⟩ := per_stops m a c x (by omega)
    have HK := Lib.hid hK
    clear hK
    go_enter Try.func3, Try.ntmps3
    go_wp2_with fail
    refine (specPeriod_yes m a c x K _ (by omega) (by omega) (by omega) (by omega) HK.out).mono ?_
    rintro e w1 ⟨rfl, hb1⟩
    have HB1 := Lib.hid hb1
    clear hb1
    go_wp2_with fail
    refine (implPeriod_yes m a c x K _ (by omega) (by omega) (by omega) (by omega) HK.out).mono ?_
    rintro e w2 ⟨rfl, hb2⟩
    have HB2 := Lib.hid hb2
    clear hb2
    go_wp2_with fail
    go_ret
    exact ⟨rfl, Bel_next HB1.out HB2.out⟩
  · have HV := Lib.hid hv
    clear hv
    go_enter Try.func3, Try.ntmps3
    go_wp2_with fail
    refine (specPeriod_no m a c x _ HV.out).mono ?_
    rintro e w1 ⟨rfl, hb1⟩
    have HB1 := Lib.hid hb1
    clear hb1
    go_wp2_with fail
    refine (implPeriod_no m a c x _ HV.out).mono ?_
    rintro e w2 ⟨rfl, hb2⟩
    have HB2 := Lib.hid hb2
    clear hb2
    go_wp2_with fail
    go_ret
    exact ⟨rfl, Bel_next HB1.out HB2.out⟩
end Go.Proofs.Ytdmbhnllebipjac
