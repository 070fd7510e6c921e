/- Choices: both sides. -/
import Derived.Test.YtbjcomjokkhaeaaFn
import Derived.Test.YtbjcomjokkhaeaaBc
import Derived.Test.YtbjcomjokkhaeaaIn0
import Derived.IntWalk
namespace Go.Proofs.Ytbjcomjokkhaeaa
open Go Go.RowKit
set_option linter.unusedVariables false

set_option maxHeartbeats 1000000 in
theorem choose_any (n k : Nat) (w : World) (hn : n ≤ 60) (hk : k ≤ n) : Calls Try.prog 89 #[.int .i64 n, .int .i64 k] w (fun e w' => e = .returned (.int .i64 (bin n k)) ∧ w = w') := by
  go_enter Try.func89, Try.ntmps89
  go_wp2
  go_loop [5, 8] (fun v i => ∃ j : Nat, j ≤ k ∧ v = .int .i64 (bin n j) ∧ i = .int .i64 j) (fun _ i => k - (intOf i).toNat)
  case atStart => exact ⟨0, Nat.zero_le _, by rw [bin_zero]; rfl, rfl⟩
  case round =>
    obtain ⟨j, hj, rfl, rfl⟩ := hrel
    by_cases hlt : j < k
    · have h1 := bin_up n j (by omega)
      have h2 := bin_small n j hn (by omega)
      obtain ⟨x, hx⟩ : ∃ x, bin n j = x := ⟨_, rfl⟩
      obtain ⟨y, hy⟩ : ∃ y, bin n (j + 1) = y := ⟨_, rfl⟩
      obtain ⟨d, hd⟩ : ∃ d, n = j + d := ⟨n - j, by omega⟩
      rw [hx, hy, show n - j = d by omega] at h1
      rw [hx, show n - j = d by omega] at h2
      have e1 : (n : Int) - (j : Int) = (d : Int) := by omega
      have e3 : (x : Int) * (d : Int) / ((j : Int) + 1) = (y : Int) := by
        rw [← Int.natCast_mul, h1, show ((y * (j + 1) : Nat) : Int) = (y : Int) * ((j : Int) + 1) by simp]; exact Int.mul_ediv_cancel _ (by omega)
      have e2 : IntKind.i64.wrap ((x : Int) * (d : Int)) = (x : Int) * (d : Int) := by
        have : ((x * d : Nat) : Int) ≤ 4611686018427387904 := by omega
        rw [Int.natCast_mul] at this
        exact IntWalk.i64_in _ ⟨Int.le_trans (by decide) (Int.mul_nonneg (by omega) (by omega)), by omega⟩
      have E3 := Lib.hid e3
      clear e3
      have HX := Lib.hid hx
      have HY := Lib.hid hy
      rw [hx]
      clear hx hy hd h1
      go_wp2
      go_round
      case rel => exact ⟨j + 1, by omega, by rw [HY.out, E3.out], by go_num⟩
      case measure => simp [intOf]; omega
    · have E : Hid (k = j) := Lib.hid (by omega)
      go_wp2
      go_ret
      exact ⟨by rw [E.out]; rfl, rfl⟩
theorem pas_next {m q : Nat} : ∀ i, (if i = q + 1 then ((bin m (q + 1) : Int) + (bin m q : Int)) else if i ≤ q + 1 then (bin m i : Int) else (bin (m + 1) i : Int)) = if i ≤ q then (bin m i : Int) else (bin (m + 1) i : Int) := fun i => by
  by_cases e : i = q + 1
  · subst e; rw [if_pos rfl, if_neg (by omega), bin_next]; omega
  · rw [if_neg e]
    by_cases h : i ≤ q
    · rw [if_pos h, if_pos (by omega)]
    · rw [if_neg h, if_neg (by omega)]
set_option maxHeartbeats 1000000 in
theorem l06Choose_any (n k : Nat) (w : World) (hn : n ≤ 60) (hk : k ≤ n) : Calls Try.prog 41 #[.int .i64 n, .int .i64 k] w (RetB (.int .i64 (bin n k)) w) := by
  have hmk := run_mk16 (P := Try.prog) w 22 2 (n + 1) (by omega) Try.underlying22 (by kernel_rfl)
  rw [show ((n + 1 : Nat) : Int) = (n : Int) + 1 by omega] at hmk
  have HN := Lib.hid (FRow.new w (n + 1) 2)
  have hc0 := HN.out.cell 0 (by omega)
  have hf0 := HN.out.frozen 0
  go_enter Try.func41, Try.ntmps41
  go_wp2
  clear hmk hc0 hf0
  go_loopw [6] (fun i wr => ∃ m : Nat, m ≤ n ∧ i = .int .i64 ((m : Int) + 1) ∧ Below w.heap.size w wr ∧ FRow wr w.heap.size 2 (n + 1) (fun t => bin m t)) (fun i _ => n + 1 - (intOf i).toNat)
  case atStart => exact ⟨0, Nat.zero_le _, rfl, (by repeat (first | with_reducible exact Below.refl _ _ | with_reducible exact HBL | with_reducible refine Below.drew ?_ | with_reducible refine Bel_drewN ?_ _ | with_reducible refine Below.alloc ?_ (by first | omega | (simp; done) | (simp; omega)) _ | with_reducible refine Below.setCell ?_ (by first | omega | (simp; done) | (simp; omega)) _)), (FRow.new1 w (n + 1) 2 1).to (fun i hi => by cases i <;> simp [bin_zero, bin_none])⟩
  case round =>
    obtain ⟨m, hm, rfl, hbel, hrow⟩ := hrel
    by_cases hlt : m < n
    · have H := Lib.hid (And.intro hbel hrow)
      clear hbel hrow
      go_wp2
      go_loopw [7] (fun i wr => ∃ j : Nat, j ≤ m + 1 ∧ i = .int .i64 j ∧ Below w.heap.size w wr ∧ FRow wr w.heap.size 2 (n + 1) (fun t => if t ≤ j then bin m t else bin (m + 1) t)) (fun i _ => (intOf i).toNat)
      case atStart => exact ⟨m + 1, Nat.le_refl _, by go_num, H.out.1, H.out.2.to (fun i hi => by
        by_cases h : i ≤ m + 1
        · rw [if_pos h]
        · rw [if_neg h, bin_over _ _ (by omega), bin_over _ _ (by omega)])⟩
      case round =>
        obtain ⟨j, hj, rfl, hbel, hrow⟩ := hrel
        rcases j with _ | q
        · have H1 := Lib.hid (And.intro hbel hrow)
          clear hbel hrow
          go_wp2
          go_roundw
          case rel => exact ⟨m + 1, by omega, by go_num, H1.out.1, H1.out.2.to (fun i hi => by
            rcases i with _ | i
            · simp [bin_zero]
            · rw [if_neg (by omega)])⟩
          case measure => simp [intOf]; omega
        · have hc1 := hrow.cell (q + 1) (by omega)
          have hc2 := hrow.cell q (by omega)
          have hf1 := hrow.frozen (q + 1)
          have hz := hrow.lt
          rw [if_pos (by omega)] at hc1 hc2
          have H1 := Lib.hid (And.intro hbel hrow)
          have b1 := bin_fits m (q + 1) (by omega)
          have b2 := bin_fits m q (by omega)
          have HP := Lib.hid (@pas_next m q)
          obtain ⟨x, hx⟩ : ∃ x, bin m (q + 1) = x := ⟨_, rfl⟩
          obtain ⟨y, hy⟩ : ∃ y, bin m q = y := ⟨_, rfl⟩
          rw [hx] at hc1 b1
          rw [hy] at hc2 b2
          have HX := Lib.hid (And.intro hx hy)
          clear hx hy hbel hrow
          go_wp2
          go_region
          go_wp2
          go_roundw
          case rel =>
            obtain ⟨HBL, hrow⟩ := H1.out
            refine ⟨q, by omega, by go_num, (by repeat (first | with_reducible exact Below.refl _ _ | with_reducible exact HBL | with_reducible refine Below.drew ?_ | with_reducible refine Bel_drewN ?_ _ | with_reducible refine Below.alloc ?_ (by first | omega | (simp; done) | (simp; omega)) _ | with_reducible refine Below.setCell ?_ (by first | omega | (simp; done) | (simp; omega)) _)), ((hrow.put (q + 1) _).drew.to (fun i hi => ?_))⟩
            rw [← HP.out i, HX.out.1, HX.out.2]
          case measure => simp [intOf]
    · have e : n = m := by omega
      subst e
      have hc := hrow.cell k (by omega)
      have H1 := Lib.hid hbel
      clear hbel
      go_wp2
      go_ret
      exact ⟨rfl, H1.out⟩
end Go.Proofs.Ytbjcomjokkhaeaa
