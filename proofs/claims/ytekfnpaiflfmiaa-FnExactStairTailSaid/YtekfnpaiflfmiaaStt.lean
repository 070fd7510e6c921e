/- StairTail: both sides. -/
import Derived.Test.YtekfnpaiflfmiaaSi
import Derived.Test.YtekfnpaiflfmiaaStp
namespace Go.Proofs.Ytekfnpaiflfmiaa
open Go Go.RowKit
set_option linter.unusedVariables false

def stC (m n : Int) : Prop := (1 ≤ m ∧ m ≤ 30) ∧ 1 ≤ n ∧ n ≤ 30
/-- The row while row i is made: the first k are made. -/
def stM (out : Nat → Nat → Bool) (i k t : Nat) : Int := if t < k then (stP out (i + 1) t : Int) else (stP out i t : Int)
theorem stM_zero (out : Nat → Nat → Bool) (i t : Nat) : stM out i 0 t = stP out i t := by simp [stM]
theorem stM_all (out : Nat → Nat → Bool) (i n t : Nat) (h : t < n) : stM out i n t = stP out (i + 1) t := by simp [stM, h]
theorem stM_put (out : Nat → Nat → Bool) (i k t : Nat) (v : Int) (h : v = (stP out (i + 1) k : Int)) : (if t = k then v else stM out i k t) = stM out i (k + 1) t := by
  unfold stM
  by_cases e : t = k
  · subst e; rw [if_pos rfl, if_pos (by omega), h]
  · rw [if_neg e]
    by_cases h1 : t < k
    · rw [if_pos h1, if_pos (by omega)]
    · rw [if_neg h1, if_neg (by omega)]
theorem stP_row0 (out : Nat → Nat → Bool) (i : Nat) : stP out (i + 1) 0 = if out i 0 = true then 0 else stP out i 0 := by simp only [stP, stRow]
theorem stP_row (out : Nat → Nat → Bool) (i k : Nat) : stP out (i + 1) (k + 1) = if out i (k + 1) = true then 0 else stP out i (k + 1) + stP out (i + 1) k := by
  show stRow _ _ (k + 1) = _
  simp only [stRow, stP]
theorem mul_le900 (n i : Nat) (hn : n ≤ 30) (hi : i ≤ 30) : n * i ≤ 900 := by
  have := Nat.mul_le_mul hn hi; omega
set_option maxRecDepth 100000 in
set_option maxHeartbeats 2000000 in
theorem stairs_any (m n : Nat) (gap : Int) (w : World) (hm : m ≤ 30) (hn : n ≤ 30) : Calls Try.prog 60 #[.int .i64 m, .int .i64 n, .int .i64 gap] w (RetB (.int .i64 (stP (stO m n gap) (m + 1) n)) w) := by
  have hmk := run_mk16 (P := Try.prog) w 22 2 (n + 1) (by omega) Try.underlying22 (by kernel_rfl)
  rw [show ((n + 1 : Nat) : Int) = (n : Int) + 1 by omega] at hmk
  have HN := Lib.hid (FRow.new w (n + 1) 2)
  have hc0 := HN.out.cell 0 (by omega)
  have hf0 := HN.out.frozen 0
  go_enter Try.func60, Try.ntmps60
  go_wp2
  clear hmk hc0 hf0
  go_loopw [18] (fun i wr => ∃ q : Nat, q ≤ m + 1 ∧ i = .int .i64 (q : Int) ∧ Below w.heap.size w wr ∧ FRow wr w.heap.size 2 (n + 1) (fun t => stP (stO m n gap) q t)) (fun i _ => m + 1 - (intOf i).toNat)
  case atStart => exact ⟨0, Nat.zero_le _, rfl, (by repeat (first | with_reducible exact Below.refl _ _ | with_reducible exact HBL | with_reducible refine Below.drew ?_ | with_reducible refine Bel_drewN ?_ _ | with_reducible refine Below.alloc ?_ (by first | omega | (simp; done) | (simp; omega)) _ | with_reducible refine Below.setCell ?_ (by first | omega | (simp; done) | (simp; omega)) _)), (FRow.new1 w (n + 1) 2 1).to (fun i hi => by simp only [stP]; split <;> rfl)⟩
  case round =>
    obtain ⟨q, hq, rfl, hbel, hrow⟩ := hrel
    by_cases hlt : q < m + 1
    · have H := Lib.hid (And.intro hbel hrow)
      have hlt' : (q : Int) < m + 1 := by omega
      clear hbel hrow
      go_wp2
      go_loopw [23] (fun i wr => ∃ k : Nat, k ≤ n + 1 ∧ i = .int .i64 k ∧ Below w.heap.size w wr ∧ FRow wr w.heap.size 2 (n + 1) (fun t => stM (stO m n gap) q k t)) (fun i _ => n + 1 - (intOf i).toNat)
      case atStart => exact ⟨0, Nat.zero_le _, rfl, H.out.1, H.out.2.to (fun i hi => (stM_zero _ _ _).symm)⟩
      case round =>
        obtain ⟨k, hk, rfl, hbel, hrow⟩ := hrel
        by_cases hlk : k < n + 1
        · have hlk' : (k : Int) < n + 1 := by omega
          obtain ⟨p1, hp1⟩ : ∃ p : Nat, n * q = p := ⟨_, rfl⟩
          obtain ⟨p2, hp2⟩ : ∃ p : Nat, m * k = p := ⟨_, rfl⟩
          have l1 := mul_le900 n q hn (by omega)
          have l2 := mul_le900 m k hm (by omega)
          rw [hp1] at l1
          rw [hp2] at l2
          have g1 : (n : Int) * (q : Int) = (p1 : Int) := by rw [← Int.natCast_mul, hp1]
          have g2 : (m : Int) * (k : Int) = (p2 : Int) := by rw [← Int.natCast_mul, hp2]
          have HO : Hid (stO m n gap q k = decide (gap ≤ max ((p1 : Int) - p2) (-((p1 : Int) - p2)))) := Lib.hid (by unfold stO stH; rw [g1, g2])
          clear hp1 hp2
          obtain ⟨x, hx⟩ : ∃ x, (p1 : Int) - p2 = x := ⟨_, rfl⟩
          have hx1 : -900 ≤ x ∧ x ≤ 900 := by omega
          obtain ⟨hx1, hx2⟩ := hx1
          obtain ⟨y, hy⟩ : ∃ y, max x (-x) = y := ⟨_, rfl⟩
          have HY : Hid (stO m n gap q k = decide (gap ≤ y)) := Lib.hid (by rw [HO.out, hx, hy])
          clear HO
          have H1 := Lib.hid (And.intro hbel hrow)
          have hz := hrow.lt
          have hck := hrow.cell k (by omega)
          have hfk := hrow.frozen k
          rw [show stM (stO m n gap) q k k = (stP (stO m n gap) q k : Int) by simp [stM]] at hck
          have b1 := stP_fits (stO m n gap) q k (by omega)
          rcases k with _ | k
          · obtain ⟨u, hu⟩ : ∃ u, stP (stO m n gap) q 0 = u := ⟨_, rfl⟩
            rw [hu] at hck b1
            have HU := Lib.hid hu
            have HR := Lib.hid (stP_row0 (stO m n gap) q)
            clear hu hbel hrow
            by_cases ho : gap ≤ y
            · go_wp2
              go_roundw
              case rel =>
                obtain ⟨HBL, hrow⟩ := H1.out
                refine ⟨1, by omega, by go_num, (by repeat (first | with_reducible exact Below.refl _ _ | with_reducible exact HBL | with_reducible refine Below.drew ?_ | with_reducible refine Bel_drewN ?_ _ | with_reducible refine Below.alloc ?_ (by first | omega | (simp; done) | (simp; omega)) _ | with_reducible refine Below.setCell ?_ (by first | omega | (simp; done) | (simp; omega)) _)), (hrow.put 0 _).to (fun i hi => stM_put _ _ _ _ _ ?_)⟩
                first | (rw [HR.out, HY.out, if_pos (by simpa using ho)]; done) | (rw [HR.out, HY.out, if_pos (by simpa using ho)]; rfl)
              case measure => first | (simp [intOf]; done) | (simp [intOf]; omega)
            · go_wp2
              go_roundw
              case rel =>
                obtain ⟨HBL, hrow⟩ := H1.out
                refine ⟨1, by omega, by go_num, (by repeat (first | with_reducible exact Below.refl _ _ | with_reducible exact HBL | with_reducible refine Below.drew ?_ | with_reducible refine Bel_drewN ?_ _ | with_reducible refine Below.alloc ?_ (by first | omega | (simp; done) | (simp; omega)) _ | with_reducible refine Below.setCell ?_ (by first | omega | (simp; done) | (simp; omega)) _)), hrow.to (fun i hi => ?_)⟩
                rw [← stM_put (stO m n gap) q 0 i (stP (stO m n gap) q 0) (by rw [HR.out, HY.out, if_neg (by simpa using ho)])]
                by_cases e : i = 0
                · subst e; simp [stM]
                · rw [if_neg e]
              case measure => first | (simp [intOf]; done) | (simp [intOf]; omega)
          · have hc2 := hrow.cell k (by omega)
            rw [show stM (stO m n gap) q (k + 1) k = (stP (stO m n gap) (q + 1) k : Int) by simp [stM]] at hc2
            have b2 := stP_fits (stO m n gap) (q + 1) k (by omega)
            obtain ⟨u, hu⟩ : ∃ u, stP (stO m n gap) q (k + 1) = u := ⟨_, rfl⟩
            obtain ⟨v, hv⟩ : ∃ v, stP (stO m n gap) (q + 1) k = v := ⟨_, rfl⟩
            rw [hu] at hck b1
            rw [hv] at hc2 b2
            have HU := Lib.hid (And.intro hu hv)
            have HR := Lib.hid (stP_row (stO m n gap) q k)
            have g3 : (m : Int) * ((k : Int) + 1) = (p2 : Int) := by rw [← g2]; simp
            clear hu hv hbel hrow g2
            by_cases ho : gap ≤ y
            · go_wp2
              go_region
              go_wp2
              go_roundw
              case rel =>
                obtain ⟨HBL, hrow⟩ := H1.out
                refine ⟨k + 2, by omega, by go_num, (by repeat (first | with_reducible exact Below.refl _ _ | with_reducible exact HBL | with_reducible refine Below.drew ?_ | with_reducible refine Bel_drewN ?_ _ | with_reducible refine Below.alloc ?_ (by first | omega | (simp; done) | (simp; omega)) _ | with_reducible refine Below.setCell ?_ (by first | omega | (simp; done) | (simp; omega)) _)), ((hrow.put (k + 1) _).drew.put (k + 1) _).to (fun i hi => ?_)⟩
                rw [← stM_put (stO m n gap) q (k + 1) i 0 (by rw [HR.out, HY.out, if_pos (by simpa using ho)]; rfl)]
                by_cases e : i = k + 1
                · rw [if_pos e, if_pos e]
                · rw [if_neg e, if_neg e, if_neg e]
              case measure => first | (simp [intOf]; done) | (simp [intOf]; omega)
            · go_wp2
              go_region
              go_wp2
              go_roundw
              case rel =>
                obtain ⟨HBL, hrow⟩ := H1.out
                refine ⟨k + 2, by omega, by go_num, (by repeat (first | with_reducible exact Below.refl _ _ | with_reducible exact HBL | with_reducible refine Below.drew ?_ | with_reducible refine Bel_drewN ?_ _ | with_reducible refine Below.alloc ?_ (by first | omega | (simp; done) | (simp; omega)) _ | with_reducible refine Below.setCell ?_ (by first | omega | (simp; done) | (simp; omega)) _)), ((hrow.put (k + 1) _).drew).to (fun i hi => stM_put _ _ _ _ _ ?_)⟩
                rw [HR.out, HY.out, if_neg (by simpa using ho), HU.out.1, HU.out.2, Int.natCast_add]
              case measure => first | (simp [intOf]; done) | (simp [intOf]; omega)
        · have e : k = n + 1 := by omega
          subst e
          have H1 := Lib.hid (And.intro hbel hrow)
          clear hbel hrow
          go_wp2
          go_roundw
          case rel => exact ⟨q + 1, by omega, by go_num, H1.out.1, H1.out.2.to (fun i hi => stM_all _ _ _ _ hi)⟩
          case measure => first | (simp [intOf]; done) | (simp [intOf]; omega)
    · have e : q = m + 1 := by omega
      subst e
      have hc := hrow.cell n (by omega)
      have H1 := Lib.hid hbel
      clear hbel
      go_wp2
      go_ret
      exact ⟨rfl, H1.out⟩
def stZ (out : Nat → Nat → Bool) (i t : Nat) : Nat := if i = 0 then 0 else stP out i t
def stN (out : Nat → Nat → Bool) (i k t : Nat) : Int := if t < k then (stP out (i + 1) t : Int) else (stZ out i t : Int)
theorem stN_zero (out : Nat → Nat → Bool) (i t : Nat) : stN out i 0 t = stZ out i t := by simp [stN]
theorem stN_all (out : Nat → Nat → Bool) (i n t : Nat) (h : t < n) : stN out i n t = stZ out (i + 1) t := by simp [stN, stZ, h]
theorem stN_put (out : Nat → Nat → Bool) (i k t : Nat) (v : Int) (h : v = (stP out (i + 1) k : Int)) : (if t = k then v else stN out i k t) = stN out i (k + 1) t := by
  unfold stN
  by_cases e : t = k
  · subst e; rw [if_pos rfl, if_pos (by omega), h]
  · rw [if_neg e]
    by_cases h1 : t < k
    · rw [if_pos h1, if_pos (by omega)]
    · rw [if_neg h1, if_neg (by omega)]
theorem stZ_le (out : Nat → Nat → Bool) (i t : Nat) : stZ out i t ≤ stP out i t := by unfold stZ; split <;> omega
theorem stZ_row0 (m n : Nat) (gap : Int) (q : Nat) (hq : 0 < q) : stP (stO' m n gap) (q + 1) 0 = if stO m n gap q 0 = true then 0 else stZ (stO' m n gap) q 0 := by
  rw [stP_row0, show stO' m n gap q 0 = stO m n gap q 0 by simp [stO', hq], stZ, if_neg (show ¬ q = 0 by omega)]
theorem stZ_row (m n : Nat) (gap : Int) (q k : Nat) : stP (stO' m n gap) (q + 1) (k + 1) = if stO m n gap q (k + 1) = true then 0 else stZ (stO' m n gap) q (k + 1) + stP (stO' m n gap) (q + 1) k := by
  rw [stP_row, show stO' m n gap q (k + 1) = stO m n gap q (k + 1) by simp [stO']]
  have : stZ (stO' m n gap) q (k + 1) = stP (stO' m n gap) q (k + 1) := by
    unfold stZ
    by_cases h : q = 0
    · subst h; simp [stP]
    · rw [if_neg h]
  rw [this]
theorem stP_one (m n : Nat) (gap : Int) : stP (stO' m n gap) 1 0 = 1 := by simp [stP, stRow, stO']
set_option maxRecDepth 100000 in
set_option maxHeartbeats 4000000 in
theorem specStair_yes (m n : Nat) (gap : Int) (w : World) (hm1 : 1 ≤ m) (hm : m ≤ 30) (hn1 : 1 ≤ n) (hn : n ≤ 30) : Calls Try.prog 34 #[.int .i64 m, .int .i64 n, .int .i64 gap] w
    (RetB (.tuple #[.int .i64 ((bin (m + n) m : Int) - (stP (stO' m n gap) (m + 1) n : Int)), .int .i64 (bin (m + n) m), .bool true]) w) := by
  have b1 := stP_fits (stO' m n gap) (m + 1) n (by omega)
  obtain ⟨uu, huu⟩ : ∃ u, stP (stO' m n gap) (m + 1) n = u := ⟨_, rfl⟩
  rw [huu] at b1 ⊢
  have HU := Lib.hid huu
  clear huu
  go_enter Try.func34, Try.ntmps34
  go_wp2_with (go_at_call 56; refine (l00In_yes _ _ _ (by omega) (by omega) _).mono ?_; rintro e w1 ⟨rfl, rfl⟩)
  refine (l06Choose_any (m + n) m w (by omega) (by omega)).mono ?_
  rintro e w1 ⟨rfl, hb1⟩
  have hz1 := hb1.size
  have hmk := run_mk16 (P := Try.prog) w1 22 2 (n + 1) (by omega) Try.underlying22 (by kernel_rfl)
  rw [show ((n + 1 : Nat) : Int) = (n : Int) + 1 by omega] at hmk
  have HN := Lib.hid (FRow.new w1 (n + 1) 2)
  have HB1 := Lib.hid hb1
  have ba := bin_fits (m + n) m (by omega)
  obtain ⟨al, hal⟩ : ∃ al, bin (m + n) m = al := ⟨_, rfl⟩
  rw [hal] at ba
  have HAL := Lib.hid hal
  clear hb1 hal
  go_wp2_with fail
  clear hmk
  go_loopw [11] (fun i wr => ∃ q : Nat, q ≤ m + 1 ∧ i = .int .i64 (q : Int) ∧ Below w1.heap.size w1 wr ∧ FRow wr w1.heap.size 2 (n + 1) (fun t => stZ (stO' m n gap) q t)) (fun i _ => m + 1 - (intOf i).toNat)
  case atStart => exact ⟨0, Nat.zero_le _, rfl, (by repeat (first | with_reducible exact Below.refl _ _ | with_reducible exact HBL | with_reducible refine Below.drew ?_ | with_reducible refine Bel_drewN ?_ _ | with_reducible refine Below.alloc ?_ (by first | omega | (simp; done) | (simp; omega)) _ | with_reducible refine Below.setCell ?_ (by first | omega | (simp; done) | (simp; omega)) _)), HN.out.to (fun i hi => by simp [stZ])⟩
  case round =>
    obtain ⟨q, hq, rfl, hbel, hrow⟩ := hrel
    by_cases hlt : q < m + 1
    · have H := Lib.hid (And.intro hbel hrow)
      have hlt' : (q : Int) ≤ m := by omega
      clear hbel hrow
      rcases q with _ | q
      · rw [show ((0 : Nat) : Int) = 0 from rfl]
        go_wp2
        go_loopw [12] (fun i wr => ∃ k : Nat, k ≤ n + 1 ∧ i = .int .i64 k ∧ Below w1.heap.size w1 wr ∧ FRow wr w1.heap.size 2 (n + 1) (fun t => stN (stO' m n gap) 0 k t)) (fun i _ => n + 1 - (intOf i).toNat)
        case atStart => exact ⟨0, Nat.zero_le _, rfl, H.out.1, H.out.2.to (fun i hi => (stN_zero _ _ _).symm)⟩
        case round =>
          obtain ⟨k, hk, rfl, hbel, hrow⟩ := hrel
          by_cases hlk : k < n + 1
          · have hlk' : (k : Int) ≤ n := by omega
            obtain ⟨p2, hp2⟩ : ∃ p : Nat, m * k = p := ⟨_, rfl⟩
            have l2 := mul_le900 m k hm (by omega)
            rw [hp2] at l2
            have g2 : (m : Int) * (k : Int) = (p2 : Int) := by rw [← Int.natCast_mul, hp2]
            obtain ⟨x, hx⟩ : ∃ x, -(p2 : Int) = x := ⟨_, rfl⟩
            have HO : Hid (stO m n gap 0 k = decide (gap ≤ max x (-x))) := Lib.hid (by unfold stO stH; rw [g2, ← hx]; simp)
            clear hp2
            have hx1 : -900 ≤ x ∧ x ≤ 900 := by omega
            obtain ⟨hx1, hx2⟩ := hx1
            obtain ⟨y, hy⟩ : ∃ y, max x (-x) = y := ⟨_, rfl⟩
            have HY : Hid (stO m n gap 0 k = decide (gap ≤ y)) := Lib.hid (by rw [HO.out, hy])
            clear HO
            have H1 := Lib.hid (And.intro hbel hrow)
            have hz := hrow.lt
            have hck := hrow.cell k (by omega)
            have hfk := hrow.frozen k
            rw [show stN (stO' m n gap) 0 k k = (stZ (stO' m n gap) 0 k : Int) by simp [stN]] at hck
            have b1 := Nat.le_trans (stZ_le (stO' m n gap) 0 k) (stP_fits (stO' m n gap) 0 k (by omega))
            rcases k with _ | k
            · obtain ⟨u, hu⟩ : ∃ u, stZ (stO' m n gap) 0 0 = u := ⟨_, rfl⟩
              rw [hu] at hck b1
              have HU := Lib.hid hu
              clear hu hbel hrow
              go_wp2
              go_roundw
              case rel =>
                obtain ⟨HBL, hrow⟩ := H1.out
                refine ⟨1, by omega, by go_num, (by repeat (first | with_reducible exact Below.refl _ _ | with_reducible exact HBL | with_reducible refine Below.drew ?_ | with_reducible refine Bel_drewN ?_ _ | with_reducible refine Below.alloc ?_ (by first | omega | (simp; done) | (simp; omega)) _ | with_reducible refine Below.setCell ?_ (by first | omega | (simp; done) | (simp; omega)) _)), (hrow.put 0 _).to (fun i hi => stN_put _ _ _ _ _ ?_)⟩
                rw [stP_one]; rfl
              case measure => first | (simp [intOf]; done) | (simp [intOf]; omega)
            · have hc2 := hrow.cell k (by omega)
              rw [show stN (stO' m n gap) 0 (k + 1) k = (stP (stO' m n gap) (0 + 1) k : Int) by simp [stN]] at hc2
              have b2 := stP_fits (stO' m n gap) (0 + 1) k (by omega)
              obtain ⟨u, hu⟩ : ∃ u, stZ (stO' m n gap) 0 (k + 1) = u := ⟨_, rfl⟩
              obtain ⟨v, hv⟩ : ∃ v, stP (stO' m n gap) (0 + 1) k = v := ⟨_, rfl⟩
              rw [hu] at hck b1
              rw [hv] at hc2 b2
              have HU := Lib.hid (And.intro hu hv)
              have HR := Lib.hid (stZ_row m n gap 0 k)
              have g3 : (m : Int) * ((k : Int) + 1) = (p2 : Int) := by rw [← g2]; simp
              have hkk : decide ((0 : Int) < (k : Int) + 1) = true := (by first | omega | (simp; done) | (simp; omega))
              have hk0 : ((k : Int) + 1 == 0) = false := (by first | omega | (simp; done) | (simp; omega))
              clear hu hv hbel hrow g2
              by_cases ho : gap ≤ y
              · go_wp2
                go_region
                go_wp2
                go_roundw
                case rel =>
                  obtain ⟨HBL, hrow⟩ := H1.out
                  refine ⟨k + 2, by omega, by go_num, (by repeat (first | with_reducible exact Below.refl _ _ | with_reducible exact HBL | with_reducible refine Below.drew ?_ | with_reducible refine Bel_drewN ?_ _ | with_reducible refine Below.alloc ?_ (by first | omega | (simp; done) | (simp; omega)) _ | with_reducible refine Below.setCell ?_ (by first | omega | (simp; done) | (simp; omega)) _)), ((hrow.put (k + 1) _).drew.put (k + 1) _).to (fun i hi => ?_)⟩
                  rw [← stN_put (stO' m n gap) 0 (k + 1) i 0 (by rw [HR.out, HY.out, if_pos (by simpa using ho)]; rfl)]
                  by_cases e : i = k + 1
                  · rw [if_pos e, if_pos e]
                  · rw [if_neg e, if_neg e, if_neg e]
                case measure => first | (simp [intOf]; done) | (simp [intOf]; omega)
              · go_wp2
                go_region
                go_wp2
                go_roundw
                case rel =>
                  obtain ⟨HBL, hrow⟩ := H1.out
                  refine ⟨k + 2, by omega, by go_num, (by repeat (first | with_reducible exact Below.refl _ _ | with_reducible exact HBL | with_reducible refine Below.drew ?_ | with_reducible refine Bel_drewN ?_ _ | with_reducible refine Below.alloc ?_ (by first | omega | (simp; done) | (simp; omega)) _ | with_reducible refine Below.setCell ?_ (by first | omega | (simp; done) | (simp; omega)) _)), ((hrow.put (k + 1) _).drew).to (fun i hi => stN_put _ _ _ _ _ ?_)⟩
                  rw [HR.out, HY.out, if_neg (by simpa using ho), HU.out.1, HU.out.2, Int.natCast_add]
                case measure => first | (simp [intOf]; done) | (simp [intOf]; omega)
          · have e : k = n + 1 := by omega
            subst e
            have H1 := Lib.hid (And.intro hbel hrow)
            clear hbel hrow
            go_wp2
            go_roundw
            case rel => exact ⟨0 + 1, by omega, by go_num, H1.out.1, H1.out.2.to (fun i hi => stN_all _ _ _ _ hi)⟩
            case measure => first | (simp [intOf]; done) | (simp [intOf]; omega)
      · have hlt2 : (q : Int) + 1 ≤ m := by omega
        rw [show ((q + 1 : Nat) : Int) = (q : Int) + 1 from rfl]
        have eq1 : ((q : Int) + 1 == 0) = false := (by first | omega | (simp; done) | (simp; omega))
        have eq2 : decide ((0 : Int) < (q : Int) + 1) = true := (by first | omega | (simp; done) | (simp; omega))
        go_wp2
        go_loopw [12] (fun i wr => ∃ k : Nat, k ≤ n + 1 ∧ i = .int .i64 k ∧ Below w1.heap.size w1 wr ∧ FRow wr w1.heap.size 2 (n + 1) (fun t => stN (stO' m n gap) (q + 1) k t)) (fun i _ => n + 1 - (intOf i).toNat)
        case atStart => exact ⟨0, Nat.zero_le _, rfl, H.out.1, H.out.2.to (fun i hi => (stN_zero _ _ _).symm)⟩
        case round =>
          obtain ⟨k, hk, rfl, hbel, hrow⟩ := hrel
          by_cases hlk : k < n + 1
          · have hlk' : (k : Int) ≤ n := by omega
            obtain ⟨p2, hp2⟩ : ∃ p : Nat, m * k = p := ⟨_, rfl⟩
            have l2 := mul_le900 m k hm (by omega)
            rw [hp2] at l2
            have g2 : (m : Int) * (k : Int) = (p2 : Int) := by rw [← Int.natCast_mul, hp2]
            obtain ⟨p1, hp1⟩ : ∃ p : Nat, n * (q + 1) = p := ⟨_, rfl⟩
            have l1 := mul_le900 n (q + 1) hn (by omega)
            rw [hp1] at l1
            have g1 : (n : Int) * ((q : Int) + 1) = (p1 : Int) := by rw [← hp1]; simp
            clear hp1
            obtain ⟨x, hx⟩ : ∃ x, (p1 : Int) - p2 = x := ⟨_, rfl⟩
            have HO : Hid (stO m n gap (q + 1) k = decide (gap ≤ max x (-x))) := Lib.hid (by unfold stO stH; rw [show ((q + 1 : Nat) : Int) = (q : Int) + 1 from rfl, g1, g2, hx])
            clear hp2
            have hx1 : -900 ≤ x ∧ x ≤ 900 := by omega
            obtain ⟨hx1, hx2⟩ := hx1
            obtain ⟨y, hy⟩ : ∃ y, max x (-x) = y := ⟨_, rfl⟩
            have HY : Hid (stO m n gap (q + 1) k = decide (gap ≤ y)) := Lib.hid (by rw [HO.out, hy])
            clear HO
            have H1 := Lib.hid (And.intro hbel hrow)
            have hz := hrow.lt
            have hck := hrow.cell k (by omega)
            have hfk := hrow.frozen k
            rw [show stN (stO' m n gap) (q + 1) k k = (stZ (stO' m n gap) (q + 1) k : Int) by simp [stN]] at hck
            have b1 := Nat.le_trans (stZ_le (stO' m n gap) (q + 1) k) (stP_fits (stO' m n gap) (q + 1) k (by omega))
            rcases k with _ | k
            · obtain ⟨u, hu⟩ : ∃ u, stZ (stO' m n gap) (q + 1) 0 = u := ⟨_, rfl⟩
              rw [hu] at hck b1
              have HU := Lib.hid hu
              have HR := Lib.hid (stZ_row0 m n gap (q + 1) (by omega))
              clear hu hbel hrow
              by_cases ho : gap ≤ y
              · go_wp2
                go_roundw
                case rel =>
                  obtain ⟨HBL, hrow⟩ := H1.out
                  refine ⟨1, by omega, by go_num, (by repeat (first | with_reducible exact Below.refl _ _ | with_reducible exact HBL | with_reducible refine Below.drew ?_ | with_reducible refine Bel_drewN ?_ _ | with_reducible refine Below.alloc ?_ (by first | omega | (simp; done) | (simp; omega)) _ | with_reducible refine Below.setCell ?_ (by first | omega | (simp; done) | (simp; omega)) _)), (hrow.put 0 _).to (fun i hi => stN_put _ _ _ _ _ ?_)⟩
                  first | (rw [HR.out, HY.out, if_pos (by simpa using ho)]; done) | (rw [HR.out, HY.out, if_pos (by simpa using ho)]; rfl)
                case measure => first | (simp [intOf]; done) | (simp [intOf]; omega)
              · go_wp2
                go_roundw
                case rel =>
                  obtain ⟨HBL, hrow⟩ := H1.out
                  refine ⟨1, by omega, by go_num, (by repeat (first | with_reducible exact Below.refl _ _ | with_reducible exact HBL | with_reducible refine Below.drew ?_ | with_reducible refine Bel_drewN ?_ _ | with_reducible refine Below.alloc ?_ (by first | omega | (simp; done) | (simp; omega)) _ | with_reducible refine Below.setCell ?_ (by first | omega | (simp; done) | (simp; omega)) _)), hrow.to (fun i hi => ?_)⟩
                  rw [← stN_put (stO' m n gap) (q + 1) 0 i (stZ (stO' m n gap) (q + 1) 0) (by rw [HR.out, HY.out, if_neg (by simpa using ho)])]
                  by_cases e : i = 0
                  · subst e; simp [stN]
                  · rw [if_neg e]
                case measure => first | (simp [intOf]; done) | (simp [intOf]; omega)
            · have hc2 := hrow.cell k (by omega)
              rw [show stN (stO' m n gap) (q + 1) (k + 1) k = (stP (stO' m n gap) (q + 1 + 1) k : Int) by simp [stN]] at hc2
              have b2 := stP_fits (stO' m n gap) (q + 1 + 1) k (by omega)
              obtain ⟨u, hu⟩ : ∃ u, stZ (stO' m n gap) (q + 1) (k + 1) = u := ⟨_, rfl⟩
              obtain ⟨v, hv⟩ : ∃ v, stP (stO' m n gap) (q + 1 + 1) k = v := ⟨_, rfl⟩
              rw [hu] at hck b1
              rw [hv] at hc2 b2
              have HU := Lib.hid (And.intro hu hv)
              have HR := Lib.hid (stZ_row m n gap (q + 1) k)
              have g3 : (m : Int) * ((k : Int) + 1) = (p2 : Int) := by rw [← g2]; simp
              have hkk : decide ((0 : Int) < (k : Int) + 1) = true := (by first | omega | (simp; done) | (simp; omega))
              have hk0 : ((k : Int) + 1 == 0) = false := (by first | omega | (simp; done) | (simp; omega))
              clear hu hv hbel hrow g2
              by_cases ho : gap ≤ y
              · go_wp2
                go_region
                go_wp2
                go_roundw
                case rel =>
                  obtain ⟨HBL, hrow⟩ := H1.out
                  refine ⟨k + 2, by omega, by go_num, (by repeat (first | with_reducible exact Below.refl _ _ | with_reducible exact HBL | with_reducible refine Below.drew ?_ | with_reducible refine Bel_drewN ?_ _ | with_reducible refine Below.alloc ?_ (by first | omega | (simp; done) | (simp; omega)) _ | with_reducible refine Below.setCell ?_ (by first | omega | (simp; done) | (simp; omega)) _)), ((hrow.put (k + 1) _).drew.put (k + 1) _).to (fun i hi => ?_)⟩
                  rw [← stN_put (stO' m n gap) (q + 1) (k + 1) i 0 (by rw [HR.out, HY.out, if_pos (by simpa using ho)]; rfl)]
                  by_cases e : i = k + 1
                  · rw [if_pos e, if_pos e]
                  · rw [if_neg e, if_neg e, if_neg e]
                case measure => first | (simp [intOf]; done) | (simp [intOf]; omega)
              · go_wp2
                go_region
                go_wp2
                go_roundw
                case rel =>
                  obtain ⟨HBL, hrow⟩ := H1.out
                  refine ⟨k + 2, by omega, by go_num, (by repeat (first | with_reducible exact Below.refl _ _ | with_reducible exact HBL | with_reducible refine Below.drew ?_ | with_reducible refine Bel_drewN ?_ _ | with_reducible refine Below.alloc ?_ (by first | omega | (simp; done) | (simp; omega)) _ | with_reducible refine Below.setCell ?_ (by first | omega | (simp; done) | (simp; omega)) _)), ((hrow.put (k + 1) _).drew).to (fun i hi => stN_put _ _ _ _ _ ?_)⟩
                  rw [HR.out, HY.out, if_neg (by simpa using ho), HU.out.1, HU.out.2, Int.natCast_add]
                case measure => first | (simp [intOf]; done) | (simp [intOf]; omega)
          · have e : k = n + 1 := by omega
            subst e
            have H1 := Lib.hid (And.intro hbel hrow)
            clear hbel hrow
            go_wp2
            go_roundw
            case rel => exact ⟨q + 2, by omega, by go_num, H1.out.1, H1.out.2.to (fun i hi => stN_all _ _ _ _ hi)⟩
            case measure => first | (simp [intOf]; done) | (simp [intOf]; omega)
    · have e : q = m + 1 := by omega
      subst e
      have hc := hrow.cell n (by omega)
      rw [show stZ (stO' m n gap) (m + 1) n = stP (stO' m n gap) (m + 1) n by simp [stZ], HU.out] at hc
      have H1 := Lib.hid hbel
      clear hbel hrow
      go_wp2
      go_ret3
      exact ⟨by simp [HAL.out, wrap64]; omega, Bel_next HB1.out H1.out⟩
theorem specStair_no (m n gap : Int) (w : World) (h : ¬ stC m n) : Calls Try.prog 34 #[.int .i64 m, .int .i64 n, .int .i64 gap] w (RetB (.tuple #[.int .i64 0, .int .i64 0, .bool false]) w) := by
  unfold stC at h
  by_cases h1 : 1 ≤ m ∧ m ≤ 30
  · obtain ⟨h3, h4⟩ := h1
    have H : Hid (n < 1 ∨ 30 < n) := Lib.hid (by omega)
    clear h
    go_enter Try.func34, Try.ntmps34
    go_wp2_with fail
    refine (l00In_yes _ _ _ h3 h4 _).mono ?_
    rintro e w1 ⟨rfl, rfl⟩
    go_wp2_with fail
    refine (l00In_no _ _ _ H.out _).mono ?_
    rintro e w1 ⟨rfl, rfl⟩
    go_wp2_with fail
    go_ret3
    exact ⟨by simp, Below.refl _ _⟩
  · have H : Hid (m < 1 ∨ 30 < m) := Lib.hid (by omega)
    clear h h1
    go_enter Try.func34, Try.ntmps34
    go_wp2_with fail
    refine (l00In_no _ _ _ H.out _).mono ?_
    rintro e w1 ⟨rfl, rfl⟩
    go_wp2_with fail
    go_ret3
    exact ⟨by simp, Below.refl _ _⟩
set_option maxHeartbeats 1000000 in
theorem implStair_yes (m n : Nat) (gap : Int) (w : World) (hm1 : 1 ≤ m) (hm : m ≤ 30) (hn1 : 1 ≤ n) (hn : n ≤ 30) : Calls Try.prog 35 #[.int .i64 m, .int .i64 n, .int .i64 gap] w
    (RetB (.tuple #[.int .i64 ((bin (m + n) m : Int) - (stP (stO' m n gap) (m + 1) n : Int)), .int .i64 (bin (m + n) m), .bool true]) w) := by
  have b1 := stP_fits (stO' m n gap) (m + 1) n (by omega)
  have HC : Hid (∀ w, Calls Try.prog 60 #[.int .i64 m, .int .i64 n, .int .i64 gap] w (RetB (.int .i64 (stP (stO' m n gap) (m + 1) n)) w)) := Lib.hid (fun w => by rw [← stP_same m n gap hm1 hn1]; exact stairs_any m n gap w hm hn)
  have HD : Hid (∀ w : World, Calls Try.prog 58 #[.int .i64 ((m : Int) + n), .int .i64 m] w (fun e w' => e = .returned (.int .i64 (bin (m + n) m)) ∧ w = w')) := Lib.hid (fun w => choose_any (m + n) m w (by omega) (by omega))
  have ba := bin_fits (m + n) m (by omega)
  generalize stP (stO' m n gap) (m + 1) n = u at *
  generalize bin (m + n) m = al at *
  go_enter Try.func35, Try.ntmps35
  go_wp2_with fail
  refine (HD.out _).mono ?_
  rintro e w1 ⟨rfl, rfl⟩
  go_wp2_with fail
  refine (HC.out _).mono ?_
  rintro e w1 ⟨rfl, hb1⟩
  have HB1 := Lib.hid hb1
  clear hb1
  go_wp2_with fail
  go_ret3
  exact ⟨rfl, HB1.out⟩
theorem implStair_no (m n gap : Int) (w : World) (h : ¬ stC m n) : Calls Try.prog 35 #[.int .i64 m, .int .i64 n, .int .i64 gap] w (RetB (.tuple #[.int .i64 0, .int .i64 0, .bool false]) w) := by
  unfold stC at h
  by_cases h1 : m < 1
  · clear h
    go_enter Try.func35, Try.ntmps35
    go_wp2
    go_ret3
    exact ⟨rfl, Below.refl _ _⟩
  · by_cases h2 : 30 < m
    · clear h
      go_enter Try.func35, Try.ntmps35
      go_wp2
      go_ret3
      exact ⟨rfl, Below.refl _ _⟩
    · by_cases h3 : n < 1
      · clear h
        go_enter Try.func35, Try.ntmps35
        go_wp2
        go_ret3
        exact ⟨rfl, Below.refl _ _⟩
      · have h4 : 30 < n := by omega
        clear h
        go_enter Try.func35, Try.ntmps35
        go_wp2
        go_ret3
        exact ⟨rfl, Below.refl _ _⟩
end Go.Proofs.Ytekfnpaiflfmiaa
