/- RankTail: both sides. -/
import Derived.Test.YtbjcomjokkhaeaaWu
import Derived.Deep.QuietTactic
import Derived.BigQuiet
namespace Go.Proofs.Ytbjcomjokkhaeaa
open Go Go.RowKit
set_option linter.unusedVariables false

/-- Numbers of at least 0, none of them great. -/
def posL (xs : List Int) : Prop := ∀ i : Nat, i < xs.length → 0 ≤ xs[i]?.getD 0 ∧ xs[i]?.getD 0 ≤ 20000
theorem posL.abs {xs : List Int} (h : posL xs) : absLe 20000 xs := fun i => by
  by_cases hi : i < xs.length
  · have := h i hi; omega
  · rw [List.getElem?_eq_none (by omega)]; simp
theorem posL.sum {xs : List Int} (h : posL xs) (k : Nat) (hk : k ≤ xs.length) : 0 ≤ sumK xs k := by
  induction k with
  | zero => exact Int.le_refl _
  | succ k ih => show 0 ≤ sumK xs k + _; have := ih (by omega); have := h k (by omega); omega
theorem posL.mono {xs : List Int} (h : posL xs) (k n : Nat) (hk : k ≤ n) (hn : n ≤ xs.length) : sumK xs k ≤ sumK xs n := by
  induction n with
  | zero => have : k = 0 := by omega
            subst this; exact Int.le_refl _
  | succ n ih =>
    by_cases e : k = n + 1
    · subst e; exact Int.le_refl _
    · have := ih (by omega) (by omega); have := h n (by omega); show _ ≤ sumK xs n + _; omega
set_option maxRecDepth 100000 in
set_option maxHeartbeats 2000000 in
theorem choiceTail_any (xs : List Int) (n k most : Nat) (hn : xs.length = n) (hs : sumK xs k = (most : Int)) (hk : k ≤ n) (ao : Option Addr) (ca : Nat) (hca : k ≤ ca) (w : World) (hx : Holds w ao (il xs)) (hp : posL xs) (hl : n ≤ 40) :
    Calls Try.prog 44 #[.slice ao n ca, .int .i64 k] w (RetB (.tuple #[.int .i64 (wyS xs most k), .int .i64 (bin n k)]) w) := by
  subst hn
  have hm : (most : Int) ≤ 1000000 := by have := (sumK_le hp.abs k).2; rw [hs] at this; have : 20000 * k ≤ 20000 * 40 := Nat.mul_le_mul_left _ (by omega); omega
  have HX := Lib.hid (And.intro hx (And.intro hp hs))
  clear hx hp hs
  go_enter Try.func44, Try.ntmps44
  go_wp2_with fail
  refine (sumOf_any (xs.take k) 20000 k (by simp; omega) ao _ _ (holds_take HX.out.1 _) (absLe_take HX.out.2.1.abs _) (by omega) (by omega)).mono ?_
  rintro e w1 ⟨rfl, rfl⟩
  rw [sumK_take _ _ _ (Nat.le_refl _), HX.out.2.2]
  go_wp2_with fail
  refine (waysUpTo_any xs most ao ca _ HX.out.1 (fun i hi => by have := HX.out.2.1 i hi; omega) hl (by omega)).mono ?_
  rintro e w1 ⟨ao1, c1, rfl, hrow, hb⟩
  have HB := Lib.hid hb
  obtain ⟨b, o, rfl, hc⟩ := hrow.holds k (by simp [il, wyL_len]; omega)
  rw [il_get _ _ (by rw [wyL_len]; omega), wyL, fnL_get _ _ _ (by omega)] at hc
  obtain ⟨d, hd⟩ : ∃ d, wyS xs most k = d := ⟨_, rfl⟩
  rw [hd] at hc
  have HD : Hid (∀ w : World, Calls Try.prog 89 #[.int .i64 (xs.length : Int), .int .i64 k] w (fun e w' => e = .returned (.int .i64 (bin xs.length k)) ∧ w = w')) := Lib.hid (fun w => choose_any _ k w (by omega) hk)
  obtain ⟨u, hu⟩ : ∃ u, bin xs.length k = u := ⟨_, rfl⟩
  rw [hu] at HD
  have HDU := Lib.hid (And.intro hd hu)
  clear hrow hb hd hu
  go_wp2_with fail
  go_quiet ((go_at_call 89; exact quiet_same' (HD.out _)))
  go_wp2_with fail
  go_ret2
  exact ⟨by rw [HDU.out.1, HDU.out.2]; rfl, by have HBL := HB.out; exact (by repeat (first | with_reducible exact Below.refl _ _ | with_reducible exact HBL | with_reducible refine Below.drew ?_ | with_reducible refine Bel_drewN ?_ _ | with_reducible refine Below.alloc ?_ (by first | omega | (simp; done) | (simp; omega)) _ | with_reducible refine Below.setCell ?_ (by first | omega | (simp; done) | (simp; omega)) _))⟩
/-- The part of the tail of ranks. -/
def rtP (xs ys : List Int) : Nat := wyS (rkL (xs ++ ys)) (rsV xs ys).toNat xs.length
theorem rkL_pos (xs : List Int) (h : xs.length ≤ 40) : posL (rkL xs) := fun i hi => by
  rw [rkL_len] at hi
  unfold rkL; rw [fnL_get _ _ _ hi]
  have := rkS_le xs (xs[i]?.getD 0) xs.length
  unfold rkA; omega
theorem rsV_nn {xs ys : List Int} (h : poolC xs ys) : 0 ≤ rsV xs ys ∧ rsV xs ys = ((rsV xs ys).toNat : Int) := by
  have h1 : 0 ≤ rsV xs ys := (rkL_pos (xs ++ ys) (by simp; exact h.2.2)).sum _ (by rw [rkL_len]; simp)
  exact ⟨h1, by omega⟩
set_option maxHeartbeats 1000000 in
theorem implRankTail_yes (xs ys : List Int) (ao bo : Option Addr) (ca cb : Nat) (w : World) (hv : poolC xs ys) (hx : Holds w ao (il xs)) (hy : Holds w bo (il ys)) :
    Calls Try.prog 14 #[.slice ao xs.length ca, .slice bo ys.length cb] w (RetB (.tuple #[.int .i64 (rtP xs ys), .int .i64 (bin (xs.length + ys.length) xs.length), .bool true]) w) := by
  have HX := Lib.hid (And.intro hx hy)
  have HV := Lib.hid hv
  have h3 := hv.2.2
  clear hx hy hv
  have HL : Hid ((xs ++ ys).length = xs.length + ys.length) := Lib.hid (by simp)
  go_enter Try.func14, Try.ntmps14
  go_wp2_with fail
  refine (poolOf_yes xs ys _ _ _ _ _ HV.out HX.out.1 HX.out.2).mono ?_
  rintro e w1 ⟨ao1, c1, rfl, hrow, hb⟩
  have H1 := Lib.hid (And.intro hrow hb)
  clear hrow hb
  go_wp2_with fail
  refine (show Calls _ _ #[.slice ao1 (xs.length + ys.length) c1] _ _ from HL.out ▸ ranksOf_cop (xs ++ ys) ao1 c1 w1 H1.out.1.holds (by rw [HL.out]; omega)).mono ?_
  rintro e w2 ⟨ao2, rfl, hrow, hb⟩
  have H2 := Lib.hid (And.intro hrow (Bel_next H1.out.2 hb))
  clear hrow hb
  go_wp2_with fail
  refine (choiceTail_any (rkL (xs ++ ys)) (xs.length + ys.length) xs.length (rsV xs ys).toNat (by rw [rkL_len, HL.out]) (rsV_nn HV.out).2 (by omega) ao2 _ (by omega) _ H2.out.1.holds (rkL_pos _ (by rw [HL.out]; exact h3)) h3).mono ?_
  rintro e w3 ⟨rfl, hb⟩
  have H3 := Lib.hid (Bel_next H2.out.2 hb)
  rw [show wyS (rkL (xs ++ ys)) (rsV xs ys).toNat xs.length = rtP xs ys from rfl]
  clear hb
  go_wp2_with fail
  go_ret3
  exact ⟨rfl, H3.out⟩
theorem implRankTail_no (xs ys : List Int) (ao bo : Option Addr) (ca cb : Nat) (w : World) (hv : ¬ poolC xs ys) (hx : Holds w ao (il xs)) (hy : Holds w bo (il ys)) (hl1 : xs.length ≤ 1048576) (hl2 : ys.length ≤ 1048576) :
    Calls Try.prog 14 #[.slice ao xs.length ca, .slice bo ys.length cb] w (RetB (.tuple #[.int .i64 0, .int .i64 0, .bool false]) w) := by
  have HX := Lib.hid (And.intro hx hy)
  have HV := Lib.hid hv
  clear hx hy hv
  go_enter Try.func14, Try.ntmps14
  go_wp2_with fail
  refine (poolOf_no xs ys _ _ _ _ _ HV.out HX.out.1 HX.out.2 hl1 hl2).mono ?_
  rintro e w1 ⟨rfl, hb⟩
  have H1 := Lib.hid hb
  clear hb
  go_wp2_with fail
  go_ret3
  exact ⟨rfl, H1.out⟩
set_option maxRecDepth 100000 in
set_option maxHeartbeats 16000000 in
theorem specRankTail_N (xs ys : List Int) (N : Nat) (hN : xs.length + ys.length = N) (ao bo : Option Addr) (ca cb : Nat) (w : World) (hv : poolC xs ys) (hx : Holds w ao (il xs)) (hy : Holds w bo (il ys)) :
    Calls Try.prog 12 #[.slice ao xs.length ca, .slice bo ys.length cb] w (RetB (.tuple #[.int .i64 (rtP xs ys), .int .i64 (bin N xs.length), .bool true]) w) := by
  have HX := Lib.hid (And.intro hx hy)
  have HV := Lib.hid hv
  have h1 := hv.1.1
  have h2 := hv.2.1.1
  have hN40 : N ≤ 40 := by rw [← hN]; exact hv.2.2
  obtain ⟨h1, h1'⟩ := h1
  obtain ⟨h2, h2'⟩ := h2
  have hxN : xs.length ≤ N := by omega
  have HL : Hid ((xs ++ ys).length = N) := Lib.hid (by rw [← hN]; simp)
  have HPL := Lib.hid (rkL_pos (xs ++ ys) (by simp; exact hv.2.2))
  have HZL : Hid ((rkL (xs ++ ys)).length = N) := Lib.hid (by rw [rkL_len]; exact HL.out)
  obtain ⟨own, howi⟩ : ∃ own : Nat, rsV xs ys = (own : Int) := ⟨_, (rsV_nn hv).2⟩
  have HOW := Lib.hid howi
  obtain ⟨T, hTi⟩ : ∃ T : Nat, sumK (rkL (xs ++ ys)) N = (T : Int) := ⟨_, (Int.toNat_of_nonneg (HPL.out.sum _ (by rw [HZL.out]; exact Nat.le_refl _))).symm⟩
  have HT := Lib.hid hTi
  have hoT : own ≤ T := by
    have := HPL.out.mono xs.length N hxN (by rw [HZL.out]; exact Nat.le_refl _)
    rw [hTi, show sumK (rkL (xs ++ ys)) xs.length = rsV xs ys from rfl, howi] at this
    omega
  have hTm : T ≤ 1000000 := by
    have := (sumK_le HPL.out.abs N).2
    rw [hTi] at this
    have : 20000 * N ≤ 20000 * 40 := Nat.mul_le_mul_left _ hN40
    omega
  have HRP : Hid (rtP xs ys = sq (fun s => cw (rN (rkL (xs ++ ys))) N xs.length s) (own + 1)) := Lib.hid (by
    unfold rtP wyS; rw [howi, Int.toNat_natCast, HZL.out])
  have HJ : Hid (∀ (w : World), Holds w ao (il xs) → Holds w bo (il ys) → Calls Try.prog 39 #[.slice ao xs.length ca, .slice bo ys.length cb] w (RetL N (il (xs ++ ys)) (fun s => s) w)) := Lib.hid (fun w hx hy => hN ▸ l06Joined_any xs ys _ _ rfl rfl _ _ _ _ _ hx hy h1 h2 (by omega))
  have HRK : Hid (∀ (ao1 : Option Addr) (c1 : Nat) (w : World), Holds w ao1 (il (xs ++ ys)) → Calls Try.prog 38 #[.slice ao1 N c1] w (RetL N (il (rkL (xs ++ ys))) (fun s => s) w)) := Lib.hid (fun ao1 c1 w h => HL.out ▸ l06Ranks_any (xs ++ ys) ao1 c1 w h (by rw [HL.out]; omega))
  obtain ⟨zs, hzs⟩ : ∃ zs, zs = rkL (xs ++ ys) := ⟨_, rfl⟩
  rw [← hzs] at HPL HZL HT HRP HRK
  clear hx hy hv howi hTi hzs hN
  go_enter Try.func12, Try.ntmps12
  go_wp2_with fail
  refine (specRankSum_yes xs ys _ _ _ _ _ HV.out HX.out.1 HX.out.2).mono ?_
  rintro e w1 ⟨rfl, hb⟩
  rw [HOW.out]
  have HB1 := Lib.hid hb
  clear hb
  go_wp2_with fail
  refine (HJ.out _ (HX.out.1.below HB1.out) (HX.out.2.below HB1.out)).mono ?_
  rintro e w2 ⟨ao1, c1, rfl, hrow, hb⟩
  have H1 := Lib.hid (And.intro hrow (Bel_next HB1.out hb))
  clear hrow hb
  go_wp2_with fail
  refine (HRK.out _ _ _ H1.out.1.holds).mono ?_
  rintro e w3 ⟨ao2, c2, rfl, hrow, hb⟩
  have H2 := Lib.hid (And.intro hrow.holds (Bel_next H1.out.2 hb))
  clear hrow hb
  go_wp2_with fail
  refine (l06First_any zs 20000 N (by rw [HZL.out]; exact Nat.le_refl _) ao2 N _ HZL.out.symm _ H2.out.1 HPL.out.abs (by omega) (by omega)).mono ?_
  rintro e w4 ⟨rfl, rfl⟩
  rw [HT.out]
  have hmk1 := run_mkII (P := Try.prog) w3 46 22 (xs.length + 1) (by omega) Try.underlying46 (by kernel_rfl)
  rw [show ((xs.length + 1 : Nat) : Int) = (xs.length : Int) + 1 by omega] at hmk1
  have HS := Lib.hid (GridM.start w3 22 2 (xs.length + 1) (T + 1))
  go_wp2_with fail
  clear hmk1
  go_loopw [12] (fun i wr => ∃ j : Nat, j ≤ xs.length + 1 ∧ i = .int .i64 (j : Int) ∧ Below w3.heap.size w3 wr ∧ GridM wr w3.heap.size 22 2 (xs.length + 1) (T + 1) j) (fun i _ => xs.length + 1 - (intOf i).toNat)
  case atStart => exact ⟨0, Nat.zero_le _, rfl, (by repeat (first | with_reducible exact Below.refl _ _ | with_reducible exact HBL | with_reducible refine Below.drew ?_ | with_reducible refine Bel_drewN ?_ _ | with_reducible refine Below.alloc ?_ (by first | omega | (simp; done) | (simp; omega)) _ | with_reducible refine Below.setCell ?_ (by first | omega | (simp; done) | (simp; omega)) _)), HS.out⟩
  case round =>
    obtain ⟨j, hj, rfl, hbel, hgm⟩ := hrel
    have H := Lib.hid (And.intro hbel hgm)
    by_cases hlt : j < xs.length + 1
    · have hlt' : (j : Int) ≤ xs.length := by omega
      have hmk2 := run_mk16 (P := Try.prog) wr 22 2 (T + 1) (by omega) Try.underlying22 (by kernel_rfl)
      rw [show ((T + 1 : Nat) : Int) = (T : Int) + 1 by omega] at hmk2
      have hc := (hgm.2.1.alloc (.cells (Array.replicate (T + 1) (.int .i64 0)) 2)).cell j
      have hf := (hgm.2.1.alloc (.cells (Array.replicate (T + 1) (.int .i64 0)) 2)).frozen j
      rw [gridC_old _ _ _ _ _ hlt (Nat.le_refl _)] at hc
      have hz := hgm.2.1.lt
      clear hbel hgm
      go_wp2_with fail
      go_roundw
      case rel =>
        obtain ⟨HBL, hgm⟩ := H.out
        exact ⟨j + 1, by omega, by go_num, (by repeat (first | with_reducible exact Below.refl _ _ | with_reducible exact HBL | with_reducible refine Below.drew ?_ | with_reducible refine Bel_drewN ?_ _ | with_reducible refine Below.alloc ?_ (by first | omega | (simp; done) | (simp; omega)) _ | with_reducible refine Below.setCell ?_ (by first | omega | (simp; done) | (simp; omega)) _)), hgm.next hlt⟩
      case measure => simp [intOf]; omega
    · have e : j = xs.length + 1 := by omega
      subst e
      rw [show ((xs.length + 1 : Nat) : Int) = (xs.length : Int) + 1 by omega]
      have HG := Lib.hid hgm.all
      have HB := Lib.hid hbel
      have hc0 := hgm.all.cell0 0 (by omega)
      have hc1 := hgm.all.cell 0 0 (by omega) (by omega)
      have hf1 := hgm.all.frozen 0 0 (by omega)
      have hz := hgm.all.lt 0 (by omega)
      rw [Nat.add_zero] at hc0 hc1 hf1 hz
      clear hbel hgm
      go_wp2_with fail
      clear hc0 hc1 hf1
      go_loopw [13] (fun i wr => ∃ q : Nat, q ≤ N ∧ i = .int .i64 (q : Int) ∧ Below w3.heap.size w3 wr ∧ Grid wr w3.heap.size 22 2 (xs.length + 1) (T + 1) (fun k s => (cw (rN zs) q k s : Int))) (fun i _ => N - (intOf i).toNat)
      case atStart =>
        have HBL := HB.out
        have hg := (HG.out.put 0 0 (by omega) 1).to (f' := fun k s => (cw (rN zs) 0 k s : Int)) (fun k t _ _ => by
          show (if k = 0 ∧ t = 0 then (1 : Int) else 0) = (cw (rN zs) 0 k t : Int)
          simp only [cw]; split <;> rfl)
        exact ⟨0, Nat.zero_le _, rfl, (by repeat (first | with_reducible exact Below.refl _ _ | with_reducible exact HBL | with_reducible refine Below.drew ?_ | with_reducible refine Bel_drewN ?_ _ | with_reducible refine Below.alloc ?_ (by first | omega | (simp; done) | (simp; omega)) _ | with_reducible refine Below.setCell ?_ (by first | omega | (simp; done) | (simp; omega)) _)), hg⟩
      case round =>
        clear hz
        obtain ⟨q, hq, rfl, hbel, hg⟩ := hrel
        have H := Lib.hid (And.intro hbel hg)
        by_cases hlq : q < N
        · have hlq' : (q : Int) < N := by omega
          obtain ⟨b, o, hao, hcw⟩ := H2.out.1 q (by rw [il_len, HZL.out]; exact hlq)
          obtain ⟨x, hxx⟩ : ∃ x : Nat, zs[q]?.getD 0 = (x : Int) := ⟨_, (Int.toNat_of_nonneg (HPL.out q (by rw [HZL.out]; exact hlq)).1).symm⟩
          have hx6 : x ≤ 20000 := by have := HPL.out q (by rw [HZL.out]; exact hlq); omega
          rw [il_get _ _ (by rw [HZL.out]; exact hlq), hxx] at hcw
          have HCW := Lib.hid hcw
          have hbl : b < w3.heap.size := World.block_lt_of_cell? _ _ hcw
          have HR : Hid (rN zs q = x) := Lib.hid (by unfold rN; rw [hxx]; rfl)
          subst hao
          clear hxx hbel hg hcw
          go_wp2_with fail
          go_loopw [14] (fun i wr => ∃ kk : Nat, kk ≤ xs.length ∧ i = .int .i64 (kk : Int) ∧ Below w3.heap.size w3 wr ∧ Grid wr w3.heap.size 22 2 (xs.length + 1) (T + 1) (fun k s => if kk + 1 ≤ k then (cw (rN zs) (q + 1) k s : Int) else (cw (rN zs) q k s : Int))) (fun i _ => (intOf i).toNat)
          case atStart => exact ⟨xs.length, Nat.le_refl _, rfl, H.out.1, H.out.2.to (fun k t hk _ => by rw [if_neg (by omega)])⟩
          case round =>
            obtain ⟨kk, hkk, rfl, hbel, hg⟩ := hrel
            have H1 := Lib.hid (And.intro hbel hg)
            clear hbel hg
            rcases kk with _ | c
            · rw [show ((0 : Nat) : Int) = 0 from rfl]
              go_wp2_with fail
              go_roundw
              case rel => exact ⟨q + 1, by omega, by go_num, H1.out.1, H1.out.2.to (fun k t _ _ => by
                rcases k with _ | k
                · rw [if_neg (by omega), cw_none]
                · rw [if_pos (by omega)])⟩
              case measure => simp [intOf]; omega
            · have hc1 : (0 : Int) < (c : Int) + 1 := by omega
              rw [show ((c + 1 : Nat) : Int) = (c : Int) + 1 by omega]
              go_wp2_with fail
              go_loopw [15] (fun i wr => ∃ s : Nat, (x ≤ s ∨ s = T + 1) ∧ s ≤ T + 1 ∧ i = .int .i64 ((s : Int) - 1) ∧ Below w3.heap.size w3 wr ∧ Grid wr w3.heap.size 22 2 (xs.length + 1) (T + 1) (fun k t => if k = c + 1 then (cwD (rN zs) q (c + 1) s t : Int) else if c + 2 ≤ k then (cw (rN zs) (q + 1) k t : Int) else (cw (rN zs) q k t : Int))) (fun i _ => (intOf i + 1).toNat)
              case atStart => exact ⟨T + 1, .inr rfl, Nat.le_refl _, congrArg _ (by omega), H1.out.1, H1.out.2.to (fun k t _ ht => by
                by_cases e : k = c + 1
                · subst e; rw [if_neg (by omega), if_pos rfl, cwD, if_neg (by omega)]
                · rw [if_neg e])⟩
              case round =>
                obtain ⟨s, hs1, hs2, rfl, hbel, hg⟩ := hrel
                have H2' := Lib.hid (And.intro hbel hg)
                have hcx := ((cells_kept hbel).1 b (o + q) hbl).trans HCW.out
                by_cases hls : x + 1 ≤ s
                · obtain ⟨d, rfl⟩ : ∃ d, s = x + d + 1 := ⟨s - x - 1, by omega⟩
                  have ha0 := hg.cell0 (c + 1) (by omega)
                  have hb0 := hg.cell0 c (by omega)
                  have ha1 := hg.cell (c + 1) (x + d) (by omega) (by omega)
                  have hb1 := hg.cell c d (by omega) (by omega)
                  have hfa := hg.frozen (c + 1) (x + d) (by omega)
                  have hz := hg.lt (c + 1) (by omega)
                  rw [if_pos rfl, show cwD (rN zs) q (c + 1) (x + d + 1) (x + d) = cw (rN zs) q (c + 1) (x + d) by rw [cwD, if_neg (by omega)]] at ha1
                  rw [if_neg (by omega), if_neg (by omega)] at hb1
                  have l1 := cw_fits (rN zs) q (c + 1) (x + d) (by omega)
                  have l2 := cw_fits (rN zs) q c d (by omega)
                  obtain ⟨y, hy⟩ : ∃ y, cw (rN zs) q (c + 1) (x + d) = y := ⟨_, rfl⟩
                  obtain ⟨z, hz2⟩ : ∃ z, cw (rN zs) q c d = z := ⟨_, rfl⟩
                  rw [hy] at ha1 l1
                  rw [hz2] at hb1 l2
                  have HYZ := Lib.hid (And.intro hy hz2)
                  obtain ⟨ga, hga⟩ : ∃ ga, ga = w3.heap.size + 1 + (c + 1) := ⟨_, rfl⟩
                  obtain ⟨gb, hgb⟩ : ∃ gb, gb = w3.heap.size + 1 + c := ⟨_, rfl⟩
                  rw [← hga] at ha0 ha1 hfa hz
                  rw [← hgb] at hb0 hb1
                  have HGA := Lib.hid (And.intro hga hgb)
                  rw [show ((x + d + 1 : Nat) : Int) - 1 = ((x + d : Nat) : Int) by omega]
                  obtain ⟨s, hsd⟩ : ∃ s, s = x + d := ⟨_, rfl⟩
                  have hxd : (s : Int) - (x : Int) = (d : Int) := by omega
                  have hxs : (x : Int) ≤ s := by omega
                  have hsT : (s : Int) ≤ T := by omega
                  rw [← hsd] at ha1 hfa ⊢
                  have HSD := Lib.hid hsd
                  clear hy hz2 hga hgb hsd hbel hg hs2 hs1 hls
                  go_wp2_with fail
                  go_region
                  go_wp2_with fail
                  go_roundw
                  case rel =>
                    obtain ⟨HBL, hg⟩ := H2'.out
                    obtain ⟨e1, e2⟩ := HGA.out
                    have hput := hg.put (c + 1) (x + d) (by omega) ((y : Int) + (z : Int))
                    rw [← e1, ← HSD.out] at hput
                    refine ⟨s, .inl (by omega), by omega, rfl, (by repeat (first | with_reducible exact Below.refl _ _ | with_reducible exact HBL | with_reducible refine Below.drew ?_ | with_reducible refine Bel_drewN ?_ _ | with_reducible refine Below.alloc ?_ (by first | omega | (simp; done) | (simp; omega)) _ | with_reducible refine Below.setCell ?_ (by first | omega | (simp; done) | (simp; omega)) _)), hput.drew.to (fun k t hk ht => ?_)⟩
                    rw [HSD.out]
                    by_cases e : k = c + 1
                    · subst e
                      rw [if_pos rfl]
                      have h := cwD_put (rN zs) q c (x + d) t (by rw [HR.out]; omega)
                      rw [HR.out, show x + d - x = d by omega, HYZ.out.1, HYZ.out.2] at h
                      rw [← h]
                      by_cases et : t = x + d
                      · rw [if_pos ⟨rfl, et⟩, if_pos et]; omega
                      · rw [if_neg (fun h => et h.2), if_neg et, if_pos rfl]
                    · rw [if_neg (fun h => e h.1), if_neg e, if_neg e]
                  case measure => have := HSD.out; first | (simp [intOf]; done) | (simp [intOf]; omega)
                · have hlx : (s : Int) - 1 < x := by omega
                  clear hbel hg
                  go_wp2_with fail
                  go_roundw
                  case rel =>
                    refine ⟨c, by omega, by first | rfl | go_num | (congr 1; omega), H2'.out.1, H2'.out.2.to (fun k t _ ht => ?_)⟩
                    by_cases e : k = c + 1
                    · subst e
                      rw [if_pos rfl, if_pos (by omega)]
                      by_cases es : s = x
                      · subst es; rw [← HR.out, cwD_end]
                      · have h0 : ¬ rN zs q ≤ t := by rw [HR.out]; omega
                        rw [cwD, if_neg (by omega), cw_next, if_neg h0]; rfl
                    · rw [if_neg e]
                      by_cases h : c + 2 ≤ k
                      · rw [if_pos h, if_pos (by omega)]
                      · rw [if_neg h, if_neg (by omega)]
                  case measure => first | (simp [intOf]; done) | (simp [intOf]; omega)
        · have e : N = q := by omega
          subst e
          have HGN := Lib.hid (And.intro hbel hg)
          have hcc := hg.cell0 xs.length (by omega)
          clear hbel hg H
          go_wp2_with fail
          go_loopw [16, 17] (fun o i wr => ∃ y : Nat, y ≤ own + 1 ∧ i = .int .i64 (y : Int) ∧ o = .int .i64 (sq (fun s => cw (rN zs) N xs.length s) y : Nat) ∧ Below w3.heap.size w3 wr ∧ Grid wr w3.heap.size 22 2 (xs.length + 1) (T + 1) (fun k s => (cw (rN zs) N k s : Int))) (fun _ i _ => own + 1 - (intOf i).toNat)
          case atStart => exact ⟨0, Nat.zero_le _, rfl, rfl, HGN.out.1, HGN.out.2⟩
          case round =>
            obtain ⟨y, hy, rfl, rfl, hbel, hg⟩ := hrel
            have H1 := Lib.hid (And.intro hbel hg)
            by_cases hly : y < own + 1
            · have hly' : (y : Int) ≤ own := by omega
              have ha0 := hg.cell0 xs.length (by omega)
              have ha1 := hg.cell xs.length y (by omega) (by omega)
              have l1 := cw_fits (rN zs) N xs.length y (by omega)
              have l2 := sq_le (fun s => cw_fits (rN zs) N xs.length s (by omega)) y
              have l3 : 1099511627776 * y ≤ 1099511627776 * 1000001 := Nat.mul_le_mul_left _ (by omega)
              have HN : Hid (sq (fun s => cw (rN zs) N xs.length s) (y + 1) = sq (fun s => cw (rN zs) N xs.length s) y + cw (rN zs) N xs.length y) := Lib.hid rfl
              obtain ⟨a, ha⟩ : ∃ a, sq (fun s => cw (rN zs) N xs.length s) y = a := ⟨_, rfl⟩
              obtain ⟨c, hc⟩ : ∃ c, cw (rN zs) N xs.length y = c := ⟨_, rfl⟩
              rw [ha, hc] at HN
              rw [hc] at ha1 l1
              rw [ha] at l2 ⊢
              clear hbel hg ha hc
              go_wp2_with fail
              go_roundw
              case rel => exact ⟨y + 1, by omega, by go_num, by rw [HN.out]; go_num, H1.out.1, H1.out.2⟩
              case measure => simp [intOf]; omega
            · have e : y = own + 1 := by omega
              subst e
              rw [show ((own + 1 : Nat) : Int) = (own : Int) + 1 by omega]
              rw [← HRP.out]
              clear hbel hg
              go_wp2_with fail
              refine (l06Choose_any N xs.length _ (by omega) hxN).mono ?_
              rintro e w5 ⟨rfl, hb⟩
              have H5 := Lib.hid (And.intro H1.out.1 hb)
              clear hb
              go_wp2_with fail
              go_ret3
              exact ⟨rfl, Bel_next (Bel_next H2.out.2 H5.out.1) H5.out.2⟩
theorem specRankTail_yes (xs ys : List Int) (ao bo : Option Addr) (ca cb : Nat) (w : World) (hv : poolC xs ys) (hx : Holds w ao (il xs)) (hy : Holds w bo (il ys)) :
    Calls Try.prog 12 #[.slice ao xs.length ca, .slice bo ys.length cb] w (RetB (.tuple #[.int .i64 (rtP xs ys), .int .i64 (bin (xs.length + ys.length) xs.length), .bool true]) w) :=
  specRankTail_N xs ys _ rfl ao bo ca cb w hv hx hy
theorem specRankTail_no (xs ys : List Int) (ao bo : Option Addr) (ca cb : Nat) (w : World) (hv : ¬ poolC xs ys) (hx : Holds w ao (il xs)) (hy : Holds w bo (il ys)) (hl1 : xs.length ≤ 1048576) (hl2 : ys.length ≤ 1048576) :
    Calls Try.prog 12 #[.slice ao xs.length ca, .slice bo ys.length cb] w (RetB (.tuple #[.int .i64 0, .int .i64 0, .bool false]) w) := by
  have HX := Lib.hid (And.intro hx hy)
  have HV := Lib.hid hv
  clear hx hy hv
  go_enter Try.func12, Try.ntmps12
  go_wp2_with fail
  refine (specRankSum_no xs ys _ _ _ _ _ HV.out HX.out.1 HX.out.2 hl1 hl2).mono ?_
  rintro e w1 ⟨rfl, hb⟩
  have H1 := Lib.hid hb
  clear hb
  go_wp2_with fail
  go_ret3
  exact ⟨rfl, H1.out⟩
end Go.Proofs.Ytbjcomjokkhaeaa
