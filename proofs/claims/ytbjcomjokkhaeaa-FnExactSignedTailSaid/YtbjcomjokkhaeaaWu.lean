/- waysUpTo and choiceTail. -/
import Derived.Test.YtbjcomjokkhaeaaPo
import Derived.Test.YtbjcomjokkhaeaaWy
import Derived.Test.YtbjcomjokkhaeaaGr
import Derived.Test.YtbjcomjokkhaeaaCc
namespace Go.Proofs.Ytbjcomjokkhaeaa
open Go Go.RowKit
set_option linter.unusedVariables false

def rN (xs : List Int) (i : Nat) : Nat := (xs[i]?.getD 0).toNat
/-- In how many ways k of the numbers can be chosen with a sum of at most 'most'. -/
def wyS (xs : List Int) (most k : Nat) : Nat := sq (fun s => cw (rN xs) xs.length k s) (most + 1)
def wyL (xs : List Int) (most : Nat) : List Int := fnL (xs.length + 1) (fun k => (wyS xs most k : Int))
theorem wyL_len (xs : List Int) (most : Nat) : (wyL xs most).length = xs.length + 1 := fnL_len _ _
theorem sumK_fnL (n : Nat) (g : Nat → Nat) (k : Nat) (h : k ≤ n) : sumK (fnL n (fun i => (g i : Int))) k = ((sq g k : Nat) : Int) := by
  induction k with
  | zero => rfl
  | succ k ih =>
    show sumK _ k + _ = ((sq g k + g k : Nat) : Int)
    rw [ih (by omega), fnL_get _ _ _ (by omega)]; omega
theorem fnL_abs (n b : Nat) (g : Nat → Nat) (h : ∀ i, g i ≤ b) : absLe b (fnL n (fun i => (g i : Int))) := fun i => by
  by_cases hi : i < n
  · rw [fnL_get _ _ _ hi]; have := h i; omega
  · rw [List.getElem?_eq_none (by rw [fnL_len]; omega)]; simp
theorem wyS_le (xs : List Int) (most k : Nat) (h : xs.length ≤ 40) : wyS xs most k ≤ 1099511627776 * (most + 1) := sq_le (fun s => cw_fits _ _ _ _ h) _
set_option maxRecDepth 100000 in
set_option maxHeartbeats 8000000 in
theorem waysUpTo_any (xs : List Int) (most : Nat) (ao : Option Addr) (ca : Nat) (w : World) (hx : Holds w ao (il xs)) (hpos : ∀ i : Nat, i < xs.length → 0 ≤ xs[i]?.getD 0 ∧ xs[i]?.getD 0 ≤ 1000000) (hl : xs.length ≤ 40) (hm : most ≤ 1000000) :
    Calls Try.prog 51 #[.slice ao xs.length ca, .int .i64 most] w (RetL (xs.length + 1) (il (wyL xs most)) (fun s => s) w) := by
  have HX := Lib.hid hx
  have HP := Lib.hid hpos
  clear hx hpos
  have hmk1 := run_mkII (P := Try.prog) w 46 22 (xs.length + 1) (by omega) Try.underlying46 (by kernel_rfl)
  rw [show ((xs.length + 1 : Nat) : Int) = (xs.length : Int) + 1 by omega] at hmk1
  have HS := Lib.hid (GridM.start w 22 2 (xs.length + 1) (most + 1))
  go_enter Try.func51, Try.ntmps51
  go_wp2_with fail
  clear hmk1
  go_loopw [20] (fun i wr => ∃ j : Nat, j ≤ xs.length + 1 ∧ i = .int .i64 (j : Int) ∧ Below w.heap.size w wr ∧ GridM wr w.heap.size 22 2 (xs.length + 1) (most + 1) j) (fun i _ => xs.length + 1 - (intOf i).toNat)
  case atStart => exact ⟨0, Nat.zero_le _, rfl, (by repeat (first | with_reducible exact Below.refl _ _ | with_reducible exact HBL | with_reducible refine Below.drew ?_ | with_reducible refine Bel_drewN ?_ _ | with_reducible refine Below.alloc ?_ (by first | omega | (simp; done) | (simp; omega)) _ | with_reducible refine Below.setCell ?_ (by first | omega | (simp; done) | (simp; omega)) _)), HS.out⟩
  case round =>
    obtain ⟨j, hj, rfl, hbel, hgm⟩ := hrel
    have H := Lib.hid (And.intro hbel hgm)
    by_cases hlt : j < xs.length + 1
    · have hlt' : (j : Int) < xs.length + 1 := by omega
      have hmk2 := run_mk16 (P := Try.prog) wr 22 2 (most + 1) (by omega) Try.underlying22 (by kernel_rfl)
      rw [show ((most + 1 : Nat) : Int) = (most : Int) + 1 by omega] at hmk2
      have hc := (hgm.2.1.alloc (.cells (Array.replicate (most + 1) (.int .i64 0)) 2)).cell j
      have hf := (hgm.2.1.alloc (.cells (Array.replicate (most + 1) (.int .i64 0)) 2)).frozen j
      rw [gridC_old _ _ _ _ _ hlt (Nat.le_refl _)] at hc
      have hz := hgm.2.1.lt
      clear hbel hgm
      go_wp2_with fail
      go_roundw
      case rel =>
        obtain ⟨HBL, hgm⟩ := H.out
        exact ⟨j + 1, by omega, by go_num, (by repeat (first | with_reducible exact Below.refl _ _ | with_reducible exact HBL | with_reducible refine Below.drew ?_ | with_reducible refine Bel_drewN ?_ _ | with_reducible refine Below.alloc ?_ (by first | omega | (simp; done) | (simp; omega)) _ | with_reducible refine Below.setCell ?_ (by first | omega | (simp; done) | (simp; omega)) _)), hgm.next hlt⟩
      case measure => simp [intOf]; omega
    · have e : j = xs.length + 1 := by omega
      subst e
      rw [show ((xs.length + 1 : Nat) : Int) = (xs.length : Int) + 1 by omega]
      have HG := Lib.hid hgm.all
      have HB := Lib.hid hbel
      have hc0 := hgm.all.cell0 0 (by omega)
      have hc1 := hgm.all.cell 0 0 (by omega) (by omega)
      have hf1 := hgm.all.frozen 0 0 (by omega)
      have hz := hgm.all.lt 0 (by omega)
      rw [Nat.add_zero] at hc0 hc1 hf1 hz
      clear hbel hgm
      go_wp2_with fail
      clear hc0 hc1 hf1
      go_loopw [36] (fun i wr => ∃ q : Nat, q ≤ xs.length ∧ i = .int .i64 (q : Int) ∧ Below w.heap.size w wr ∧ Grid wr w.heap.size 22 2 (xs.length + 1) (most + 1) (fun k s => (cw (rN xs) q k s : Int))) (fun i _ => xs.length - (intOf i).toNat)
      case atStart =>
        have HBL := HB.out
        have hg := (HG.out.put 0 0 (by omega) 1).to (f' := fun k s => (cw (rN xs) 0 k s : Int)) (fun k t _ _ => by
          show (if k = 0 ∧ t = 0 then (1 : Int) else 0) = (cw (rN xs) 0 k t : Int)
          simp only [cw]; split <;> rfl)
        exact ⟨0, Nat.zero_le _, rfl, (by repeat (first | with_reducible exact Below.refl _ _ | with_reducible exact HBL | with_reducible refine Below.drew ?_ | with_reducible refine Bel_drewN ?_ _ | with_reducible refine Below.alloc ?_ (by first | omega | (simp; done) | (simp; omega)) _ | with_reducible refine Below.setCell ?_ (by first | omega | (simp; done) | (simp; omega)) _)), hg⟩
      case round =>
        clear hz
        obtain ⟨q, hq, rfl, hbel, hg⟩ := hrel
        have H := Lib.hid (And.intro hbel hg)
        by_cases hlq : q < xs.length
        · obtain ⟨b, o, rfl, hc⟩ := (Holds.below HX.out hbel) q (by simpa [il] using hlq)
          rw [il_get _ _ hlq] at hc
          have hlq' : (q : Int) < xs.length := by omega
          obtain ⟨x, hxx⟩ : ∃ x : Nat, xs[q]?.getD 0 = (x : Int) := ⟨_, (Int.toNat_of_nonneg (HP.out q hlq).1).symm⟩
          have hx6 : x ≤ 1000000 := by have := HP.out q hlq; omega
          rw [hxx] at hc
          have HR : Hid (rN xs q = x) := Lib.hid (by unfold rN; rw [hxx]; rfl)
          clear hxx hbel hg
          go_wp2_with fail
          clear hc
          go_loopw [9] (fun i wr => ∃ kk : Nat, kk ≤ q + 1 ∧ i = .int .i64 ((kk : Int) - 1) ∧ Below w.heap.size w wr ∧ Grid wr w.heap.size 22 2 (xs.length + 1) (most + 1) (fun k s => if kk + 1 ≤ k then (cw (rN xs) (q + 1) k s : Int) else (cw (rN xs) q k s : Int))) (fun i _ => (intOf i + 1).toNat)
          case atStart => exact ⟨q + 1, Nat.le_refl _, congrArg _ (by omega), H.out.1, H.out.2.to (fun k t _ _ => by
            by_cases h : q + 1 + 1 ≤ k
            · rw [if_pos h, cw_over _ _ _ _ (by omega), cw_over _ _ _ _ (by omega)]
            · rw [if_neg h])⟩
          case round =>
            obtain ⟨kk, hkk, rfl, hbel, hg⟩ := hrel
            have H1 := Lib.hid (And.intro hbel hg)
            clear hbel hg
            rcases kk with _ | c
            · rw [show ((0 : Nat) : Int) - 1 = -1 by omega]
              go_wp2_with fail
              go_roundw
              case rel => exact ⟨q + 1, by omega, by go_num, H1.out.1, H1.out.2.to (fun k t _ _ => by
                rcases k with _ | k
                · rw [if_neg (by omega), cw_none]
                · rw [if_pos (by omega)])⟩
              case measure => simp [intOf]; omega
            · rw [show ((c + 1 : Nat) : Int) - 1 = (c : Int) by omega]
              go_wp2_with fail
              go_loopw [10] (fun i wr => ∃ s : Nat, x ≤ s ∧ (s ≤ most + 1 ∨ s = x) ∧ i = .int .i64 (s : Int) ∧ Below w.heap.size w wr ∧ Grid wr w.heap.size 22 2 (xs.length + 1) (most + 1) (fun k t => if k = c + 1 then (cwU (rN xs) q (c + 1) s t : Int) else if c + 2 ≤ k then (cw (rN xs) (q + 1) k t : Int) else (cw (rN xs) q k t : Int))) (fun i _ => most + 1 - (intOf i).toNat)
              case atStart => exact ⟨x, Nat.le_refl _, .inr rfl, rfl, H1.out.1, H1.out.2.to (fun k t _ _ => by
                by_cases e : k = c + 1
                · subst e; rw [if_neg (by omega), if_pos rfl]; rw [← HR.out, cwU_start]
                · rw [if_neg e])⟩
              case round =>
                obtain ⟨s, hs1, hs2, rfl, hbel, hg⟩ := hrel
                have H2 := Lib.hid (And.intro hbel hg)
                by_cases hls : s ≤ most
                · have hls' : (s : Int) ≤ most := by omega
                  obtain ⟨d, rfl⟩ : ∃ d, s = x + d := ⟨s - x, by omega⟩
                  have ha0 := hg.cell0 (c + 1) (by omega)
                  have hb0 := hg.cell0 c (by omega)
                  have ha1 := hg.cell (c + 1) (x + d) (by omega) (by omega)
                  have hb1 := hg.cell c d (by omega) (by omega)
                  have hfa := hg.frozen (c + 1) (x + d) (by omega)
                  have hz := hg.lt (c + 1) (by omega)
                  rw [if_pos rfl, show cwU (rN xs) q (c + 1) (x + d) (x + d) = cw (rN xs) q (c + 1) (x + d) by simp [cwU]] at ha1
                  rw [if_neg (by omega), if_neg (by omega)] at hb1
                  have l1 := cw_fits (rN xs) q (c + 1) (x + d) (by omega)
                  have l2 := cw_fits (rN xs) q c d (by omega)
                  obtain ⟨y, hy⟩ : ∃ y, cw (rN xs) q (c + 1) (x + d) = y := ⟨_, rfl⟩
                  obtain ⟨z, hz2⟩ : ∃ z, cw (rN xs) q c d = z := ⟨_, rfl⟩
                  rw [hy] at ha1 l1
                  rw [hz2] at hb1 l2
                  have HYZ := Lib.hid (And.intro hy hz2)
                  have hxd : ((x + d : Nat) : Int) - (x : Int) = (d : Int) := by omega
                  rw [show w.heap.size + 1 + (c + 1) = w.heap.size + (c + 2) by omega] at ha0 ha1 hfa hz
                  rw [show w.heap.size + 1 + c = w.heap.size + (c + 1) by omega] at hb0 hb1
                  obtain ⟨ga, hga⟩ : ∃ ga, ga = w.heap.size + (c + 2) := ⟨_, rfl⟩
                  obtain ⟨gb, hgb⟩ : ∃ gb, gb = w.heap.size + (c + 1) := ⟨_, rfl⟩
                  rw [← hga] at ha0 ha1 hfa hz
                  rw [← hgb] at hb0 hb1
                  have HGA := Lib.hid (And.intro hga hgb)
                  obtain ⟨s, hsd⟩ : ∃ s, s = x + d := ⟨_, rfl⟩
                  rw [← hsd] at ha1 hfa hxd hls' ⊢
                  have HSD := Lib.hid hsd
                  clear hy hz2 hga hgb hsd hbel hg hs2 hls hs1
                  go_wp2_with fail
                  go_region
                  go_wp2_with fail
                  go_roundw
                  case rel =>
                    obtain ⟨HBL, hg⟩ := H2.out
                    obtain ⟨e1, e2⟩ := HGA.out
                    have hput := hg.put (c + 1) (x + d) (by omega) ((y : Int) + (z : Int))
                    rw [show w.heap.size + 1 + (c + 1) = ga by omega, ← HSD.out] at hput
                    refine ⟨s + 1, by have := HSD.out; omega, .inl (by omega), by go_num, (by repeat (first | with_reducible exact Below.refl _ _ | with_reducible exact HBL | with_reducible refine Below.drew ?_ | with_reducible refine Bel_drewN ?_ _ | with_reducible refine Below.alloc ?_ (by first | omega | (simp; done) | (simp; omega)) _ | with_reducible refine Below.setCell ?_ (by first | omega | (simp; done) | (simp; omega)) _)), hput.drew.to (fun k t hk ht => ?_)⟩
                    rw [HSD.out]
                    by_cases e : k = c + 1
                    · subst e
                      rw [if_pos rfl]
                      have h := cwU_put (rN xs) q c (x + d) t (by rw [HR.out]; omega)
                      rw [HR.out, show x + d - x = d by omega, HYZ.out.1, HYZ.out.2] at h
                      rw [← h]
                      by_cases et : t = x + d
                      · rw [if_pos ⟨rfl, et⟩, if_pos et]; omega
                      · rw [if_neg (fun h => et h.2), if_neg et, if_pos rfl]
                    · rw [if_neg (fun h => e h.1), if_neg e, if_neg e]
                  case measure => first | (simp [intOf]; done) | (simp [intOf]; omega)
                · clear hbel hg
                  go_wp2_with fail
                  go_roundw
                  case rel =>
                    refine ⟨c, by omega, rfl, H2.out.1, H2.out.2.to (fun k t _ ht => ?_)⟩
                    by_cases e : k = c + 1
                    · subst e
                      rw [if_pos rfl, if_pos (by omega), cwU, if_pos (by omega)]
                    · rw [if_neg e]
                      by_cases h : c + 2 ≤ k
                      · rw [if_pos h, if_pos (by omega)]
                      · rw [if_neg h, if_neg (by omega)]
                  case measure => first | (simp [intOf]; done) | (simp [intOf]; omega)
        · have e : q = xs.length := by omega
          subst e
          obtain ⟨wa, rfl⟩ : ∃ wa, wa = wr := ⟨_, rfl⟩
          have hmk3 := run_mkI0 (P := Try.prog) wa 22 2 (xs.length + 1) Try.underlying22 (by kernel_rfl) (by omega)
          rw [show ((xs.length + 1 : Nat) : Int) = (xs.length : Int) + 1 by omega] at hmk3
          have HO := Lib.hid (World.ownsRow_made (base := wa.heap.size) (e := 2) (size := 1) wa (Array.replicate (xs.length + 1) (.int .i64 0)) (xs.length + 1) (Nat.le_refl _) (by unfold maxLen; omega) (by simp))
          have hz5 := hbel.size
          clear hbel hg
          go_wp2_with fail
          clear hmk3
          go_loopw [11, 77] (fun v i w5 => ∃ k : Nat, k ≤ xs.length + 1 ∧ i = .int .i64 (k : Int) ∧ w5.ownsRow wa.heap.size 2 1 v k (il (fnL k (fun k => (wyS xs most k : Int)))) ∧ Below wa.heap.size wa w5) (fun _ i _ => xs.length + 1 - (intOf i).toNat)
          case atStart => exact ⟨0, Nat.zero_le _, rfl, by simpa [fnL, il] using HO.out, (by repeat (first | with_reducible exact Below.refl _ _ | with_reducible exact HBL | with_reducible refine Below.drew ?_ | with_reducible refine Bel_drewN ?_ _ | with_reducible refine Below.alloc ?_ (by first | omega | (simp; done) | (simp; omega)) _ | with_reducible refine Below.setCell ?_ (by first | omega | (simp; done) | (simp; omega)) _))⟩
          case round =>
            obtain ⟨k, hk, rfl, hown, hb5⟩ := hrel
            have H5 := Lib.hid (And.intro hown hb5)
            have hz6 := hb5.size
            by_cases hlk : k < xs.length + 1
            · have hlk' : (k : Int) < xs.length + 1 := by omega
              have hc0 := (H.out.2.below hb5).cell0 k hlk
              have HR := Lib.hid (((H.out.2.below hb5).2 k hlk).row (lo := 0) (Nat.zero_le _) ((H.out.2.below hb5).lt k hlk)).holds
              clear hown hb5
              go_wp2_with fail
              clear hc0
              refine (sumOf_any (fnL (most + 1) (fun s => (cw (rN xs) xs.length k s : Int))) 1099511627776 (most + 1) (fnL_len _ _) _ _ _ HR.out (fnL_abs _ _ _ (fun s => cw_fits _ _ _ _ hl)) (by omega) (by omega)).mono ?_
              rintro e w6 ⟨rfl, rfl⟩
              rw [sumK_fnL _ _ _ (Nat.le_refl _)]
              rw [show sq (fun s => cw (rN xs) xs.length k s) (most + 1) = wyS xs most k from rfl]
              obtain ⟨d, hd⟩ : ∃ d, wyS xs most k = d := ⟨_, rfl⟩
              rw [hd]
              have HD := Lib.hid hd
              clear hd
              go_wp2_with (at_builtin; refine wpList_app1 rfl _ _ 22 rfl wa.heap.size 2 (.int .i64 0) 8 Try.underlying22 (by kernel_rfl) rfl _ k _ rfl (H5.out.1.alloc _) _ _ (.int .i64 (d : Int)) rfl ?_ rfl ⟨by omega, by omega⟩ ?_ ?_)
              · simp
              · simp; omega
              · intro v' w' hown' hgr'
                have hb7 : Below wa.heap.size wa w' := by
                  have HBL := H5.out.2
                  have h1 : Below wa.heap.size wa _ := Below.alloc HBL (by omega) (.cells #[.int .i64 (d : Int)] 2)
                  exact h1.grown hgr' (by simp; omega) (own_ge H5.out.1)
                have ho7 : w'.ownsRow wa.heap.size 2 1 v' (k + 1) (il (fnL (k + 1) (fun k => (wyS xs most k : Int)))) := by rw [fnL_next, il, List.map_append, HD.out]; exact hown'
                have H7 := Lib.hid (And.intro ho7 hb7)
                clear hown' hgr' hb7 ho7
                go_wp2_with fail
                go_roundw
                case rel => exact ⟨k + 1, by omega, by go_num, H7.out⟩
                case measure => simp [intOf]; omega
            · have e : k = xs.length + 1 := by omega
              subst e
              obtain ⟨ao2, c2, rfl⟩ := own_form hown
              have H7 := Lib.hid (And.intro ((Row.of_own hown).wide (lo' := w.heap.size) hz5 (Nat.le_refl _)) (Bel_next H.out.1 hb5))
              clear hown hb5
              go_wp2_with fail
              go_ret
              exact ⟨_, _, rfl, H7.out⟩
end Go.Proofs.Ytbjcomjokkhaeaa
