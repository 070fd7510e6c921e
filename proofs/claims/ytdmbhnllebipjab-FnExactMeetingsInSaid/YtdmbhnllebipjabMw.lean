/- Meetings of words: the program's side. -/
import Derived.Test.YtdmbhnllebipjabMv
import Derived.Test.YtdmbhnllebipjabMt
namespace Go.Proofs.Ytdmbhnllebipjab
open Go Go.RowKit
set_option linter.unusedVariables false

theorem mrg_perm (X : List Int) : (mrg X).Perm X := List.mergeSort_perm X _
theorem mrg_adj (X : List Int) (n : Nat) (hn : X.length = n) : adjP (mrg X) n = eqP X n := by
  subst hn
  have h := adjP_eq (mrg X) (Srt.le (srt_merge X)) X.length (by rw [mrg_len]; exact Nat.le_refl _)
  have h2 := eqP_perm (mrg_perm X)
  rw [mrg_len] at h2
  rw [h, h2]

set_option maxRecDepth 100000 in
set_option maxHeartbeats 800000 in
theorem implMeet_yes (xs : List Int) (s : Nat) (ao : Option Addr) (c : Nat) (w : World) (hv : wordsB xs = true ∧ 1 ≤ s ∧ s ≤ 4294967296) (hx : Holds w ao (il xs)) :
    Calls Try.prog 47 #[.slice ao xs.length c, .int .i64 s] w (RetB (.tuple #[.int .i64 (eqP (dayL xs s) xs.length : Int), .int .i64 (eqP (difL (mrg (dayL xs s)) (xs.length - 1)) (xs.length - 1) : Int), .bool true]) w) := by
  have HX := Lib.hid hx
  have hlen := wordsB_len hv.1
  have HV := Lib.hid hv
  have hs1 : (1 : Int) ≤ s := by omega
  have hs2 : (s : Int) ≤ 4294967296 := by omega
  have hne : ((s : Int) == 0) = false := by rw [beq_eq_false_iff_ne]; omega
  have hne' : (s : Int) ≠ 0 := by omega
  have hmk : ∀ w : World, (Instr.makeSlice 25 (.int .i64 0) (.int .i64 (xs.length : Int))).run Try.prog w = .ok (.slice (some ⟨w.heap.size, 0, none⟩) 0 xs.length) (w.alloc (.cells (Array.replicate xs.length (.int .i64 0)) 2)) := fun w => run_mk0 w 25 2 (.int .i64 0) 8 xs.length Try.underlying25 (by kernel_rfl) rfl (by omega) (by omega)
  clear hx hv
  go_enter Try.func47, Try.ntmps47
  go_wp2_with fail
  refine (implWords_any xs _ _ _ HX.out (by omega)).mono ?_
  rintro e w1 ⟨rfl, hb⟩
  have HB := Lib.hid hb
  clear hb
  have hw := HV.out.1
  rw [hw]
  clear hw
  go_wp2_with fail
  go_loopw [7, 28] (fun lv iv wr => ∃ k : Nat, k ≤ xs.length ∧ iv = .int .i64 (k : Int) ∧ wr.ownsRow w1.heap.size 2 1 lv k (il ((dayL xs s).take k)) ∧ w1.grownBy wr none) (fun _ iv _ => xs.length - (intOf iv).toNat)
  case atStart => exact ⟨0, Nat.zero_le _, rfl, World.ownsRow_made _ _ _ (Nat.le_refl _) (by unfold maxLen; omega) (by simp), by first | exact grown_refl _ _ | exact World.grownBy_alloc _ _ _⟩
  case round =>
    obtain ⟨k, hk, rfl, hown, hgr⟩ := hrel
    have H := Lib.hid (And.intro hown hgr)
    by_cases hlt : k < xs.length
    · have hbel : Below w1.heap.size w1 wr := Below.grown (Below.refl _ _) hgr (Nat.le_refl _) (by simp)
      obtain ⟨b, o, rfl, hc0⟩ := ((HX.out.below HB.out).below hbel) k (by simpa [il] using hlt)
      rw [il_get _ _ hlt] at hc0
      have g0 := wordsB_get HV.out.1 hlt
      have hd := dayL_get xs s k hlt
      obtain ⟨x, ex⟩ : ∃ x : Nat, xs[k]?.getD 0 = x := ⟨_, (Int.toNat_of_nonneg g0.1).symm⟩
      rw [ex] at hc0 g0 hd
      have hql : x / s ≤ x := Nat.div_le_self _ _
      have hq : (x : Int) / (s : Int) = ((x / s : Nat) : Int) := rfl
      rw [hq] at hd
      generalize x / s = q at hd hq hql
      have HNX := Lib.hid (il_take (dayL xs s) k (by rw [dayL_len]; exact hlt))
      have HD := Lib.hid hd
      have hq9 : (q : Int) ≤ 4294967295 := by omega
      have hkk : k ≤ 256 := by omega
      have hz2 := hgr.size
      clear hown hgr hbel ex hd
      go_wp2_with (at_builtin; refine wpList_app1 rfl _ _ 25 rfl w1.heap.size 2 (.int .i64 0) 8 Try.underlying25 (by kernel_rfl) rfl _ k _ rfl (H.out.1.alloc _) _ _ (.int .i64 (q : Int)) rfl ?_ rfl ⟨by omega, by omega⟩ ?_ ?_)
      · simp
      · simp; omega
      · intro v' w' hown' hgr'
        have hg3 : w1.grownBy w' none := grown_more (grown_more H.out.2 (World.grownBy_alloc _ _ none) (fun i hi => by cases hi)) hgr' (own_ge H.out.1)
        have ho3 : w'.ownsRow w1.heap.size 2 1 v' (k + 1) (il ((dayL xs s).take (k + 1))) := by rw [HNX.out, HD.out]; exact hown'
        have H3 := Lib.hid (And.intro ho3 hg3)
        clear hown' hgr' hg3 ho3 H
        go_wp2
        go_roundw
        case rel => exact ⟨k + 1, by omega, by go_num, H3.out⟩
        case measure => simp [intOf]; omega
    · have E : Hid (k = xs.length) := Lib.hid (by omega)
      obtain ⟨ao', c', rfl⟩ := own_form hown
      have HB1 := Lib.hid (Bel_next HB.out (Below.grown (Below.refl _ _) hgr (Nat.le_refl _) (by simp)))
      have e5 := E.out
      subst e5
      rcases Row.of_own hown with h0 | ⟨g, cs0, t0, rfl, hg1, hg2, hw0, hv0⟩
      · rw [List.take_of_length_le (by rw [dayL_len]; omega)] at h0
        have h9 : (il (dayL xs s)).length = 0 := by rw [h0]; rfl
        rw [show (il (dayL xs s)).length = xs.length by simp [il, dayL_len]] at h9
        omega
      have hcd : Cellsd cs0 (dayL xs s) := fun a ha => by
        rw [List.take_of_length_le (by rw [dayL_len]; omega)] at hv0
        rw [hv0 a (by simpa [il] using ha), il_get _ _ ha]
      have hso := sort_any (dayL xs s) (by rw [dayL_len]; omega) g c' wr t0 cs0 hw0 hcd
      rw [dayL_len] at hso
      have HSO := Lib.hid hso
      have HG1 := Lib.hid hg1
      have HW0 := Lib.hid hw0.lt
      clear hown hgr H hso hcd hw0 hv0 hg1 hg2
      rename World => wq
      go_wp2_with fail
      refine HSO.out.mono ?_
      rintro e w2 ⟨rfl, hS, hgs⟩
      have HLP := Lib.hid (mrg_perm (dayL xs s))
      have HLN := Lib.hid ((mrg_len (dayL xs s)).trans (dayL_len xs s))
      have HADJ := Lib.hid (mrg_adj (dayL xs s) xs.length (dayL_len xs s))
      generalize hLL : mrg (dayL xs s) = L at *
      have HS := Lib.hid hS
      have HGZ : Hid (g < w2.heap.size) := Lib.hid (Nat.lt_of_lt_of_le HW0.out hgs.size)
      have HB2 := Lib.hid (Below.grown HB1.out hgs HB1.out.size (by intro i hi; cases hi; exact Nat.le_trans HB.out.size HG1.out))
      clear hS hgs HSO hLL
      go_wp2_with fail
      go_loopw [10, 11] (fun lv iv wr => ∃ f m gz cz : Nat, f = m + 1 ∧ f ≤ xs.length ∧ iv = .int .i64 (f : Int) ∧ lv = .slice (some ⟨gz, 0, none⟩) m cz ∧ wr.ownsRow w2.heap.size 2 1 lv m (il (difL L m)) ∧ w2.grownBy wr none) (fun _ iv _ => xs.length - (intOf iv).toNat)
      case atStart => exact ⟨1, 0, w2.heap.size, xs.length, rfl, by omega, rfl, rfl, World.ownsRow_made _ _ _ (Nat.le_refl _) (by unfold maxLen; omega) (by simp), by first | exact grown_refl _ _ | exact World.grownBy_alloc _ _ _⟩
      case round =>
        obtain ⟨f, m, gz, cz, hf, hfn, rfl, hlv, hown, hgr⟩ := hrel
        have H := Lib.hid (And.intro hown hgr)
        by_cases hlt : f < xs.length
        · clear hlv
          have hbel : Below w2.heap.size w2 wr := Below.grown (Below.refl _ _) hgr (Nat.le_refl _) (by simp)
          have hLn := HLN.out
          obtain ⟨b, o, e1, hc0⟩ := (HS.out.below hbel) f (by simp [il]; omega)
          cases e1
          obtain ⟨b', o', e', hc1⟩ := (HS.out.below hbel) m (by simp [il]; omega)
          cases e'
          rw [il_get _ _ (show f < L.length by omega), Nat.zero_add] at hc0
          rw [il_get _ _ (show m < L.length by omega), Nat.zero_add] at hc1
          have g0 := day_bounds xs s HV.out.1 L HLP.out f (by omega)
          have g1 := day_bounds xs s HV.out.1 L HLP.out m (by omega)
          have hnx := difL_next L m
          rw [← hf] at hnx
          have hfm : (f : Int) - 1 = m := by omega
          obtain ⟨x, ex⟩ : ∃ x, x = L[f]?.getD 0 := ⟨_, rfl⟩
          obtain ⟨y, ey⟩ : ∃ y, y = L[m]?.getD 0 := ⟨_, rfl⟩
          rw [← ex] at hc0 g0 hnx
          rw [← ey] at hc1 g1 hnx
          have HNX := Lib.hid hnx
          have HF := Lib.hid hf
          have hml : m < xs.length := by omega
          clear ex ey hnx hf hbel
          go_wp2
          have hwr1 : IntKind.i64.wrap ((f : Int) - 1) = (m : Int) := by rw [IntWalk.i64_in _ (by omega)]; exact hfm
          clear hfm
          have hwr2 : IntKind.i64.wrap (x - y) = x - y := IntWalk.i64_in _ (by omega)
          have hf0 : (0 : Int) ≤ f := by omega
          have hf1 : (f : Int) < xs.length := by omega
          have hm0 : (0 : Int) ≤ m := by omega
          have hm1 : (m : Int) < xs.length := by omega
          have hbw2 : g < w2.heap.size := HGZ.out
          have hbwr : g < wr.heap.size := Nat.lt_of_lt_of_le hbw2 hgr.size
          have ag : u10.ownBlock ≠ some g := fun h => own_ne' hown hbw2 h.symm
          obtain ⟨i0, hi0, hz0, hz1, hz2⟩ := info_parts (P := Try.prog) (e := 2) (show (Try.prog.info? 2).map (fun i => (i.zero, i.size, i.bytes)) = some (some (.int .i64 0), 1, 8) by kernel_rfl)
          go_region_held3 (fun v => v.cell? ⟨g, f, none⟩ = some (.int .i64 x) ∧ v.cell? ⟨g, m, none⟩ = some (.int .i64 y))
            (first
              | go_keep
              | (go_split_ands
                 refine ⟨?_, ?_⟩
                 · (rw [hgrow.cell_far _ (by simp; omega) (Ne.symm ag)]; assumption)
                 · (rw [hgrow.cell_far _ (by simp; omega) (Ne.symm ag)]; assumption)))
            ((refine step_append_lies _ (by rfl) _ _ _ (by rfl) w2.heap.size 2 i0 _ 1 8 Try.underlying25 hi0 hz0 hz1 hz2 rfl (by omega) u10 m (il (difL L m)) (by rfl) ((hown.alloc _).drew)
                ⟨wr.heap.size, 0, none⟩ 1 1 [.int .i64 (x - y)] (by rfl) (by rfl) (World.news_of_block (cs := #[.int .i64 (x - y)]) (t := 2) (fr := (0, 0)) (heap_alloc_new wr _)) (by simp [Value.oneCell'])
                (by omega) (by unfold maxLen; omega) (by omega) (by have := hgr.size; simp; omega) (wr.heap.size + 1) (by simp) ?_; intro gg cap wz hown1 hgrow hat hlt2))
          have hga : wr.grownBy ((wr.alloc (.cells #[.int .i64 (x - y)] 2)).drew) none := by
            have h := World.grownBy_alloc wr (.cells #[.int .i64 (x - y)] 2) none
            exact ⟨h.os, h.tape, h.output, h.size, h.block⟩
          have hg9 : w2.grownBy wz none := grown_more (grown_more hgr hga (fun i hi => by cases hi)) hgrow (own_ge hown)
          have ho9 : wz.ownsRow w2.heap.size 2 1 (.slice (some ⟨gg, 0, none⟩) (m + 1) cap) (m + 1) (il (difL L (m + 1))) := by
            rw [← HF.out, HNX.out, HF.out, il, List.map_append]; exact hown1
          have H9 := Lib.hid (And.intro ho9 hg9)
          clear hga hg9 ho9 hown1 hgrow hat hlt2 H hown hgr hi0 hz0 hz1 hz2 ag
          clear hwr1 hwr2 hc0 hc1
          go_wp2
          go_roundw
          case rel => exact ⟨f + 1, m + 1, gg, cap, by rw [HF.out], by omega, by go_num, rfl, H9.out⟩
          case measure => simp [intOf]; omega
        · have E : Hid (f = xs.length) := Lib.hid (by omega)
          have hm9 : m ≤ 256 := by omega
          have HMM : Hid (m = xs.length - 1) := Lib.hid (by omega)
          subst hlv
          have hbw : Below w2.heap.size w2 wr := Below.grown (Below.refl _ _) hgr (Nat.le_refl _) (by simp)
          rcases hown.2 with ⟨h0, _⟩ | ⟨g3, cap3, cur, h3, hb3, hg3, hn3, _, hsz3, ht3⟩
          · cases h0
          cases h3
          have hwz : Whole wr gz 2 cur := hg3
          have hcd : Cellsd cur (difL L m) := fun a ha => by
            have hc : a < cur.size := by simp [difL] at ha; omega
            have : (il (difL L m))[a]? = some cur[a] := by
              rw [← ht3]
              have ha2 : a < m * 1 := by simp [difL] at ha; omega
              simp [hc, show a < m by omega]
            rw [Array.getElem?_eq_getElem hc, ← this]
            simp [il, ha]
          have hso := sort_any (difL L m) (by simp [difL]; omega) gz cz wr 2 cur hwz hcd
          rw [show (difL L m).length = m by simp [difL]] at hso
          have HSO := Lib.hid hso
          have HB4 := Lib.hid (Bel_next HB2.out hbw)
          have HBW := Lib.hid hbw
          have HGZ3 := Lib.hid hb3
          have HAD := Lib.hid (mrg_adj (difL L m) m (by simp [difL]))
          have HLD : Hid ((mrg (difL L m)).length = m) := Lib.hid (by rw [mrg_len]; simp [difL])
          clear hown hgr hbw H hf hcd hso hwz hg3 ht3 hsz3 hn3 hb3
          go_wp2_with fail
          refine HSO.out.mono ?_
          rintro e w3 ⟨rfl, hS3, hgs3⟩
          have hb3 : Below w2.heap.size wr w3 := Below.grown (Below.refl _ _) hgs3 HBW.out.size (by intro i hi; cases hi; exact HGZ3.out)
          have HSA := Lib.hid ((HS.out.below HBW.out))
          have hSd : Holds w3 (some ⟨g, 0, none⟩) (il L) := fun i hi => by
            obtain ⟨b, o, e, hc⟩ := HSA.out i hi
            cases e
            exact ⟨g, 0, rfl, by rw [hb3.cell HGZ.out]; exact hc⟩
          have HSD := Lib.hid hSd
          have HS3 := Lib.hid hS3
          have HB5 := Lib.hid (HB4.out.trans (hb3.mono HB2.out.size))
          clear hSd hS3 hb3 hgs3
          go_wp2_with fail
          refine (meetings_any L _ HLN.out (by omega) _ _ _ HSD.out).mono ?_
          rintro e w4 ⟨rfl, hb4⟩
          have HB6 := Lib.hid (Bel_next HB5.out hb4)
          have hS4 := HS3.out.below hb4
          clear hb4
          go_wp2_with fail
          refine (meetings_any (mrg (difL L m)) m HLD.out (by omega) _ _ _ hS4).mono ?_
          rintro e w5 ⟨rfl, hb5⟩
          have HB7 := Lib.hid (Bel_next HB6.out hb5)
          clear hb5 hS4
          go_wp2_with fail
          exact bodyPost_ret (v := .tuple #[.int .i64 (adjP L xs.length : Int), .int .i64 (adjP (mrg (difL L m)) m : Int), .bool true]) (by simp [results, Try.results47, go_sem]) rfl ⟨by rw [HADJ.out, HAD.out, ← HMM.out], HB7.out⟩
theorem specMeet_one (xs : List Int) (s : Nat) (ao : Option Addr) (c : Nat) (w : World) (hv : wordsB xs = true ∧ 1 ≤ s ∧ s ≤ 4294967296) (hx : Holds w ao (il xs)) :
    Calls Try.prog 46 #[.slice ao xs.length c, .int .i64 s] w (RetB (.tuple #[.int .i64 (eqP (dayL xs s) xs.length : Int), .int .i64 (eqP (difL (mrg (dayL xs s)) (xs.length - 1)) (xs.length - 1) : Int), .bool true]) w) :=
  (specMeet_yes xs s ao c w hv hx).mono fun e w' ⟨L, hp, hs, h⟩ => by
    have e : L = mrg (dayL xs s) := srt_is_merge hp hs
    rwa [e] at h
end Go.Proofs.Ytdmbhnllebipjab
