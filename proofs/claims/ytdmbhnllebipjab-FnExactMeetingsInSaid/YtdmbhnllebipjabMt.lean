/- Meetings of words. -/
import Derived.Test.YtdmbhnllebipjabMs
import Derived.Deep.RegionHeld3
import Derived.Deep.AppendLies
import Derived.WalkSpells
import Derived.StillTactics
import Derived.OwnWalk
import Derived.IntWalk
namespace Go.Proofs.Ytdmbhnllebipjab
open Go Go.RowKit
set_option linter.unusedVariables false

/-- The days of the words. -/
def dayL (xs : List Int) (s : Nat) : List Int := xs.map fun x => x / (s : Int)
theorem dayL_len (xs : List Int) (s : Nat) : (dayL xs s).length = xs.length := by simp [dayL]
theorem dayL_get (xs : List Int) (s i : Nat) (h : i < xs.length) : (dayL xs s)[i]?.getD 0 = xs[i]?.getD 0 / (s : Int) := by simp [dayL, h]
/-- The differences of neighbours, the first m. -/
def difL (L : List Int) (m : Nat) : List Int := (List.range m).map fun i => L[i + 1]?.getD 0 - L[i]?.getD 0
theorem difL_next (L : List Int) (m : Nat) : difL L (m + 1) = difL L m ++ [L[m + 1]?.getD 0 - L[m]?.getD 0] := by simp [difL, List.range_succ]
theorem il_take (X : List Int) (k : Nat) (h : k < X.length) : il (X.take (k + 1)) = il (X.take k) ++ [.int .i64 (X[k]?.getD 0)] := by
  rw [List.take_succ_eq_append_getElem h]; simp [il, h, -List.take_append_getElem]

theorem day_bounds (xs : List Int) (s : Nat) (hw : wordsB xs = true) (L : List Int) (hp : L.Perm (dayL xs s)) (i : Nat) (hi : i < L.length) : 0 ≤ L[i]?.getD 0 ∧ L[i]?.getD 0 ≤ 4294967295 := by
  have hm : L[i]?.getD 0 ∈ dayL xs s := by
    rw [← hp.mem_iff, List.getElem?_eq_getElem hi]; simp
  unfold dayL at hm
  rw [List.mem_map] at hm
  obtain ⟨x, hx, he⟩ := hm
  rw [List.mem_iff_getElem?] at hx
  obtain ⟨j, hj⟩ := hx
  have hjl : j < xs.length := (List.getElem?_eq_some_iff.1 hj).1
  have hb := wordsB_get hw hjl
  rw [hj] at hb
  simp at hb
  obtain ⟨y, rfl⟩ : ∃ y : Nat, x = y := ⟨x.toNat, by omega⟩
  have h1 : y / s ≤ y := Nat.div_le_self _ _
  have e : (y : Int) / (s : Int) = ((y / s : Nat) : Int) := rfl
  rw [e] at he
  generalize y / s = z at h1 he
  generalize L[i]?.getD 0 = u at he ⊢
  subst he
  omega
abbrev KeptA (p q : Addr) (x y : Int) (b : Nat) (t : TypeId) (V : Value) (m : Nat) (vs : List Value) (W v : World) : Prop :=
  v.cell? p = some (.int .i64 x) ∧ v.cell? q = some (.int .i64 y) ∧ v.ownsRow b t 1 V m vs ∧ W.grownBy v none
theorem KeptA.drew {p q : Addr} {x y : Int} {b : Nat} {t : TypeId} {V : Value} {m : Nat} {vs : List Value} {W v : World} (h : KeptA p q x y b t V m vs W v) : KeptA p q x y b t V m vs W v.drew := ⟨h.1, h.2.1, h.2.2.1, ⟨h.2.2.2.os, h.2.2.2.tape, h.2.2.2.output, h.2.2.2.size, h.2.2.2.block⟩⟩
theorem KeptA.alloc {p q : Addr} {x y : Int} {b : Nat} {t : TypeId} {V : Value} {m : Nat} {vs : List Value} {W v : World} (h : KeptA p q x y b t V m vs W v) (o : Obj) : KeptA p q x y b t V m vs W (v.alloc o) := by
  have k : ∀ {p : Addr} {u : Value}, v.cell? p = some u → (v.alloc o).cell? p = some u := fun h => by
    have hb : Below v.heap.size v (v.alloc o) := (Below.refl _ _).alloc (Nat.le_refl _) o
    rw [hb.cell (World.block_lt_of_cell? _ _ h)]; exact h
  exact ⟨k h.1, k h.2.1, h.2.2.1.alloc _, grown_more h.2.2.2 (World.grownBy_alloc _ _ none) (fun i hi => by cases hi)⟩

set_option maxRecDepth 100000 in
set_option maxHeartbeats 800000 in
theorem specMeet_yes (xs : List Int) (s : Nat) (ao : Option Addr) (c : Nat) (w : World) (hv : wordsB xs = true ∧ 1 ≤ s ∧ s ≤ 4294967296) (hx : Holds w ao (il xs)) :
    Calls Try.prog 46 #[.slice ao xs.length c, .int .i64 s] w (fun e w' => ∃ L : List Int, L.Perm (dayL xs s) ∧ Srt L L.length ∧ RetB (.tuple #[.int .i64 (eqP (dayL xs s) xs.length : Int), .int .i64 (eqP (difL L (xs.length - 1)) (xs.length - 1) : Int), .bool true]) w e w') := by
  have HX := Lib.hid hx
  have hlen := wordsB_len hv.1
  have HV := Lib.hid hv
  have hs1 : (1 : Int) ≤ s := by omega
  have hs2 : (s : Int) ≤ 4294967296 := by omega
  have hne : ((s : Int) == 0) = false := by rw [beq_eq_false_iff_ne]; omega
  have hne' : (s : Int) ≠ 0 := by omega
  clear hx hv
  go_enter Try.func46, Try.ntmps46
  go_wp2_with fail
  refine (l02AreWords_any xs _ _ _ HX.out (by omega)).mono ?_
  rintro e w1 ⟨rfl, rfl⟩
  have hw := HV.out.1
  rw [hw]
  clear hw
  go_wp2_with fail
  refine (l00In_yes _ _ _ hs1 hs2 _).mono ?_
  rintro e w1 ⟨rfl, rfl⟩
  go_wp2_with fail
  go_loopw [7, 8] (fun lv iv wr => ∃ k : Nat, k ≤ xs.length ∧ iv = .int .i64 (k : Int) ∧ wr.ownsRow w.heap.size 2 1 lv k (il ((dayL xs s).take k)) ∧ w.grownBy wr none) (fun _ iv _ => xs.length - (intOf iv).toNat)
  case atStart => exact ⟨0, Nat.zero_le _, rfl, World.ownsRow_made _ _ _ (Nat.le_refl _) (Nat.zero_le _) rfl, by first | exact grown_refl _ _ | exact World.grownBy_alloc _ _ _⟩
  case round =>
    obtain ⟨k, hk, rfl, hown, hgr⟩ := hrel
    have H := Lib.hid (And.intro hown hgr)
    by_cases hlt : k < xs.length
    · have hbel : Below w.heap.size w wr := Below.grown (Below.refl _ _) hgr (Nat.le_refl _) (by simp)
      obtain ⟨b, o, rfl, hc0⟩ := (HX.out.below hbel) k (by simpa [il] using hlt)
      rw [il_get _ _ hlt] at hc0
      have g0 := wordsB_get HV.out.1 hlt
      have hd := dayL_get xs s k hlt
      obtain ⟨x, ex⟩ : ∃ x : Nat, xs[k]?.getD 0 = x := ⟨_, (Int.toNat_of_nonneg g0.1).symm⟩
      rw [ex] at hc0 g0 hd
      have hql : x / s ≤ x := Nat.div_le_self _ _
      have hq : (x : Int) / (s : Int) = ((x / s : Nat) : Int) := rfl
      rw [hq] at hd
      generalize x / s = q at hd hq hql
      have HNX := Lib.hid (il_take (dayL xs s) k (by rw [dayL_len]; exact hlt))
      have HD := Lib.hid hd
      have hq9 : (q : Int) ≤ 4294967295 := by omega
      have hkk : k ≤ 256 := by omega
      have hz2 := hgr.size
      clear hown hgr hbel ex hd
      go_wp2_with (at_builtin; refine wpList_app1 rfl _ _ 25 rfl w.heap.size 2 (.int .i64 0) 8 Try.underlying25 (by kernel_rfl) rfl _ k _ rfl (H.out.1.alloc _) _ _ (.int .i64 (q : Int)) rfl ?_ rfl ⟨by omega, by omega⟩ ?_ ?_)
      · simp
      · simp; omega
      · intro v' w' hown' hgr'
        have hg3 : w.grownBy w' none := grown_more (grown_more H.out.2 (World.grownBy_alloc _ _ none) (fun i hi => by cases hi)) hgr' (own_ge H.out.1)
        have ho3 : w'.ownsRow w.heap.size 2 1 v' (k + 1) (il ((dayL xs s).take (k + 1))) := by rw [HNX.out, HD.out]; exact hown'
        have H3 := Lib.hid (And.intro ho3 hg3)
        clear hown' hgr' hg3 ho3 H
        go_wp2
        go_roundw
        case rel => exact ⟨k + 1, by omega, by go_num, H3.out⟩
        case measure => simp [intOf]; omega
    · have E : Hid (k = xs.length) := Lib.hid (by omega)
      obtain ⟨ao', c', rfl⟩ := own_form hown
      have hday : Holds wr ao' (il (dayL xs s)) := by
        have := (Row.of_own hown).holds
        rwa [List.take_of_length_le (by rw [dayL_len]; omega)] at this
      have HDY := Lib.hid hday
      have HBL := Lib.hid (show Below w.heap.size w wr from Below.grown (Below.refl _ _) hgr (Nat.le_refl _) (by simp))
      have e5 := E.out
      subst e5
      clear hown hgr hday H
      rename World => wq
      go_wp2_with fail
      refine (l02Sorted_any (dayL xs s) _ (dayL_len xs s) (by omega) (by omega) _ _ _ HDY.out).mono ?_
      rintro e w2 ⟨L, hperm, hsrt, aoL, cL, rfl, hrow, hbel⟩
      have HL := Lib.hid (And.intro hperm (And.intro hsrt (And.intro hrow hbel)))
      have HLN := Lib.hid (hperm.length_eq.trans (dayL_len xs s))
      clear hperm hsrt hrow hbel
      go_wp2_with fail
      go_loopw [10, 11] (fun lv iv wr => ∃ f m : Nat, f = m + 1 ∧ f ≤ xs.length ∧ iv = .int .i64 (f : Int) ∧ wr.ownsRow w2.heap.size 2 1 lv m (il (difL L m)) ∧ w2.grownBy wr none) (fun _ iv _ => xs.length - (intOf iv).toNat)
      case atStart => exact ⟨1, 0, rfl, by omega, rfl, World.ownsRow_made _ _ _ (Nat.le_refl _) (Nat.zero_le _) rfl, by first | exact grown_refl _ _ | exact World.grownBy_alloc _ _ _⟩
      case round =>
        obtain ⟨f, m, hf, hfn, rfl, hown, hgr⟩ := hrel
        have H := Lib.hid (And.intro hown hgr)
        by_cases hlt : f < xs.length
        · have hbel : Below w2.heap.size w2 wr := Below.grown (Below.refl _ _) hgr (Nat.le_refl _) (by simp)
          have hLn : L.length = xs.length := HLN.out
          obtain ⟨b, o, rfl, hc0⟩ := ((Row.below HL.out.2.2.1 hbel).holds) f (by simp [il]; omega)
          obtain ⟨b', o', e', hc1⟩ := ((Row.below HL.out.2.2.1 hbel).holds) m (by simp [il]; omega)
          cases e'
          rw [il_get _ _ (show f < L.length by omega)] at hc0
          rw [il_get _ _ (show m < L.length by omega)] at hc1
          have g0 := day_bounds xs s HV.out.1 L HL.out.1 f (by omega)
          have g1 := day_bounds xs s HV.out.1 L HL.out.1 m (by omega)
          have hnx := difL_next L m
          rw [← hf] at hnx
          have hfm : (f : Int) - 1 = m := by omega
          obtain ⟨x, ex⟩ : ∃ x, x = L[f]?.getD 0 := ⟨_, rfl⟩
          obtain ⟨y, ey⟩ : ∃ y, y = L[m]?.getD 0 := ⟨_, rfl⟩
          rw [← ex] at hc0 g0 hnx
          rw [← ey] at hc1 g1 hnx
          have HNX := Lib.hid hnx
          have HF := Lib.hid hf
          have hml : m < xs.length := by omega
          clear ex ey hnx hf hbel
          go_wp2
          have hwr1 : IntKind.i64.wrap ((f : Int) - 1) = (m : Int) := by rw [IntWalk.i64_in _ (by omega)]; exact hfm
          clear hfm
          have hwr2 : IntKind.i64.wrap (x - y) = x - y := IntWalk.i64_in _ (by omega)
          have hf0 : (0 : Int) ≤ f := by omega
          have hf1 : (f : Int) < xs.length := by omega
          have hm0 : (0 : Int) ≤ m := by omega
          have hm1 : (m : Int) < xs.length := by omega
          have hbw2 : b < w2.heap.size := by
            obtain ⟨b2, o2, e2, hc2⟩ := HL.out.2.2.1.holds f (by simp [il]; omega)
            cases e2; exact World.block_lt_of_cell? _ _ hc2
          have hbwr : b < wr.heap.size := Nat.lt_of_lt_of_le hbw2 hgr.size
          have ag : u10.ownBlock ≠ some b := fun h => own_ne' hown hbw2 h.symm
          obtain ⟨i0, hi0, hz0, hz1, hz2⟩ := info_parts (P := Try.prog) (e := 2) (show (Try.prog.info? 2).map (fun i => (i.zero, i.size, i.bytes)) = some (some (.int .i64 0), 1, 8) by kernel_rfl)
          go_region_held3 (fun v => v.cell? ⟨b, o + f, none⟩ = some (.int .i64 x) ∧ v.cell? ⟨b, o + m, none⟩ = some (.int .i64 y))
            (first
              | go_keep
              | (go_split_ands
                 refine ⟨?_, ?_⟩
                 · (rw [hgrow.cell_far _ (by simp; omega) (Ne.symm ag)]; assumption)
                 · (rw [hgrow.cell_far _ (by simp; omega) (Ne.symm ag)]; assumption)))
            ((refine step_append_lies _ (by rfl) _ _ _ (by rfl) w2.heap.size 2 i0 _ 1 8 Try.underlying25 hi0 hz0 hz1 hz2 rfl (by omega) u10 m (il (difL L m)) (by rfl) ((hown.alloc _).drew)
                ⟨wr.heap.size, 0, none⟩ 1 1 [.int .i64 (x - y)] (by rfl) (by rfl) (World.news_of_block (cs := #[.int .i64 (x - y)]) (t := 2) (fr := (0, 0)) (heap_alloc_new wr _)) (by simp [Value.oneCell'])
                (by omega) (by unfold maxLen; omega) (by omega) (by have := hgr.size; simp; omega) (wr.heap.size + 1) (by simp) ?_; intro gg cap wz hown1 hgrow hat hlt2))
          have hga : wr.grownBy ((wr.alloc (.cells #[.int .i64 (x - y)] 2)).drew) none := by
            have h := World.grownBy_alloc wr (.cells #[.int .i64 (x - y)] 2) none
            exact ⟨h.os, h.tape, h.output, h.size, h.block⟩
          have hg9 : w2.grownBy wz none := grown_more (grown_more hgr hga (fun i hi => by cases hi)) hgrow (own_ge hown)
          have ho9 : wz.ownsRow w2.heap.size 2 1 (.slice (some ⟨gg, 0, none⟩) (m + 1) cap) (m + 1) (il (difL L (m + 1))) := by
            rw [← HF.out, HNX.out, HF.out, il, List.map_append]; exact hown1
          have H9 := Lib.hid (And.intro ho9 hg9)
          clear hga hg9 ho9 hown1 hgrow hat hlt2 H hown hgr hi0 hz0 hz1 hz2 ag
          clear hwr1 hwr2 hc0 hc1
          go_wp2
          go_roundw
          case rel => exact ⟨f + 1, m + 1, by rw [HF.out], by omega, by go_num, H9.out⟩
          case measure => simp [intOf]; omega
        · have E : Hid (f = xs.length) := Lib.hid (by omega)
          have hm9 : m ≤ 256 := by omega
          have HMM : Hid (m = xs.length - 1) := Lib.hid (by omega)
          obtain ⟨aoD, cD, rfl⟩ := own_form hown
          have hdif : Holds wr aoD (il (difL L m)) := (Row.of_own hown).holds
          have hbw : Below w2.heap.size w2 wr := Below.grown (Below.refl _ _) hgr (Nat.le_refl _) (by simp)
          have HD2 := Lib.hid hdif
          have HB1 := Lib.hid (Bel_next HL.out.2.2.2 hbw)
          clear hown hgr hdif hbw H hf
          go_wp2_with fail
          refine (l02Equal_any (dayL xs s) _ (dayL_len xs s) (by omega) _ _ _ (HDY.out.below HB1.out)).mono ?_
          rintro e w3 ⟨rfl, hb3⟩
          have HB3 := Lib.hid hb3
          clear hb3
          go_wp2_with fail
          have hD3 := HD2.out.below HB3.out
          refine (l02Equal_any (difL L m) m (by simp [difL]) (by omega) aoD cD w3 hD3).mono ?_
          rintro e w4 ⟨rfl, hb4⟩
          have HB4 := Lib.hid hb4
          clear hb4 hD3
          go_wp2_with fail
          exact bodyPost_ret (v := .tuple #[.int .i64 (eqP (dayL xs s) xs.length : Int), .int .i64 (eqP (difL L m) m : Int), .bool true]) (by simp [results, Try.results46, go_sem]) rfl ⟨L, HL.out.1, HL.out.2.1, by rw [← HMM.out], Bel_next (Bel_next (Bel_next HBL.out HB1.out) HB3.out) HB4.out⟩
theorem specMeet_no (xs : List Int) (s : Int) (ao : Option Addr) (c : Nat) (w : World) (hv : ¬(wordsB xs = true ∧ 1 ≤ s ∧ s ≤ 4294967296)) (hx : Holds w ao (il xs)) (hlen : xs.length ≤ 1048576) :
    Calls Try.prog 46 #[.slice ao xs.length c, .int .i64 s] w (RetB (.tuple #[.int .i64 0, .int .i64 0, .bool false]) w) := by
  have HX := Lib.hid hx
  have HV := Lib.hid hv
  clear hx hv
  go_enter Try.func46, Try.ntmps46
  go_wp2_with fail
  refine (l02AreWords_any xs _ _ _ HX.out hlen).mono ?_
  rintro e w1 ⟨rfl, rfl⟩
  cases hw : wordsB xs with
  | false =>
    go_wp2_with fail
    exact bodyPost_ret (v := .tuple #[.int .i64 0, .int .i64 0, .bool false]) (by simp [results, Try.results46, go_sem]) rfl ⟨rfl, Below.refl _ _⟩
  | true =>
    go_wp2_with fail
    refine (l00In_no _ _ _ (by have h := HV.out; simp [hw] at h; omega) _).mono ?_
    rintro e w1 ⟨rfl, rfl⟩
    go_wp2_with fail
    exact bodyPost_ret (v := .tuple #[.int .i64 0, .int .i64 0, .bool false]) (by simp [results, Try.results46, go_sem]) rfl ⟨rfl, Below.refl _ _⟩
theorem implMeet_no (xs : List Int) (s : Int) (ao : Option Addr) (c : Nat) (w : World) (hv : ¬(wordsB xs = true ∧ 1 ≤ s ∧ s ≤ 4294967296)) (hx : Holds w ao (il xs)) (hlen : xs.length ≤ 1048576) :
    Calls Try.prog 47 #[.slice ao xs.length c, .int .i64 s] w (RetB (.tuple #[.int .i64 0, .int .i64 0, .bool false]) w) := by
  have HX := Lib.hid hx
  have HV := Lib.hid hv
  clear hx hv
  go_enter Try.func47, Try.ntmps47
  go_wp2_with fail
  refine (implWords_any xs _ _ _ HX.out hlen).mono ?_
  rintro e w1 ⟨rfl, hb⟩
  have HB := Lib.hid hb
  clear hb
  cases hw : wordsB xs with
  | false =>
    go_wp2
    exact bodyPost_ret (v := .tuple #[.int .i64 0, .int .i64 0, .bool false]) (by simp [results, Try.results47, go_sem]) rfl ⟨rfl, HB.out⟩
  | true =>
    by_cases h1 : s < 1
    · go_wp2
      exact bodyPost_ret (v := .tuple #[.int .i64 0, .int .i64 0, .bool false]) (by simp [results, Try.results47, go_sem]) rfl ⟨rfl, HB.out⟩
    · have h2 : 4294967296 < s := by have h := HV.out; simp [hw] at h; omega
      have h1' : 1 ≤ s := by omega
      clear h1
      go_wp2
      exact bodyPost_ret (v := .tuple #[.int .i64 0, .int .i64 0, .bool false]) (by simp [results, Try.results47, go_sem]) rfl ⟨rfl, HB.out⟩
end Go.Proofs.Ytdmbhnllebipjab
