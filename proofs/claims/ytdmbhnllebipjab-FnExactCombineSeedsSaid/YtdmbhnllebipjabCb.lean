/- The words of two seeds added. -/
import Derived.Test.YtdmbhnllebipjabWo
import Derived.Deep.RegionHeld3
namespace Go.Proofs.Ytdmbhnllebipjab
open Go Go.RowKit
set_option linter.unusedVariables false

def combW (k : Int) (a b : Nat) (l : Int) (c d i : Nat) : Nat := (wdK k a b i + wdK l c d i) % 4294967296
def combL (k : Int) (a b : Nat) (l : Int) (c d n : Nat) : List Int := (List.range n).map fun i => (combW k a b l c d i : Int)
theorem combL_len (k : Int) (a b : Nat) (l : Int) (c d n : Nat) : (combL k a b l c d n).length = n := by simp [combL]
theorem combL_next (k : Int) (a b : Nat) (l : Int) (c d n : Nat) : combL k a b l c d (n + 1) = combL k a b l c d n ++ [(combW k a b l c d n : Int)] := by simp [combL, List.range_succ]

set_option maxHeartbeats 1000000 in
theorem specComb_yes (k : Int) (a b : Nat) (l : Int) (c d n : Nat) (w : World) (hv : vSeed k a b = true) (hu : vSeed l c d = true) (hn : n ≤ 256) (ha : a < 18446744073709551616) (hb : b < 18446744073709551616) (hc : c < 18446744073709551616) (hd : d < 18446744073709551616) :
    Calls Try.prog 15 #[sd k a b, sd l c d, .int .i64 n] w (RetL n (il (combL k a b l c d n)) (fun s => .tuple #[s, .bool true]) w) := by
  have HK := Lib.hid (vSeed_kind hv)
  have HL := Lib.hid (vSeed_kind hu)
  have HU := Lib.hid hu
  have hd0 : (vSeed k a b && decide ((0 : Int) ≤ n ∧ (n : Int) ≤ 256)) = true := by rw [hv]; simp; omega
  have HD := Lib.hid hd0
  have p0 := Lib.hid ((Whole.made w 28 (sdC k a b)).alloc (.cells (sdC l c d) 28))
  have p1 := Lib.hid (Whole.made2 w (.cells (sdC k a b) 28) 28 (sdC l c d))
  clear hd0 hv
  go_enter Try.func15, Try.ntmps15
  go_wp2_with fail
  refine (l02Can_any _ _ _ _ _ _ p0.out).mono ?_
  rintro e w1 ⟨rfl, rfl⟩
  rw [HD.out]
  go_wp2_with fail
  refine (l02Is_any _ _ _ _ _ p1.out).mono ?_
  rintro e w1 ⟨rfl, rfl⟩
  go_wp2_with fail
  go_loopw [8, 9] (fun v i wr => ∃ j : Nat, j ≤ n ∧ i = .int .i64 j ∧ wr.ownsRow (w.heap.size + 2) 2 1 v j (il (combL k a b l c d j)) ∧ Below w.heap.size w wr ∧ Whole wr w.heap.size 28 (sdC k (sdK k a b j).1 (sdK k a b j).2) ∧ Whole wr (w.heap.size + 1) 28 (sdC l (sdK l c d j).1 (sdK l c d j).2)) (fun _ i _ => n - (intOf i).toNat)
  case atStart => exact ⟨0, Nat.zero_le _, rfl, (by have h := World.ownsRow_made (base := w.heap.size + 2) (e := 2) (size := 1) ((w.alloc (.cells (sdC k a b) 28)).alloc (.cells (sdC l c d) 28)) #[] 0 (by simp) (Nat.zero_le _) rfl; rw [show (((w.alloc (.cells (sdC k a b) 28)).alloc (.cells (sdC l c d) 28)) : World).heap.size = w.heap.size + 1 + 1 by simp] at h; exact h), by repeat (first | with_reducible exact Below.refl _ _ | with_reducible exact HBL | with_reducible refine Below.drew ?_ | with_reducible refine Bel_drewN ?_ _ | with_reducible refine Below.alloc ?_ (by first | omega | (simp; done) | (simp; omega)) _ | with_reducible refine Below.setCell ?_ (by first | omega | (simp; done) | (simp; omega)) _), p0.out.alloc _, p1.out.alloc _⟩
  case round =>
    obtain ⟨j, hj, rfl, hown, hbel, q0, q1⟩ := hrel
    clear p0 p1
    have H := Lib.hid (And.intro hown (And.intro hbel (And.intro q0 q1)))
    have hs := Lib.hid (sdK_lt k a b j HK.out ha hb)
    have ht := Lib.hid (sdK_lt l c d j HL.out hc hd)
    have hz1 : w.heap.size + 1 < wr.heap.size := q1.lt
    by_cases hlt : j < n
    · clear hown hbel q0 q1
      go_wp2_with fail
      refine (l02Next_any _ _ _ _ _ HK.out hs.out.1 hs.out.2 H.out.2.2.1).mono ?_
      rintro e w2 ⟨rfl, r0, hg⟩
      have o2 := H.out.1.kept hg (own_ne H.out.1 (by omega))
      have r1 := H.out.2.2.2.grown hg (by simp)
      have B2 : Below w.heap.size w w2 := Below.grown H.out.2.1 hg (by omega) (by simp)
      have H2 := Lib.hid (And.intro o2 (And.intro B2 (And.intro r0 r1)))
      clear o2 r1 B2 r0 hg H
      go_wp2_with fail
      refine (l02Next_any _ _ _ _ _ HL.out ht.out.1 ht.out.2 H2.out.2.2.2).mono ?_
      rintro e w3 ⟨rfl, r1, hg⟩
      have o3 := H2.out.1.kept hg (own_ne H2.out.1 (by omega))
      have r0 := H2.out.2.2.1.grown hg (by simp)
      have B3 : Below w.heap.size w w3 := Below.grown H2.out.2.1 hg (by have := H2.out.2.2.1.lt; omega) (by simp)
      have H3 := Lib.hid (And.intro o3 (And.intro B3 (And.intro r0 r1)))
      clear o3 r1 B3 r0 hg H2
      have hw1 : (nxW k (sdK k a b j).1 (sdK k a b j).2 : Int) < 4294967296 := by have := wdK_lt k a b j HK.out; unfold wdK at this; omega
      have hw2 : (nxW l (sdK l c d j).1 (sdK l c d j).2 : Int) < 4294967296 := by have := wdK_lt l c d j HL.out; unfold wdK at this; omega
      have hz3 : w.heap.size + 2 ≤ w3.heap.size := by have := H3.out.2.2.2.lt; omega
      have hadd : IntKind.u32.wrap ((nxW k (sdK k a b j).1 (sdK k a b j).2 : Int) + nxW l (sdK l c d j).1 (sdK l c d j).2) = (combW k a b l c d j : Nat) := by
        rw [IntKind.wrap_u32']; unfold combW wdK; omega
      have hcl : (combW k a b l c d j : Int) < 4294967296 := by unfold combW; omega
      go_wp2_with (at_builtin; refine wpList_app1 rfl _ _ 25 rfl (w.heap.size + 2) 2 (.int .i64 0) 8 Try.underlying25 (by kernel_rfl) rfl _ j _ rfl (H3.out.1.alloc _) _ _ (.int .i64 (combW k a b l c d j : Int)) rfl ?_ rfl ⟨by omega, by omega⟩ ?_ ?_)
      · simp
      · simp; omega
      · intro v' w' hown' hgr'
        have r0 := (H3.out.2.2.1.alloc _).grown hgr' (own_ne' H3.out.1 (by omega))
        have r1 := (H3.out.2.2.2.alloc _).grown hgr' (own_ne' H3.out.1 (by omega))
        have B4 : Below w.heap.size w w' := Below.grown (H3.out.2.1.alloc (by omega) _) hgr' (by simp; omega) (fun i hi => by have := own_ge H3.out.1 i hi; omega)
        have o4 : w'.ownsRow (w.heap.size + 2) 2 1 v' (j + 1) (il (combL k a b l c d (j + 1))) := by rw [combL_next, il, List.map_append]; exact hown'
        have H4 := Lib.hid (And.intro o4 (And.intro B4 (And.intro r0 r1)))
        clear hown' hgr' r0 r1 B4 o4 H3
        go_wp2
        go_roundw
        case rel => exact ⟨j + 1, by omega, by go_num, H4.out⟩
        case measure => simp [intOf]; omega
    · have e' : n = j := by omega
      subst e'
      clear hown hbel q0 q1
      go_wp2
      go_ret2
      obtain ⟨hown, hbel, q0, q1⟩ := H.out
      obtain ⟨ao, cc, rfl⟩ := own_form hown
      exact ⟨_, _, rfl, (Row.of_own hown).wide (by omega) (Nat.le_refl _), hbel⟩
theorem specComb_no (k : Int) (a b : Nat) (l : Int) (c d : Nat) (n : Int) (w : World) (hv : ¬(vSeed k a b = true ∧ vSeed l c d = true ∧ 0 ≤ n ∧ n ≤ 256)) :
    Calls Try.prog 15 #[sd k a b, sd l c d, .int .i64 n] w (RetB (.tuple #[.slice none 0 0, .bool false]) w) := by
  have p0 := Lib.hid ((Whole.made w 28 (sdC k a b)).alloc (.cells (sdC l c d) 28))
  have p1 := Lib.hid (Whole.made2 w (.cells (sdC k a b) 28) 28 (sdC l c d))
  have HV := Lib.hid hv
  clear hv
  cases hq : (vSeed k a b && decide (0 ≤ n ∧ n ≤ 256)) with
  | false =>
    have HQ := Lib.hid hq
    clear hq
    go_enter Try.func15, Try.ntmps15
    go_wp2_with fail
    refine (l02Can_any _ _ _ _ _ _ p0.out).mono ?_
    rintro e w1 ⟨rfl, rfl⟩
    rw [HQ.out]
    go_wp2_with fail
    go_ret2
    exact ⟨rfl, by repeat (first | with_reducible exact Below.refl _ _ | with_reducible exact HBL | with_reducible refine Below.drew ?_ | with_reducible refine Bel_drewN ?_ _ | with_reducible refine Below.alloc ?_ (by first | omega | (simp; done) | (simp; omega)) _ | with_reducible refine Below.setCell ?_ (by first | omega | (simp; done) | (simp; omega)) _)⟩
  | true =>
    have hu : vSeed l c d = false := by
      have h := HV.out
      simp at hq
      cases hw : vSeed l c d with
      | false => rfl
      | true => exact absurd ⟨hq.1, hw, hq.2⟩ h
    have HQ := Lib.hid hq
    have HU := Lib.hid hu
    clear hq hu
    go_enter Try.func15, Try.ntmps15
    go_wp2_with fail
    refine (l02Can_any _ _ _ _ _ _ p0.out).mono ?_
    rintro e w1 ⟨rfl, rfl⟩
    rw [HQ.out]
    go_wp2_with fail
    refine (l02Is_any _ _ _ _ _ p1.out).mono ?_
    rintro e w1 ⟨rfl, rfl⟩
    rw [HU.out]
    go_wp2_with fail
    go_ret2
    exact ⟨rfl, by repeat (first | with_reducible exact Below.refl _ _ | with_reducible exact HBL | with_reducible refine Below.drew ?_ | with_reducible refine Bel_drewN ?_ _ | with_reducible refine Below.alloc ?_ (by first | omega | (simp; done) | (simp; omega)) _ | with_reducible refine Below.setCell ?_ (by first | omega | (simp; done) | (simp; omega)) _)⟩
theorem implComb_no (k : Int) (a b : Nat) (l : Int) (c d : Nat) (n : Int) (w : World) (hv : ¬(vSeed k a b = true ∧ vSeed l c d = true ∧ 0 ≤ n ∧ n ≤ 256)) :
    Calls Try.prog 17 #[sd k a b, sd l c d, .int .i64 n] w (RetB (.tuple #[.slice none 0 0, .bool false]) w) := by
  have HV := Lib.hid hv
  clear hv
  cases hw : vSeed k a b with
  | false =>
    have HW := Lib.hid hw
    clear hw
    go_enter Try.func17, Try.ntmps17
    go_wp2_with fail
    refine (ValidSeed_any _ _ _ _).mono ?_
    rintro e w1 ⟨rfl, rfl⟩
    rw [HW.out]
    go_wp2_with fail
    go_ret2
    exact ⟨rfl, by repeat (first | with_reducible exact Below.refl _ _ | with_reducible exact HBL | with_reducible refine Below.drew ?_ | with_reducible refine Bel_drewN ?_ _ | with_reducible refine Below.alloc ?_ (by first | omega | (simp; done) | (simp; omega)) _ | with_reducible refine Below.setCell ?_ (by first | omega | (simp; done) | (simp; omega)) _)⟩
  | true =>
    have HW := Lib.hid hw
    cases hu : vSeed l c d with
    | false =>
      have HU := Lib.hid hu
      clear hw hu
      go_enter Try.func17, Try.ntmps17
      go_wp2_with fail
      refine (ValidSeed_any _ _ _ _).mono ?_
      rintro e w1 ⟨rfl, rfl⟩
      rw [HW.out]
      go_wp2_with fail
      refine (ValidSeed_any _ _ _ _).mono ?_
      rintro e w1 ⟨rfl, rfl⟩
      rw [HU.out]
      go_wp2_with fail
      go_ret2
      exact ⟨rfl, by repeat (first | with_reducible exact Below.refl _ _ | with_reducible exact HBL | with_reducible refine Below.drew ?_ | with_reducible refine Bel_drewN ?_ _ | with_reducible refine Below.alloc ?_ (by first | omega | (simp; done) | (simp; omega)) _ | with_reducible refine Below.setCell ?_ (by first | omega | (simp; done) | (simp; omega)) _)⟩
    | true =>
      have HU := Lib.hid hu
      have hn : decide (0 ≤ n ∧ n ≤ 256) = false := by
        rw [decide_eq_false_iff_not]; exact fun h => HV.out ⟨hw, hu, h⟩
      have HN := Lib.hid hn
      clear hw hu hn
      go_enter Try.func17, Try.ntmps17
      go_wp2_with fail
      refine (ValidSeed_any _ _ _ _).mono ?_
      rintro e w1 ⟨rfl, rfl⟩
      rw [HW.out]
      go_wp2_with fail
      refine (ValidSeed_any _ _ _ _).mono ?_
      rintro e w1 ⟨rfl, rfl⟩
      rw [HU.out]
      go_wp2_with fail
      refine (isWordCount_any _ _).mono ?_
      rintro e w1 ⟨rfl, rfl⟩
      rw [HN.out]
      go_wp2_with fail
      go_ret2
      exact ⟨rfl, by repeat (first | with_reducible exact Below.refl _ _ | with_reducible exact HBL | with_reducible refine Below.drew ?_ | with_reducible refine Bel_drewN ?_ _ | with_reducible refine Below.alloc ?_ (by first | omega | (simp; done) | (simp; omega)) _ | with_reducible refine Below.setCell ?_ (by first | omega | (simp; done) | (simp; omega)) _)⟩
set_option maxHeartbeats 1000000 in
theorem implComb_yes (k : Int) (a b : Nat) (l : Int) (c d n : Nat) (w : World) (hv : vSeed k a b = true) (hu : vSeed l c d = true) (hn : n ≤ 256) (ha : a < 18446744073709551616) (hb : b < 18446744073709551616) (hc : c < 18446744073709551616) (hd : d < 18446744073709551616) :
    Calls Try.prog 17 #[sd k a b, sd l c d, .int .i64 n] w (RetL n (il (combL k a b l c d n)) (fun s => .tuple #[s, .bool true]) w) := by
  have HK := Lib.hid (vSeed_kind hv)
  have HL := Lib.hid (vSeed_kind hu)
  have HV := Lib.hid hv
  have HU := Lib.hid hu
  have hd0 : decide ((0 : Int) ≤ n ∧ (n : Int) ≤ 256) = true := by simp; omega
  have HD := Lib.hid hd0
  clear hd0 hv hu
  go_enter Try.func17, Try.ntmps17
  go_wp2_with fail
  refine (ValidSeed_any _ _ _ _).mono ?_
  rintro e w1 ⟨rfl, rfl⟩
  rw [HV.out]
  go_wp2_with fail
  refine (ValidSeed_any _ _ _ _).mono ?_
  rintro e w1 ⟨rfl, rfl⟩
  rw [HU.out]
  go_wp2_with fail
  refine (isWordCount_any _ _).mono ?_
  rintro e w1 ⟨rfl, rfl⟩
  rw [HD.out]
  go_wp2_with fail
  refine (wordsFrom_any _ _ _ _ _ HK.out ha hb hn).mono ?_
  rintro e w1 ⟨ao, cc, rfl, row, hbl⟩
  have p1 := (((Whole.made2 w (.cells (sdC k a b) 28) 28 (sdC l c d)).alloc (.cells (sdC k a b) 28)).alloc (.cells (sdC l c d) 28)).below hbl
  have HBL : Below w.heap.size w w1 := Bel_next (by repeat (first | with_reducible exact Below.refl _ _ | with_reducible exact HBL | with_reducible refine Below.drew ?_ | with_reducible refine Bel_drewN ?_ _ | with_reducible refine Below.alloc ?_ (by first | omega | (simp; done) | (simp; omega)) _ | with_reducible refine Below.setCell ?_ (by first | omega | (simp; done) | (simp; omega)) _)) hbl
  have hr := row.wide (lo' := w.heap.size + 2) (by simp) (Nat.le_refl _)
  have hz1 : w.heap.size + 1 < w1.heap.size := p1.lt
  obtain ⟨hc1, hf1⟩ := p1.facts
  have H := Lib.hid (And.intro HBL hr)
  clear HBL hr hbl row p1
  go_wp2_with fail
  refine (wordsFrom_any _ _ _ _ _ HL.out hc hd hn).mono ?_
  rintro e w2 ⟨ao2, cc2, rfl, row2, hbl⟩
  have HBL : Below w.heap.size w w2 := Bel_next (H.out.1.alloc (by omega) _) hbl
  have hr1 := Row.below (H.out.2.alloc _) hbl
  have hr2 := row2.wide (lo' := w1.heap.size + 1) (by simp) (Nat.le_refl _)
  have hz2 : w1.heap.size + 1 ≤ w2.heap.size := by have := hbl.size; simp at this; omega
  have H2 := Lib.hid (And.intro HBL (And.intro hr1 hr2))
  clear HBL hr1 hr2 hbl row2 H hc1 hf1
  go_wp2_with fail
  rcases H2.out.2.1 with h0 | ⟨g, cs, t, rfl, hg1, hg2, hwh, hcs⟩
  · have hn0 : n = 0 := by simpa [il, wordsL] using h0
    subst hn0
    go_loopw [41] (fun i wr => i = .int .i64 0 ∧ wr = w2.alloc (.cells (sdC l (sdK l c d 0).1 (sdK l c d 0).2) 28)) (fun _ _ => 0)
    case atStart => exact ⟨rfl, rfl⟩
    case round =>
      obtain ⟨rfl, rfl⟩ := hrel
      go_wp2
      go_ret2
      exact ⟨_, _, rfl, .inl rfl, H2.out.1.alloc (by omega) _⟩
  · have HG := Lib.hid (And.intro hg1 (And.intro hwh hcs))
    have hgb : g < w1.heap.size := hg2
    have hga : w.heap.size + 2 ≤ g := hg1
    clear hwh hcs
    go_loopw [41] (fun i wr => ∃ (j : Nat) (ds : Array Value), j ≤ n ∧ i = .int .i64 j ∧ Below w.heap.size w wr ∧ Whole wr g t ds ∧ (∀ x, x < j → ds[x]? = some (.int .i64 (combW k a b l c d x))) ∧ (∀ x, j ≤ x → x < n → ds[x]? = some (.int .i64 (wdK k a b x))) ∧ Row wr (w1.heap.size + 1) w2.heap.size ao2 (il (wordsL l c d n))) (fun i _ => n - (intOf i).toNat)
    case atStart =>
      refine ⟨0, cs, Nat.zero_le _, rfl, H2.out.1.alloc (by omega) _, HG.out.2.1.alloc _, fun x hx => absurd hx (Nat.not_lt_zero _), fun x _ hx => ?_, H2.out.2.2.alloc _⟩
      have := HG.out.2.2 x (by simpa [il, wordsL] using hx)
      rw [this]; simp [il, wordsL, List.getD, hx]
    case round =>
      obtain ⟨j, ds, hj, rfl, hbel, hwh, hlo, hhi, hr2⟩ := hrel
      have H := Lib.hid (And.intro hbel (And.intro hwh (And.intro hlo (And.intro hhi hr2))))
      by_cases hlt : j < n
      · have hc1 : wr.cell? ⟨g, j, none⟩ = some (.int .i64 (wdK k a b j)) := by rw [hwh.cell]; exact hhi j (Nat.le_refl _) hlt
        have hf1 := hwh.frozen j
        obtain ⟨b2, o2, rfl, hc2⟩ := hr2.holds j (by simpa [il, wordsL] using hlt)
        rw [il_get _ _ (by simpa [wordsL] using hlt), show (wordsL l c d n)[j]?.getD 0 = (wdK l c d j : Int) by simp [wordsL, hlt]] at hc2
        have hw1 := wdK_lt k a b j HK.out
        have hw2 := wdK_lt l c d j HL.out
        have hadd : ((wdK k a b j : Int) + (wdK l c d j : Int)) % 4294967296 = (combW k a b l c d j : Nat) := by unfold combW; omega
        generalize wdK k a b j = x at *
        generalize wdK l c d j = y at *
        clear hbel hwh hlo hhi hr2
        go_wp2
        go_roundw
        case rel =>
          obtain ⟨hbel, hwh, hlo, hhi, hr2⟩ := H.out
          refine ⟨j + 1, _, by omega, by go_num, hbel.setCell (by simp; omega) _, hwh.put j _, fun z hz => ?_, fun z hz1 hz2 => ?_, hr2.far (by simp; omega) _⟩
          · by_cases e : z = j
            · subst e
              have hs : z < ds.size := by have := hhi z (Nat.le_refl _) hlt; exact (Array.getElem?_eq_some_iff.1 this).1
              rw [Array.getElem?_setIfInBounds_self_of_lt hs]
            · rw [Array.getElem?_setIfInBounds_ne (by omega)]; exact hlo z (by omega)
          · rw [Array.getElem?_setIfInBounds_ne (by omega)]; exact hhi z (by omega) hz2
        case measure => simp [intOf]; omega
      · have e' : n = j := by omega
        subst e'
        clear hbel hwh hlo hhi hr2
        go_wp2
        go_ret2
        obtain ⟨hbel, hwh, hlo, hhi, hr2⟩ := H.out
        refine ⟨_, _, rfl, .inr ⟨g, ds, t, rfl, by omega, hwh.lt, hwh, fun i hi => ?_⟩, hbel⟩
        have hi' : i < n := by simpa [il, combL] using hi
        rw [hlo i hi']
        simp [il, combL, List.getD, hi']
end Go.Proofs.Ytdmbhnllebipjab
