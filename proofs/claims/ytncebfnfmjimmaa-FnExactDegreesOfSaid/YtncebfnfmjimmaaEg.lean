/- DegreesOf: both sides. -/
import Derived.Test.YtncebfnfmjimmaaEf
namespace Go.Proofs.Ytncebfnfmjimmaa
open Go Go.RowKit
set_option linter.unusedVariables false

theorem own_holds {w : World} {base n : Nat} {e : TypeId} {v : Value} {xs : List Int} (h : w.ownsRow base e 2 v n (il xs)) : ∃ ao c, v = .slice ao n c ∧ Holds w ao (il xs) := by
  rcases h.2 with ⟨rfl, h0⟩ | ⟨g, cap, cur, rfl, _, _⟩
  · refine ⟨none, 0, by rw [h0], fun i hi => ?_⟩
    have := h.1
    rw [h0] at this
    omega
  · refine ⟨some ⟨g, 0, none⟩, cap, rfl, fun i hi => ⟨g, 0, rfl, ?_⟩⟩
    have hc := h.cells (g := g) rfl i _ (List.getElem?_eq_getElem hi)
    rw [Addr.add_lit] at hc
    rw [hc]; simp [List.getD, hi]
set_option maxRecDepth 100000 in
set_option maxHeartbeats 1000000 in
theorem countEdges_ret (xs : List Int) (n h : Nat) (ao : Option Addr) (c : Nat) (w : World) (hv : isEd xs n) (hh : h = xs.length / 2) (hx : Holds w ao (il xs)) :
    Calls Try.prog 71 #[.slice ao h c, .int .i64 n] w (RetL n (il (degK xs n xs.length)) (fun s => s) w) := by
  have HX := Lib.hid hx
  have HV := Lib.hid hv
  have hl := hv.2.2.1
  have hn1 : 1 ≤ n := by have := hv.1.1; omega
  have hn2 : n ≤ 64 := by have := hv.1.2; omega
  have HH : Hid (xs.length = 2 * h) := Lib.hid (by have := hv.2.1; omega)
  have hmk := run_mk16 (P := Try.prog) w 22 2 n (by omega) Try.underlying22 (by kernel_rfl)
  have hnew := Lib.hid (tally_new w n 2)
  clear hx hv hh
  go_enter Try.func71, Try.ntmps71
  go_wp2
  clear hmk
  go_loopw [12] (fun i wr => ∃ m : Nat, m ≤ h ∧ i = .int .i64 m ∧ Below w.heap.size w wr ∧ Whole wr w.heap.size 2 (il (degK xs n (2 * m))).toArray) (fun i _ => h - (intOf i).toNat)
  case atStart => exact ⟨0, Nat.zero_le _, rfl, (by repeat (first | with_reducible exact Below.refl _ _ | with_reducible exact HBL | with_reducible refine Below.drew ?_ | with_reducible refine Bel_drewN ?_ _ | with_reducible refine Below.alloc ?_ (by first | omega | (simp; done) | (simp; omega)) _ | with_reducible refine Below.setCell ?_ (by first | omega | (simp; done) | (simp; omega)) _)), hnew.out⟩
  case round =>
    obtain ⟨m, hm, rfl, hbel, hwh⟩ := hrel
    have HW := Lib.hid (And.intro hbel hwh)
    obtain ⟨i1, i2⟩ := degK_inv xs n (2 * m)
    obtain ⟨j1, j2⟩ := degK_inv xs n (2 * m + 1)
    have hsz := hwh.lt
    by_cases hlt : m < h
    · have hl0 : 2 * m < xs.length := by have := HH.out; omega
      have hl1 : 2 * m + 1 < xs.length := by have := HH.out; omega
      obtain ⟨b, o, rfl, hc0⟩ := (Holds.below HX.out hbel) (2 * m) (by simpa [il] using hl0)
      obtain ⟨b', o', e', hc1⟩ := (Holds.below HX.out hbel) (2 * m + 1) (by simpa [il] using hl1)
      cases e'
      rw [il_get _ _ hl0] at hc0
      rw [il_get _ _ hl1] at hc1
      have hr0 := ed_range HV.out _ hl0
      have hr1 := ed_range HV.out _ hl1
      obtain ⟨y, hy⟩ : ∃ y : Nat, xs[2 * m]?.getD 0 = (y : Int) := ⟨_, (Int.toNat_of_nonneg hr0.1).symm⟩
      obtain ⟨z, hz⟩ : ∃ z : Nat, xs[2 * m + 1]?.getD 0 = (z : Int) := ⟨_, (Int.toNat_of_nonneg hr1.1).symm⟩
      rw [hy] at hc0 hr0
      rw [hz] at hc1 hr1
      have hc0' : wr.cell? ⟨b, o + m * 2, none⟩ = some (.int .i64 (y : Int)) := by rw [Nat.mul_comm]; exact hc0
      have hc1' : wr.cell? ⟨b, o + m * 2 + 1, none⟩ = some (.int .i64 (z : Int)) := by rw [Nat.mul_comm, Nat.add_assoc]; exact hc1
      have hbb := World.block_lt_of_cell? _ _ hc0
      have hyn : y < n := by omega
      have hzn : z < n := by omega
      have hyn' : (y : Int) < n := by omega
      have hzn' : (z : Int) < n := by omega
      have hS1 : degK xs n (2 * m + 1) = bump (degK xs n (2 * m)) y := by rw [degK, hy]; rfl
      have hS2 : degK xs n (2 * (m + 1)) = bump (degK xs n (2 * m + 1)) z := by rw [show 2 * (m + 1) = 2 * m + 1 + 1 by omega, degK, hz]; rfl
      have hlt' : (m : Int) < h := by omega
      have hm256 : m ≤ 256 := by have := HH.out; omega
      have hvy := tally_cell hwh y (by rw [i1]; exact hyn)
      have hfr := hwh.frozen
      have hby := i2 y
      have hbz := j2 z
      obtain ⟨v, hv⟩ : ∃ v, v = (degK xs n (2 * m))[y]?.getD 0 := ⟨_, rfl⟩
      rw [← hv] at hvy hby
      -- the tally behind the first end
      have hw1 : Hid (Whole (wr.setCell ⟨w.heap.size, y, none⟩ (.int .i64 (v + 1))) w.heap.size 2 (il (degK xs n (2 * m + 1))).toArray) := Lib.hid (by
        rw [hS1]; unfold bump; rw [← hv]; exact tally_put hwh _ _)
      obtain ⟨u, hu⟩ : ∃ u, u = (degK xs n (2 * m + 1))[z]?.getD 0 := ⟨_, rfl⟩
      rw [← hu] at hbz
      have hvz : (wr.setCell ⟨w.heap.size, y, none⟩ (.int .i64 (v + 1))).cell? ⟨w.heap.size, z, none⟩ = some (.int .i64 u) := by
        have := tally_cell hw1.out z (by rw [j1]; exact hzn)
        rw [← hu] at this
        exact this
      have HS := Lib.hid (And.intro hS2 hu)
      clear hv hu hS1 hS2 hwh hbel i2 hy hz i1 j1 j2 hr0 hr1 hc0 hc1
      go_wp2
      go_roundw
      case rel =>
        refine ⟨m + 1, by omega, by go_num, ?_, ?_⟩
        · have HBL := HW.out.1; exact (by repeat (first | with_reducible exact Below.refl _ _ | with_reducible exact HBL | with_reducible refine Below.drew ?_ | with_reducible refine Bel_drewN ?_ _ | with_reducible refine Below.alloc ?_ (by first | omega | (simp; done) | (simp; omega)) _ | with_reducible refine Below.setCell ?_ (by first | omega | (simp; done) | (simp; omega)) _))
        · rw [HS.out.1]
          unfold bump
          rw [← HS.out.2]
          first | exact (tally_put hw1.out _ _).alloc _ | exact tally_put (hw1.out.alloc _) _ _
      case measure => simp [intOf]; omega
    · have E : Hid (2 * m = xs.length) := Lib.hid (by have := HH.out; omega)
      clear hwh hbel i1 i2 j1 j2
      go_wp2
      go_ret
      have hW := HW.out
      rw [E.out] at hW
      exact ⟨_, _, rfl, tally_row hW.2 (Nat.le_refl _) hW.2.lt, hW.1⟩
theorem implDegrees_yes (xs : List Int) (n : Int) (ao : Option Addr) (w : World) (hv : isEd xs n) (hx : Holds w ao (il xs)) (hl : xs.length ≤ 1048576) :
    Calls Try.prog 43 #[.slice ao xs.length xs.length, .int .i64 n] w (RetL n.toNat (il (degK xs n.toNat xs.length)) (fun s => .tuple #[s, .bool true]) w) := by
  obtain ⟨m, rfl⟩ : ∃ m : Nat, n = m := ⟨n.toNat, by have := hv.1.1; omega⟩
  have HX := Lib.hid hx
  have HV := Lib.hid hv
  clear hx hv
  go_enter Try.func43, Try.ntmps43
  go_wp2_with fail
  refine (readEdges_any xs m _ _ hl HX.out).mono ?_
  rintro e w1 ⟨h, _⟩
  obtain ⟨v, rfl, ho, hb⟩ := h HV.out
  obtain ⟨ao1, c1, rfl, hh⟩ := own_holds ho
  have H := Lib.hid (And.intro hh hb)
  clear ho hb h hh
  go_wp2_with fail
  refine (countEdges_ret xs m _ _ _ _ HV.out rfl H.out.1).mono ?_
  rintro e w2 ⟨ao2, c2, rfl, hrow, hb⟩
  have H2 := Lib.hid (And.intro hrow hb)
  clear hrow hb
  go_wp2
  go_ret2
  exact ⟨ao2, c2, rfl, H2.out.1.wide H.out.2.size (Nat.le_refl _), Bel_next H.out.2 H2.out.2⟩
theorem implDegrees_no (xs : List Int) (n : Int) (ao : Option Addr) (w : World) (hv : ¬ isEd xs n) (hx : Holds w ao (il xs)) (hl : xs.length ≤ 1048576) :
    Calls Try.prog 43 #[.slice ao xs.length xs.length, .int .i64 n] w (RetB (.tuple #[.slice none 0 0, .bool false]) w) := by
  have HX := Lib.hid hx
  have HV := Lib.hid hv
  clear hx hv
  go_enter Try.func43, Try.ntmps43
  go_wp2_with fail
  refine (readEdges_any xs n _ _ hl HX.out).mono ?_
  rintro e w1 ⟨_, h⟩
  obtain ⟨rfl, hb⟩ := h HV.out
  have HB := Lib.hid hb
  clear hb h
  go_wp2
  go_ret2
  exact ⟨rfl, HB.out⟩
theorem specDegrees_yes (xs : List Int) (n : Int) (ao : Option Addr) (c : Nat) (w : World) (hv : isEd xs n) (hx : Holds w ao (il xs)) (hl : xs.length ≤ 1048576) :
    Calls Try.prog 42 #[.slice ao xs.length c, .int .i64 n] w (RetL n.toNat (il (degK xs n.toNat xs.length)) (fun s => .tuple #[s, .bool true]) w) := by
  obtain ⟨m, rfl⟩ : ∃ m : Nat, n = m := ⟨n.toNat, by have := hv.1.1; omega⟩
  have HX := Lib.hid hx
  have HV := Lib.hid hv
  clear hx hv
  go_enter Try.func42, Try.ntmps42
  go_wp2_with fail
  refine (l04Edges_any xs m _ _ _ hl HX.out).mono ?_
  rintro e w1 ⟨rfl, hb⟩
  rw [edB_yes HV.out]
  have HB := Lib.hid hb
  clear hb
  go_wp2_with fail
  refine (l04Degrees_ret xs m _ _ _ HV.out (HX.out.below HB.out)).mono ?_
  rintro e w2 ⟨ao2, c2, rfl, hrow, hb⟩
  have H2 := Lib.hid (And.intro hrow hb)
  clear hrow hb
  go_wp2
  go_ret2
  exact ⟨ao2, c2, rfl, H2.out.1.wide HB.out.size (Nat.le_refl _), Bel_next HB.out H2.out.2⟩
theorem specDegrees_no (xs : List Int) (n : Int) (ao : Option Addr) (c : Nat) (w : World) (hv : ¬ isEd xs n) (hx : Holds w ao (il xs)) (hl : xs.length ≤ 1048576) :
    Calls Try.prog 42 #[.slice ao xs.length c, .int .i64 n] w (RetB (.tuple #[.slice none 0 0, .bool false]) w) := by
  have HX := Lib.hid hx
  have HV := Lib.hid hv
  clear hx hv
  go_enter Try.func42, Try.ntmps42
  go_wp2_with fail
  refine (l04Edges_any xs n _ _ _ hl HX.out).mono ?_
  rintro e w1 ⟨rfl, hb⟩
  rw [edB_no HV.out]
  have HB := Lib.hid hb
  clear hb
  go_wp2
  go_ret2
  exact ⟨rfl, HB.out⟩
end Go.Proofs.Ytncebfnfmjimmaa
