/- Two samples, one behind the other; RankSum: both sides. -/
import Derived.Test.YtbjcomjokkhaeaaSmp
import Derived.Test.YtbjcomjokkhaeaaCat
namespace Go.Proofs.Ytbjcomjokkhaeaa
open Go Go.RowKit
set_option linter.unusedVariables false

/-- Two samples that are none too long together. -/
def poolC (xs ys : List Int) : Prop := isSam xs ∧ isSam ys ∧ xs.length + ys.length ≤ 40
theorem poolC_abs {xs : List Int} (h : isSam xs) : absLe 1000 xs := fun i => by
  by_cases hi : i < xs.length
  · exact h.2 i hi
  · rw [List.getElem?_eq_none (by omega)]; simp
set_option maxHeartbeats 1000000 in
theorem poolOf_yes (xs ys : List Int) (ao bo : Option Addr) (ca cb : Nat) (w : World) (hv : poolC xs ys) (hx : Holds w ao (il xs)) (hy : Holds w bo (il ys)) :
    Calls Try.prog 42 #[.slice ao xs.length ca, .slice bo ys.length cb] w (RetL (xs.length + ys.length) (il (xs ++ ys)) (fun s => .tuple #[s, .bool true]) w) := by
  have HX := Lib.hid (And.intro hx hy)
  have HV := Lib.hid hv
  have h1 := hv.1.1
  have h2 := hv.2.1.1
  have h3 := hv.2.2
  obtain ⟨h1, h1'⟩ := h1
  obtain ⟨h2, h2'⟩ := h2
  have h4 : (xs.length : Int) + ys.length ≤ 40 := by omega
  have HW := Lib.hid (Whole.made w 22 #[.slice ao xs.length ca, .slice bo ys.length cb])
  have HB : Hid (Below w.heap.size w (w.alloc (.cells #[.slice ao xs.length ca, .slice bo ys.length cb] 22))) := Lib.hid (by repeat (first | with_reducible exact Below.refl _ _ | with_reducible exact HBL | with_reducible refine Below.drew ?_ | with_reducible refine Bel_drewN ?_ _ | with_reducible refine Below.alloc ?_ (by first | omega | (simp; done) | (simp; omega)) _ | with_reducible refine Below.setCell ?_ (by first | omega | (simp; done) | (simp; omega)) _))
  clear hx hy hv
  go_enter Try.func42, Try.ntmps42
  go_wp2_with (first | (go_at_call 46; first | ((with_reducible refine (isSample_any xs _ _ _ HX.out.1 (by omega)).mono ?_); rintro e w1 ⟨rfl, rfl⟩; rw [samB_yes HV.out.1]) | ((with_reducible refine (isSample_any ys _ _ _ HX.out.2 (by omega)).mono ?_); rintro e w1 ⟨rfl, rfl⟩; rw [samB_yes HV.out.2.1])))
  refine (concat_two xs ys xs.length ys.length rfl rfl ao bo ca cb _ _ 22 _ (HX.out.1.below HB.out) (HX.out.2.below HB.out) HW.out h1 h2 (by omega)).mono ?_
  rintro e w2 ⟨ao2, c2, rfl, hrow, hb⟩
  have H := Lib.hid (And.intro hrow hb)
  clear hrow hb
  go_wp2_with fail
  go_ret2
  exact ⟨_, _, rfl, H.out.1.wide HB.out.size (Nat.le_refl _), Bel_next HB.out H.out.2⟩
theorem poolOf_no (xs ys : List Int) (ao bo : Option Addr) (ca cb : Nat) (w : World) (hv : ¬ poolC xs ys) (hx : Holds w ao (il xs)) (hy : Holds w bo (il ys)) (hl1 : xs.length ≤ 1048576) (hl2 : ys.length ≤ 1048576) :
    Calls Try.prog 42 #[.slice ao xs.length ca, .slice bo ys.length cb] w (RetB (.tuple #[.slice none 0 0, .bool false]) w) := by
  have HX := Lib.hid (And.intro hx hy)
  have HV := Lib.hid hv
  clear hx hy hv
  by_cases s1 : isSam xs
  · have S1 := Lib.hid (samB_yes s1)
    by_cases s2 : isSam ys
    · have S2 := Lib.hid (samB_yes s2)
      have h0 : ¬ (xs.length + ys.length ≤ 40) := fun h => HV.out ⟨s1, s2, h⟩
      have h3 : (40 : Int) < (xs.length : Int) + ys.length := by omega
      clear h0
      clear s1 s2
      go_enter Try.func42, Try.ntmps42
      go_wp2_with (first | (go_at_call 46; first | ((with_reducible refine (isSample_any xs _ _ _ HX.out.1 (by omega)).mono ?_); rintro e w1 ⟨rfl, rfl⟩; rw [S1.out]) | ((with_reducible refine (isSample_any ys _ _ _ HX.out.2 (by omega)).mono ?_); rintro e w1 ⟨rfl, rfl⟩; rw [S2.out])))
      go_ret2
      exact ⟨rfl, Below.refl _ _⟩
    · have S2 := Lib.hid (samB_no s2)
      clear s1 s2
      go_enter Try.func42, Try.ntmps42
      go_wp2_with (first | (go_at_call 46; first | ((with_reducible refine (isSample_any xs _ _ _ HX.out.1 (by omega)).mono ?_); rintro e w1 ⟨rfl, rfl⟩; rw [S1.out]) | ((with_reducible refine (isSample_any ys _ _ _ HX.out.2 (by omega)).mono ?_); rintro e w1 ⟨rfl, rfl⟩; rw [S2.out])))
      go_ret2
      exact ⟨rfl, Below.refl _ _⟩
  · have S1 := Lib.hid (samB_no s1)
    clear s1
    go_enter Try.func42, Try.ntmps42
    go_wp2_with (first | (go_at_call 46; first | ((with_reducible refine (isSample_any xs _ _ _ HX.out.1 (by omega)).mono ?_); rintro e w1 ⟨rfl, rfl⟩; rw [S1.out])))
    go_ret2
    exact ⟨rfl, Below.refl _ _⟩
set_option maxHeartbeats 1000000 in
theorem l06Both_yes (xs ys : List Int) (ao bo : Option Addr) (ca cb : Nat) (w : World) (hv : poolC xs ys) (hx : Holds w ao (il xs)) (hy : Holds w bo (il ys)) :
    Calls Try.prog 52 #[.slice ao xs.length ca, .slice bo ys.length cb] w (fun e w' => e = .returned (.bool true) ∧ w = w') := by
  have HX := Lib.hid (And.intro hx hy)
  have HV := Lib.hid hv
  have h1 := hv.1.1
  have h2 := hv.2.1.1
  obtain ⟨h1, h1'⟩ := h1
  obtain ⟨h2, h2'⟩ := h2
  have h4 : (xs.length : Int) + ys.length ≤ 40 := by have := hv.2.2; omega
  clear hx hy hv
  go_enter Try.func52, Try.ntmps52
  go_wp2_with (first | (go_at_call 45; first | ((with_reducible refine (l06Sample_any xs _ _ _ HX.out.1 (by omega)).mono ?_); rintro e w1 ⟨rfl, rfl⟩; rw [samB_yes HV.out.1]) | ((with_reducible refine (l06Sample_any ys _ _ _ HX.out.2 (by omega)).mono ?_); rintro e w1 ⟨rfl, rfl⟩; rw [samB_yes HV.out.2.1])))
  go_ret
  exact ⟨by first | rfl | (simp; omega), rfl⟩
theorem l06Both_no (xs ys : List Int) (ao bo : Option Addr) (ca cb : Nat) (w : World) (hv : ¬ poolC xs ys) (hx : Holds w ao (il xs)) (hy : Holds w bo (il ys)) (hl1 : xs.length ≤ 1048576) (hl2 : ys.length ≤ 1048576) :
    Calls Try.prog 52 #[.slice ao xs.length ca, .slice bo ys.length cb] w (fun e w' => e = .returned (.bool false) ∧ w = w') := by
  have HX := Lib.hid (And.intro hx hy)
  have HV := Lib.hid hv
  clear hx hy hv
  by_cases s1 : isSam xs
  · have S1 := Lib.hid (samB_yes s1)
    by_cases s2 : isSam ys
    · have S2 := Lib.hid (samB_yes s2)
      have h0 : ¬ (xs.length + ys.length ≤ 40) := fun h => HV.out ⟨s1, s2, h⟩
      have h3 : (40 : Int) < (xs.length : Int) + ys.length := by omega
      clear s1 s2 h0
      go_enter Try.func52, Try.ntmps52
      go_wp2_with (first | (go_at_call 45; first | ((with_reducible refine (l06Sample_any xs _ _ _ HX.out.1 (by omega)).mono ?_); rintro e w1 ⟨rfl, rfl⟩; rw [S1.out]) | ((with_reducible refine (l06Sample_any ys _ _ _ HX.out.2 (by omega)).mono ?_); rintro e w1 ⟨rfl, rfl⟩; rw [S2.out])))
      go_ret
      exact ⟨by first | rfl | (simp; omega), rfl⟩
    · have S2 := Lib.hid (samB_no s2)
      clear s1 s2
      go_enter Try.func52, Try.ntmps52
      go_wp2_with (first | (go_at_call 45; first | ((with_reducible refine (l06Sample_any xs _ _ _ HX.out.1 (by omega)).mono ?_); rintro e w1 ⟨rfl, rfl⟩; rw [S1.out]) | ((with_reducible refine (l06Sample_any ys _ _ _ HX.out.2 (by omega)).mono ?_); rintro e w1 ⟨rfl, rfl⟩; rw [S2.out])))
      go_ret
      exact ⟨by first | rfl | (simp; done), rfl⟩
  · have S1 := Lib.hid (samB_no s1)
    clear s1
    go_enter Try.func52, Try.ntmps52
    go_wp2_with (first | (go_at_call 45; first | ((with_reducible refine (l06Sample_any xs _ _ _ HX.out.1 (by omega)).mono ?_); rintro e w1 ⟨rfl, rfl⟩; rw [S1.out])))
    go_ret
    exact ⟨by first | rfl | (simp; done), rfl⟩
set_option maxHeartbeats 1000000 in
theorem l06Joined_any (xs ys : List Int) (n m : Nat) (hn : xs.length = n) (hm : ys.length = m) (ao bo : Option Addr) (ca cb : Nat) (w : World) (hx : Holds w ao (il xs)) (hy : Holds w bo (il ys)) (hn1 : 1 ≤ n) (hm1 : 1 ≤ m) (hl : n + m ≤ 1048576) :
    Calls Try.prog 39 #[.slice ao n ca, .slice bo m cb] w (RetL (n + m) (il (xs ++ ys)) (fun s => s) w) := by
  obtain ⟨b1, o1, rfl⟩ := holds_some hx (by omega)
  obtain ⟨b2, o2, rfl⟩ := holds_some hy (by omega)
  have HX := Lib.hid (And.intro hx (And.intro hy (And.intro hn hm)))
  clear hx hy hn hm
  obtain ⟨i8, hi8, hi1, hi2, hi3⟩ := info_parts (show (Try.prog.info? 2).map (fun i => (i.zero, i.size, i.bytes)) = some (some (.int .i64 0), 1, 8) by kernel_rfl)
  have HI := Lib.hid (And.intro hi8 (And.intro hi1 (And.intro hi2 hi3)))
  clear hi8 hi1 hi2 hi3
  have H0 : Hid ((w.alloc (.cells #[] 2)).ownsRow w.heap.size 2 1 (.slice (some ⟨w.heap.size, 0, none⟩) 0 0) 0 [] ∧ Below w.heap.size w (w.alloc (.cells #[] 2))) := Lib.hid ⟨World.ownsRow_made _ _ _ (Nat.le_refl _) (Nat.zero_le _) rfl, (by repeat (first | with_reducible exact Below.refl _ _ | with_reducible exact HBL | with_reducible refine Below.drew ?_ | with_reducible refine Bel_drewN ?_ _ | with_reducible refine Below.alloc ?_ (by first | omega | (simp; done) | (simp; omega)) _ | with_reducible refine Below.setCell ?_ (by first | omega | (simp; done) | (simp; omega)) _))⟩
  go_enter Try.func39, Try.ntmps39
  go_wp2_with (at_builtin; refine wpList_append_own _ rfl _ _ 22 rfl w.heap.size 2 i8 (.int .i64 0) 1 8 Try.underlying22 HI.out.1 HI.out.2.1 HI.out.2.2.1 HI.out.2.2.2 rfl (by decide) _ 0 _ rfl H0.out.1 ⟨b1, o1, none⟩ n _ (il xs) rfl (by rw [il_len]; have := HX.out.2.2; omega) (holds_news (HX.out.1.below H0.out.2) rfl) (il_one _) (by unfold maxLen; omega) (by omega) (by simp) ?_)
  intro v1 w1 hown hgr _
  have H1 : Hid (w1.ownsRow w.heap.size 2 1 v1 n (il xs) ∧ Below w.heap.size w w1) := Lib.hid ⟨by simpa using hown, H0.out.2.grown hgr (by simp) (own_ge H0.out.1)⟩
  have hz1 := H1.out.2.size
  clear hown hgr
  go_wp2_with (at_builtin; refine wpList_append_own _ rfl _ _ 22 rfl w.heap.size 2 i8 (.int .i64 0) 1 8 Try.underlying22 HI.out.1 HI.out.2.1 HI.out.2.2.1 HI.out.2.2.2 rfl (by decide) _ n _ rfl H1.out.1 ⟨b2, o2, none⟩ m _ (il ys) rfl (by rw [il_len]; have := HX.out.2.2; omega) (holds_news (HX.out.2.1.below H1.out.2) rfl) (il_one _) (by unfold maxLen; omega) (by omega) (by omega) ?_)
  intro v2 w2 hown hgr _
  have h2 : w2.ownsRow w.heap.size 2 1 v2 (n + m) (il (xs ++ ys)) := by rw [il, List.map_append]; exact hown
  obtain ⟨ao2, c2, rfl⟩ := own_form h2
  have H3 := Lib.hid (And.intro (Row.of_own h2) (H1.out.2.grown hgr hz1 (own_ge H1.out.1)))
  clear hown hgr h2
  go_wp2_with fail
  go_ret
  exact ⟨_, _, rfl, H3.out⟩
theorem absLe_take {b : Nat} {xs : List Int} (h : absLe b xs) (n : Nat) : absLe b (xs.take n) := fun i => by
  by_cases hi : i < n
  · rw [List.getElem?_take_of_lt hi]; exact h i
  · rw [List.getElem?_eq_none (by simp; omega)]; simp
theorem holds_take {w : World} {ao : Option Addr} {xs : List Int} (h : Holds w ao (il xs)) (n : Nat) : Holds w ao (il (xs.take n)) := fun i hi => by
  have hi' : i < n ∧ i < xs.length := by simp [il] at hi; omega
  obtain ⟨b, o, e, hc⟩ := h i (by simp [il]; omega)
  refine ⟨b, o, e, ?_⟩
  rw [hc, il_get _ _ hi'.2, il_get _ _ (by simp; omega), List.getElem?_take_of_lt hi'.1]
def rsV (xs ys : List Int) : Int := sumK (rkL (xs ++ ys)) xs.length
set_option maxHeartbeats 1000000 in
theorem specRankSum_yes (xs ys : List Int) (ao bo : Option Addr) (ca cb : Nat) (w : World) (hv : poolC xs ys) (hx : Holds w ao (il xs)) (hy : Holds w bo (il ys)) :
    Calls Try.prog 37 #[.slice ao xs.length ca, .slice bo ys.length cb] w (RetB (.tuple #[.int .i64 (rsV xs ys), .bool true]) w) := by
  have HX := Lib.hid (And.intro hx hy)
  have HV := Lib.hid hv
  have h1 := hv.1.1
  have h2 := hv.2.1.1
  have h3 := hv.2.2
  obtain ⟨h1, h1'⟩ := h1
  obtain ⟨h2, h2'⟩ := h2
  clear hx hy hv
  have HL : Hid ((xs ++ ys).length = xs.length + ys.length) := Lib.hid (by simp)
  go_enter Try.func37, Try.ntmps37
  go_wp2_with fail
  refine (l06Both_yes xs ys _ _ _ _ _ HV.out HX.out.1 HX.out.2).mono ?_
  rintro e w1 ⟨rfl, rfl⟩
  go_wp2_with fail
  refine (l06Joined_any xs ys _ _ rfl rfl _ _ _ _ _ HX.out.1 HX.out.2 h1 h2 (by omega)).mono ?_
  rintro e w1 ⟨ao1, c1, rfl, hrow, hb⟩
  have H1 := Lib.hid (And.intro hrow hb)
  clear hrow hb
  go_wp2_with fail
  refine (show Calls _ _ #[.slice ao1 (xs.length + ys.length) c1] _ _ from HL.out ▸ l06Ranks_any (xs ++ ys) ao1 c1 w1 H1.out.1.holds (by rw [HL.out]; omega)).mono ?_
  rintro e w2 ⟨ao2, c2, rfl, hrow, hb⟩
  have H2 := Lib.hid (And.intro hrow (Bel_next H1.out.2 hb))
  clear hrow hb
  go_wp2_with fail
  refine (l06First_any (rkL (xs ++ ys)) 81 xs.length (by rw [rkL_len]; simp) ao2 _ _ (by rw [rkL_len, HL.out]) _ H2.out.1.holds (rkL_abs _ (by rw [HL.out]; omega)) (by omega) (by omega)).mono ?_
  rintro e w3 ⟨rfl, rfl⟩
  go_wp2_with fail
  go_ret2
  exact ⟨rfl, H2.out.2⟩
theorem specRankSum_no (xs ys : List Int) (ao bo : Option Addr) (ca cb : Nat) (w : World) (hv : ¬ poolC xs ys) (hx : Holds w ao (il xs)) (hy : Holds w bo (il ys)) (hl1 : xs.length ≤ 1048576) (hl2 : ys.length ≤ 1048576) :
    Calls Try.prog 37 #[.slice ao xs.length ca, .slice bo ys.length cb] w (RetB (.tuple #[.int .i64 0, .bool false]) w) := by
  have HX := Lib.hid (And.intro hx hy)
  have HV := Lib.hid hv
  clear hx hy hv
  go_enter Try.func37, Try.ntmps37
  go_wp2_with fail
  refine (l06Both_no xs ys _ _ _ _ _ HV.out HX.out.1 HX.out.2 hl1 hl2).mono ?_
  rintro e w1 ⟨rfl, rfl⟩
  go_wp2_with fail
  go_ret2
  exact ⟨rfl, Below.refl _ _⟩
end Go.Proofs.Ytbjcomjokkhaeaa
