/- SignedTail: both sides. -/
import Derived.Test.YtbjcomjokkhaeaaRt6
import Derived.Test.YtbjcomjokkhaeaaBo
import Derived.Deep.AppendLies
import Derived.Deep.RegionLaw
namespace Go.Proofs.Ytbjcomjokkhaeaa
open Go Go.RowKit
set_option linter.unusedVariables false
set_option linter.unusedSimpArgs false

/-- The first k numbers, without zeros. -/
def nzK (xs : List Int) : Nat → List Int
  | 0 => []
  | k + 1 => nzK xs k ++ (if xs[k]?.getD 0 = 0 then [] else [xs[k]?.getD 0])
theorem nzK_zero {xs : List Int} {k : Nat} (h : xs[k]?.getD 0 = 0) : nzK xs (k + 1) = nzK xs k := by show nzK xs k ++ _ = _; rw [if_pos h, List.append_nil]
theorem nzK_some {xs : List Int} {k : Nat} (h : xs[k]?.getD 0 ≠ 0) : nzK xs (k + 1) = nzK xs k ++ [xs[k]?.getD 0] := by show nzK xs k ++ _ = _; rw [if_neg h]
theorem nzK_len (xs : List Int) (k : Nat) : (nzK xs k).length ≤ k := by
  induction k with
  | zero => exact Nat.le_refl _
  | succ k ih =>
    by_cases h : xs[k]?.getD 0 = 0
    · rw [nzK_zero h]; omega
    · rw [nzK_some h]; simp; omega
theorem nzK_all {xs : List Int} (h : absLe 1000 xs) (k : Nat) : ∀ x ∈ nzK xs k, x ≠ 0 ∧ -1000 ≤ x ∧ x ≤ 1000 := by
  induction k with
  | zero => intro x hx; cases hx
  | succ k ih =>
    intro x hx
    by_cases e : xs[k]?.getD 0 = 0
    · rw [nzK_zero e] at hx; exact ih x hx
    · rw [nzK_some e] at hx
      rcases List.mem_append.1 hx with h1 | h1
      · exact ih x h1
      · rw [List.mem_singleton] at h1
        subst h1
        exact ⟨e, h k⟩
def nz (xs : List Int) : List Int := nzK xs xs.length
def abL (l : List Int) : List Int := l.map (fun x => max x (-x))
def psL (l : List Int) : List Bool := l.map (fun x => decide (0 < x))
theorem abL_len (l : List Int) : (abL l).length = l.length := by simp [abL]
theorem psL_len (l : List Int) : (psL l).length = l.length := by simp [psL]
theorem psL_get (l : List Int) (i : Nat) (h : i < l.length) : (psL l)[i]?.getD false = decide (0 < l[i]?.getD 0) := by simp [psL, h]
/-- The sum of the ranks of numbers above 0, of the first k. -/
def ownK (l rk : List Int) : Nat → Int
  | 0 => 0
  | k + 1 => ownK l rk k + (if 0 < l[k]?.getD 0 then rk[k]?.getD 0 else 0)
theorem ownK_le {l rk : List Int} (h : posL rk) (k : Nat) (hk : k ≤ rk.length) : 0 ≤ ownK l rk k ∧ ownK l rk k ≤ sumK rk k := by
  induction k with
  | zero => exact ⟨Int.le_refl _, Int.le_refl _⟩
  | succ k ih =>
    have h1 := ih (by omega)
    have h2 := h k (by omega)
    show 0 ≤ ownK l rk k + _ ∧ ownK l rk k + _ ≤ sumK rk k + _
    split <;> omega
def sgnR (xs : List Int) : List Int := rkL (abL (nz xs))
theorem sgnR_len (xs : List Int) : (sgnR xs).length = (nz xs).length := by rw [sgnR, rkL_len, abL_len]
def sgnO (xs : List Int) : Int := ownK (nz xs) (sgnR xs) (nz xs).length
def sgnP (xs : List Int) : Nat := sq (fun s => c1 (rN (sgnR xs)) (nz xs).length s) ((sgnO xs).toNat + 1)
def sgnC (xs : List Int) : Prop := isSam xs ∧ nz xs ≠ []
theorem own_apart {w : World} {base n1 n2 : Nat} {e1 e2 : TypeId} {v1 v2 : Value} {l1 l2 : List Value} (h1 : w.ownsRow base e1 1 v1 n1 l1) (h2 : w.ownsRow base e2 1 v2 n2 l2) (h : e1 ≠ e2) : v1.ownBlock = none ∨ v1.ownBlock ≠ v2.ownBlock := by
  rcases h1.2 with ⟨rfl, h0⟩ | ⟨g1, cap1, cur1, rfl, _, hg1, _⟩
  · left; rfl
  · rcases h2.2 with ⟨rfl, h0⟩ | ⟨g2, cap2, cur2, rfl, _, hg2, _⟩
    · right; simp [Value.ownBlock]
    · right
      intro e
      simp only [Value.ownBlock, Option.some.injEq] at e
      subst e
      rw [hg1] at hg2
      injection hg2 with hg2
      injection hg2 with _ h3
      exact h h3
set_option maxRecDepth 100000 in
set_option maxHeartbeats 16000000 in
theorem specSigned_yes (xs : List Int) (n : Nat) (hn : (nz xs).length = n) (ao : Option Addr) (ca : Nat) (w : World) (hv : sgnC xs) (hx : Holds w ao (il xs)) :
    Calls Try.prog 16 #[.slice ao xs.length ca] w (RetB (.tuple #[.int .i64 (sgnP xs), .int .i64 ((2 ^ n : Nat) : Int), .bool true]) w) := by
  have HX := Lib.hid hx
  have HV := Lib.hid hv
  have h1 := hv.1.1
  obtain ⟨h1, h1'⟩ := h1
  have HN := Lib.hid hn
  have hn1 : 1 ≤ n := by rw [← hn]; exact List.length_pos_iff.2 hv.2
  have hn40 : n ≤ 40 := by rw [← hn]; have := nzK_len xs xs.length; unfold nz; omega
  have HA := Lib.hid (poolC_abs hv.1)
  clear hx hv hn
  obtain ⟨i8, hi8, hi1, hi2, hi3⟩ := info_parts (show (Try.prog.info? 2).map (fun i => (i.zero, i.size, i.bytes)) = some (some (.int .i64 0), 1, 8) by kernel_rfl)
  have HI := Lib.hid (And.intro hi8 (And.intro hi1 (And.intro hi2 hi3)))
  clear hi8 hi1 hi2 hi3
  have H0 : Hid (((w.alloc (.cells #[] 2)).alloc (.cells #[] 4)).ownsRow w.heap.size 2 1 (.slice (some ⟨w.heap.size, 0, none⟩) 0 0) 0 [] ∧ ((w.alloc (.cells #[] 2)).alloc (.cells #[] 4)).ownsRow w.heap.size 4 1 (.slice (some ⟨w.heap.size + 1, 0, none⟩) 0 0) 0 []) := Lib.hid
    ⟨(World.ownsRow_made _ _ _ (Nat.le_refl _) (Nat.zero_le _) rfl).alloc _, by
      have := World.ownsRow_made (base := w.heap.size) (e := 4) (size := 1) (w.alloc (.cells #[] 2)) #[] 0 (by simp) (Nat.zero_le _) rfl
      simpa using this⟩
  go_enter Try.func16, Try.ntmps16
  go_wp2_with (first | (go_at_call 45; refine (l06Sample_any xs _ _ _ HX.out (by omega)).mono ?_; rintro e w1 ⟨rfl, rfl⟩; rw [samB_yes HV.out.1]))
  go_loopw [5, 6, 7] (fun v u i w5 => ∃ j : Nat, j ≤ xs.length ∧ i = .int .i64 (j : Int) ∧ w5.ownsRow w.heap.size 2 1 v (nzK xs j).length (il (abL (nzK xs j))) ∧ w5.ownsRow w.heap.size 4 1 u (nzK xs j).length (bl (psL (nzK xs j))) ∧ Below w.heap.size w w5) (fun _ _ i _ => xs.length - (intOf i).toNat)
  case atStart => exact ⟨0, Nat.zero_le _, rfl, H0.out.1, H0.out.2, (by repeat (first | with_reducible exact Below.refl _ _ | with_reducible exact HBL | with_reducible refine Below.drew ?_ | with_reducible refine Bel_drewN ?_ _ | with_reducible refine Below.alloc ?_ (by first | omega | (simp; done) | (simp; omega)) _ | with_reducible refine Below.setCell ?_ (by first | omega | (simp; done) | (simp; omega)) _))⟩
  case round =>
    obtain ⟨j, hj, rfl, ho1, ho2, hbel⟩ := hrel
    have H := Lib.hid (And.intro ho1 (And.intro ho2 hbel))
    have hzr : w.heap.size ≤ wr.heap.size := hbel.size
    have hkl := nzK_len xs j
    by_cases hlj : j < xs.length
    · have hlj' : (j : Int) < xs.length := by omega
      obtain ⟨b, o, e, hcw⟩ := HX.out j (by rw [il_len]; exact hlj)
      rw [il_get _ _ hlj] at hcw
      have hblt := World.block_lt_of_cell? _ _ hcw
      have hc := ((cells_kept hbel).1 b (o + j) hblt).trans hcw
      have HCW := Lib.hid hcw
      have hxa := HA.out j
      clear hcw
      by_cases h0 : xs[j]?.getD 0 = 0
      · have HK : Hid (nzK xs (j + 1) = nzK xs j) := Lib.hid (nzK_zero h0)
        rw [h0] at hc
        clear HCW
        subst e
        clear ho1 ho2 hbel h0
        go_wp2_with fail
        go_roundw
        case rel => exact ⟨j + 1, by omega, by go_num, by rw [HK.out]; exact H.out⟩
        case measure => simp [intOf]; omega
      · have HK : Hid (nzK xs (j + 1) = nzK xs j ++ [xs[j]?.getD 0]) := Lib.hid (nzK_some h0)
        generalize xs[j]?.getD 0 = x at hc hxa h0 HK HCW
        subst e
        have HW1 : Hid ((wr.drew.alloc (.cells #[.int .i64 (if x < IntKind.i64.wrap (-x) then IntKind.i64.wrap (-x) else x)] 2)).ownsRow w.heap.size 2 1 u5 (nzK xs j).length (il (abL (nzK xs j))) ∧ (∀ (j : Nat) (u : Value), [Value.int .i64 (if x < IntKind.i64.wrap (-x) then IntKind.i64.wrap (-x) else x)][j]? = some u → (wr.drew.alloc (.cells #[.int .i64 (if x < IntKind.i64.wrap (-x) then IntKind.i64.wrap (-x) else x)] 2)).cell? ((⟨wr.heap.size, 0, none⟩ : Addr).add j) = some u) ∧ (∀ u ∈ [Value.int .i64 (if x < IntKind.i64.wrap (-x) then IntKind.i64.wrap (-x) else x)], u.oneCell' = true) ∧ w.heap.size ≤ (wr.drew.alloc (.cells #[.int .i64 (if x < IntKind.i64.wrap (-x) then IntKind.i64.wrap (-x) else x)] 2)).heap.size ∧ (wr.drew.alloc (.cells #[.int .i64 (if x < IntKind.i64.wrap (-x) then IntKind.i64.wrap (-x) else x)] 2)).heap.size = wr.heap.size + 1) := Lib.hid ⟨H.out.1.drew.alloc _, World.news_of_block (Whole.made wr.drew 2 #[.int .i64 (if x < IntKind.i64.wrap (-x) then IntKind.i64.wrap (-x) else x)]), (by intro u hu; rw [List.mem_singleton] at hu; subst hu; rfl), (by simp; omega), (by simp)⟩
        have hq1 : (nzK xs j).length + 1 ≤ maxLen := by unfold maxLen; omega
        have hq2 : ((nzK xs j).length + 1) * 8 ≤ 140737488355328 := by omega
        clear ho1 ho2 hbel
        go_wp2_with fail
        go_region_law (refine step_append_lies (wr.drew.alloc (.cells #[.int .i64 (if x < IntKind.i64.wrap (-x) then IntKind.i64.wrap (-x) else x)] 2)) rfl (.tmp 33) (.tmp 44) 22 rfl w.heap.size 2 i8 (.int .i64 0) 1 8 Try.underlying22 HI.out.1 HI.out.2.1 HI.out.2.2.1 HI.out.2.2.2 rfl (by decide) u5 (nzK xs j).length (il (abL (nzK xs j))) (by simp [Act.eval, Act.put]) HW1.out.1 ⟨wr.heap.size, 0, none⟩ 1 1 [.int .i64 (if x < IntKind.i64.wrap (-x) then IntKind.i64.wrap (-x) else x)] (by simp [Act.eval, Act.put]) rfl HW1.out.2.1 HW1.out.2.2.1 (by decide) hq1 hq2 HW1.out.2.2.2.1 (wr.heap.size + 1) HW1.out.2.2.2.2 ?_; intro g cap w' hown' hgr' hv' hlt')
        all_goals
          have hbl7 : Below w.heap.size w w' := by
            have HBL := H.out.2.2
            have h1 : Below w.heap.size w (wr.drew.alloc (.cells #[.int .i64 (if x < IntKind.i64.wrap (-x) then IntKind.i64.wrap (-x) else x)] 2)) := (by repeat (first | with_reducible exact Below.refl _ _ | with_reducible exact HBL | with_reducible refine Below.drew ?_ | with_reducible refine Bel_drewN ?_ _ | with_reducible refine Below.alloc ?_ (by first | omega | (simp; done) | (simp; omega)) _ | with_reducible refine Below.setCell ?_ (by first | omega | (simp; done) | (simp; omega)) _))
            exact h1.grown hgr' (by simp; omega) (own_ge H.out.1)
          have ho7 : w'.ownsRow w.heap.size 2 1 (.slice (some ⟨g, 0, none⟩) ((nzK xs j).length + 1) cap) ((nzK xs j).length + 1) (il (abL (nzK xs j ++ [x]))) := by
            have e : il (abL (nzK xs j ++ [x])) = il (abL (nzK xs j)) ++ [.int .i64 (if x < IntKind.i64.wrap (-x) then IntKind.i64.wrap (-x) else x)] := by
              simp only [abL, il, List.map_append, List.map_cons, List.map_nil]
              rw [show IntKind.i64.wrap (-x) = -x by rw [IntKind.wrap_i64]; omega, show max x (-x) = if x < -x then -x else x by split <;> omega]
            rw [e]; exact hown'
          have hu7 : w'.ownsRow w.heap.size 4 1 u6 (nzK xs j).length (bl (psL (nzK xs j))) := (H.out.2.1.drew.alloc _).kept hgr' (own_apart H.out.2.1 H.out.1 (by decide))
          have hc7 := ((cells_kept hbl7).1 b (o + j) hblt).trans HCW.out
          have H7 := Lib.hid (And.intro ho7 (And.intro hu7 hbl7))
          have hz7 : w.heap.size ≤ w'.heap.size := hbl7.size
          clear hgr' hv' hlt' hbl7 ho7 hu7 hown' HW1 hq1 hq2 hc
          generalize (if x < IntKind.i64.wrap (-x) then IntKind.i64.wrap (-x) else x) = y
          go_wp2_with (at_builtin; refine wpList_app1 rfl _ _ 51 rfl w.heap.size 4 (.bool false) 1 Try.underlying51 (by kernel_rfl) rfl _ (nzK xs j).length _ rfl (H7.out.2.1.alloc _) _ _ (.bool (decide (0 < x))) rfl ?_ rfl ⟨by omega, by omega⟩ ?_ ?_)
          · simp
          · simp; omega
          · intro v8 w8 hown8 hgr8
            have hb8 : Below w.heap.size w w8 := by
              have HBL := H7.out.2.2
              have h1 : Below w.heap.size w _ := Below.alloc HBL (by omega) (.cells #[.bool (decide (0 < x))] 4)
              exact h1.grown hgr8 (by simp; omega) (own_ge H7.out.2.1)
            have hs8 : w8.ownsRow w.heap.size 2 1 (.slice (some ⟨g, 0, none⟩) ((nzK xs j).length + 1) cap) ((nzK xs j).length + 1) (il (abL (nzK xs j ++ [x]))) := (H7.out.1.alloc _).kept hgr8 (own_apart H7.out.1 H7.out.2.1 (by decide))
            have hp8 : w8.ownsRow w.heap.size 4 1 v8 ((nzK xs j).length + 1) (bl (psL (nzK xs j ++ [x]))) := by
              have e : bl (psL (nzK xs j ++ [x])) = bl (psL (nzK xs j)) ++ [.bool (decide (0 < x))] := by simp [bl, psL]
              rw [e]; exact hown8
            have H8 : Hid (w8.ownsRow w.heap.size 2 1 (.slice (some ⟨g, 0, none⟩) ((nzK xs j).length + 1) cap) (nzK xs (j + 1)).length (il (abL (nzK xs (j + 1)))) ∧ w8.ownsRow w.heap.size 4 1 v8 (nzK xs (j + 1)).length (bl (psL (nzK xs (j + 1)))) ∧ Below w.heap.size w w8) := Lib.hid (by
              rw [HK.out, List.length_append, List.length_singleton]
              exact ⟨hs8, hp8, hb8⟩)
            clear hown8 hgr8 hb8 hs8 hp8 H H7 HK
            go_wp2_with fail
            go_roundw
            case rel => exact ⟨j + 1, by omega, by go_num, H8.out⟩
            case measure => simp [intOf]; omega
    · have e : xs.length = j := by omega
      subst e
      rw [show nzK xs xs.length = nz xs from rfl, HN.out] at ho1 ho2
      obtain ⟨a1, k1, rfl⟩ := own_form ho1
      obtain ⟨a2, k2, rfl⟩ := own_form ho2
      have HB := Lib.hid (And.intro (Row.of_own ho1).holds (And.intro (Row.of_own ho2).holds hbel))
      have HSP : Hid (sgnP xs = sq (fun s => c1 (rN (sgnR xs)) n s) ((sgnO xs).toNat + 1) ∧ sgnO xs = ownK (nz xs) (sgnR xs) n) := Lib.hid ⟨by rw [sgnP, HN.out], by rw [sgnO, HN.out]⟩
      have HLL : Hid ((abL (nz xs)).length = n) := Lib.hid (by rw [abL_len, HN.out])
      have HRL : Hid ((sgnR xs).length = n) := Lib.hid (by rw [sgnR_len, HN.out])
      have HPL : Hid (posL (sgnR xs)) := Lib.hid (rkL_pos _ (by rw [HLL.out]; exact hn40))
      have HRK : Hid (∀ (ao1 : Option Addr) (c1 : Nat) (w : World), Holds w ao1 (il (abL (nz xs))) → Calls Try.prog 38 #[.slice ao1 n c1] w (RetL n (il (sgnR xs)) (fun s => s) w)) := Lib.hid (fun ao1 c1 w h => HLL.out ▸ l06Ranks_any (abL (nz xs)) ao1 c1 w h (by rw [HLL.out]; omega))
      have HW : Hid (wrap64 ((2 : Int) ^ n) = ((2 ^ n : Nat) : Int)) := Lib.hid (by
        have h : 2 ^ n ≤ 2 ^ 40 := Nat.pow_le_pow_right (by omega) hn40
        rw [show ((2 : Int) ^ n) = ((2 ^ n : Nat) : Int) by simp]
        generalize 2 ^ n = M at h
        unfold wrap64
        omega)
      obtain ⟨P, hP⟩ : ∃ P, sgnP xs = P := ⟨_, rfl⟩
      rw [hP] at HSP
      have HPX := Lib.hid hP
      clear hP
      generalize sgnO xs = O at HSP
      generalize sgnR xs = rk at *
      generalize nz xs = l at *
      obtain ⟨own, howi⟩ : ∃ own : Nat, ownK l rk n = (own : Int) := ⟨_, (Int.toNat_of_nonneg (ownK_le HPL.out n (by rw [HRL.out]; exact Nat.le_refl _)).1).symm⟩
      obtain ⟨T, hTi⟩ : ∃ T : Nat, sumK rk n = (T : Int) := ⟨_, (Int.toNat_of_nonneg (HPL.out.sum _ (by rw [HRL.out]; exact Nat.le_refl _))).symm⟩
      have HOT := Lib.hid (And.intro howi hTi)
      have hoT : own ≤ T := by
        have := (ownK_le (l := l) HPL.out n (by rw [HRL.out]; exact Nat.le_refl _)).2
        rw [howi, hTi] at this
        omega
      have hTm : T ≤ 1000000 := by
        have := (sumK_le HPL.out.abs n).2
        rw [hTi] at this
        have : 20000 * n ≤ 20000 * 40 := Nat.mul_le_mul_left _ hn40
        omega
      have HPP : Hid (P = sq (fun s => c1 (rN rk) n s) (own + 1)) := Lib.hid (by rw [HSP.out.1, HSP.out.2, howi, Int.toNat_natCast])
      clear ho1 ho2 hbel howi hTi H HX HA hkl hlj
      go_wp2_with fail
      refine (HRK.out _ _ _ HB.out.1).mono ?_
      rintro e w3 ⟨ao2, c2, rfl, hrow, hb⟩
      have H2 := Lib.hid (And.intro hrow.holds (And.intro (HB.out.2.1.below hb) (Bel_next HB.out.2.2 hb)))
      clear hrow hb
      go_wp2_with fail
      go_loop [9, 10] (fun o i => ∃ q : Nat, q ≤ n ∧ i = .int .i64 (q : Int) ∧ o = .int .i64 (ownK l rk q)) (fun _ i => n - (intOf i).toNat)
      case atStart => exact ⟨0, Nat.zero_le _, rfl, rfl⟩
      case round =>
        obtain ⟨q, hq, rfl, rfl⟩ := hrel
        by_cases hlq : q < n
        · have hlq' : (q : Int) < n := by omega
          have hob := ownK_le (l := l) HPL.out q (by rw [HRL.out]; omega)
          have hsb := sumK_le HPL.out.abs q
          have hrb := HPL.out.abs q
          have HNX : Hid (ownK l rk (q + 1) = ownK l rk q + (if 0 < l[q]?.getD 0 then rk[q]?.getD 0 else 0)) := Lib.hid rfl
          obtain ⟨b1, o1, e1, hm⟩ := H2.out.2.1 q (by simp [bl, psL, HN.out]; exact hlq)
          rw [bl_get _ _ (by rw [psL_len, HN.out]; exact hlq), psL_get _ _ (by rw [HN.out]; exact hlq)] at hm
          obtain ⟨b2, o2, e2, hr⟩ := H2.out.1 q (by rw [il_len, HRL.out]; exact hlq)
          rw [il_get _ _ (by rw [HRL.out]; exact hlq)] at hr
          by_cases hp : 0 < l[q]?.getD 0
          · rw [decide_eq_true hp] at hm
            rw [if_pos hp] at HNX
            generalize rk[q]?.getD 0 = x at hr hrb HNX
            generalize ownK l rk q = t at hob HNX ⊢
            generalize sumK rk q = t2 at hob hsb
            subst e1
            subst e2
            go_wp2_with fail
            go_round
            case rel => exact ⟨q + 1, by omega, by go_num, by rw [HNX.out]⟩
            case measure => simp [intOf]; omega
          · rw [decide_eq_false hp] at hm
            rw [if_neg hp, Int.add_zero] at HNX
            clear hr
            generalize ownK l rk q = t at hob HNX ⊢
            subst e1
            go_wp2_with fail
            go_round
            case rel => exact ⟨q + 1, by omega, by go_num, by rw [HNX.out]⟩
            case measure => simp [intOf]; omega
        · have e : n = q := by omega
          subst e
          rw [HOT.out.1]
          have hmk := run_mk16 (P := Try.prog) w3 22 2 (T + 1) (by omega) Try.underlying22 (by kernel_rfl)
          rw [show ((T + 1 : Nat) : Int) = (T : Int) + 1 by omega] at hmk
          have HR0 := Lib.hid (FRow.new1 w3 (T + 1) 2 1)
          have hz0 : w3.heap.size ≤ w3.heap.size := Nat.le_refl _
          go_wp2_with fail
          refine (l06First_any rk 20000 n (by rw [HRL.out]; exact Nat.le_refl _) ao2 n c2 HRL.out.symm w3 H2.out.1 HPL.out.abs (by omega) (by omega)).mono ?_
          rintro e w4 ⟨rfl, rfl⟩
          rw [HOT.out.2]
          go_wp2_with fail
          clear hmk
          go_loopw [13] (fun i wr => ∃ q : Nat, q ≤ n ∧ i = .int .i64 (q : Int) ∧ Below w3.heap.size w3 wr ∧ FRow wr w3.heap.size 2 (T + 1) (fun s => (c1 (rN rk) q s : Int))) (fun i _ => n - (intOf i).toNat)
          case atStart =>
            exact ⟨0, Nat.zero_le _, rfl, (by repeat (first | with_reducible exact Below.refl _ _ | with_reducible exact HBL | with_reducible refine Below.drew ?_ | with_reducible refine Bel_drewN ?_ _ | with_reducible refine Below.alloc ?_ (by first | omega | (simp; done) | (simp; omega)) _ | with_reducible refine Below.setCell ?_ (by first | omega | (simp; done) | (simp; omega)) _)), HR0.out.to (fun s _ => by show (if s = 0 then (1 : Int) else 0) = ((if s = 0 then 1 else 0 : Nat) : Int); split <;> rfl)⟩
          case round =>
            obtain ⟨q, hq, rfl, hbel, hg⟩ := hrel
            have H := Lib.hid (And.intro hbel hg)
            by_cases hlq : q < n
            · have hlq' : (q : Int) < n := by omega
              obtain ⟨b, o, hao, hcw⟩ := H2.out.1 q (by rw [il_len, HRL.out]; exact hlq)
              obtain ⟨x, hxx⟩ : ∃ x : Nat, rk[q]?.getD 0 = (x : Int) := ⟨_, (Int.toNat_of_nonneg (HPL.out q (by rw [HRL.out]; exact hlq)).1).symm⟩
              have hx6 : x ≤ 20000 := by have := HPL.out q (by rw [HRL.out]; exact hlq); omega
              rw [il_get _ _ (by rw [HRL.out]; exact hlq), hxx] at hcw
              have HCW := Lib.hid hcw
              have hbl : b < w3.heap.size := World.block_lt_of_cell? _ _ hcw
              have HR : Hid (rN rk q = x) := Lib.hid (by unfold rN; rw [hxx]; rfl)
              subst hao
              clear hxx hbel hg hcw
              go_wp2_with fail
              go_loopw [14] (fun i wr => ∃ s : Nat, (x ≤ s ∨ s = T + 1) ∧ s ≤ T + 1 ∧ i = .int .i64 ((s : Int) - 1) ∧ Below w3.heap.size w3 wr ∧ FRow wr w3.heap.size 2 (T + 1) (fun t => (c1D (rN rk) q s t : Int))) (fun i _ => (intOf i + 1).toNat)
              case atStart => exact ⟨T + 1, .inr rfl, Nat.le_refl _, congrArg _ (by omega), H.out.1, H.out.2.to (fun t ht => by
                rw [c1D, if_neg (by omega)])⟩
              case round =>
                obtain ⟨s, hs1, hs2, rfl, hbel, hg⟩ := hrel
                have H2' := Lib.hid (And.intro hbel hg)
                have hcx := ((cells_kept hbel).1 b (o + q) hbl).trans HCW.out
                by_cases hls : x + 1 ≤ s
                · obtain ⟨d, rfl⟩ : ∃ d, s = x + d + 1 := ⟨s - x - 1, by omega⟩
                  have ha1 := hg.cell (x + d) (by omega)
                  have hb1 := hg.cell d (by omega)
                  have hfa := hg.frozen (x + d)
                  have hz := hg.lt
                  rw [show c1D (rN rk) q (x + d + 1) (x + d) = c1 (rN rk) q (x + d) by rw [c1D, if_neg (by omega)]] at ha1
                  have hbx : c1D (rN rk) q (x + d + 1) d = c1 (rN rk) q d := by rw [c1D, if_neg (by omega)]
                  rw [hbx] at hb1
                  have l1 := c1_fits (rN rk) q (x + d) (by omega)
                  have l2 := c1_fits (rN rk) q d (by omega)
                  obtain ⟨y, hy⟩ : ∃ y, c1 (rN rk) q (x + d) = y := ⟨_, rfl⟩
                  obtain ⟨z, hz2⟩ : ∃ z, c1 (rN rk) q d = z := ⟨_, rfl⟩
                  rw [hy] at ha1 l1
                  rw [hz2] at hb1 l2
                  have HYZ := Lib.hid (And.intro hy hz2)
                  rw [show ((x + d + 1 : Nat) : Int) - 1 = ((x + d : Nat) : Int) by omega]
                  obtain ⟨s, hsd⟩ : ∃ s, s = x + d := ⟨_, rfl⟩
                  have hxd : (s : Int) - (x : Int) = (d : Int) := by omega
                  have hxs : (x : Int) ≤ s := by omega
                  have hsT : (s : Int) ≤ T := by omega
                  rw [← hsd] at ha1 hfa ⊢
                  have HSD := Lib.hid hsd
                  clear hy hz2 hsd hbel hg hs2 hs1 hls hbx
                  go_wp2_with fail
                  go_region
                  go_wp2_with fail
                  go_roundw
                  case rel =>
                    obtain ⟨HBL, hg⟩ := H2'.out
                    have hput := hg.put (x + d) ((y : Int) + (z : Int))
                    rw [← HSD.out] at hput
                    refine ⟨s, .inl (by omega), by omega, rfl, (by repeat (first | with_reducible exact Below.refl _ _ | with_reducible exact HBL | with_reducible refine Below.drew ?_ | with_reducible refine Bel_drewN ?_ _ | with_reducible refine Below.alloc ?_ (by first | omega | (simp; done) | (simp; omega)) _ | with_reducible refine Below.setCell ?_ (by first | omega | (simp; done) | (simp; omega)) _)), hput.drew.to (fun t ht => ?_)⟩
                    rw [HSD.out]
                    have h := c1D_put (rN rk) q (x + d) t (by rw [HR.out]; omega)
                    rw [HR.out, show x + d - x = d by omega, HYZ.out.1, HYZ.out.2] at h
                    rw [← h]
                    by_cases et : t = x + d
                    · rw [if_pos et, if_pos et]; omega
                    · rw [if_neg et, if_neg et]
                  case measure => have := HSD.out; first | (simp [intOf]; done) | (simp [intOf]; omega)
                · have hlx : (s : Int) - 1 < x := by omega
                  clear hbel hg
                  go_wp2_with fail
                  go_roundw
                  case rel =>
                    refine ⟨q + 1, by omega, by first | rfl | go_num | (congr 1; omega), H2'.out.1, H2'.out.2.to (fun t ht => ?_)⟩
                    by_cases es : s = x
                    · subst es; rw [← HR.out, c1D_end]
                    · have h0 : ¬ rN rk q ≤ t := by rw [HR.out]; omega
                      rw [c1D, if_neg (by omega)]
                      show _ = ((c1 (rN rk) q t + _ : Nat) : Int)
                      rw [if_neg h0]; rfl
                  case measure => first | (simp [intOf]; done) | (simp [intOf]; omega)
            · have e : n = q := by omega
              subst e
              clear hbel hg
              go_wp2_with fail
              go_loopw [15, 16] (fun o i wr => ∃ y : Nat, y ≤ own + 1 ∧ i = .int .i64 (y : Int) ∧ o = .int .i64 (sq (fun s => c1 (rN rk) n s) y : Nat) ∧ Below w3.heap.size w3 wr ∧ FRow wr w3.heap.size 2 (T + 1) (fun s => (c1 (rN rk) n s : Int))) (fun _ i _ => own + 1 - (intOf i).toNat)
              case atStart => exact ⟨0, Nat.zero_le _, rfl, rfl, H.out.1, H.out.2⟩
              case round =>
                obtain ⟨y, hy, rfl, rfl, hbel, hg⟩ := hrel
                have H1 := Lib.hid (And.intro hbel hg)
                by_cases hly : y < own + 1
                · have hly' : (y : Int) ≤ own := by omega
                  have ha1 := hg.cell y (by omega)
                  have l1 := c1_fits (rN rk) n y (by omega)
                  have l2 := sq_le (fun s => c1_fits (rN rk) n s (by omega)) y
                  have l3 : 1099511627776 * y ≤ 1099511627776 * 1000001 := Nat.mul_le_mul_left _ (by omega)
                  have HNX : Hid (sq (fun s => c1 (rN rk) n s) (y + 1) = sq (fun s => c1 (rN rk) n s) y + c1 (rN rk) n y) := Lib.hid rfl
                  obtain ⟨a, ha⟩ : ∃ a, sq (fun s => c1 (rN rk) n s) y = a := ⟨_, rfl⟩
                  obtain ⟨c, hc⟩ : ∃ c, c1 (rN rk) n y = c := ⟨_, rfl⟩
                  rw [ha, hc] at HNX
                  rw [hc] at ha1 l1
                  rw [ha] at l2 ⊢
                  clear hbel hg ha hc
                  go_wp2_with fail
                  go_roundw
                  case rel => exact ⟨y + 1, by omega, by go_num, by rw [HNX.out]; go_num, H1.out.1, H1.out.2⟩
                  case measure => simp [intOf]; omega
                · have e : y = own + 1 := by omega
                  subst e
                  rw [show ((own + 1 : Nat) : Int) = (own : Int) + 1 by omega]
                  rw [← HPP.out]
                  clear hbel hg
                  go_wp2_with fail
                  go_ret3
                  exact ⟨by rw [HPX.out, ← HW.out]; rfl, Bel_next H2.out.2.2 H1.out.1⟩
set_option maxRecDepth 100000 in
set_option maxHeartbeats 4000000 in
theorem specSigned_no (xs : List Int) (ao : Option Addr) (ca : Nat) (w : World) (hv : ¬ sgnC xs) (hx : Holds w ao (il xs)) (hl : xs.length ≤ 1048576) :
    Calls Try.prog 16 #[.slice ao xs.length ca] w (RetB (.tuple #[.int .i64 0, .int .i64 0, .bool false]) w) := by
  have HX := Lib.hid hx
  by_cases hs : isSam xs
  · have hz : nz xs = [] := by
      by_cases h : nz xs = []
      · exact h
      · exact absurd ⟨hs, h⟩ hv
    have HZ := Lib.hid hz
    have HS := Lib.hid hs
    have h1 := hs.1.2
    clear hv hx hs hz
    have HK : Hid (∀ j : Nat, j < xs.length → xs[j]?.getD 0 = 0) := Lib.hid (fun j hj => by
      have hm : ∀ k : Nat, nzK xs k = [] → ∀ j, j < k → xs[j]?.getD 0 = 0 := by
        intro k
        induction k with
        | zero => intro _ j hj; omega
        | succ k ih =>
          intro hk j hj
          by_cases h0 : xs[k]?.getD 0 = 0
          · rw [nzK_zero h0] at hk
            by_cases e : j = k
            · subst e; exact h0
            · exact ih hk j (by omega)
          · rw [nzK_some h0] at hk; simp at hk
      exact hm _ HZ.out j hj)
    go_enter Try.func16, Try.ntmps16
    go_wp2_with (first | (go_at_call 45; refine (l06Sample_any xs _ _ _ HX.out (by omega)).mono ?_; rintro e w1 ⟨rfl, rfl⟩; rw [samB_yes HS.out]))
    go_loopw [5, 6, 7] (fun v u i w5 => ∃ j : Nat, j ≤ xs.length ∧ i = .int .i64 (j : Int) ∧ v = .slice (some ⟨w.heap.size, 0, none⟩) 0 0 ∧ u = .slice (some ⟨w.heap.size + 1, 0, none⟩) 0 0 ∧ w5 = (w.alloc (.cells #[] 2)).alloc (.cells #[] 4)) (fun _ _ i _ => xs.length - (intOf i).toNat)
    case atStart => exact ⟨0, Nat.zero_le _, rfl, rfl, rfl, rfl⟩
    case round =>
      obtain ⟨j, hj, rfl, rfl, rfl, rfl⟩ := hrel
      have hbel : Below w.heap.size w ((w.alloc (.cells #[] 2)).alloc (.cells #[] 4)) := (by repeat (first | with_reducible exact Below.refl _ _ | with_reducible exact HBL | with_reducible refine Below.drew ?_ | with_reducible refine Bel_drewN ?_ _ | with_reducible refine Below.alloc ?_ (by first | omega | (simp; done) | (simp; omega)) _ | with_reducible refine Below.setCell ?_ (by first | omega | (simp; done) | (simp; omega)) _))
      by_cases hlj : j < xs.length
      · have hlj' : (j : Int) < xs.length := by omega
        obtain ⟨b, o, e, hc⟩ := (HX.out.below hbel) j (by rw [il_len]; exact hlj)
        rw [il_get _ _ hlj, HK.out j hlj] at hc
        subst e
        go_wp2_with fail
        go_roundw
        case rel => exact ⟨j + 1, by omega, by go_num, by first | trivial | rfl, by first | trivial | rfl, by first | trivial | rfl⟩
        case measure => simp [intOf]; omega
      · have HB := Lib.hid hbel
        clear hbel
        go_wp2_with fail
        go_ret3
        exact ⟨rfl, HB.out⟩
  · have HS := Lib.hid hs
    clear hx hv hs
    go_enter Try.func16, Try.ntmps16
    go_wp2_with (first | (go_at_call 45; refine (l06Sample_any xs _ _ _ HX.out hl).mono ?_; rintro e w1 ⟨rfl, rfl⟩; rw [samB_no HS.out]))
    go_ret3
    exact ⟨rfl, (by repeat (first | with_reducible exact Below.refl _ _ | with_reducible exact HBL | with_reducible refine Below.drew ?_ | with_reducible refine Bel_drewN ?_ _ | with_reducible refine Below.alloc ?_ (by first | omega | (simp; done) | (simp; omega)) _ | with_reducible refine Below.setCell ?_ (by first | omega | (simp; done) | (simp; omega)) _))⟩
end Go.Proofs.Ytbjcomjokkhaeaa
