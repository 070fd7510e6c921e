/- Orders of numbers: both sides. -/
import Derived.Test.YtncebfnfmjimmaaOc
namespace Go.Proofs.Ytncebfnfmjimmaa
open Go Go.RowKit
set_option linter.unusedVariables false

theorem wf_i64 {n : Int} (h : (Lit.int .i64 n).wf = true) : n ≤ 9223372036854775807 := by
  have h' : IntKind.i64.min ≤ n ∧ n ≤ IntKind.i64.max := by simpa [Lit.wf] using h
  have e2 : IntKind.i64.max = 9223372036854775807 := by decide
  rw [e2] at h'
  exact h'.2
/-- What is left of a number behind j digits, and the digits. -/
def quoK (k : Nat) : Nat → Nat
  | 0 => k
  | j + 1 => quoK k j / (j + 1)
def cdK (n k : Nat) : Nat → List Int
  | 0 => List.replicate n 0
  | j + 1 => (cdK n k j).set (n - (j + 1)) ((quoK k j % (j + 1) : Nat) : Int)
theorem cdK_len (n k j : Nat) : (cdK n k j).length = n := by
  induction j with
  | zero => simp [cdK]
  | succ j ih => simp [cdK, ih]
theorem quoK_le (k j : Nat) : quoK k j ≤ k := by
  induction j with
  | zero => exact Nat.le_refl _
  | succ j ih => exact Nat.le_trans (Nat.div_le_self _ _) ih
theorem cdK_get (n k j : Nat) (hj : j ≤ n) (i : Nat) (hi : i < n) : 0 ≤ (cdK n k j)[i]?.getD 0 ∧ (cdK n k j)[i]?.getD 0 < (n : Int) - i := by
  induction j with
  | zero => simp [cdK, hi]
  | succ j ih =>
    have ih := ih (by omega)
    rw [cdK, List.getElem?_set]
    by_cases e : n - (j + 1) = i
    · rw [if_pos e, if_pos (by rw [cdK_len]; omega)]
      simp only [Option.getD_some]
      have := Nat.mod_lt (quoK k j) (show j + 1 > 0 by omega)
      omega
    · rw [if_neg e]; exact ih
theorem cdK_cod (n k : Nat) (h1 : 1 ≤ n) (h2 : n ≤ 20) : isCod (cdK n k n) := by
  refine ⟨by rw [cdK_len]; omega, fun i hi => ?_⟩
  rw [cdK_len] at hi ⊢
  exact cdK_get n k n (Nat.le_refl _) i hi
/-- There is an order before which k come. -/
def numOk (n k : Int) : Prop := 1 ≤ n ∧ n ≤ 20 ∧ 0 ≤ k ∧ quoK k.toNat n.toNat = 0
def numL (n k : Int) : List Int := ordL (cdK n.toNat k.toNat n.toNat)
theorem numL_len (n k : Int) : (numL n k).length = n.toNat := by rw [numL, ordL_len, cdK_len]
theorem implOOC_n (cs : List Int) (n : Nat) (hn : cs.length = n) (ao : Option Addr) (c : Nat) (w : World) (hx : Holds w ao (il cs)) :
    Calls Try.prog 24 #[.slice ao n c] w (ListP (isCod cs) (ordL cs) w) := by subst hn; exact implOOC_any cs ao c w hx
set_option maxRecDepth 100000 in
set_option maxHeartbeats 1000000 in
theorem implNum_in (n k : Nat) (w : World) (h1 : 1 ≤ n) (h2 : n ≤ 20) (hk : (k : Int) ≤ 9223372036854775807) :
    Calls Try.prog 28 #[.int .i64 n, .int .i64 k] w (ListP (numOk n k) (numL n k) w) := by
  have hmk : ∀ w : World, _ := fun w => run_mk16 (P := Try.prog) w 22 2 n (by omega) Try.underlying22 (by kernel_rfl)
  have hnew := Lib.hid (tally_new w n 2).rowAt
  have hn1 : (1 : Int) ≤ n := by omega
  have hn2 : (n : Int) ≤ 20 := by omega
  go_enter Try.func28, Try.ntmps28
  go_wp2
  clear hmk
  go_loopw [1, 7] (fun q b wr => ∃ j c : Nat, c = j + 1 ∧ c ≤ n + 1 ∧ b = .int .i64 c ∧ q = .int .i64 (quoK k j : Nat) ∧ Below w.heap.size w wr ∧ RowAt wr w.heap.size 2 (cdK n k j)) (fun _ b _ => n + 1 - (intOf b).toNat)
  case atStart => exact ⟨0, 1, rfl, by omega, rfl, rfl, (by repeat (first | with_reducible exact Below.refl _ _ | with_reducible exact HBL | with_reducible refine Below.drew ?_ | with_reducible refine Bel_drewN ?_ _ | with_reducible refine Below.alloc ?_ (by first | omega | (simp; done) | (simp; omega)) _ | with_reducible refine Below.setCell ?_ (by first | omega | (simp; done) | (simp; omega)) _)), hnew.out⟩
  case round =>
    obtain ⟨j, c, hcj, hcn, rfl, rfl, hbel, hrow⟩ := hrel
    have H := Lib.hid (And.intro hbel hrow)
    have hq := quoK_le k j
    by_cases hlt : c ≤ n
    · have hlt' : (c : Int) ≤ n := by omega
      have hc1 : (1 : Int) ≤ c := by omega
      obtain ⟨p, hp⟩ : ∃ p, p = n - c := ⟨_, rfl⟩
      have hpn : (n : Int) - c = p := by omega
      have hpl : p < n := by omega
      have hcell := hrow.cell p (by rw [cdK_len]; exact hpl)
      have hfr := hrow.frozen p
      have hblk := hrow.lt
      have HS : Hid (quoK k (j + 1) = quoK k j / c ∧ cdK n k (j + 1) = (cdK n k j).set p ((quoK k j % c : Nat) : Int)) := Lib.hid ⟨by rw [hcj]; rfl, by rw [hp, hcj]; rfl⟩
      generalize (cdK n k j)[p]?.getD 0 = v at hcell
      obtain ⟨q, eq⟩ : ∃ q, q = quoK k j := ⟨_, rfl⟩
      rw [← eq] at hq HS ⊢
      have HQ := Lib.hid eq
      have hq0 : (q : Int) ≤ 9223372036854775807 := by omega
      have HCJ := Lib.hid hcj
      clear eq hbel hrow hp hcj
      have HW : Hid (wrap64 ((q : Int) / (c : Int)) = ((q / c : Nat) : Int)) := Lib.hid (by
        have : q / c ≤ q := Nat.div_le_self _ _
        rw [natdiv]
        generalize q / c = z at this ⊢
        rw [IntWalk.wrap64_in _ (by omega)])
      go_wp2
      go_roundw
      case rel =>
        refine ⟨j + 1, c + 1, by rw [HCJ.out], by omega, by go_num, by rw [HS.out.1]; first | rfl | rw [HW.out], ?_, ?_⟩
        · have HBL := H.out.1; exact (by repeat (first | with_reducible exact Below.refl _ _ | with_reducible exact HBL | with_reducible refine Below.drew ?_ | with_reducible refine Bel_drewN ?_ _ | with_reducible refine Below.alloc ?_ (by first | omega | (simp; done) | (simp; omega)) _ | with_reducible refine Below.setCell ?_ (by first | omega | (simp; done) | (simp; omega)) _))
        · rw [HS.out.2]
          have := H.out.2.put p ((q % c : Nat) : Int)
          simpa using this
      case measure => simp [intOf]; omega
    · have E : Hid (j = n) := Lib.hid (by omega)
      have hlt' : (n : Int) < c := by omega
      clear hbel hrow hcj
      by_cases h0 : quoK k j = 0
      · have HY : Hid (numOk n k) := Lib.hid ⟨hn1, hn2, by omega, by rw [← E.out]; simpa using h0⟩
        have HH : Hid (Holds wr (some ⟨w.heap.size, 0, none⟩) (il (cdK n k n))) := Lib.hid (by
          have := (H.out.2.row (lo := w.heap.size) (hi := wr.heap.size) (Nat.le_refl _) H.out.2.lt).holds
          rwa [E.out] at this)
        rw [h0]
        clear h0 hq
        go_wp2_with fail
        refine (ListP.some (cdK_cod n k h1 h2) (implOOC_n (cdK n k n) n (cdK_len _ _ _) _ _ _ HH.out)).mono ?_
        rintro e w2 ⟨ao2, c2, rfl, hrow, hb⟩
        have H2 := Lib.hid (And.intro hrow hb)
        clear hrow hb
        go_wp2
        go_ret2
        refine ListP.yes HY.out ⟨ao2, c2, by simp only [numL]; rfl, ?_, Bel_next H.out.1 H2.out.2⟩
        exact H2.out.1.wide H.out.1.size (Nat.le_refl _)
      · have hpos : (0 : Int) < (quoK k j : Nat) := by omega
        have HB : Hid (¬ numOk n k) := Lib.hid (fun h => h0 (by rw [E.out]; simpa using h.2.2.2))
        generalize quoK k j = q at hpos hq
        clear h0
        go_wp2
        go_ret2
        exact ListP.no HB.out ⟨rfl, H.out.1⟩
theorem implNum_any (n k : Int) (w : World) (hk : k ≤ 9223372036854775807) :
    Calls Try.prog 28 #[.int .i64 n, .int .i64 k] w (ListP (numOk n k) (numL n k) w) := by
  by_cases h : 1 ≤ n ∧ n ≤ 20 ∧ 0 ≤ k
  · obtain ⟨m, rfl⟩ : ∃ m : Nat, n = m := ⟨n.toNat, by omega⟩
    obtain ⟨q, rfl⟩ : ∃ q : Nat, k = q := ⟨k.toNat, by omega⟩
    exact implNum_in m q w (by omega) (by omega) hk
  · have HB : Hid (¬ numOk n k) := Lib.hid (fun hh => h ⟨hh.1, hh.2.1, hh.2.2.1⟩)
    by_cases h1 : n < 1
    · clear h
      go_enter Try.func28, Try.ntmps28
      go_wp2
      go_ret2
      exact ListP.no HB.out ⟨rfl, Below.refl _ _⟩
    · have h1' : 1 ≤ n := by omega
      by_cases h2 : 20 < n
      · clear h h1
        go_enter Try.func28, Try.ntmps28
        go_wp2
        go_ret2
        exact ListP.no HB.out ⟨rfl, Below.refl _ _⟩
      · have h2' : n ≤ 20 := by omega
        have h3 : k < 0 := by omega
        clear h h1 h2
        go_enter Try.func28, Try.ntmps28
        go_wp2
        go_ret2
        exact ListP.no HB.out ⟨rfl, Below.refl _ _⟩
theorem l04FromCode_n (cs : List Int) (n : Nat) (hn : cs.length = n) (ao : Option Addr) (c : Nat) (w : World) (hv : isCod cs) (hx : Holds w ao (il cs)) :
    Calls Try.prog 55 #[.slice ao n c] w (RetL n (il (ordL cs)) (fun s => s) w) := by subst hn; exact l04FromCode_ret cs ao c w hv hx
set_option maxRecDepth 100000 in
set_option maxHeartbeats 1000000 in
theorem specNum_in (n k : Nat) (w : World) (h1 : 1 ≤ n) (h2 : n ≤ 20) (hk : (k : Int) ≤ 9223372036854775807) :
    Calls Try.prog 27 #[.int .i64 n, .int .i64 k] w (ListP (numOk n k) (numL n k) w) := by
  have hmk : ∀ w : World, _ := fun w => run_mk16 (P := Try.prog) w 22 2 n (by omega) Try.underlying22 (by kernel_rfl)
  have hnew := Lib.hid (tally_new w n 2).rowAt
  have hn1 : (1 : Int) ≤ n := by omega
  have hn2 : (n : Int) ≤ 20 := by omega
  go_enter Try.func27, Try.ntmps27
  go_wp2_with fail
  refine (l00In_yes _ _ _ hn1 hn2 _).mono ?_
  rintro e w1 ⟨rfl, rfl⟩
  go_wp2
  clear hmk
  go_loopw [1, 7] (fun q b wr => ∃ j : Nat, j ≤ n ∧ b = .int .i64 ((n : Int) - 1 - j) ∧ q = .int .i64 (quoK k j : Nat) ∧ Below w.heap.size w wr ∧ RowAt wr w.heap.size 2 (cdK n k j)) (fun _ b _ => (intOf b + 1).toNat)
  case atStart => exact ⟨0, Nat.zero_le _, by simp, rfl, (by repeat (first | with_reducible exact Below.refl _ _ | with_reducible exact HBL | with_reducible refine Below.drew ?_ | with_reducible refine Bel_drewN ?_ _ | with_reducible refine Below.alloc ?_ (by first | omega | (simp; done) | (simp; omega)) _ | with_reducible refine Below.setCell ?_ (by first | omega | (simp; done) | (simp; omega)) _)), hnew.out⟩
  case round =>
    obtain ⟨j, hjn, rfl, rfl, hbel, hrow⟩ := hrel
    have H := Lib.hid (And.intro hbel hrow)
    have hq := quoK_le k j
    by_cases hlt : j < n
    · obtain ⟨p, hp⟩ : ∃ p, p = n - (j + 1) := ⟨_, rfl⟩
      obtain ⟨c, hcj⟩ : ∃ c, c = j + 1 := ⟨_, rfl⟩
      have hpe : (n : Int) - 1 - j = p := by omega
      have hpn : (n : Int) - p = c := by omega
      have hpl : p < n := by omega
      have hc1 : (1 : Int) ≤ c := by omega
      have hcell := hrow.cell p (by rw [cdK_len]; exact hpl)
      have hfr := hrow.frozen p
      have hblk := hrow.lt
      have HS : Hid (quoK k (j + 1) = quoK k j / c ∧ cdK n k (j + 1) = (cdK n k j).set p ((quoK k j % c : Nat) : Int)) := Lib.hid ⟨by rw [hcj]; rfl, by rw [hp]; simp only [cdK, hcj]⟩
      generalize (cdK n k j)[p]?.getD 0 = v at hcell
      obtain ⟨q, eq⟩ : ∃ q, q = quoK k j := ⟨_, rfl⟩
      rw [← eq] at hq HS ⊢
      have HQ := Lib.hid eq
      have hq0 : (q : Int) ≤ 9223372036854775807 := by omega
      have HP := Lib.hid (And.intro hpe hcj)
      rw [hpe]
      clear eq hbel hrow hp hcj hpe
      have HW : Hid (wrap64 ((q : Int) / (c : Int)) = ((q / c : Nat) : Int)) := Lib.hid (by
        have : q / c ≤ q := Nat.div_le_self _ _
        rw [natdiv]
        generalize q / c = z at this ⊢
        rw [IntWalk.wrap64_in _ (by omega)])
      go_wp2
      go_roundw
      case rel =>
        refine ⟨j + 1, by omega, by have := HP.out.1; first | (congr 1; omega) | (congr 1), by rw [HS.out.1]; first | rfl | rw [HW.out], ?_, ?_⟩
        · have HBL := H.out.1; exact (by repeat (first | with_reducible exact Below.refl _ _ | with_reducible exact HBL | with_reducible refine Below.drew ?_ | with_reducible refine Bel_drewN ?_ _ | with_reducible refine Below.alloc ?_ (by first | omega | (simp; done) | (simp; omega)) _ | with_reducible refine Below.setCell ?_ (by first | omega | (simp; done) | (simp; omega)) _))
        · rw [HS.out.2]
          have := H.out.2.put p ((q % c : Nat) : Int)
          simpa using this
      case measure => simp [intOf] <;> omega
    · have E : Hid (j = n) := Lib.hid (by omega)
      have hlt' : (n : Int) - 1 - j < 0 := by omega
      clear hbel hrow
      by_cases h0 : quoK k j = 0
      · have HY : Hid (numOk n k) := Lib.hid ⟨hn1, hn2, by omega, by rw [← E.out]; simpa using h0⟩
        have HH : Hid (Holds wr (some ⟨w.heap.size, 0, none⟩) (il (cdK n k n))) := Lib.hid (by
          have := (H.out.2.row (lo := w.heap.size) (hi := wr.heap.size) (Nat.le_refl _) H.out.2.lt).holds
          rwa [E.out] at this)
        rw [h0]
        clear h0 hq
        go_wp2_with fail
        refine (l04FromCode_n (cdK n k n) n (cdK_len _ _ _) _ _ _ (cdK_cod n k h1 h2) HH.out).mono ?_
        rintro e w2 ⟨ao2, c2, rfl, hrow, hb⟩
        have H2 := Lib.hid (And.intro hrow hb)
        clear hrow hb
        go_wp2
        go_ret2
        refine ListP.yes HY.out ⟨ao2, c2, by rw [numL_len]; rfl, ?_, Bel_next H.out.1 H2.out.2⟩
        exact H2.out.1.wide H.out.1.size (Nat.le_refl _)
      · have hpos : (0 : Int) < (quoK k j : Nat) := by omega
        have HB : Hid (¬ numOk n k) := Lib.hid (fun h => h0 (by rw [E.out]; simpa using h.2.2.2))
        generalize quoK k j = q at hpos hq
        clear h0
        go_wp2
        go_ret2
        exact ListP.no HB.out ⟨rfl, H.out.1⟩
theorem specNum_any (n k : Int) (w : World) (hk : k ≤ 9223372036854775807) :
    Calls Try.prog 27 #[.int .i64 n, .int .i64 k] w (ListP (numOk n k) (numL n k) w) := by
  by_cases h : 1 ≤ n ∧ n ≤ 20 ∧ 0 ≤ k
  · obtain ⟨m, rfl⟩ : ∃ m : Nat, n = m := ⟨n.toNat, by omega⟩
    obtain ⟨q, rfl⟩ : ∃ q : Nat, k = q := ⟨k.toNat, by omega⟩
    exact specNum_in m q w (by omega) (by omega) hk
  · have HB : Hid (¬ numOk n k) := Lib.hid (fun hh => h ⟨hh.1, hh.2.1, hh.2.2.1⟩)
    by_cases h1 : 1 ≤ n ∧ n ≤ 20
    · have h3 : k < 0 := by omega
      obtain ⟨h1a, h1b⟩ := h1
      clear h
      go_enter Try.func27, Try.ntmps27
      go_wp2_with fail
      refine (l00In_yes _ _ _ h1a h1b _).mono ?_
      rintro e w1 ⟨rfl, rfl⟩
      go_wp2
      go_ret2
      exact ListP.no HB.out ⟨rfl, Below.refl _ _⟩
    · have hno : n < 1 ∨ 20 < n := by omega
      have HO := Lib.hid hno
      clear h h1 hno
      go_enter Try.func27, Try.ntmps27
      go_wp2_with fail
      refine (l00In_no _ _ _ HO.out _).mono ?_
      rintro e w1 ⟨rfl, rfl⟩
      go_wp2
      go_ret2
      exact ListP.no HB.out ⟨rfl, Below.refl _ _⟩
end Go.Proofs.Ytncebfnfmjimmaa
