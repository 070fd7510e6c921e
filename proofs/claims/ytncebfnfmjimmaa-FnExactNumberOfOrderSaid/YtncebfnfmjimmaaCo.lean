/- Codes of orders: both sides. -/
import Derived.Test.YtncebfnfmjimmaaOr
import Derived.Deep.QuietTactic
import Derived.BigQuiet
namespace Go.Proofs.Ytncebfnfmjimmaa
open Go Go.RowKit
set_option linter.unusedVariables false

/-- Of the m numbers from index i on, those that are less than that at i. -/
def cntL (xs : List Int) (i : Nat) : Nat → Nat
  | 0 => 0
  | m + 1 => cntL xs i m + (if xs[i + m]?.getD 0 < xs[i]?.getD 0 then 1 else 0)
theorem cntL_le (xs : List Int) (i m : Nat) : cntL xs i m ≤ m := by
  induction m with
  | zero => exact Nat.le_refl _
  | succ m ih => unfold cntL; split <;> omega
theorem cntL_one (xs : List Int) (i : Nat) : cntL xs i 1 = 0 := by simp [cntL]
theorem cntL_yes {xs : List Int} {i m : Nat} (h : xs[i + m]?.getD 0 < xs[i]?.getD 0) : cntL xs i (m + 1) = cntL xs i m + 1 := by simp [cntL, h]
theorem cntL_no {xs : List Int} {i m : Nat} (h : ¬ xs[i + m]?.getD 0 < xs[i]?.getD 0) : cntL xs i (m + 1) = cntL xs i m := by simp [cntL, h]
/-- The code as far as k, and zeros. -/
def codeK (xs : List Int) (k : Nat) : List Int := (List.range xs.length).map fun i => if i < k then (cntL xs i (xs.length - i) : Int) else 0
def codeL (xs : List Int) : List Int := codeK xs xs.length
theorem codeK_len (xs : List Int) (k : Nat) : (codeK xs k).length = xs.length := by simp [codeK]
theorem codeL_len (xs : List Int) : (codeL xs).length = xs.length := codeK_len _ _
theorem codeK_zero (xs : List Int) : codeK xs 0 = List.replicate xs.length 0 := by
  apply List.ext_getElem
  · simp [codeK]
  · intro i h1 h2; simp [codeK]
theorem codeK_next (xs : List Int) (k : Nat) (hk : k < xs.length) : (codeK xs k).set k ((cntL xs k (xs.length - k) : Nat) : Int) = codeK xs (k + 1) := by
  apply List.ext_getElem
  · simp [codeK]
  · intro i h1 h2
    rw [List.getElem_set]
    by_cases e : k = i
    · subst e; rw [if_pos rfl]; simp [codeK]
    · rw [if_neg e]
      simp only [codeK, List.getElem_map, List.getElem_range]
      by_cases hi : i < k
      · rw [if_pos hi, if_pos (by omega)]
      · rw [if_neg hi, if_neg (by omega)]
theorem codeK_at (xs : List Int) (k : Nat) (hk : k < xs.length) : (codeK xs k).set k 0 = codeK xs k := by
  apply List.ext_getElem
  · simp
  · intro i h1 h2
    rw [List.getElem_set]
    by_cases e : k = i
    · subst e; rw [if_pos rfl]; simp [codeK]
    · rw [if_neg e]
theorem codeS_get (xs : List Int) (k : Nat) (hk : k < xs.length) (v : Int) : ((codeK xs k).set k v)[k]?.getD 0 = v := by
  rw [List.getElem?_set_self (by rw [codeK_len]; exact hk)]; rfl
theorem codeL_get (xs : List Int) (i : Nat) (hi : i < xs.length) : (codeL xs)[i]?.getD 0 = (cntL xs i (xs.length - i) : Int) := by
  simp [codeL, codeK, hi]
set_option maxRecDepth 100000 in
set_option maxHeartbeats 1000000 in
theorem implCode_yes (xs : List Int) (ao : Option Addr) (w : World) (hv : isOrd xs) (hx : Holds w ao (il xs)) :
    Calls Try.prog 20 #[.slice ao xs.length xs.length] w (RetL xs.length (il (codeL xs)) (fun s => .tuple #[s, .bool true]) w) := by
  have HX := Lib.hid hx
  have HV := Lib.hid hv
  have hn64 : xs.length ≤ 64 := hv.1.2
  have hn1 : 1 ≤ xs.length := hv.1.1
  have hmk : ∀ w : World, _ := fun w => run_mk16 (P := Try.prog) w 22 2 xs.length (by omega) Try.underlying22 (by kernel_rfl)
  clear hx hv
  go_enter Try.func20, Try.ntmps20
  go_wp2_with fail
  refine (implIsOrder_any xs _ _ _ HX.out (by omega)).mono ?_
  rintro e w1 ⟨rfl, hb⟩
  have HB := Lib.hid hb
  have hz1 := hb.size
  clear hb
  rw [ordB_yes HV.out]
  have hnew := Lib.hid (tally_new w1 xs.length 2).rowAt
  go_wp2_with fail
  clear hmk
  go_loopw [17] (fun i wr => ∃ k : Nat, k ≤ xs.length ∧ i = .int .i64 k ∧ Below w1.heap.size w1 wr ∧ RowAt wr w1.heap.size 2 (codeK xs k)) (fun i _ => xs.length - (intOf i).toNat)
  case atStart => exact ⟨0, Nat.zero_le _, rfl, (by repeat (first | with_reducible exact Below.refl _ _ | with_reducible exact HBL | with_reducible refine Below.drew ?_ | with_reducible refine Bel_drewN ?_ _ | with_reducible refine Below.alloc ?_ (by first | omega | (simp; done) | (simp; omega)) _ | with_reducible refine Below.setCell ?_ (by first | omega | (simp; done) | (simp; omega)) _)), by rw [codeK_zero]; exact hnew.out⟩
  case round =>
    rename World => wo
    obtain ⟨k, hk, rfl, hbel, hrow⟩ := hrel
    have H := Lib.hid (And.intro hbel hrow)
    by_cases hlt : k < xs.length
    · obtain ⟨b, o, rfl, hc⟩ := (Holds.below (HX.out.below HB.out) hbel) k (by simpa [il] using hlt)
      rw [il_get _ _ hlt] at hc
      obtain ⟨x, hx⟩ : ∃ x, x = xs[k]?.getD 0 := ⟨_, rfl⟩
      rw [← hx] at hc
      have HE := Lib.hid hx
      have hlt' : (k : Int) < xs.length := by omega
      clear hx hbel hrow
      go_wp2
      have hen : ∃ n : Nat, n = xs.length - k := ⟨_, rfl⟩
      go_loopw [26] (fun j w2 => ∃ m : Nat, m ≤ xs.length - k ∧ j = .int .i64 m ∧ Below w1.heap.size w1 w2 ∧ RowAt w2 w1.heap.size 2 ((codeK xs k).set k (cntL xs k m : Int))) (fun j _ => xs.length - k - (intOf j).toNat)
      case atStart => exact ⟨0, Nat.zero_le _, rfl, H.out.1, by rw [show ((cntL xs k 0 : Nat) : Int) = 0 from rfl, codeK_at xs k hlt]; exact H.out.2⟩
      case round =>
        rename World => w2
        obtain ⟨m, hm, rfl, hbel, hrow⟩ := hrel
        have H2 := Lib.hid (And.intro hbel hrow)
        have hle := cntL_le xs k m
        by_cases hltm : m < xs.length - k
        · obtain ⟨b', o', e', hc2⟩ := (Holds.below (HX.out.below HB.out) hbel) (k + m) (by simp [il]; omega)
          cases e'
          rw [il_get _ _ (by omega), ← Nat.add_assoc] at hc2
          obtain ⟨y, hy⟩ : ∃ y, y = xs[k + m]?.getD 0 := ⟨_, rfl⟩
          rw [← hy] at hc2
          have HY := Lib.hid hy
          have hltm' : (m : Int) < xs.length - k := by omega
          have hcell := hrow.cell k (by simp [codeK_len]; omega)
          rw [codeS_get xs k hlt] at hcell
          have hfr := hrow.frozen k
          have hblk := hrow.lt
          clear hy hbel hrow
          by_cases hyx : y < x
          · have HS : Hid (cntL xs k (m + 1) = cntL xs k m + 1) := Lib.hid (cntL_yes (by rw [← HY.out, ← HE.out]; exact hyx))
            obtain ⟨q, hq⟩ : ∃ q, q = cntL xs k m := ⟨_, rfl⟩
            rw [← hq] at hcell hle
            have HQ := Lib.hid hq
            clear hq
            go_wp2
            go_roundw
            case rel =>
              refine ⟨m + 1, by omega, by go_num, ?_, ?_⟩
              · have HBL := H2.out.1; exact (by repeat (first | with_reducible exact Below.refl _ _ | with_reducible exact HBL | with_reducible refine Below.drew ?_ | with_reducible refine Bel_drewN ?_ _ | with_reducible refine Below.alloc ?_ (by first | omega | (simp; done) | (simp; omega)) _ | with_reducible refine Below.setCell ?_ (by first | omega | (simp; done) | (simp; omega)) _))
              · have := H2.out.2.put k ((q + 1 : Nat) : Int)
                rw [List.set_set] at this
                rw [HS.out, ← HQ.out]
                simpa using this
            case measure => simp [intOf]; omega
          · have HS : Hid (cntL xs k (m + 1) = cntL xs k m) := Lib.hid (cntL_no (by rw [← HY.out, ← HE.out]; exact hyx))
            have hyx' : x ≤ y := by omega
            clear hyx
            go_wp2
            go_roundw
            case rel =>
              refine ⟨m + 1, by omega, by go_num, H2.out.1, ?_⟩
              rw [HS.out]; exact H2.out.2
            case measure => simp [intOf]; omega
        · have E : Hid (m = xs.length - k) := Lib.hid (by omega)
          clear hbel hrow
          go_wp2
          go_roundw
          case rel =>
            refine ⟨k + 1, by omega, by go_num, H2.out.1, ?_⟩
            rw [← codeK_next xs k hlt, ← E.out]; exact H2.out.2
          case measure => simp [intOf]; omega
    · clear hbel hrow
      go_wp2
      go_ret2
      have hkn : k = xs.length := by omega
      subst hkn
      exact ⟨_, _, rfl, RowAt.row H.out.2 HB.out.size H.out.2.lt, Bel_next HB.out H.out.1⟩
theorem implCode_no (xs : List Int) (ao : Option Addr) (c : Nat) (w : World) (hv : ¬ isOrd xs) (hx : Holds w ao (il xs)) (hl : xs.length ≤ 1048576) :
    Calls Try.prog 20 #[.slice ao xs.length c] w (RetB (.tuple #[.slice none 0 0, .bool false]) w) := by
  have HX := Lib.hid hx
  have HV := Lib.hid hv
  clear hx hv
  go_enter Try.func20, Try.ntmps20
  go_wp2_with fail
  refine (implIsOrder_any xs _ _ _ HX.out hl).mono ?_
  rintro e w1 ⟨rfl, hb⟩
  have HB := Lib.hid hb
  clear hb
  rw [ordB_no HV.out]
  go_wp2
  go_ret2
  exact ⟨rfl, HB.out⟩
set_option maxRecDepth 100000 in
set_option maxHeartbeats 1000000 in
theorem l04Code_any (xs : List Int) (ao : Option Addr) (c : Nat) (w : World) (hl : xs.length ≤ 1048576) (hx : Holds w ao (il xs)) :
    Calls Try.prog 52 #[.slice ao xs.length c] w (RetL xs.length (il (codeL xs)) (fun s => s) w) := by
  have HX := Lib.hid hx
  have hmk : ∀ w : World, _ := fun w => run_mk16 (P := Try.prog) w 22 2 xs.length (by omega) Try.underlying22 (by kernel_rfl)
  have hnew := Lib.hid (tally_new w xs.length 2).rowAt
  clear hx
  go_enter Try.func52, Try.ntmps52
  go_wp2_with fail
  clear hmk
  go_loopw [4] (fun i wr => ∃ k : Nat, k ≤ xs.length ∧ i = .int .i64 k ∧ Below w.heap.size w wr ∧ RowAt wr w.heap.size 2 (codeK xs k)) (fun i _ => xs.length - (intOf i).toNat)
  case atStart => exact ⟨0, Nat.zero_le _, rfl, (by repeat (first | with_reducible exact Below.refl _ _ | with_reducible exact HBL | with_reducible refine Below.drew ?_ | with_reducible refine Bel_drewN ?_ _ | with_reducible refine Below.alloc ?_ (by first | omega | (simp; done) | (simp; omega)) _ | with_reducible refine Below.setCell ?_ (by first | omega | (simp; done) | (simp; omega)) _)), by rw [codeK_zero]; exact hnew.out⟩
  case round =>
    rename World => wo
    obtain ⟨k, hk, rfl, hbel, hrow⟩ := hrel
    have H := Lib.hid (And.intro hbel hrow)
    by_cases hlt : k < xs.length
    · obtain ⟨b, o, rfl, hc⟩ := (Holds.below HX.out hbel) k (by simpa [il] using hlt)
      rw [il_get _ _ hlt] at hc
      obtain ⟨x, hx⟩ : ∃ x, x = xs[k]?.getD 0 := ⟨_, rfl⟩
      rw [← hx] at hc
      have HE := Lib.hid hx
      have hlt' : (k : Int) < xs.length := by omega
      clear hx hbel hrow hc
      go_wp2
      go_loopw [5] (fun j w2 => ∃ m p : Nat, p = k + m ∧ m ≤ xs.length - k ∧ j = .int .i64 p ∧ Below w.heap.size w w2 ∧ RowAt w2 w.heap.size 2 ((codeK xs k).set k (cntL xs k m : Int))) (fun j _ => xs.length - (intOf j).toNat)
      case atStart => exact ⟨1, k + 1, rfl, by omega, by go_num, H.out.1, by rw [cntL_one, show ((0 : Nat) : Int) = 0 from rfl, codeK_at xs k hlt]; exact H.out.2⟩
      case round =>
        rename World => w2
        obtain ⟨m, p, hp, hm, rfl, hbel, hrow⟩ := hrel
        have H2 := Lib.hid (And.intro hbel hrow)
        have hle := cntL_le xs k m
        by_cases hltm : m < xs.length - k
        · obtain ⟨b', o', e', hc2⟩ := (Holds.below HX.out hbel) p (by simp [il]; omega)
          cases e'
          obtain ⟨b', o', e', hc⟩ := (Holds.below HX.out hbel) k (by simp [il]; omega)
          cases e'
          rw [il_get _ _ (by omega)] at hc2 hc
          obtain ⟨y, hy⟩ : ∃ y, y = xs[p]?.getD 0 := ⟨_, rfl⟩
          rw [← hy] at hc2
          rw [← HE.out] at hc
          have HY := Lib.hid (And.intro hy hp)
          have hltm' : (p : Int) < xs.length := by omega
          have hcell := hrow.cell k (by simp [codeK_len]; omega)
          rw [codeS_get xs k hlt] at hcell
          have hfr := hrow.frozen k
          have hblk := hrow.lt
          have hlep : cntL xs k m ≤ p := by omega
          clear hy hbel hrow hp hle
          by_cases hyx : y < x
          · have HS : Hid (cntL xs k (m + 1) = cntL xs k m + 1) := Lib.hid (cntL_yes (by rw [← HY.out.2, ← HY.out.1, ← HE.out]; exact hyx))
            obtain ⟨q, hq⟩ : ∃ q, q = cntL xs k m := ⟨_, rfl⟩
            rw [← hq] at hcell hlep
            have HQ := Lib.hid hq
            clear hq
            go_wp2
            go_quiet (fail)
            go_wp2
            go_roundw
            case rel =>
              refine ⟨m + 1, p + 1, by rw [HY.out.2]; omega, by omega, by go_num, ?_, ?_⟩
              · have HBL := H2.out.1; exact (by repeat (first | with_reducible exact Below.refl _ _ | with_reducible exact HBL | with_reducible refine Below.drew ?_ | with_reducible refine Bel_drewN ?_ _ | with_reducible refine Below.alloc ?_ (by first | omega | (simp; done) | (simp; omega)) _ | with_reducible refine Below.setCell ?_ (by first | omega | (simp; done) | (simp; omega)) _))
              · have := (H2.out.2.drewN nq).put k ((q + 1 : Nat) : Int)
                rw [List.set_set] at this
                rw [HS.out, ← HQ.out]
                simpa using this
            case measure => simp [intOf]; omega
          · have HS : Hid (cntL xs k (m + 1) = cntL xs k m) := Lib.hid (cntL_no (by rw [← HY.out.2, ← HY.out.1, ← HE.out]; exact hyx))
            have hyx' : x ≤ y := by omega
            clear hyx
            go_wp2
            go_quiet (fail)
            go_wp2
            go_roundw
            case rel =>
              refine ⟨m + 1, p + 1, by rw [HY.out.2]; omega, by omega, by go_num, ?_, ?_⟩
              · have HBL := H2.out.1; exact (by repeat (first | with_reducible exact Below.refl _ _ | with_reducible exact HBL | with_reducible refine Below.drew ?_ | with_reducible refine Bel_drewN ?_ _ | with_reducible refine Below.alloc ?_ (by first | omega | (simp; done) | (simp; omega)) _ | with_reducible refine Below.setCell ?_ (by first | omega | (simp; done) | (simp; omega)) _))
              · rw [HS.out]; exact H2.out.2.drewN _
            case measure => simp [intOf]; omega
        · have E : Hid (m = xs.length - k) := Lib.hid (by omega)
          have hpn : (xs.length : Int) ≤ p := by omega
          clear hbel hrow
          go_wp2
          go_roundw
          case rel =>
            refine ⟨k + 1, by omega, by go_num, H2.out.1, ?_⟩
            rw [← codeK_next xs k hlt, ← E.out]; exact H2.out.2
          case measure => simp [intOf]; omega
    · clear hbel hrow
      go_wp2
      go_ret
      have hkn : k = xs.length := by omega
      subst hkn
      exact ⟨_, _, rfl, RowAt.row H.out.2 (Nat.le_refl _) H.out.2.lt, H.out.1⟩
theorem specCode_yes (xs : List Int) (ao : Option Addr) (c : Nat) (w : World) (hv : isOrd xs) (hx : Holds w ao (il xs)) :
    Calls Try.prog 19 #[.slice ao xs.length c] w (RetL xs.length (il (codeL xs)) (fun s => .tuple #[s, .bool true]) w) := by
  have HX := Lib.hid hx
  have HV := Lib.hid hv
  have hn64 : xs.length ≤ 64 := hv.1.2
  clear hx hv
  go_enter Try.func19, Try.ntmps19
  go_wp2_with fail
  refine (l04Order_any xs _ _ _ HX.out (by omega)).mono ?_
  rintro e w1 ⟨rfl, hb⟩
  have HB := Lib.hid hb
  clear hb
  rw [ordB_yes HV.out]
  go_wp2_with fail
  refine (l04Code_any xs _ _ _ (by omega) (HX.out.below HB.out)).mono ?_
  rintro e w2 ⟨ao2, c2, rfl, hrow, hb⟩
  have H := Lib.hid (And.intro hrow hb)
  clear hrow hb
  go_wp2
  go_ret2
  exact ⟨_, _, rfl, H.out.1.wide HB.out.size (Nat.le_refl _), Bel_next HB.out H.out.2⟩
theorem specCode_no (xs : List Int) (ao : Option Addr) (c : Nat) (w : World) (hv : ¬ isOrd xs) (hx : Holds w ao (il xs)) (hl : xs.length ≤ 1048576) :
    Calls Try.prog 19 #[.slice ao xs.length c] w (RetB (.tuple #[.slice none 0 0, .bool false]) w) := by
  have HX := Lib.hid hx
  have HV := Lib.hid hv
  clear hx hv
  go_enter Try.func19, Try.ntmps19
  go_wp2_with fail
  refine (l04Order_any xs _ _ _ HX.out hl).mono ?_
  rintro e w1 ⟨rfl, hb⟩
  have HB := Lib.hid hb
  clear hb
  rw [ordB_no HV.out]
  go_wp2
  go_ret2
  exact ⟨rfl, HB.out⟩
end Go.Proofs.Ytncebfnfmjimmaa
