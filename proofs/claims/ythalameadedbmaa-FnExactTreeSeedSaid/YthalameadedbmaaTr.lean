/- Trees of sums: what the code and its model make of weights. -/
import Derived.Test.YthalameadedbmaaTq
import Derived.Test.YthalameadedbmaaRa
import Derived.Test.YthalameadedbmaaIn0
namespace Go.Proofs.Ythalameadedbmaa
open Go Go.RowKit
set_option linter.unusedVariables false

def leafsB (ws : List Int) : Bool := decide (1 ≤ ws.length ∧ ws.length ≤ 64) && ws.all (fun x => decide (0 ≤ x ∧ x ≤ 1000000))
theorem leafsB_iff (ws : List Int) : leafsB ws = true ↔ isLeafs ws := by
  unfold leafsB isLeafs leafs
  rw [Bool.and_eq_true, decide_eq_true_eq, List.all_eq_true]
  constructor
  · rintro ⟨⟨h1, h2⟩, h3⟩
    refine ⟨h1, h2, fun x => ?_⟩
    by_cases hx : x < ws.length
    · rw [List.getElem?_eq_getElem hx]
      simpa using h3 _ (List.getElem_mem hx)
    · rw [List.getElem?_eq_none (by omega)]; simp
  · rintro ⟨h1, h2, h3⟩
    refine ⟨⟨h1, h2⟩, fun x hx => ?_⟩
    obtain ⟨i, hi, rfl⟩ := List.getElem_of_mem hx
    have := h3 i
    rw [List.getElem?_eq_getElem hi] at this
    simpa using this
theorem leafsB_bad {ws : List Int} {i : Nat} (h : ¬(0 ≤ ws[i]?.getD 0 ∧ ws[i]?.getD 0 ≤ 1000000)) : leafsB ws = false := by
  cases hl : leafsB ws with
  | false => rfl
  | true => exact absurd (((leafsB_iff ws).1 hl).2.2 i) h
theorem leafsB_all {ws : List Int} (h : ∀ i : Nat, i < ws.length → 0 ≤ ws[i]?.getD 0 ∧ ws[i]?.getD 0 ≤ 1000000) : leafsB ws = decide (1 ≤ (ws.length : Int) ∧ (ws.length : Int) ≤ 64) := by
  by_cases hn : 1 ≤ ws.length ∧ ws.length ≤ 64
  · rw [decide_eq_true (by omega)]
    refine (leafsB_iff ws).2 ⟨hn.1, hn.2, fun x => ?_⟩
    by_cases hx : x < ws.length
    · exact h x hx
    · rw [List.getElem?_eq_none (by omega)]; simp
  · rw [decide_eq_false (by omega)]
    unfold leafsB; rw [decide_eq_false hn]; rfl

theorem pickCount_any (n : Int) (w : World) : Calls Try.prog 84 #[.int .i64 n] w (fun e w' => e = .returned (.bool (decide (1 ≤ n ∧ n ≤ 64))) ∧ w = w') := by
  by_cases h0 : 1 ≤ n
  · have e : decide (1 ≤ n ∧ n ≤ 64) = decide (n ≤ 64) := by rw [Bool.eq_iff_iff]; simp; omega
    have E := Lib.hid e
    clear e
    go_enter Try.func84, Try.ntmps84
    go_wp2
    go_ret
    exact ⟨by first | rfl | (rw [E.out]; rfl), rfl⟩
  · have h1 : decide (1 ≤ n) = false := by simpa using h0
    have e : decide (1 ≤ n ∧ n ≤ 64) = false := by simp; omega
    have E := Lib.hid e
    clear e
    go_enter Try.func84, Try.ntmps84
    go_wp2
    go_ret
    exact ⟨by first | rfl | (rw [E.out]; rfl), rfl⟩
set_option maxHeartbeats 400000 in
theorem areTree_any (ws : List Int) (ao : Option Addr) (c : Nat) (w : World) (hx : Holds w ao (il ws)) (hl : ws.length ≤ 1048576) :
    Calls Try.prog 95 #[.slice ao ws.length c] w (fun e w' => e = .returned (.bool (leafsB ws)) ∧ w = w') := by
  have HX := Lib.hid hx
  have hl' : (ws.length : Int) ≤ 1048576 := by omega
  clear hx
  go_enter Try.func95, Try.ntmps95
  go_wp2
  go_loop [7] (fun i => ∃ k : Nat, k ≤ ws.length ∧ i = .int .i64 k ∧ ∀ j : Nat, j < k → 0 ≤ ws[j]?.getD 0 ∧ ws[j]?.getD 0 ≤ 1000000) (fun i => ws.length - (intOf i).toNat)
  case atStart => exact ⟨0, Nat.zero_le _, rfl, fun j hj => absurd hj (Nat.not_lt_zero _)⟩
  case round =>
    obtain ⟨k, hk, rfl, hall⟩ := hrel
    have HA := Lib.hid hall
    clear hall
    by_cases hlt : k < ws.length
    · obtain ⟨b, o, rfl, hc⟩ := HX.out k (by simpa [il] using hlt)
      rw [il_get _ _ hlt] at hc
      obtain ⟨x, hx⟩ : ∃ x, x = ws[k]?.getD 0 := ⟨_, rfl⟩
      rw [← hx] at hc
      have HE := Lib.hid hx
      clear hx
      have hlt' : (k : Int) < ws.length := by omega
      by_cases h0 : x < 0
      · have HB : Hid (leafsB ws = false) := Lib.hid (leafsB_bad (i := k) (by rw [← HE.out]; omega))
        go_wp2
        go_ret
        exact ⟨by rw [HB.out]; rfl, rfl⟩
      · have h0' : 0 ≤ x := by omega
        by_cases h1 : 1000000 < x
        · have HB : Hid (leafsB ws = false) := Lib.hid (leafsB_bad (i := k) (by rw [← HE.out]; omega))
          clear h0
          go_wp2
          go_ret
          exact ⟨by rw [HB.out]; rfl, rfl⟩
        · have h1' : x ≤ 1000000 := by omega
          clear h0 h1
          go_wp2
          go_round
          case rel =>
            refine ⟨k + 1, by omega, by go_num, fun j hj => ?_⟩
            by_cases e : j = k
            · subst e; rw [← HE.out]; exact ⟨h0', h1'⟩
            · exact HA.out j (by omega)
          case measure => simp [intOf]; omega
    · have HB : Hid (leafsB ws = decide (1 ≤ (ws.length : Int) ∧ (ws.length : Int) ≤ 64)) := Lib.hid (leafsB_all (fun i hi => HA.out i (by omega)))
      go_wp2_with fail
      refine (pickCount_any _ _).mono ?_
      rintro e w1 ⟨rfl, rfl⟩
      go_wp2_with fail
      go_ret
      exact ⟨by rw [HB.out]; simp, rfl⟩
def chkBits : Bool := (List.range 65).all fun i => i == 0 || bits .and .i64 (i : Int) (-(i : Int)) == (lowN i : Int)
theorem chkBits_ok : chkBits = true := by decide +kernel
theorem low_bits (i : Nat) (h1 : 1 ≤ i) (h2 : i ≤ 64) : bits .and .i64 (i : Int) (-(i : Int)) = (lowN i : Int) := by
  have h := chkBits_ok
  unfold chkBits at h
  rw [List.all_eq_true] at h
  have := h i (by simp; omega)
  rw [Bool.or_eq_true, beq_iff_eq, beq_iff_eq] at this
  rcases this with h | h
  · omega
  · exact h
theorem lastDigit_any (i : Nat) (h1 : 1 ≤ i) (h2 : i ≤ 64) (w : World) : Calls Try.prog 58 #[.int .i64 i] w (fun e w' => e = .returned (.int .i64 (lowN i)) ∧ w = w') := by
  have hb := low_bits i h1 h2
  have hi1 : (1 : Int) ≤ i := by omega
  have hi2 : (i : Int) ≤ 64 := by omega
  generalize lowN i = d at *
  go_enter Try.func58, Try.ntmps58
  go_wp2
  go_ret
  exact ⟨rfl, rfl⟩
def chkLow : Bool := (List.range 65).all fun i => [1, 2, 4, 8, 16, 32, 64].all fun D => i == 0 || !(i % D == 0) || i % (2 * D) == 0 || lowN i == D
theorem chkLow_ok : chkLow = true := by decide +kernel
theorem low_of {i D : Nat} (h1 : 1 ≤ i) (h2 : i ≤ 64) (hD : D = 1 ∨ D = 2 ∨ D = 4 ∨ D = 8 ∨ D = 16 ∨ D = 32 ∨ D = 64) (ha : i % D = 0) (hb : i % (2 * D) ≠ 0) : lowN i = D := by
  have h := chkLow_ok
  unfold chkLow at h
  rw [List.all_eq_true] at h
  have h := h i (by simp; omega)
  rw [List.all_eq_true] at h
  have h := h D (by simp; omega)
  rw [ha] at h
  have e1 : (i == 0) = false := by rw [beq_eq_false_iff_ne]; omega
  have e2 : (i % (2 * D) == 0) = false := by rw [beq_eq_false_iff_ne]; exact hb
  rw [e1, e2] at h
  simpa using h
theorem low_double {i D : Nat} (h1 : 1 ≤ i) (h2 : i ≤ 64) (hD : D = 1 ∨ D = 2 ∨ D = 4 ∨ D = 8 ∨ D = 16 ∨ D = 32 ∨ D = 64) (hb : i % (2 * D) = 0) : 2 * D = 1 ∨ 2 * D = 2 ∨ 2 * D = 4 ∨ 2 * D = 8 ∨ 2 * D = 16 ∨ 2 * D = 32 ∨ 2 * D = 64 := by
  rcases hD with rfl | rfl | rfl | rfl | rfl | rfl | rfl <;> omega
theorem natmod2 (i D : Nat) : (i : Int) % (2 * (D : Int)) = ((i % (2 * D) : Nat) : Int) := by simp
set_option maxHeartbeats 1000000 in
theorem l03Low_any (i : Nat) (h1 : 1 ≤ i) (h2 : i ≤ 64) (w : World) : Calls Try.prog 94 #[.int .i64 i] w (fun e w' => e = .returned (.int .i64 (lowN i)) ∧ w = w') := by
  have hi1 : (1 : Int) ≤ i := by omega
  have hi2 : (i : Int) ≤ 64 := by omega
  go_enter Try.func94, Try.ntmps94
  go_wp2
  go_loop [3] (fun d => ∃ D : Nat, (D = 1 ∨ D = 2 ∨ D = 4 ∨ D = 8 ∨ D = 16 ∨ D = 32 ∨ D = 64) ∧ i % D = 0 ∧ d = .int .i64 (D : Int)) (fun d => 128 - (intOf d).toNat)
  case atStart => exact ⟨1, .inl rfl, Nat.mod_one _, rfl⟩
  case round =>
    obtain ⟨D, hD, ha, rfl⟩ := hrel
    have HD := Lib.hid (And.intro hD ha)
    have hD1 : (1 : Int) ≤ D := by omega
    have hD2 : (D : Int) ≤ 64 := by omega
    have hne : ((2 * (D : Int)) == 0) = false := by rw [beq_eq_false_iff_ne]; omega
    have hne' : (2 * (D : Int)) ≠ 0 := by omega
    by_cases hb : i % (2 * D) = 0
    · have ht : ((i : Int) % (2 * (D : Int)) == 0) = true := by rw [beq_iff_eq, natmod2, hb]; rfl
      clear hD ha
      have HB := Lib.hid hb
      clear hb
      go_wp2
      go_round
      case rel =>
        obtain ⟨hD, ha⟩ := HD.out
        have hb := HB.out
        exact ⟨2 * D, low_double h1 h2 hD hb, hb, by congr 1; omega⟩
      case measure => simp [intOf]; omega
    · have ht : ((i : Int) % (2 * (D : Int)) == 0) = false := by rw [beq_eq_false_iff_ne, natmod2]; omega
      have HL := Lib.hid (low_of h1 h2 hD ha hb)
      clear hD ha hb
      go_wp2
      go_ret
      exact ⟨by rw [HL.out]; rfl, rfl⟩
/-- A tree in a new row. -/
def GrowP (n : Nat) (ts : List Int) (w : World) (e : Ending) (w' : World) : Prop :=
  e = .returned (.slice (some ⟨w.heap.size, 0, none⟩) n n) ∧ RowAt w' w.heap.size 2 ts ∧ Below w.heap.size w w'
set_option maxRecDepth 100000 in
set_option maxHeartbeats 2000000 in
theorem growTree_any (ws : List Int) (ao : Option Addr) (c : Nat) (w : World) (hx : Holds w ao (il ws)) (hw : isLeafs ws) :
    Calls Try.prog 62 #[.slice ao ws.length c] w (GrowP ws.length (treeL ws) w) := by
  have HX := Lib.hid hx
  have HW := Lib.hid hw
  have hn1 : 1 ≤ ws.length := hw.1
  have hn2 : ws.length ≤ 64 := hw.2.1
  have hn3 : (ws.length : Int) ≤ 64 := by omega
  have hmk : ∀ w : World, (Instr.makeSlice 22 (.int .i64 (ws.length : Int)) (.int .i64 (ws.length : Int))).run Try.prog w = .ok (.slice (some ⟨w.heap.size, 0, none⟩) ws.length ws.length) (w.alloc (.cells (Array.replicate ws.length (.int .i64 0)) 2)) := fun w => run_mk16 w 22 2 ws.length (by omega) Try.underlying22 (by kernel_rfl)
  clear hx hw
  go_enter Try.func62, Try.ntmps62
  go_wp2
  clear hmk
  go_loopw [12] (fun i wr => ∃ j : Nat, j ≤ ws.length ∧ i = .int .i64 (j : Int) ∧ Below w.heap.size w wr ∧ RowAt wr w.heap.size 2 (treeM ws ws.length j 1)) (fun i _ => ws.length - (intOf i).toNat)
  case atStart =>
    refine ⟨0, Nat.zero_le _, rfl, (Below.refl _ _).alloc (Nat.le_refl _) _, ?_⟩
    rw [treeM_zero]
    exact (tally_new w ws.length 2).rowAt
  case round =>
    rename World => wo
    obtain ⟨j, hj, rfl, hbel, hrow⟩ := hrel
    by_cases hlt : j < ws.length
    · obtain ⟨b, o, hao, hc⟩ := (HX.out.below hbel) j (by simpa [il] using hlt)
      subst hao
      rw [il_get _ _ hlt] at hc
      have HLF := Lib.hid (HW.out.2.2 j)
      obtain ⟨x, hx⟩ : ∃ x, x = ws[j]?.getD 0 := ⟨_, rfl⟩
      rw [← hx] at hc HLF
      have HE := Lib.hid hx
      have hx0 := HLF.out.1
      have hx1 := HLF.out.2
      clear hx
      rw [treeM_start] at hrow
      have H0 := Lib.hid (And.intro hbel hrow)
      clear hbel hrow HLF
      go_wp2
      go_loopw [6] (fun a wq => ∃ A : Nat, a = .int .i64 ((A : Int) + 1) ∧ A ≤ 127 ∧ (A + 1 ≤ ws.length → covB (A + 1) j = true) ∧ Below w.heap.size w wq ∧ RowAt wq w.heap.size 2 (treeM ws ws.length j (A + 1))) (fun a _ => 200 - (intOf a).toNat)
      case atStart => exact ⟨j, by go_num, by omega, fun _ => cov_self j, H0.out⟩
      case round =>
        rename World => wq
        obtain ⟨A, rfl, hA, hcov, hbel, hrow⟩ := hrel
        have hA127 : (A : Int) ≤ 127 := by omega
        clear H0
        by_cases hle : A + 1 ≤ ws.length
        · have hle' : (A : Int) + 1 ≤ ws.length := by omega
          have hca := hrow.cell A (by rw [treeM_len]; omega)
          have hg := treeM_get ws ws.length j (A + 1) (by omega) hle
          rw [Nat.add_sub_cancel] at hg
          rw [hg] at hca
          have hfz := hrow.frozen A
          have hzq := hrow.lt
          have hbd := sumP_bd HW.out.2.2 (covB (A + 1)) j
          have hV0 : 0 ≤ treeV ws j (A + 1) := hbd.1
          have hV1 : treeV ws j (A + 1) ≤ 64000000 := by have : treeV ws j (A + 1) ≤ 1000000 * (j : Int) := hbd.2; omega
          have HP := Lib.hid (treeM_put ws ws.length j (A + 1) (by omega) hle hn2 (by omega) (hcov hle))
          have HU := Lib.hid (fun h => up_cov (a := A + 1) (x := j) (by omega) (by omega) (by omega) (hcov hle) h)
          have hll := low_64 (A + 1)
          have hlp := low_pos (A + 1)
          have HLOW := Lib.hid (lastDigit_any (A + 1) (by omega) (by omega))
          have H1 := Lib.hid (And.intro hbel hrow)
          clear hg hbd hbel hrow hcov
          generalize treeV ws j (A + 1) = V at *
          generalize hD : lowN (A + 1) = D at *
          have hD64 : (D : Int) ≤ 64 := by omega
          clear hD
          go_wp2_with fail
          have hcall := HLOW.out (wq.setCell ⟨w.heap.size, A, none⟩ (.int .i64 (V + x)))
          refine hcall.mono ?_
          rintro e w3 ⟨rfl, rfl⟩
          clear hcall
          go_wp2
          go_roundw
          case rel =>
            obtain ⟨hbel, hrow⟩ := H1.out
            refine ⟨A + D, by congr 1; omega, by omega, fun h => ?_, hbel.setCell (by simp) _, ?_⟩
            · have := HU.out (by omega)
              rwa [show A + 1 + D = A + D + 1 by omega] at this
            · have := hrow.put A (V + x)
              have e := HP.out
              rw [Nat.add_sub_cancel, ← HE.out, show A + 1 + D = A + D + 1 by omega] at e
              rwa [e] at this
          case measure => simp [intOf]; omega
        · have hle' : (ws.length : Int) < (A : Int) + 1 := by omega
          have H1 := Lib.hid (And.intro hbel hrow)
          clear hbel hrow hcov
          go_wp2
          go_roundw
          case rel =>
            obtain ⟨hbel, hrow⟩ := H1.out
            rw [treeM_end ws ws.length j (A + 1) (by omega)] at hrow
            exact ⟨j + 1, by omega, by go_num, hbel, hrow⟩
          case measure => simp [intOf]; omega
    · have hjn : j = ws.length := by omega
      rw [hjn, treeM_all] at hrow
      have H1 := Lib.hid (And.intro hbel hrow)
      clear hbel hrow
      have hlt' : ¬ (j : Int) < ws.length := by omega
      clear hjn
      go_wp2
      go_ret
      exact ⟨rfl, H1.out.2, H1.out.1⟩
end Go.Proofs.Ythalameadedbmaa
