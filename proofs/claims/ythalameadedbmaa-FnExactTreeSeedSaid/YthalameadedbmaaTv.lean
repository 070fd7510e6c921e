/- Trees of sums: the weights of a tree (weightsOfTree). -/
import Derived.Laws.CopyOwn
import Derived.Test.YthalameadedbmaaTu
namespace Go.Proofs.Ythalameadedbmaa
open Go Go.RowKit
set_option linter.unusedVariables false

theorem and_neg (i : Nat) (h : i ≤ 1048577) : ∃ D : Nat, D ≤ i ∧ bits .and .i64 (i : Int) (-(i : Int)) = (D : Int) := by
  refine ⟨(BitVec.ofInt 64 (i : Int) &&& BitVec.ofInt 64 (-(i : Int))).toNat, ?_, ?_⟩
  · rw [BitVec.toNat_and]
    refine Nat.le_trans Nat.and_le_left ?_
    simp
    omega
  · have hle : (BitVec.ofInt 64 (i : Int) &&& BitVec.ofInt 64 (-(i : Int))).toNat ≤ i := by
      rw [BitVec.toNat_and]
      refine Nat.le_trans Nat.and_le_left ?_
      simp
      omega
    show IntKind.i64.wrap (((BitVec.ofInt 64 (i : Int) &&& BitVec.ofInt 64 (-(i : Int))).toNat : Nat) : Int) = _
    rw [wrap_small (by omega) (by omega)]
theorem lastDigit_far (i : Nat) (h1 : 1 ≤ i) (h2 : i ≤ 1048577) : ∃ D : Nat, D ≤ i ∧ (i ≤ 64 → D = lowN i) ∧ ∀ w : World, Calls Try.prog 58 #[.int .i64 i] w (fun e w' => e = .returned (.int .i64 D) ∧ w = w') := by
  by_cases h : i ≤ 64
  · exact ⟨lowN i, low_le i h1 h, fun _ => rfl, lastDigit_any i h1 h⟩
  · obtain ⟨D, hD, hb⟩ := and_neg i h2
    refine ⟨D, hD, fun h' => absurd h' h, fun w => ?_⟩
    have hi1 : (1 : Int) ≤ i := by omega
    have hi2 : (i : Int) ≤ 1048577 := by omega
    go_enter Try.func58, Try.ntmps58
    go_wp2
    go_ret
    exact ⟨rfl, rfl⟩
/-- The weights that are found, in a new row, or none. -/
def WeightsP (ts : List Int) (w : World) (e : Ending) (w' : World) : Prop :=
  (isLeafs (ledW ts) ∧ e = .returned (.tuple #[.slice (some ⟨w.heap.size, 0, none⟩) ts.length ts.length, .bool true]) ∧ RowAt w' w.heap.size 2 (ledW ts) ∧ Below w.heap.size w w')
  ∨ (¬ isLeafs (ledW ts) ∧ RetB (.tuple #[.slice none 0 0, .bool false]) w e w')
set_option maxRecDepth 100000 in
set_option maxHeartbeats 4000000 in
theorem weightsOf_any (ts : List Int) (ao : Option Addr) (c : Nat) (w : World) (hx : Holds w ao (il ts)) (hl : ts.length ≤ 1048576) (hr : ∀ x ∈ ts, -9223372036854775808 ≤ x ∧ x ≤ 9223372036854775807) :
    Calls Try.prog 57 #[.slice ao ts.length c] w (WeightsP ts w) := by
  have HX := Lib.hid hx
  have HR := Lib.hid hr
  have hl' : (ts.length : Int) ≤ 1048576 := by omega
  have hmk : ∀ w : World, (Instr.makeSlice 22 (.int .i64 (ts.length : Int)) (.int .i64 (ts.length : Int))).run Try.prog w = .ok (.slice (some ⟨w.heap.size, 0, none⟩) ts.length ts.length) (w.alloc (.cells (Array.replicate ts.length (.int .i64 0)) 2)) := fun w => run_mk16 w 22 2 ts.length (by omega) Try.underlying22 (by kernel_rfl)
  clear hx hr
  go_enter Try.func57, Try.ntmps57
  go_wp2_with (with_reducible refine wpList_copy_splice (o := ⟨some 12, _, _, _, _, _⟩) rfl _ _ _ _ rfl 2 Try.underlying22 (by kernel_rfl) _ _ _ _ _ _ rfl rfl w.heap.size 0 (List.replicate ts.length (.int .i64 0)) 2 ?_ (il ts) ?_ ?_ ?_ ?_ w.heap.size w ?_ (Nat.le_refl _) ?_)
  · have := Whole.made w 2 (Array.replicate ts.length (.int .i64 0))
    unfold Whole at this
    rw [this]; simp
  · rw [il_len]; simp
  · intro hpos
    obtain ⟨b, o, hao, _⟩ := HX.out 0 hpos
    refine ⟨⟨b, o, none⟩, hao, fun j v hj => ?_⟩
    have hjl : j < (il ts).length := (List.getElem?_eq_some_iff.1 hj).1
    obtain ⟨b', o', hao', hc⟩ := ((HX.out).below ((Below.refl _ _).alloc (Nat.le_refl _) (.cells (Array.replicate ts.length (.int .i64 0)) 2))) j hjl
    rw [hao] at hao'
    cases hao'
    have : (⟨b, o, none⟩ : Addr).add j = ⟨b, o + j, none⟩ := by unfold Addr.add; split <;> simp_all
    rw [this, hc, List.getD_eq_getElem?_getD, hj]; rfl
  · rw [il_len]; simp
  · intro v hv
    obtain ⟨x, _, rfl⟩ := List.mem_map.1 hv
    rfl
  · exact (Below.refl _ _).alloc (Nat.le_refl _) _
  · intro w1 hw1 hb1
    have hrow1 : RowAt w1 w.heap.size 2 ts := by
      have h := hw1.out
      have e : splice (List.replicate ts.length (Value.int .i64 0)) 0 (il ts) = il ts := by
        unfold splice
        rw [List.take_zero, List.nil_append, List.drop_of_length_le (by simp [il_len]), List.append_nil]
      rw [e] at h
      exact Whole.rowAt h
    have H0 := Lib.hid (And.intro hb1 hrow1)
    clear hw1 hb1 hrow1 hmk
    go_wp2
    go_loopw [5] (fun i wr => ∃ (k : Nat) (cs : List Int), k ≤ ts.length ∧ cs.length = ts.length ∧ i = .int .i64 (k : Int) ∧ (ts.length ≤ 64 → cs = ledM ts k) ∧ Below w.heap.size w wr ∧ RowAt wr w.heap.size 2 cs) (fun i _ => (intOf i).toNat)
    case atStart => exact ⟨ts.length, ts, Nat.le_refl _, rfl, rfl, fun _ => (ledM_start ts HR.out).symm, H0.out.1, H0.out.2⟩
    case round =>
      clear H0
      rename World => wo
      obtain ⟨k, cs, hk, hcl, rfl, hcs, hbel, hrow⟩ := hrel
      have HC : Hid (cs.length = ts.length) := Lib.hid hcl
      by_cases hpos : 1 ≤ k
      · obtain ⟨i, rfl⟩ : ∃ i, k = i + 1 := ⟨k - 1, by omega⟩
        obtain ⟨D, hD1, hD2, hcall⟩ := lastDigit_far (i + 1) (by omega) (by omega)
        have HLOW := Lib.hid hcall
        have HM := Lib.hid (And.intro hcs hD2)
        clear hcall hcs hD2 hpos
        by_cases hab : i + 1 + D ≤ ts.length
        · have hab' : (i : Int) + 1 + D ≤ ts.length := by omega
          have hc1 := hrow.cell (i + D) (by rw [hcl]; omega)
          have hc2 := hrow.cell i (by rw [hcl]; omega)
          have hfz := hrow.frozen (i + D)
          have hzq := hrow.lt
          have H1 := Lib.hid (And.intro hbel hrow)
          obtain ⟨x, hx⟩ : ∃ x, x = cs[i + D]?.getD 0 := ⟨_, rfl⟩
          obtain ⟨y, hy⟩ : ∃ y, y = cs[i]?.getD 0 := ⟨_, rfl⟩
          rw [← hx] at hc1
          rw [← hy] at hc2
          have HXY := Lib.hid (And.intro hx hy)
          clear hbel hrow hcl hx hy
          go_wp2_with fail
          have hcall := HLOW.out wo
          refine hcall.mono ?_
          rintro e w3 ⟨rfl, rfl⟩
          clear hcall
          go_wp2
          go_region
          go_wp2
          go_roundw
          case rel =>
            refine ⟨i, cs.set (i + D) (wrap64 (x - y)), by omega, by rw [List.length_set]; exact HC.out, by go_num, fun h => ?_, (H1.out.1.setCell (p := ⟨w.heap.size, i + D, none⟩) (Nat.le_refl _) _).drew, (H1.out.2.put (i + D) _).drew⟩
            have e1 := HM.out.1 h
            have e2 := HM.out.2 (by omega)
            have e3 := ledM_next_in ts HR.out i (by omega) (by omega)
            rw [← e2, show i + 1 + D - 1 = i + D by omega] at e3
            have e4 : wrap64 (x - y) = IntKind.i64.wrap (x - y) := (IntWalk.i64_left _).symm
            rw [e4, HXY.out.1, HXY.out.2, e1]
            exact e3
          case measure => first | (simp [intOf]; done) | (simp [intOf]; omega)
        · have hab' : ¬ (i : Int) + 1 + D ≤ ts.length := by omega
          have H1 := Lib.hid (And.intro hbel hrow)
          clear hbel hrow hcl
          go_wp2_with fail
          have hcall := HLOW.out wo
          refine hcall.mono ?_
          rintro e w3 ⟨rfl, rfl⟩
          clear hcall
          go_wp2
          go_roundw
          case rel =>
            refine ⟨i, cs, by omega, HC.out, by go_num, fun h => ?_, H1.out⟩
            rw [HM.out.1 h]
            exact ledM_next_out ts i (by have := HM.out.2 (by omega); omega)
          case measure => first | (simp [intOf]; done) | (simp [intOf]; omega)
      · obtain rfl : k = 0 := by omega
        have H1 := Lib.hid (And.intro hbel (And.intro hrow hcs))
        have hH : Holds wo (some ⟨w.heap.size, 0, none⟩) (il cs) := (hrow.row (lo := w.heap.size) (hi := wo.heap.size) (Nat.le_refl _) hrow.lt).holds
        have HA := Lib.hid (areTree_any cs _ ts.length _ hH (by omega))
        clear hbel hrow hcs hH
        rw [hcl] at HA
        go_wp2_with fail
        have hcall := HA.out
        refine hcall.mono ?_
        rintro e w3 ⟨rfl, rfl⟩
        clear hcall
        cases hb : leafsB cs with
        | true =>
          have h64 : ts.length ≤ 64 := by rw [← hcl]; exact ((leafsB_iff cs).1 hb).2.1
          have he : cs = ledW ts := by rw [H1.out.2.2 h64, ledM_end]
          have HE := Lib.hid (And.intro he ((leafsB_iff cs).1 hb))
          clear he hb
          go_wp2
          go_ret2
          have hh := HE.out.2
          have hrr := H1.out.2.1
          rw [HE.out.1] at hh hrr
          exact .inl ⟨hh, rfl, hrr, H1.out.1⟩
        | false =>
          have HN : Hid (¬ isLeafs (ledW ts)) := Lib.hid (fun h => by
            have h64 : ts.length ≤ 64 := by have := h.2.1; simpa [ledW] using this
            have he : cs = ledW ts := by rw [H1.out.2.2 h64, ledM_end]
            rw [← he, ← leafsB_iff, hb] at h
            cases h)
          clear hb
          go_wp2
          go_ret2
          exact .inr ⟨HN.out, rfl, H1.out.1⟩
end Go.Proofs.Ythalameadedbmaa
