/- slices.Concat of two lists of int64, slices.Grow of nil; the model's join. -/
import Derived.Test.YtfgkimhcbboipaaDoorFn
namespace Go.Proofs.YtfgkimhcbboipaaDoor
open Go Go.RowKit
set_option linter.unusedVariables false

/-- append(nil, make([]E, n)...): a row of n zeros of the call's own. -/
theorem run_append_zeros {P : Program} (w : World) (base : Nat) (t ti ty e : TypeId) (i : TypeInfo) (z : Value) (bytes : Nat) (ht : P.underlying t = some (.slice e)) (hti : P.underlying ti = some (.int .i64)) (hi : P.info? e = some i) (hz : i.zero = some z)
    (hsize : i.size = 1) (hby : i.bytes = bytes) (hzs : z.cells.size = 1) (n : Nat) (h0 : 0 < n) (hn : n ≤ 1073741824) (hb : bytes ≤ 64) (hbase : base ≤ w.heap.size) :
    ∃ ao cap w', (Builtin.append_ #[t, ti] ty #[.slice none 0 0, .int .i64 n]).run P w = .ok (.slice ao n cap) w' ∧ w'.ownsRow base e 1 (.slice ao 0 cap) 0 [] ∧ w.grownBy w' none ∧ n ≤ cap ∧ cap ≤ maxLen ∧ ao ≠ none := by
  have hw : IntKind.i64.wrap (n : Int) = n := by rw [IntKind.wrap_i64]; omega
  have hbn : n * bytes ≤ 281474976710656 := by
    have := Nat.mul_le_mul hn hb; omega
  have hbi : ¬ (281474976710656 < (n : Int) * (i.bytes : Int)) := by
    rw [hby]; have : ((n * bytes : Nat) : Int) ≤ 281474976710656 := by omega
    rw [Int.natCast_mul] at this; omega
  have hns : ¬ n = 0 := by omega
  have h63' : ¬ (9223372036854775807 < (n : Int)) := by omega
  have h48' : ¬ (281474976710656 < Builtin.nextslicecap n 0 * i.bytes) := by rw [nextslicecap_zero h0, hby]; omega
  have hn0 : ¬ ((n : Int) < 0) := by omega
  have hge := grownCap_ge w n 0 e
  have hcm : grownCap w n 0 e ≤ maxLen := grownCap_le_maxLen w n 0 e (by unfold maxLen; omega)
  refine ⟨some ⟨w.heap.size, 0, none⟩, grownCap w n 0 e, w.drew.alloc (.cells (Builtin.zeroCells z.cells n ++ Builtin.zeroCells z.cells (grownCap w n 0 e - n)) e), ?_, ?_, ?_, hge, hcm, by simp⟩
  · simp [Builtin.append_, run_underlying ht, run_underlying hti, sizeOf, typeInfo, zeroValue, hi, hz, hsize, hw, hn0, hbi, hns, h63', h48', asInt, asIntOf, Question.forced, Builtin.firstCells, newRow, grownCap]
  · refine ⟨rfl, .inr ⟨w.heap.size, _, _, rfl, hbase, heap_alloc_new w.drew _, by omega, hcm, ?_, by simp⟩⟩
    simp only [Array.size_append, size_zeroCells, hzs]
    omega
  · exact ⟨rfl, rfl, rfl, by simp, fun k hk _ => heap_alloc_old w.drew _ hk⟩
theorem wpList_app_zeros {P : Program} {w : World} {ops : Array Oper} {rest : List Oper} {o : Oper} {a : Act} {Q : Exit → Act → World → Prop} (hgd : o.guard = none) (s x : Operand) (t ti : TypeId)
    (ho : o.op = .call { callee := .builtin .append, args := #[s, x], argTypes := #[t, ti] })
    (base : Nat) (e : TypeId) (z : Value) (bytes : Nat) (ht : P.underlying t = some (.slice e)) (hti : P.underlying ti = some (.int .i64)) (hi : (P.info? e).map (fun i => (i.zero, i.size, i.bytes)) = some (some z, 1, bytes)) (hzs : z.cells.size = 1)
    (n : Nat) (h0 : 0 < n) (hn : n ≤ 1073741824) (hb : bytes ≤ 64) (hbase : base ≤ w.heap.size) (hs : a.eval s = .slice none 0 0) (hx : a.eval x = .int .i64 n)
    (h : ∀ g cap w', w'.ownsRow base e 1 (.slice (some ⟨g, 0, none⟩) 0 cap) 0 [] → w.grownBy w' none → n ≤ cap → wpList P ops Q rest (a.put o.dst (.slice (some ⟨g, 0, none⟩) n cap)) w') : wpList P ops Q (o :: rest) a w := by
  obtain ⟨i, hi, h1, h2, h3⟩ := info_parts hi
  obtain ⟨ao, cap, w', hr, ho2, hg, hc, hm, hao⟩ := run_append_zeros (P := P) w base t ti o.type e i z bytes ht hti hi h1 h2 h3 hzs n h0 hn hb hbase
  have hao2 : ∃ g, ao = some ⟨g, 0, none⟩ := by
    rcases ho2.2 with ⟨h, _⟩ | ⟨g, _, _, h, _⟩
    · cases h; exact absurd rfl hao
    · cases h; exact ⟨g, rfl⟩
  obtain ⟨g, rfl⟩ := hao2
  refine wpList_plain hgd fun _ hK => ?_
  unfold Oper.wp execOp
  simp only [ho, resolve, invoke, builtin, Sem.run_bind, Sem.run_pure, Result.andThen_ok, List.map_toArray, List.map_cons, List.map_nil, hs, hx, hr]
  exact hK _ _ (h g cap w' ho2 hg hc)
/-- The sum of the first k numbers. -/
def sumK (xs : List Int) : Nat → Int
  | 0 => 0
  | k + 1 => sumK xs k + xs[k]?.getD 0
theorem sumK_take (xs : List Int) (n k : Nat) (h : k ≤ n) : sumK (xs.take n) k = sumK xs k := by
  induction k with
  | zero => rfl
  | succ k ih =>
    show sumK (xs.take n) k + _ = sumK xs k + _
    rw [ih (by omega), List.getElem?_take_of_lt (by omega)]
/-- All numbers lie between -b and b. -/
def absLe (b : Nat) (xs : List Int) : Prop := ∀ i : Nat, -(b : Int) ≤ xs[i]?.getD 0 ∧ xs[i]?.getD 0 ≤ b
theorem sumK_le {b : Nat} {xs : List Int} (h : absLe b xs) (k : Nat) : -((b * k : Nat) : Int) ≤ sumK xs k ∧ sumK xs k ≤ ((b * k : Nat) : Int) := by
  induction k with
  | zero => simp [sumK]
  | succ k ih =>
    have h1 := h k
    show _ ≤ sumK xs k + _ ∧ sumK xs k + _ ≤ _
    rw [Nat.mul_succ]
    omega
theorem sumOf_any (xs : List Int) (b n : Nat) (hn : xs.length = n) (ao : Option Addr) (c : Nat) (w : World) (hx : Holds w ao (il xs)) (hb : absLe b xs) (hl : b * n ≤ 1152921504606846976) (hl2 : n ≤ 1048576) :
    Calls Tryd.prog 124 #[.slice ao n c] w (fun e w' => e = .returned (.int .i64 (sumK xs n)) ∧ w = w') := by
  have HX := Lib.hid (And.intro hx hn)
  have HS := Lib.hid (fun k => sumK_le hb k)
  have HB := Lib.hid hb
  clear hx hb hn
  go_enter Tryd.func124, Tryd.ntmps124
  go_wp2
  go_loop [3, 8] (fun s i => ∃ k : Nat, k ≤ n ∧ i = .int .i64 k ∧ s = .int .i64 (sumK xs k)) (fun _ i => n - (intOf i).toNat)
  case atStart => exact ⟨0, Nat.zero_le _, rfl, rfl⟩
  case round =>
    obtain ⟨k, hk, rfl, rfl⟩ := hrel
    by_cases hlt : k < n
    · obtain ⟨b', o, rfl, hc⟩ := HX.out.1 k (by rw [il_len]; have := HX.out.2; omega)
      rw [il_get _ _ (by have := HX.out.2; omega)] at hc
      have hlt' : (k : Int) < n := by omega
      have h1 := HS.out k
      have h2 := HS.out (k + 1)
      have hm1 : b * k ≤ b * n := Nat.mul_le_mul_left _ (by omega)
      have hm2 : b * (k + 1) ≤ b * n := Nat.mul_le_mul_left _ (by omega)
      rw [show sumK xs (k + 1) = sumK xs k + xs[k]?.getD 0 from rfl] at h2
      have HE := Lib.hid (show sumK xs (k + 1) = sumK xs k + xs[k]?.getD 0 from rfl)
      generalize xs[k]?.getD 0 = x at hc h2 HE
      generalize hs : sumK xs k = s at h1 h2 HE ⊢
      have b1 : -1152921504606846976 ≤ s ∧ s ≤ 1152921504606846976 := by omega
      have b2 : -1152921504606846976 ≤ s + x ∧ s + x ≤ 1152921504606846976 := by omega
      clear hs h1 h2 hm1 hm2
      obtain ⟨b1, b1'⟩ := b1
      obtain ⟨b2, b2'⟩ := b2
      go_wp2
      go_round
      case rel => exact ⟨k + 1, by omega, by go_num, by rw [HE.out]⟩
      case measure => simp [intOf]; omega
    · have e : k = n := by omega
      subst e
      go_wp2
      go_ret
      exact ⟨rfl, rfl⟩
end Go.Proofs.YtfgkimhcbboipaaDoor
