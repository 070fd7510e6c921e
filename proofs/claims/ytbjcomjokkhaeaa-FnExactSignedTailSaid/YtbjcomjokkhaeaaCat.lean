/- slices.Concat of two lists of int64, slices.Grow of nil; the model's join. -/
import Derived.Test.YtbjcomjokkhaeaaFn
namespace Go.Proofs.Ytbjcomjokkhaeaa
open Go Go.RowKit
set_option linter.unusedVariables false

/-- append(nil, make([]E, n)...): a row of n zeros of the call's own. -/
theorem run_append_zeros {P : Program} (w : World) (base : Nat) (t ti ty e : TypeId) (i : TypeInfo) (z : Value) (bytes : Nat) (ht : P.underlying t = some (.slice e)) (hti : P.underlying ti = some (.int .i64)) (hi : P.info? e = some i) (hz : i.zero = some z)
    (hsize : i.size = 1) (hby : i.bytes = bytes) (hzs : z.cells.size = 1) (n : Nat) (h0 : 0 < n) (hn : n ≤ 1073741824) (hb : bytes ≤ 64) (hbase : base ≤ w.heap.size) :
    ∃ ao cap w', (Builtin.append_ #[t, ti] ty #[.slice none 0 0, .int .i64 n]).run P w = .ok (.slice ao n cap) w' ∧ w'.ownsRow base e 1 (.slice ao 0 cap) 0 [] ∧ w.grownBy w' none ∧ n ≤ cap ∧ cap ≤ maxLen ∧ ao ≠ none := by
  have hw : IntKind.i64.wrap (n : Int) = n := by rw [IntKind.wrap_i64]; omega
  have hbn : n * bytes ≤ 281474976710656 := by
    have := Nat.mul_le_mul hn hb; omega
  have hbi : ¬ (281474976710656 < (n : Int) * (i.bytes : Int)) := by
    rw [hby]; have : ((n * bytes : Nat) : Int) ≤ 281474976710656 := by omega
    rw [Int.natCast_mul] at this; omega
  have hns : ¬ n = 0 := by omega
  have h63' : ¬ (9223372036854775807 < (n : Int)) := by omega
  have h48' : ¬ (281474976710656 < Builtin.nextslicecap n 0 * i.bytes) := by rw [nextslicecap_zero h0, hby]; omega
  have hn0 : ¬ ((n : Int) < 0) := by omega
  have hge := grownCap_ge w n 0 e
  have hcm : grownCap w n 0 e ≤ maxLen := grownCap_le_maxLen w n 0 e (by unfold maxLen; omega)
  refine ⟨some ⟨w.heap.size, 0, none⟩, grownCap w n 0 e, w.drew.alloc (.cells (Builtin.zeroCells z.cells n ++ Builtin.zeroCells z.cells (grownCap w n 0 e - n)) e), ?_, ?_, ?_, hge, hcm, by simp⟩
  · simp [Builtin.append_, run_underlying ht, run_underlying hti, sizeOf, typeInfo, zeroValue, hi, hz, hsize, hw, hn0, hbi, hns, h63', h48', asInt, asIntOf, Question.forced, Builtin.firstCells, newRow, grownCap]
  · refine ⟨rfl, .inr ⟨w.heap.size, _, _, rfl, hbase, heap_alloc_new w.drew _, by omega, hcm, ?_, by simp⟩⟩
    simp only [Array.size_append, size_zeroCells, hzs]
    omega
  · exact ⟨rfl, rfl, rfl, by simp, fun k hk _ => heap_alloc_old w.drew _ hk⟩
theorem wpList_app_zeros {P : Program} {w : World} {ops : Array Oper} {rest : List Oper} {o : Oper} {a : Act} {Q : Exit → Act → World → Prop} (hgd : o.guard = none) (s x : Operand) (t ti : TypeId)
    (ho : o.op = .call { callee := .builtin .append, args := #[s, x], argTypes := #[t, ti] })
    (base : Nat) (e : TypeId) (z : Value) (bytes : Nat) (ht : P.underlying t = some (.slice e)) (hti : P.underlying ti = some (.int .i64)) (hi : (P.info? e).map (fun i => (i.zero, i.size, i.bytes)) = some (some z, 1, bytes)) (hzs : z.cells.size = 1)
    (n : Nat) (h0 : 0 < n) (hn : n ≤ 1073741824) (hb : bytes ≤ 64) (hbase : base ≤ w.heap.size) (hs : a.eval s = .slice none 0 0) (hx : a.eval x = .int .i64 n)
    (h : ∀ g cap w', w'.ownsRow base e 1 (.slice (some ⟨g, 0, none⟩) 0 cap) 0 [] → w.grownBy w' none → n ≤ cap → wpList P ops Q rest (a.put o.dst (.slice (some ⟨g, 0, none⟩) n cap)) w') : wpList P ops Q (o :: rest) a w := by
  obtain ⟨i, hi, h1, h2, h3⟩ := info_parts hi
  obtain ⟨ao, cap, w', hr, ho2, hg, hc, hm, hao⟩ := run_append_zeros (P := P) w base t ti o.type e i z bytes ht hti hi h1 h2 h3 hzs n h0 hn hb hbase
  have hao2 : ∃ g, ao = some ⟨g, 0, none⟩ := by
    rcases ho2.2 with ⟨h, _⟩ | ⟨g, _, _, h, _⟩
    · cases h; exact absurd rfl hao
    · cases h; exact ⟨g, rfl⟩
  obtain ⟨g, rfl⟩ := hao2
  refine wpList_plain hgd fun _ hK => ?_
  unfold Oper.wp execOp
  simp only [ho, resolve, invoke, builtin, Sem.run_bind, Sem.run_pure, Result.andThen_ok, List.map_toArray, List.map_cons, List.map_nil, hs, hx, hr]
  exact hK _ _ (h g cap w' ho2 hg hc)
/-- A row of the call's own that has room, and nothing in it yet. -/
def Room (n : Nat) (w : World) (e : Ending) (w' : World) : Prop :=
  ∃ g cap, e = .returned (.slice (some ⟨g, 0, none⟩) 0 cap) ∧ w'.ownsRow w.heap.size 2 1 (.slice (some ⟨g, 0, none⟩) 0 cap) 0 [] ∧ w.grownBy w' none ∧ n ≤ cap
theorem grow_some (n : Nat) (h0 : 0 < n) (hn : n ≤ 1073741824) (w : World) : Calls Try.prog 114 #[.slice none 0 0, .int .i64 n] w (Room n w) := by
  have h0' : (0 : Int) < n := by omega
  go_enter Try.func114, Try.ntmps114
  go_wp2_with (at_builtin; refine wpList_app_zeros rfl _ _ 22 3 rfl w.heap.size 2 (.int .i64 0) 8 Try.underlying22 Try.underlying3 (by kernel_rfl) rfl n h0 hn (by omega) (Nat.le_refl _) rfl rfl ?_)
  intro g cap w' hown hgr hcap
  have H := Lib.hid (And.intro hown (And.intro hgr hcap))
  clear hown hgr hcap
  go_wp2
  go_ret
  exact ⟨g, cap, rfl, H.out⟩
theorem holds_news {w : World} {ao : Option Addr} {xs : List Int} {b o : Nat} (h : Holds w ao (il xs)) (e : ao = some ⟨b, o, none⟩) : ∀ j u, (il xs)[j]? = some u → w.cell? ((⟨b, o, none⟩ : Addr).add j) = some u := fun j u hu => by
  have hj : j < (il xs).length := (List.getElem?_eq_some_iff.1 hu).1
  obtain ⟨b', o', e', hc⟩ := h j hj
  rw [e] at e'
  cases e'
  rw [Addr.add_lit, hc]
  simp [List.getD, hu]
theorem il_one (xs : List Int) : ∀ u ∈ il xs, u.oneCell' = true := fun u hu => by
  simp only [il, List.mem_map] at hu
  obtain ⟨x, _, rfl⟩ := hu
  rfl
theorem holds_some {w : World} {ao : Option Addr} {xs : List Int} (h : Holds w ao (il xs)) (hn : 1 ≤ xs.length) : ∃ b o, ao = some ⟨b, o, none⟩ := by
  obtain ⟨b, o, e, _⟩ := h 0 (by simp [il]; omega)
  exact ⟨b, o, e⟩
/-- How many numbers there are behind k of the two lists. -/
def catN (n m : Nat) (k : Nat) : Nat := if k = 0 then 0 else if k = 1 then n else n + m
set_option maxRecDepth 100000 in
set_option maxHeartbeats 1000000 in
theorem concat_two (xs ys : List Int) (n m : Nat) (hn : xs.length = n) (hm : ys.length = m) (ao bo : Option Addr) (ca cb g c : Nat) (T : TypeId) (w : World) (hx : Holds w ao (il xs)) (hy : Holds w bo (il ys)) (hW : Whole w g T #[.slice ao n ca, .slice bo m cb]) (hn1 : 1 ≤ n) (hm1 : 1 ≤ m) (hl : n + m ≤ 1048576) :
    Calls Try.prog 88 #[.slice (some ⟨g, 0, none⟩) 2 c] w (RetL (n + m) (il (xs ++ ys)) (fun s => s) w) := by
  obtain ⟨b1, o1, rfl⟩ := holds_some hx (by omega)
  obtain ⟨b2, o2, rfl⟩ := holds_some hy (by omega)
  have HX := Lib.hid (And.intro hx (And.intro hy (And.intro hW (And.intro hn hm))))
  clear hx hy hW hn hm
  have hc0 := HX.out.2.2.1.cell 0
  have hc1 := HX.out.2.2.1.cell 1
  go_enter Try.func88, Try.ntmps88
  go_wp2_with fail
  go_loop [3, 11] (fun s i => ∃ k : Nat, k ≤ 2 ∧ i = .int .i64 k ∧ s = .int .i64 (catN n m k)) (fun _ i => 2 - (intOf i).toNat)
  case atStart => exact ⟨0, by omega, rfl, rfl⟩
  case round =>
    obtain ⟨k, hk, rfl, rfl⟩ := hrel
    rcases k with _ | _ | _ | k
    · rw [show catN n m 0 = 0 from rfl]
      go_wp2_with fail
      go_round
      case rel => exact ⟨1, by omega, by go_num, by simp [catN]⟩
      case measure => simp [intOf]
    · rw [show catN n m 1 = n from rfl]
      go_wp2_with fail
      go_round
      case rel => exact ⟨2, by omega, by go_num, by simp [catN]⟩
      case measure => simp [intOf]
    · rw [show catN n m 2 = n + m from rfl]
      clear hc0 hc1
      go_wp2_with fail
      refine (grow_some (n + m) (by omega) (by omega) _).mono ?_
      rintro e w1 ⟨g1, cap, rfl, hown, hgr, hcap⟩
      have hb1 : Below w.heap.size w w1 := (Below.refl _ _).grown hgr (Nat.le_refl _) (fun k h => by cases h)
      have hz1 := hb1.size
      have HB := Lib.hid (And.intro hown hb1)
      have hc0 := (HX.out.2.2.1.below hb1).cell 0
      have hc1 := (HX.out.2.2.1.below hb1).cell 1
      clear hown hgr hcap hb1
      clear hc0 hc1
      obtain ⟨i8, hi8, hi1, hi2, hi3⟩ := info_parts (show (Try.prog.info? 2).map (fun i => (i.zero, i.size, i.bytes)) = some (some (.int .i64 0), 1, 8) by kernel_rfl)
      have HI := Lib.hid (And.intro hi8 (And.intro hi1 (And.intro hi2 hi3)))
      clear hi8 hi1 hi2 hi3
      go_wp2_with fail
      go_loopw [6, 27] (fun v i wr => ∃ k : Nat, k ≤ 2 ∧ i = .int .i64 k ∧ wr.ownsRow w.heap.size 2 1 v (catN n m k) (il ((xs ++ ys).take (catN n m k))) ∧ Below w.heap.size w wr) (fun _ i _ => 2 - (intOf i).toNat)
      case atStart => exact ⟨0, by omega, rfl, by rw [show catN n m 0 = 0 from rfl, List.take_zero]; exact HB.out.1, HB.out.2⟩
      case round =>
        obtain ⟨k, hk, rfl, hown, hbel⟩ := hrel
        rcases k with _ | _ | _ | k
        · rw [show catN n m 0 = 0 from rfl] at hown
          have hH := HX.out.1.below hbel
          have hcw := (HX.out.2.2.1.below hbel).cell 0
          have H := Lib.hid (And.intro hown (And.intro hH hbel))
          have hzr := hbel.size
          clear hown hH hbel
          go_wp2_with (at_builtin; refine wpList_append_own _ rfl _ _ 22 rfl w.heap.size 2 i8 (.int .i64 0) 1 8 Try.underlying22 HI.out.1 HI.out.2.1 HI.out.2.2.1 HI.out.2.2.2 rfl (by decide) _ 0 _ rfl H.out.1 ⟨b1, o1, none⟩ n _ (il xs) rfl (by rw [il_len]; have := HX.out.2.2.2; omega) (holds_news H.out.2.1 rfl) (il_one _) (by unfold maxLen; omega) (by omega) (by omega) ?_)
          intro v' w' hown' hgr' _
          have H2 : Hid (w'.ownsRow w.heap.size 2 1 v' (catN n m 1) (il ((xs ++ ys).take (catN n m 1))) ∧ Below w.heap.size w w') := Lib.hid ⟨by
            rw [show catN n m 1 = n from rfl]
            rw [List.take_left' HX.out.2.2.2.1]; simpa [il] using hown', H.out.2.2.grown hgr' hzr (own_ge H.out.1)⟩
          clear hown' hgr' H hcw hzr
          go_wp2_with fail
          go_roundw
          case rel => exact ⟨1, by omega, by go_num, H2.out⟩
          case measure => simp [intOf]
        · rw [show catN n m 1 = n from rfl] at hown
          have hH := HX.out.2.1.below hbel
          have hcw := (HX.out.2.2.1.below hbel).cell 1
          have H := Lib.hid (And.intro hown (And.intro hH hbel))
          have hzr := hbel.size
          clear hown hH hbel
          go_wp2_with (at_builtin; refine wpList_append_own _ rfl _ _ 22 rfl w.heap.size 2 i8 (.int .i64 0) 1 8 Try.underlying22 HI.out.1 HI.out.2.1 HI.out.2.2.1 HI.out.2.2.2 rfl (by decide) _ n _ rfl H.out.1 ⟨b2, o2, none⟩ m _ (il ys) rfl (by rw [il_len]; have := HX.out.2.2.2; omega) (holds_news H.out.2.1 rfl) (il_one _) (by unfold maxLen; omega) (by omega) (by omega) ?_)
          intro v' w' hown' hgr' _
          have H2 : Hid (w'.ownsRow w.heap.size 2 1 v' (catN n m 2) (il ((xs ++ ys).take (catN n m 2))) ∧ Below w.heap.size w w') := Lib.hid ⟨by
            rw [show catN n m 2 = n + m from rfl]
            rw [List.take_of_length_le (by simp; have := HX.out.2.2.2; omega), il, List.map_append]; rw [List.take_left' HX.out.2.2.2.1] at hown'; exact hown', H.out.2.2.grown hgr' hzr (own_ge H.out.1)⟩
          clear hown' hgr' H hcw hzr
          go_wp2_with fail
          go_roundw
          case rel => exact ⟨2, by omega, by go_num, H2.out⟩
          case measure => simp [intOf]
        · rw [show catN n m 2 = n + m from rfl, List.take_of_length_le (by simp; have := HX.out.2.2.2; omega)] at hown
          obtain ⟨ao2, c2, rfl⟩ := own_form hown
          have H3 := Lib.hid (And.intro (Row.of_own hown) hbel)
          clear hown hbel
          go_wp2_with fail
          go_ret
          exact ⟨_, _, rfl, H3.out⟩
        · omega
    · omega
/-- The sum of the first k numbers. -/
def sumK (xs : List Int) : Nat → Int
  | 0 => 0
  | k + 1 => sumK xs k + xs[k]?.getD 0
theorem sumK_take (xs : List Int) (n k : Nat) (h : k ≤ n) : sumK (xs.take n) k = sumK xs k := by
  induction k with
  | zero => rfl
  | succ k ih =>
    show sumK (xs.take n) k + _ = sumK xs k + _
    rw [ih (by omega), List.getElem?_take_of_lt (by omega)]
/-- All numbers lie between -b and b. -/
def absLe (b : Nat) (xs : List Int) : Prop := ∀ i : Nat, -(b : Int) ≤ xs[i]?.getD 0 ∧ xs[i]?.getD 0 ≤ b
theorem sumK_le {b : Nat} {xs : List Int} (h : absLe b xs) (k : Nat) : -((b * k : Nat) : Int) ≤ sumK xs k ∧ sumK xs k ≤ ((b * k : Nat) : Int) := by
  induction k with
  | zero => simp [sumK]
  | succ k ih =>
    have h1 := h k
    show _ ≤ sumK xs k + _ ∧ sumK xs k + _ ≤ _
    rw [Nat.mul_succ]
    omega
theorem sumOf_any (xs : List Int) (b n : Nat) (hn : xs.length = n) (ao : Option Addr) (c : Nat) (w : World) (hx : Holds w ao (il xs)) (hb : absLe b xs) (hl : b * n ≤ 1152921504606846976) (hl2 : n ≤ 1048576) :
    Calls Try.prog 50 #[.slice ao n c] w (fun e w' => e = .returned (.int .i64 (sumK xs n)) ∧ w = w') := by
  have HX := Lib.hid (And.intro hx hn)
  have HS := Lib.hid (fun k => sumK_le hb k)
  have HB := Lib.hid hb
  clear hx hb hn
  go_enter Try.func50, Try.ntmps50
  go_wp2
  go_loop [3, 8] (fun s i => ∃ k : Nat, k ≤ n ∧ i = .int .i64 k ∧ s = .int .i64 (sumK xs k)) (fun _ i => n - (intOf i).toNat)
  case atStart => exact ⟨0, Nat.zero_le _, rfl, rfl⟩
  case round =>
    obtain ⟨k, hk, rfl, rfl⟩ := hrel
    by_cases hlt : k < n
    · obtain ⟨b', o, rfl, hc⟩ := HX.out.1 k (by rw [il_len]; have := HX.out.2; omega)
      rw [il_get _ _ (by have := HX.out.2; omega)] at hc
      have hlt' : (k : Int) < n := by omega
      have h1 := HS.out k
      have h2 := HS.out (k + 1)
      have hm1 : b * k ≤ b * n := Nat.mul_le_mul_left _ (by omega)
      have hm2 : b * (k + 1) ≤ b * n := Nat.mul_le_mul_left _ (by omega)
      rw [show sumK xs (k + 1) = sumK xs k + xs[k]?.getD 0 from rfl] at h2
      have HE := Lib.hid (show sumK xs (k + 1) = sumK xs k + xs[k]?.getD 0 from rfl)
      generalize xs[k]?.getD 0 = x at hc h2 HE
      generalize hs : sumK xs k = s at h1 h2 HE ⊢
      have b1 : -1152921504606846976 ≤ s ∧ s ≤ 1152921504606846976 := by omega
      have b2 : -1152921504606846976 ≤ s + x ∧ s + x ≤ 1152921504606846976 := by omega
      clear hs h1 h2 hm1 hm2
      obtain ⟨b1, b1'⟩ := b1
      obtain ⟨b2, b2'⟩ := b2
      go_wp2
      go_round
      case rel => exact ⟨k + 1, by omega, by go_num, by rw [HE.out]⟩
      case measure => simp [intOf]; omega
    · have e : k = n := by omega
      subst e
      go_wp2
      go_ret
      exact ⟨rfl, rfl⟩
theorem l06First_any (xs : List Int) (b n : Nat) (hn : n ≤ xs.length) (ao : Option Addr) (l c : Nat) (hll : l = xs.length) (w : World) (hx : Holds w ao (il xs)) (hb : absLe b xs) (hl : b * n ≤ 1152921504606846976) (hl2 : l ≤ 1048576) :
    Calls Try.prog 40 #[.slice ao l c, .int .i64 n] w (fun e w' => e = .returned (.int .i64 (sumK xs n)) ∧ w = w') := by
  have HX := Lib.hid (And.intro hx (And.intro hn hll))
  have HS := Lib.hid (fun k => sumK_le hb k)
  have hnl : n ≤ l := by omega
  have HB := Lib.hid hb
  clear hx hb hn hll
  go_enter Try.func40, Try.ntmps40
  go_wp2
  go_loop [5, 6] (fun s i => ∃ k : Nat, k ≤ n ∧ i = .int .i64 k ∧ s = .int .i64 (sumK xs k)) (fun _ i => n - (intOf i).toNat)
  case atStart => exact ⟨0, Nat.zero_le _, rfl, rfl⟩
  case round =>
    obtain ⟨k, hk, rfl, rfl⟩ := hrel
    by_cases hlt : k < n
    · obtain ⟨b', o, rfl, hc⟩ := HX.out.1 k (by rw [il_len]; have := HX.out.2; omega)
      rw [il_get _ _ (by have := HX.out.2; omega)] at hc
      have hlt' : (k : Int) < n := by omega
      have h1 := HS.out k
      have h2 := HS.out (k + 1)
      have hm1 : b * k ≤ b * n := Nat.mul_le_mul_left _ (by omega)
      have hm2 : b * (k + 1) ≤ b * n := Nat.mul_le_mul_left _ (by omega)
      rw [show sumK xs (k + 1) = sumK xs k + xs[k]?.getD 0 from rfl] at h2
      have HE := Lib.hid (show sumK xs (k + 1) = sumK xs k + xs[k]?.getD 0 from rfl)
      generalize xs[k]?.getD 0 = x at hc h2 HE
      generalize hs : sumK xs k = s at h1 h2 HE ⊢
      have b1 : -1152921504606846976 ≤ s ∧ s ≤ 1152921504606846976 := by omega
      have b2 : -1152921504606846976 ≤ s + x ∧ s + x ≤ 1152921504606846976 := by omega
      clear hs h1 h2 hm1 hm2
      obtain ⟨b1, b1'⟩ := b1
      obtain ⟨b2, b2'⟩ := b2
      go_wp2
      go_round
      case rel => exact ⟨k + 1, by omega, by go_num, by rw [HE.out]⟩
      case measure => simp [intOf]; omega
    · have e : k = n := by omega
      subst e
      go_wp2
      go_ret
      exact ⟨rfl, rfl⟩
end Go.Proofs.Ytbjcomjokkhaeaa
