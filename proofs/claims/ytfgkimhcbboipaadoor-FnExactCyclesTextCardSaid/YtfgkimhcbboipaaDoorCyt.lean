/- Texts of orders, by their cycles: both sides. -/
import Derived.Test.YtfgkimhcbboipaaDoorLtx
import Derived.Test.YtfgkimhcbboipaaDoorCy
namespace Go.Proofs.YtfgkimhcbboipaaDoor
open Go Go.RowKit
set_option linter.unusedVariables false
/-! ### What the cycles hold -/
theorem cycF_mem (xs : List Int) (s : Nat → Bool) (a : Nat) (c : List Int) : ∀ x ∈ (cycF xs s a c).2, x ∈ c ∨ (0 ≤ x ∧ x < xs.length) := by
  fun_induction cycF xs s a c with
  | case1 s a c h ih =>
    intro x hx
    rcases ih x hx with h1 | h1
    · rcases List.mem_append.1 h1 with h2 | h2
      · exact .inl h2
      · have := List.mem_singleton.1 h2
        subst this
        exact .inr ⟨by omega, by omega⟩
    · exact .inr h1
  | case2 s a c h => exact fun x hx => .inl hx
theorem outK_mem (xs : List Int) : ∀ i, ∀ c ∈ (outK xs i).2, ∀ x ∈ c, 0 ≤ x ∧ x < xs.length
  | 0 => fun c hc => by cases hc
  | i + 1 => fun c hc x hx => by
    have hc' : c ∈ (if (cycF xs (outK xs i).1 i []).2.length = 0 then (outK xs i).2 else (outK xs i).2 ++ [(cycF xs (outK xs i).1 i []).2]) := hc
    split at hc'
    · exact outK_mem xs i c hc' x hx
    · rcases List.mem_append.1 hc' with h | h
      · exact outK_mem xs i c h x hx
      · have := List.mem_singleton.1 h
        subst this
        rcases cycF_mem xs _ _ _ x hx with h1 | h1
        · cases h1
        · exact h1
theorem nthL_mem {css : List (List Int)} {i : Nat} (h : i < css.length) : nthL css i ∈ css := by
  unfold nthL
  rw [List.getElem?_eq_getElem h]
  exact List.getElem_mem h
theorem cyc_tot {xs : List Int} (h : isOrd xs) : (cycL xs).length ≤ 64 ∧ totL (cycL xs) ≤ 64 := by
  have h1 := outK_inv xs xs.length
  have h2 := h.1.2
  unfold cycL
  omega
theorem cyc_ok {xs : List Int} (h : isOrd xs) {i : Nat} (hi : i < (cycL xs).length) : okI (nthL (cycL xs) i) ∧ in64 (nthL (cycL xs) i) := by
  have h1 := cyc_tot h
  have h2 := len_le_tot (cycL xs) i hi
  have h3 := h.1.2
  have h4 : ∀ x ∈ nthL (cycL xs) i, 0 ≤ x ∧ x < xs.length := outK_mem xs xs.length _ (nthL_mem hi)
  refine ⟨⟨by omega, fun j hj => ?_⟩, fun x hx => ?_⟩
  · rw [List.getElem?_eq_getElem hj]
    have := h4 _ (List.getElem_mem hj)
    show -1000000000000000 ≤ (nthL (cycL xs) i)[j] ∧ (nthL (cycL xs) i)[j] ≤ 1000000000000000
    omega
  · have := h4 x hx
    omega
/-! ### Texts with slashes between -/
def jc (css : List (List Int)) : Nat → List UInt8
  | 0 => []
  | k + 1 => (if k = 0 then [] else jc css k ++ [47]) ++ txtL (nthL css k)
theorem jc_next (css : List (List Int)) (k : Nat) (h : k ≠ 0) : jc css (k + 1) = (jc css k ++ [47]) ++ txtL (nthL css k) := by
  show (if k = 0 then [] else _) ++ _ = _
  rw [if_neg h]
theorem jc_take (css : List (List Int)) : ∀ k, k + 1 ≤ css.length → jc css (k + 1) = Lib.join ((css.take (k + 1)).map txtL) [47]
  | 0, h => by
    cases css with
    | nil => simp at h
    | cons x r => simp [jc, nthL, Lib.join_one]
  | k + 1, h => by
    have e : css.take (k + 1 + 1) = css.take (k + 1) ++ [nthL css (k + 1)] := by
      unfold nthL
      rw [List.take_add_one, List.getElem?_eq_getElem (by omega)]; rfl
    have hne : (css.take (k + 1)).map txtL ≠ [] := List.ne_nil_of_length_pos (by rw [List.length_map, List.length_take]; omega)
    rw [e, List.map_append, List.map_cons, List.map_nil, join_snoc _ _ _ hne, ← jc_take css k (by omega), jc_next _ _ (by omega)]
theorem jc_all (css : List (List Int)) : jc css css.length = Lib.join (css.map txtL) [47] := by
  cases css with
  | nil => rfl
  | cons x r =>
    have := jc_take (x :: r) r.length (by simp)
    rw [show (x :: r).length = r.length + 1 by simp, this]
    rw [List.take_of_length_le (by simp)]
theorem txtL_len {xs : List Int} (h : in64 xs) (hl : xs.length ≤ 64) : (txtL xs).length ≤ 1408 := by
  unfold txtL
  split
  · decide
  · have := jn_len h xs.length; omega
theorem jc_len {xs : List Int} (h : isOrd xs) : ∀ k, k ≤ (cycL xs).length → (jc (cycL xs) k).length ≤ 1409 * k
  | 0, _ => Nat.zero_le _
  | k + 1, hk => by
    have h1 := jc_len h k (by omega)
    have h2 := cyc_ok h (i := k) (by omega)
    have h3 := txtL_len h2.2 h2.1.1
    show ((if k = 0 then [] else jc (cycL xs) k ++ [47]) ++ txtL (nthL (cycL xs) k)).length ≤ _
    rw [List.length_append]
    split <;> simp <;> omega
/-- The text of an order. -/
def txtC (xs : List Int) : List UInt8 := jc (cycL xs) (cycL xs).length
theorem strs_snoc2 (css : List (List Int)) (k : Nat) (h : k < css.length) : strs ((css.take (k + 1)).map txtL) = strs ((css.take k).map txtL) ++ [.string ⟨(txtL (nthL css k)).toArray⟩] := by
  unfold nthL
  rw [List.take_add_one, List.getElem?_eq_getElem h, List.map_append]
  unfold strs
  rw [List.map_append]
  rfl
set_option maxRecDepth 100000 in
set_option maxHeartbeats 1000000 in
theorem l08Order_any (xs : List Int) (ao : Option Addr) (c : Nat) (w : World) (hv : isOrd xs) (hx : Holds w ao (il xs)) :
    Calls Tryd.prog 94 #[.slice ao xs.length c] w (RetB (.string ⟨(txtC xs).toArray⟩) w) := by
  have HV := Lib.hid hv
  have HX := Lib.hid hx
  clear hv hx
  go_enter Tryd.func94, Tryd.ntmps94
  go_wp2_with (first | (go_at_call 129; fail))
  refine (specCycles_yes xs ao c _ HV.out HX.out).mono ?_
  rintro e w1 ⟨a1, c1, rfl, hrow, hb1⟩
  have HC : Hid (Lists w1 a1 (cycL xs) ∧ Below w.heap.size w w1) := Lib.hid ⟨hrow.lists, hb1⟩
  have hm := (cyc_tot HV.out).1
  have HE : Hid (txtC xs = jc (cycL xs) (cycL xs).length) := Lib.hid rfl
  have HK : Hid (∀ i, i < (cycL xs).length → okI (nthL (cycL xs) i) ∧ in64 (nthL (cycL xs) i)) := Lib.hid fun i hi => cyc_ok HV.out hi
  have HN : Hid (∀ k, k ≤ (cycL xs).length → (jc (cycL xs) k).length ≤ 1409 * k) := Lib.hid (jc_len HV.out)
  clear hrow hb1
  generalize cycL xs = css at *
  obtain ⟨n, hn⟩ : ∃ n, css.length = n := ⟨_, rfl⟩
  have HL := Lib.hid hn
  rw [hn] at HE HK HN hm
  rw [hn]
  clear hn
  go_wp2_with fail
  go_loopw [5, 6] (fun out i wr => ∃ k : Nat, k ≤ n ∧ i = .int .i64 k ∧ out = .string ⟨(jc css k).toArray⟩ ∧ Below w.heap.size w wr ∧ Below w1.heap.size w1 wr) (fun _ i _ => n - (intOf i).toNat)
  case atStart => exact ⟨0, Nat.zero_le _, rfl, rfl, HC.out.2, Below.refl _ _⟩
  case round =>
    obtain ⟨k, hk, rfl, rfl, hbel, hb1⟩ := hrel
    have HB := Lib.hid (And.intro hbel hb1)
    clear hbel hb1
    by_cases hlt : k < n
    · obtain ⟨b, o, ai, ci, hao, hc, hh⟩ := HC.out.1 k (by have := HL.out; omega)
      have hc := (Below.cell HB.out.2 (World.block_lt_of_cell? _ _ hc)).trans hc
      have HH := Lib.hid (hh.below HB.out.2)
      subst hao
      have hlt' : (k : Int) < n := by omega
      have HKK := Lib.hid (HK.out k hlt)
      have hl1 := HN.out k (by omega)
      have hl2 := txtL_len HKK.out.2 HKK.out.1.1
      have hl3 := HKK.out.1.1
      have HT := Lib.hid (jc_next css k)
      have HT0 : Hid (k = 0 → jc css (k + 1) = txtL (nthL css k)) := Lib.hid (fun e => by subst e; rfl)
      clear hh
      generalize nthL css k = ys at *
      obtain ⟨m, hm2⟩ : ∃ m, ys.length = m := ⟨_, rfl⟩
      have HM := Lib.hid hm2
      rw [hm2] at hc hl3
      clear hm2
      by_cases h0 : k = 0
      · have HR := Lib.hid (HT0.out h0)
        have e0 : jc css k = [] := by rw [h0]; rfl
        have ha : ∀ w, (Op.stringOp .add ⟨(jc css k).toArray⟩ ⟨(txtL ys).toArray⟩).run Tryd.prog w = .ok (.string ⟨(jc css (k + 1)).toArray⟩) w := fun w => by
          rw [add_run _ _ (by rw [e0]; simp; omega) w, HR.out, e0]; rfl
        have hk0 : decide (0 < k) = false := by simp [h0]
        clear HT HT0 h0 e0 hl1 hl2
        go_wp2_with (first | (go_at_call 63; fail))
        refine (l01Text_any ys m HM.out hl3 HKK.out.2 ai ci _ HH.out).mono ?_
        rintro e w2 ⟨rfl, hb2⟩
        have HB2 := Lib.hid (And.intro (Bel_next HB.out.1 hb2) (Bel_next HB.out.2 hb2))
        clear hb2 hc
        go_wp2_with fail
        go_roundw
        case rel => exact ⟨k + 1, by omega, by go_num, rfl, HB2.out⟩
        case measure => simp [intOf]; omega
      · have HR := Lib.hid (HT.out h0)
        have ha0 : ∀ w, (Op.stringOp .add ⟨(jc css k).toArray⟩ ⟨#[47]⟩).run Tryd.prog w = .ok (.string ⟨(jc css k ++ [47]).toArray⟩) w := fun w => add_run (jc css k) [47] (by simp; omega) w
        have ha : ∀ w, (Op.stringOp .add ⟨(jc css k ++ [47]).toArray⟩ ⟨(txtL ys).toArray⟩).run Tryd.prog w = .ok (.string ⟨(jc css (k + 1)).toArray⟩) w := fun w => by
          rw [add_run _ _ (by simp; omega) w, HR.out]
        have hk0 : decide (0 < k) = true := by simp; omega
        clear HT HT0 h0 hl1 hl2
        go_wp2_with (first | (go_at_call 63; fail))
        refine (l01Text_any ys m HM.out hl3 HKK.out.2 ai ci _ HH.out).mono ?_
        rintro e w2 ⟨rfl, hb2⟩
        have HB2 := Lib.hid (And.intro (Bel_next HB.out.1 hb2) (Bel_next HB.out.2 hb2))
        clear hb2 hc
        go_wp2_with fail
        go_roundw
        case rel => exact ⟨k + 1, by omega, by go_num, rfl, HB2.out⟩
        case measure => simp [intOf]; omega
    · obtain rfl : k = n := by omega
      go_wp2_with fail
      go_ret
      exact ⟨(congrArg (fun x : List UInt8 => Ending.returned (Value.string ⟨x.toArray⟩)) HE.out).symm, HB.out.1⟩
theorem specCyclesText_yes (xs : List Int) (ao : Option Addr) (c : Nat) (w : World) (hv : isOrd xs) (hx : Holds w ao (il xs)) :
    Calls Tryd.prog 55 #[.slice ao xs.length c] w (RetB (.tuple #[.string ⟨(txtC xs).toArray⟩, .bool true]) w) := by
  have HV := Lib.hid hv
  have HX := Lib.hid hx
  have hl := hv.1.2
  clear hv hx
  go_enter Tryd.func55, Tryd.ntmps55
  go_wp2_with (first | (go_at_call 93; fail))
  refine (l04Order_any xs _ _ _ HX.out (by omega)).mono ?_
  rintro e w1 ⟨rfl, hb⟩
  have HB := Lib.hid hb
  clear hb
  rw [ordB_yes HV.out]
  go_wp2_with (first | (go_at_call 94; fail))
  refine (l08Order_any xs ao c _ HV.out (HX.out.below HB.out)).mono ?_
  rintro e w2 ⟨rfl, hb⟩
  have HB2 := Lib.hid (Bel_next HB.out hb)
  clear hb
  go_wp2_with fail
  go_ret2
  exact ⟨rfl, HB2.out⟩
theorem specCyclesText_no (xs : List Int) (ao : Option Addr) (c : Nat) (w : World) (hv : ¬ isOrd xs) (hx : Holds w ao (il xs)) (hl : xs.length ≤ 1048576) :
    Calls Tryd.prog 55 #[.slice ao xs.length c] w (RetB (.tuple #[.string ⟨#[]⟩, .bool false]) w) := by
  have HV := Lib.hid hv
  have HX := Lib.hid hx
  clear hv hx
  go_enter Tryd.func55, Tryd.ntmps55
  go_wp2_with (first | (go_at_call 93; fail))
  refine (l04Order_any xs _ _ _ HX.out (by omega)).mono ?_
  rintro e w1 ⟨rfl, hb⟩
  have HB := Lib.hid hb
  clear hb
  rw [ordB_no HV.out]
  go_wp2_with fail
  go_ret2
  exact ⟨rfl, HB.out⟩
theorem joinB (l : List (List UInt8)) (n : Nat) (hn : l.length = n) (base g c : Nat) (w : World) (hown : w.ownsRow base 9 1 (.slice (some ⟨g, 0, none⟩) n c) n (strs l)) (hl : (Lib.join l [47]).length ≤ 1000000) (hbig : n ≤ 1000000) :
    Calls Tryd.prog 96 #[.slice (some ⟨g, 0, none⟩) n c, .string ⟨#[47]⟩] w (RetB (.string ⟨(Lib.join l [47]).toArray⟩) w) := by
  have e1 : ((l.map fun b => (⟨b.toArray⟩ : ByteArray)).map (·.data.toList)) = l := by
    rw [List.map_map, show ((fun x : ByteArray => x.data.toList) ∘ fun b : List UInt8 => (⟨b.toArray⟩ : ByteArray)) = id from funext fun b => by simp, List.map_id]
  have hc := own_cap hown
  have hj := Tryd.join g 0 c (l.map fun b => (⟨b.toArray⟩ : ByteArray)) ⟨#[47]⟩ w (by
      intro j x hj
      have h := hown.cells rfl j (.string x) (by
        simp only [List.getElem?_map, Option.map_eq_some_iff] at hj
        obtain ⟨b, hb, rfl⟩ := hj
        simp [strs, hb])
      rw [Addr.add_lit] at h
      exact h) (hown.lt g rfl).2 (by rw [List.length_map]; omega) (by rw [List.length_map]; omega) (by
      rw [e1]
      show (Lib.join l [47]).length ≤ _
      omega)
  rw [e1, List.length_map, hn] at hj
  exact hj
set_option maxRecDepth 100000 in
set_option maxHeartbeats 1000000 in
theorem implCyclesText_yes (xs : List Int) (ao : Option Addr) (c : Nat) (w : World) (hv : isOrd xs) (hx : Holds w ao (il xs)) (hT : Pow10 w) :
    Calls Tryd.prog 56 #[.slice ao xs.length c] w (RetB (.tuple #[.string ⟨(txtC xs).toArray⟩, .bool true]) w) := by
  have HV := Lib.hid hv
  have HX := Lib.hid (And.intro hx hT)
  clear hv hx hT
  go_enter Tryd.func56, Tryd.ntmps56
  go_wp2_with (first | (go_at_call 95; fail))
  refine (implCycles_yes xs ao c _ HV.out HX.out.1).mono ?_
  rintro e w1 ⟨a1, c1, rfl, hrow, hb1⟩
  have HC : Hid (Lists w1 a1 (cycL xs) ∧ Below w.heap.size w w1 ∧ w.heap.size ≤ w1.heap.size) := Lib.hid ⟨hrow.lists, hb1, hb1.size⟩
  have hm := (cyc_tot HV.out).1
  have HE : Hid (txtC xs = Lib.join ((cycL xs).map txtL) [47] ∧ (Lib.join ((cycL xs).map txtL) [47]).length ≤ 100000) := Lib.hid ⟨jc_all _, by
    rw [← jc_all]; have := jc_len HV.out (cycL xs).length (Nat.le_refl _); omega⟩
  have HK : Hid (∀ i, i < (cycL xs).length → okI (nthL (cycL xs) i) ∧ in64 (nthL (cycL xs) i)) := Lib.hid fun i hi => cyc_ok HV.out hi
  clear hrow hb1
  generalize cycL xs = css at *
  obtain ⟨n, hn⟩ : ∃ n, css.length = n := ⟨_, rfl⟩
  have HL := Lib.hid hn
  rw [hn] at HK hm
  rw [hn]
  clear hn
  have hmk := run_mkS (P := Tryd.prog) w1 76 9 n Tryd.underlying76 (by kernel_rfl) (by omega)
  have ho0 : Hid ((w1.alloc (.cells (Array.replicate n (.string ⟨#[]⟩)) 9)).ownsRow w1.heap.size 9 1 (.slice (some ⟨w1.heap.size, 0, none⟩) 0 n) 0 []) := Lib.hid (World.ownsRow_made w1 _ n (Nat.le_refl _) (by unfold maxLen; omega) (by simp))
  go_wp2_with fail
  go_loopw [6, 23] (fun ps i wr => ∃ (k g d : Nat), k ≤ n ∧ i = .int .i64 k ∧ ps = .slice (some ⟨g, 0, none⟩) k d ∧ wr.ownsRow w1.heap.size 9 1 ps k (strs ((css.take k).map txtL)) ∧ Below w1.heap.size w1 wr) (fun _ i _ => n - (intOf i).toNat)
  case atStart => exact ⟨0, _, n, Nat.zero_le _, rfl, rfl, ho0.out, (Below.refl _ _).alloc (Nat.le_refl _) _⟩
  case round =>
    obtain ⟨k, g, d, hk, rfl, rfl, hown, hb1⟩ := hrel
    have H := Lib.hid (And.intro hown (And.intro (Bel_next HC.out.2.1 hb1) hb1))
    clear hown hb1 ho0 hmk
    by_cases hlt : k < n
    · obtain ⟨b, o, ai, ci, hao, hc, hh⟩ := HC.out.1 k (by have := HL.out; omega)
      have hc := (Below.cell H.out.2.2 (World.block_lt_of_cell? _ _ hc)).trans hc
      have HH := Lib.hid (hh.below H.out.2.2)
      subst hao
      have hlt' : (k : Int) < n := by omega
      have HKK := Lib.hid (HK.out k hlt)
      have hl3 := HKK.out.1.1
      have HS := Lib.hid (strs_snoc2 css k (by have := HL.out; omega))
      clear hh
      generalize nthL css k = ys at *
      go_wp2_with (first | (go_at_call 21; fail))
      refine (implListText_yes ys (by omega) HKK.out.2 ai ci _ HH.out (HX.out.2.below H.out.2.1) HKK.out.1).mono ?_
      rintro e w2 ⟨rfl, hb2⟩
      have H2 : Hid (w2.ownsRow w1.heap.size 9 1 (.slice (some ⟨g, 0, none⟩) k d) k (strs ((css.take k).map txtL)) ∧ Below w1.heap.size w1 w2 ∧ w1.heap.size ≤ w2.heap.size) := Lib.hid ⟨own_bel H.out.1 hb2, Bel_next H.out.2.2 hb2, (Bel_next H.out.2.2 hb2).size⟩
      clear hb2 hc
      go_wp2_with (at_builtin; refine wpList_app1 rfl _ _ 76 rfl w1.heap.size 9 (.string ⟨#[]⟩) 16 Tryd.underlying76 (by kernel_rfl) rfl _ k (strs ((css.take k).map txtL)) rfl (H2.out.1.alloc _) w2.heap.size 1 (.string ⟨(txtL ys).toArray⟩) rfl ((Whole.made w2 _ _).cell 0) rfl ⟨by omega, by omega⟩ (by have := H2.out.2.2; simp; omega) ?_; intro v' w' hown' hgr')
      obtain ⟨g', d', rfl⟩ : ∃ g' d', v' = .slice (some ⟨g', 0, none⟩) (k + 1) d' := by
        rcases hown'.2 with ⟨_, h0⟩ | ⟨g', cap', cur, h', _⟩
        · omega
        · exact ⟨g', cap', h'⟩
      go_wp2_with fail
      go_roundw
      case rel =>
        refine ⟨k + 1, g', d', by omega, by go_num, rfl, ?_, ?_⟩
        · rw [HS.out]; exact hown'
        · exact Below.grown (H2.out.2.1.alloc H2.out.2.2 _) hgr' (by have := H2.out.2.2; simp; omega) (own_ge H2.out.1)
      case measure => simp [intOf]; omega
    · obtain rfl : k = n := by omega
      have hown := H.out.1
      rw [List.take_of_length_le (by have := HL.out; omega)] at hown
      have HO := Lib.hid hown
      clear hown
      go_wp2_with (first | (go_at_call 96; fail))
      refine (joinB (css.map txtL) k (by rw [List.length_map]; exact HL.out) _ g d _ HO.out (by have := HE.out.2; omega) (by omega)).mono ?_
      rintro e w2 ⟨rfl, hb2⟩
      have HB2 := Lib.hid (Bel_next H.out.2.1 hb2)
      clear hb2
      go_wp2_with fail
      go_ret2
      exact ⟨by rw [HE.out.1]; rfl, HB2.out⟩
theorem implCyclesText_no (xs : List Int) (ao : Option Addr) (c : Nat) (w : World) (hv : ¬ isOrd xs) (hx : Holds w ao (il xs)) (hl : xs.length ≤ 1048576) :
    Calls Tryd.prog 56 #[.slice ao xs.length c] w (RetB (.tuple #[.string ⟨#[]⟩, .bool false]) w) := by
  have HV := Lib.hid hv
  have HX := Lib.hid hx
  clear hv hx
  go_enter Tryd.func56, Tryd.ntmps56
  go_wp2_with (first | (go_at_call 95; fail))
  refine (implCycles_no xs ao c _ HV.out HX.out hl).mono ?_
  rintro e w1 ⟨rfl, hb⟩
  have HB := Lib.hid hb
  clear hb
  go_wp2_with fail
  go_ret2
  exact ⟨rfl, HB.out⟩
end Go.Proofs.YtfgkimhcbboipaaDoor
