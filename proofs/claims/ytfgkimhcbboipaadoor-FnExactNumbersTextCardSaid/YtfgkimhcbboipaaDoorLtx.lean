/- Texts of lists of integers: both sides. -/
import Derived.Test.YtfgkimhcbboipaaDoorDec
import Derived.Laws.Concat
import Derived.Lib.Join
namespace Go.Proofs.YtfgkimhcbboipaaDoor
open Go Go.RowKit
set_option linter.unusedVariables false
/-- The first k numbers, with commas between. -/
def jn (xs : List Int) : Nat → List UInt8
  | 0 => []
  | k + 1 => (if k = 0 then [] else jn xs k ++ [44]) ++ Lib.itoa (xs[k]?.getD 0)
theorem join_snoc (l : List (List UInt8)) (y sep : List UInt8) (h : l ≠ []) : Lib.join (l ++ [y]) sep = Lib.join l sep ++ sep ++ y := by
  cases l with
  | nil => exact absurd rfl h
  | cons x r =>
    rw [List.cons_append, Lib.join_cons, Lib.join_cons]
    simp [Lib.joinTail]
theorem jn_take (xs : List Int) : ∀ k, k + 1 ≤ xs.length → jn xs (k + 1) = Lib.join ((xs.take (k + 1)).map Lib.itoa) [44]
  | 0, h => by
    cases xs with
    | nil => simp at h
    | cons x r => simp [jn, Lib.join_one]
  | k + 1, h => by
    have e : xs.take (k + 1 + 1) = xs.take (k + 1) ++ [xs[k + 1]?.getD 0] := by
      rw [List.take_add_one, List.getElem?_eq_getElem (by omega)]; rfl
    have hne : (xs.take (k + 1)).map Lib.itoa ≠ [] := List.ne_nil_of_length_pos (by rw [List.length_map, List.length_take]; omega)
    have e2 : jn xs (k + 1 + 1) = (jn xs (k + 1) ++ [44]) ++ Lib.itoa (xs[k + 1]?.getD 0) := by
      show (if k + 1 = 0 then _ else _) ++ _ = _
      rw [if_neg (by omega)]
    rw [e, List.map_append, List.map_cons, List.map_nil, join_snoc _ _ _ hne, ← jn_take xs k (by omega), e2]
theorem jn_all {xs : List Int} (h : xs ≠ []) : jn xs xs.length = Lib.join (xs.map Lib.itoa) [44] := by
  cases xs with
  | nil => exact absurd rfl h
  | cons x r =>
    have := jn_take (x :: r) r.length (by simp)
    rw [show (x :: r).length = r.length + 1 by simp, this]
    rw [List.take_of_length_le (by simp)]
/-- The text of a list. -/
def txtL (xs : List Int) : List UInt8 := if xs = [] then [110, 111, 110, 101] else jn xs xs.length
def in64 (xs : List Int) : Prop := ∀ x ∈ xs, -9223372036854775808 ≤ x ∧ x ≤ 9223372036854775807
theorem in64.at {xs : List Int} (h : in64 xs) (k : Nat) : -9223372036854775808 ≤ xs[k]?.getD 0 ∧ xs[k]?.getD 0 ≤ 9223372036854775807 := by
  rcases Nat.lt_or_ge k xs.length with h1 | h1
  · rw [List.getElem?_eq_getElem h1]; exact h _ (List.getElem_mem h1)
  · rw [List.getElem?_eq_none h1]; simp
theorem jn_len {xs : List Int} (h : in64 xs) : ∀ k, (jn xs k).length ≤ 22 * k
  | 0 => Nat.zero_le _
  | k + 1 => by
    have h1 := jn_len h k
    have h2 := Lib.itoa_length_le (xs[k]?.getD 0) (h.at k).1 (h.at k).2
    rw [jn, List.length_append]
    split <;> simp <;> omega
/-- A list that has a text. -/
def okI (xs : List Int) : Prop := xs.length ≤ 64 ∧ ∀ i, i < xs.length → -1000000000000000 ≤ xs[i]?.getD 0 ∧ xs[i]?.getD 0 ≤ 1000000000000000
theorem add_run {P : Program} (a b : List UInt8) (h : a.length + b.length ≤ 1000000) (w : World) : (Op.stringOp .add ⟨a.toArray⟩ ⟨b.toArray⟩).run P w = .ok (.string ⟨(a ++ b).toArray⟩) w := by
  have e1 : (ByteArray.mk a.toArray).size = a.length := by show a.toArray.size = _; simp
  have e2 : (ByteArray.mk b.toArray).size = b.length := by show b.toArray.size = _; simp
  rw [run_string_add_sum w _ _ (by omega), ByteArray.mk_append_mk]
/-- It returns whether p holds, and the world is as it was. -/
def BoX (p : Prop) (w : World) (e : Ending) (w' : World) : Prop := ∃ v, (v = true ↔ p) ∧ e = .returned (.bool v) ∧ w = w'
theorem BoX.yes {p : Prop} (w : World) (h : p) : BoX p w (.returned (.bool true)) w := ⟨true, ⟨fun _ => h, fun _ => rfl⟩, rfl, rfl⟩
theorem BoX.no {p : Prop} (w : World) (h : ¬ p) : BoX p w (.returned (.bool false)) w := ⟨false, ⟨(fun e => by cases e), fun e => absurd e h⟩, rfl, rfl⟩
set_option maxRecDepth 100000 in
set_option maxHeartbeats 1000000 in
theorem l01List_any (xs : List Int) (n : Nat) (hn : xs.length = n) (hl : n ≤ 1048576) (ao : Option Addr) (c : Nat) (w : World) (hx : Holds w ao (il xs)) :
    Calls Tryd.prog 62 #[.slice ao n c] w (BoX (okI xs) w) := by
  have HX := Lib.hid (And.intro hx hn)
  clear hx hn
  go_enter Tryd.func62, Tryd.ntmps62
  go_wp2_with fail
  go_loop [3] (fun i => ∃ k : Nat, k ≤ n ∧ i = .int .i64 k ∧ ∀ j, j < k → -1000000000000000 ≤ xs[j]?.getD 0 ∧ xs[j]?.getD 0 ≤ 1000000000000000) (fun i => n - (intOf i).toNat)
  case atStart => exact ⟨0, Nat.zero_le _, rfl, fun j hj => absurd hj (Nat.not_lt_zero _)⟩
  case round =>
    obtain ⟨k, hk, rfl, hall⟩ := hrel
    have HA := Lib.hid hall
    clear hall
    by_cases hlt : k < n
    · obtain ⟨b, o, hao, hc⟩ := HX.out.1 k (by rw [il_len]; have := HX.out.2; omega)
      rw [il_get _ _ (by have := HX.out.2; omega)] at hc
      subst hao
      have hlt' : (k : Int) < n := by omega
      obtain ⟨x, hxk⟩ : ∃ x, xs[k]?.getD 0 = x := ⟨_, rfl⟩
      rw [hxk] at hc
      have HK := Lib.hid hxk
      clear hxk
      obtain ⟨v, hv⟩ : ∃ v, decide (-1000000000000000 ≤ x ∧ x ≤ 1000000000000000) = v := ⟨_, rfl⟩
      have HV := Lib.hid hv
      clear hv
      go_wp2_with (first | (go_at_call 98; fail))
      refine (l00In_any _ _ _ _).mono ?_
      rintro e w' ⟨rfl, rfl⟩
      rw [HV.out]
      cases v with
      | false =>
        go_wp2_with fail
        go_ret
        refine BoX.no _ fun h => ?_
        have h1 := h.2 k (by have := HX.out.2; omega)
        rw [HK.out] at h1
        have h2 := HV.out
        rw [decide_eq_true h1] at h2; cases h2
      | true =>
        go_wp2_with fail
        go_round
        case rel =>
          refine ⟨k + 1, by omega, by go_num, fun j hj => ?_⟩
          by_cases e : j = k
          · subst e; rw [HK.out]; exact of_decide_eq_true HV.out
          · exact HA.out j (by omega)
        case measure => simp [intOf]; omega
    · obtain rfl : k = n := by omega
      by_cases h64 : k ≤ 64
      · have h64' : (k : Int) ≤ 64 := by omega
        go_wp2_with fail
        go_ret
        exact BoX.yes _ ⟨by have := HX.out.2; omega, fun i hi => HA.out i (by have := HX.out.2; omega)⟩
      · have h64' : ¬ (k : Int) ≤ 64 := by omega
        go_wp2_with fail
        go_ret
        exact BoX.no _ fun h => absurd h.1 (by have := HX.out.2; omega)
set_option maxRecDepth 100000 in
set_option maxHeartbeats 1000000 in
theorem l01Text_any (xs : List Int) (n : Nat) (hn : xs.length = n) (hl : n ≤ 64) (h64 : in64 xs) (ao : Option Addr) (c : Nat) (w : World) (hx : Holds w ao (il xs)) :
    Calls Tryd.prog 63 #[.slice ao n c] w (RetB (.string ⟨(txtL xs).toArray⟩) w) := by
  have HX := Lib.hid (And.intro hx (And.intro hn h64))
  clear hx hn h64
  by_cases h0 : n = 0
  · have HE : Hid (txtL xs = [110, 111, 110, 101]) := Lib.hid (by unfold txtL; rw [if_pos (List.length_eq_zero_iff.1 (by have := HX.out.2.1; omega))])
    subst h0
    rw [HE.out]
    go_enter Tryd.func63, Tryd.ntmps63
    go_wp2_with fail
    go_ret
    exact ⟨rfl, Below.refl _ _⟩
  · have HE : Hid (txtL xs = jn xs n) := Lib.hid (by unfold txtL; rw [if_neg (fun h => by have := HX.out.2.1; rw [h] at this; exact h0 this.symm), HX.out.2.1])
    rw [HE.out]
    have hz : ((n : Int) == 0) = false := by rw [beq_eq_false_iff_ne]; omega
    have hn1 : (0 : Int) < n := by omega
    obtain ⟨b, o, hao, hc⟩ := HX.out.1 0 (by rw [il_len]; have := HX.out.2.1; omega)
    rw [il_get _ _ (by have := HX.out.2.1; omega), Nat.add_zero] at hc
    subst hao
    obtain ⟨x, hxk⟩ : ∃ x, xs[0]?.getD 0 = x := ⟨_, rfl⟩
    rw [hxk] at hc
    have HK : Hid (-9223372036854775808 ≤ x ∧ x ≤ 9223372036854775807 ∧ jn xs 1 = Lib.itoa x) := Lib.hid (by
      have h1 := HX.out.2.2.at 0
      rw [hxk] at h1
      exact ⟨h1.1, h1.2, by show (if 0 = 0 then [] else _) ++ Lib.itoa (xs[0]?.getD 0) = _; rw [if_pos rfl, hxk]; rfl⟩)
    clear hxk
    go_enter Tryd.func63, Tryd.ntmps63
    go_wp2_with (first | (go_at_call 57; fail))
    refine (l01Dec_any x HK.out.1 HK.out.2.1 _).mono ?_
    rintro e w1 ⟨rfl, hb1⟩
    rw [← HK.out.2.2]
    have HB1 := Lib.hid hb1
    clear hb1 hc HK
    go_wp2_with fail
    go_loopw [3, 4] (fun out i wr => ∃ k : Nat, 1 ≤ k ∧ k ≤ n ∧ i = .int .i64 k ∧ out = .string ⟨(jn xs k).toArray⟩ ∧ Below w.heap.size w wr) (fun _ i _ => n - (intOf i).toNat)
    case atStart => exact ⟨1, Nat.le_refl _, by omega, rfl, rfl, HB1.out⟩
    case round =>
      obtain ⟨k, hk1, hk, rfl, rfl, hbel⟩ := hrel
      have HB := Lib.hid hbel
      clear hbel HB1
      by_cases hlt : k < n
      · obtain ⟨b', o', hao, hc⟩ := HX.out.1 k (by rw [il_len]; have := HX.out.2.1; omega)
        obtain ⟨rfl, rfl⟩ : b = b' ∧ o = o' := by simpa using hao
        have hc := (Below.cell HB.out (World.block_lt_of_cell? _ _ hc)).trans hc
        rw [il_get _ _ (by have := HX.out.2.1; omega)] at hc
        have hlt' : (k : Int) < n := by omega
        obtain ⟨x, hxk⟩ : ∃ x, xs[k]?.getD 0 = x := ⟨_, rfl⟩
        rw [hxk] at hc
        have HK : Hid (-9223372036854775808 ≤ x ∧ x ≤ 9223372036854775807 ∧ jn xs (k + 1) = jn xs k ++ (44 :: Lib.itoa x)) := Lib.hid (by
          have h1 := HX.out.2.2.at k
          rw [hxk] at h1
          refine ⟨h1.1, h1.2, ?_⟩
          show (if k = 0 then [] else _) ++ Lib.itoa (xs[k]?.getD 0) = _
          rw [if_neg (by omega), hxk]; simp)
        have hl1 := Lib.itoa_length_le x HK.out.1 HK.out.2.1
        have hl2 := jn_len HX.out.2.2 k
        have ha1 : ∀ w, (Op.stringOp .add ⟨#[44]⟩ ⟨(Lib.itoa x).toArray⟩).run Tryd.prog w = .ok (.string ⟨(44 :: Lib.itoa x).toArray⟩) w := fun w => add_run [44] (Lib.itoa x) (by simp; omega) w
        have ha2 : ∀ w, (Op.stringOp .add ⟨(jn xs k).toArray⟩ ⟨(44 :: Lib.itoa x).toArray⟩).run Tryd.prog w = .ok (.string ⟨(jn xs k ++ (44 :: Lib.itoa x)).toArray⟩) w := fun w => add_run (jn xs k) (44 :: Lib.itoa x) (by simp; omega) w
        rw [← HK.out.2.2] at ha2
        have HK2 := Lib.hid (And.intro HK.out.1 HK.out.2.1)
        clear hxk hl1 hl2 HK
        go_wp2_with (first | (go_at_call 57; fail))
        refine (l01Dec_any x HK2.out.1 HK2.out.2 _).mono ?_
        rintro e w2 ⟨rfl, hb2⟩
        have HB2 := Lib.hid (Bel_next HB.out hb2)
        clear hb2 hc
        go_wp2_with fail
        go_roundw
        case rel => exact ⟨k + 1, by omega, by omega, by go_num, rfl, HB2.out⟩
        case measure => simp [intOf]; omega
      · obtain rfl : k = n := by omega
        go_wp2_with fail
        go_ret
        exact ⟨rfl, HB.out⟩
theorem specListText_any (xs : List Int) (n : Nat) (hn : xs.length = n) (hl : n ≤ 1048576) (h64 : in64 xs) (ao : Option Addr) (c : Nat) (w : World) (hx : Holds w ao (il xs)) :
    Calls Tryd.prog 19 #[.slice ao n c] w (fun e w' => ((okI xs ∧ e = .returned (.tuple #[.string ⟨(txtL xs).toArray⟩, .bool true])) ∨ (¬ okI xs ∧ e = .returned (.tuple #[.string ⟨#[]⟩, .bool false]))) ∧ Below w.heap.size w w') := by
  have HX := Lib.hid (And.intro hx (And.intro hn h64))
  clear hx hn h64
  go_enter Tryd.func19, Tryd.ntmps19
  go_wp2_with (first | (go_at_call 62; fail))
  refine (l01List_any xs n HX.out.2.1 hl ao c _ HX.out.1).mono ?_
  rintro e w' ⟨v, hv, rfl, rfl⟩
  have HV := Lib.hid hv
  clear hv
  cases v with
  | false =>
    go_wp2_with fail
    go_ret2
    exact ⟨.inr ⟨(fun h => by have := HV.out.2 h; cases this), rfl⟩, Below.refl _ _⟩
  | true =>
    have hok := HV.out.1 rfl
    go_wp2_with (first | (go_at_call 63; fail))
    refine (l01Text_any xs n HX.out.2.1 (by have := hok.1; have := HX.out.2.1; omega) HX.out.2.2 ao c _ HX.out.1).mono ?_
    rintro e w' ⟨rfl, hb⟩
    have HB := Lib.hid hb
    clear hb
    go_wp2_with fail
    go_ret2
    exact ⟨.inl ⟨hok, rfl⟩, HB.out⟩
theorem item_any (n : Int) (v : Bool) (hv : decide (-1000000000000000 ≤ n ∧ n ≤ 1000000000000000) = v) (w : World) : Calls Tryd.prog 61 #[.int .i64 n] w (fun e w' => e = .returned (.bool v) ∧ w = w') := by
  by_cases h0 : -1000000000000000 ≤ n
  · have e : v = decide (n ≤ 1000000000000000) := by rw [← hv, Bool.eq_iff_iff]; simp; omega
    have E := Lib.hid e
    clear e hv
    go_enter Tryd.func61, Tryd.ntmps61
    go_wp2
    go_ret
    exact ⟨by first | rfl | (rw [E.out]; rfl), rfl⟩
  · have h1 : decide (-1000000000000000 ≤ n) = false := by simpa using h0
    have e : v = false := by rw [← hv]; simp; omega
    have E := Lib.hid e
    clear e hv
    go_enter Tryd.func61, Tryd.ntmps61
    go_wp2
    go_ret
    exact ⟨by first | rfl | (rw [E.out]; rfl), rfl⟩
def strs (l : List (List UInt8)) : List Value := l.map fun b => .string ⟨b.toArray⟩
set_option maxRecDepth 100000 in
theorem joinParts_any (l : List (List UInt8)) (n : Nat) (hn : l.length = n) (base : Nat) (ao : Option Addr) (c : Nat) (w : World) (hown : w.ownsRow base 9 1 (.slice ao n c) n (strs l)) (hl : (Lib.join l [44]).length ≤ 1000000) (hc : n ≤ c) (hbig : n ≤ 1000000) :
    Calls Tryd.prog 64 #[.slice ao n c] w (RetB (.string ⟨(if l = [] then [110, 111, 110, 101] else Lib.join l [44]).toArray⟩) w) := by
  have HO := Lib.hid (And.intro hown hl)
  clear hown hl
  by_cases h0 : n = 0
  · have e : l = [] := List.length_eq_zero_iff.1 (by omega)
    subst e
    subst h0
    go_enter Tryd.func64, Tryd.ntmps64
    go_wp2_with fail
    go_ret
    exact ⟨rfl, Below.refl _ _⟩
  · have e : l ≠ [] := fun h => h0 (by rw [← hn, h]; rfl)
    rw [if_neg e]
    have hz : ((n : Int) == 0) = false := by rw [beq_eq_false_iff_ne]; omega
    obtain ⟨g, rfl⟩ : ∃ g, ao = some ⟨g, 0, none⟩ := by
      rcases HO.out.1.2 with ⟨h, h2⟩ | ⟨g', cap', cur, h', _⟩
      · cases h; exact absurd rfl h0
      · cases h'; exact ⟨_, rfl⟩
    have e1 : ((l.map fun b => (⟨b.toArray⟩ : ByteArray)).map (·.data.toList)) = l := by
      rw [List.map_map, show ((fun x : ByteArray => x.data.toList) ∘ fun b : List UInt8 => (⟨b.toArray⟩ : ByteArray)) = id from funext fun b => by simp, List.map_id]
    have hj := Tryd.join g 0 c (l.map fun b => (⟨b.toArray⟩ : ByteArray)) ⟨#[44]⟩ w (by
        intro j x hj
        have h := HO.out.1.cells rfl j (.string x) (by
          simp only [List.getElem?_map, Option.map_eq_some_iff] at hj
          obtain ⟨b, hb, rfl⟩ := hj
          simp [strs, hb])
        rw [Addr.add_lit] at h
        exact h) (HO.out.1.lt g rfl).2 (by rw [List.length_map]; omega) (by rw [List.length_map]; omega) (by
        rw [e1]
        have := HO.out.2
        show (Lib.join l [44]).length ≤ _
        omega)
    rw [e1, List.length_map, hn] at hj
    have HJ := Lib.hid hj
    clear hj e1
    go_enter Tryd.func64, Tryd.ntmps64
    go_wp2_with (first | (go_at_call 96; fail))
    refine HJ.out.mono ?_
    rintro e w' ⟨rfl, hb⟩
    have HB := Lib.hid hb
    clear hb
    go_wp2_with fail
    go_ret
    exact ⟨rfl, HB.out⟩
theorem own_bel {w w' : World} {base : Nat} {e : TypeId} {size : Nat} {v : Value} {n : Nat} {xs : List Value} (h : w.ownsRow base e size v n xs) (hb : Below w.heap.size w w') : w'.ownsRow base e size v n xs := h.kept (grown_below (row := none) hb) (Classical.em _)
theorem own_cap {w : World} {base : Nat} {e : TypeId} {size : Nat} {ao : Option Addr} {c n : Nat} {xs : List Value} (h : w.ownsRow base e size (.slice ao n c) n xs) : n ≤ c := by
  rcases h.2 with ⟨h', h0⟩ | ⟨g', cap', cur, h', _, _, hle, _⟩
  · cases h'; exact Nat.le_refl _
  · cases h'; exact hle
theorem run_mkS {P : Program} (w : World) (t e : TypeId) (n : Nat) (ht : P.underlying t = some (.slice e)) (hi : (P.info? e).map (fun i => (i.zero, i.size, i.bytes)) = some (some (.string ⟨#[]⟩), 1, 16)) (hn : n ≤ 1048577) :
    (Instr.makeSlice t (.int .i64 0) (.int .i64 (n : Int))).run P w = .ok (.slice (some ⟨w.heap.size, 0, none⟩) 0 n) (w.alloc (.cells (Array.replicate n (.string ⟨#[]⟩)) e)) := by
  obtain ⟨i, hi, h1, h2, h3⟩ := info_parts hi
  have hb' : (i.bytes : Int) * (n : Int) ≤ 281474976710656 := by rw [h3]; omega
  rw [run_make w t e i (.string ⟨#[]⟩) ht hi h1 .i64 .i64 0 n (by omega) (by omega) hb' (by omega)]
  have : madeCells (Value.string ⟨#[]⟩).cells ((n : Int).toNat * i.size) = Array.replicate n (.string ⟨#[]⟩) := by
    rw [show (Value.string ⟨#[]⟩).cells = #[.string ⟨#[]⟩] from rfl, h2, Int.toNat_natCast, Nat.mul_one]
    unfold madeCells
    apply Array.ext
    · simp
    · intro j h1 h2
      simp [Nat.mod_one]
  rw [this]; simp
theorem strs_snoc (xs : List Int) (k : Nat) (h : k < xs.length) : strs ((xs.take (k + 1)).map Lib.itoa) = strs ((xs.take k).map Lib.itoa) ++ [.string ⟨(Lib.itoa (xs[k]?.getD 0)).toArray⟩] := by
  rw [List.take_add_one, List.getElem?_eq_getElem h, List.map_append]
  unfold strs
  rw [List.map_append]
  rfl
theorem join_len {xs : List Int} (h : in64 xs) (hl : xs.length ≤ 64) : (Lib.join (xs.map Lib.itoa) [44]).length ≤ 1000000 := by
  by_cases h0 : xs = []
  · subst h0; decide
  · rw [← jn_all h0]
    have := jn_len h xs.length
    omega
theorem txtL_join (xs : List Int) : (if xs.map Lib.itoa = [] then [110, 111, 110, 101] else Lib.join (xs.map Lib.itoa) [44]) = txtL xs := by
  unfold txtL
  by_cases h0 : xs = []
  · subst h0; rfl
  · rw [if_neg h0, if_neg (by simp [h0]), jn_all h0]
set_option maxRecDepth 100000 in
set_option maxHeartbeats 1000000 in
theorem implListText_any (xs : List Int) (n : Nat) (hn : xs.length = n) (hl : n ≤ 1048576) (h64 : in64 xs) (ao : Option Addr) (c : Nat) (w : World) (hx : Holds w ao (il xs)) (hT : Pow10 w) :
    Calls Tryd.prog 21 #[.slice ao n c] w (fun e w' => ((okI xs ∧ e = .returned (.tuple #[.string ⟨(txtL xs).toArray⟩, .bool true])) ∨ (¬ okI xs ∧ e = .returned (.tuple #[.string ⟨#[]⟩, .bool false]))) ∧ Below w.heap.size w w') := by
  have HX := Lib.hid (And.intro hx (And.intro hn (And.intro h64 hT)))
  clear hx hn h64 hT
  by_cases hbig : 64 < n
  · have hbig' : (64 : Int) < n := by omega
    clear hbig
    go_enter Tryd.func21, Tryd.ntmps21
    go_wp2_with fail
    go_ret2
    exact ⟨.inr ⟨(fun h => by have := h.1; have := HX.out.2.1; omega), rfl⟩, Below.refl _ _⟩
  · have hbig' : (n : Int) ≤ 64 := by omega
    have hmk := run_mkS (P := Tryd.prog) w 76 9 n Tryd.underlying76 (by kernel_rfl) (by omega)
    have ho0 : Hid ((w.alloc (.cells (Array.replicate n (.string ⟨#[]⟩)) 9)).ownsRow w.heap.size 9 1 (.slice (some ⟨w.heap.size, 0, none⟩) 0 n) 0 []) := Lib.hid (World.ownsRow_made w _ n (Nat.le_refl _) (by unfold maxLen; omega) (by simp))
    go_enter Tryd.func21, Tryd.ntmps21
    go_wp2_with fail
    go_loopw [4, 15] (fun ps i wr => ∃ (k : Nat) (bo : Option Addr) (d : Nat), k ≤ n ∧ i = .int .i64 k ∧ ps = .slice bo k d ∧ wr.ownsRow w.heap.size 9 1 ps k (strs ((xs.take k).map Lib.itoa)) ∧ (∀ j, j < k → -1000000000000000 ≤ xs[j]?.getD 0 ∧ xs[j]?.getD 0 ≤ 1000000000000000) ∧ Below w.heap.size w wr) (fun _ i _ => n - (intOf i).toNat)
    case atStart => exact ⟨0, _, n, Nat.zero_le _, rfl, rfl, ho0.out, fun j hj => absurd hj (Nat.not_lt_zero _), (by repeat (first | with_reducible exact Below.refl _ _ | with_reducible exact HBL | with_reducible refine Below.drew ?_ | with_reducible refine Bel_drewN ?_ _ | with_reducible refine Below.alloc ?_ (by first | omega | (simp; done) | (simp; omega)) _ | with_reducible refine Below.setCell ?_ (by first | omega | (simp; done) | (simp; omega)) _))⟩
    case round =>
      obtain ⟨k, bo, d, hk, rfl, rfl, hown, hall, hbel⟩ := hrel
      have H := Lib.hid (And.intro hown (And.intro hall hbel))
      clear hown hall hbel ho0 hmk
      by_cases hlt : k < n
      · obtain ⟨b, o, hao, hc⟩ := HX.out.1 k (by rw [il_len]; have := HX.out.2.1; omega)
        have hc := (Below.cell H.out.2.2 (World.block_lt_of_cell? _ _ hc)).trans hc
        rw [il_get _ _ (by have := HX.out.2.1; omega)] at hc
        subst hao
        have hlt' : (k : Int) < n := by omega
        obtain ⟨x, hxk⟩ : ∃ x, xs[k]?.getD 0 = x := ⟨_, rfl⟩
        rw [hxk] at hc
        have HK : Hid (xs[k]?.getD 0 = x ∧ -9223372036854775808 ≤ x ∧ x ≤ 9223372036854775807) := Lib.hid (by
          have h1 := HX.out.2.2.1.at k
          rw [hxk] at h1
          exact ⟨hxk, h1.1, h1.2⟩)
        clear hxk
        obtain ⟨v, hv⟩ : ∃ v, decide (-1000000000000000 ≤ x ∧ x ≤ 1000000000000000) = v := ⟨_, rfl⟩
        have HV := Lib.hid hv
        clear hv
        go_wp2_with (first | (go_at_call 61; fail))
        refine (item_any x v HV.out _).mono ?_
        rintro e w2 ⟨rfl, rfl⟩
        cases v with
        | false =>
          go_wp2_with fail
          go_ret2
          refine ⟨.inr ⟨fun h => ?_, rfl⟩, H.out.2.2⟩
          have h1 := h.2 k (by have := HX.out.2.1; omega)
          rw [HK.out.1] at h1
          have h2 := HV.out
          rw [decide_eq_true h1] at h2; cases h2
        | true =>
          go_wp2_with (first | (go_at_call 16; fail))
          refine (implDecimal_any x HK.out.2.1 HK.out.2.2 _ (HX.out.2.2.2.below H.out.2.2)).mono ?_
          rintro e w2 ⟨rfl, hb2⟩
          have H2 : Hid (w2.ownsRow w.heap.size 9 1 (.slice bo k d) k (strs ((xs.take k).map Lib.itoa)) ∧ Below w.heap.size w w2 ∧ w.heap.size ≤ w2.heap.size) := Lib.hid ⟨own_bel H.out.1 hb2, Bel_next H.out.2.2 hb2, (Bel_next H.out.2.2 hb2).size⟩
          clear hb2 hc
          go_wp2_with (at_builtin; refine wpList_app1 rfl _ _ 76 rfl w.heap.size 9 (.string ⟨#[]⟩) 16 Tryd.underlying76 (by kernel_rfl) rfl _ k (strs ((xs.take k).map Lib.itoa)) rfl (H2.out.1.alloc _) w2.heap.size 1 (.string ⟨(Lib.itoa x).toArray⟩) rfl ((Whole.made w2 _ _).cell 0) rfl ⟨by omega, by omega⟩ (by have := H2.out.2.2; simp; omega) ?_; intro v' w' hown' hgr')
          obtain ⟨bo', d', rfl⟩ := own_form hown'
          go_wp2_with fail
          go_roundw
          case rel =>
            refine ⟨k + 1, bo', d', by omega, by go_num, rfl, ?_, fun j hj => ?_, ?_⟩
            · rw [strs_snoc _ _ (by have := HX.out.2.1; omega), HK.out.1]; exact hown'
            · by_cases e : j = k
              · subst e; rw [HK.out.1]; exact of_decide_eq_true HV.out
              · exact H.out.2.1 j (by omega)
            · exact Below.grown (H2.out.2.1.alloc H2.out.2.2 _) hgr' (by have := H2.out.2.2; simp; omega) (own_ge H2.out.1)
          case measure => simp [intOf]; omega
      · obtain rfl : k = n := by omega
        have hok : okI xs := ⟨by have := HX.out.2.1; omega, fun i hi => H.out.2.1 i (by have := HX.out.2.1; omega)⟩
        have HOK := Lib.hid hok
        clear hok
        have e1 : xs.take k = xs := List.take_of_length_le (by have := HX.out.2.1; omega)
        have hown := H.out.1
        rw [e1] at hown
        have hj := fun w' => joinParts_any (xs.map Lib.itoa) k (by rw [List.length_map]; exact HX.out.2.1) w.heap.size bo d w'
        have HO := Lib.hid hown
        clear hown e1
        go_wp2_with (first | (go_at_call 64; fail))
        refine (hj _ HO.out (join_len HX.out.2.2.1 (by have := HX.out.2.1; omega)) (own_cap HO.out) (by omega)).mono ?_
        rw [txtL_join]
        rintro e w' ⟨rfl, hb⟩
        have HB := Lib.hid (Bel_next H.out.2.2 hb)
        clear hb hj
        go_wp2_with fail
        go_ret2
        exact ⟨.inl ⟨HOK.out, rfl⟩, HB.out⟩
/-! ### As the walk of the law calls them -/
theorem specListText_yes (xs : List Int) (hl : xs.length ≤ 1048576) (h64 : in64 xs) (ao : Option Addr) (c : Nat) (w : World) (hx : Holds w ao (il xs)) (h : okI xs) :
    Calls Tryd.prog 19 #[.slice ao xs.length c] w (RetB (.tuple #[.string ⟨(txtL xs).toArray⟩, .bool true]) w) := by
  refine (specListText_any xs _ rfl hl h64 ao c w hx).mono ?_
  rintro e w' ⟨⟨_, he⟩ | ⟨hn, _⟩, hb⟩
  · exact ⟨he, hb⟩
  · exact absurd h hn
theorem specListText_no (xs : List Int) (hl : xs.length ≤ 1048576) (h64 : in64 xs) (ao : Option Addr) (c : Nat) (w : World) (hx : Holds w ao (il xs)) (h : ¬ okI xs) :
    Calls Tryd.prog 19 #[.slice ao xs.length c] w (RetB (.tuple #[.string ⟨#[]⟩, .bool false]) w) := by
  refine (specListText_any xs _ rfl hl h64 ao c w hx).mono ?_
  rintro e w' ⟨⟨hn, _⟩ | ⟨_, he⟩, hb⟩
  · exact absurd hn h
  · exact ⟨he, hb⟩
theorem implListText_yes (xs : List Int) (hl : xs.length ≤ 1048576) (h64 : in64 xs) (ao : Option Addr) (c : Nat) (w : World) (hx : Holds w ao (il xs)) (hT : Pow10 w) (h : okI xs) :
    Calls Tryd.prog 21 #[.slice ao xs.length c] w (RetB (.tuple #[.string ⟨(txtL xs).toArray⟩, .bool true]) w) := by
  refine (implListText_any xs _ rfl hl h64 ao c w hx hT).mono ?_
  rintro e w' ⟨⟨_, he⟩ | ⟨hn, _⟩, hb⟩
  · exact ⟨he, hb⟩
  · exact absurd h hn
theorem implListText_no (xs : List Int) (hl : xs.length ≤ 1048576) (h64 : in64 xs) (ao : Option Addr) (c : Nat) (w : World) (hx : Holds w ao (il xs)) (hT : Pow10 w) (h : ¬ okI xs) :
    Calls Tryd.prog 21 #[.slice ao xs.length c] w (RetB (.tuple #[.string ⟨#[]⟩, .bool false]) w) := by
  refine (implListText_any xs _ rfl hl h64 ao c w hx hT).mono ?_
  rintro e w' ⟨⟨hn, _⟩ | ⟨_, he⟩, hb⟩
  · exact absurd hn h
  · exact ⟨he, hb⟩
end Go.Proofs.YtfgkimhcbboipaaDoor
