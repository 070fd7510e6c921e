/- Texts of numbers: eight hexadecimal digits each; both sides. -/
import Derived.Test.YtfgkimhcbboipaaDoorHy
import Derived.Test.YtfgkimhcbboipaaDoorSdt
import Derived.Test.YtfgkimhcbboipaaDoorFr
namespace Go.Proofs.YtfgkimhcbboipaaDoor
open Go Go.RowKit Fl
set_option linter.unusedVariables false
theorem and_hexI (y : Nat) (hy : y < 9223372036854775808) : bits .and .i64 (y : Int) 15 = ((y % 16 : Nat) : Int) := by
  have := i64_and_nat y 15 hy (by omega)
  rw [show y &&& 15 = y % 16 from Nat.and_two_pow_sub_one_eq_mod y 4] at this
  exact this
theorem bitsA_lt {a : Nat} {v : Option Nat} (h : Fv .f32 v a) : bitsA v < 4294967296 := by
  cases v with
  | none => decide
  | some c => have h1 : a < 4294967296 := h.1; obtain rfl := av_eq h.2; exact h1
/-- The text of a number. -/
def hx8 (v : Option Nat) : List UInt8 := hexP 8 (bitsA v)
theorem hx8_len (v : Option Nat) : (hx8 v).length = 8 := hexP_len 8 _
set_option maxRecDepth 100000 in
set_option maxHeartbeats 1000000 in
theorem l01Hex_any (a : Nat) (v : Option Nat) (ha : Fv .f32 v a) (w : World) :
    Calls Tryd.prog 104 #[.float .f32 a] w (RetB (.string ⟨(hx8 v).toArray⟩) w) := by
  have HA := Lib.hid ha
  have hx32 := bitsA_lt ha
  unfold hx8
  clear ha
  go_enter Tryd.func104, Tryd.ntmps104
  go_wp2_with (first | (go_at_call 107; fail))
  refine (l01Bits_any _ _ HA.out _).mono ?_
  rintro e w1 ⟨rfl, rfl⟩
  generalize bitsA v = x at *
  have hx63 : x < 9223372036854775808 := by omega
  go_wp2_with fail
  go_loopw [5, 4] (fun kv ov wr => ∃ (j g c : Nat) (v : Int), j ≤ 8 ∧ v = 28 - 4 * (j : Int) ∧ kv = .int .i64 v ∧ ov = .slice (some ⟨g, 0, none⟩) j c ∧ wr.ownsRow w.heap.size 5 1 ov j (Lib.byteCells (hexP j (x / 16 ^ (8 - j)))) ∧ Below w.heap.size w wr) (fun kv _ _ => (intOf kv + 4).toNat)
  case atStart => exact ⟨0, w.heap.size, 0, 28, by omega, rfl, rfl, rfl, World.ownsRow_lit w #[] 0 (Nat.le_refl _) (by decide) rfl, (by repeat (first | with_reducible exact Below.refl _ _ | with_reducible exact HBL | with_reducible refine Below.drew ?_ | with_reducible refine Bel_drewN ?_ _ | with_reducible refine Below.alloc ?_ (by first | omega | (simp; done) | (simp; omega)) _ | with_reducible refine Below.setCell ?_ (by first | omega | (simp; done) | (simp; omega)) _))⟩
  case round =>
    obtain ⟨j, g, c, v, hj, hv, rfl, rfl, hown, hbel⟩ := hrel
    have H := Lib.hid (And.intro hown hbel)
    clear hown hbel
    by_cases hlt : j < 8
    · obtain ⟨q, rfl⟩ : ∃ q : Nat, v = q := ⟨v.toNat, by omega⟩
      obtain ⟨m, hm⟩ : ∃ m, 7 - j = m := ⟨_, rfl⟩
      have hq : 4 * m = q := by omega
      have hqi : (q : Int) ≤ 28 := by omega
      have HV := Lib.hid (And.intro hv (And.intro hj (And.intro hm hq)))
      have hsh : (x : Int) / 2 ^ q = ((x / 16 ^ m : Nat) : Int) := by rw [← hq]; exact div_hex x m
      have hand := and_hexI (x / 16 ^ m) (Nat.lt_of_le_of_lt (Nat.div_le_self _ _) hx63)
      generalize hy : x / 16 ^ m = y at hsh hand
      obtain ⟨d, hd⟩ : ∃ d, y % 16 = d := ⟨_, rfl⟩
      rw [hd] at hand
      have hd16 : d < 16 := by omega
      have HY := Lib.hid (And.intro hy hd)
      have hix : ∀ h2 : d < 16, (⟨#[48, 49, 50, 51, 52, 53, 54, 55, 56, 57, 97, 98, 99, 100, 101, 102]⟩ : ByteArray)[d]'h2 = hexC d := hex_get d hd16
      clear hv hj hy hd hm hq
      have hz := H.out.2.size
      go_wp2_with (at_builtin; refine wpList_app1 rfl _ _ 112 rfl w.heap.size 5 (.int .u8 0) 1 Tryd.underlying112 (by kernel_rfl) rfl _ j (Lib.byteCells (hexP j (x / 16 ^ (8 - j)))) rfl (H.out.1.alloc _) wr.heap.size 1 (.int .u8 ((hexC d).toNat : Int)) rfl ((Whole.made wr _ _).cell 0) rfl ⟨by omega, by omega⟩ (by simp; omega) ?_; intro v' w' hown' hgr')
      obtain ⟨g', c', rfl⟩ : ∃ g' c', v' = .slice (some ⟨g', 0, none⟩) (j + 1) c' := by
        rcases hown'.2 with ⟨h1, h2⟩ | ⟨g', cap', cur, h', _⟩
        · have := hown'.1; rw [h2] at this; omega
        · exact ⟨g', cap', h'⟩
      go_wp2_with fail
      go_roundw
      case rel =>
        refine ⟨j + 1, g', c', (q : Int) - 4, by have := HV.out; omega, by have := HV.out; omega, by go_num, rfl, ?_, Below.grown (H.out.2.alloc hz _) hgr' (by simp; omega) (own_ge H.out.1)⟩
        have hj := HV.out
        rw [show 8 - (j + 1) = m by omega, ← hexP_step, HY.out.1, HY.out.2, ← show 8 - j = m + 1 by omega]
        simp only [Lib.byteCells, List.map_append, List.map_cons, List.map_nil]
        exact hown'
      case measure => first | (simp [intOf]; done) | (simp [intOf]; omega)
    · obtain rfl : j = 8 := by omega
      obtain rfl : v = -4 := by omega
      have hconv := own_back H.out.1 (hexP_len _ _)
      go_wp2_with fail
      go_ret
      exact ⟨by simp, H.out.2⟩
theorem hexDigits8 (n : Nat) (hn : n < 4294967296) (w : World) (hD : DeB w) :
    Calls Tryd.prog 78 #[.int .u64 (n : Int), .int .i64 8] w (RetB (.string ⟨(hexP 8 n).toArray⟩) w) := hexDigits_any n 8 (by rw [show (16 : Nat) ^ 8 = 4294967296 by decide]; exact hn) (by omega) (by omega) w hD
theorem digitsOf_any (a : Nat) (v : Option Nat) (ha : Fv .f32 v a) (w : World) (hD : DeB w) :
    Calls Tryd.prog 69 #[.float .f32 a] w (RetB (.string ⟨(hx8 v).toArray⟩) w) := by
  have HA := Lib.hid (And.intro ha hD)
  have hx32 := bitsA_lt ha
  unfold hx8
  clear ha hD
  go_enter Tryd.func69, Tryd.ntmps69
  go_wp2_with (first | (go_at_call 105; fail))
  refine (BitsOf_any _ _ HA.out.1 _).mono ?_
  rintro e w1 ⟨rfl, rfl⟩
  generalize bitsA v = x at *
  have hxi : (x : Int) < 4294967296 := by omega
  go_wp2_with (first | (go_at_call 78; fail))
  refine (hexDigits8 x hx32 _ HA.out.2).mono ?_
  rintro e w2 ⟨rfl, hb⟩
  have HB := Lib.hid hb
  clear hb
  go_wp2_with fail
  go_ret
  exact ⟨rfl, HB.out⟩
/-- The texts of all numbers, and the text of a list. -/
def nts (xs : List Nat) : List (List UInt8) := xs.map fun a => hx8 (av .f32 a)
def txtN (xs : List Nat) : List UInt8 := if nts xs = [] then [110, 111, 110, 101] else Lib.join (nts xs) [44]
theorem txtN_join (xs : List Nat) : (if nts xs = [] then [110, 111, 110, 101] else Lib.join (nts xs) [44]) = txtN xs := rfl
theorem nts_len (xs : List Nat) : (nts xs).length = xs.length := by simp [nts]
theorem nts_next (xs : List Nat) (k : Nat) (h : k < xs.length) : nts (xs.take (k + 1)) = nts (xs.take k) ++ [hx8 (av .f32 (xs[k]?.getD 0))] := by
  rw [List.take_add_one, List.getElem?_eq_getElem h]
  unfold nts
  rw [List.map_append]
  rfl
theorem nts_join (xs : List Nat) (k : Nat) (h1 : 1 ≤ k) (h : k < xs.length) : Lib.join (nts (xs.take (k + 1))) [44] = Lib.join (nts (xs.take k)) [44] ++ (44 :: hx8 (av .f32 (xs[k]?.getD 0))) := by
  rw [nts_next xs k h, join_snoc _ _ _ (List.ne_nil_of_length_pos (by rw [nts_len, List.length_take]; omega))]
  simp
theorem nts_one (xs : List Nat) (h : 0 < xs.length) : Lib.join (nts (xs.take 1)) [44] = hx8 (av .f32 (xs[0]?.getD 0)) := by
  rw [nts_next xs 0 h]
  simp [nts, Lib.join_one]
theorem nts_size (xs : List Nat) : ∀ k, k ≤ xs.length → (Lib.join (nts (xs.take k)) [44]).length ≤ 9 * k
  | 0, _ => by simp [nts, Lib.join_nil]
  | k + 1, h => by
    rcases Nat.eq_zero_or_pos k with h0 | h0
    · subst h0; rw [nts_one xs (by omega), hx8_len]; omega
    · have := nts_size xs k (by omega)
      rw [nts_join xs k h0 (by omega), List.length_append, List.length_cons, hx8_len]; omega
theorem fv_self (a : Nat) (h : a < 4294967296) : Fv .f32 (av .f32 a) a := ⟨h, rfl⟩
set_option maxRecDepth 100000 in
set_option maxHeartbeats 1000000 in
theorem l01NText_any (xs : List Nat) (n : Nat) (hn : xs.length = n) (hl : n ≤ 256) (h32 : ∀ k : Nat, xs[k]?.getD 0 < 4294967296) (ao : Option Addr) (c : Nat) (w : World) (hx : Holds w ao (fl .f32 xs)) :
    Calls Tryd.prog 68 #[.slice ao n c] w (RetB (.string ⟨(txtN xs).toArray⟩) w) := by
  have HX := Lib.hid (And.intro hx (And.intro hn h32))
  clear hx hn h32
  by_cases h0 : n = 0
  · have HE : Hid (txtN xs = [110, 111, 110, 101]) := Lib.hid (by unfold txtN; rw [if_pos (List.length_eq_zero_iff.1 (by rw [nts_len]; have := HX.out.2.1; omega))])
    subst h0
    rw [HE.out]
    go_enter Tryd.func68, Tryd.ntmps68
    go_wp2_with fail
    go_ret
    exact ⟨rfl, Below.refl _ _⟩
  · have HE : Hid (txtN xs = Lib.join (nts (xs.take n)) [44]) := Lib.hid (by unfold txtN; rw [if_neg (List.ne_nil_of_length_pos (by rw [nts_len]; have := HX.out.2.1; omega)), List.take_of_length_le (by have := HX.out.2.1; omega)])
    rw [HE.out]
    have hz : ((n : Int) == 0) = false := by rw [beq_eq_false_iff_ne]; omega
    have hn1 : (0 : Int) < n := by omega
    obtain ⟨b, o, hao, hc⟩ := HX.out.1 0 (by rw [fl_len]; have := HX.out.2.1; omega)
    rw [fl_get _ _ _ (by have := HX.out.2.1; omega), Nat.add_zero] at hc
    subst hao
    have HK := Lib.hid (And.intro (fv_self _ (HX.out.2.2 0)) (nts_one xs (by have := HX.out.2.1; omega)))
    generalize xs[0]?.getD 0 = x at hc HK
    go_enter Tryd.func68, Tryd.ntmps68
    go_wp2_with (first | (go_at_call 104; fail))
    refine (l01Hex_any x _ HK.out.1 _).mono ?_
    rintro e w1 ⟨rfl, hb1⟩
    rw [← HK.out.2]
    have HB1 := Lib.hid hb1
    clear hb1 hc HK
    go_wp2_with fail
    go_loopw [3, 4] (fun out i wr => ∃ k : Nat, 1 ≤ k ∧ k ≤ n ∧ i = .int .i64 k ∧ out = .string ⟨(Lib.join (nts (xs.take k)) [44]).toArray⟩ ∧ Below w.heap.size w wr) (fun _ i _ => n - (intOf i).toNat)
    case atStart => exact ⟨1, Nat.le_refl _, by omega, rfl, rfl, HB1.out⟩
    case round =>
      obtain ⟨k, hk1, hk, rfl, rfl, hbel⟩ := hrel
      have HB := Lib.hid hbel
      clear hbel HB1
      by_cases hlt : k < n
      · obtain ⟨b', o', hao, hc⟩ := HX.out.1 k (by rw [fl_len]; have := HX.out.2.1; omega)
        obtain ⟨rfl, rfl⟩ : b = b' ∧ o = o' := by simpa using hao
        have hc := (Below.cell HB.out (World.block_lt_of_cell? _ _ hc)).trans hc
        rw [fl_get _ _ _ (by have := HX.out.2.1; omega)] at hc
        have hlt' : (k : Int) < n := by omega
        have HK := Lib.hid (And.intro (fv_self _ (HX.out.2.2 k)) (nts_join xs k hk1 (by have := HX.out.2.1; omega)))
        have hl2 := nts_size xs k (by have := HX.out.2.1; omega)
        generalize xs[k]?.getD 0 = x at hc HK
        obtain ⟨J, hJ⟩ : ∃ J, Lib.join (nts (xs.take k)) [44] = J := ⟨_, rfl⟩
        obtain ⟨t, ht⟩ : ∃ t, hx8 (av .f32 x) = t := ⟨_, rfl⟩
        have htl : t.length = 8 := by rw [← ht]; exact hx8_len _
        have hnx : Lib.join (nts (xs.take (k + 1))) [44] = J ++ (44 :: t) := by rw [HK.out.2, hJ, ht]
        rw [hJ] at hl2 ⊢
        have ha1 : ∀ w, (Op.stringOp .add ⟨#[44]⟩ ⟨t.toArray⟩).run Tryd.prog w = .ok (.string ⟨(44 :: t).toArray⟩) w := fun w => add_run [44] t (by simp; omega) w
        have ha2 : ∀ w, (Op.stringOp .add ⟨J.toArray⟩ ⟨(44 :: t).toArray⟩).run Tryd.prog w = .ok (.string ⟨(J ++ (44 :: t)).toArray⟩) w := fun w => add_run J (44 :: t) (by simp; omega) w
        rw [← hnx] at ha2
        have HT := Lib.hid ht
        clear hl2 hnx htl hJ ht
        go_wp2_with (first | (go_at_call 104; fail))
        refine (l01Hex_any x _ HK.out.1 _).mono ?_
        rw [HT.out]
        rintro e w2 ⟨rfl, hb2⟩
        have HB2 := Lib.hid (Bel_next HB.out hb2)
        clear hb2 hc
        go_wp2_with fail
        go_roundw
        case rel => exact ⟨k + 1, by omega, by omega, by go_num, rfl, HB2.out⟩
        case measure => simp [intOf]; omega
      · obtain rfl : k = n := by omega
        go_wp2_with fail
        go_ret
        exact ⟨rfl, HB.out⟩
theorem specNText_yes (xs : List Nat) (n : Nat) (hn : xs.length = n) (hl : n ≤ 256) (h32 : ∀ k : Nat, xs[k]?.getD 0 < 4294967296) (ao : Option Addr) (c : Nat) (w : World) (hx : Holds w ao (fl .f32 xs)) :
    Calls Tryd.prog 27 #[.slice ao n c] w (RetB (.tuple #[.string ⟨(txtN xs).toArray⟩, .bool true]) w) := by
  have HX := Lib.hid (And.intro hx (And.intro hn h32))
  have hd : decide ((n : Int) ≤ 256) = true := decide_eq_true (by omega)
  clear hx hn h32
  go_enter Tryd.func27, Tryd.ntmps27
  go_wp2_with (first | (go_at_call 67; fail))
  refine (l01Few_any _ _ _ _).mono ?_
  rintro e w1 ⟨rfl, rfl⟩
  rw [hd]
  go_wp2_with (first | (go_at_call 68; fail))
  refine (l01NText_any xs n HX.out.2.1 hl HX.out.2.2 _ _ _ HX.out.1).mono ?_
  rintro e w2 ⟨rfl, hb⟩
  have HB := Lib.hid hb
  clear hb
  go_wp2_with fail
  go_ret2
  exact ⟨rfl, HB.out⟩
theorem specNText_no (n : Nat) (hl : 256 < n) (ao : Option Addr) (c : Nat) (w : World) :
    Calls Tryd.prog 27 #[.slice ao n c] w (RetB (.tuple #[.string ⟨#[]⟩, .bool false]) w) := by
  have hd : decide ((n : Int) ≤ 256) = false := decide_eq_false (by omega)
  go_enter Tryd.func27, Tryd.ntmps27
  go_wp2_with (first | (go_at_call 67; fail))
  refine (l01Few_any _ _ _ _).mono ?_
  rintro e w1 ⟨rfl, rfl⟩
  rw [hd]
  go_wp2_with fail
  go_ret2
  exact ⟨rfl, Below.refl _ _⟩
theorem strs_next (xs : List Nat) (k : Nat) (h : k < xs.length) : strs (nts (xs.take (k + 1))) = strs (nts (xs.take k)) ++ [.string ⟨(hx8 (av .f32 (xs[k]?.getD 0))).toArray⟩] := by
  rw [nts_next xs k h]
  unfold strs
  rw [List.map_append]
  rfl
set_option maxRecDepth 100000 in
set_option maxHeartbeats 1000000 in
theorem implNText_yes (xs : List Nat) (n : Nat) (hn : xs.length = n) (hl : n ≤ 256) (h32 : ∀ k : Nat, xs[k]?.getD 0 < 4294967296) (ao : Option Addr) (c : Nat) (w : World) (hx : Holds w ao (fl .f32 xs)) (hT : Tabs w) :
    Calls Tryd.prog 29 #[.slice ao n c] w (RetB (.tuple #[.string ⟨(txtN xs).toArray⟩, .bool true]) w) := by
  have HX := Lib.hid (And.intro hx (And.intro hn (And.intro h32 hT)))
  have hli : (n : Int) ≤ 256 := by omega
  clear hx hn h32 hT
  have hmk := run_mkS (P := Tryd.prog) w 76 9 n Tryd.underlying76 (by kernel_rfl) (by omega)
  have ho0 : Hid ((w.alloc (.cells (Array.replicate n (.string ⟨#[]⟩)) 9)).ownsRow w.heap.size 9 1 (.slice (some ⟨w.heap.size, 0, none⟩) 0 n) 0 []) := Lib.hid (World.ownsRow_made w _ n (Nat.le_refl _) (by unfold maxLen; omega) (by simp))
  go_enter Tryd.func29, Tryd.ntmps29
  go_wp2_with fail
  go_loopw [4, 15] (fun ps i wr => ∃ (k : Nat) (bo : Option Addr) (d : Nat), k ≤ n ∧ i = .int .i64 k ∧ ps = .slice bo k d ∧ wr.ownsRow w.heap.size 9 1 ps k (strs (nts (xs.take k))) ∧ Below w.heap.size w wr) (fun _ i _ => n - (intOf i).toNat)
  case atStart => exact ⟨0, _, n, Nat.zero_le _, rfl, rfl, ho0.out, (by repeat (first | with_reducible exact Below.refl _ _ | with_reducible exact HBL | with_reducible refine Below.drew ?_ | with_reducible refine Bel_drewN ?_ _ | with_reducible refine Below.alloc ?_ (by first | omega | (simp; done) | (simp; omega)) _ | with_reducible refine Below.setCell ?_ (by first | omega | (simp; done) | (simp; omega)) _))⟩
  case round =>
    obtain ⟨k, bo, d, hk, rfl, rfl, hown, hbel⟩ := hrel
    have H := Lib.hid (And.intro hown hbel)
    clear hown hbel ho0 hmk
    by_cases hlt : k < n
    · obtain ⟨b, o, hao, hc⟩ := HX.out.1 k (by rw [fl_len]; have := HX.out.2.1; omega)
      have hc := (Below.cell H.out.2 (World.block_lt_of_cell? _ _ hc)).trans hc
      rw [fl_get _ _ _ (by have := HX.out.2.1; omega)] at hc
      subst hao
      have hlt' : (k : Int) < n := by omega
      have HK := Lib.hid (And.intro (fv_self _ (HX.out.2.2.1 k)) (strs_next xs k (by have := HX.out.2.1; omega)))
      generalize xs[k]?.getD 0 = x at hc HK
      go_wp2_with (first | (go_at_call 69; fail))
      refine (digitsOf_any x _ HK.out.1 _ (HX.out.2.2.2.2.below H.out.2)).mono ?_
      rintro e w2 ⟨rfl, hb2⟩
      have H2 : Hid (w2.ownsRow w.heap.size 9 1 (.slice bo k d) k (strs (nts (xs.take k))) ∧ Below w.heap.size w w2 ∧ w.heap.size ≤ w2.heap.size) := Lib.hid ⟨own_bel H.out.1 hb2, Bel_next H.out.2 hb2, (Bel_next H.out.2 hb2).size⟩
      clear hb2 hc
      go_wp2_with (at_builtin; refine wpList_app1 rfl _ _ 76 rfl w.heap.size 9 (.string ⟨#[]⟩) 16 Tryd.underlying76 (by kernel_rfl) rfl _ k (strs (nts (xs.take k))) rfl (H2.out.1.alloc _) w2.heap.size 1 (.string ⟨(hx8 (av .f32 x)).toArray⟩) rfl ((Whole.made w2 _ _).cell 0) rfl ⟨by omega, by omega⟩ (by have := H2.out.2.2; simp; omega) ?_; intro v' w' hown' hgr')
      obtain ⟨bo', d', rfl⟩ := own_form hown'
      go_wp2_with fail
      go_roundw
      case rel =>
        refine ⟨k + 1, bo', d', by omega, by go_num, rfl, ?_, ?_⟩
        · rw [HK.out.2]; exact hown'
        · exact Below.grown (H2.out.2.1.alloc H2.out.2.2 _) hgr' (by have := H2.out.2.2; simp; omega) (own_ge H2.out.1)
      case measure => simp [intOf]; omega
    · obtain rfl : k = n := by omega
      have e1 : xs.take k = xs := List.take_of_length_le (by have := HX.out.2.1; omega)
      have hown := H.out.1
      rw [e1] at hown
      have hjl : (Lib.join (nts xs) [44]).length ≤ 1000000 := by have := nts_size xs k (by have := HX.out.2.1; omega); rw [e1] at this; omega
      have hj := fun w' => joinParts_any (nts xs) k (by rw [nts_len]; exact HX.out.2.1) w.heap.size bo d w'
      have HO := Lib.hid hown
      clear hown e1
      go_wp2_with (first | (go_at_call 64; fail))
      refine (hj _ HO.out hjl (own_cap HO.out) (by omega)).mono ?_
      rw [txtN_join]
      rintro e w' ⟨rfl, hb⟩
      have HB := Lib.hid (Bel_next H.out.2 hb)
      clear hb hj
      go_wp2_with fail
      go_ret2
      exact ⟨rfl, HB.out⟩
theorem implNText_no (n : Nat) (hl : 256 < n) (ao : Option Addr) (c : Nat) (w : World) :
    Calls Tryd.prog 29 #[.slice ao n c] w (RetB (.tuple #[.string ⟨#[]⟩, .bool false]) w) := by
  have hli : (256 : Int) < n := by omega
  go_enter Tryd.func29, Tryd.ntmps29
  go_wp2_with fail
  go_ret2
  exact ⟨rfl, Below.refl _ _⟩
theorem bits_of {xs : List Nat} (h : ∀ x ∈ xs, (Lit.float .f32 x).wf = true) (k : Nat) : xs[k]?.getD 0 < 4294967296 := by
  rcases Nat.lt_or_ge k xs.length with h1 | h1
  · rw [List.getElem?_eq_getElem h1]
    have := h _ (List.getElem_mem h1)
    simpa [Lit.wf] using this
  · rw [List.getElem?_eq_none h1]; simp
end Go.Proofs.YtfgkimhcbboipaaDoor
