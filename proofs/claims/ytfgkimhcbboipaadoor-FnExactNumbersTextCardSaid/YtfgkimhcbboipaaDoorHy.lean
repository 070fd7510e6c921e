/- Hexadecimal texts: the library's base 16 and the code's digits. The table of math/bits is global 7 of the seat of the texts. -/
import Derived.Test.YtfgkimhcbboipaaDoorHx
import Derived.Test.YtfgkimhcbboipaaDoorSr
import Derived.Test.YtfgkimhcbboipaaDoorLtx
namespace Go.Proofs.YtfgkimhcbboipaaDoor
open Go Go.RowKit
set_option linter.unusedVariables false
def deB : List Int := [0, 1, 56, 2, 57, 49, 28, 3, 61, 58, 42, 50, 38, 29, 17, 4, 62, 47, 59, 36, 45, 43, 51, 22, 53, 39, 33, 30, 24, 18, 12, 5, 63, 55, 48, 27, 60, 41, 37, 16, 46, 35, 44, 21, 52, 32, 23, 11, 54, 26, 40, 15, 34, 20, 31, 10, 25, 14, 19, 9, 13, 8, 7, 6]
/-- The table of trailing zeros, in a world. -/
def DeB (w : World) : Prop := Lib.TabIs Tryd.prog w "math/bits.deBruijn64tab" .u8 deB
theorem deb_typed : ((Tryd.prog.globalNamed "math/bits.deBruijn64tab").bind fun g => (Tryd.prog.globals[g]?).map (·.type)) = some 200 := by kernel_rfl
theorem deb_cells : Tryd.prog.cellsOf 200 = 64 := by kernel_rfl
theorem deb_cell : Tryd.prog.cellsOf 5 = 1 := by kernel_rfl
theorem deb_of_laid {l : List (String × DataW Unit)} {W : World} (hp : (l.all fun x => x.2.handleName?.isNone) = true) (hm : ("math/bits.deBruijn64tab", (Lib.tabData .u8 deB : DataW Unit)) ∈ l) (hL : laidMetH Tryd.prog l W) : DeB W := by
  rw [MakeChecks.laidMetH_plain _ _ _ hp] at hL
  obtain ⟨_, hv, _⟩ := hL
  obtain ⟨g, t, cs, fuel, p, hg, ht, hvar, hd⟩ := laid_reads hv _ _ hm
  have h1 := deb_typed
  rw [hg] at h1
  have h2 : (Tryd.prog.globals[g]?).map (·.type) = some 200 := h1
  obtain rfl := Option.some.inj (ht.symm.trans h2)
  unfold DeB Lib.TabIs
  rw [hvar, ← Lib.cells_of_tab Tryd.underlying200 Tryd.underlying5 deb_cell deb_cells hd]
theorem DeB.below {w w' : World} (h : DeB w) (hb : Below w.heap.size w w') : DeB w' := by
  unfold DeB Lib.TabIs World.var? at h ⊢
  cases hg : Tryd.prog.globalNamed "math/bits.deBruijn64tab" with
  | none => rw [hg] at h; cases h
  | some g =>
    rw [hg] at h
    have h' : (match w.heap[g]? with | some (.cells cs _ _) => some cs | _ => none) = some (deB.map fun z => Value.int .u8 z).toArray := h
    have hlt : g < w.heap.size := by
      rcases Nat.lt_or_ge g w.heap.size with h1 | h1
      · exact h1
      · rw [Array.getElem?_eq_none h1] at h'; cases h'
    show (match w'.heap[g]? with | some (.cells cs _ _) => some cs | _ => none) = _
    rw [hb.block g hlt]
    exact h'
theorem DeB.at16 {w : World} (h : DeB w) : w.cell? ⟨7, 15, none⟩ = some (.int .u8 4) := Lib.TabIs.cell (g := 7) h (by kernel_rfl) 15 (by decide)
set_option maxRecDepth 100000 in
theorem tz64_16 (w : World) (hD : DeB w) : Calls Tryd.prog 181 #[.int .u64 16] w (fun e w' => e = .returned (.int .i64 4) ∧ w = w') := by
  have hc := hD.at16
  have hoff : IntKind.u64.wrap (bits .and .u64 16 (IntKind.u64.wrap (-16)) * 285870213051353865) / 288230376151711744 = 15 := by decide +kernel
  go_enter Tryd.func181, Tryd.ntmps181
  go_wp2_with fail
  go_ret
  exact ⟨rfl, rfl⟩
set_option maxRecDepth 100000 in
theorem tz_16 (w : World) (hD : DeB w) : Calls Tryd.prog 164 #[.int .u64 16] w (fun e w' => e = .returned (.int .i64 4) ∧ w = w') := by
  go_enter Tryd.func164, Tryd.ntmps164
  go_wp2_with (first | (go_at_call 181; fail))
  refine (tz64_16 _ hD).mono ?_
  rintro e w' ⟨rfl, rfl⟩
  go_wp2_with fail
  go_ret
  exact ⟨rfl, rfl⟩
theorem pow2_16 (w : World) : Calls Tryd.prog 163 #[.int .i64 16] w (fun e w' => e = .returned (.bool true) ∧ w = w') := by
  go_enter Tryd.func163, Tryd.ntmps163
  go_wp2_with fail
  go_ret
  exact ⟨rfl, rfl⟩
def hexT2 : ByteArray := ⟨List.toArray (48 :: 49 :: 50 :: 51 :: 52 :: 53 :: 54 :: 55 :: 56 :: 57 :: 97 :: 98 :: 99 :: 100 :: 101 :: 102 :: 103 :: 104 :: 105 :: 106 :: 107 :: 108 :: 109 :: 110 :: 111 :: 112 :: 113 :: 114 :: 115 :: 116 :: 117 :: 118 :: 119 :: 120 :: 121 :: 122 :: [])⟩
theorem hex_at2 (d : Nat) (h : d < 16) : hexT2.data[d]? = some (hexC d) := by
  have : ∀ d : Fin 16, hexT2.data[d.val]? = some (hexC d.val) := by decide
  exact this ⟨d, h⟩
theorem hex_get2 (d : Nat) (h : d < 16) : ∀ h2 : d < hexT2.size, hexT2[d]'h2 = hexC d := by
  intro h2
  have e := hex_at2 d h
  rw [Array.getElem?_eq_getElem (show d < hexT2.data.size from h2)] at e
  exact Option.some.inj e
/-- The last digits in the row of 65 bytes. -/
def hexA (cur : Array Value) (l : List UInt8) : Prop := cur.size = 65 ∧ l.length ≤ 65 ∧ ∀ m, m < l.length → cur[65 - l.length + m]? = some (.int .u8 ((l[m]?.getD 0).toNat : Int))
theorem hexA.put {cur : Array Value} {l : List UInt8} (h : hexA cur l) (i : Nat) (hi : i + 1 + l.length = 65) (b : UInt8) : hexA (cur.setIfInBounds i (.int .u8 (b.toNat : Int))) (b :: l) := by
  obtain ⟨h1, h2, h3⟩ := h
  refine ⟨by simpa using h1, by simp; omega, fun m hm => ?_⟩
  rw [List.length_cons] at hm ⊢
  cases m with
  | zero =>
    rw [show 65 - (l.length + 1) + 0 = i by omega, Array.getElem?_setIfInBounds_self_of_lt (by omega)]
    rfl
  | succ m =>
    rw [Array.getElem?_setIfInBounds_ne (by omega), show 65 - (l.length + 1) + (m + 1) = 65 - l.length + m by omega]
    exact h3 m (by omega)
theorem hex_slice (g i : Nat) (hi : i ≤ 64) (w : World) : (Instr.sliceAt 176 (.pointer (some ⟨g, 0, none⟩)) (some (.int .i64 (i : Int))) none none).run Tryd.prog w = .ok (.slice (some ⟨g, i, none⟩) (65 - i) (65 - i)) w := by
  have ha : Tryd.prog.arrayLen 176 = 65 := by kernel_rfl
  have he : Tryd.prog.elem 176 = 5 := by kernel_rfl
  rw [run_sliceAt_array_l w _ ⟨g, 0, none⟩ (by kernel_rfl) .i64 (i : Int) (by omega) (by rw [ha]; omega), ha, he, Tryd.sizeOf5]
  simp only [Result.andThen, slicedAt, Int.toNat_natCast]
  rw [if_neg (by omega)]
  simp [Addr.add]
  omega
theorem hexD_len (n : Nat) (h : n < 18446744073709551616) : (hexD n).length ≤ 16 := (hexD_pad 16 n (by omega) (by omega)).1
set_option maxRecDepth 100000 in
set_option maxHeartbeats 1000000 in
theorem formatBits_16 (n : Nat) (hn : n < 18446744073709551616) (w : World) (hD : DeB w) :
    Calls Tryd.prog 137 #[.slice none 0 0, .int .u64 (n : Int), .int .i64 16, .bool false, .bool false] w (RetB (.tuple #[.slice none 0 0, .string ⟨(hexD n).toArray⟩]) w) := by
  have HD := Lib.hid hD
  clear hD
  go_enter Tryd.func137, Tryd.ntmps137
  go_wp2_with (first | (go_at_call 163; refine (pow2_16 _).mono ?_; rintro e w1 ⟨rfl, rfl⟩) | (go_at_call 164; refine (tz_16 _ (by exact DeB.below HD.out ((by repeat (first | with_reducible exact Below.refl _ _ | with_reducible exact HBL | with_reducible refine Below.drew ?_ | with_reducible refine Bel_drewN ?_ _ | with_reducible refine Below.alloc ?_ (by first | omega | (simp; done) | (simp; omega)) _ | with_reducible refine Below.setCell ?_ (by first | omega | (simp; done) | (simp; omega)) _))))).mono ?_; rintro e w1 ⟨rfl, rfl⟩))
  go_loopw [13, 1] (fun iv uv wr => ∃ (i q : Nat) (l : List UInt8) (cur : Array Value), iv = .int .i64 (i : Int) ∧ uv = .int .u64 (q : Int) ∧ i + l.length = 65 ∧ q ≤ n ∧ hexD n = hexD q ++ l ∧ Whole wr w.heap.size 176 cur ∧ hexA cur l ∧ Below w.heap.size w wr) (fun _ uv _ => (intOf uv).toNat)
  case atStart => exact ⟨65, n, [], _, rfl, rfl, rfl, Nat.le_refl _, by simp, Whole.made _ _ _, ⟨by simp, by simp, fun m hm => absurd hm (Nat.not_lt_zero _)⟩, (by repeat (first | with_reducible exact Below.refl _ _ | with_reducible exact HBL | with_reducible refine Below.drew ?_ | with_reducible refine Bel_drewN ?_ _ | with_reducible refine Below.alloc ?_ (by first | omega | (simp; done) | (simp; omega)) _ | with_reducible refine Below.setCell ?_ (by first | omega | (simp; done) | (simp; omega)) _))⟩
  case round =>
    obtain ⟨i, q, l, cur, rfl, rfl, hil, hqn, hl, hw, hA, hbel⟩ := hrel
    have hll : l.length + (hexD q).length ≤ 16 := by have := hexD_len n hn; rw [hl, List.length_append] at this; omega
    have hq1 : 1 ≤ (hexD q).length := by
      by_cases h : q < 16
      · rw [hexD_small h]; simp
      · rw [hexD_big h]; simp
    have hi49 : 50 ≤ i := by omega
    have hi65 : i ≤ 65 := by omega
    obtain ⟨i, rfl⟩ : ∃ i', i = i' + 1 := ⟨i - 1, by omega⟩
    obtain ⟨u, hcell⟩ : ∃ u, wr.cell? ⟨w.heap.size, i, none⟩ = some u := ⟨cur[i]'(by have := hA.1; omega), by rw [hw.cell]; exact Array.getElem?_eq_getElem _⟩
    have hfr := hw.frozen i
    have hzw := hbel.size
    have hq64 : q < 18446744073709551616 := by omega
    have hqi : (q : Int) < 18446744073709551616 := by omega
    have hi1 : (49 : Int) ≤ i := by omega
    have hi2 : (i : Int) ≤ 64 := by omega
    have H := Lib.hid (And.intro hl (And.intro hw (And.intro hA hbel)))
    have HI := Lib.hid (And.intro hil hqn)
    clear hl hw hA hbel hil hqn hll hq1 hi49 hi65
    have hand := and_hex q hq64
    by_cases hgo : 16 ≤ q
    · have hgo' : (16 : Int) ≤ (q : Int) := by omega
      obtain ⟨d, hd⟩ : ∃ d, q % 16 = d := ⟨_, rfl⟩
      have hd16 : d < 16 := by omega
      rw [hd] at hand
      have hix : ∀ h2 : d < 36, (⟨List.toArray (48 :: 49 :: 50 :: 51 :: 52 :: 53 :: 54 :: 55 :: 56 :: 57 :: 97 :: 98 :: 99 :: 100 :: 101 :: 102 :: 103 :: 104 :: 105 :: 106 :: 107 :: 108 :: 109 :: 110 :: 111 :: 112 :: 113 :: 114 :: 115 :: 116 :: 117 :: 118 :: 119 :: 120 :: 121 :: 122 :: [])⟩ : ByteArray)[d]'h2 = hexC d := hex_get2 d hd16
      obtain ⟨k, hk⟩ : ∃ k, q / 16 = k := ⟨_, rfl⟩
      have hki : (q : Int) / 16 = (k : Int) := by omega
      have HQ := Lib.hid (And.intro hd (And.intro hk hgo))
      clear hd hk hgo
      go_wp2_with fail
      go_roundw
      case rel =>
        obtain ⟨hl, hw, hA, hbel⟩ := H.out
        have hQ := HQ.out
        have hI := HI.out
        refine ⟨i, k, hexC d :: l, _, by go_num, by go_num, by simp; omega, by omega, ?_, hw.put i _, hA.put i (by omega) _, ?_⟩
        · rw [hl, hexD_big (n := q) (by omega), hQ.1, hQ.2.1, List.append_assoc]; rfl
        · have HBL := hbel; exact (by repeat (first | with_reducible exact Below.refl _ _ | with_reducible exact HBL | with_reducible refine Below.drew ?_ | with_reducible refine Bel_drewN ?_ _ | with_reducible refine Below.alloc ?_ (by first | omega | (simp; done) | (simp; omega)) _ | with_reducible refine Below.setCell ?_ (by first | omega | (simp; done) | (simp; omega)) _))
      case measure => have hQ := HQ.out; simp [intOf]; omega
    · have hgo' : (q : Int) < 16 := by omega
      have hq16 : q < 16 := by omega
      have hge : decide ((16 : Int) ≤ (q : Int)) = false := by simp; omega
      clear hand
      have hix : ∀ h2 : q < 36, (⟨List.toArray (48 :: 49 :: 50 :: 51 :: 52 :: 53 :: 54 :: 55 :: 56 :: 57 :: 97 :: 98 :: 99 :: 100 :: 101 :: 102 :: 103 :: 104 :: 105 :: 106 :: 107 :: 108 :: 109 :: 110 :: 111 :: 112 :: 113 :: 114 :: 115 :: 116 :: 117 :: 118 :: 119 :: 120 :: 121 :: 122 :: [])⟩ : ByteArray)[q]'h2 = hexC q := hex_get2 q hq16
      clear hgo
      have hconv : (convert 112 9 (.slice (some ⟨w.heap.size, i, none⟩) (65 - i) (65 - i))).run Tryd.prog (wr.setCell ⟨w.heap.size, i, none⟩ (.int .u8 ((hexC q).toNat : Int))) = .ok (.string ⟨(hexD n).toArray⟩) (wr.setCell ⟨w.heap.size, i, none⟩ (.int .u8 ((hexC q).toNat : Int))) := by
        obtain ⟨hl, hw, hA, hbel⟩ := H.out
        have hI := HI.out
        have e : hexD n = hexC q :: l := by rw [hl, hexD_small hq16]; rfl
        have e2 : (hexC q :: l).length = 65 - i := by simp; omega
        rw [e, ← e2]
        refine run_convert_bytes_back _ _ _ 5 ⟨w.heap.size, i, none⟩ _ (hexC q :: l) Tryd.underlying112 Tryd.underlying5 Tryd.underlying9 ?_
        intro j hj
        rw [show (Addr.add ⟨w.heap.size, i, none⟩ j) = ⟨w.heap.size, i + j, none⟩ from by simp [Addr.add]]
        rw [(hw.put i _).cell]
        have := (hA.put i (by omega) (hexC q)).2.2 j hj
        rw [e2, show 65 - (65 - i) + j = i + j by omega] at this
        rw [this, List.getElem?_eq_getElem hj]
        rfl
      have HC : Hid (Below w.heap.size w (wr.setCell ⟨w.heap.size, i, none⟩ (.int .u8 ((hexC q).toNat : Int)))) := Lib.hid (by have HBL := H.out.2.2.2; exact (by repeat (first | with_reducible exact Below.refl _ _ | with_reducible exact HBL | with_reducible refine Below.drew ?_ | with_reducible refine Bel_drewN ?_ _ | with_reducible refine Below.alloc ?_ (by first | omega | (simp; done) | (simp; omega)) _ | with_reducible refine Below.setCell ?_ (by first | omega | (simp; done) | (simp; omega)) _)))
      have hsl := fun w' => hex_slice w.heap.size i (by omega) w'
      go_wp2_with fail
      go_ret2
      exact ⟨rfl, HC.out⟩
theorem fmtUint_16 (n : Nat) (hn : n < 18446744073709551616) (w : World) (hD : DeB w) :
    Calls Tryd.prog 149 #[.int .u64 (n : Int), .int .i64 16] w (RetB (.string ⟨(hexD n).toArray⟩) w) := by
  have HD := Lib.hid hD
  clear hD
  go_enter Tryd.func149, Tryd.ntmps149
  go_wp2_with (first | (go_at_call 137; fail))
  refine (formatBits_16 n hn _ (by exact DeB.below HD.out ((by repeat (first | with_reducible exact Below.refl _ _ | with_reducible exact HBL | with_reducible refine Below.drew ?_ | with_reducible refine Bel_drewN ?_ _ | with_reducible refine Below.alloc ?_ (by first | omega | (simp; done) | (simp; omega)) _ | with_reducible refine Below.setCell ?_ (by first | omega | (simp; done) | (simp; omega)) _))))).mono ?_
  rintro e w1 ⟨rfl, hb⟩
  have HB := Lib.hid hb
  clear hb
  go_wp2_with fail
  go_ret
  exact ⟨rfl, by have HBL := HB.out; exact (by repeat (first | with_reducible exact Below.refl _ _ | with_reducible exact HBL | with_reducible refine Below.drew ?_ | with_reducible refine Bel_drewN ?_ _ | with_reducible refine Below.alloc ?_ (by first | omega | (simp; done) | (simp; omega)) _ | with_reducible refine Below.setCell ?_ (by first | omega | (simp; done) | (simp; omega)) _))⟩
theorem formatUint_16 (n : Nat) (hn : n < 18446744073709551616) (w : World) (hD : DeB w) :
    Calls Tryd.prog 112 #[.int .u64 (n : Int), .int .i64 16] w (RetB (.string ⟨(hexD n).toArray⟩) w) := by
  have HD := Lib.hid hD
  clear hD
  go_enter Tryd.func112, Tryd.ntmps112
  go_wp2_with (first | (go_at_call 149; fail))
  refine (fmtUint_16 n hn _ (by exact DeB.below HD.out ((by repeat (first | with_reducible exact Below.refl _ _ | with_reducible exact HBL | with_reducible refine Below.drew ?_ | with_reducible refine Bel_drewN ?_ _ | with_reducible refine Below.alloc ?_ (by first | omega | (simp; done) | (simp; omega)) _ | with_reducible refine Below.setCell ?_ (by first | omega | (simp; done) | (simp; omega)) _))))).mono ?_
  rintro e w1 ⟨rfl, hb⟩
  have HB := Lib.hid hb
  clear hb
  go_wp2_with fail
  go_ret
  exact ⟨rfl, by have HBL := HB.out; exact (by repeat (first | with_reducible exact Below.refl _ _ | with_reducible exact HBL | with_reducible refine Below.drew ?_ | with_reducible refine Bel_drewN ?_ _ | with_reducible refine Below.alloc ?_ (by first | omega | (simp; done) | (simp; omega)) _ | with_reducible refine Below.setCell ?_ (by first | omega | (simp; done) | (simp; omega)) _))⟩
set_option maxRecDepth 100000 in
theorem hexDigits_any (n c : Nat) (hn : n < 16 ^ c) (hc : 1 ≤ c ∧ c ≤ 16) (hn64 : n < 18446744073709551616) (w : World) (hD : DeB w) :
    Calls Tryd.prog 78 #[.int .u64 (n : Int), .int .i64 (c : Int)] w (RetB (.string ⟨(hexP c n).toArray⟩) w) := by
  have HD := Lib.hid hD
  have HN := Lib.hid (hexD_pad c n hc.1 hn)
  clear hD hn
  have hc1 : (c : Int) ≤ 16 := by omega
  go_enter Tryd.func78, Tryd.ntmps78
  go_wp2_with (first | (go_at_call 112; fail))
  refine (formatUint_16 n hn64 _ (by exact DeB.below HD.out ((by repeat (first | with_reducible exact Below.refl _ _ | with_reducible exact HBL | with_reducible refine Below.drew ?_ | with_reducible refine Bel_drewN ?_ _ | with_reducible refine Below.alloc ?_ (by first | omega | (simp; done) | (simp; omega)) _ | with_reducible refine Below.setCell ?_ (by first | omega | (simp; done) | (simp; omega)) _))))).mono ?_
  rintro e w1 ⟨rfl, hb⟩
  have HB := Lib.hid hb
  clear hb
  obtain ⟨m, hm⟩ : ∃ m, (hexD n).length = m := ⟨_, rfl⟩
  have hsz : (⟨(hexD n).toArray⟩ : ByteArray).size = m := by rw [← hm]; simp [ByteArray.size]
  have hmc : m ≤ c := by rw [← hm]; exact HN.out.1
  obtain ⟨k, hk⟩ : ∃ k, c - m = k := ⟨_, rfl⟩
  have hsub : (c : Int) - (m : Int) = (k : Int) := by omega
  have hk16 : (k : Int) ≤ 16 := by omega
  have hadd : ∀ w, (Op.stringOp .add ⟨(Lib.repeatL [48] k).toArray⟩ ⟨(hexD n).toArray⟩).run Tryd.prog w = .ok (.string ⟨(hexP c n).toArray⟩) w := fun w => by
    have := add_run (P := Tryd.prog) (Lib.repeatL [48] k) (hexD n) (by rw [Lib.repeatL_length, hm]; simp; omega) w
    rw [← HN.out.2, hm, hk]; exact this
  have hmi : (m : Int) ≤ 16 := by omega
  clear hm hk hmc HN
  generalize (⟨(hexD n).toArray⟩ : ByteArray) = S at *
  go_wp2_with (first | (go_at_call 113; fail))
  refine (Tryd.repeatS ⟨#[48]⟩ k _ (by omega) (by show 1 * k ≤ _; omega)).mono ?_
  rintro e w2 ⟨rfl, hb2⟩
  have HB2 : Hid (Below w.heap.size w w2) := Lib.hid (by have HBL := HB.out; exact Bel_next ((by repeat (first | with_reducible exact Below.refl _ _ | with_reducible exact HBL | with_reducible refine Below.drew ?_ | with_reducible refine Bel_drewN ?_ _ | with_reducible refine Below.alloc ?_ (by first | omega | (simp; done) | (simp; omega)) _ | with_reducible refine Below.setCell ?_ (by first | omega | (simp; done) | (simp; omega)) _))) hb2)
  clear hb2
  go_wp2_with fail
  go_ret
  exact ⟨rfl, HB2.out⟩
end Go.Proofs.YtfgkimhcbboipaaDoor
