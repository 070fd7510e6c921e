/- Hexadecimal texts: digits, and the model's loop. -/
import Derived.Test.YtfgkimhcbboipaaDoorDec
import Derived.Laws.BitsAllLaws
import Derived.Lib.Repeat
namespace Go.Proofs.YtfgkimhcbboipaaDoor
open Go Go.RowKit
set_option linter.unusedVariables false
/-- A digit to the base 16. -/
def hexC (d : Nat) : UInt8 := UInt8.ofNat (if d < 10 then 48 + d else 87 + d)
/-- The digits of a number to the base 16, the first one not 0. -/
def hexD (n : Nat) : List UInt8 := if h : n < 16 then [hexC n] else hexD (n / 16) ++ [hexC (n % 16)]
termination_by n
decreasing_by omega
/-- So many last digits of a number. -/
def hexP : Nat → Nat → List UInt8
  | 0, _ => []
  | c + 1, n => hexP c (n / 16) ++ [hexC (n % 16)]
theorem hexP_len (c : Nat) : ∀ n, (hexP c n).length = c := by
  induction c with
  | zero => intro n; rfl
  | succ c ih => intro n; simp [hexP, ih]
theorem rep_one (c : Nat) : Lib.repeatL [48] c = List.replicate c 48 := by
  induction c with
  | zero => rfl
  | succ c ih => simp [Lib.repeatL, ih, List.replicate_succ]
theorem hexP_zero (c : Nat) : hexP c 0 = List.replicate c 48 := by
  induction c with
  | zero => rfl
  | succ c ih => simp only [hexP, Nat.zero_div, Nat.zero_mod, ih, List.replicate_succ']; rfl
theorem hexD_small {n : Nat} (h : n < 16) : hexD n = [hexC n] := by rw [hexD, dif_pos h]
theorem hexD_big {n : Nat} (h : ¬ n < 16) : hexD n = hexD (n / 16) ++ [hexC (n % 16)] := by rw [hexD, dif_neg h]
theorem hexD_pad (c : Nat) : ∀ n, 1 ≤ c → n < 16 ^ c → (hexD n).length ≤ c ∧ Lib.repeatL [48] (c - (hexD n).length) ++ hexD n = hexP c n := by
  induction c with
  | zero => intro n h; omega
  | succ c ih =>
    intro n _ hn
    by_cases h : n < 16
    · rw [hexD_small h, hexP, show n / 16 = 0 by omega, show n % 16 = n by omega, hexP_zero, rep_one]
      exact ⟨by simp, by simp⟩
    · have hn' : n / 16 < 16 ^ c := by rw [Nat.pow_succ] at hn; omega
      have hc : 1 ≤ c := by
        rcases Nat.eq_zero_or_pos c with h0 | h0
        · subst h0; simp at hn'; omega
        · exact h0
      obtain ⟨h1, h2⟩ := ih (n / 16) hc hn'
      rw [hexD_big h, hexP, ← h2]
      refine ⟨by simp; omega, ?_⟩
      rw [List.length_append, List.length_singleton, show c + 1 - ((hexD (n / 16)).length + 1) = c - (hexD (n / 16)).length by omega, List.append_assoc]
/-- The text of all digits. -/
def hexT : ByteArray := ⟨#[48, 49, 50, 51, 52, 53, 54, 55, 56, 57, 97, 98, 99, 100, 101, 102]⟩
theorem div_hex (x k : Nat) : (x : Int) / 2 ^ (4 * k) = ((x / 16 ^ k : Nat) : Int) := by
  rw [show (16 : Nat) ^ k = 2 ^ (4 * k) from (Nat.pow_mul 2 4 k).symm, Int.natCast_ediv, Int.natCast_pow]
  rfl
theorem and_hex (y : Nat) (hy : y < 18446744073709551616) : bits .and .u64 (y : Int) 15 = ((y % 16 : Nat) : Int) := by
  have := u64_and_nat y 15 hy (by omega)
  rw [show y &&& 15 = y % 16 from Nat.and_two_pow_sub_one_eq_mod y 4] at this
  exact this
theorem hex_at (d : Nat) (h : d < 16) : hexT.data[d]? = some (hexC d) := by
  have : ∀ d : Fin 16, hexT.data[d.val]? = some (hexC d.val) := by decide
  exact this ⟨d, h⟩
theorem hex_get (d : Nat) (h : d < 16) : ∀ h2 : d < hexT.size, hexT[d]'h2 = hexC d := by
  intro h2
  have e := hex_at d h
  rw [Array.getElem?_eq_getElem (show d < hexT.data.size from h2)] at e
  exact Option.some.inj e
theorem hexP_step (x j m : Nat) : hexP j (x / 16 ^ (m + 1)) ++ [hexC (x / 16 ^ m % 16)] = hexP (j + 1) (x / 16 ^ m) := by
  rw [hexP, Nat.div_div_eq_div_mul, Nat.pow_succ]
set_option maxRecDepth 100000 in
set_option maxHeartbeats 1000000 in
theorem l08Hex_any (x : Nat) (hx : x < 18446744073709551616) (w : World) :
    Calls Tryd.prog 111 #[.int .u64 (x : Int)] w (RetB (.string ⟨(hexP 16 x).toArray⟩) w) := by
  have hxi : (x : Int) < 18446744073709551616 := by omega
  go_enter Tryd.func111, Tryd.ntmps111
  go_wp2_with fail
  go_loopw [4, 3] (fun kv ov wr => ∃ (j g c : Nat) (v : Int), j ≤ 16 ∧ v = 15 - (j : Int) ∧ kv = .int .i64 v ∧ ov = .slice (some ⟨g, 0, none⟩) j c ∧ wr.ownsRow w.heap.size 5 1 ov j (Lib.byteCells (hexP j (x / 16 ^ (16 - j)))) ∧ Below w.heap.size w wr) (fun kv _ _ => (intOf kv + 1).toNat)
  case atStart => exact ⟨0, w.heap.size, 0, 15, by omega, rfl, rfl, rfl, World.ownsRow_lit w #[] 0 (Nat.le_refl _) (by decide) rfl, (by repeat (first | with_reducible exact Below.refl _ _ | with_reducible exact HBL | with_reducible refine Below.drew ?_ | with_reducible refine Bel_drewN ?_ _ | with_reducible refine Below.alloc ?_ (by first | omega | (simp; done) | (simp; omega)) _ | with_reducible refine Below.setCell ?_ (by first | omega | (simp; done) | (simp; omega)) _))⟩
  case round =>
    obtain ⟨j, g, c, v, hj, hv, rfl, rfl, hown, hbel⟩ := hrel
    have H := Lib.hid (And.intro hown hbel)
    clear hown hbel
    by_cases hlt : j < 16
    · obtain ⟨k, rfl⟩ : ∃ k : Nat, v = k := ⟨v.toNat, by omega⟩
      have hk : (k : Int) ≤ 15 := by omega
      have HV := Lib.hid (And.intro hv hj)
      have hsh := div_hex x k
      have hand := and_hex (x / 16 ^ k) (Nat.lt_of_le_of_lt (Nat.div_le_self _ _) hx)
      generalize hy : x / 16 ^ k = y at hsh hand
      obtain ⟨d, hd⟩ : ∃ d, y % 16 = d := ⟨_, rfl⟩
      rw [hd] at hand
      have hd16 : d < 16 := by omega
      have HY := Lib.hid (And.intro hy hd)
      have hix : ∀ h2 : d < 16, (⟨#[48, 49, 50, 51, 52, 53, 54, 55, 56, 57, 97, 98, 99, 100, 101, 102]⟩ : ByteArray)[d]'h2 = hexC d := hex_get d hd16
      clear hv hj hy hd
      have hz := H.out.2.size
      go_wp2_with (at_builtin; refine wpList_app1 rfl _ _ 112 rfl w.heap.size 5 (.int .u8 0) 1 Tryd.underlying112 (by kernel_rfl) rfl _ j (Lib.byteCells (hexP j (x / 16 ^ (16 - j)))) rfl (H.out.1.alloc _) wr.heap.size 1 (.int .u8 ((hexC d).toNat : Int)) rfl ((Whole.made wr _ _).cell 0) rfl ⟨by omega, by omega⟩ (by simp; omega) ?_; intro v' w' hown' hgr')
      obtain ⟨g', c', rfl⟩ : ∃ g' c', v' = .slice (some ⟨g', 0, none⟩) (j + 1) c' := by
        rcases hown'.2 with ⟨h1, h2⟩ | ⟨g', cap', cur, h', _⟩
        · have := hown'.1; rw [h2] at this; omega
        · exact ⟨g', cap', h'⟩
      go_wp2_with fail
      go_roundw
      case rel =>
        refine ⟨j + 1, g', c', (k : Int) - 1, by have := HV.out; omega, by have := HV.out; omega, by go_num, rfl, ?_, Below.grown (H.out.2.alloc hz _) hgr' (by simp; omega) (own_ge H.out.1)⟩
        have hj := HV.out
        rw [show 16 - (j + 1) = k by omega, ← hexP_step, HY.out.1, HY.out.2, ← show 16 - j = k + 1 by omega]
        simp only [Lib.byteCells, List.map_append, List.map_cons, List.map_nil]
        exact hown'
      case measure => first | (simp [intOf]; done) | (simp [intOf]; omega)
    · obtain rfl : j = 16 := by omega
      obtain rfl : v = -1 := by omega
      have hconv := own_back H.out.1 (hexP_len _ _)
      go_wp2_with fail
      go_ret
      exact ⟨by simp, H.out.2⟩
end Go.Proofs.YtfgkimhcbboipaaDoor
