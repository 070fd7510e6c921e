/- RankOfBits of the code. -/
import Derived.Test.YticmnkgcolgpaaaRkm
import Derived.Test.YticmnkgcolgpaaaWd
import Derived.Test.YticmnkgcolgpaaaTl
namespace Go.Proofs.Yticmnkgcolgpaaa
open Go Go.RowKit
set_option linter.unusedVariables false
def natL (xs : List Int) : List Nat := xs.map Int.toNat
def nl (L : List Nat) : List Value := il (L.map fun x : Nat => (x : Int))
theorem natL_len (xs : List Int) : (natL xs).length = xs.length := by simp [natL]
theorem nl_len (L : List Nat) : (nl L).length = L.length := by unfold nl; rw [il_len]; simp
theorem nl_get (L : List Nat) {j : Nat} (h : j < L.length) : (nl L).getD j undef = .int .i64 (at0 L j : Nat) := by
  unfold nl
  rw [il_get _ _ (by simpa using h)]
  unfold at0
  simp [h]
theorem bits_xor (x y : Nat) (hx : x < 4294967296) (hy : y < 4294967296) : bits .xor .i64 (x : Int) (y : Int) = ((x ^^^ y : Nat) : Int) := by
  have h : x ^^^ y < 2 ^ 32 := Nat.xor_lt_two_pow (by omega) (by omega)
  show IntKind.i64.wrap ((BitVec.ofInt 64 (x : Int) ^^^ BitVec.ofInt 64 (y : Int)).toNat : Int) = _
  rw [BitVec.toNat_xor, BitVec.ofInt_natCast, BitVec.ofInt_natCast, BitVec.toNat_ofNat, BitVec.toNat_ofNat, Nat.mod_eq_of_lt (by omega), Nat.mod_eq_of_lt (by omega), IntKind.wrap_i64]
  omega
/-- At most 32 words. -/
def rankC (xs : List Int) : Prop := wordsB xs = true ∧ xs.length ≤ 32
theorem rankC.at {xs : List Int} (h : rankC xs) {i : Nat} (hi : i < xs.length) : xs[i]?.getD 0 = ((at0 (natL xs) i : Nat) : Int) ∧ at0 (natL xs) i < 4294967296 := by
  have := wordsB_get h.1 hi
  have e : at0 (natL xs) i = (xs[i]?.getD 0).toNat := by unfold at0 natL; simp [hi]
  rw [e]
  omega
theorem rowsR_lt {W : List Nat} {B : Nat} (h : ∀ i, i < W.length → at0 W i < 2 ^ B) : ∀ {k : Nat}, k ≤ W.length → ∀ i, i < (rowsR W k).length → at0 (rowsR W k) i < 2 ^ B
  | 0, _, i, hi => absurd hi (Nat.not_lt_zero _)
  | k + 1, hk, i, hi => by
    have ih := rowsR_lt h (k := k) (by omega)
    have e0 : rowsR W (k + 1) = if redW (rowsR W k) (at0 W k) (rowsR W k).length = 0 then rowsR W k else rowsR W k ++ [redW (rowsR W k) (at0 W k) (rowsR W k).length] := rfl
    rw [e0] at hi ⊢
    split at hi
    · rename_i h0; rw [if_pos h0]; exact ih i hi
    · rename_i h0
      rw [if_neg h0]
      by_cases e : i = (rowsR W k).length
      · subst e; rw [at0_end]; exact redW_lt (h k (by omega)) _
      · rw [List.length_append] at hi
        simp only [List.length_singleton] at hi
        rw [at0_app (by omega)]; exact ih i (by omega)
theorem rowsR_len (W : List Nat) : ∀ k, (rowsR W k).length ≤ k
  | 0 => Nat.le_refl _
  | k + 1 => by
    have ih := rowsR_len W k
    have e0 : rowsR W (k + 1) = if redW (rowsR W k) (at0 W k) (rowsR W k).length = 0 then rowsR W k else rowsR W k ++ [redW (rowsR W k) (at0 W k) (rowsR W k).length] := rfl
    rw [e0]
    split
    · omega
    · rw [List.length_append]; simp; omega
set_option maxRecDepth 100000 in
set_option maxHeartbeats 1000000 in
theorem implRank_yes (xs : List Int) (n : Nat) (hn : xs.length = n) (ao : Option Addr) (c : Nat) (w : World) (hC : rankC xs) (hx : Holds w ao (il xs)) :
    Calls Try.prog 45 #[.slice ao n c] w (RetB (.tuple #[.int .i64 (rankN (natL xs) : Nat), .bool true]) w) := by
  subst hn
  have HX := Lib.hid hx
  have HC := Lib.hid hC
  have h32 : (xs.length : Int) ≤ 32 := by have := hC.2; omega
  have HB : Hid (∀ i, i < (natL xs).length → at0 (natL xs) i < 2 ^ 32) := Lib.hid fun i hi => (hC.at (by rwa [natL_len] at hi)).2
  have h1 := hC.1
  clear hx hC
  go_enter Try.func45, Try.ntmps45
  go_wp2_with (first | (go_at_call 86; fail))
  refine (implWords_any xs ao c _ HX.out (by omega)).mono ?_
  rintro e w1 ⟨rfl, hw1⟩
  rw [h1]
  have H1 := Lib.hid hw1
  clear hw1 h1
  go_wp2_with fail
  go_loopw [4, 19] (fun v i wr => ∃ k : Nat, k ≤ xs.length ∧ i = .int .i64 k ∧ wr.ownsRow w.heap.size 2 1 v (rowsR (natL xs) k).length (nl (rowsR (natL xs) k)) ∧ Below w.heap.size w wr) (fun _ i _ => xs.length - (intOf i).toNat)
  case atStart => exact ⟨0, Nat.zero_le _, rfl, World.ownsRow_nil _ _ _ _, H1.out⟩
  case round =>
    obtain ⟨k, hk, rfl, hown, hbel⟩ := hrel
    have H := Lib.hid (And.intro hown hbel)
    have hkn : (k : Int) ≤ xs.length := by omega
    obtain ⟨ao2, c2, rfl⟩ := own_form hown
    have hsz := hbel.size
    clear hown hbel H1
    by_cases hlt : k < xs.length
    · have hlt' : (k : Int) < xs.length := by omega
      obtain ⟨b, o, rfl, hc0⟩ := (HX.out.below H.out.2) k (by rw [il_len]; exact hlt)
      rw [il_get _ _ hlt, (HC.out.at hlt).1] at hc0
      have HRL : Hid ((∀ i, i < (rowsR (natL xs) k).length → at0 (rowsR (natL xs) k) i < 2 ^ 32) ∧ (rowsR (natL xs) k).length ≤ 32) := Lib.hid ⟨rowsR_lt HB.out (by rw [natL_len]; omega), by have := rowsR_len (natL xs) k; have := HC.out.2; omega⟩
      have HWB : Hid (at0 (natL xs) k < 2 ^ 32) := Lib.hid (HC.out.at hlt).2
      have HNX : Hid (rowsR (natL xs) (k + 1) = if redW (rowsR (natL xs) k) (at0 (natL xs) k) (rowsR (natL xs) k).length = 0 then rowsR (natL xs) k else rowsR (natL xs) k ++ [redW (rowsR (natL xs) k) (at0 (natL xs) k) (rowsR (natL xs) k).length]) := Lib.hid rfl
      generalize rowsR (natL xs) k = R at H HRL HNX
      generalize at0 (natL xs) k = x at hc0 HWB HNX
      have hRl : (R.length : Int) ≤ 32 := by have := HRL.out.2; omega
      go_wp2_with fail
      rename World => wa
      go_loopw [6, 25] (fun u i wr => ∃ j : Nat, j ≤ R.length ∧ i = .int .i64 j ∧ u = .int .i64 (redW R x j : Nat) ∧ wr = wa) (fun _ i _ => R.length - (intOf i).toNat)
      case atStart => exact ⟨0, Nat.zero_le _, rfl, rfl, rfl⟩
      case round =>
        obtain ⟨j, hj, rfl, rfl, rfl⟩ := hrel
        have hjn : (j : Int) ≤ R.length := by omega
        clear hc0
        by_cases hlt2 : j < R.length
        · have hlt2' : (j : Int) < R.length := by omega
          obtain ⟨b2, o2, e2, hcj⟩ := (Row.of_own H.out.1).holds j (by rw [nl_len]; exact hlt2)
          subst e2
          rw [nl_get _ hlt2] at hcj
          have hrow := HRL.out.1 j hlt2
          have hu : redW R x j < 2 ^ 32 := redW_lt HWB.out j
          have HN : Hid (redW R x (j + 1) = min (redW R x j) (redW R x j ^^^ at0 R j)) := Lib.hid rfl
          generalize redW R x j = u at hu HN
          generalize at0 R j = r at hcj hrow HN
          have hxo := bits_xor u r (by simpa using hu) (by simpa using hrow)
          by_cases hlt3 : u ^^^ r < u
          · have hl4 : ((u ^^^ r : Nat) : Int) < (u : Int) := by omega
            have hv : redW R x (j + 1) = u ^^^ r := by rw [HN.out, Nat.min_eq_right (Nat.le_of_lt hlt3)]
            have HV := Lib.hid hv
            generalize u ^^^ r = q at hxo hl4 HV
            clear hu hrow hlt3 hv
            go_wp2_with fail
            go_roundw
            case rel => exact ⟨j + 1, by omega, by go_num, by rw [HV.out], trivial⟩
            case measure => simp [intOf]; omega
          · have hl4 : ¬ ((u ^^^ r : Nat) : Int) < (u : Int) := by omega
            have hv : redW R x (j + 1) = u := by rw [HN.out, Nat.min_eq_left (by omega)]
            have HV := Lib.hid hv
            generalize u ^^^ r = q at hxo hl4
            clear hu hrow hlt3 hv
            go_wp2_with fail
            go_roundw
            case rel => exact ⟨j + 1, by omega, by go_num, by rw [HV.out], trivial⟩
            case measure => simp [intOf]; omega
        · obtain rfl : j = R.length := by omega
          by_cases h0 : redW R x R.length = 0
          · rw [h0]
            rw [if_pos h0] at HNX
            go_wp2_with fail
            go_roundw
            case rel => exact ⟨k + 1, by omega, by go_num, by rw [HNX.out]; exact H.out.1, H.out.2⟩
            case measure => simp [intOf]; omega
          · have h0' : ¬ ((redW R x R.length : Nat) : Int) = 0 := by omega
            rw [if_neg h0] at HNX
            generalize redW R x R.length = u at h0' HNX
            clear h0
            go_wp2_with (at_builtin; refine wpList_app1 rfl _ _ 58 rfl w.heap.size 2 (.int .i64 0) 8 Try.underlying58 (by kernel_rfl) rfl _ R.length _ rfl (H.out.1.alloc _) _ _ (.int .i64 (u : Int)) rfl ?_ rfl ⟨by omega, by omega⟩ ?_ ?_)
            · exact (Whole.made wr 2 #[.int .i64 (u : Int)]).cell 0
            · simp; omega
            · intro v' w' hown' hgr'
              have hb2 : Below w.heap.size w w' := by
                have h1 : Below w.heap.size w (wr.alloc (.cells #[.int .i64 (u : Int)] 2)) := by have HBL := H.out.2; exact (by repeat (first | with_reducible exact Below.refl _ _ | with_reducible exact HBL | with_reducible refine Below.drew ?_ | with_reducible refine Bel_drewN ?_ _ | with_reducible refine Below.alloc ?_ (by first | omega | (simp; done) | (simp; omega)) _ | with_reducible refine Below.setCell ?_ (by first | omega | (simp; done) | (simp; omega)) _))
                exact h1.grown hgr' (by simp; omega) (own_ge H.out.1)
              have ho3 : w'.ownsRow w.heap.size 2 1 v' (R ++ [u]).length (nl (R ++ [u])) := by
                rw [List.length_append]
                have e : nl (R ++ [u]) = nl R ++ [.int .i64 (u : Int)] := by simp [nl, il]
                rw [e]; exact hown'
              have H3 := Lib.hid (And.intro ho3 hb2)
              clear hown' hgr' hb2 ho3
              go_wp2_with fail
              go_roundw
              case rel => exact ⟨k + 1, by omega, by go_num, by rw [HNX.out]; exact H3.out.1, H3.out.2⟩
              case measure => simp [intOf]; omega
    · obtain rfl : k = xs.length := by omega
      have HE : Hid (rankN (natL xs) = (rowsR (natL xs) xs.length).length) := Lib.hid (by unfold rankN; rw [natL_len])
      go_wp2_with fail
      go_ret2
      exact ⟨by rw [HE.out]; rfl, H.out.2⟩
set_option maxRecDepth 100000 in
theorem implRank_no (xs : List Int) (n : Nat) (hn : xs.length = n) (ao : Option Addr) (c : Nat) (w : World) (hC : ¬rankC xs) (hx : Holds w ao (il xs)) (hl : xs.length ≤ 1048576) :
    Calls Try.prog 45 #[.slice ao n c] w (RetB (.tuple #[.int .i64 0, .bool false]) w) := by
  subst hn
  have HX := Lib.hid hx
  have HC := Lib.hid hC
  clear hx hC
  cases h1 : wordsB xs with
  | false =>
    go_enter Try.func45, Try.ntmps45
    go_wp2_with (first | (go_at_call 86; fail))
    refine (implWords_any xs ao c _ HX.out hl).mono ?_
    rintro e w1 ⟨rfl, hw1⟩
    rw [h1]
    go_wp2_with fail
    go_ret2
    exact ⟨rfl, hw1⟩
  | true =>
    have h32 : (32 : Int) < xs.length := by
      rcases Nat.lt_or_ge 32 xs.length with h | h
      · omega
      · exact absurd ⟨h1, h⟩ HC.out
    go_enter Try.func45, Try.ntmps45
    go_wp2_with (first | (go_at_call 86; fail))
    refine (implWords_any xs ao c _ HX.out hl).mono ?_
    rintro e w1 ⟨rfl, hw1⟩
    rw [h1]
    go_wp2_with fail
    go_ret2
    exact ⟨rfl, hw1⟩
end Go.Proofs.Yticmnkgcolgpaaa
