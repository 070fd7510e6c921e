/- RankOfBits of the model. -/
import Derived.Test.YticmnkgcolgpaaaRkc
import Derived.Test.YticmnkgcolgpaaaIn0
import Derived.Laws.AppendOwn
namespace Go.Proofs.Yticmnkgcolgpaaa
open Go Go.RowKit
set_option linter.unusedVariables false
theorem info_partsR {o : Option TypeInfo} {z : Value} {bytes : Nat} (h : o.map (fun i => (i.zero, i.size, i.bytes)) = some (some z, 1, bytes)) : ∃ i, o = some i ∧ i.zero = some z ∧ i.size = 1 ∧ i.bytes = bytes := by
  cases o with
  | none => cases h
  | some i =>
    simp only [Option.map_some, Option.some.injEq, Prod.mk.injEq] at h
    exact ⟨i, rfl, h.1, h.2.1, h.2.2⟩
theorem news_il {w : World} {xs : List Int} {b o : Nat} (h : Holds w (some ⟨b, o, none⟩) (il xs)) : ∀ j u, (il xs)[j]? = some u → w.cell? ((⟨b, o, none⟩ : Addr).add j) = some u := fun j u hu => by
  have hj : j < (il xs).length := (List.getElem?_eq_some_iff.1 hu).1
  obtain ⟨b', o', e', hc⟩ := h j hj
  cases e'
  rw [Addr.add_lit, hc]
  simp [List.getD, hu]
theorem il_one (xs : List Int) : ∀ u ∈ il xs, u.oneCell' = true := fun u hu => by
  simp only [il, List.mem_map] at hu
  obtain ⟨x, _, rfl⟩ := hu
  rfl
/-- A row of the call's own, with what lies behind it. -/
def MemR (wr : World) (g : Nat) (L : List Nat) (tail : List Value) : Prop := Whole wr g 2 (nl L ++ tail).toArray
theorem own_whole {w : World} {base n : Nat} {v : Value} {xs : List Value} (h : w.ownsRow base 2 1 v n xs) (hn : 0 < n) : ∃ g c tail, v = .slice (some ⟨g, 0, none⟩) n c ∧ base ≤ g ∧ Whole w g 2 (xs ++ tail).toArray := by
  obtain ⟨hl, h⟩ := h
  rcases h with ⟨_, h0⟩ | ⟨g, cap, cur, hv, hg, hh, hn2, _, hsz, ht⟩
  · omega
  · refine ⟨g, cap, cur.toList.drop (n * 1), hv, hg, ?_⟩
    have e : xs ++ cur.toList.drop (n * 1) = cur.toList := by
      have ht' : cur.toList.take (n * 1) = xs := by first | exact ht | simpa using ht
      rw [← ht', List.take_append_drop]
    rw [e]
    have h5 : Whole w g 2 cur := hh
    simpa using h5
theorem MemR.cell {wr : World} {g : Nat} {L : List Nat} {tail : List Value} (h : MemR wr g L tail) {j : Nat} (hj : j < L.length) : wr.cell? ⟨g, j, none⟩ = some (.int .i64 (at0 L j : Nat)) := by
  have h1 := Whole.cell h j
  rw [h1]
  have h2 : j < (nl L).length := by rw [nl_len]; exact hj
  have h3 := nl_get L hj
  rw [List.getElem?_toArray, List.getElem?_append_left h2, List.getElem?_eq_getElem h2]
  rw [List.getD_eq_getElem?_getD, List.getElem?_eq_getElem h2] at h3
  simpa using h3
theorem MemR.put {wr : World} {g : Nat} {L : List Nat} {tail : List Value} (h : MemR wr g L tail) {j : Nat} (hj : j < L.length) (x : Nat) : MemR (wr.setCell ⟨g, j, none⟩ (.int .i64 (x : Int))) g (L.set j x) tail := by
  have h1 := Whole.put h j (.int .i64 (x : Int))
  have h2 : j < (nl L).length := by rw [nl_len]; exact hj
  have e : (nl L ++ tail).toArray.setIfInBounds j (.int .i64 (x : Int)) = (nl (L.set j x) ++ tail).toArray := by
    simp only [List.setIfInBounds_toArray]
    rw [List.set_append_left _ _ h2]
    unfold nl il
    rw [List.map_set, List.map_set]
  rw [e] at h1
  exact h1
theorem nl_natL {xs : List Int} (h : ∀ i, i < xs.length → 0 ≤ xs[i]?.getD 0) : nl (natL xs) = il xs := by
  unfold nl natL
  congr 1
  apply List.ext_getElem
  · simp
  · intro i h1 h2
    have := h i h2
    simp only [List.getElem?_eq_getElem h2, Option.getD_some] at this
    simp; omega
theorem bits_one (x b : Nat) (hx : x < 4294967296) : bits .and .i64 ((x : Int) / 2 ^ b) 1 = if x.testBit b = true then 1 else 0 := by
  have hm : x / 2 ^ b < 4294967296 := Nat.lt_of_le_of_lt (Nat.div_le_self _ _) hx
  rw [Nat.testBit_eq_decide_div_mod_eq, show ((x : Int) / 2 ^ b) = ((x / 2 ^ b : Nat) : Int) by simp]
  generalize x / 2 ^ b = m at hm ⊢
  have e : bits .and .i64 (m : Int) 1 = ((m % 2 : Nat) : Int) := by
    show IntKind.i64.wrap ((BitVec.ofInt 64 (m : Int) &&& BitVec.ofInt 64 ((1 : Nat) : Int)).toNat : Int) = _
    rw [BitVec.toNat_and, BitVec.ofInt_natCast, BitVec.ofInt_natCast, BitVec.toNat_ofNat, BitVec.toNat_ofNat, Nat.mod_eq_of_lt (by omega), Nat.mod_eq_of_lt (by omega), Nat.and_one_is_mod, IntKind.wrap_i64]
    omega
  rw [e]
  split <;> rename_i h1 <;> simp at h1 <;> omega
theorem elim_lt {W L : List Nat} {b r : Nat} (h : Elim W b r L) (hb : b ≤ 32) (hW : ∀ i, i < W.length → at0 W i < 2 ^ 32) {i : Nat} (hi : i < L.length) : at0 L i < 2 ^ 32 := by
  have : ∀ v, Spf W.length (at0 W) v → v < 2 ^ 32 := fun v hv => by
    induction hv with
    | zero => exact Nat.two_pow_pos _
    | add _ hi ih => exact Nat.xor_lt_two_pow ih (hW _ hi)
  exact this _ (h.there i hi)
set_option maxRecDepth 100000 in
set_option maxHeartbeats 4000000 in
theorem specRank_yes (xs : List Int) (n : Nat) (hn : xs.length = n) (ao : Option Addr) (c : Nat) (w : World) (hC : rankC xs) (hx : Holds w ao (il xs)) :
    Calls Try.prog 43 #[.slice ao n c] w (RetB (.tuple #[.int .i64 (rankN (natL xs) : Nat), .bool true]) w) := by
  subst hn
  have hl1 := (wordsB_len hC.1).1
  obtain ⟨b1, o1, rfl, _⟩ := hx 0 (by rw [il_len]; omega)
  have HX := Lib.hid hx
  have HC := Lib.hid hC
  have h32 : (xs.length : Int) ≤ 32 := by have := hC.2; omega
  have h32n : xs.length ≤ 32 := hC.2
  have HB : Hid (∀ i, i < (natL xs).length → at0 (natL xs) i < 2 ^ 32) := Lib.hid fun i hi => (hC.at (by rwa [natL_len] at hi)).2
  obtain ⟨i8, hi8, hi1, hi2, hi3⟩ := info_partsR (show (Try.prog.info? 2).map (fun i => (i.zero, i.size, i.bytes)) = some (some (.int .i64 0), 1, 8) by kernel_rfl)
  have HI := Lib.hid (And.intro hi8 (And.intro hi1 (And.intro hi2 hi3)))
  have H0 : Hid ((w.alloc (.cells #[] 2)).ownsRow w.heap.size 2 1 (.slice (some ⟨w.heap.size, 0, none⟩) 0 0) 0 [] ∧ Below w.heap.size w (w.alloc (.cells #[] 2))) := Lib.hid ⟨World.ownsRow_made _ _ _ (Nat.le_refl _) (Nat.zero_le _) rfl, (by repeat (first | with_reducible exact Below.refl _ _ | with_reducible exact HBL | with_reducible refine Below.drew ?_ | with_reducible refine Bel_drewN ?_ _ | with_reducible refine Below.alloc ?_ (by first | omega | (simp; done) | (simp; omega)) _ | with_reducible refine Below.setCell ?_ (by first | omega | (simp; done) | (simp; omega)) _))⟩
  have h1 := hC.1
  clear hx hC hi8 hi1 hi2 hi3
  go_enter Try.func43, Try.ntmps43
  go_wp2_with (first | (go_at_call 85; fail))
  refine (l02AreWords_any xs _ c _ HX.out (by omega)).mono ?_
  rintro e w1 ⟨rfl, rfl⟩
  rw [h1]
  clear h1
  go_wp2_with (at_builtin; refine wpList_append_own _ rfl _ _ 58 rfl w.heap.size 2 i8 (.int .i64 0) 1 8 Try.underlying58 HI.out.1 HI.out.2.1 HI.out.2.2.1 HI.out.2.2.2 rfl (by decide) _ 0 _ rfl H0.out.1 ⟨b1, o1, none⟩ xs.length _ (il xs) rfl (by rw [il_len]; omega) (news_il (HX.out.below H0.out.2)) (il_one _) (by unfold maxLen; omega) (by omega) (by simp) ?_)
  intro v1 w1 hown hgr _
  have hown2 : w1.ownsRow w.heap.size 2 1 v1 xs.length (il xs) := by simpa using hown
  have hb1 : Below w.heap.size w w1 := H0.out.2.grown hgr (by simp) (own_ge H0.out.1)
  obtain ⟨g, cc, tail, rfl, hg, hW⟩ := own_whole hown2 (by omega)
  rw [← nl_natL (fun i hi => (wordsB_get HC.out.1 hi).1)] at hW
  have hln : (natL xs).length = xs.length := natL_len xs
  have HS : Hid (Elim (natL xs) 32 0 (natL xs)) := Lib.hid (Elim.start HB.out)
  have H1 : Hid (MemR w1 g (natL xs) tail ∧ Below w.heap.size w w1) := Lib.hid ⟨hW, hb1⟩
  clear hown hgr hown2 hb1 hW
  have HLN := Lib.hid hln
  generalize hWW : natL xs = W at *
  generalize hN : xs.length = n at *
  go_wp2_with fail
  go_loopw [5, 6] (fun q i wr => ∃ (r b : Nat) (L : List Nat), b ≤ 32 ∧ i = .int .i64 ((b : Int) - 1) ∧ q = .int .i64 r ∧ Elim W b r L ∧ MemR wr g L tail ∧ Below w.heap.size w wr) (fun _ i _ => (intOf i + 1).toNat)
  case atStart => exact ⟨0, 32, W, Nat.le_refl _, rfl, rfl, HS.out, H1.out⟩
  case round =>
    obtain ⟨r, b, L, hb, rfl, rfl, hE, hM, hbel⟩ := hrel
    have H := Lib.hid (And.intro hE (And.intro hM hbel))
    have hLn : L.length = n := by rw [hE.len, hln]
    have hrn : r ≤ n := by rw [← hLn]; exact hE.rle
    have hrn' : (r : Int) ≤ n := by omega
    clear H1 hM
    by_cases hb0 : b = 0
    · subst hb0
      have HE : Hid (r = rankN W) := Lib.hid hE.rank
      have hneg : ¬ (0 : Int) ≤ ((0 : Nat) : Int) - 1 := by omega
      clear hE
      go_wp2_with fail
      go_ret2
      exact ⟨by rw [← HE.out]; rfl, H.out.2.2⟩
    · obtain ⟨d, rfl⟩ : ∃ d, b = d + 1 := ⟨b - 1, by omega⟩
      have hd : ((d + 1 : Nat) : Int) - 1 = (d : Int) := by omega
      rw [hd]
      have hd0 : (0 : Int) ≤ (d : Int) := by omega
      have hd31 : (d : Int) ≤ 31 := by omega
      clear hb0 hE hbel
      go_wp2_with fail
      rename World => wa
      go_loopw [7] (fun i wr => ∃ a : Nat, r ≤ a ∧ a ≤ n ∧ i = .int .i64 a ∧ (∀ j, r ≤ j → j < a → (at0 L j).testBit d = false) ∧ wr = wa) (fun i _ => n - (intOf i).toNat)
      case atStart => exact ⟨r, Nat.le_refl _, hrn, rfl, fun j h1 h2 => absurd h2 (by omega), rfl⟩
      case round =>
        obtain ⟨a, hra, han, rfl, hoff, rfl⟩ := hrel
        have HO := Lib.hid hoff
        have han' : (a : Int) ≤ n := by omega
        have hra' : (r : Int) ≤ a := by omega
        clear hoff
        by_cases hlt : a < n
        · have hlt' : (a : Int) < n := by omega
          have hca := H.out.2.1.cell (show a < L.length by rw [hLn]; exact hlt)
          have hx32 : at0 L a < 2 ^ 32 := elim_lt H.out.1 (by omega) HB.out (by rw [hLn]; exact hlt)
          have hbit := bits_one (at0 L a) d (by simpa using hx32)
          have HX2 : Hid (at0 L a = at0 L a) := Lib.hid rfl
          cases ht : (at0 L a).testBit d with
          | false =>
            have HT := Lib.hid ht
            rw [ht] at hbit
            simp only [Bool.false_eq_true, if_false] at hbit
            generalize hxa : at0 L a = x at hca hbit
            clear ht hxa hx32 HX2
            go_wp2_with fail
            go_roundw
            case rel =>
              refine ⟨a + 1, by omega, by omega, by go_num, fun j h1 h2 => ?_, trivial⟩
              by_cases e : j = a
              · subst e; exact HT.out
              · exact HO.out j h1 (by omega)
            case measure => simp [intOf]; omega
          | true =>
            have HT := Lib.hid ht
            rw [ht] at hbit
            simp only [if_true] at hbit
            have hrl : r < n := by omega
            have hcr := H.out.2.1.cell (show r < L.length by rw [hLn]; exact hrl)
            have hfa := Whole.frozen H.out.2.1 a
            have hrl' : (r : Int) < n := by omega
            have hr0 : (0 : Int) ≤ r := by omega
            have ha0 : (0 : Int) ≤ a := by omega
            have M1 := H.out.2.1.put (show a < L.length by rw [hLn]; exact hlt) (at0 L r)
            have hc1 := M1.cell (show r < (L.set a (at0 L r)).length by rw [List.length_set, hLn]; exact hrl)
            have hf1 := Whole.frozen M1 r
            have M2 := Lib.hid (M1.put (show r < (L.set a (at0 L r)).length by rw [List.length_set, hLn]; exact hrl) (at0 L a))
            have HS2 : Hid (Elim W (d + 1) r (swapL L a r) ∧ at0 (swapL L a r) r = at0 L a) := Lib.hid ⟨H.out.1.swap hra (by rw [hLn]; exact hlt), by rw [at0_swap (by rw [hLn]; exact hlt) (by rw [hLn]; exact hrl), if_pos rfl]⟩
            have HSL : Hid ((L.set a (at0 L r)).set r (at0 L a) = swapL L a r) := Lib.hid rfl
            have HX3 := Lib.hid hx32
            have HSN := Lib.hid (show (swapL L a r).length = n by rw [swapL_len, hLn])
            generalize hxa : at0 L a = x at *
            generalize hyr : at0 L r = y at *
            generalize at0 (L.set a y) r = y2 at hc1
            generalize swapL L a r = S at *
            clear ht hx32 HX2 M1 hxa hyr
            go_wp2_with fail
            clear hca hcr hfa hc1 hf1 hbit
            generalize hW : World.setCell (World.setCell _ _ _) _ _ = w2
            have H2 : Hid (MemR w2 g S tail ∧ Below w.heap.size w w2) := Lib.hid (by
              rw [← hW]
              have h := M2.out
              rw [HSL.out] at h
              exact ⟨h, (H.out.2.2.setCell (p := ⟨g, a, none⟩) hg _).setCell (p := ⟨g, r, none⟩) hg _⟩)
            clear hW M2 HSL
            go_loopw [9] (fun i wr => ∃ (e : Nat) (K : List Nat), r < e ∧ e ≤ n ∧ i = .int .i64 e ∧ K.length = n ∧ Clr W d r e x K ∧ MemR wr g K tail ∧ Below w.heap.size w wr) (fun i _ => n - (intOf i).toNat)
            case atStart => exact ⟨r + 1, S, by omega, by omega, by go_num, HSN.out, ⟨HS2.out.1, by rw [HSN.out]; exact hrl, HS2.out.2, HT.out, fun j h1 h2 h3 => absurd h2 (by omega)⟩, H2.out⟩
            case round =>
              rename World => w3
              obtain ⟨e, K, hre, hen, rfl, hKn, hClr, hMK, hbK⟩ := hrel
              have H3 := Lib.hid (And.intro hClr (And.intro hMK hbK))
              have hen' : (e : Int) ≤ n := by omega
              have he0 : (0 : Int) ≤ e := by omega
              clear hbK H2
              by_cases hlt3 : e < n
              · have hlt3' : (e : Int) < n := by omega
                have heK : e < K.length := by rw [hKn]; exact hlt3
                have hce := hMK.cell heK
                have hfe := Whole.frozen hMK e
                have hz32 : at0 K e < 2 ^ 32 := elim_lt hClr.eli (by omega) HB.out heK
                have hbz := bits_one (at0 K e) d (by simpa using hz32)
                cases hb2 : (at0 K e).testBit d with
                | false =>
                  have HK : Hid (Clr W d r (e + 1) x K) := Lib.hid (hClr.keep hre heK hb2)
                  rw [hb2] at hbz
                  simp only [Bool.false_eq_true, if_false] at hbz
                  generalize at0 K e = z at hce hbz
                  clear hb2 hz32 hClr hMK
                  go_wp2_with fail
                  go_roundw
                  case rel => exact ⟨e + 1, K, by omega, by omega, by go_num, hKn, HK.out, H3.out.2⟩
                  case measure => simp [intOf]; omega
                | true =>
                  have HK : Hid (Clr W d r (e + 1) x (K.set e (at0 K e ^^^ x))) := Lib.hid (hClr.put hre heK hb2)
                  have HMP := Lib.hid (hMK.put heK (at0 K e ^^^ x))
                  have hxor := bits_xor (at0 K e) x (by simpa using hz32) (by have := HX3.out; simpa using this)
                  rw [hb2] at hbz
                  simp only [if_true] at hbz
                  generalize at0 K e ^^^ x = q at *
                  generalize at0 K e = z at *
                  clear hb2 hz32 hClr hMK
                  go_wp2_with fail
                  go_roundw
                  case rel => exact ⟨e + 1, K.set e q, by omega, by omega, by go_num, by rw [List.length_set, hKn], HK.out, HMP.out, H3.out.2.2.setCell (p := ⟨g, e, none⟩) hg _⟩
                  case measure => simp [intOf]; omega
              · have hek : e = K.length := by omega
                have HF : Hid (Elim W d (r + 1) K) := Lib.hid (by subst hek; exact hClr.full)
                have hee : (e : Int) = n := by omega
                clear hClr hMK hek
                go_wp2_with fail
                go_roundw
                case rel => exact ⟨r + 1, d, K, by omega, by go_num, by go_num, HF.out, H3.out.2⟩
                case measure => simp [intOf] <;> omega
        · obtain rfl : a = n := by omega
          have HE2 : Hid (Elim W d r L) := Lib.hid (H.out.1.skip fun j h1 h2 => HO.out j h1 (by omega))
          go_wp2_with fail
          go_roundw
          case rel => exact ⟨r, d, L, by omega, by go_num, rfl, HE2.out, H.out.2⟩
          case measure => simp [intOf] <;> omega
set_option maxRecDepth 100000 in
theorem specRank_no (xs : List Int) (n : Nat) (hn : xs.length = n) (ao : Option Addr) (c : Nat) (w : World) (hC : ¬rankC xs) (hx : Holds w ao (il xs)) (hl : xs.length ≤ 1048576) :
    Calls Try.prog 43 #[.slice ao n c] w (RetB (.tuple #[.int .i64 0, .bool false]) w) := by
  subst hn
  have HX := Lib.hid hx
  have HC := Lib.hid hC
  clear hx hC
  cases h1 : wordsB xs with
  | false =>
    go_enter Try.func43, Try.ntmps43
    go_wp2_with (first | (go_at_call 85; fail))
    refine (l02AreWords_any xs ao c _ HX.out hl).mono ?_
    rintro e w1 ⟨rfl, rfl⟩
    rw [h1]
    go_wp2_with fail
    go_ret2
    exact ⟨rfl, Below.refl _ _⟩
  | true =>
    have h32 : (32 : Int) < xs.length := by
      rcases Nat.lt_or_ge 32 xs.length with h | h
      · omega
      · exact absurd ⟨h1, h⟩ HC.out
    go_enter Try.func43, Try.ntmps43
    go_wp2_with (first | (go_at_call 85; fail))
    refine (l02AreWords_any xs ao c _ HX.out hl).mono ?_
    rintro e w1 ⟨rfl, rfl⟩
    rw [h1]
    go_wp2_with fail
    go_ret2
    exact ⟨rfl, Below.refl _ _⟩
end Go.Proofs.Yticmnkgcolgpaaa
