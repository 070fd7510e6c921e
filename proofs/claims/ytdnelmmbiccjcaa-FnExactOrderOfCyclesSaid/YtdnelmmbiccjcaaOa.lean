/- Orders out of cycles: the model's side. -/
import Derived.Test.YtdnelmmbiccjcaaOz
namespace Go.Proofs.Ytdnelmmbiccjcaa
open Go Go.RowKit
set_option linter.unusedVariables false

set_option maxRecDepth 100000 in
set_option maxHeartbeats 2000000 in
theorem specOoC_any (xss : List (List Int)) (n : Int) (ao : Option Addr) (c : Nat) (w : World) (hx : Lists w ao xss) (hn : (Lit.int .i64 n).wf = true) (hl : xss.length ≤ 1048576) (ht : totL xss ≤ 1048576) :
    Calls Try.prog 22 #[.slice ao xss.length c, .int .i64 n] w (OcP xss n w) := by
  have HX := Lib.hid hx
  have HT := Lib.hid ht
  clear hx ht
  go_enter Try.func22, Try.ntmps22
  go_wp2_with fail
  refine (l04Count_any _ _).mono ?_
  rintro e w1 ⟨rfl, rfl⟩
  by_cases hs : 1 ≤ n ∧ n ≤ 64
  rotate_left
  · rw [decide_eq_false hs]
    have HN : Hid (¬ ocC xss n) := Lib.hid (fun hc => hs (by
      have h1 := hc.2.1
      have h2 := hc.2.2.1
      rw [flatL_len] at h2
      unfold totL at h1
      omega))
    clear hs
    go_wp2
    go_ret2
    exact OcP.no HN.out ⟨rfl, Below.refl _ _⟩
  rw [decide_eq_true hs]
  obtain ⟨hs1, hs2⟩ := hs
  go_wp2
  go_loopw [6, 7] (fun v iv wr => ∃ k : Nat, k ≤ xss.length ∧ iv = .int .i64 k ∧ wr.ownsRow w.heap.size 2 1 v (preL xss k) (il (flatL xss k)) ∧ preL xss k ≤ 1048576 ∧ Below w.heap.size w wr ∧ ∀ i, i < k → nthL xss i ≠ []) (fun _ iv _ => xss.length - (intOf iv).toNat)
  case atStart => exact ⟨0, Nat.zero_le _, rfl, World.ownsRow_made _ _ _ (Nat.le_refl _) (Nat.zero_le _) rfl, by simp [preL], (Below.refl _ _).alloc (Nat.le_refl _) _, fun i hi => absurd hi (Nat.not_lt_zero _)⟩
  case round =>
    obtain ⟨k, hk, rfl, hown, h64, hbel, hne⟩ := hrel
    have H := Lib.hid (And.intro hown (And.intro h64 (And.intro hbel hne)))
    by_cases hlt : k < xss.length
    · by_cases hle : (preL xss k : Int) ≤ n
      rotate_left
      · have HN : Hid (¬ ocC xss n) := Lib.hid (fun hc => hle (by have h1 := hc.2.1; have h2 := preL_le xss k xss.length hk; unfold totL at h1; omega))
        have hlt' : (k : Int) < xss.length := by omega
        have hp : ¬ (preL xss k : Int) = n := by omega
        obtain ⟨ao6, c6, rfl⟩ := own_form hown
        clear hown hbel hne
        go_wp2
        go_ret2
        exact OcP.no HN.out ⟨rfl, H.out.2.2.1⟩
      obtain ⟨b, o, ai, ci, rfl, hc, hh⟩ := (HX.out.below hbel) k hlt
      have hlk := Nat.le_trans (len_le_tot xss k hlt) HT.out
      obtain ⟨ao6, c6, rfl⟩ := own_form hown
      have HH := Lib.hid hh
      have hlt' : (k : Int) < xss.length := by omega
      clear hown hbel hne hh
      by_cases he : (nthL xss k).length = 0
      · have HN := Lib.hid (oc_empty (n := n) hlt (List.eq_nil_of_length_eq_zero he))
        rw [he] at hc
        go_wp2
        go_ret2
        exact OcP.no HN.out ⟨rfl, H.out.2.2.1⟩
      · have hg' : (preL xss k : Int) ≤ n := hle
        have he' : ¬ ((nthL xss k).length : Int) = 0 := by omega
        have HE : Hid (nthL xss k ≠ []) := Lib.hid (fun e => he (by rw [e]; rfl))
        clear he
        go_wp2_with (at_builtin; refine wpList_appN rfl _ _ 33 rfl w.heap.size 2 (.int .i64 0) 8 Try.underlying33 (by kernel_rfl) rfl _ (preL xss k) (flatL xss k) rfl H.out.1 ai ci (nthL xss k) rfl HH.out HE.out ⟨by omega, by omega⟩ H.out.2.2.1.size ?_)
        intro v' w' hown' hgr'
        have hb' : Below w.heap.size w w' := Below.grown H.out.2.2.1 hgr' H.out.2.2.1.size (own_ge H.out.1)
        have H2 : Hid (w'.ownsRow w.heap.size 2 1 v' (preL xss (k + 1)) (il (flatL xss (k + 1))) ∧ preL xss (k + 1) ≤ 1048576 ∧ Below w.heap.size w w' ∧ ∀ i, i < k + 1 → nthL xss i ≠ []) := Lib.hid ⟨hown', Nat.le_trans (preL_le xss (k + 1) xss.length hlt) HT.out, hb', fun i hi => by
          by_cases e : i = k
          · rw [e]; exact HE.out
          · exact H.out.2.2.2 i (by omega)⟩
        clear hown' hgr' hb'
        go_wp2
        go_roundw
        case rel => exact ⟨k + 1, by omega, by go_num, H2.out⟩
        case measure => simp [intOf]; omega
    · have E : Hid (k = xss.length) := Lib.hid (by omega)
      obtain ⟨ao6, c6, rfl⟩ := own_form hown
      clear hown hbel hne
      by_cases hp : (preL xss k : Int) = n
      · have hF := E.out ▸ (Row.of_own H.out.1).holds
        have hFl := flatL_len xss k
        have HE : Hid (ordB (flatL xss k) = true ↔ ocC xss n) := Lib.hid (by
          have ek := E.out
          constructor
          · intro h
            refine ⟨fun i hi => H.out.2.2.2 i (by omega), by unfold totL; rw [← ek]; exact hp, ?_⟩
            rw [← ek]
            by_cases ho : isOrd (flatL xss k)
            · exact ho
            · rw [ordB_no ho] at h; cases h
          · intro h
            rw [ek]; exact ordB_yes h.2.2)
        have hF2 := (Row.of_own H.out.1).holds
        obtain ⟨p, hpp⟩ : ∃ p, p = preL xss k := ⟨_, rfl⟩
        have HP := Lib.hid hpp
        clear hF
        rw [← hpp] at hp hFl ⊢
        have HF := Lib.hid hF2
        have h64' := H.out.2.1
        rw [← hpp] at h64'
        clear hF2 hpp h64
        have hpn : n = (p : Int) := hp.symm
        subst hpn
        clear hp
        go_wp2_with fail
        have hi := l04Order_any (flatL xss k) ao6 c6 wr HF.out (by omega)
        rw [hFl] at hi
        refine hi.mono ?_
        rintro e w3 ⟨rfl, hb3⟩
        cases ho : ordB (flatL xss k) with
        | false =>
          have HN : Hid (¬ ocC xss (p : Int)) := Lib.hid (fun h => by rw [HE.out.2 h] at ho; cases ho)
          have HB3 := Lib.hid (Bel_next H.out.2.2.1 hb3)
          clear hb3 hi ho
          go_wp2
          go_ret2
          exact OcP.no HN.out ⟨rfl, HB3.out⟩
        | true =>
          have HC : Hid (ocC xss (p : Int)) := Lib.hid (HE.out.1 ho)
          have HB3 := Lib.hid (Bel_next H.out.2.2.1 hb3)
          clear hb3 hi ho
          have hmk := run_mk (P := Try.prog) w3 33 2 (.int .i64 0) 8 p Try.underlying33 (by kernel_rfl) rfl (by omega) (by omega)
          have HTp : Hid (totL xss = p) := Lib.hid (by rw [HP.out, E.out]; rfl)
          have hz3 := HB3.out.size
          go_wp2_with fail
          clear hmk
          go_loopw [9, 10, 11] (fun iv c10 i11 w4 => ∃ (q : Nat) (V : List Int), q ≤ xss.length ∧ iv = .int .i64 q ∧ RowAt w4 w3.heap.size 2 V ∧ V.length = p ∧ Wrote xss (fun i _ => i < q) V ∧ Below w.heap.size w w4) (fun iv _ _ _ => xss.length - (intOf iv).toNat)
          case atStart => exact ⟨0, List.replicate p 0, Nat.zero_le _, rfl, ⟨_, Whole.made _ _ _, fun i hi => by simp at hi; simp [hi]⟩, by simp, wrote_congr (wrote_none xss p) (fun i j _ => by simp), HB3.out.alloc hz3 _⟩
          case round =>
            rename World => w4
            obtain ⟨q, V, hq, rfl, hrow, hV, hwr, hbel⟩ := hrel
            have H4 := Lib.hid (And.intro hrow (And.intro hV (And.intro hwr hbel)))
            have hz4 := hrow.lt
            by_cases hlt : q < xss.length
            · obtain ⟨b, o, ai, ci, rfl, hc0, hh0⟩ := HX.out q hlt
              have HH := Lib.hid hh0
              have hc : w4.cell? ⟨b, o + q, none⟩ = some (.slice ai (nthL xss q).length ci) := by rw [hbel.cell (World.block_lt_of_cell? _ _ hc0)]; exact hc0
              clear hc0 hh0
              have hlt' : (q : Int) < xss.length := by omega
              have hl64 : (nthL xss q).length ≤ 64 := by have := len_le_tot xss q hlt; have := HTp.out; omega
              obtain ⟨l, hl⟩ : ∃ l, l = (nthL xss q).length := ⟨_, rfl⟩
              rw [← hl] at hc hl64
              have HL := Lib.hid hl
              clear hrow hV hwr hbel hl
              go_wp2_with fail
              go_loopw [11] (fun iv w5 => ∃ (m : Nat) (V : List Int), m ≤ l ∧ iv = .int .i64 m ∧ RowAt w5 w3.heap.size 2 V ∧ V.length = p ∧ Wrote xss (fun i j => i < q ∨ (i = q ∧ j < m)) V ∧ Below w.heap.size w w5) (fun iv _ => l - (intOf iv).toNat)
              case atStart => exact ⟨0, V, Nat.zero_le _, rfl, H4.out.1, H4.out.2.1, wrote_congr H4.out.2.2.1 (fun i j _ => by simp), H4.out.2.2.2⟩
              case round =>
                rename World => w5
                obtain ⟨m, V5, hm, rfl, hrow, hV, hwr, hbel⟩ := hrel
                have H5 := Lib.hid (And.intro hrow (And.intro hV (And.intro hwr hbel)))
                by_cases hml : m < l
                · have hI : cyI xss q m := ⟨hlt, by rw [← HL.out]; exact hml⟩
                  obtain ⟨y, hy, hyn, hyt⟩ := cy_at HC.out hI
                  obtain ⟨r, hr⟩ : ∃ r, r = (m + 1) % l := ⟨_, rfl⟩
                  have hrl : r < l := by rw [hr]; exact Nat.mod_lt _ (by omega)
                  have hrem : Int.tmod ((m : Int) + 1) (l : Int) = (r : Int) := by rw [hr]; exact (Int.tmod_eq_emod_of_nonneg (by omega)).trans (by rw [Int.natCast_emod]; rfl)
                  obtain ⟨b2, o2, rfl, hc2⟩ := (HH.out.below hbel) m (by rw [il_len, ← HL.out]; exact hml)
                  obtain ⟨b3, o3, e3, hc3⟩ := (HH.out.below hbel) r (by rw [il_len, ← HL.out]; exact hrl)
                  cases e3
                  rw [il_get _ _ (by rw [← HL.out]; exact hml)] at hc2
                  rw [il_get _ _ (by rw [← HL.out]; exact hrl)] at hc3
                  rw [show (nthL xss q)[m]?.getD 0 = (y : Int) from hy] at hc2
                  obtain ⟨z, hz⟩ : ∃ z, z = (nthL xss q)[r]?.getD 0 := ⟨_, rfl⟩
                  rw [← hz] at hc3
                  have HZ : Hid (cyN xss q m = z) := Lib.hid (by
                    unfold cyN
                    rw [← HL.out, ← hr]
                    exact hz.symm)
                  have hyp : (y : Int) < (p : Int) := by have := HTp.out; omega
                  have hypn : y < V5.length := by have := HTp.out; omega
                  have hcy := hrow.cell y hypn
                  have hfy := hrow.frozen y
                  have hbl := hrow.lt
                  have hmli : (m : Int) < l := by omega
                  have hrli : (r : Int) < l := by omega
                  have hl0 : ¬ (l : Int) = 0 := by omega
                  have HW : Hid (Wrote xss (fun i j => i < q ∨ (i = q ∧ j < m + 1)) (V5.set y z)) := Lib.hid (by
                    rw [← HZ.out]
                    refine wrote_next HC.out hwr hI hy hypn (fun i j hij => ?_)
                    omega)
                  clear hy hI hz hrow hV hwr hbel hr
                  go_wp2
                  go_region
                  go_wp2
                  go_roundw
                  case rel => exact ⟨m + 1, V5.set y z, by omega, by go_num, H5.out.1.put y z, by simpa using H5.out.2.1, HW.out, Below.drew (Below.setCell H5.out.2.2.2 (by exact hz3) _)⟩
                  case measure => simp [intOf]; omega
                · have HM : Hid (m = l) := Lib.hid (by omega)
                  clear hrow hV hwr hbel
                  go_wp2
                  go_roundw
                  case rel => exact ⟨q + 1, V5, by omega, by go_num, H5.out.1, H5.out.2.1, wrote_congr H5.out.2.2.1 (fun i j hij => by
                    have h2 := HM.out
                    have h3 := HL.out
                    have h4 := hij.2
                    constructor
                    · rintro (h | ⟨rfl, h⟩) <;> omega
                    · intro h
                      rcases Nat.lt_or_ge i q with h5 | h5
                      · exact .inl h5
                      · have e : i = q := by omega
                        subst e
                        exact .inr ⟨rfl, by omega⟩), H5.out.2.2.2⟩
                  case measure => simp [intOf]; omega
            · have HV : Hid (V = ocL xss) := Lib.hid (wrote_all hwr (fun i j hij => by have := hij.1; omega) (by rw [hV, HTp.out]))
              have hlen : (ocL xss).length = p := by rw [ocL_len, HTp.out]
              have HLN := Lib.hid hlen
              clear hrow hV hwr hbel hlen
              go_wp2
              go_ret2
              refine OcP.yes HC.out ⟨some ⟨w3.heap.size, 0, none⟩, p, by rw [HLN.out]; rfl, ?_, H4.out.2.2.2⟩
              rw [← HV.out]
              exact H4.out.1.row hz3 hz4
      · have HN : Hid (¬ ocC xss n) := Lib.hid (fun hc => hp (by have := hc.2.1; rw [E.out]; exact this))
        go_wp2
        go_ret2
        exact OcP.no HN.out ⟨rfl, H.out.2.2.1⟩
end Go.Proofs.Ytdnelmmbiccjcaa
