/- Orders out of cycles: the program's side. -/
import Derived.Test.YtdnelmmbiccjcaaOy
namespace Go.Proofs.Ytdnelmmbiccjcaa
open Go Go.RowKit
set_option linter.unusedVariables false

theorem wpList_appN {P : Program} {w : World} {ops : Array Oper} {rest : List Oper} {o : Oper} {a : Act} {Q : Exit → Act → World → Prop} (hgd : o.guard = none) (s x : Operand) (t : TypeId)
    (ho : o.op = .call { callee := .builtin .append, args := #[s, x], argTypes := #[t, t] })
    (base : Nat) (e : TypeId) (z : Value) (bytes : Nat) (ht : P.underlying t = some (.slice e)) (hi : (P.info? e).map (fun i => (i.zero, i.size, i.bytes)) = some (some z, 1, bytes)) (hz : z.cells.size = 1)
    (v : Value) (n : Nat) (xs : List Int) (hs : a.eval s = v) (hown : w.ownsRow base e 1 v n (il xs))
    (ao : Option Addr) (c : Nat) (ys : List Int) (hx : a.eval x = .slice ao ys.length c) (hy : Holds w ao (il ys)) (h0 : ys ≠ [])
    (hn : (n + ys.length) * bytes ≤ 140737488355328 ∧ n + ys.length ≤ 140737488355328) (hbase : base ≤ w.heap.size)
    (h : ∀ v' w', w'.ownsRow base e 1 v' (n + ys.length) (il (xs ++ ys)) → w.grownBy w' v.ownBlock → wpList P ops Q rest (a.put o.dst v') w') : wpList P ops Q (o :: rest) a w := by
  obtain ⟨i, hi, h1', h2, h3⟩ := info_parts hi
  have hp : 0 < ys.length := by cases ys with | nil => exact absurd rfl h0 | cons a l => simp
  obtain ⟨b, off, rfl, _⟩ := hy 0 (by rw [il_len]; exact hp)
  refine wpList_append_own w hgd s x t ho base e i z 1 bytes ht hi h1' h2 h3 hz (by decide) v n (il xs) hs hown ⟨b, off, none⟩ ys.length c (il ys) hx (by rw [il_len, Nat.mul_one]) ?_ ?_ ?_ hn.1 hbase (fun v' w' a1 a2 _ => h v' w' (by rw [il, List.map_append]; exact a1) a2)
  · intro j u hj
    have hjl : j < (il ys).length := (List.getElem?_eq_some_iff.1 hj).1
    obtain ⟨b', o', e', hc⟩ := hy j hjl
    cases e'
    rw [Addr.add_lit, hc]
    simp [List.getD, hj]
  · intro u hu
    obtain ⟨y, _, rfl⟩ := List.mem_map.1 hu
    rfl
  · have : maxLen = 9223372036854775807 := by decide
    omega
theorem oc_empty {xss : List (List Int)} {n : Int} {k : Nat} (hk : k < xss.length) (h : nthL xss k = []) : ¬ ocC xss n := fun hc => hc.1 k hk h
theorem oc_long {xss : List (List Int)} {n : Int} {k : Nat} (hk : k < xss.length) (h : 64 < preL xss k + (nthL xss k).length) : ¬ ocC xss n := fun hc => by
  have h1 := hc.2.2.1.2
  rw [flatL_len] at h1
  have h2 := preL_le xss (k + 1) xss.length hk
  have h3 : preL xss (k + 1) = preL xss k + (nthL xss k).length := rfl
  omega
/-- The order, or none. -/
def OcP (xss : List (List Int)) (n : Int) (w : World) (e : Ending) (w' : World) : Prop :=
  (ocC xss n → RetL (ocL xss).length (il (ocL xss)) (fun s => .tuple #[s, .bool true]) w e w') ∧ (¬ ocC xss n → RetB (.tuple #[.slice none 0 0, .bool false]) w e w')
theorem OcP.no {xss : List (List Int)} {n : Int} {w w' : World} {e : Ending} (h : ¬ ocC xss n) (hr : RetB (.tuple #[.slice none 0 0, .bool false]) w e w') : OcP xss n w e w' := ⟨fun hc => absurd hc h, fun _ => hr⟩
theorem OcP.yes {xss : List (List Int)} {n : Int} {w w' : World} {e : Ending} (h : ocC xss n) (hr : RetL (ocL xss).length (il (ocL xss)) (fun s => .tuple #[s, .bool true]) w e w') : OcP xss n w e w' := ⟨fun _ => hr, fun hn => absurd h hn⟩
theorem wrote_congr {xss : List (List Int)} {S S' : Nat → Nat → Prop} {V : List Int} (h : Wrote xss S V) (hS : ∀ i j, cyI xss i j → (S i j ↔ S' i j)) : Wrote xss S' V :=
  ⟨fun i j hij hs => h.1 i j hij ((hS i j hij).2 hs), fun y hy => h.2 y fun i j hij hs => hy i j hij ((hS i j hij).1 hs)⟩
/-- The one before m in a round of l. -/
def preI (l m : Nat) : Nat := if m = 0 then l - 1 else m - 1
theorem preI_lt {l m : Nat} (h : m < l) : preI l m < l := by unfold preI; split <;> omega
theorem next_mod {l j : Nat} (h : j < l) : (j + 1) % l = if j + 1 = l then 0 else j + 1 := by
  split
  · rename_i e; rw [e, Nat.mod_self]
  · exact Nat.mod_eq_of_lt (by omega)
theorem preI_iff {l m j : Nat} (h : m < l) (hj : j < l) : (j + 1) % l = m ↔ j = preI l m := by
  rw [next_mod hj]; unfold preI
  split <;> split <;> omega
set_option maxRecDepth 100000 in
set_option maxHeartbeats 2000000 in
theorem implOoC_any (xss : List (List Int)) (n : Int) (ao : Option Addr) (c : Nat) (w : World) (hx : Lists w ao xss) (hn : (Lit.int .i64 n).wf = true) (hl : xss.length ≤ 1048576) (ht : totL xss ≤ 1048576) :
    Calls Try.prog 24 #[.slice ao xss.length c, .int .i64 n] w (OcP xss n w) := by
  have HX := Lib.hid hx
  have HT := Lib.hid ht
  clear hx ht
  go_enter Try.func24, Try.ntmps24
  go_wp2
  go_loopw [6, 8, 17] (fun v c8 iv wr => ∃ k : Nat, k ≤ xss.length ∧ iv = .int .i64 k ∧ wr.ownsRow w.heap.size 2 1 v (preL xss k) (il (flatL xss k)) ∧ preL xss k ≤ 64 ∧ Below w.heap.size w wr ∧ ∀ i, i < k → nthL xss i ≠ []) (fun _ _ iv _ => xss.length - (intOf iv).toNat)
  case atStart => exact ⟨0, Nat.zero_le _, rfl, World.ownsRow_nil _ _ _ _, by simp [preL], Below.refl _ _, fun i hi => absurd hi (Nat.not_lt_zero _)⟩
  case round =>
    obtain ⟨k, hk, rfl, hown, h64, hbel, hne⟩ := hrel
    have H := Lib.hid (And.intro hown (And.intro h64 (And.intro hbel hne)))
    by_cases hlt : k < xss.length
    · obtain ⟨b, o, ai, ci, rfl, hc, hh⟩ := (HX.out.below hbel) k hlt
      have hlk := Nat.le_trans (len_le_tot xss k hlt) HT.out
      obtain ⟨ao6, c6, rfl⟩ := own_form hown
      have HH := Lib.hid hh
      have hlt' : (k : Int) < xss.length := by omega
      clear hown hbel hne hh
      by_cases he : (nthL xss k).length = 0
      · have HN := Lib.hid (oc_empty (n := n) hlt (List.eq_nil_of_length_eq_zero he))
        rw [he] at hc
        go_wp2
        go_ret2
        exact OcP.no HN.out ⟨rfl, H.out.2.2.1⟩
      · by_cases hg : 64 < preL xss k + (nthL xss k).length
        · have HN := Lib.hid (oc_long (n := n) hlt hg)
          have hg' : (64 : Int) < (preL xss k : Int) + ((nthL xss k).length : Int) := by omega
          have he' : ¬ ((nthL xss k).length : Int) = 0 := by omega
          generalize (nthL xss k).length = l at *
          generalize preL xss k = p at *
          clear hg he
          go_wp2
          go_ret2
          exact OcP.no HN.out ⟨rfl, H.out.2.2.1⟩
        · have hg' : ¬ (64 : Int) < (preL xss k : Int) + ((nthL xss k).length : Int) := by omega
          have he' : ¬ ((nthL xss k).length : Int) = 0 := by omega
          have HE : Hid (nthL xss k ≠ []) := Lib.hid (fun e => he (by rw [e]; rfl))
          clear he
          go_wp2_with (at_builtin; refine wpList_appN rfl _ _ 33 rfl w.heap.size 2 (.int .i64 0) 8 Try.underlying33 (by kernel_rfl) rfl _ (preL xss k) (flatL xss k) rfl H.out.1 ai ci (nthL xss k) rfl HH.out HE.out ⟨by omega, by omega⟩ H.out.2.2.1.size ?_)
          intro v' w' hown' hgr'
          have hb' : Below w.heap.size w w' := Below.grown H.out.2.2.1 hgr' H.out.2.2.1.size (own_ge H.out.1)
          have H2 : Hid (w'.ownsRow w.heap.size 2 1 v' (preL xss (k + 1)) (il (flatL xss (k + 1))) ∧ preL xss (k + 1) ≤ 64 ∧ Below w.heap.size w w' ∧ ∀ i, i < k + 1 → nthL xss i ≠ []) := Lib.hid ⟨hown', by rw [preL]; omega, hb', fun i hi => by
            by_cases e : i = k
            · rw [e]; exact HE.out
            · exact H.out.2.2.2 i (by omega)⟩
          clear hown' hgr' hb'
          go_wp2
          go_roundw
          case rel => exact ⟨k + 1, by omega, by go_num, H2.out⟩
          case measure => simp [intOf]; omega
    · have E : Hid (k = xss.length) := Lib.hid (by omega)
      obtain ⟨ao6, c6, rfl⟩ := own_form hown
      clear hown hbel hne
      by_cases hp : (preL xss k : Int) = n
      · have hF := E.out ▸ (Row.of_own H.out.1).holds
        have hFl := flatL_len xss k
        have HE : Hid (ordB (flatL xss k) = true ↔ ocC xss n) := Lib.hid (by
          have ek := E.out
          constructor
          · intro h
            refine ⟨fun i hi => H.out.2.2.2 i (by omega), by unfold totL; rw [← ek]; exact hp, ?_⟩
            rw [← ek]
            by_cases ho : isOrd (flatL xss k)
            · exact ho
            · rw [ordB_no ho] at h; cases h
          · intro h
            rw [ek]; exact ordB_yes h.2.2)
        have hF2 := (Row.of_own H.out.1).holds
        obtain ⟨p, hpp⟩ : ∃ p, p = preL xss k := ⟨_, rfl⟩
        have HP := Lib.hid hpp
        clear hF
        rw [← hpp] at hp hFl ⊢
        have HF := Lib.hid hF2
        have h64' := H.out.2.1
        rw [← hpp] at h64'
        clear hF2 hpp h64
        have hpn : n = (p : Int) := hp.symm
        subst hpn
        clear hp
        go_wp2_with fail
        have hi := implIsOrder_any (flatL xss k) ao6 c6 wr HF.out (by omega)
        rw [hFl] at hi
        refine hi.mono ?_
        rintro e w3 ⟨rfl, hb3⟩
        cases ho : ordB (flatL xss k) with
        | false =>
          have HN : Hid (¬ ocC xss (p : Int)) := Lib.hid (fun h => by rw [HE.out.2 h] at ho; cases ho)
          have HB3 := Lib.hid (Bel_next H.out.2.2.1 hb3)
          clear hb3 hi ho
          go_wp2
          go_ret2
          exact OcP.no HN.out ⟨rfl, HB3.out⟩
        | true =>
          have HC : Hid (ocC xss (p : Int)) := Lib.hid (HE.out.1 ho)
          have HB3 := Lib.hid (Bel_next H.out.2.2.1 hb3)
          clear hb3 hi ho
          have hmk := run_mk (P := Try.prog) w3 33 2 (.int .i64 0) 8 p Try.underlying33 (by kernel_rfl) rfl (by omega) (by omega)
          have HTp : Hid (totL xss = p) := Lib.hid (by rw [HP.out, E.out]; rfl)
          have hz3 := HB3.out.size
          go_wp2_with fail
          clear hmk
          go_loopw [11, 12, 14, 49] (fun c11 l12 n14 iv w4 => ∃ (q : Nat) (V : List Int), q ≤ xss.length ∧ iv = .int .i64 q ∧ RowAt w4 w3.heap.size 2 V ∧ V.length = p ∧ Wrote xss (fun i _ => i < q) V ∧ Below w.heap.size w w4) (fun _ _ _ iv _ => xss.length - (intOf iv).toNat)
          case atStart => exact ⟨0, List.replicate p 0, Nat.zero_le _, rfl, ⟨_, Whole.made _ _ _, fun i hi => by simp at hi; simp [hi]⟩, by simp, wrote_congr (wrote_none xss p) (fun i j _ => by simp), HB3.out.alloc hz3 _⟩
          case round =>
            rename World => w4
            obtain ⟨q, V, hq, rfl, hrow, hV, hwr, hbel⟩ := hrel
            have H4 := Lib.hid (And.intro hrow (And.intro hV (And.intro hwr hbel)))
            have hz4 := hrow.lt
            by_cases hlt : q < xss.length
            · obtain ⟨b, o, ai, ci, rfl, hc0, hh0⟩ := HX.out q hlt
              have HH := Lib.hid hh0
              have hh := hh0.below hbel
              have hc : w4.cell? ⟨b, o + q, none⟩ = some (.slice ai (nthL xss q).length ci) := by rw [hbel.cell (World.block_lt_of_cell? _ _ hc0)]; exact hc0
              clear hc0 hh0
              have hne := HC.out.1 q hlt
              have hlt' : (q : Int) < xss.length := by omega
              have hl64 : (nthL xss q).length ≤ 64 := by have := len_le_tot xss q hlt; have := HTp.out; omega
              obtain ⟨l', hl'⟩ : ∃ l', (nthL xss q).length = l' + 1 := ⟨(nthL xss q).length - 1, by
                have : (nthL xss q).length ≠ 0 := fun e => hne (List.eq_nil_of_length_eq_zero e)
                omega⟩
              obtain ⟨b1, o1, rfl, hc1⟩ := hh l' (by rw [il_len]; omega)
              rw [il_get _ _ (by omega)] at hc1
              obtain ⟨l, hl⟩ : ∃ l, l = (nthL xss q).length := ⟨_, rfl⟩
              rw [← hl] at hc hl64 hl'
              have HL := Lib.hid hl
              have hs : (l : Int) - 1 = (l' : Int) := by omega
              have hl1 : (l' : Int) < l := by omega
              have HLL := Lib.hid hl'
              clear hrow hV hwr hbel hne hl hl' hh
              go_wp2_with fail
              go_loopw [12, 14, 61] (fun l12 n14 iv w5 => ∃ (m : Nat) (V : List Int), m ≤ l ∧ iv = .int .i64 m ∧ l12 = .int .i64 (cyA xss q (preI l m)) ∧ RowAt w5 w3.heap.size 2 V ∧ V.length = p ∧ Wrote xss (fun i j => i < q ∨ (i = q ∧ (j + 1) % l < m)) V ∧ Below w.heap.size w w5) (fun _ _ iv _ => l - (intOf iv).toNat)
              case atStart => exact ⟨0, V, Nat.zero_le _, rfl, by simp [preI, cyA, HLL.out], H4.out.1, H4.out.2.1, wrote_congr H4.out.2.2.1 (fun i j _ => by simp), H4.out.2.2.2⟩
              case round =>
                rename World => w5
                obtain ⟨m, V5, hm, rfl, rfl, hrow, hV, hwr, hbel⟩ := hrel
                have H5 := Lib.hid (And.intro hrow (And.intro hV (And.intro hwr hbel)))
                by_cases hml : m < l
                · have hI : cyI xss q (preI l m) := ⟨hlt, by rw [← HL.out]; exact preI_lt hml⟩
                  obtain ⟨y, hy, hyn, hyt⟩ := cy_at HC.out hI
                  obtain ⟨b2, o2, e2, hc2⟩ := (HH.out.below hbel) m (by rw [il_len, ← HL.out]; exact hml)
                  cases e2
                  rw [il_get _ _ (by rw [← HL.out]; exact hml)] at hc2
                  obtain ⟨z, hz⟩ : ∃ z, z = (nthL xss q)[m]?.getD 0 := ⟨_, rfl⟩
                  rw [← hz] at hc2
                  have HZ : Hid (cyN xss q (preI l m) = z ∧ z = cyA xss q m) := Lib.hid (by
                    have e := (preI_iff hml (preI_lt hml)).2 rfl
                    have eA : cyA xss q m = z := hz.symm
                    refine ⟨?_, eA.symm⟩
                    unfold cyN
                    rw [← HL.out, e, eA])
                  have hyp : (y : Int) < (p : Int) := by have := HTp.out; omega
                  have hypn : y < V5.length := by have := HTp.out; omega
                  have hcy := hrow.cell y hypn
                  have hfy := hrow.frozen y
                  have hbl := hrow.lt
                  have hmli : (m : Int) < l := by omega
                  have HW : Hid (Wrote xss (fun i j => i < q ∨ (i = q ∧ (j + 1) % l < m + 1)) (V5.set y z)) := Lib.hid (by
                    rw [← HZ.out.1]
                    refine wrote_next HC.out hwr hI hy hypn (fun i j hij => ?_)
                    constructor
                    · rintro (h | ⟨rfl, h⟩)
                      · exact .inl (.inl h)
                      · have hj : j < l := by rw [HL.out]; exact hij.2
                        by_cases e : (j + 1) % l = m
                        · exact .inr ⟨rfl, (preI_iff hml hj).1 e⟩
                        · exact .inl (.inr ⟨rfl, by omega⟩)
                    · rintro ((h | ⟨rfl, h⟩) | ⟨rfl, rfl⟩)
                      · exact .inl h
                      · exact .inr ⟨rfl, by omega⟩
                      · exact .inr ⟨rfl, by rw [(preI_iff hml (preI_lt hml)).2 rfl]; omega⟩)
                  rw [hy]
                  clear hy hI hz hrow hV hwr hbel
                  go_wp2
                  go_roundw
                  case rel => exact ⟨m + 1, V5.set y z, by omega, by go_num, by rw [HZ.out.2]; simp [preI], H5.out.1.put y z, by simpa using H5.out.2.1, HW.out, H5.out.2.2.2.setCell hz3 _⟩
                  case measure => simp [intOf]; omega
                · have HM : Hid (m = l) := Lib.hid (by omega)
                  clear hrow hV hwr hbel
                  go_wp2
                  go_roundw
                  case rel => exact ⟨q + 1, V5, by omega, by go_num, H5.out.1, H5.out.2.1, wrote_congr H5.out.2.2.1 (fun i j hij => by
                    have h1 := Nat.mod_lt (j + 1) (show 0 < l by have := HLL.out; omega)
                    have h2 := HM.out
                    constructor
                    · rintro (h | ⟨rfl, h⟩) <;> omega
                    · intro h
                      rcases Nat.lt_or_ge i q with h3 | h3
                      · exact .inl h3
                      · exact .inr ⟨by omega, by omega⟩), H5.out.2.2.2⟩
                  case measure => simp [intOf]; omega
            · have HV : Hid (V = ocL xss) := Lib.hid (wrote_all hwr (fun i j hij => by have := hij.1; omega) (by rw [hV, HTp.out]))
              have hlen : (ocL xss).length = p := by rw [ocL_len, HTp.out]
              have HLN := Lib.hid hlen
              clear hrow hV hwr hbel hlen
              go_wp2
              go_ret2
              refine OcP.yes HC.out ⟨some ⟨w3.heap.size, 0, none⟩, p, by rw [HLN.out]; rfl, ?_, H4.out.2.2.2⟩
              rw [← HV.out]
              exact H4.out.1.row hz3 hz4
      · have HN : Hid (¬ ocC xss n) := Lib.hid (fun hc => hp (by have := hc.2.1; rw [E.out]; exact this))
        go_wp2
        go_ret2
        exact OcP.no HN.out ⟨rfl, H.out.2.2.1⟩
end Go.Proofs.Ytdnelmmbiccjcaa
