/- Numbers in decimal: digits, and the model's loop. -/
import Derived.Test.YtfgkimhcbboipaaDoorIl
import Derived.Test.YtfgkimhcbboipaaDoorLtb
import Derived.Test.YtfgkimhcbboipaaDoorSl
import Derived.Test.YtfgkimhcbboipaaDoorTl
import Derived.Laws.OwnMore
import Derived.Lib.AppendIntMem
import Derived.Laws.IdiomStrings
import Derived.Test.YtfgkimhcbboipaaDoorIn0
import Derived.Lib.ItoaMem
import Derived.Lib.ItoaLen
import Derived.Laws.AppendOwn
import Derived.Laws.BytesString
namespace Go.Proofs.YtfgkimhcbboipaaDoor
open Go Go.RowKit
set_option linter.unusedVariables false
/-- Some of the last digits have been written, the others are those of q. -/
def decI (m q : Nat) (l : List UInt8) : Prop :=
  (l = [] ∧ q = m) ∨ (l ≠ [] ∧ q ≠ 0 ∧ Lib.decDigits m = Lib.decDigits q ++ l) ∨ (l ≠ [] ∧ q = 0 ∧ Lib.decDigits m = l)
theorem decI.step {m q : Nat} {l : List UInt8} (h : decI m q l) (hc : l = [] ∨ q ≠ 0) : decI m (q / 10) (UInt8.ofNat (48 + q % 10) :: l) := by
  have hn : UInt8.ofNat (48 + q % 10) :: l ≠ [] := by simp
  have key : ∀ q' l', Lib.decDigits q' ++ l' = (if q' / 10 = 0 then [] else Lib.decDigits (q' / 10)) ++ UInt8.ofNat (48 + q' % 10) :: l' := by
    intro q' l'
    rw [Lib.decDigits]
    by_cases h10 : q' < 10
    · rw [dif_pos h10, if_pos (by omega), show q' % 10 = q' by omega]; rfl
    · rw [dif_neg h10, if_neg (by omega)]; simp
  have go : Lib.decDigits m = Lib.decDigits q ++ l → decI m (q / 10) (UInt8.ofNat (48 + q % 10) :: l) := by
    intro e
    rw [key] at e
    by_cases h0 : q / 10 = 0
    · rw [if_pos h0] at e
      exact .inr (.inr ⟨hn, h0, e⟩)
    · rw [if_neg h0] at e
      exact .inr (.inl ⟨hn, h0, e⟩)
  rcases h with ⟨rfl, rfl⟩ | ⟨_, _, e⟩ | ⟨hl, h0, _⟩
  · exact go (by simp)
  · exact go e
  · rcases hc with h | h
    · exact absurd h hl
    · exact absurd h0 h
theorem decI.done {m q : Nat} {l : List UInt8} (h : decI m q l) (hl : l ≠ []) (hq : q = 0) : Lib.decDigits m = l := by
  rcases h with ⟨h1, _⟩ | ⟨_, h1, _⟩ | ⟨_, _, e⟩
  · exact absurd h1 hl
  · exact absurd hq h1
  · exact e
theorem decI.len {m q : Nat} {l : List UInt8} (h : decI m q l) : l.length ≤ (Lib.decDigits m).length := by
  rcases h with ⟨h1, _⟩ | ⟨_, _, e⟩ | ⟨_, _, e⟩
  · rw [h1]; simp
  · rw [e]; simp
  · rw [e]; exact Nat.le_refl _

def lenOf : Value → Nat
  | .slice _ n _ => n
  | _ => 0
theorem decI.zero (m : Nat) : decI m m [] := .inl ⟨rfl, rfl⟩
theorem byteCells_cons (x : UInt8) (l : List UInt8) : Lib.byteCells (x :: l) = Value.int .u8 x.toNat :: Lib.byteCells l := rfl
/-- So much is left of n. -/
def restI (n : Int) (q : Nat) : Int := if n < 0 then -(q : Int) else q
theorem digit_byte (q : Nat) : (UInt8.ofNat (48 + q % 10)).toNat = 48 + q % 10 := by
  rw [UInt8.toNat_ofNat']; omega
theorem byteCells_ones (l : List UInt8) : ∀ u ∈ Lib.byteCells l, u.oneCell' = true := by
  intro u hu
  obtain ⟨b, _, rfl⟩ := List.mem_map.1 hu
  rfl
/-- 'string(b)' of a row of bytes. -/
theorem own_back {w : World} {base g c n : Nat} {l : List UInt8} (hown : w.ownsRow base 5 1 (.slice (some ⟨g, 0, none⟩) n c) n (Lib.byteCells l)) (hl : l.length = n) :
    (convert 112 9 (.slice (some ⟨g, 0, none⟩) n c)).run Tryd.prog w = .ok (.string ⟨l.toArray⟩) w := by
  subst hl
  refine run_convert_bytes_back w _ _ 5 ⟨g, 0, none⟩ c l Tryd.underlying112 Tryd.underlying5 Tryd.underlying9 ?_
  intro j hj
  refine hown.cells rfl j _ ?_
  simp [Lib.byteCells, hj]
/-- 'append(a, b...)' of two rows of bytes that the call has made. -/
theorem wpList_appB {P : Program} {w : World} {ops : Array Oper} {rest : List Oper} {o : Oper} {a : Act} {Q : Exit → Act → World → Prop} (hgd : o.guard = none) (s x : Operand) (t : TypeId)
    (ho : o.op = .call { callee := .builtin .append, args := #[s, x], argTypes := #[t, t] })
    (base : Nat) (e : TypeId) (z : Value) (ht : P.underlying t = some (.slice e)) (hi : (P.info? e).map (fun i => (i.zero, i.size, i.bytes)) = some (some z, 1, 1)) (hz : z.cells.size = 1)
    (g1 c1 n : Nat) (xs : List Value) (hs : a.eval s = .slice (some ⟨g1, 0, none⟩) n c1) (hown : w.ownsRow base e 1 (.slice (some ⟨g1, 0, none⟩) n c1) n xs)
    (base2 g2 c2 : Nat) (ys : List UInt8) (hx : a.eval x = .slice (some ⟨g2, 0, none⟩) ys.length c2) (hown2 : w.ownsRow base2 e 1 (.slice (some ⟨g2, 0, none⟩) ys.length c2) ys.length (Lib.byteCells ys))
    (hn : n + ys.length ≤ 140737488355328) (hbase : base ≤ w.heap.size)
    (h : ∀ g' c' w', w'.ownsRow base e 1 (.slice (some ⟨g', 0, none⟩) (n + ys.length) c') (n + ys.length) (xs ++ Lib.byteCells ys) → w.grownBy w' (some g1) → wpList P ops Q rest (a.put o.dst (.slice (some ⟨g', 0, none⟩) (n + ys.length) c')) w') : wpList P ops Q (o :: rest) a w := by
  obtain ⟨i, hi, h1', h2, h3⟩ := info_parts hi
  refine wpList_append_own w hgd s x t ho base e i z 1 1 ht hi h1' h2 h3 hz (by decide) _ n xs hs hown ⟨g2, 0, none⟩ ys.length c2 (Lib.byteCells ys) hx (by rw [Lib.byteCells_length, Nat.mul_one]) (hown2.cells rfl) (byteCells_ones _) ?_ (by rw [Nat.mul_one]; exact hn) hbase ?_
  · have : maxLen = 9223372036854775807 := by decide
    omega
  · intro v' w' a1 a2 a3
    obtain ⟨ao, c, rfl⟩ := own_form a1
    rcases a1.2 with ⟨h1, _⟩ | ⟨g', cap', cur, h', _⟩
    · have := a3.1 h1
      cases this.1
    · cases h'
      exact h g' _ w' a1 a2
theorem dec_rem {n : Int} {q : Nat} (hneg : n < 0) : (restI n q).tmod 10 = -((q % 10 : Nat) : Int) ∧ (restI n q).tdiv 10 = restI n (q / 10) := by
  unfold restI
  rw [if_pos hneg, if_pos hneg, Int.neg_tmod, Int.neg_tdiv]
  exact ⟨rfl, rfl⟩
theorem dec_rem' {n : Int} {q : Nat} (hneg : ¬ n < 0) : (restI n q).tmod 10 = ((q % 10 : Nat) : Int) ∧ (restI n q).tdiv 10 = restI n (q / 10) := by
  unfold restI
  rw [if_neg hneg, if_neg hneg]
  exact ⟨rfl, rfl⟩
theorem dig_neg (q : Nat) : wrap64 (48 + wrap64 (- -((q % 10 : Nat) : Int))) % 256 = ((UInt8.ofNat (48 + q % 10)).toNat : Int) := by
  rw [digit_byte]; unfold wrap64; omega
theorem dig_pos (q : Nat) : wrap64 (48 + ((q % 10 : Nat) : Int)) % 256 = ((UInt8.ofNat (48 + q % 10)).toNat : Int) := by
  rw [digit_byte]; unfold wrap64; omega
/-- What the loop carries. -/
def decR (w : World) (m : Nat) (n : Int) (out rest : Value) (wr : World) : Prop :=
  ∃ (l : List UInt8) (q g c : Nat), (decI m q l ∧ q ≤ m) ∧ rest = .int .i64 (restI n q) ∧ out = .slice (some ⟨g, 0, none⟩) l.length c ∧ wr.ownsRow w.heap.size 5 1 out l.length (Lib.byteCells l) ∧ Below w.heap.size w wr
set_option maxRecDepth 100000 in
set_option maxHeartbeats 1000000 in
theorem l01Dec_any (n : Int) (h0 : -9223372036854775808 ≤ n) (h1 : n ≤ 9223372036854775807) (w : World) :
    Calls Tryd.prog 57 #[.int .i64 n] w (RetB (.string ⟨(Lib.itoa n).toArray⟩) w) := by
  obtain ⟨m, hm⟩ : ∃ m, n.natAbs = m := ⟨_, rfl⟩
  have hlen : (Lib.decDigits m).length ≤ 20 := by rw [Lib.decDigits_length]; exact Lib.nDigits_le20 m (by omega)
  have HM := Lib.hid (And.intro hm hlen)
  clear hm hlen
  go_enter Tryd.func57, Tryd.ntmps57
  go_wp2_with fail
  go_loopw [3, 4] (fun out rest wr => decR w m n out rest wr) (fun out rest _ => (intOf rest).natAbs + (if lenOf out = 0 then 1 else 0))
  case atStart =>
    refine ⟨[], m, w.heap.size, 0, ⟨decI.zero m, Nat.le_refl _⟩, ?_, rfl, World.ownsRow_lit w #[] 0 (Nat.le_refl _) (by decide) rfl, (by repeat (first | with_reducible exact Below.refl _ _ | with_reducible exact HBL | with_reducible refine Below.drew ?_ | with_reducible refine Bel_drewN ?_ _ | with_reducible refine Below.alloc ?_ (by first | omega | (simp; done) | (simp; omega)) _ | with_reducible refine Below.setCell ?_ (by first | omega | (simp; done) | (simp; omega)) _))⟩
    have := HM.out.1
    unfold restI
    congr 1
    split <;> omega
  case round =>
    obtain ⟨l, q, g, c, hI, rfl, rfl, hown, hbel⟩ := hrel
    have hll : l.length ≤ 20 := Nat.le_trans hI.1.len HM.out.2
    have H := Lib.hid (And.intro hI (And.intro hown hbel))
    clear hI hown hbel
    by_cases hgo : l = [] ∨ q ≠ 0
    · have hmeas : (restI n (q / 10)).natAbs < (restI n q).natAbs + (if l.length = 0 then 1 else 0) := by
        unfold restI
        rcases hgo with h | h
        · subst h; simp; split <;> omega
        · split <;> split <;> omega
      have hw : wrap64 (restI n (q / 10)) = restI n (q / 10) := by
        have h2 := H.out.1.2
        have h3 := HM.out.1
        unfold restI wrap64
        split <;> omega
      have HG := Lib.hid (And.intro hgo (And.intro hmeas hw))
      obtain ⟨r, hr⟩ : ∃ r, restI n q = r := ⟨_, rfl⟩
      have hlz : l = [] ∧ ((l.length : Int) == 0) = true ∨ ((l.length : Int) == 0) = false ∧ (r != 0) = true := by
        by_cases hl : l = []
        · subst hl; exact .inl ⟨rfl, rfl⟩
        · refine .inr ⟨?_, ?_⟩
          · rw [beq_eq_false_iff_ne]; intro h; exact hl (List.length_eq_zero_iff.1 (by omega))
          · have hq : q ≠ 0 := hgo.resolve_left hl
            rw [← hr]; unfold restI; simp; split <;> omega
      clear hgo hmeas hw
      rw [hr]
      by_cases hneg : n < 0
      · obtain ⟨hd, ht⟩ := dec_rem (q := q) hneg
        rw [hr] at hd ht
        obtain ⟨k, hk⟩ : ∃ k : Int, k = -((q % 10 : Nat) : Int) := ⟨_, rfl⟩
        rw [← hk] at hd
        have HK := Lib.hid hk
        clear hk
        by_cases hkn : k < 0
        · have hnn : decide (k < 0) = true := decide_eq_true hkn
          have HX : Hid (wrap64 (48 + wrap64 (-k)) % 256 = ((UInt8.ofNat (48 + q % 10)).toNat : Int)) := Lib.hid (by have := HK.out; rw [digit_byte]; unfold wrap64; omega)
          rcases hlz with ⟨_, hz⟩ | ⟨hz, hr0⟩
          all_goals
            go_wp2_with (at_builtin; rw [HX.out]; refine wpList_appB rfl _ _ 112 rfl w.heap.size 5 (.int .u8 0) Tryd.underlying112 (by kernel_rfl) rfl _ 1 1 _ rfl (World.ownsRow_lit wr #[.int .u8 _] 1 H.out.2.2.size (by decide) rfl) w.heap.size g c l rfl (H.out.2.1.alloc _) (by omega) (by have := H.out.2.2.size; simp; omega) ?_; intro g' c' w' hown' hgr')
            rw [HG.out.2.2]
            refine ⟨⟨UInt8.ofNat (48 + q % 10) :: l, q / 10, g', c', ⟨H.out.1.1.step HG.out.1, by have := H.out.1.2; omega⟩, rfl, by first | (simp [Nat.add_comm]; done) | (subst_vars; rfl), ?_, Below.grown (H.out.2.2.alloc H.out.2.2.size _) hgr' (by have := H.out.2.2.size; simp; omega) (by intro i hi; cases hi; exact H.out.2.2.size)⟩, ?_⟩
            · first
              | (rw [List.length_cons, Nat.add_comm l.length 1]; exact hown')
              | (subst_vars; exact hown')
            · have h5 := HG.out.2.1
              rw [hr] at h5
              have e1 : lenOf (.slice (some ⟨g, 0, none⟩) l.length c) = l.length := rfl
              rw [e1]
              refine Nat.lt_of_le_of_lt ?_ h5
              have e2 : ∀ k, (intOf (.int .i64 (restI n k))).natAbs = (restI n k).natAbs := fun _ => rfl
              rw [e2]
              simp [lenOf]
        · have hnn : decide (k < 0) = false := decide_eq_false hkn
          have HX : Hid (wrap64 (48 + k) % 256 = ((UInt8.ofNat (48 + q % 10)).toNat : Int)) := Lib.hid (by have := HK.out; rw [digit_byte]; unfold wrap64; omega)
          rcases hlz with ⟨_, hz⟩ | ⟨hz, hr0⟩
          all_goals
            go_wp2_with (at_builtin; rw [HX.out]; refine wpList_appB rfl _ _ 112 rfl w.heap.size 5 (.int .u8 0) Tryd.underlying112 (by kernel_rfl) rfl _ 1 1 _ rfl (World.ownsRow_lit wr #[.int .u8 _] 1 H.out.2.2.size (by decide) rfl) w.heap.size g c l rfl (H.out.2.1.alloc _) (by omega) (by have := H.out.2.2.size; simp; omega) ?_; intro g' c' w' hown' hgr')
            rw [HG.out.2.2]
            refine ⟨⟨UInt8.ofNat (48 + q % 10) :: l, q / 10, g', c', ⟨H.out.1.1.step HG.out.1, by have := H.out.1.2; omega⟩, rfl, by first | (simp [Nat.add_comm]; done) | (subst_vars; rfl), ?_, Below.grown (H.out.2.2.alloc H.out.2.2.size _) hgr' (by have := H.out.2.2.size; simp; omega) (by intro i hi; cases hi; exact H.out.2.2.size)⟩, ?_⟩
            · first
              | (rw [List.length_cons, Nat.add_comm l.length 1]; exact hown')
              | (subst_vars; exact hown')
            · have h5 := HG.out.2.1
              rw [hr] at h5
              have e1 : lenOf (.slice (some ⟨g, 0, none⟩) l.length c) = l.length := rfl
              rw [e1]
              refine Nat.lt_of_le_of_lt ?_ h5
              have e2 : ∀ k, (intOf (.int .i64 (restI n k))).natAbs = (restI n k).natAbs := fun _ => rfl
              rw [e2]
              simp [lenOf]
      · obtain ⟨hd, ht⟩ := dec_rem' (q := q) hneg
        rw [hr] at hd ht
        have hnn : decide (((q % 10 : Nat) : Int) < 0) = false := by simp; omega
        have HX := Lib.hid (dig_pos q)
        generalize ((q % 10 : Nat) : Int) = k at hd hnn HX
        rcases hlz with ⟨_, hz⟩ | ⟨hz, hr0⟩
        all_goals
          go_wp2_with (at_builtin; rw [HX.out]; refine wpList_appB rfl _ _ 112 rfl w.heap.size 5 (.int .u8 0) Tryd.underlying112 (by kernel_rfl) rfl _ 1 1 _ rfl (World.ownsRow_lit wr #[.int .u8 _] 1 H.out.2.2.size (by decide) rfl) w.heap.size g c l rfl (H.out.2.1.alloc _) (by omega) (by have := H.out.2.2.size; simp; omega) ?_; intro g' c' w' hown' hgr')
          rw [HG.out.2.2]
          refine ⟨⟨UInt8.ofNat (48 + q % 10) :: l, q / 10, g', c', ⟨H.out.1.1.step HG.out.1, by have := H.out.1.2; omega⟩, rfl, by first | (simp [Nat.add_comm]; done) | (subst_vars; rfl), ?_, Below.grown (H.out.2.2.alloc H.out.2.2.size _) hgr' (by have := H.out.2.2.size; simp; omega) (by intro i hi; cases hi; exact H.out.2.2.size)⟩, ?_⟩
          · first
            | (rw [List.length_cons, Nat.add_comm l.length 1]; exact hown')
            | (subst_vars; exact hown')
          · have h5 := HG.out.2.1
            rw [hr] at h5
            have e1 : lenOf (.slice (some ⟨g, 0, none⟩) l.length c) = l.length := rfl
            rw [e1]
            refine Nat.lt_of_le_of_lt ?_ h5
            have e2 : ∀ k, (intOf (.int .i64 (restI n k))).natAbs = (restI n k).natAbs := fun _ => rfl
            rw [e2]
            simp [lenOf]
    · have hl : l ≠ [] := fun h => hgo (.inl h)
      have hq : q = 0 := by
        rcases Nat.eq_zero_or_pos q with h | h
        · exact h
        · exact absurd (.inr (by omega)) hgo
      subst hq
      have HD := Lib.hid (H.out.1.1.done hl rfl)
      have hz : ((l.length : Int) == 0) = false := by
        rw [beq_eq_false_iff_ne]; intro h; exact hl (List.length_eq_zero_iff.1 (by omega))
      have hr : restI n 0 = 0 := by unfold restI; split <;> rfl
      rw [hr]
      clear hl hgo hr
      by_cases hneg : n < 0
      · have HE : Hid ((⟨(Lib.itoa n).toArray⟩ : ByteArray) = ⟨(45 :: l).toArray⟩) := Lib.hid (by unfold Lib.itoa; rw [if_pos hneg, HM.out.1, HD.out])
        rw [HE.out]
        go_wp2_with (at_builtin; refine wpList_appB rfl _ _ 112 rfl w.heap.size 5 (.int .u8 0) Tryd.underlying112 (by kernel_rfl) rfl _ 1 1 _ rfl (World.ownsRow_lit wr #[.int .u8 _] 1 H.out.2.2.size (by decide) rfl) w.heap.size g c l rfl (H.out.2.1.alloc _) (by omega) (by have := H.out.2.2.size; simp; omega) ?_; intro g' c' w' hown' hgr'; have hconv := own_back (l := 45 :: l) hown' (by rw [List.length_cons, Nat.add_comm]))
        go_ret
        exact ⟨(congrArg (fun x => Ending.returned (Value.string x)) HE.out).symm, Below.grown (H.out.2.2.alloc H.out.2.2.size _) hgr' (by have := H.out.2.2.size; simp; omega) (by intro i hi; cases hi; exact H.out.2.2.size)⟩
      · have HE : Hid ((⟨(Lib.itoa n).toArray⟩ : ByteArray) = ⟨l.toArray⟩) := Lib.hid (by unfold Lib.itoa; rw [if_neg hneg, show n.toNat = m by have := HM.out.1; omega, HD.out])
        rw [HE.out]
        have hconv := own_back H.out.2.1 rfl
        go_wp2_with fail
        go_ret
        exact ⟨(congrArg (fun x => Ending.returned (Value.string x)) HE.out).symm, H.out.2.2⟩
theorem implDecimal_any (n : Int) (h0 : -9223372036854775808 ≤ n) (h1 : n ≤ 9223372036854775807) (w : World) (hT : Pow10 w) :
    Calls Tryd.prog 16 #[.int .i64 n] w (RetB (.string ⟨(Lib.itoa n).toArray⟩) w) := by
  have HT := Lib.hid hT
  clear hT
  go_enter Tryd.func16, Tryd.ntmps16
  go_wp2_with (first | (go_at_call 58; fail))
  refine (Tryd.formatInt n h0 h1 _ HT.out).mono ?_
  rintro e w' ⟨rfl, k, os, hw⟩
  have hb : Below w.heap.size w w' := by
    rw [hw]
    exact Lib.below_grow _ _ (Nat.le_refl _) k os
  have HB := Lib.hid hb
  clear hw hb
  go_wp2_with fail
  go_ret
  exact ⟨rfl, HB.out⟩
end Go.Proofs.YtfgkimhcbboipaaDoor
