/- Orders of codes: both sides. -/
import Derived.Test.YtncebfnfmjimmaaDl
import Derived.Deep.CutRange
namespace Go.Proofs.Ytncebfnfmjimmaa
open Go Go.RowKit
set_option linter.unusedVariables false

/-- It returns a list and yes, if p holds, and nothing and no, if not. -/
def ListP (p : Prop) (vs : List Int) (w : World) (e : Ending) (w' : World) : Prop :=
  (p → RetL vs.length (il vs) (fun s => .tuple #[s, .bool true]) w e w') ∧ (¬p → RetB (.tuple #[.slice none 0 0, .bool false]) w e w')
theorem ListP.yes {p : Prop} {vs : List Int} {w w' : World} {e : Ending} (h : p) (hr : RetL vs.length (il vs) (fun s => .tuple #[s, .bool true]) w e w') : ListP p vs w e w' := ⟨fun _ => hr, fun hn => absurd h hn⟩
theorem ListP.no {p : Prop} {vs : List Int} {w w' : World} {e : Ending} (h : ¬p) (hr : RetB (.tuple #[.slice none 0 0, .bool false]) w e w') : ListP p vs w e w' := ⟨fun hp => absurd hp h, fun _ => hr⟩
theorem ListP.some {P : Program} {F : FuncId} {args : Array Value} {w : World} {p : Prop} {vs : List Int} (h : p) (hc : Calls P F args w (ListP p vs w)) :
    Calls P F args w (RetL vs.length (il vs) (fun s => .tuple #[s, .bool true]) w) := hc.mono fun e w' H => H.1 h
theorem ListP.none {P : Program} {F : FuncId} {args : Array Value} {w : World} {p : Prop} {vs : List Int} (h : ¬p) (hc : Calls P F args w (ListP p vs w)) :
    Calls P F args w (RetB (.tuple #[.slice none 0 0, .bool false]) w) := hc.mono fun e w' H => H.2 h

/-- A block of another type than an owned row's is not that row's. -/
theorem own_type {w : World} {base n g : Nat} {e t : TypeId} {v : Value} {xs : List Value} {cs : List Int} (h : w.ownsRow base e 1 v n xs) (hr : RowAt w g t cs) (ht : t ≠ e) : some g ≠ v.ownBlock := by
  intro hg
  rcases h.2 with ⟨rfl, _⟩ | ⟨g', cap, cur, rfl, _, hgg, _⟩
  · simp [Value.ownBlock] at hg
  · simp [Value.ownBlock] at hg
    subst hg
    obtain ⟨cur', hw, _⟩ := hr
    unfold Whole at hw
    rw [hw] at hgg
    injection hgg with hgg
    injection hgg with _ h2
    exact ht h2

/-- The first k numbers of a code lie where they can. -/
def codTo (cs : List Int) (k : Nat) : Prop := ∀ i : Nat, i < k → 0 ≤ cs[i]?.getD 0 ∧ cs[i]?.getD 0 < (cs.length : Int) - i
def isCod (cs : List Int) : Prop := (1 ≤ cs.length ∧ cs.length ≤ 64) ∧ codTo cs cs.length
theorem codTo_next {cs : List Int} {k : Nat} (h : codTo cs k) (hk : 0 ≤ cs[k]?.getD 0 ∧ cs[k]?.getD 0 < (cs.length : Int) - k) : codTo cs (k + 1) := fun i hi => by
  by_cases e : i = k
  · subst e; exact hk
  · exact h i (by omega)
/-- What is left behind k numbers of a code, and what has been taken. -/
def leftK (cs : List Int) : Nat → List Int
  | 0 => idL cs.length
  | k + 1 => (leftK cs k).eraseIdx (cs[k]?.getD 0).toNat
def ordK (cs : List Int) : Nat → List Int
  | 0 => []
  | k + 1 => ordK cs k ++ [(leftK cs k)[(cs[k]?.getD 0).toNat]?.getD 0]
def ordL (cs : List Int) : List Int := ordK cs cs.length
theorem ordK_len (cs : List Int) (k : Nat) : (ordK cs k).length = k := by
  induction k with
  | zero => rfl
  | succ k ih => simp [ordK, ih]
theorem ordL_len (cs : List Int) : (ordL cs).length = cs.length := ordK_len _ _
theorem leftK_len {cs : List Int} {k : Nat} (h : codTo cs k) (hk : k ≤ cs.length) : (leftK cs k).length = cs.length - k := by
  induction k with
  | zero => simp [leftK, idL_len]
  | succ k ih =>
    have h' : codTo cs k := fun i hi => h i (by omega)
    have := h k (by omega)
    rw [leftK, eraseIdx_len _ _ (by rw [ih h' (by omega)]; omega), ih h' (by omega)]; omega
set_option maxRecDepth 100000 in
set_option maxHeartbeats 2000000 in
theorem implOOC_in (cs : List Int) (ao : Option Addr) (c : Nat) (w : World) (hn : 1 ≤ cs.length ∧ cs.length ≤ 64) (hx : Holds w ao (il cs)) :
    Calls Try.prog 24 #[.slice ao cs.length c] w (ListP (isCod cs) (ordL cs) w) := by
  have HX := Lib.hid hx
  have HN := Lib.hid hn
  have hmk0 : ∀ w : World, (Instr.makeSlice 22 (.int .i64 0) (.int .i64 (cs.length : Int))).run Try.prog w = .ok (.slice (some ⟨w.heap.size, 0, none⟩) 0 cs.length) (w.alloc (.cells (Array.replicate cs.length (.int .i64 0)) 2)) := fun w => run_mk0 w 22 2 cs.length (by omega) Try.underlying22 (by kernel_rfl)
  have hd : decide ((1 : Int) ≤ cs.length ∧ (cs.length : Int) ≤ 64) = true := by simp; omega
  have HD := Lib.hid hd
  have hFO : ∀ w, _ := fun w => firstOrder_ret cs.length hn.1 hn.2 w
  have HFO := Lib.hid hFO
  clear hx hn hd hFO
  go_enter Try.func24, Try.ntmps24
  go_wp2_with fail
  refine (isOrderSize_any _ _).mono ?_
  rintro e w1 ⟨rfl, rfl⟩
  rw [HD.out]
  go_upto_region 4 with fail
  go_cut [5, 6] from 14 to 17 (fun s0 s1 wx => ∃ gA gB : Nat, s0 = .slice (some ⟨gA, 0, none⟩) 0 cs.length ∧ s1 = .slice (some ⟨gB, 0, none⟩) cs.length cs.length ∧ wx.ownsRow w.heap.size 2 1 (.slice (some ⟨gA, 0, none⟩) 0 cs.length) 0 [] ∧ RowAt wx gB 77 (idL cs.length) ∧ Below w.heap.size w wx ∧ w.heap.size ≤ gB)
  case first =>
    go_region_with (first | (go_at_call 56; refine (HFO.out _).mono ?_; rintro e w3 ⟨rfl, hrow, hb3⟩))
    · have HR := Lib.hid (And.intro hrow hb3)
      clear hrow hb3
      go_wp2_with fail
      go_meet
      refine ⟨_, _, rfl, rfl, ?_, by simpa using HR.out.1, ?_, ?_⟩
      · exact (World.ownsRow_made (e := 2) (size := 1) w (Array.replicate cs.length (.int .i64 0)) cs.length (Nat.le_refl _) (by have := HN.out.2; unfold maxLen; omega) (by simp)).drew.kept (grown_below (row := none) HR.out.2) (Or.inr (by simp [Value.ownBlock]))
      · exact Bel_next (((Below.refl _ _).alloc (Nat.le_refl _) _).drew) HR.out.2
      · exact Nat.le_succ _
    · have HR := Lib.hid (And.intro hrow hb3)
      have hz3 := hb3.size
      clear hrow hb3
      go_wp2_with fail
      go_meet
      refine ⟨_, _, rfl, rfl, ?_, HR.out.1.alloc _, ?_, ?_⟩
      · exact World.ownsRow_made w3 _ cs.length (by simpa using hz3) (by have := HN.out.2; unfold maxLen; omega) (by simp)
      · have HBL : Below w.heap.size w w3 := Bel_next (Below.refl _ _).drew HR.out.2
        have := HBL.size
        exact (by repeat (first | with_reducible exact Below.refl _ _ | with_reducible exact HBL | with_reducible refine Below.drew ?_ | with_reducible refine Bel_drewN ?_ _ | with_reducible refine Below.alloc ?_ (by first | omega | (simp; done) | (simp; omega)) _ | with_reducible refine Below.setCell ?_ (by first | omega | (simp; done) | (simp; omega)) _))
      · exact Nat.le_refl _
  case rest =>
    obtain ⟨gA, gB, rfl, rfl, hown, hrow, hbel, hgbw⟩ := hcut
    have HGB := Lib.hid hgbw
    clear hgbw
    have H0 := Lib.hid (And.intro hown (And.intro hrow hbel))
    clear hown hrow hbel hmk0 HFO
    go_wp2
    go_loopw [5, 6, 20] (fun s5 s6 i wr => ∃ k m : Nat, k + m = cs.length ∧ i = .int .i64 k ∧ s6 = .slice (some ⟨gB, 0, none⟩) m cs.length ∧ codTo cs k ∧ wr.ownsRow w.heap.size 2 1 s5 k (il (ordK cs k)) ∧ RowAt wr gB 77 (leftK cs k) ∧ Below w.heap.size w wr) (fun _ _ i _ => cs.length - (intOf i).toNat)
    case atStart => exact ⟨0, cs.length, by omega, rfl, rfl, fun i hi => absurd hi (Nat.not_lt_zero _), H0.out⟩
    case round =>
      obtain ⟨k, m, hkm, rfl, rfl, hcod, hown, hrow, hbel⟩ := hrel
      have H := Lib.hid (And.intro hcod (And.intro hown (And.intro hrow hbel)))
      have hlen := leftK_len hcod (by omega)
      have hLL : Hid ((leftK cs k).length = m) := Lib.hid (by omega)
      clear H0
      by_cases hlt : k < cs.length
      · obtain ⟨b, o, rfl, hc⟩ := (Holds.below HX.out hbel) k (by simpa [il] using hlt)
        rw [il_get _ _ hlt] at hc
        obtain ⟨x, hx⟩ : ∃ x, x = cs[k]?.getD 0 := ⟨_, rfl⟩
        rw [← hx] at hc
        have HE := Lib.hid hx
        have HKM := Lib.hid hkm
        have hlt' : (k : Int) < cs.length := by omega
        have hzr : w.heap.size ≤ wr.heap.size := hbel.size
        have hn64 : cs.length ≤ 64 := HN.out.2
        clear hx hcod hown hrow hbel hlen hkm
        go_wp2_with fail
        refine (isBelow_any _ _ _).mono ?_
        rintro e w1 ⟨rfl, rfl⟩
        by_cases hr : 0 ≤ x ∧ x < (m : Int)
        · rw [decide_eq_true hr]
          obtain ⟨y, rfl⟩ : ∃ y : Nat, x = (y : Int) := ⟨x.toNat, by omega⟩
          have hym : y < m := by omega
          have hyi : (y : Int) < m := by omega
          have hm0 : 0 < m := by omega
          have hy64 : (y : Int) < 64 := by have := HKM.out; omega
          have hcy := H.out.2.2.1.cell y (by rw [hLL.out]; exact hym)
          obtain ⟨v, hv⟩ : ∃ v, v = (leftK cs k)[y]?.getD 0 := ⟨_, rfl⟩
          rw [← hv] at hcy
          have hne := own_type H.out.2.1 H.out.2.2.1 (by decide)
          have hgB := H.out.2.2.1.lt
          have HS : Hid (codTo cs (k + 1) ∧ leftK cs (k + 1) = (leftK cs k).eraseIdx y ∧ ordK cs (k + 1) = ordK cs k ++ [v]) := Lib.hid (by
            have hkm := HKM.out
            refine ⟨codTo_next H.out.1 (by rw [← HE.out]; omega), ?_, ?_⟩
            · rw [leftK, ← HE.out]; rfl
            · rw [ordK, ← HE.out, hv]; rfl)
          have HNE := Lib.hid hne
          clear hr hv hne
          go_wp2_with (at_builtin; refine wpList_app1 rfl _ _ 22 rfl w.heap.size 2 (.int .i64 0) 8 Try.underlying22 (by kernel_rfl) rfl _ k _ rfl (H.out.2.1.alloc _) _ _ (.int .i64 v) rfl ?_ rfl ⟨by omega, by omega⟩ ?_ ?_)
          · simp
          · simp; omega
          · intro v' w' hown' hgr'
            have ho3 : w'.ownsRow w.heap.size 2 1 v' (k + 1) (il (ordK cs (k + 1))) := by rw [HS.out.2.2, il, List.map_append]; exact hown'
            have hr3 : RowAt w' gB 77 (leftK cs k) := (H.out.2.2.1.alloc _).grown hgr' HNE.out
            have hg3 : Below w.heap.size w w' := Below.grown (H.out.2.2.2.alloc hzr _) hgr' (by simp; omega) (own_ge H.out.2.1)
            have H3 := Lib.hid (And.intro ho3 (And.intro hr3 hg3))
            clear hown' hgr' hg3 ho3 hr3
            go_wp2_with fail
            refine (delete_n (leftK cs k) m gB y cs.length _ _ hLL.out H3.out.2.1 hym (by have := HKM.out; omega) (by omega)).mono ?_
            rintro e w2 ⟨rfl, hrow2, hgr2⟩
            have ho4 : w2.ownsRow w.heap.size 2 1 v' (k + 1) (il (ordK cs (k + 1))) := H3.out.1.kept hgr2 (Or.inr fun e => own_type H3.out.1 H3.out.2.1 (by decide) e.symm)
            have hgBw : w.heap.size ≤ gB := HGB.out
            have hb4 : Below w.heap.size w w2 := Below.grown H3.out.2.2 hgr2 H3.out.2.2.size (by intro i hi; cases hi; exact hgBw)
            rw [← HS.out.2.1] at hrow2
            have H4 := Lib.hid (And.intro HS.out.1 (And.intro ho4 (And.intro hrow2 hb4)))
            clear hrow2 hgr2 ho4 hb4 H3 H hgBw
            go_wp2
            go_roundw
            case rel => exact ⟨k + 1, m - 1, by have := HKM.out; omega, by go_num, rfl, H4.out⟩
            case measure => simp [intOf]; omega
        · rw [decide_eq_false hr]
          have HB : Hid (¬ isCod cs) := Lib.hid (fun h => by
            have := h.2 k hlt
            have hkm := HKM.out
            rw [← HE.out] at this
            exact hr (by omega))
          clear hr
          go_wp2
          go_ret2
          exact ListP.no HB.out ⟨rfl, H.out.2.2.2⟩
      · have E : Hid (k = cs.length) := Lib.hid (by omega)
        have hk1 : 0 < k := by have := HN.out.1; omega
        obtain ⟨g, cap, rfl, hg, hrow2⟩ := RowAt.of_own H.out.2.1 hk1
        have HR := Lib.hid (And.intro hg hrow2)
        clear hcod hown hrow hbel hg hrow2 hlen
        go_wp2
        go_ret2
        obtain ⟨h1, h2, h3, h4⟩ := H.out
        have HRR := HR.out
        rw [E.out] at HRR h1
        refine ListP.yes ⟨HN.out, h1⟩ ⟨_, cap, by rw [ordL_len, ← E.out]; rfl, ?_, h4⟩
        exact HRR.2.row HRR.1 HRR.2.lt
theorem implOOC_any (cs : List Int) (ao : Option Addr) (c : Nat) (w : World) (hx : Holds w ao (il cs)) :
    Calls Try.prog 24 #[.slice ao cs.length c] w (ListP (isCod cs) (ordL cs) w) := by
  by_cases hn : 1 ≤ cs.length ∧ cs.length ≤ 64
  · exact implOOC_in cs ao c w hn hx
  · have HD : Hid (decide ((1 : Int) ≤ cs.length ∧ (cs.length : Int) ≤ 64) = false) := Lib.hid (by simp; omega)
    have HN : Hid (¬ isCod cs) := Lib.hid (fun h => hn h.1)
    clear hn hx
    go_enter Try.func24, Try.ntmps24
    go_wp2_with fail
    refine (isOrderSize_any _ _).mono ?_
    rintro e w1 ⟨rfl, rfl⟩
    rw [HD.out]
    go_wp2
    go_ret2
    exact ListP.no HN.out ⟨rfl, Below.refl _ _⟩
set_option maxRecDepth 100000 in
set_option maxHeartbeats 2000000 in
theorem l04FromCode_ret (cs : List Int) (ao : Option Addr) (c : Nat) (w : World) (hv : isCod cs) (hx : Holds w ao (il cs)) :
    Calls Try.prog 55 #[.slice ao cs.length c] w (RetL cs.length (il (ordL cs)) (fun s => s) w) := by
  have HX := Lib.hid hx
  have HV := Lib.hid hv
  have hn64 : cs.length ≤ 64 := hv.1.2
  obtain ⟨i0, hi0, hz0, hz1, hz2⟩ := info_parts (show (Try.prog.info? 2).map (fun i => (i.zero, i.size, i.bytes)) = some (some (.int .i64 0), 1, 8) by kernel_rfl)
  clear hx hv
  go_enter Try.func55, Try.ntmps55
  go_wp2_with fail
  refine (l04All_ret cs.length HV.out.1.1 HV.out.1.2 w).mono ?_
  rintro e w1 ⟨gB, capB, rfl, hcB, hcm, hgB, hrow, hb⟩
  have hgw := hrow.lt
  have H1 := Lib.hid (And.intro hrow (And.intro hb (And.intro hgB hgw)))
  have hz1w := hb.size
  clear hrow hb hgB
  go_wp2
  go_loopw [3, 4, 5] (fun s3 s4 i wr => ∃ k m : Nat, k + m = cs.length ∧ i = .int .i64 k ∧ s3 = .slice (some ⟨gB, 0, none⟩) m capB ∧ wr.ownsRow w1.heap.size 2 1 s4 k (il (ordK cs k)) ∧ RowAt wr gB 2 (leftK cs k) ∧ Below w.heap.size w wr ∧ w1.heap.size ≤ wr.heap.size) (fun _ _ i _ => cs.length - (intOf i).toNat)
  case atStart => exact ⟨0, cs.length, by omega, rfl, rfl, World.ownsRow_made _ _ _ (Nat.le_refl _) (Nat.zero_le _) rfl, H1.out.1.alloc _, H1.out.2.1.alloc hz1w _, by simp⟩
  case round =>
    obtain ⟨k, m, hkm, rfl, rfl, hown, hrow, hbel, hzw⟩ := hrel
    have H := Lib.hid (And.intro hown (And.intro hrow hbel))
    have hlen := leftK_len (cs := cs) (k := k) (fun i hi => HV.out.2 i (by omega)) (by omega)
    have hLL : Hid ((leftK cs k).length = m) := Lib.hid (by omega)
    by_cases hlt : k < cs.length
    · obtain ⟨b, o, rfl, hc⟩ := (Holds.below HX.out hbel) k (by simpa [il] using hlt)
      rw [il_get _ _ hlt] at hc
      obtain ⟨y, hy⟩ : ∃ y : Nat, cs[k]?.getD 0 = (y : Int) := ⟨_, (Int.toNat_of_nonneg (HV.out.2 k hlt).1).symm⟩
      have hyr := HV.out.2 k hlt
      rw [hy] at hc hyr
      have HE := Lib.hid hy
      have HKM := Lib.hid hkm
      have hlt' : (k : Int) < cs.length := by omega
      have hym : y < m := by omega
      have hyi : (y : Int) < m := by omega
      have hm0 : 0 < m := by omega
      have hy64 : (y : Int) < 64 := by omega
      have hcy := hrow.cell y (by rw [hLL.out]; exact hym)
      obtain ⟨v, hv⟩ : ∃ v, v = (leftK cs k)[y]?.getD 0 := ⟨_, rfl⟩
      rw [← hv] at hcy
      have hne := own_ne' hown H1.out.2.2.2
      have hbw : b < w.heap.size := by
        obtain ⟨b', o', e', hc'⟩ := HX.out k (by simpa [il] using hlt)
        cases e'; exact World.block_lt_of_cell? _ _ hc'
      have hbne : b ≠ gB := by have := H1.out.2.2.1; omega
      have hgBr := hrow.lt
      have hbr : b < wr.heap.size := by have := hbel.size; omega
      have HS : Hid (leftK cs (k + 1) = (leftK cs k).eraseIdx y ∧ ordK cs (k + 1) = ordK cs k ++ [v]) := Lib.hid (by
        refine ⟨?_, ?_⟩
        · rw [leftK, HE.out]; rfl
        · rw [ordK, HE.out, hv]; rfl)
      have HNE := Lib.hid hne
      have hmc : m ≤ capB := by omega
      clear hy hv hne hkm hown hrow hbel hlen hyr
      go_wp2_with (at_builtin; refine wpList_app1 rfl _ _ 22 rfl w1.heap.size 2 (.int .i64 0) 8 Try.underlying22 (by kernel_rfl) rfl _ k _ rfl (H.out.1.alloc _) _ _ (.int .i64 v) rfl ?_ rfl ⟨by omega, by omega⟩ ?_ ?_)
      · simp
      · simp; omega
      · intro v' w' hown' hgr'
        have ho3 : w'.ownsRow w1.heap.size 2 1 v' (k + 1) (il (ordK cs (k + 1))) := by rw [HS.out.2, il, List.map_append]; exact hown'
        have hr3 : RowAt w' gB 2 (leftK cs k) := (H.out.2.1.alloc _).grown hgr' HNE.out
        have hg3 : Below w.heap.size w w' := Below.grown (H.out.2.2.alloc (by omega) _) hgr' (by simp; omega) (fun i hi => by have := own_ge H.out.1 i hi; omega)
        have hz3 : w1.heap.size ≤ w'.heap.size := by have := hgr'.size; simp at this; omega
        obtain ⟨b', o', e', hc3⟩ := (Holds.below HX.out hg3) k (by simpa [il] using hlt)
        cases e'
        rw [il_get _ _ hlt, HE.out] at hc3
        have H3 := Lib.hid (And.intro ho3 (And.intro hr3 hg3))
        -- the cells that are moved to the left
        have hA : ∃ A : Addr, (if capB = y + 1 then some (⟨gB, 0, none⟩ : Addr) else some ⟨gB, y + 1, none⟩) = some A ∧ Hid (∀ j u, (il ((leftK cs k).drop (y + 1)))[j]? = some u → w'.drew.cell? (A.add j) = some u) := by
          by_cases h : capB = y + 1
          · refine ⟨⟨gB, 0, none⟩, by simp [h], Lib.hid fun j u hu => ?_⟩
            rw [List.drop_eq_nil_of_le (by rw [hLL.out]; omega)] at hu
            simp [il] at hu
          · refine ⟨⟨gB, y + 1, none⟩, by simp [h], Lib.hid fun j u hu => ?_⟩
            have hj : y + 1 + j < (leftK cs k).length := by
              have := (List.getElem?_eq_some_iff.1 hu).1
              simp [il] at this; omega
            have h2 := hr3.cell (y + 1 + j) hj
            simp [il, hj] at hu
            rw [Addr.add_lit]
            rw [← hu]
            have h3 : w'.drew.cell? ⟨gB, y + 1 + j, none⟩ = w'.cell? ⟨gB, y + 1 + j, none⟩ := rfl
            rw [h3, h2]; simp [hj]
        obtain ⟨A, hA, hsrc⟩ := hA
        have s1 : Hid ((il ((leftK cs k).drop (y + 1))).length = (m - (y + 1)) * 1) := Lib.hid (by simp [il, hLL.out])
        have s2 : Hid (∀ u ∈ il ((leftK cs k).drop (y + 1)), u.oneCell' = true) := Lib.hid (fun u hu => by
          obtain ⟨x, _, rfl⟩ := List.mem_map.1 hu; rfl)
        have s3 : Hid (∀ j, j < (il ((leftK cs k).drop (y + 1))).length → (w'.drew.cell? ⟨gB, 0 + y * 1 + j, none⟩).isSome = true ∧ w'.drew.frozen? ⟨gB, 0 + y * 1 + j, none⟩ = false) := Lib.hid (fun j hj => by
          have hj' : j < m - (y + 1) := by simpa [il, hLL.out] using hj
          rw [Nat.mul_one, Nat.zero_add]
          refine ⟨?_, hr3.frozen _⟩
          have h2 := hr3.cell (y + j) (by rw [hLL.out]; omega)
          show (w'.cell? _).isSome = true
          rw [h2]; rfl)
        have hrow1 : Hid (RowAt (w'.drew.setCells gB (0 + y * 1) (il ((leftK cs k).drop (y + 1)))) gB 2 (leftK cs (k + 1)) ∧ w'.grownBy (w'.drew.setCells gB (0 + y * 1) (il ((leftK cs k).drop (y + 1)))) (some gB)) := Lib.hid (by
          rw [Nat.mul_one, Nat.zero_add]
          refine ⟨?_, grown_cells _ (grown_drew (grown_refl _ _)) _⟩
          have := (hr3.drew.lay ((leftK cs k).drop (y + 1)) y).take ((leftK cs k).length - 1)
          rwa [layL_erase _ _ (by rw [hLL.out]; exact hym), ← HS.out.1] at this)
        obtain ⟨news, hnews⟩ : ∃ news, news = il ((leftK cs k).drop (y + 1)) := ⟨_, rfl⟩
        rw [← hnews] at s1 s2 s3 hsrc hrow1
        obtain ⟨W1, hW1⟩ : ∃ W1, W1 = w'.drew.setCells gB (0 + y * 1) news := ⟨_, rfl⟩
        have hW : Hid (W1 = w'.drew.setCells gB (0 + y * 1) news) := Lib.hid hW1
        rw [← hW1] at hrow1
        have hyc : y ≤ capB := by omega
        have hycc : y + 1 ≤ capB := by omega
        have hy2 : (0 : Int) ≤ (y : Int) + 1 := by omega
        have hy3 : (y : Int) + 1 ≤ m := by omega
        have hy4 : (y : Int) ≤ capB := by omega
        have hwr : IntKind.i64.wrap ((y : Int) + 1) = (y : Int) + 1 := IntWalk.i64_in _ (by omega)
        clear hW1 hnews hown' hgr' hg3 ho3 hr3 H hc hcy
        go_wp2
        have ho4 : W1.ownsRow w1.heap.size 2 1 v' (k + 1) (il (ordK cs (k + 1))) := H3.out.1.kept hrow1.out.2 (Or.inr fun e => own_ne' H3.out.1 H1.out.2.2.2 e.symm)
        have hb4 : Below w.heap.size w W1 := Below.grown H3.out.2.2 hrow1.out.2 H3.out.2.2.size (by intro i hi; cases hi; exact H1.out.2.2.1)
        have hz4 : w1.heap.size ≤ W1.heap.size := by have := hrow1.out.2.size; omega
        have H4 := Lib.hid (And.intro ho4 (And.intro hrow1.out.1 (And.intro hb4 hz4)))
        clear ho4 hb4 hz4
        go_region_law (refine step_append_room rfl (.tmp 31) (.tmp 38) 22 rfl 2 i0 1 Try.underlying22 hi0 hz1 gB 0 y capB (by simp [Act.eval, Act.put]) A (m - (y + 1)) (capB - (y + 1)) news (by simp [Act.eval, Act.put]; try exact hA) s1.out hsrc.out s2.out (by omega) s3.out ?_; rw [← hW.out])
        all_goals go_wp2
        all_goals (go_roundw; (case rel => exact ⟨k + 1, m - 1, by have := HKM.out; omega, by go_num, by rw [show y + (m - (y + 1)) = m - 1 by omega], H4.out⟩); (case measure => simp [intOf]; omega))
    · have E : Hid (k = cs.length) := Lib.hid (by omega)
      have hk1 : 0 < k := by have := HV.out.1.1; omega
      obtain ⟨g, cap, rfl, hg, hrow2⟩ := RowAt.of_own hown hk1
      have HR := Lib.hid (And.intro hg hrow2)
      clear hown hrow hbel hg hrow2 hlen
      go_wp2
      go_ret
      have HRR := HR.out
      rw [E.out] at HRR
      refine ⟨_, cap, by rw [← E.out]; rfl, ?_, H.out.2.2⟩
      exact HRR.2.row (by omega) HRR.2.lt
set_option maxRecDepth 100000 in
set_option maxHeartbeats 1000000 in
theorem specOOC_any (cs : List Int) (ao : Option Addr) (c : Nat) (w : World) (hx : Holds w ao (il cs)) (hl : cs.length ≤ 1048576) :
    Calls Try.prog 23 #[.slice ao cs.length c] w (ListP (isCod cs) (ordL cs) w) := by
  have HX := Lib.hid hx
  clear hx
  by_cases hn : 1 ≤ cs.length ∧ cs.length ≤ 64
  · have HN := Lib.hid hn
    have HD : Hid (decide ((1 : Int) ≤ cs.length ∧ (cs.length : Int) ≤ 64) = true) := Lib.hid (by simp; omega)
    have hn64 : cs.length ≤ 64 := hn.2
    clear hn
    go_enter Try.func23, Try.ntmps23
    go_wp2_with fail
    refine (l04Count_any _ _).mono ?_
    rintro e w1 ⟨rfl, rfl⟩
    rw [HD.out]
    go_wp2
    go_loopw [5] (fun i wr => ∃ k : Nat, k ≤ cs.length ∧ i = .int .i64 k ∧ codTo cs k ∧ wr = w) (fun i _ => cs.length - (intOf i).toNat)
    case atStart => exact ⟨0, Nat.zero_le _, rfl, fun i hi => absurd hi (Nat.not_lt_zero _), rfl⟩
    case round =>
      obtain ⟨k, hk, rfl, hcod, rfl⟩ := hrel
      have HC := Lib.hid hcod
      clear hcod
      by_cases hlt : k < cs.length
      · obtain ⟨b, o, rfl, hc⟩ := HX.out k (by simpa [il] using hlt)
        rw [il_get _ _ hlt] at hc
        obtain ⟨x, hx⟩ : ∃ x, x = cs[k]?.getD 0 := ⟨_, rfl⟩
        rw [← hx] at hc
        have HE := Lib.hid hx
        have hlt' : (k : Int) < cs.length := by omega
        clear hx
        go_wp2_with fail
        refine (l00In_any _ _ _ _).mono ?_
        rintro e w1 ⟨rfl, rfl⟩
        by_cases hr : 0 ≤ x ∧ x < (cs.length : Int) - k
        · rw [decide_eq_true (show 0 ≤ x ∧ x ≤ (cs.length : Int) - 1 - k by omega)]
          have HS : Hid (codTo cs (k + 1)) := Lib.hid (codTo_next HC.out (by rw [← HE.out]; exact hr))
          clear hr
          go_wp2
          go_roundw
          case rel => exact ⟨k + 1, by omega, by go_num, HS.out, by trivial⟩
          case measure => simp [intOf]; omega
        · rw [decide_eq_false (show ¬(0 ≤ x ∧ x ≤ (cs.length : Int) - 1 - k) by omega)]
          have HB : Hid (¬ isCod cs) := Lib.hid (fun h => hr (by have := h.2 k hlt; rwa [← HE.out] at this))
          clear hr
          go_wp2
          go_ret2
          exact ListP.no HB.out ⟨rfl, Below.refl _ _⟩
      · have hk' : k = cs.length := by omega
        subst hk'
        have HV : Hid (isCod cs) := Lib.hid ⟨HN.out, HC.out⟩
        go_wp2_with fail
        refine (l04FromCode_ret cs _ _ _ HV.out HX.out).mono ?_
        rintro e w2 ⟨ao2, c2, rfl, hrow, hb⟩
        have H := Lib.hid (And.intro hrow hb)
        clear hrow hb
        go_wp2
        go_ret2
        exact ListP.yes HV.out ⟨_, _, by rw [ordL_len]; rfl, H.out⟩
  · have HD : Hid (decide ((1 : Int) ≤ cs.length ∧ (cs.length : Int) ≤ 64) = false) := Lib.hid (by simp; omega)
    have HN : Hid (¬ isCod cs) := Lib.hid (fun h => hn h.1)
    clear hn
    go_enter Try.func23, Try.ntmps23
    go_wp2_with fail
    refine (l04Count_any _ _).mono ?_
    rintro e w1 ⟨rfl, rfl⟩
    rw [HD.out]
    go_wp2
    go_ret2
    exact ListP.no HN.out ⟨rfl, Below.refl _ _⟩
end Go.Proofs.Ytncebfnfmjimmaa
