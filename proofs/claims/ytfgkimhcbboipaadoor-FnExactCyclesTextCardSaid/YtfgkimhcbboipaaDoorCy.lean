/- The cycles of an order: both sides. -/
import Derived.Test.YtfgkimhcbboipaaDoorOr
import Derived.Test.YtfgkimhcbboipaaDoorLl
import Derived.Test.YtfgkimhcbboipaaDoorDl
import Derived.Test.YtfgkimhcbboipaaDoorOc
namespace Go.Proofs.YtfgkimhcbboipaaDoor
open Go Go.RowKit
set_option linter.unusedVariables false

def upd (s : Nat → Bool) (a : Nat) : Nat → Bool := fun x => if x = a then true else s x
/-- How many numbers below n have not been seen. -/
def unseen (n : Nat) (s : Nat → Bool) : Nat := (List.range n).countP fun x => !s x
theorem countP_upd (l : List Nat) (hl : l.Nodup) (s : Nat → Bool) (a : Nat) (ha : s a = false) :
    (l.countP fun x => !(upd s a) x) + (if a ∈ l then 1 else 0) = l.countP fun x => !s x := by
  induction l with
  | nil => simp
  | cons b l ih =>
    have hn := List.nodup_cons.1 hl
    have ih := ih hn.2
    rw [List.countP_cons, List.countP_cons]
    by_cases e : b = a
    · subst e
      have hm : ¬ b ∈ l := hn.1
      rw [if_neg hm] at ih
      simp [upd, ha] at ih ⊢
      omega
    · have e' : ¬ a = b := fun h => e h.symm
      have : (upd s a) b = s b := by simp [upd, e]
      rw [this]
      by_cases hm : a ∈ l
      · rw [if_pos hm] at ih; rw [if_pos (List.mem_cons_of_mem _ hm)]; omega
      · rw [if_neg hm] at ih; rw [if_neg (show ¬ a ∈ b :: l by simp [e', hm])]; omega
theorem unseen_upd {n : Nat} {s : Nat → Bool} {a : Nat} (ha : s a = false) (hn : a < n) : unseen n (upd s a) + 1 = unseen n s := by
  have := countP_upd (List.range n) List.nodup_range s a ha
  rw [if_pos (by simpa using hn)] at this
  exact this
theorem unseen_none (n : Nat) : unseen n (fun _ => false) = n := by simp [unseen]
/-- From a on, as long as numbers come that have not been seen. -/
def cycF (xs : List Int) (s : Nat → Bool) (a : Nat) (c : List Int) : (Nat → Bool) × List Int :=
  if h : a < xs.length ∧ s a = false then cycF xs (upd s a) (xs[a]?.getD 0).toNat (c ++ [(a : Int)]) else (s, c)
termination_by unseen xs.length s
decreasing_by have := unseen_upd h.2 h.1; omega
theorem cycF_next {xs : List Int} {s : Nat → Bool} {a : Nat} {c : List Int} (h : a < xs.length) (hs : s a = false) : cycF xs s a c = cycF xs (upd s a) (xs[a]?.getD 0).toNat (c ++ [(a : Int)]) := by
  rw [cycF, dif_pos ⟨h, hs⟩]
theorem cycF_end {xs : List Int} {s : Nat → Bool} {a : Nat} {c : List Int} (hs : s a = true) : cycF xs s a c = (s, c) := by
  rw [cycF, dif_neg (by simp [hs])]
theorem cycF_count (xs : List Int) (s : Nat → Bool) (a : Nat) (c : List Int) : (cycF xs s a c).2.length + unseen xs.length (cycF xs s a c).1 = c.length + unseen xs.length s := by
  fun_induction cycF xs s a c with
  | case1 s a c h ih =>
    have := unseen_upd h.2 h.1
    rw [ih]; simp; omega
  | case2 s a c h => rfl
/-- What has been seen, and the cycles, behind i numbers. -/
def outK (xs : List Int) : Nat → (Nat → Bool) × List (List Int)
  | 0 => (fun _ => false, [])
  | i + 1 => ((cycF xs (outK xs i).1 i []).1, if (cycF xs (outK xs i).1 i []).2.length = 0 then (outK xs i).2 else (outK xs i).2 ++ [(cycF xs (outK xs i).1 i []).2])
def cycL (xs : List Int) : List (List Int) := (outK xs xs.length).2
theorem nthL_app (css : List (List Int)) (c : List Int) (i : Nat) (hi : i < css.length) : nthL (css ++ [c]) i = nthL css i := by simp [nthL, hi, List.getElem?_append]
theorem nthL_last (css : List (List Int)) (c : List Int) : nthL (css ++ [c]) css.length = c := by simp [nthL]
theorem preL_app (css : List (List Int)) (c : List Int) (i : Nat) (hi : i ≤ css.length) : preL (css ++ [c]) i = preL css i := by
  induction i with
  | zero => rfl
  | succ i ih => rw [preL, preL, ih (by omega), nthL_app _ _ _ (by omega)]
theorem totL_app (css : List (List Int)) (c : List Int) : totL (css ++ [c]) = totL css + c.length := by
  unfold totL
  rw [List.length_append, List.length_singleton, preL, preL_app _ _ _ (Nat.le_refl _), nthL_last]
theorem outK_inv (xs : List Int) (i : Nat) : totL (outK xs i).2 + unseen xs.length (outK xs i).1 = xs.length ∧ (outK xs i).2.length ≤ i := by
  induction i with
  | zero => exact ⟨by simp [outK, totL, preL, unseen_none], by simp [outK]⟩
  | succ i ih =>
    have hc := cycF_count xs (outK xs i).1 i []
    simp at hc
    rw [outK]
    refine ⟨?_, ?_⟩
    · by_cases h : (cycF xs (outK xs i).1 i []).2.length = 0
      · simp only [h, if_true]; rw [h] at hc; omega
      · simp only [h, if_false]; rw [totL_app]; omega
    · by_cases h : (cycF xs (outK xs i).1 i []).2.length = 0
      · simp only [h, if_true]; omega
      · simp only [h, if_false]; simp; omega

def seenL (N : Nat) (s : Nat → Bool) : List Bool := (List.range N).map s
theorem seenL_len (N : Nat) (s : Nat → Bool) : (seenL N s).length = N := by simp [seenL]
theorem seenL_get (N : Nat) (s : Nat → Bool) (a : Nat) (h : a < N) : (seenL N s)[a]?.getD false = s a := by simp [seenL, h]
theorem seenL_none (N : Nat) : seenL N (fun _ => false) = List.replicate N false := by
  apply List.ext_getElem
  · simp [seenL]
  · intro i h1 h2; simp [seenL]
theorem seenL_upd (N : Nat) (s : Nat → Bool) (a : Nat) : (seenL N s).set a true = seenL N (upd s a) := by
  apply List.ext_getElem
  · simp [seenL]
  · intro i h1 h2
    rw [List.getElem_set]
    by_cases e : a = i
    · subst e; simp [seenL, upd]
    · have e' : ¬ i = a := fun h => e h.symm
      rw [if_neg e]; simp [seenL, upd, e']
theorem own_bool {w : World} {base n g : Nat} {e t : TypeId} {v : Value} {xs : List Value} {tk : List Bool} (h : w.ownsRow base e 1 v n xs) (hr : BRow w g t tk) (ht : t ≠ e) : some g ≠ v.ownBlock := by
  intro hg
  rcases h.2 with ⟨rfl, h0⟩ | ⟨g', cap, cur, rfl, _, hgg, _⟩
  · simp [Value.ownBlock] at hg
  · simp [Value.ownBlock] at hg
    subst hg
    obtain ⟨cur', hw, _⟩ := hr
    unfold Whole at hw
    rw [hw] at hgg
    injection hgg with hgg
    injection hgg with _ h2
    exact ht h2
/-- The cells of slices at the heads of blocks. -/
def cellsL (G C : Nat → Nat) (css : List (List Int)) : List Value := (List.range css.length).map fun i => .slice (some ⟨G i, 0, none⟩) (nthL css i).length (C i)
theorem cellsL_app (G C : Nat → Nat) (css : List (List Int)) (c : List Int) (g cap : Nat) :
    cellsL (fun i => if i = css.length then g else G i) (fun i => if i = css.length then cap else C i) (css ++ [c]) = cellsL G C css ++ [.slice (some ⟨g, 0, none⟩) c.length cap] := by
  unfold cellsL
  rw [List.length_append, List.length_singleton, List.range_succ, List.map_append]
  congr 1
  · apply List.map_congr_left
    intro i hi
    have : i < css.length := by simpa using hi
    have hne : ¬ i = css.length := by omega
    simp only [hne, if_false]
    rw [nthL_app _ _ _ this]
  · simp [nthL_last]
/-- Lists in blocks of their own (none of them gS), their slices in a row. -/
def LRows (w : World) (base gS : Nat) (T2 T1 : TypeId) (v : Value) (css : List (List Int)) : Prop :=
  ∃ G C : Nat → Nat, w.ownsRow base T2 1 v css.length (cellsL G C css) ∧ ∀ i, i < css.length → base ≤ G i ∧ G i ≠ gS ∧ (∀ j, j < i → G j ≠ G i) ∧ RowAt w (G i) T1 (nthL css i)
theorem LRows.grown {w w' : World} {base gS : Nat} {T2 T1 : TypeId} {v : Value} {css : List (List Int)} {row : Option Nat} (h : LRows w base gS T2 T1 v css) (hg : w.grownBy w' row) (hv : v.ownBlock = none ∨ v.ownBlock ≠ row) (hr : row = none ∨ row = some gS) : LRows w' base gS T2 T1 v css := by
  obtain ⟨G, C, h1, h2⟩ := h
  refine ⟨G, C, h1.kept hg hv, fun i hi => ?_⟩
  obtain ⟨a, b, c, d⟩ := h2 i hi
  exact ⟨a, b, c, d.grown hg (by rcases hr with rfl | rfl <;> simp [b])⟩
theorem LRows.rows2 {w : World} {base gS : Nat} {T2 T1 : TypeId} {v : Value} {css : List (List Int)} (h : LRows w base gS T2 T1 v css) (ht : T1 ≠ T2) : ∃ ao c, v = .slice ao css.length c ∧ Rows2 w base w.heap.size ao css := by
  obtain ⟨G, C, h1, h2⟩ := h
  rcases h1.2 with ⟨rfl, h0⟩ | ⟨gO, cap, cur, rfl, hb, hg, hn, _, hsz, htk⟩
  · exact ⟨none, 0, by rw [h0], .inl (List.eq_nil_of_length_eq_zero h0)⟩
  · refine ⟨_, cap, rfl, .inr ⟨gO, cur, T2, G, fun i => some ⟨G i, 0, none⟩, C, rfl, ⟨hb, (Array.getElem?_eq_some_iff.1 hg).1⟩, hg, fun i hi => ?_, fun i hi => ?_, fun i hi => ?_⟩⟩
    · obtain ⟨a, b, c, d⟩ := h2 i hi
      refine .inr ⟨a, d.lt, fun e => ?_, fun j hj => .inr (c j hj)⟩
      have := own_type h1 d ht
      simp [Value.ownBlock] at this
      exact this e
    · have hc : i < cur.size := by omega
      have hin : i < css.length * 1 := by omega
      have e : (cellsL G C css)[i]? = some cur[i] := by rw [← htk, List.getElem?_take_of_lt hin, Array.getElem?_toList, Array.getElem?_eq_getElem hc]
      rw [show cur[i]? = some cur[i] from Array.getElem?_eq_getElem hc, ← e]
      simp [cellsL, hi]
    · exact (h2 i hi).2.2.2.row (Nat.le_refl _) (Nat.lt_succ_self _)
theorem LRows_app {w w' : World} {base gS g cap : Nat} {T2 T1 : TypeId} {v v' : Value} {css : List (List Int)} {c : List Int} {G C : Nat → Nat} (hown : w.ownsRow base T2 1 v css.length (cellsL G C css))
    (hrows : ∀ i, i < css.length → base ≤ G i ∧ G i ≠ gS ∧ (∀ j, j < i → G j ≠ G i) ∧ RowAt w (G i) T1 (nthL css i)) (hown' : w'.ownsRow base T2 1 v' (css.length + 1) (cellsL G C css ++ [.slice (some ⟨g, 0, none⟩) c.length cap])) (hgr : w.grownBy w' v.ownBlock)
    (ht : T1 ≠ T2) (hr : RowAt w g T1 c) (hb : base ≤ g) (hg : g ≠ gS) (hd : ∀ i, i < css.length → G i ≠ g) : LRows w' base gS T2 T1 v' (css ++ [c]) := by
  refine ⟨fun i => if i = css.length then g else G i, fun i => if i = css.length then cap else C i, by rw [cellsL_app, List.length_append]; exact hown', fun i hi => ?_⟩
  rw [List.length_append, List.length_singleton] at hi
  by_cases e : i = css.length
  · subst e
    simp only [if_true]
    refine ⟨hb, hg, fun j hj => ?_, ?_⟩
    · have hne : ¬ j = css.length := by omega
      simp only [hne, if_false]; exact hd j hj
    · rw [nthL_last]; exact hr.grown hgr (own_type hown hr ht)
  · have hi' : i < css.length := by omega
    obtain ⟨h1, h2, h3, h4⟩ := hrows i hi'
    simp only [e, if_false]
    refine ⟨h1, h2, fun j hj => ?_, ?_⟩
    · have hne : ¬ j = css.length := by omega
      simp only [hne, if_false]; exact h3 j hj
    · rw [nthL_app _ _ _ hi']; exact h4.grown hgr (own_type hown h4 ht)
/-- A slice's length. -/
def sliceLen : Value → Nat
  | .slice _ n _ => n
  | _ => 0
theorem own_slen {w : World} {base : Nat} {e : TypeId} {size : Nat} {v : Value} {n : Nat} {xs : List Value} (h : w.ownsRow base e size v n xs) : sliceLen v = n := by
  rcases h.2 with ⟨rfl, rfl⟩ | ⟨g', cap, cur, rfl, _⟩ <;> rfl
/-- Lists of lists among the results. -/
def RetLL (css : List (List Int)) (f : Value → Value) (w : World) (e : Ending) (w' : World) : Prop :=
  ∃ ao c, e = .returned (f (.slice ao css.length c)) ∧ Rows2 w' w.heap.size w'.heap.size ao css ∧ Below w.heap.size w w'
theorem ord_at {xs : List Int} (h : isOrd xs) {a : Nat} (ha : a < xs.length) : ∃ y : Nat, xs[a]?.getD 0 = (y : Int) ∧ y < xs.length := by
  have := (h.2 a ha).1
  exact ⟨(xs[a]?.getD 0).toNat, (Int.toNat_of_nonneg this.1).symm, by omega⟩
theorem BRow.put' {w : World} {g : Nat} {t : TypeId} {N : Nat} {s : Nat → Bool} (h : BRow w g t (seenL N s)) (a : Nat) : BRow (w.setCell ⟨g, a, none⟩ (.bool true)) g t (seenL N (upd s a)) := by
  have := h.put a true
  rwa [seenL_upd] at this
theorem cell_made (w : World) (x : Value) (t : TypeId) {g : Nat} (hg : g = w.heap.size) : (w.alloc (.cells #[x] t)).cell? ⟨g, 0, none⟩ = some x := by
  subst hg; exact (Whole.made w t #[x]).cell 0
set_option maxRecDepth 100000 in
set_option maxHeartbeats 4000000 in
theorem implCycles_yes (xs : List Int) (ao : Option Addr) (c : Nat) (w : World) (hv : isOrd xs) (hx : Holds w ao (il xs)) :
    Calls Tryd.prog 95 #[.slice ao xs.length c] w (RetLL (cycL xs) (fun s => .tuple #[s, .bool true]) w) := by
  have HX := Lib.hid hx
  have HV := Lib.hid hv
  have hn64 : xs.length ≤ 64 := hv.1.2
  clear hx hv
  go_enter Tryd.func95, Tryd.ntmps95
  go_wp2_with fail
  refine (implIsOrder_any xs _ _ _ HX.out (by omega)).mono ?_
  rintro e w1 ⟨rfl, hb⟩
  have HB := Lib.hid hb
  have hz1 := hb.size
  clear hb
  rw [ordB_yes HV.out]
  have hnew := Lib.hid (brow_new w1 64 141)
  go_wp2_with fail
  go_loopw [4, 14] (fun v i wr => ∃ k : Nat, k ≤ xs.length ∧ i = .int .i64 k ∧ LRows wr w1.heap.size w1.heap.size 27 2 v (outK xs k).2 ∧ BRow wr w1.heap.size 141 (seenL 64 (outK xs k).1) ∧ Below w1.heap.size w1 wr) (fun _ i _ => xs.length - (intOf i).toNat)
  case atStart => exact ⟨0, Nat.zero_le _, rfl, ⟨fun _ => 0, fun _ => 0, World.ownsRow_nil _ _ _ _, fun i hi => absurd hi (Nat.not_lt_zero _)⟩, by rw [show (outK xs 0).1 = fun _ => false from rfl, seenL_none]; exact hnew.out, (by repeat (first | with_reducible exact Below.refl _ _ | with_reducible exact HBL | with_reducible refine Below.drew ?_ | with_reducible refine Bel_drewN ?_ _ | with_reducible refine Below.alloc ?_ (by first | omega | (simp; done) | (simp; omega)) _ | with_reducible refine Below.setCell ?_ (by first | omega | (simp; done) | (simp; omega)) _))⟩
  case round =>
    rename World => wo
    obtain ⟨k, hk, rfl, ⟨G, C, hown, hrows⟩, hbr, hbel⟩ := hrel
    have H := Lib.hid (And.intro hown (And.intro hrows (And.intro hbr hbel)))
    have hzo : w1.heap.size < wo.heap.size := hbr.lt
    have HI := Lib.hid (outK_inv xs k)
    by_cases hlt : k < xs.length
    · have hlt' : (k : Int) < xs.length := by omega
      have hk64 : (k : Int) < 64 := by omega
      clear hown hrows hbr hbel
      go_wp2
      go_loopw [7, 8] (fun c8 a8 w2 => ∃ (s : Nat → Bool) (a : Nat) (c : List Int), a < xs.length ∧ a8 = .int .i64 a ∧ w2.ownsRow wo.heap.size 2 1 c8 c.length (il c) ∧ BRow w2 w1.heap.size 141 (seenL 64 s) ∧ cycF xs s a c = cycF xs (outK xs k).1 k [] ∧ c.length + unseen xs.length s ≤ xs.length ∧ wo.grownBy w2 (some w1.heap.size)) (fun c8 _ _ => 64 - sliceLen c8)
      case atStart => exact ⟨(outK xs k).1, k, [], hlt, rfl, World.ownsRow_nil _ _ _ _, H.out.2.2.1, rfl, by have := HI.out.1; simp; omega, grown_refl _ _⟩
      case round =>
        rename World => w2
        obtain ⟨s, a, c, ha, rfl, hc, hbr, hF, hcnt, hgr⟩ := hrel
        have hsl := own_slen hc
        have H2 := Lib.hid (And.intro hc (And.intro hbr (And.intro hF (And.intro hcnt hgr))))
        have hcell := hbr.cell a (by rw [seenL_len]; omega)
        rw [seenL_get 64 s a (by omega)] at hcell
        have hfr := hbr.frozen a
        have hblk := hbr.lt
        have hz2 := hgr.size
        have ha64 : (a : Int) < 64 := by omega
        cases hsa : s a with
        | false =>
          rw [hsa] at hcell
          obtain ⟨y, hy, hyn⟩ := ord_at HV.out ha
          have hun := unseen_upd hsa ha
          have hcl : c.length < 64 := by omega
          have HN : Hid (cycF xs (upd s a) y (c ++ [(a : Int)]) = cycF xs (outK xs k).1 k [] ∧ (c ++ [(a : Int)]).length + unseen xs.length (upd s a) ≤ xs.length) := Lib.hid ⟨by rw [← hF, cycF_next ha hsa, hy]; rfl, by simp; omega⟩
          have hb2 : Below w.heap.size w w2 := Below.grown (Bel_next HB.out H.out.2.2.2) hgr (by have := hbr.lt; omega) (by intro i hi; cases hi; exact hz1)
          obtain ⟨b, o, rfl, hca⟩ := (Holds.below HX.out hb2) a (by simpa [il] using ha)
          rw [il_get _ _ ha, hy] at hca
          have hbw : b < w.heap.size := by
            obtain ⟨b', o', e', hc'⟩ := HX.out a (by simpa [il] using ha)
            cases e'; exact World.block_lt_of_cell? _ _ hc'
          have hbne : b ≠ w1.heap.size := by omega
          have HSL := Lib.hid hsl
          have HY := Lib.hid hy
          have ha' : (a : Int) < xs.length := by omega
          clear hsa hcnt hF hun hc hbr hgr hy hb2 hsl
          go_wp2_with (at_builtin; refine wpList_app1 rfl _ _ 27 rfl wo.heap.size 2 (.int .i64 0) 8 Tryd.underlying27 (by kernel_rfl) rfl _ c.length _ rfl ((H2.out.1.kept (grown_set _ _ _ _) (Or.inr fun e => own_bool H2.out.1 H2.out.2.1 (by decide) e.symm)).alloc _) _ _ (.int .i64 (a : Int)) rfl ?_ rfl ⟨by omega, by omega⟩ ?_ ?_)
          · exact cell_made _ _ _ (by simp [World.setCell])
          · simp; omega
          · intro v' w' hown' hgr'
            have hgx : wo.grownBy w' (some w1.heap.size) := grown_more (grown_trans H2.out.2.2.2.2 (grown_trans (grown_set w2 w1.heap.size a (.bool true)) (World.grownBy_alloc _ (.cells #[.int .i64 (a : Int)] 2) _))) hgr' (fun i hi => own_ge H2.out.1 i hi)
            have H3 : Hid (w'.ownsRow wo.heap.size 2 1 v' (c ++ [(a : Int)]).length (il (c ++ [(a : Int)])) ∧ BRow w' w1.heap.size 141 (seenL 64 (upd s a)) ∧ wo.grownBy w' (some w1.heap.size)) := Lib.hid (by
              refine ⟨?_, ((H2.out.2.1.put' a).alloc _).grown hgr' (own_bool H2.out.1 H2.out.2.1 (by decide)), hgx⟩
              rw [List.length_append, List.length_singleton, il, List.map_append]; exact hown')
            have hs2 := own_slen hown'
            have HS2 := Lib.hid hs2
            have hbw' : Below w.heap.size w w' := Below.grown (Bel_next HB.out H.out.2.2.2) hgx (by omega) (by intro i hi; cases hi; exact hz1)
            obtain ⟨b', o', e', hca2⟩ := (Holds.below HX.out hbw') a (by simpa [il] using ha)
            cases e'
            have HCA := Lib.hid hca2
            clear hown' hgr' hgx hca hs2 hbw' hca2 H2 hcell hfr
            have hca := HCA.out
            rw [il_get _ _ ha, HY.out] at hca
            go_wp2
            go_roundw
            case rel => exact ⟨upd s a, y, c ++ [(a : Int)], hyn, rfl, H3.out.1, H3.out.2.1, HN.out.1, HN.out.2, H3.out.2.2⟩
            case measure => rw [HS2.out, HSL.out]; omega
        | true =>
          rw [hsa] at hcell
          have HE : Hid (cycF xs (outK xs k).1 k [] = (s, c)) := Lib.hid (by rw [← hF, cycF_end hsa])
          have H3 : Hid (w2.ownsRow w1.heap.size 27 1 u4 (outK xs k).2.length (cellsL G C (outK xs k).2) ∧ (∀ i, i < (outK xs k).2.length → w1.heap.size ≤ G i ∧ G i ≠ w1.heap.size ∧ (∀ j, j < i → G j ≠ G i) ∧ RowAt w2 (G i) 2 (nthL (outK xs k).2 i)) ∧ Below w1.heap.size w1 w2 ∧ ∀ i, i < (outK xs k).2.length → G i < wo.heap.size) := Lib.hid (by
            obtain ⟨h1, h2, h3, h4⟩ := H.out
            refine ⟨h1.kept hgr (Or.inr fun e => own_bool h1 h3 (by decide) e.symm), fun i hi => ?_, Below.grown h4 hgr (Nat.le_of_lt (by have := h3.lt; omega)) (by intro i hi; cases hi; exact Nat.le_refl _), fun i hi => (h2 i hi).2.2.2.lt⟩
            obtain ⟨a1, a2, a3, a4⟩ := h2 i hi
            exact ⟨a1, a2, a3, a4.grown hgr (by simp; exact a2)⟩)
          by_cases hc0 : c.length = 0
          · have HS : Hid (outK xs (k + 1) = (s, (outK xs k).2)) := Lib.hid (by rw [outK, HE.out]; simp only [hc0, if_true])
            obtain ⟨ao7, c7, rfl⟩ := own_form hc
            rw [hc0]
            clear hc hbr hF hcnt hgr hfr hsa hsl
            go_wp2
            go_roundw
            case rel => exact ⟨k + 1, by omega, by go_num, by rw [HS.out]; exact ⟨G, C, H3.out.1, H3.out.2.1⟩, by rw [HS.out]; exact H2.out.2.1, H3.out.2.2.1⟩
            case measure => simp [intOf]; omega
          · have HS : Hid (outK xs (k + 1) = (s, (outK xs k).2 ++ [c])) := Lib.hid (by rw [outK, HE.out]; simp only [hc0, if_false])
            obtain ⟨g, cap, rfl, hg, hrowc, _, _⟩ := RowAt.of_own2 hc (by omega)
            have HRC := Lib.hid (And.intro hg hrowc)
            have hcp : (0 : Int) < c.length := by omega
            have hcpn : 0 < c.length := by omega
            have hlk := HI.out.2
            clear hc hbr hF hcnt hgr hfr hsa hsl hg hrowc hc0
            go_wp2_with (at_builtin; refine wpList_app1 rfl _ _ 108 rfl w1.heap.size 27 (.slice none 0 0) 24 Tryd.underlying108 (by kernel_rfl) rfl _ (outK xs k).2.length _ rfl (H3.out.1.alloc _) _ _ (.slice (some ⟨g, 0, none⟩) c.length cap) rfl ?_ rfl ⟨by omega, by omega⟩ ?_ ?_)
            · exact cell_made _ _ _ rfl
            · simp; omega
            · intro v' w' hown' hgr'
              have hbw' : Below w1.heap.size w1 w' := Below.grown (H3.out.2.2.1.alloc (by omega) _) hgr' (by simp; omega) (own_ge H3.out.1)
              have H4 : Hid (LRows w' w1.heap.size w1.heap.size 27 2 v' (outK xs (k + 1)).2 ∧ BRow w' w1.heap.size 141 (seenL 64 (outK xs (k + 1)).1) ∧ Below w1.heap.size w1 w') := Lib.hid (by
                rw [HS.out]
                refine ⟨?_, (H2.out.2.1.alloc _).grown hgr' (own_bool H3.out.1 H2.out.2.1 (by decide)), hbw'⟩
                refine LRows_app (H3.out.1.alloc _) (fun i hi => ?_) hown' hgr' (by decide) (HRC.out.2.alloc _) (by have := HRC.out.1; omega) (by have := HRC.out.1; omega) (fun i hi => by have := H3.out.2.2.2 i hi; have := HRC.out.1; omega)
                obtain ⟨a1, a2, a3, a4⟩ := H3.out.2.1 i hi
                exact ⟨a1, a2, a3, a4.alloc _⟩)
              clear hown' hgr' hbw' H2 H3
              go_wp2
              go_roundw
              case rel => exact ⟨k + 1, by omega, by go_num, H4.out⟩
              case measure => simp [intOf]; omega
    · have E : Hid (k = xs.length) := Lib.hid (by omega)
      have hL : Hid (LRows wo w1.heap.size w1.heap.size 27 2 u4 (cycL xs)) := Lib.hid (by
        unfold cycL; rw [← E.out]; exact ⟨G, C, hown, hrows⟩)
      obtain ⟨ao4, c4, rfl, hr2⟩ := hL.out.rows2 (by decide)
      have HR2 := Lib.hid hr2
      clear hown hrows hbr hbel hr2
      go_wp2
      go_ret2
      exact ⟨_, _, rfl, HR2.out.wide hz1 (Nat.le_refl _), Bel_next HB.out H.out.2.2.2⟩
theorem implCycles_no (xs : List Int) (ao : Option Addr) (c : Nat) (w : World) (hv : ¬ isOrd xs) (hx : Holds w ao (il xs)) (hl : xs.length ≤ 1048576) :
    Calls Tryd.prog 95 #[.slice ao xs.length c] w (RetB (.tuple #[.slice none 0 0, .bool false]) w) := by
  have HX := Lib.hid hx
  have HV := Lib.hid hv
  clear hx hv
  go_enter Tryd.func95, Tryd.ntmps95
  go_wp2_with fail
  refine (implIsOrder_any xs _ _ _ HX.out hl).mono ?_
  rintro e w1 ⟨rfl, hb⟩
  have HB := Lib.hid hb
  clear hb
  rw [ordB_no HV.out]
  go_wp2
  go_ret2
  exact ⟨rfl, HB.out⟩
set_option maxRecDepth 100000 in
set_option maxHeartbeats 4000000 in
theorem specCycles_yes (xs : List Int) (ao : Option Addr) (c : Nat) (w : World) (hv : isOrd xs) (hx : Holds w ao (il xs)) :
    Calls Tryd.prog 129 #[.slice ao xs.length c] w (RetLL (cycL xs) (fun s => .tuple #[s, .bool true]) w) := by
  have HX := Lib.hid hx
  have HV := Lib.hid hv
  have hn64 : xs.length ≤ 64 := hv.1.2
  clear hx hv
  go_enter Tryd.func129, Tryd.ntmps129
  go_wp2_with fail
  refine (l04Order_any xs _ _ _ HX.out (by omega)).mono ?_
  rintro e w1 ⟨rfl, hb⟩
  have HB := Lib.hid hb
  have hz1 := hb.size
  clear hb
  rw [ordB_yes HV.out]
  have hnew := Lib.hid (brow_new w1 xs.length 4)
  have hmk := run_mkB (P := Tryd.prog) w1 140 4 xs.length (by omega) Tryd.underlying140 (by kernel_rfl)
  go_wp2_with fail
  clear hmk
  go_loopw [5, 6] (fun v i wr => ∃ k : Nat, k ≤ xs.length ∧ i = .int .i64 k ∧ LRows wr w1.heap.size w1.heap.size 27 2 v (outK xs k).2 ∧ BRow wr w1.heap.size 4 (seenL xs.length (outK xs k).1) ∧ Below w1.heap.size w1 wr) (fun _ i _ => xs.length - (intOf i).toNat)
  case atStart => exact ⟨0, Nat.zero_le _, rfl, ⟨fun _ => 0, fun _ => 0, (by simpa [outK, cellsL] using World.ownsRow_made (base := w1.heap.size) (e := 27) (size := 1) (w1.alloc (.cells (Array.replicate xs.length (.bool false)) 4)) #[] 0 (Nat.le_of_lt hnew.out.lt) (Nat.zero_le _) rfl), fun i hi => absurd hi (Nat.not_lt_zero _)⟩, by rw [show (outK xs 0).1 = fun _ => false from rfl, seenL_none]; exact hnew.out.alloc _, (by repeat (first | with_reducible exact Below.refl _ _ | with_reducible exact HBL | with_reducible refine Below.drew ?_ | with_reducible refine Bel_drewN ?_ _ | with_reducible refine Below.alloc ?_ (by first | omega | (simp; done) | (simp; omega)) _ | with_reducible refine Below.setCell ?_ (by first | omega | (simp; done) | (simp; omega)) _))⟩
  case round =>
    rename World => wo
    obtain ⟨k, hk, rfl, ⟨G, C, hown, hrows⟩, hbr, hbel⟩ := hrel
    have H := Lib.hid (And.intro hown (And.intro hrows (And.intro hbr hbel)))
    have hzo : w1.heap.size < wo.heap.size := hbr.lt
    have HI := Lib.hid (outK_inv xs k)
    by_cases hlt : k < xs.length
    · have hlt' : (k : Int) < xs.length := by omega
      have hk64 : (k : Int) < 64 := by omega
      clear hown hrows hbr hbel
      go_wp2
      go_loopw [7, 8] (fun c8 a8 w2 => ∃ (s : Nat → Bool) (a : Nat) (c : List Int), a < xs.length ∧ a8 = .int .i64 a ∧ w2.ownsRow wo.heap.size 2 1 c8 c.length (il c) ∧ BRow w2 w1.heap.size 4 (seenL xs.length s) ∧ cycF xs s a c = cycF xs (outK xs k).1 k [] ∧ c.length + unseen xs.length s ≤ xs.length ∧ wo.grownBy w2 (some w1.heap.size)) (fun c8 _ _ => 64 - sliceLen c8)
      case atStart => exact ⟨(outK xs k).1, k, [], hlt, rfl, World.ownsRow_made _ _ _ (Nat.le_refl _) (Nat.zero_le _) rfl, H.out.2.2.1.alloc _, rfl, by have := HI.out.1; simp; omega, World.grownBy_alloc _ _ _⟩
      case round =>
        rename World => w2
        obtain ⟨s, a, c, ha, rfl, hc, hbr, hF, hcnt, hgr⟩ := hrel
        have hsl := own_slen hc
        have H2 := Lib.hid (And.intro hc (And.intro hbr (And.intro hF (And.intro hcnt hgr))))
        have hcell := hbr.cell a (by rw [seenL_len]; omega)
        rw [seenL_get xs.length s a (by omega)] at hcell
        have hfr := hbr.frozen a
        have hblk := hbr.lt
        have hz2 := hgr.size
        have ha64 : (a : Int) < 64 := by omega
        cases hsa : s a with
        | false =>
          rw [hsa] at hcell
          obtain ⟨y, hy, hyn⟩ := ord_at HV.out ha
          have hun := unseen_upd hsa ha
          have hcl : c.length < 64 := by omega
          have HN : Hid (cycF xs (upd s a) y (c ++ [(a : Int)]) = cycF xs (outK xs k).1 k [] ∧ (c ++ [(a : Int)]).length + unseen xs.length (upd s a) ≤ xs.length) := Lib.hid ⟨by rw [← hF, cycF_next ha hsa, hy]; rfl, by simp; omega⟩
          have hb2 : Below w.heap.size w w2 := Below.grown (Bel_next HB.out H.out.2.2.2) hgr (by have := hbr.lt; omega) (by intro i hi; cases hi; exact hz1)
          obtain ⟨b, o, rfl, hca⟩ := (Holds.below HX.out hb2) a (by simpa [il] using ha)
          rw [il_get _ _ ha, hy] at hca
          have hbw : b < w.heap.size := by
            obtain ⟨b', o', e', hc'⟩ := HX.out a (by simpa [il] using ha)
            cases e'; exact World.block_lt_of_cell? _ _ hc'
          have hbne : b ≠ w1.heap.size := by omega
          have HSL := Lib.hid hsl
          have HY := Lib.hid hy
          have ha' : (a : Int) < xs.length := by omega
          clear hsa hcnt hF hun hc hbr hgr hy hb2 hsl
          go_wp2_with (at_builtin; refine wpList_app1 rfl _ _ 27 rfl wo.heap.size 2 (.int .i64 0) 8 Tryd.underlying27 (by kernel_rfl) rfl _ c.length _ rfl ((H2.out.1.kept (grown_set _ _ _ _) (Or.inr fun e => own_bool H2.out.1 H2.out.2.1 (by decide) e.symm)).alloc _) _ _ (.int .i64 (a : Int)) rfl ?_ rfl ⟨by omega, by omega⟩ ?_ ?_)
          · exact cell_made _ _ _ (by simp [World.setCell])
          · simp; omega
          · intro v' w' hown' hgr'
            have hgx : wo.grownBy w' (some w1.heap.size) := grown_more (grown_trans H2.out.2.2.2.2 (grown_trans (grown_set w2 w1.heap.size a (.bool true)) (World.grownBy_alloc _ (.cells #[.int .i64 (a : Int)] 2) _))) hgr' (fun i hi => own_ge H2.out.1 i hi)
            have H3 : Hid (w'.ownsRow wo.heap.size 2 1 v' (c ++ [(a : Int)]).length (il (c ++ [(a : Int)])) ∧ BRow w' w1.heap.size 4 (seenL xs.length (upd s a)) ∧ wo.grownBy w' (some w1.heap.size)) := Lib.hid (by
              refine ⟨?_, ((H2.out.2.1.put' a).alloc _).grown hgr' (own_bool H2.out.1 H2.out.2.1 (by decide)), hgx⟩
              rw [List.length_append, List.length_singleton, il, List.map_append]; exact hown')
            have hs2 := own_slen hown'
            have HS2 := Lib.hid hs2
            have hbw' : Below w.heap.size w w' := Below.grown (Bel_next HB.out H.out.2.2.2) hgx (by omega) (by intro i hi; cases hi; exact hz1)
            obtain ⟨b', o', e', hca2⟩ := (Holds.below HX.out hbw') a (by simpa [il] using ha)
            cases e'
            have HCA := Lib.hid hca2
            clear hown' hgr' hgx hca hs2 hbw' hca2 H2 hcell hfr
            have hca := HCA.out
            rw [il_get _ _ ha, HY.out] at hca
            go_wp2
            go_roundw
            case rel => exact ⟨upd s a, y, c ++ [(a : Int)], hyn, rfl, H3.out.1, H3.out.2.1, HN.out.1, HN.out.2, H3.out.2.2⟩
            case measure => rw [HS2.out, HSL.out]; omega
        | true =>
          rw [hsa] at hcell
          have HE : Hid (cycF xs (outK xs k).1 k [] = (s, c)) := Lib.hid (by rw [← hF, cycF_end hsa])
          have H3 : Hid (w2.ownsRow w1.heap.size 27 1 u5 (outK xs k).2.length (cellsL G C (outK xs k).2) ∧ (∀ i, i < (outK xs k).2.length → w1.heap.size ≤ G i ∧ G i ≠ w1.heap.size ∧ (∀ j, j < i → G j ≠ G i) ∧ RowAt w2 (G i) 2 (nthL (outK xs k).2 i)) ∧ Below w1.heap.size w1 w2 ∧ ∀ i, i < (outK xs k).2.length → G i < wo.heap.size) := Lib.hid (by
            obtain ⟨h1, h2, h3, h4⟩ := H.out
            refine ⟨h1.kept hgr (Or.inr fun e => own_bool h1 h3 (by decide) e.symm), fun i hi => ?_, Below.grown h4 hgr (Nat.le_of_lt (by have := h3.lt; omega)) (by intro i hi; cases hi; exact Nat.le_refl _), fun i hi => (h2 i hi).2.2.2.lt⟩
            obtain ⟨a1, a2, a3, a4⟩ := h2 i hi
            exact ⟨a1, a2, a3, a4.grown hgr (by simp; exact a2)⟩)
          by_cases hc0 : c.length = 0
          · have HS : Hid (outK xs (k + 1) = (s, (outK xs k).2)) := Lib.hid (by rw [outK, HE.out]; simp only [hc0, if_true])
            obtain ⟨ao7, c7, rfl⟩ := own_form hc
            rw [hc0]
            clear hc hbr hF hcnt hgr hfr hsa hsl
            go_wp2
            go_roundw
            case rel => exact ⟨k + 1, by omega, by go_num, by rw [HS.out]; exact ⟨G, C, H3.out.1, H3.out.2.1⟩, by rw [HS.out]; exact H2.out.2.1, H3.out.2.2.1⟩
            case measure => simp [intOf]; omega
          · have HS : Hid (outK xs (k + 1) = (s, (outK xs k).2 ++ [c])) := Lib.hid (by rw [outK, HE.out]; simp only [hc0, if_false])
            obtain ⟨g, cap, rfl, hg, hrowc, _, _⟩ := RowAt.of_own2 hc (by omega)
            have HRC := Lib.hid (And.intro hg hrowc)
            have hcp : (0 : Int) < c.length := by omega
            have hcpn : 0 < c.length := by omega
            have hlk := HI.out.2
            clear hc hbr hF hcnt hgr hfr hsa hsl hg hrowc hc0
            go_wp2_with (at_builtin; refine wpList_app1 rfl _ _ 108 rfl w1.heap.size 27 (.slice none 0 0) 24 Tryd.underlying108 (by kernel_rfl) rfl _ (outK xs k).2.length _ rfl (H3.out.1.alloc _) _ _ (.slice (some ⟨g, 0, none⟩) c.length cap) rfl ?_ rfl ⟨by omega, by omega⟩ ?_ ?_)
            · exact cell_made _ _ _ rfl
            · simp; omega
            · intro v' w' hown' hgr'
              have hbw' : Below w1.heap.size w1 w' := Below.grown (H3.out.2.2.1.alloc (by omega) _) hgr' (by simp; omega) (own_ge H3.out.1)
              have H4 : Hid (LRows w' w1.heap.size w1.heap.size 27 2 v' (outK xs (k + 1)).2 ∧ BRow w' w1.heap.size 4 (seenL xs.length (outK xs (k + 1)).1) ∧ Below w1.heap.size w1 w') := Lib.hid (by
                rw [HS.out]
                refine ⟨?_, (H2.out.2.1.alloc _).grown hgr' (own_bool H3.out.1 H2.out.2.1 (by decide)), hbw'⟩
                refine LRows_app (H3.out.1.alloc _) (fun i hi => ?_) hown' hgr' (by decide) (HRC.out.2.alloc _) (by have := HRC.out.1; omega) (by have := HRC.out.1; omega) (fun i hi => by have := H3.out.2.2.2 i hi; have := HRC.out.1; omega)
                obtain ⟨a1, a2, a3, a4⟩ := H3.out.2.1 i hi
                exact ⟨a1, a2, a3, a4.alloc _⟩)
              clear hown' hgr' hbw' H2 H3
              go_wp2
              go_roundw
              case rel => exact ⟨k + 1, by omega, by go_num, H4.out⟩
              case measure => simp [intOf]; omega
    · have E : Hid (k = xs.length) := Lib.hid (by omega)
      have hL : Hid (LRows wo w1.heap.size w1.heap.size 27 2 u5 (cycL xs)) := Lib.hid (by
        unfold cycL; rw [← E.out]; exact ⟨G, C, hown, hrows⟩)
      obtain ⟨ao4, c4, rfl, hr2⟩ := hL.out.rows2 (by decide)
      have HR2 := Lib.hid hr2
      clear hown hrows hbr hbel hr2
      go_wp2
      go_ret2
      exact ⟨_, _, rfl, HR2.out.wide hz1 (Nat.le_refl _), Bel_next HB.out H.out.2.2.2⟩
theorem specCycles_no (xs : List Int) (ao : Option Addr) (c : Nat) (w : World) (hv : ¬ isOrd xs) (hx : Holds w ao (il xs)) (hl : xs.length ≤ 1048576) :
    Calls Tryd.prog 129 #[.slice ao xs.length c] w (RetB (.tuple #[.slice none 0 0, .bool false]) w) := by
  have HX := Lib.hid hx
  have HV := Lib.hid hv
  clear hx hv
  go_enter Tryd.func129, Tryd.ntmps129
  go_wp2_with fail
  refine (l04Order_any xs _ _ _ HX.out hl).mono ?_
  rintro e w1 ⟨rfl, hb⟩
  have HB := Lib.hid hb
  clear hb
  rw [ordB_no HV.out]
  go_wp2
  go_ret2
  exact ⟨rfl, HB.out⟩
end Go.Proofs.YtfgkimhcbboipaaDoor
