/- Lists of lists of int64 among the arguments: how they are opened, sized and copied. -/
import Derived.Test.YtdnelmmbiccjcaaSx
import Derived.Test.YtdnelmmbiccjcaaOp
namespace Go.Proofs.Ytdnelmmbiccjcaa
open Go Go.RowKit Go.ChangeShapes Go.WideShapes Go.ChangeAt Go.Deep Go.Joins
set_option linter.unusedVariables false

section
variable {H : Type} {enc : TypeId × Value → H} {P : Program} {W : World} {base : Nat} {spare : Nat → Bool} {held : Bool}
theorem row_ofJ {t e : TypeId} {v : Value} {n : Nat} {y : DataW H × List MemPlace} (ht : P.underlying t = some (.slice e)) (hc : P.cellsOf e = 1) (h : DataW.trod enc P W base spare held n t [v] = some y) :
    ∃ ao len cap, ∃ V : Nat → Value, v = .slice ao len cap ∧ len ≤ 9223372036854775807 ∧ ∀ i, i < len → ∃ b o, ao = some ⟨b, o, none⟩ ∧ W.cell? ⟨b, o + i, none⟩ = some (V i) ∧ ∃ n y, DataW.trod enc P W base spare held n e [V i] = some y := by
  rcases open_slice1 ht hc h with ⟨hcs, _⟩ | ⟨a, l, c, m, n, V, D, Pl, hcs, _, hl, hm, hmm, _, hx⟩
  · simp at hcs
    exact ⟨none, 0, 0, fun _ => undef, hcs, Nat.zero_le _, fun i hi => absurd hi (Nat.not_lt_zero _)⟩
  · simp at hcs
    refine ⟨_, l, c, V, hcs, ?_, fun i hi => ?_⟩
    · have : maxLen = 9223372036854775807 := by decide
      omega
    have hi' : i < m := by rw [hmm]; split <;> omega
    obtain ⟨h1, h2⟩ := hx i hi'
    have e1 := addr_of_cell0 (hx 0 (by omega)).1
    rw [e1, Addr.add_lit] at h1
    exact ⟨a.block, a.off, congrArg some e1, h1, n, _, h2⟩
theorem ints_ofJ {t e : TypeId} {v : Value} {n : Nat} {y : DataW H × List MemPlace} (ht : P.underlying t = some (.slice e)) (he : P.underlying e = some (.int .i64)) (hc : P.cellsOf e = 1)
    (h : DataW.trod enc P W base spare held n t [v] = some y) :
    ∃ ao cap, ∃ xs : List Int, v = .slice ao xs.length cap ∧ Holds W ao (il xs) ∧ (∀ x ∈ xs, -9223372036854775808 ≤ x ∧ x ≤ 9223372036854775807) ∧ xs.length ≤ 9223372036854775807 := by
  obtain ⟨ao, len, cap, V, rfl, hle, hV⟩ := row_ofJ ht hc h
  have each : ∀ i, i < len → ∃ b, V i = .int .i64 b ∧ -9223372036854775808 ≤ b ∧ b ≤ 9223372036854775807 := fun i hi => by
    obtain ⟨_, _, _, _, n, y, hy⟩ := hV i hi
    obtain ⟨b, hb, _, hw⟩ := DataW.trod_int he hy
    simp at hb
    have h' : IntKind.i64.min ≤ b ∧ b ≤ IntKind.i64.max := by simpa [Lit.wf] using hw
    have e1 : IntKind.i64.min = -9223372036854775808 := by decide
    have e2 : IntKind.i64.max = 9223372036854775807 := by decide
    rw [e1, e2] at h'
    exact ⟨b, hb, h'⟩
  refine ⟨ao, cap, (List.range len).map fun i => match V i with | .int _ b => b | _ => 0, by simp, fun i hi => ?_, fun x hx => ?_, by simpa using hle⟩
  · have hi' : i < len := by simpa [il] using hi
    obtain ⟨b, o, e1, h1, _⟩ := hV i hi'
    obtain ⟨x, hx, _⟩ := each i hi'
    refine ⟨b, o, e1, ?_⟩
    rw [h1, hx]
    simp [il, List.getD, hi', hx]
  · obtain ⟨i, hi, rfl⟩ := List.mem_map.1 hx
    obtain ⟨b, hb, hw⟩ := each i (by simpa using hi)
    rw [hb]; exact hw
/-- A list of lists, opened. -/
theorem open_lists {t e x : TypeId} {v : Value} {d : DataW H} {p : List MemPlace} {b0 : Nat} {r : Reach} (ht : P.underlying t = some (.slice e)) (hc : P.cellsOf e = 1) (he : P.underlying e = some (.slice x)) (hx : P.underlying x = some (.int .i64)) (hcx : P.cellsOf x = 1)
    (hd : DataW.Trod enc P W base spare held t v d p) (hv : ∃ ao len cap, v = .slice ao len cap) :
    ∃ ao cap, ∃ xss : List (List Int), v = .slice ao xss.length cap ∧ Lists W ao xss ∧ xss.length ≤ 9223372036854775807 ∧ (∀ i, i < xss.length → (nthL xss i).length ≤ 9223372036854775807) ∧ ∀ i, i < xss.length → ∀ y ∈ nthL xss i, -9223372036854775808 ≤ y ∧ y ≤ 9223372036854775807 := by
  obtain ⟨fuel, hf⟩ := hd
  obtain ⟨ao0, len0, cap0, rfl⟩ := hv
  obtain ⟨ao, len, cap, V, hv, hle, hV⟩ := row_ofJ ht hc (by simpa [Value.cells] using hf)
  cases hv
  have each : ∀ i, ∃ xs : List Int, i < len0 → ∃ ai ci, V i = .slice ai xs.length ci ∧ Holds W ai (il xs) ∧ (∀ x ∈ xs, -9223372036854775808 ≤ x ∧ x ≤ 9223372036854775807) ∧ xs.length ≤ 9223372036854775807 := fun i => by
    by_cases hi : i < len0
    · obtain ⟨_, _, _, _, n, y, hy⟩ := hV i hi
      obtain ⟨ai, ci, xs, h1, h2, h3, h4⟩ := ints_ofJ he hx hcx hy
      exact ⟨xs, fun _ => ⟨ai, ci, h1, h2, h3, h4⟩⟩
    · exact ⟨[], fun h => absurd h hi⟩
  obtain ⟨F, hF⟩ := Classical.axiomOfChoice each
  have hn : ∀ i, i < len0 → nthL ((List.range len0).map F) i = F i := fun i hi => by simp [nthL, hi]
  refine ⟨ao0, cap0, (List.range len0).map F, by simp, fun i hi => ?_, by simpa using hle, fun i hi => ?_, fun i hi => ?_⟩
  · have hi' : i < len0 := by simpa using hi
    obtain ⟨b, o, e1, h1, _⟩ := hV i hi'
    obtain ⟨ai, ci, h2, h3, _, _⟩ := hF i hi'
    rw [hn i hi']
    exact ⟨b, o, ai, ci, e1, by rw [h1, h2], h3⟩
  · have hi' : i < len0 := by simpa using hi
    obtain ⟨ai, ci, h2, h3, _, h5⟩ := hF i hi'
    rw [hn i hi']; exact h5
  · have hi' : i < len0 := by simpa using hi
    obtain ⟨ai, ci, h2, h3, h4, _⟩ := hF i hi'
    rw [hn i hi']; exact h4
end

theorem SRows.rowsL {w : World} {lo gO gO' : Nat} {T : Option TypeId} {xss : List (List Int)} {A : Nat → Option Addr} {G C : Nat → Nat} {cur : Array Value} {t : TypeId} (h : SRows w lo gO T (nthL xss) xss.length A G)
    (hw : Whole w gO' t cur) (hc : ∀ i, i < xss.length → cur[i]? = some (.slice (A i) (nthL xss i).length (C i))) (hl : lo ≤ gO') (hd : ∀ i, i < xss.length → nthL xss i = [] ∨ G i ≠ gO') :
    Rows2 w lo w.heap.size (some ⟨gO', 0, none⟩) xss := by
  refine .inr ⟨gO', cur, t, G, A, C, rfl, ⟨hl, hw.lt⟩, hw, fun i hi => ?_, fun i hi => hc i hi, fun i hi => (h i hi).1⟩
  by_cases he : nthL xss i = []
  · exact .inl he
  · obtain ⟨a1, a2, a3, a4, a5⟩ := (h i hi).2.resolve_left he
    exact .inr ⟨a1, a2, (hd i hi).resolve_left he, a5⟩
theorem szI_yes (n c l : Nat) (ao : Option Addr) (q : Nat) (w : World) (h : l = n + q) (hl : l ≤ 1048576) :
    Calls Try.prog 66 #[.slice ao n c, .int .i64 l] w (fun e w' => e = .returned (.int .i64 q) ∧ w = w') := by
  have hs : (l : Int) - (n : Int) = (q : Int) := by omega
  have hq : (0 : Int) ≤ q := by omega
  have hl' : (l : Int) ≤ 1048576 := by omega
  have hn' : (n : Int) ≤ 1048576 := by omega
  clear h hl
  go_enter Try.func66, Try.ntmps66
  go_wp2
  go_ret
  exact ⟨rfl, rfl⟩
theorem szI_no (n c l : Nat) (ao : Option Addr) (w : World) (h : l < n) (hl : l ≤ 1048576) (hn : n ≤ 9223372036854775807) :
    Calls Try.prog 66 #[.slice ao n c, .int .i64 l] w (fun e w' => e = .returned (.int .i64 (-1)) ∧ w = w') := by
  have hs : IntKind.i64.wrap ((l : Int) - (n : Int)) = (l : Int) - n := by rw [IntKind.wrap_i64]; omega
  have hq : (l : Int) - (n : Int) < 0 := by omega
  have hq2 : (l : Int) < (n : Int) := by omega
  clear h hl hn
  go_enter Try.func66, Try.ntmps66
  go_wp2
  go_ret
  exact ⟨rfl, rfl⟩
/-- What is left behind a list of lists; -1 where it is not enough. -/
def szR (xss : List (List Int)) (l : Nat) : Int := if xss.length + totL xss ≤ l then ((l - (xss.length + totL xss) : Nat) : Int) else -1
theorem szR_no {xss : List (List Int)} {l : Nat} (h : ¬ xss.length + totL xss ≤ l) : szR xss l = -1 := if_neg h
theorem szR_yes {xss : List (List Int)} {l r : Nat} (h : xss.length + totL xss ≤ l ∧ r = l - (xss.length + totL xss)) : szR xss l = r := by rw [h.2]; exact if_pos h.1
set_option maxRecDepth 100000 in
set_option maxHeartbeats 800000 in
theorem szInt64SS_any (xss : List (List Int)) (c l : Nat) (ao : Option Addr) (w : World) (hx : Lists w ao xss) (hl : l ≤ 1048576) (hn : xss.length ≤ 9223372036854775807) (hm : ∀ i, i < xss.length → (nthL xss i).length ≤ 9223372036854775807) :
    Calls Try.prog 21 #[.slice ao xss.length c, .int .i64 l] w (fun e w' => e = .returned (.int .i64 (szR xss l)) ∧ w = w') := by
  have HX := Lib.hid hx
  have HM := Lib.hid hm
  clear hx hm
  by_cases h0 : l < xss.length
  · have hs : IntKind.i64.wrap ((l : Int) - (xss.length : Int)) = (l : Int) - xss.length := by rw [IntKind.wrap_i64]; omega
    have hq : (l : Int) - (xss.length : Int) < 0 := by omega
    have hq2 : (l : Int) < (xss.length : Int) := by omega
    have HE : Hid (szR xss l = -1) := Lib.hid (szR_no (by omega))
    clear hl hn h0
    go_enter Try.func21, Try.ntmps21
    go_wp2
    go_ret
    exact ⟨by rw [HE.out]; rfl, rfl⟩
  · obtain ⟨q, hq⟩ : ∃ q, l = xss.length + q := ⟨l - xss.length, by omega⟩
    have hs : (l : Int) - (xss.length : Int) = (q : Int) := by omega
    have hq0 : (0 : Int) ≤ q := by omega
    have hql : (q : Int) ≤ 1048576 := by omega
    have hl' : (l : Int) ≤ 1048576 := by omega
    have hn' : (xss.length : Int) ≤ 1048576 := by omega
    have HQ := Lib.hid hq
    clear hq h0
    go_enter Try.func21, Try.ntmps21
    go_wp2
    go_loopw [5, 1] (fun iv mv wr => ∃ m r : Nat, m ≤ xss.length ∧ iv = .int .i64 m ∧ mv = .int .i64 r ∧ q = preL xss m + r ∧ wr = w) (fun iv _ _ => xss.length - (intOf iv).toNat)
    case atStart => exact ⟨0, q, Nat.zero_le _, rfl, rfl, by simp [preL], rfl⟩
    case round =>
      obtain ⟨m, r, hm, rfl, rfl, hr, rfl⟩ := hrel
      have HR := Lib.hid hr
      by_cases hlt : m < xss.length
      · obtain ⟨b, o, ai, ci, rfl, hc, hh⟩ := HX.out m hlt
        have HP : Hid (preL xss (m + 1) = preL xss m + (nthL xss m).length ∧ preL xss (m + 1) ≤ totL xss) := Lib.hid ⟨rfl, preL_le xss (m + 1) xss.length hlt⟩
        have hlm := HM.out m hlt
        obtain ⟨k, hk⟩ : ∃ k, k = (nthL xss m).length := ⟨_, rfl⟩
        rw [← hk] at hc hlm
        have HK := Lib.hid hk
        have hr1 : r ≤ 1048576 := by omega
        clear hh hr hk
        by_cases hkr : k ≤ r
        · obtain ⟨r2, hr2⟩ : ∃ r2, r = k + r2 := ⟨r - k, by omega⟩
          have HR2 := Lib.hid hr2
          have hr20 : (0 : Int) ≤ r2 := by omega
          clear hr2 hkr
          go_wp2_with fail
          refine (szI_yes k ci r ai r2 _ HR2.out hr1).mono ?_
          rintro e w2 ⟨rfl, rfl⟩
          go_wp2
          go_roundw
          case rel => exact ⟨m + 1, r2, by omega, by go_num, rfl, by have := HP.out.1; have := HR.out; have := HK.out; have := HR2.out; omega, by first | rfl | trivial⟩
          case measure => simp [intOf]; omega
        · have HE : Hid (szR xss l = -1) := Lib.hid (szR_no (by have := HP.out; have := HR.out; have := HK.out; have := HQ.out; omega))
          go_wp2_with fail
          refine (szI_no k ci r ai _ (by omega) hr1 hlm).mono ?_
          rintro e w2 ⟨rfl, rfl⟩
          go_wp2
          go_ret
          exact ⟨by rw [HE.out]; rfl, rfl⟩
      · have E : Hid (m = xss.length) := Lib.hid (by omega)
        have HE : Hid (szR xss l = r) := Lib.hid (szR_yes (by have h1 := HR.out; have h2 := E.out; have h3 := HQ.out; subst h2; unfold totL; omega))
        clear hr
        go_wp2
        go_ret
        exact ⟨by rw [HE.out]; rfl, rfl⟩
set_option maxRecDepth 100000 in
set_option maxHeartbeats 1000000 in
theorem toInt64SS_any (xss : List (List Int)) (ao : Option Addr) (c : Nat) (w : World) (hx : Lists w ao xss) (hn : xss.length ≤ 1048576) (hm : totL xss ≤ 1048576) :
    Calls Try.prog 23 #[.slice ao xss.length c] w (RetLL xss (fun s => s) w) := by
  have HX := Lib.hid hx
  have HM := Lib.hid hm
  have hmk := run_mkN (P := Try.prog) w 25 33 xss.length (by omega) Try.underlying25 (by kernel_rfl)
  clear hx hm
  go_enter Try.func23, Try.ntmps23
  go_wp2_with fail
  clear hmk
  go_loopw [4] (fun iv wr => ∃ (j : Nat) (A : Nat → Option Addr) (G C : Nat → Nat) (cur : Array Value), j ≤ xss.length ∧ iv = .int .i64 j ∧ SRows wr w.heap.size w.heap.size none (nthL xss) j A G ∧ Whole wr w.heap.size 33 cur ∧ cur.size = xss.length ∧ (∀ i, i < j → cur[i]? = some (.slice (A i) (nthL xss i).length (C i))) ∧ Below w.heap.size w wr) (fun iv _ => xss.length - (intOf iv).toNat)
  case atStart => exact ⟨0, fun _ => none, fun _ => 0, fun _ => 0, _, Nat.zero_le _, rfl, fun i hi => absurd hi (Nat.not_lt_zero _), Whole.made _ _ _, by simp, fun i hi => absurd hi (Nat.not_lt_zero _), (Below.refl _ _).alloc (Nat.le_refl _) _⟩
  case round =>
    obtain ⟨j, A, G, C, cur, hj, rfl, hrows, hcur, hcs, hcells, hbel⟩ := hrel
    have H := Lib.hid (And.intro hrows (And.intro hcur (And.intro hcs (And.intro hcells hbel))))
    have hzo := hcur.lt
    by_cases hlt : j < xss.length
    · obtain ⟨b, o, ai, ci, rfl, hc, hh⟩ := (HX.out.below hbel) j hlt
      have hlt' : (j : Int) < xss.length := by omega
      have hlt0 : j < cur.size := by omega
      have hlj : (nthL xss j).length ≤ 1048576 := Nat.le_trans (len_le_tot xss j hlt) HM.out
      have HH := Lib.hid hh
      clear hrows hcur hcs hcells hbel hh
      go_wp2_with fail
      refine (toInt64S_any (nthL xss j) ai ci _ HH.out hlj).mono ?_
      rintro e w3 ⟨a3, rfl, hrow, hb3⟩
      have HB3 := Lib.hid hb3
      have hz3 := hb3.size
      have HR := Lib.hid hrow.single
      clear hb3 hrow
      have hcw : Whole w3 w.heap.size 33 cur := H.out.2.1.below HB3.out
      obtain ⟨old, hold⟩ : ∃ old, w3.cell? ⟨w.heap.size, j, none⟩ = some old := ⟨cur[j], by rw [hcw.cell]; exact Array.getElem?_eq_getElem hlt0⟩
      have hfr := hcw.frozen j
      have HCW := Lib.hid hcw
      clear hcw
      go_wp2
      go_roundw
      case rel =>
        obtain ⟨h1, h2, h3, h4, h6⟩ := H.out
        have hgs := grown_set w3 w.heap.size j (.slice a3 (nthL xss j).length (nthL xss j).length)
        have r1 : SRows w3 w.heap.size w.heap.size none (nthL xss) j A G := h1.grown (grown_below (row := none) HB3.out) (fun i hi => .inr (by simp))
        have r2 : SRows (w3.setCell ⟨w.heap.size, j, none⟩ (.slice a3 (nthL xss j).length (nthL xss j).length)) w.heap.size w.heap.size none (nthL xss) j A G := r1.grown hgs (fun i hi => (r1 i hi).2.imp id (fun h => by simp; exact h.2.2.1))
        obtain ⟨G', r3⟩ := r2.add (ao := a3) (by
          rcases HR.out with he | ⟨g, g1, g2, g3, g4⟩
          · left
            have : (il (nthL xss j)).length = 0 := by rw [he]; rfl
            rw [il_len] at this
            exact List.eq_nil_of_length_eq_zero this
          · refine .inr ⟨g, by omega, by simpa [World.setCell] using g3, by omega, g4.grownX hgs (.inr fun x x1 x2 => by simp; omega), (fun t ht => by simp at ht), fun i hi => ?_⟩
            refine (h1 i hi).2.imp id (fun h => ?_)
            have := h.2.1
            omega)
        refine ⟨j + 1, _, G', fun i => if i = j then (nthL xss j).length else C i, cur.setIfInBounds j (.slice a3 (nthL xss j).length (nthL xss j).length), by omega, by go_num, r3, HCW.out.put j _, by simpa using h3, fun i hi => ?_, (Bel_next h6 HB3.out).setCell (by simp) _⟩
        by_cases e : i = j
        · subst e; rw [Array.getElem?_setIfInBounds_self_of_lt hlt0]; simp
        · rw [Array.getElem?_setIfInBounds_ne (by omega)]
          simp only [e, if_false]
          exact h4 i (by omega)
      case measure => simp [intOf]; omega
    · have hjm : j = xss.length := by omega
      subst hjm
      clear hrows hcur hcs hcells hbel
      go_wp2
      go_ret
      obtain ⟨h1, h2, h3, h4, h6⟩ := H.out
      exact ⟨_, _, rfl, h1.rowsL h2 h4 (Nat.le_refl _) (fun i hi => (h1 i hi).2.imp id (fun h => h.2.2.1)), h6⟩
end Go.Proofs.Ytdnelmmbiccjcaa
