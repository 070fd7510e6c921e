/- Walks behind bits: what they go through, both sides. -/
import Derived.Test.YtlnhobikejbkkaaMx
import Derived.Test.YtlnhobikejbkkaaPm
import Derived.Test.YtlnhobikejbkkaaBo
namespace Go.Proofs.Ytlnhobikejbkkaa
open Go Go.RowKit Fl
set_option linter.unusedVariables false

/-- Where a walk is behind k bits. -/
def wkV (op : BinOp) (h m z : Option Nat) (bs : List Bool) : Nat → Option Nat
  | 0 => z
  | k + 1 => aop op .f32 (wkV op h m z bs k) (if bs[k]?.getD false = true then h else m)
theorem wkV_yes {op : BinOp} {h m z : Option Nat} {bs : List Bool} {k : Nat} (e : bs[k]?.getD false = true) : wkV op h m z bs (k + 1) = aop op .f32 (wkV op h m z bs k) h := by show aop _ _ _ _ = _; rw [if_pos e]
theorem wkV_no {op : BinOp} {h m z : Option Nat} {bs : List Bool} {k : Nat} (e : bs[k]?.getD false = false) : wkV op h m z bs (k + 1) = aop op .f32 (wkV op h m z bs k) m := by show aop _ _ _ _ = _; rw [if_neg (by rw [e]; simp)]
/-- All of them are finite. -/
def wkFin (op : BinOp) (h m z : Option Nat) (bs : List Bool) : Prop := ∀ i : Nat, i < bs.length → finA .f32 (wkV op h m z bs (i + 1)) = true
def wkL (op : BinOp) (h m z : Option Nat) (bs : List Bool) : List Nat := (List.range bs.length).map fun i => (wkV op h m z bs (i + 1)).getD 0
theorem wkL_len (op : BinOp) (h m z : Option Nat) (bs : List Bool) : (wkL op h m z bs).length = bs.length := by simp [wkL]
theorem av_of_some {k : FloatKind} {d b : Nat} (h : av k d = some b) : d = b := by
  unfold av at h
  split at h
  · cases h
  · injection h
theorem wkL_of {op : BinOp} {h m z : Option Nat} {bs : List Bool} {ds : List Nat} (hl : ds.length = bs.length) (hd : ∀ j, j < bs.length → av .f32 (ds[j]?.getD 0) = wkV op h m z bs (j + 1)) (hf : wkFin op h m z bs) : ds = wkL op h m z bs := by
  apply List.ext_getElem
  · rw [hl, wkL_len]
  · intro i h1 h2
    have h3 := hd i (by omega)
    have h4 := hf i (by omega)
    cases hv : wkV op h m z bs (i + 1) with
    | none => rw [hv] at h4; cases h4
    | some b =>
      rw [hv] at h3
      have := av_of_some h3
      simp only [wkL, List.getElem_map, List.getElem_range, hv, Option.getD_some]
      simpa [h1] using this
theorem wkFin_iff {op : BinOp} {h m z : Option Nat} {bs : List Bool} {ds : List Nat} (hl : ds.length = bs.length) (hd : ∀ j, j < bs.length → av .f32 (ds[j]?.getD 0) = wkV op h m z bs (j + 1)) : fins ds ↔ wkFin op h m z bs :=
  ⟨fun hf i hi => by have := hf i (by omega); rwa [hd i hi] at this, fun hf i hi => by rw [hd i (by omega)]; exact hf i (by omega)⟩
set_option maxRecDepth 100000 in
theorem clo_add (a hb mb g1 g2 : Nat) (b : Bool) (T : TypeId) (w : World) (hW : Whole w g1 T #[.float .f32 hb]) (hV : Whole w g2 T #[.float .f32 mb]) :
    Calls Try.prog 72 #[.float .f32 a, .bool b, .pointer (some ⟨g1, 0, none⟩), .pointer (some ⟨g2, 0, none⟩)] w (Num32 (aop .add .f32 (av .f32 a) (if b = true then av .f32 hb else av .f32 mb)) w) := by
  have hc1 := hW.cell 0
  have hc2 := hV.cell 0
  clear hW hV
  cases b with
  | true =>
    go_enter Try.func72, Try.ntmps72
    go_wp2_with (refine wpList_farith _ _ _ _ _ .f32 _ _ rfl rfl rfl ?_; intro d n hd)
    have HD := Lib.hid hd
    clear hd
    go_wp2_with fail
    go_ret
    exact ⟨d, _, rfl, HD.out, rfl⟩
  | false =>
    go_enter Try.func72, Try.ntmps72
    go_wp2_with (refine wpList_farith _ _ _ _ _ .f32 _ _ rfl rfl rfl ?_; intro d n hd)
    have HD := Lib.hid hd
    clear hd
    go_wp2_with fail
    go_ret
    exact ⟨d, _, rfl, HD.out, rfl⟩
/-- What a walk returns: all places, or nothing if one of them is not finite. -/
def WkR_add (h m z : Option Nat) (bs : List Bool) (w : World) (e : Ending) (w' : World) : Prop :=
  (wkFin .add h m z bs ∧ RetL bs.length (fl .f32 (wkL .add h m z bs)) (fun s => .tuple #[s, .bool true]) w e w') ∨ (¬wkFin .add h m z bs ∧ RetB (.tuple #[.slice none 0 0, .bool false]) w e w')
theorem WkR_add.yes {h m z : Option Nat} {bs : List Bool} {w w' : World} {e : Ending} (hf : wkFin .add h m z bs) (hr : WkR_add h m z bs w e w') : RetL bs.length (fl .f32 (wkL .add h m z bs)) (fun s => .tuple #[s, .bool true]) w e w' := by
  rcases hr with ⟨_, h⟩ | ⟨h, _⟩
  · exact h
  · exact absurd hf h
theorem WkR_add.no {h m z : Option Nat} {bs : List Bool} {w w' : World} {e : Ending} (hf : ¬wkFin .add h m z bs) (hr : WkR_add h m z bs w e w') : RetB (.tuple #[.slice none 0 0, .bool false]) w e w' := by
  rcases hr with ⟨h, _⟩ | ⟨_, h⟩
  · exact absurd h hf
  · exact h
set_option maxRecDepth 100000 in
set_option maxHeartbeats 4000000 in
theorem walkOf_add (bs : List Bool) (ao : Option Addr) (ca hb mb zb g1 g2 : Nat) (T : TypeId) (w : World) (hx : Holds w ao (bl bs)) (h1 : 1 ≤ bs.length) (h2 : bs.length ≤ 256) (hW : Whole w g1 T #[.float .f32 hb]) (hV : Whole w g2 T #[.float .f32 mb]) :
    Calls Try.prog 71 #[.slice ao bs.length ca, .float .f32 zb, .func (.func 72) #[] #[.pointer (some ⟨g1, 0, none⟩), .pointer (some ⟨g2, 0, none⟩)]] w (WkR_add (av .f32 hb) (av .f32 mb) (av .f32 zb) bs w) := by
  have HX := Lib.hid (And.intro hx (And.intro hW hV))
  clear hx hW hV
  have hmk := run_mkFm (P := Try.prog) w 22 23 bs.length Try.underlying22 (by kernel_rfl) (by omega)
  have HO := Lib.hid (World.ownsRow_made (base := w.heap.size) (e := 23) (size := 1) w (Array.replicate bs.length (.float .f32 0)) bs.length (Nat.le_refl _) (by unfold maxLen; omega) (by simp))
  go_enter Try.func71, Try.ntmps71
  go_wp2_with fail
  clear hmk
  go_loopw [1, 8, 24] (fun a v i wr => ∃ (k r : Nat) (ds : List Nat), k ≤ bs.length ∧ i = .int .i64 k ∧ a = .float .f32 r ∧ av .f32 r = wkV .add (av .f32 hb) (av .f32 mb) (av .f32 zb) bs k ∧ ds.length = k ∧ (∀ j, j < k → av .f32 (ds[j]?.getD 0) = wkV .add (av .f32 hb) (av .f32 mb) (av .f32 zb) bs (j + 1)) ∧ wr.ownsRow w.heap.size 23 1 v k (fl .f32 ds) ∧ Below w.heap.size w wr) (fun _ _ i _ => bs.length - (intOf i).toNat)
  case atStart => exact ⟨0, zb, [], Nat.zero_le _, rfl, rfl, rfl, rfl, fun j hj => absurd hj (Nat.not_lt_zero _), by simpa [fl] using HO.out, (by repeat (first | with_reducible exact Below.refl _ _ | with_reducible exact HBL | with_reducible refine Below.drew ?_ | with_reducible refine Bel_drewN ?_ _ | with_reducible refine Below.alloc ?_ (by first | omega | (simp; done) | (simp; omega)) _ | with_reducible refine Below.setCell ?_ (by first | omega | (simp; done) | (simp; omega)) _))⟩
  case round =>
    obtain ⟨k, r, ds, hk, rfl, rfl, hr, hdl, hds, hown, hbel⟩ := hrel
    have H := Lib.hid (And.intro hown hbel)
    have HD := Lib.hid (And.intro hr (And.intro hdl hds))
    have hzr := hbel.size
    by_cases hlt : k < bs.length
    · obtain ⟨b, o, rfl, hc⟩ := (Holds.below HX.out.1 hbel) k (by simpa [bl] using hlt)
      rw [bl_get _ _ hlt] at hc
      have hlt' : (k : Int) < bs.length := by omega
      obtain ⟨x, hx⟩ : ∃ x, bs[k]?.getD false = x := ⟨_, rfl⟩
      rw [hx] at hc
      have HN : Hid (wkV .add (av .f32 hb) (av .f32 mb) (av .f32 zb) bs (k + 1) = aop .add .f32 (av .f32 r) (if x = true then av .f32 hb else av .f32 mb)) := Lib.hid (by show aop _ _ _ _ = _; rw [hx, hr])
      have HW := Lib.hid (And.intro (HX.out.2.1.below hbel) (HX.out.2.2.below hbel))
      clear hx hr hdl hds hown hbel
      go_wp2_with fail
      refine (clo_add r hb mb g1 g2 x T _ HW.out.1 HW.out.2).mono ?_
      rintro e w1 ⟨d, n, rfl, hd, rfl⟩
      have HV := Lib.hid hd.2
      clear hd
      have H2 := Lib.hid (show (wr.drewN n).ownsRow w.heap.size 23 1 _ k _ from H.out.1)
      go_wp2_with (at_builtin; refine wpList_app1 rfl _ _ 22 rfl w.heap.size 23 (.float .f32 0) 4 Try.underlying22 (by kernel_rfl) rfl _ k _ rfl (H2.out.alloc _) _ _ (.float .f32 d) rfl ?_ rfl ⟨by omega, by omega⟩ ?_ ?_)
      · exact (Whole.made (wr.drewN n) 23 #[.float .f32 d]).cell 0
      · simp; omega
      · intro v' w' hown' hgr'
        have hb2 : Below w.heap.size w w' := by
          have h1 : Below w.heap.size w ((wr.drewN n).alloc (.cells #[.float .f32 d] 23)) := by have HBL := H.out.2; exact (by repeat (first | with_reducible exact Below.refl _ _ | with_reducible exact HBL | with_reducible refine Below.drew ?_ | with_reducible refine Bel_drewN ?_ _ | with_reducible refine Below.alloc ?_ (by first | omega | (simp; done) | (simp; omega)) _ | with_reducible refine Below.setCell ?_ (by first | omega | (simp; done) | (simp; omega)) _))
          exact h1.grown hgr' (by simp; omega) (own_ge H.out.1)
        have ho3 : w'.ownsRow w.heap.size 23 1 v' (k + 1) (fl .f32 (ds ++ [d])) := by rw [fl, List.map_append]; exact hown'
        have H3 := Lib.hid (And.intro ho3 hb2)
        clear hown' hgr' hb2 ho3
        go_wp2_with fail
        go_roundw
        case rel =>
          refine ⟨k + 1, d, ds ++ [d], by omega, by go_num, rfl, by rw [HN.out, HV.out], by rw [List.length_append, HD.out.2.1]; rfl, fun j hj => ?_, H3.out⟩
          by_cases e : j = k
          · subst e
            rw [List.getElem?_append_right (by rw [HD.out.2.1]; exact Nat.le_refl _), HD.out.2.1, Nat.sub_self, HN.out]
            exact HV.out
          · rw [List.getElem?_append_left (by rw [HD.out.2.1]; omega)]
            exact HD.out.2.2 j (by omega)
        case measure => simp [intOf]; omega
    · have e : k = bs.length := by omega
      obtain ⟨ao2, c2, rfl⟩ := own_form hown
      have H3 := Lib.hid (And.intro (Row.of_own hown) hbel)
      have HL : Hid (ds.length = bs.length ∧ ∀ j, j < bs.length → av .f32 (ds[j]?.getD 0) = wkV .add (av .f32 hb) (av .f32 mb) (av .f32 zb) bs (j + 1)) := Lib.hid ⟨by omega, fun j hj => hds j (by omega)⟩
      subst e
      clear hr hdl hds hown hbel H HD
      go_wp2_with fail
      refine (areFinite_any ds _ HL.out.1 ao2 _ _ H3.out.1.holds (by omega)).mono ?_
      rintro e w1 ⟨b, n, rfl, hbf, rfl⟩
      rw [wkFin_iff HL.out.1 HL.out.2] at hbf
      by_cases hf : wkFin .add (av .f32 hb) (av .f32 mb) (av .f32 zb) bs
      · have hbt : b = true := hbf.2 hf
        subst hbt
        have HF : Hid (RetL bs.length (fl .f32 (wkL .add (av .f32 hb) (av .f32 mb) (av .f32 zb) bs)) (fun s => .tuple #[s, .bool true]) w (.returned (.tuple #[.slice ao2 bs.length c2, .bool true])) (wr.drewN n)) := Lib.hid (by
          rw [← wkL_of HL.out.1 HL.out.2 hf]
          exact ⟨ao2, c2, rfl, H3.out.1.drewN n, Bel_drewN H3.out.2 n⟩)
        have HF2 := Lib.hid hf
        clear hbf hf
        go_wp2_with fail
        go_ret2
        exact .inl ⟨HF2.out, HF.out⟩
      · have hbt : b = false := by
          cases b with
          | false => rfl
          | true => exact absurd (hbf.1 rfl) hf
        subst hbt
        have HF2 := Lib.hid hf
        clear hbf hf
        go_wp2_with fail
        go_ret2
        exact .inr ⟨HF2.out, rfl, Bel_drewN H3.out.2 n⟩
theorem walkOf_add_not (n : Nat) (ao : Option Addr) (ca zb : Nat) (F : Value) (w : World) (h : ¬(1 ≤ n ∧ n ≤ 256)) (hl : n ≤ 1048576) :
    Calls Try.prog 71 #[.slice ao n ca, .float .f32 zb, F] w (RetB (.tuple #[.slice none 0 0, .bool false]) w) := by
  by_cases h1 : (n : Int) < 1
  · clear h
    go_enter Try.func71, Try.ntmps71
    go_wp2_with fail
    go_ret2
    exact ⟨rfl, Below.refl _ _⟩
  · have h2 : (256 : Int) < n := by omega
    clear h
    go_enter Try.func71, Try.ntmps71
    go_wp2_with fail
    go_ret2
    exact ⟨rfl, Below.refl _ _⟩
set_option maxRecDepth 100000 in
theorem clo_mul (a hb mb g1 g2 : Nat) (b : Bool) (T : TypeId) (w : World) (hW : Whole w g1 T #[.float .f32 hb]) (hV : Whole w g2 T #[.float .f32 mb]) :
    Calls Try.prog 76 #[.float .f32 a, .bool b, .pointer (some ⟨g1, 0, none⟩), .pointer (some ⟨g2, 0, none⟩)] w (Num32 (aop .mul .f32 (av .f32 a) (if b = true then av .f32 hb else av .f32 mb)) w) := by
  have hc1 := hW.cell 0
  have hc2 := hV.cell 0
  clear hW hV
  cases b with
  | true =>
    go_enter Try.func76, Try.ntmps76
    go_wp2_with (refine wpList_farith _ _ _ _ _ .f32 _ _ rfl rfl rfl ?_; intro d n hd)
    have HD := Lib.hid hd
    clear hd
    go_wp2_with fail
    go_ret
    exact ⟨d, _, rfl, HD.out, rfl⟩
  | false =>
    go_enter Try.func76, Try.ntmps76
    go_wp2_with (refine wpList_farith _ _ _ _ _ .f32 _ _ rfl rfl rfl ?_; intro d n hd)
    have HD := Lib.hid hd
    clear hd
    go_wp2_with fail
    go_ret
    exact ⟨d, _, rfl, HD.out, rfl⟩
/-- What a walk returns: all places, or nothing if one of them is not finite. -/
def WkR_mul (h m z : Option Nat) (bs : List Bool) (w : World) (e : Ending) (w' : World) : Prop :=
  (wkFin .mul h m z bs ∧ RetL bs.length (fl .f32 (wkL .mul h m z bs)) (fun s => .tuple #[s, .bool true]) w e w') ∨ (¬wkFin .mul h m z bs ∧ RetB (.tuple #[.slice none 0 0, .bool false]) w e w')
theorem WkR_mul.yes {h m z : Option Nat} {bs : List Bool} {w w' : World} {e : Ending} (hf : wkFin .mul h m z bs) (hr : WkR_mul h m z bs w e w') : RetL bs.length (fl .f32 (wkL .mul h m z bs)) (fun s => .tuple #[s, .bool true]) w e w' := by
  rcases hr with ⟨_, h⟩ | ⟨h, _⟩
  · exact h
  · exact absurd hf h
theorem WkR_mul.no {h m z : Option Nat} {bs : List Bool} {w w' : World} {e : Ending} (hf : ¬wkFin .mul h m z bs) (hr : WkR_mul h m z bs w e w') : RetB (.tuple #[.slice none 0 0, .bool false]) w e w' := by
  rcases hr with ⟨h, _⟩ | ⟨_, h⟩
  · exact absurd h hf
  · exact h
set_option maxRecDepth 100000 in
set_option maxHeartbeats 4000000 in
theorem walkOf_mul (bs : List Bool) (ao : Option Addr) (ca hb mb zb g1 g2 : Nat) (T : TypeId) (w : World) (hx : Holds w ao (bl bs)) (h1 : 1 ≤ bs.length) (h2 : bs.length ≤ 256) (hW : Whole w g1 T #[.float .f32 hb]) (hV : Whole w g2 T #[.float .f32 mb]) :
    Calls Try.prog 71 #[.slice ao bs.length ca, .float .f32 zb, .func (.func 76) #[] #[.pointer (some ⟨g1, 0, none⟩), .pointer (some ⟨g2, 0, none⟩)]] w (WkR_mul (av .f32 hb) (av .f32 mb) (av .f32 zb) bs w) := by
  have HX := Lib.hid (And.intro hx (And.intro hW hV))
  clear hx hW hV
  have hmk := run_mkFm (P := Try.prog) w 22 23 bs.length Try.underlying22 (by kernel_rfl) (by omega)
  have HO := Lib.hid (World.ownsRow_made (base := w.heap.size) (e := 23) (size := 1) w (Array.replicate bs.length (.float .f32 0)) bs.length (Nat.le_refl _) (by unfold maxLen; omega) (by simp))
  go_enter Try.func71, Try.ntmps71
  go_wp2_with fail
  clear hmk
  go_loopw [1, 8, 24] (fun a v i wr => ∃ (k r : Nat) (ds : List Nat), k ≤ bs.length ∧ i = .int .i64 k ∧ a = .float .f32 r ∧ av .f32 r = wkV .mul (av .f32 hb) (av .f32 mb) (av .f32 zb) bs k ∧ ds.length = k ∧ (∀ j, j < k → av .f32 (ds[j]?.getD 0) = wkV .mul (av .f32 hb) (av .f32 mb) (av .f32 zb) bs (j + 1)) ∧ wr.ownsRow w.heap.size 23 1 v k (fl .f32 ds) ∧ Below w.heap.size w wr) (fun _ _ i _ => bs.length - (intOf i).toNat)
  case atStart => exact ⟨0, zb, [], Nat.zero_le _, rfl, rfl, rfl, rfl, fun j hj => absurd hj (Nat.not_lt_zero _), by simpa [fl] using HO.out, (by repeat (first | with_reducible exact Below.refl _ _ | with_reducible exact HBL | with_reducible refine Below.drew ?_ | with_reducible refine Bel_drewN ?_ _ | with_reducible refine Below.alloc ?_ (by first | omega | (simp; done) | (simp; omega)) _ | with_reducible refine Below.setCell ?_ (by first | omega | (simp; done) | (simp; omega)) _))⟩
  case round =>
    obtain ⟨k, r, ds, hk, rfl, rfl, hr, hdl, hds, hown, hbel⟩ := hrel
    have H := Lib.hid (And.intro hown hbel)
    have HD := Lib.hid (And.intro hr (And.intro hdl hds))
    have hzr := hbel.size
    by_cases hlt : k < bs.length
    · obtain ⟨b, o, rfl, hc⟩ := (Holds.below HX.out.1 hbel) k (by simpa [bl] using hlt)
      rw [bl_get _ _ hlt] at hc
      have hlt' : (k : Int) < bs.length := by omega
      obtain ⟨x, hx⟩ : ∃ x, bs[k]?.getD false = x := ⟨_, rfl⟩
      rw [hx] at hc
      have HN : Hid (wkV .mul (av .f32 hb) (av .f32 mb) (av .f32 zb) bs (k + 1) = aop .mul .f32 (av .f32 r) (if x = true then av .f32 hb else av .f32 mb)) := Lib.hid (by show aop _ _ _ _ = _; rw [hx, hr])
      have HW := Lib.hid (And.intro (HX.out.2.1.below hbel) (HX.out.2.2.below hbel))
      clear hx hr hdl hds hown hbel
      go_wp2_with fail
      refine (clo_mul r hb mb g1 g2 x T _ HW.out.1 HW.out.2).mono ?_
      rintro e w1 ⟨d, n, rfl, hd, rfl⟩
      have HV := Lib.hid hd.2
      clear hd
      have H2 := Lib.hid (show (wr.drewN n).ownsRow w.heap.size 23 1 _ k _ from H.out.1)
      go_wp2_with (at_builtin; refine wpList_app1 rfl _ _ 22 rfl w.heap.size 23 (.float .f32 0) 4 Try.underlying22 (by kernel_rfl) rfl _ k _ rfl (H2.out.alloc _) _ _ (.float .f32 d) rfl ?_ rfl ⟨by omega, by omega⟩ ?_ ?_)
      · exact (Whole.made (wr.drewN n) 23 #[.float .f32 d]).cell 0
      · simp; omega
      · intro v' w' hown' hgr'
        have hb2 : Below w.heap.size w w' := by
          have h1 : Below w.heap.size w ((wr.drewN n).alloc (.cells #[.float .f32 d] 23)) := by have HBL := H.out.2; exact (by repeat (first | with_reducible exact Below.refl _ _ | with_reducible exact HBL | with_reducible refine Below.drew ?_ | with_reducible refine Bel_drewN ?_ _ | with_reducible refine Below.alloc ?_ (by first | omega | (simp; done) | (simp; omega)) _ | with_reducible refine Below.setCell ?_ (by first | omega | (simp; done) | (simp; omega)) _))
          exact h1.grown hgr' (by simp; omega) (own_ge H.out.1)
        have ho3 : w'.ownsRow w.heap.size 23 1 v' (k + 1) (fl .f32 (ds ++ [d])) := by rw [fl, List.map_append]; exact hown'
        have H3 := Lib.hid (And.intro ho3 hb2)
        clear hown' hgr' hb2 ho3
        go_wp2_with fail
        go_roundw
        case rel =>
          refine ⟨k + 1, d, ds ++ [d], by omega, by go_num, rfl, by rw [HN.out, HV.out], by rw [List.length_append, HD.out.2.1]; rfl, fun j hj => ?_, H3.out⟩
          by_cases e : j = k
          · subst e
            rw [List.getElem?_append_right (by rw [HD.out.2.1]; exact Nat.le_refl _), HD.out.2.1, Nat.sub_self, HN.out]
            exact HV.out
          · rw [List.getElem?_append_left (by rw [HD.out.2.1]; omega)]
            exact HD.out.2.2 j (by omega)
        case measure => simp [intOf]; omega
    · have e : k = bs.length := by omega
      obtain ⟨ao2, c2, rfl⟩ := own_form hown
      have H3 := Lib.hid (And.intro (Row.of_own hown) hbel)
      have HL : Hid (ds.length = bs.length ∧ ∀ j, j < bs.length → av .f32 (ds[j]?.getD 0) = wkV .mul (av .f32 hb) (av .f32 mb) (av .f32 zb) bs (j + 1)) := Lib.hid ⟨by omega, fun j hj => hds j (by omega)⟩
      subst e
      clear hr hdl hds hown hbel H HD
      go_wp2_with fail
      refine (areFinite_any ds _ HL.out.1 ao2 _ _ H3.out.1.holds (by omega)).mono ?_
      rintro e w1 ⟨b, n, rfl, hbf, rfl⟩
      rw [wkFin_iff HL.out.1 HL.out.2] at hbf
      by_cases hf : wkFin .mul (av .f32 hb) (av .f32 mb) (av .f32 zb) bs
      · have hbt : b = true := hbf.2 hf
        subst hbt
        have HF : Hid (RetL bs.length (fl .f32 (wkL .mul (av .f32 hb) (av .f32 mb) (av .f32 zb) bs)) (fun s => .tuple #[s, .bool true]) w (.returned (.tuple #[.slice ao2 bs.length c2, .bool true])) (wr.drewN n)) := Lib.hid (by
          rw [← wkL_of HL.out.1 HL.out.2 hf]
          exact ⟨ao2, c2, rfl, H3.out.1.drewN n, Bel_drewN H3.out.2 n⟩)
        have HF2 := Lib.hid hf
        clear hbf hf
        go_wp2_with fail
        go_ret2
        exact .inl ⟨HF2.out, HF.out⟩
      · have hbt : b = false := by
          cases b with
          | false => rfl
          | true => exact absurd (hbf.1 rfl) hf
        subst hbt
        have HF2 := Lib.hid hf
        clear hbf hf
        go_wp2_with fail
        go_ret2
        exact .inr ⟨HF2.out, rfl, Bel_drewN H3.out.2 n⟩
theorem walkOf_mul_not (n : Nat) (ao : Option Addr) (ca zb : Nat) (F : Value) (w : World) (h : ¬(1 ≤ n ∧ n ≤ 256)) (hl : n ≤ 1048576) :
    Calls Try.prog 71 #[.slice ao n ca, .float .f32 zb, F] w (RetB (.tuple #[.slice none 0 0, .bool false]) w) := by
  by_cases h1 : (n : Int) < 1
  · clear h
    go_enter Try.func71, Try.ntmps71
    go_wp2_with fail
    go_ret2
    exact ⟨rfl, Below.refl _ _⟩
  · have h2 : (256 : Int) < n := by omega
    clear h
    go_enter Try.func71, Try.ntmps71
    go_wp2_with fail
    go_ret2
    exact ⟨rfl, Below.refl _ _⟩
end Go.Proofs.Ytlnhobikejbkkaa
