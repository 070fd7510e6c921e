/- Texts of tables: both sides. -/
import Derived.Test.YtfgkimhcbboipaaDoorLtx
import Derived.Test.YtfgkimhcbboipaaDoorTab
import Derived.Deep.RegionHeld3
namespace Go.Proofs.YtfgkimhcbboipaaDoor
open Go Go.RowKit
set_option linter.unusedVariables false
/-- The text of a table. -/
def txtT (r c : Int) (xs : List Int) : List UInt8 := (txtL [r, c] ++ [59]) ++ txtL xs
theorem sides_ok {r c : Int} {xs : List Int} (h : isTab r c xs) : okI [r, c] ∧ in64 [r, c] := by
  have h1 := h.rows
  have h2 := h.columns
  refine ⟨⟨by simp, fun i hi => ?_⟩, fun x hx => ?_⟩
  · match i, hi with
    | 0, _ => show -1000000000000000 ≤ r ∧ r ≤ 1000000000000000; omega
    | 1, _ => show -1000000000000000 ≤ c ∧ c ≤ 1000000000000000; omega
  · simp only [List.mem_cons, List.mem_nil_iff, or_false] at hx
    rcases hx with rfl | rfl <;> omega
theorem counts_ok {r c : Int} {xs : List Int} (h : isTab r c xs) : okI xs ∧ in64 xs ∧ xs.length ≤ 64 := by
  have h1 := mul_side h.rows h.columns
  have h2 := h.len
  have h3 := h.counts
  refine ⟨⟨by omega, fun i hi => ?_⟩, fun x hx => ?_, by omega⟩
  · have := h3 i hi; omega
  · obtain ⟨i, hi, rfl⟩ := List.getElem_of_mem hx
    have := h3 i hi
    rw [List.getElem?_eq_getElem hi] at this
    have h4 : 0 ≤ xs[i] ∧ xs[i] ≤ 60 := this
    omega
theorem txtL_len2 {xs : List Int} (h : in64 xs) (hl : xs.length ≤ 64) : (txtL xs).length ≤ 1408 := by
  unfold txtL
  split
  · decide
  · have := jn_len h xs.length; omega
theorem two_holds {w : World} {g : Nat} {T : TypeId} {r c : Int} (h : Whole w g T #[.int .i64 r, .int .i64 c]) : Holds w (some ⟨g, 0, none⟩) (il [r, c]) := fun i hi => by
  refine ⟨g, 0, rfl, ?_⟩
  rw [Nat.zero_add, h.cell]
  match i, hi with
  | 0, _ => rfl
  | 1, _ => rfl
set_option maxRecDepth 100000 in
set_option maxHeartbeats 1000000 in
theorem implTableText_yes (r c : Int) (xs : List Int) (n : Nat) (hn : xs.length = n) (ao : Option Addr) (ca : Nat) (w : World) (hx : Holds w ao (il xs)) (h : isTab r c xs) (hT : Pow10 w) :
    Calls Tryd.prog 49 #[.agg #[.int .i64 r, .int .i64 c, .slice ao n ca]] w (RetB (.tuple #[.string ⟨(txtT r c xs).toArray⟩, .bool true]) w) := by
  have HX := Lib.hid (And.intro hx (And.intro hn (And.intro h hT)))
  have hln := (counts_ok h).2.2
  have hl1 := txtL_len2 (sides_ok h).2 (by simp)
  have hl2 := txtL_len2 (counts_ok h).2.1 (counts_ok h).2.2
  have ha1 : ∀ w, (Op.stringOp .add ⟨(txtL [r, c]).toArray⟩ ⟨#[59]⟩).run Tryd.prog w = .ok (.string ⟨(txtL [r, c] ++ [59]).toArray⟩) w := fun w => add_run _ [59] (by simp; omega) w
  have ha2 : ∀ w, (Op.stringOp .add ⟨(txtL [r, c] ++ [59]).toArray⟩ ⟨(txtL xs).toArray⟩).run Tryd.prog w = .ok (.string ⟨(txtT r c xs).toArray⟩) w := fun w => add_run _ _ (by simp; omega) w
  clear hx hn h hT hl1 hl2
  go_enter Tryd.func49, Tryd.ntmps49
  go_wp2_with (first | (go_at_call 88; fail))
  generalize hW : World.alloc w _ = w0
  have H0 : Hid (Below w.heap.size w w0 ∧ Whole w0 w.heap.size 63 #[.int .i64 r, .int .i64 c, .slice ao n ca]) := Lib.hid (by rw [← hW]; exact ⟨(by repeat (first | with_reducible exact Below.refl _ _ | with_reducible exact HBL | with_reducible refine Below.drew ?_ | with_reducible refine Bel_drewN ?_ _ | with_reducible refine Below.alloc ?_ (by first | omega | (simp; done) | (simp; omega)) _ | with_reducible refine Below.setCell ?_ (by first | omega | (simp; done) | (simp; omega)) _)), Whole.made _ _ _⟩)
  clear hW
  refine (implValidTable_any r c xs n HX.out.2.1 ao ca _ (HX.out.1.below H0.out.1) (by have := HX.out.2.1; omega)).mono ?_
  rintro e w1 ⟨rfl, hb⟩
  rw [tabB_yes HX.out.2.2.1]
  have H1 := Lib.hid (And.intro (Bel_next H0.out.1 hb) (H0.out.2.below hb))
  clear hb H0
  obtain ⟨hc0, hf0⟩ := H1.out.2.facts
  have hz0 := H1.out.2.lt
  have hsz := H1.out.1.size
  go_wp2_with (first | (go_at_call 21; fail))
  refine (implListText_yes [r, c] (by simp) (sides_ok HX.out.2.2.1).2 _ 2 _ (two_holds (Whole.made w1 _ _)) (HX.out.2.2.2.below (H1.out.1.alloc hsz _)) (sides_ok HX.out.2.2.1).1).mono ?_
  rintro e w2 ⟨rfl, hb⟩
  have H2 := Lib.hid (And.intro (Bel_next (H1.out.1.alloc hsz _) hb) ((H1.out.2.alloc _).below hb))
  clear hb hc0 hf0 hz0
  obtain ⟨hc0, hf0⟩ := H2.out.2.facts
  have hz0 := H2.out.2.lt
  go_wp2_with (first | (go_at_call 21; fail))
  have hLT : ∀ w', Holds w' ao (il xs) → Pow10 w' → Calls Tryd.prog 21 #[.slice ao n ca] w' (RetB (.tuple #[.string ⟨(txtL xs).toArray⟩, .bool true]) w') := fun w' h1 h2 => by
    have := implListText_yes xs (by have := HX.out.2.1; omega) (counts_ok HX.out.2.2.1).2.1 ao ca w' h1 h2 (counts_ok HX.out.2.2.1).1
    rw [HX.out.2.1] at this
    exact this
  refine (hLT _ (HX.out.1.below H2.out.1) (HX.out.2.2.2.below H2.out.1)).mono ?_
  rintro e w3 ⟨rfl, hb⟩
  have H3 := Lib.hid (Bel_next H2.out.1 hb)
  clear hb
  go_wp2_with fail
  go_ret2
  exact ⟨rfl, H3.out⟩
theorem implTableText_no (r c : Int) (xs : List Int) (n : Nat) (hn : xs.length = n) (hl : n ≤ 1048576) (ao : Option Addr) (ca : Nat) (w : World) (hx : Holds w ao (il xs)) (h : ¬ isTab r c xs) :
    Calls Tryd.prog 49 #[.agg #[.int .i64 r, .int .i64 c, .slice ao n ca]] w (RetB (.tuple #[.string ⟨#[]⟩, .bool false]) w) := by
  have HX := Lib.hid (And.intro hx (And.intro hn h))
  clear hx hn h
  go_enter Tryd.func49, Tryd.ntmps49
  go_wp2_with (first | (go_at_call 88; fail))
  generalize hW : World.alloc w _ = w0
  have H0 : Hid (Below w.heap.size w w0 ∧ Whole w0 w.heap.size 63 #[.int .i64 r, .int .i64 c, .slice ao n ca]) := Lib.hid (by rw [← hW]; exact ⟨(by repeat (first | with_reducible exact Below.refl _ _ | with_reducible exact HBL | with_reducible refine Below.drew ?_ | with_reducible refine Bel_drewN ?_ _ | with_reducible refine Below.alloc ?_ (by first | omega | (simp; done) | (simp; omega)) _ | with_reducible refine Below.setCell ?_ (by first | omega | (simp; done) | (simp; omega)) _)), Whole.made _ _ _⟩)
  clear hW
  refine (implValidTable_any r c xs n HX.out.2.1 ao ca _ (HX.out.1.below H0.out.1) hl).mono ?_
  rintro e w1 ⟨rfl, hb⟩
  rw [tabB_no HX.out.2.2]
  have H1 := Lib.hid (Bel_next H0.out.1 hb)
  clear hb H0
  go_wp2_with fail
  go_ret2
  exact ⟨rfl, H1.out⟩
set_option maxRecDepth 100000 in
set_option maxHeartbeats 4000000 in
theorem l08Table_any (r c : Int) (xs : List Int) (n : Nat) (hn : xs.length = n) (ao : Option Addr) (ca g : Nat) (w : World) (hW : Whole w g 63 #[.int .i64 r, .int .i64 c, .slice ao n ca]) (hx : Holds w ao (il xs)) (h : isTab r c xs) :
    Calls Tryd.prog 87 #[.pointer (some ⟨g, 0, none⟩)] w (RetB (.string ⟨(txtT r c xs).toArray⟩) w) := by
  have HX := Lib.hid (And.intro hx (And.intro hn h))
  have hln : n ≤ 64 := by have := (counts_ok h).2.2; omega
  have hl1 := txtL_len2 (sides_ok h).2 (by simp)
  have hl2 := txtL_len2 (counts_ok h).2.1 (counts_ok h).2.2
  have ha1 : ∀ w, (Op.stringOp .add ⟨(txtL [r, c]).toArray⟩ ⟨#[59]⟩).run Tryd.prog w = .ok (.string ⟨(txtL [r, c] ++ [59]).toArray⟩) w := fun w => add_run _ [59] (by simp; omega) w
  have ha2 : ∀ w, (Op.stringOp .add ⟨(txtL [r, c] ++ [59]).toArray⟩ ⟨(txtL xs).toArray⟩).run Tryd.prog w = .ok (.string ⟨(txtT r c xs).toArray⟩) w := fun w => add_run _ _ (by simp; omega) w
  have hR : w.cell? ⟨g, 0, none⟩ = some (.int .i64 r) ∧ w.cell? ⟨g, 1, none⟩ = some (.int .i64 c) ∧ w.cell? ⟨g, 2, none⟩ = some (.slice ao n ca) ∧ Holds w ao (il xs) ∧ Below w.heap.size w w := ⟨hW.cell 0, hW.cell 1, hW.cell 2, hx, Below.refl _ _⟩
  have HK : Hid (∀ v v' : World, (v.cell? ⟨g, 0, none⟩ = some (.int .i64 r) ∧ v.cell? ⟨g, 1, none⟩ = some (.int .i64 c) ∧ v.cell? ⟨g, 2, none⟩ = some (.slice ao n ca) ∧ Holds v ao (il xs) ∧ Below w.heap.size w v) → Below v.heap.size v v' → (v'.cell? ⟨g, 0, none⟩ = some (.int .i64 r) ∧ v'.cell? ⟨g, 1, none⟩ = some (.int .i64 c) ∧ v'.cell? ⟨g, 2, none⟩ = some (.slice ao n ca) ∧ Holds v' ao (il xs) ∧ Below w.heap.size w v')) := Lib.hid (fun v v' h hb => ⟨by rw [Below.cell hb (World.block_lt_of_cell? _ _ h.1)]; exact h.1, by rw [Below.cell hb (World.block_lt_of_cell? _ _ h.2.1)]; exact h.2.1, by rw [Below.cell hb (World.block_lt_of_cell? _ _ h.2.2.1)]; exact h.2.2.1, h.2.2.2.1.below hb, Bel_next h.2.2.2.2 hb⟩)
  have HT1 : Hid (∀ v : World, Calls Tryd.prog 63 #[.slice (some ⟨v.heap.size, 0, none⟩) 2 2] (v.alloc (.cells #[.int .i64 r, .int .i64 c] 2)) (RetB (.string ⟨(txtL [r, c]).toArray⟩) (v.alloc (.cells #[.int .i64 r, .int .i64 c] 2)))) := Lib.hid (fun v => l01Text_any [r, c] 2 rfl (by omega) (sides_ok h).2 _ 2 _ (two_holds (Whole.made v _ _)))
  have HT2 : Hid (∀ v : World, Calls Tryd.prog 63 #[.slice (some ⟨v.heap.size, 0, none⟩) 2 2] (v.alloc (.cells #[.int .i64 r, .int .i64 c] 2)).drew (RetB (.string ⟨(txtL [r, c]).toArray⟩) (v.alloc (.cells #[.int .i64 r, .int .i64 c] 2)).drew)) := Lib.hid (fun v => l01Text_any [r, c] 2 rfl (by omega) (sides_ok h).2 _ 2 _ (two_holds (Whole.made v _ _).drew))
  clear hx hn h hl1 hl2 hW
  go_enter Tryd.func87, Tryd.ntmps87
  go_wp2_with fail
  go_region_held3 (fun v => v.cell? ⟨g, 0, none⟩ = some (.int .i64 r) ∧ v.cell? ⟨g, 1, none⟩ = some (.int .i64 c) ∧ v.cell? ⟨g, 2, none⟩ = some (.slice ao n ca) ∧ Holds v ao (il xs) ∧ Below w.heap.size w v)
    (first | assumption | with_reducible exact HSu | with_reducible exact HSt | exact HK.out _ _ (by with_reducible assumption) (by with_reducible assumption) | ((with_reducible refine HK.out wu _ HSu ?_); (repeat (first | with_reducible exact Below.refl _ _ | with_reducible refine Below.drew ?_ | with_reducible refine Bel_drewN ?_ _ | with_reducible refine Below.alloc ?_ (by first | omega | (simp; done) | (simp; omega)) _)); done) | ((with_reducible refine HK.out wt _ HSt ?_); (repeat (first | with_reducible exact Below.refl _ _ | with_reducible refine Below.drew ?_ | with_reducible refine Bel_drewN ?_ _ | with_reducible refine Below.alloc ?_ (by first | omega | (simp; done) | (simp; omega)) _)); done) | ((with_reducible refine HK.out w _ hR ?_); (repeat (first | with_reducible exact Below.refl _ _ | with_reducible refine Below.drew ?_ | with_reducible refine Bel_drewN ?_ _ | with_reducible refine Below.alloc ?_ (by first | omega | (simp; done) | (simp; omega)) _)); done))
    (first
      | (go_at_call 63; (with_reducible refine (HT1.out _).mono ?_); rintro e wt ⟨rfl, hbt⟩; have HSt := HK.out w wt hR (Bel_next (by repeat (first | with_reducible exact Below.refl _ _ | with_reducible refine Below.drew ?_ | with_reducible refine Bel_drewN ?_ _ | with_reducible refine Below.alloc ?_ (by first | omega | (simp; done) | (simp; omega)) _)) hbt))
      | (go_at_call 63; (with_reducible refine (HT2.out _).mono ?_); rintro e wt ⟨rfl, hbt⟩; have HSt := HK.out w wt hR (Bel_next (by repeat (first | with_reducible exact Below.refl _ _ | with_reducible refine Below.drew ?_ | with_reducible refine Bel_drewN ?_ _ | with_reducible refine Below.alloc ?_ (by first | omega | (simp; done) | (simp; omega)) _)) hbt))
      | (go_at_call 63; (with_reducible refine (l01Text_any xs n HX.out.2.1 hln (counts_ok HX.out.2.2).2.1 ao ca _ ?_).mono ?_); (first | assumption | exact HSt.2.2.2.1 | (refine Holds.below HSt.2.2.2.1 ?_; (repeat (first | with_reducible exact Below.refl _ _ | with_reducible refine Below.drew ?_ | with_reducible refine Bel_drewN ?_ _ | with_reducible refine Below.alloc ?_ (by first | omega | (simp; done) | (simp; omega)) _)); done)); rintro e wu ⟨rfl, hbu⟩; have HSu := HK.out wt wu HSt (Bel_next (by repeat (first | with_reducible exact Below.refl _ _ | with_reducible refine Below.drew ?_ | with_reducible refine Bel_drewN ?_ _)) hbu)))
  all_goals
    have HBL := HSu.2.2.2.2
    go_wp2_with fail
    go_ret
    exact ⟨rfl, (by repeat (first | with_reducible exact Below.refl _ _ | with_reducible exact HBL | with_reducible refine Below.drew ?_ | with_reducible refine Bel_drewN ?_ _ | with_reducible refine Below.alloc ?_ (by first | omega | (simp; done) | (simp; omega)) _ | with_reducible refine Below.setCell ?_ (by first | omega | (simp; done) | (simp; omega)) _))⟩
theorem specTableText_yes (r c : Int) (xs : List Int) (n : Nat) (hn : xs.length = n) (ao : Option Addr) (ca : Nat) (w : World) (hx : Holds w ao (il xs)) (h : isTab r c xs) :
    Calls Tryd.prog 47 #[.agg #[.int .i64 r, .int .i64 c, .slice ao n ca]] w (RetB (.tuple #[.string ⟨(txtT r c xs).toArray⟩, .bool true]) w) := by
  have HX := Lib.hid (And.intro hx (And.intro hn h))
  have hln : n ≤ 64 := by have := (counts_ok h).2.2; omega
  clear hx hn h
  go_enter Tryd.func47, Tryd.ntmps47
  go_wp2_with (first | (go_at_call 86; fail))
  generalize hW : World.alloc w _ = w0
  have H0 : Hid (Below w.heap.size w w0 ∧ Whole w0 w.heap.size 63 #[.int .i64 r, .int .i64 c, .slice ao n ca]) := Lib.hid (by rw [← hW]; exact ⟨(by repeat (first | with_reducible exact Below.refl _ _ | with_reducible exact HBL | with_reducible refine Below.drew ?_ | with_reducible refine Bel_drewN ?_ _ | with_reducible refine Below.alloc ?_ (by first | omega | (simp; done) | (simp; omega)) _ | with_reducible refine Below.setCell ?_ (by first | omega | (simp; done) | (simp; omega)) _)), Whole.made _ _ _⟩)
  clear hW
  refine (l06Is_any r c xs n HX.out.2.1 ao ca _ _ _ H0.out.2 (HX.out.1.below H0.out.1) (by omega)).mono ?_
  rintro e w1 ⟨rfl, hb⟩
  rw [tabB_yes HX.out.2.2]
  have H1 := Lib.hid (And.intro (Bel_next H0.out.1 hb) (H0.out.2.below hb))
  clear hb H0
  go_wp2_with (first | (go_at_call 87; fail))
  refine (l08Table_any r c xs n HX.out.2.1 ao ca _ _ H1.out.2 (HX.out.1.below H1.out.1) HX.out.2.2).mono ?_
  rintro e w2 ⟨rfl, hb⟩
  have H2 := Lib.hid (Bel_next H1.out.1 hb)
  clear hb
  go_wp2_with fail
  go_ret2
  exact ⟨rfl, H2.out⟩
theorem specTableText_no (r c : Int) (xs : List Int) (n : Nat) (hn : xs.length = n) (hl : n ≤ 1048576) (ao : Option Addr) (ca : Nat) (w : World) (hx : Holds w ao (il xs)) (h : ¬ isTab r c xs) :
    Calls Tryd.prog 47 #[.agg #[.int .i64 r, .int .i64 c, .slice ao n ca]] w (RetB (.tuple #[.string ⟨#[]⟩, .bool false]) w) := by
  have HX := Lib.hid (And.intro hx (And.intro hn h))
  clear hx hn h
  go_enter Tryd.func47, Tryd.ntmps47
  go_wp2_with (first | (go_at_call 86; fail))
  generalize hW : World.alloc w _ = w0
  have H0 : Hid (Below w.heap.size w w0 ∧ Whole w0 w.heap.size 63 #[.int .i64 r, .int .i64 c, .slice ao n ca]) := Lib.hid (by rw [← hW]; exact ⟨(by repeat (first | with_reducible exact Below.refl _ _ | with_reducible exact HBL | with_reducible refine Below.drew ?_ | with_reducible refine Bel_drewN ?_ _ | with_reducible refine Below.alloc ?_ (by first | omega | (simp; done) | (simp; omega)) _ | with_reducible refine Below.setCell ?_ (by first | omega | (simp; done) | (simp; omega)) _)), Whole.made _ _ _⟩)
  clear hW
  refine (l06Is_any r c xs n HX.out.2.1 ao ca _ _ _ H0.out.2 (HX.out.1.below H0.out.1) hl).mono ?_
  rintro e w1 ⟨rfl, hb⟩
  rw [tabB_no HX.out.2.2]
  have H1 := Lib.hid (Bel_next H0.out.1 hb)
  clear hb H0
  go_wp2_with fail
  go_ret2
  exact ⟨rfl, H1.out⟩
end Go.Proofs.YtfgkimhcbboipaaDoor
