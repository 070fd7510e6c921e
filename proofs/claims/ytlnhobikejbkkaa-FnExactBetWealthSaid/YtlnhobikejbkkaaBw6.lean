/- BetWealth: both sides. -/
import Derived.Test.YtlnhobikejbkkaaRw
namespace Go.Proofs.Ytlnhobikejbkkaa
open Go Go.RowKit Fl
set_option linter.unusedVariables false

def betH (sh st : Nat) : Option Nat := aop .add .f32 (av .f32 1065353216) (aop .mul .f32 (av .f32 st) (aop .sub .f32 (av .f32 1065353216) (av .f32 sh)))
def betM (sh st : Nat) : Option Nat := aop .sub .f32 (av .f32 1065353216) (aop .mul .f32 (av .f32 st) (av .f32 sh))
def betIn (bs : List Bool) (sh st : Nat) : Prop := (1 ≤ bs.length ∧ bs.length ≤ 256) ∧ partB sh = true ∧ partB st = true
theorem av_1 : av .f32 1065353216 = some 1065353216 := by decide +kernel
set_option maxRecDepth 100000 in
set_option maxHeartbeats 4000000 in
theorem implBet_in (bs : List Bool) (sh st : Nat) (ao : Option Addr) (ca : Nat) (w : World) (hv : betIn bs sh st) (hx : Holds w ao (bl bs)) :
    Calls Try.prog 38 #[.slice ao bs.length ca, .float .f32 sh, .float .f32 st] w (WkR_mul (betH sh st) (betM sh st) (some 1065353216) bs w) := by
  have HX := Lib.hid hx
  have HV := Lib.hid hv
  clear hx hv
  go_enter Try.func38, Try.ntmps38
  go_wp2_with fail
  refine (isWithin_any sh 0 1065353216 _).mono ?_
  rintro e w1 ⟨rfl, rfl⟩
  rw [show (geB sh 0 && leB sh 1065353216) = partB sh from rfl, HV.out.2.1]
  go_wp2_with fail
  refine (isWithin_any st 0 1065353216 _).mono ?_
  rintro e w1 ⟨rfl, rfl⟩
  rw [show (geB st 0 && leB st 1065353216) = partB st from rfl, HV.out.2.2]
  go_wp2_with (first | (refine wpList_farith (dst := some 20) _ _ _ _ _ .f32 1065353216 sh rfl rfl rfl ?_; intro d1 n1 hd1) | (refine wpList_farith (dst := some 21) _ _ _ _ _ .f32 st d1 rfl rfl rfl ?_; intro d2 n2 hd2) | (refine wpList_farith (dst := some 22) _ _ _ _ _ .f32 1065353216 d2 rfl rfl rfl ?_; intro h n3 hh) | (refine wpList_farith (dst := some 25) _ _ _ _ _ .f32 st sh rfl rfl rfl ?_; intro d4 n4 hd4) | (refine wpList_farith (dst := some 26) _ _ _ _ _ .f32 1065353216 d4 rfl rfl rfl ?_; intro m n5 hm; have HH : Hid (av .f32 h = betH sh st) := Lib.hid (by unfold betH; rw [← hd1.2, ← hd2.2]; exact hh.2); have HM : Hid (av .f32 m = betM sh st) := Lib.hid (by unfold betM; rw [← hd4.2]; exact hm.2); clear hd1 hd2 hh hd4 hm; generalize hW : World.drewN _ _ = w1; have hb1 : Below w.heap.size w w1 := (by rw [← hW]; exact (by repeat (first | with_reducible exact Below.refl _ _ | with_reducible exact HBL | with_reducible refine Below.drew ?_ | with_reducible refine Bel_drewN ?_ _ | with_reducible refine Below.alloc ?_ (by first | omega | (simp; done) | (simp; omega)) _ | with_reducible refine Below.setCell ?_ (by first | omega | (simp; done) | (simp; omega)) _))); clear hW; have HB1 := Lib.hid hb1; have HW1 := Lib.hid ((Whole.made w1 23 #[.float .f32 h]).alloc (.cells #[.float .f32 m] 23)); have HW2 := Lib.hid (Whole.made2 w1 (.cells #[.float .f32 h] 23) 23 #[.float .f32 m]); have HB2 : Hid (Below w1.heap.size w1 ((w1.alloc (.cells #[.float .f32 h] 23)).alloc (.cells #[.float .f32 m] 23))) := Lib.hid (by repeat (first | with_reducible exact Below.refl _ _ | with_reducible exact HBL | with_reducible refine Below.drew ?_ | with_reducible refine Bel_drewN ?_ _ | with_reducible refine Below.alloc ?_ (by first | omega | (simp; done) | (simp; omega)) _ | with_reducible refine Below.setCell ?_ (by first | omega | (simp; done) | (simp; omega)) _)); clear hb1; go_wp2_with fail))
  refine (walkOf_mul bs ao ca h m 1065353216 w1.heap.size (w1.heap.size + 1) 23 _ (HX.out.below (Bel_next HB1.out HB2.out)) HV.out.1.1 HV.out.1.2 HW1.out HW2.out).mono ?_
  rintro e w2 hr
  rw [HH.out, HM.out, av_1] at hr
  have HBB := Lib.hid (Bel_next HB1.out HB2.out)
  rcases hr with ⟨hf, ao2, c2, rfl, hrow, hb⟩ | ⟨hf, rfl, hb⟩
  · have H := Lib.hid (And.intro hf (And.intro (hrow.wide HBB.out.size (Nat.le_refl _)) (Bel_next HBB.out hb)))
    clear hf hrow hb
    go_wp2_with fail
    go_ret2
    exact .inl ⟨H.out.1, _, _, rfl, H.out.2⟩
  · have H := Lib.hid (And.intro hf (Bel_next HBB.out hb))
    clear hf hb
    go_wp2_with fail
    go_ret2
    exact .inr ⟨H.out.1, rfl, H.out.2⟩
set_option maxRecDepth 100000 in
set_option maxHeartbeats 4000000 in
theorem implBet_out (bs : List Bool) (sh st : Nat) (ao : Option Addr) (ca : Nat) (w : World) (hv : ¬betIn bs sh st) (hl : bs.length ≤ 1048576) :
    Calls Try.prog 38 #[.slice ao bs.length ca, .float .f32 sh, .float .f32 st] w (RetB (.tuple #[.slice none 0 0, .bool false]) w) := by
  unfold betIn at hv
  cases h1 : partB sh with
  | false =>
    have H1 := Lib.hid h1
    clear hv h1
    go_enter Try.func38, Try.ntmps38
    go_wp2_with fail
    refine (isWithin_any sh 0 1065353216 _).mono ?_
    rintro e w1 ⟨rfl, rfl⟩
    rw [show (geB sh 0 && leB sh 1065353216) = partB sh from rfl, H1.out]
    go_wp2_with fail
    go_ret2
    exact ⟨rfl, Below.refl _ _⟩
  | true =>
    cases h2 : partB st with
    | false =>
      have H1 := Lib.hid (And.intro h1 h2)
      clear hv h1 h2
      go_enter Try.func38, Try.ntmps38
      go_wp2_with fail
      refine (isWithin_any sh 0 1065353216 _).mono ?_
      rintro e w1 ⟨rfl, rfl⟩
      rw [show (geB sh 0 && leB sh 1065353216) = partB sh from rfl, H1.out.1]
      go_wp2_with fail
      refine (isWithin_any st 0 1065353216 _).mono ?_
      rintro e w1 ⟨rfl, rfl⟩
      rw [show (geB st 0 && leB st 1065353216) = partB st from rfl, H1.out.2]
      go_wp2_with fail
      go_ret2
      exact ⟨rfl, Below.refl _ _⟩
    | true =>
      have HL : Hid (¬(1 ≤ bs.length ∧ bs.length ≤ 256)) := Lib.hid (fun h => hv ⟨h, h1, h2⟩)
      have H1 := Lib.hid (And.intro h1 h2)
      clear hv h1 h2
      go_enter Try.func38, Try.ntmps38
      go_wp2_with fail
      refine (isWithin_any sh 0 1065353216 _).mono ?_
      rintro e w1 ⟨rfl, rfl⟩
      rw [show (geB sh 0 && leB sh 1065353216) = partB sh from rfl, H1.out.1]
      go_wp2_with fail
      refine (isWithin_any st 0 1065353216 _).mono ?_
      rintro e w1 ⟨rfl, rfl⟩
      rw [show (geB st 0 && leB st 1065353216) = partB st from rfl, H1.out.2]
      go_wp2_with (first | (refine wpList_farith (dst := some 20) _ _ _ _ _ .f32 1065353216 sh rfl rfl rfl ?_; intro d1 n1 hd1) | (refine wpList_farith (dst := some 21) _ _ _ _ _ .f32 st d1 rfl rfl rfl ?_; intro d2 n2 hd2) | (refine wpList_farith (dst := some 22) _ _ _ _ _ .f32 1065353216 d2 rfl rfl rfl ?_; intro h n3 hh) | (refine wpList_farith (dst := some 25) _ _ _ _ _ .f32 st sh rfl rfl rfl ?_; intro d4 n4 hd4) | (refine wpList_farith (dst := some 26) _ _ _ _ _ .f32 1065353216 d4 rfl rfl rfl ?_; intro m n5 hm; clear hd1 hd2 hh hd4 hm; generalize hW : World.drewN _ _ = w1; have hb1 : Below w.heap.size w w1 := (by rw [← hW]; exact (by repeat (first | with_reducible exact Below.refl _ _ | with_reducible exact HBL | with_reducible refine Below.drew ?_ | with_reducible refine Bel_drewN ?_ _ | with_reducible refine Below.alloc ?_ (by first | omega | (simp; done) | (simp; omega)) _ | with_reducible refine Below.setCell ?_ (by first | omega | (simp; done) | (simp; omega)) _))); clear hW; have HB1 := Lib.hid hb1; have HB2 : Hid (Below w1.heap.size w1 ((w1.alloc (.cells #[.float .f32 h] 23)).alloc (.cells #[.float .f32 m] 23))) := Lib.hid (by repeat (first | with_reducible exact Below.refl _ _ | with_reducible exact HBL | with_reducible refine Below.drew ?_ | with_reducible refine Bel_drewN ?_ _ | with_reducible refine Below.alloc ?_ (by first | omega | (simp; done) | (simp; omega)) _ | with_reducible refine Below.setCell ?_ (by first | omega | (simp; done) | (simp; omega)) _)); clear hb1; go_wp2_with fail))
      refine (walkOf_mul_not bs.length ao ca 1065353216 _ _ HL.out hl).mono ?_
      rintro e w2 ⟨rfl, hb⟩
      have H := Lib.hid (Bel_next (Bel_next HB1.out HB2.out) hb)
      clear hb
      go_wp2_with fail
      go_ret2
      exact ⟨rfl, H.out⟩
set_option maxRecDepth 100000 in
set_option maxHeartbeats 4000000 in
theorem specBet_in (bs : List Bool) (sh st : Nat) (ao : Option Addr) (ca : Nat) (w : World) (hv : betIn bs sh st) (hx : Holds w ao (bl bs)) :
    Calls Try.prog 37 #[.slice ao bs.length ca, .float .f32 sh, .float .f32 st] w (WkR_mul (betH sh st) (betM sh st) (some 1065353216) bs w) := by
  have HX := Lib.hid hx
  have HV := Lib.hid hv
  have h256 := hv.1.2
  clear hx hv
  go_enter Try.func37, Try.ntmps37
  go_wp2_with fail
  refine (l06Bits_any _ _ _ true (decide_eq_true HV.out.1) _).mono ?_
  rintro e w1 ⟨rfl, rfl⟩
  go_wp2_with fail
  refine (l02Part_any sh _).mono ?_
  rintro e w1 ⟨rfl, rfl⟩
  rw [HV.out.2.1]
  go_wp2_with fail
  refine (l02Part_any st _).mono ?_
  rintro e w1 ⟨rfl, rfl⟩
  rw [HV.out.2.2]
  go_wp2_with fail
  go_loopw [8, 9, 10] (fun v a i wr => ∃ (k r : Nat) (ds : List Nat), k ≤ bs.length ∧ i = .int .i64 k ∧ a = .float .f32 r ∧ av .f32 r = wkV .mul (betH sh st) (betM sh st) (some 1065353216) bs k ∧ ds.length = k ∧ (∀ j, j < k → av .f32 (ds[j]?.getD 0) = wkV .mul (betH sh st) (betM sh st) (some 1065353216) bs (j + 1)) ∧ wr.ownsRow w.heap.size 23 1 v k (fl .f32 ds) ∧ Below w.heap.size w wr) (fun _ _ i _ => bs.length - (intOf i).toNat)
  case atStart => exact ⟨0, 1065353216, [], Nat.zero_le _, rfl, rfl, av_1, rfl, fun j hj => absurd hj (Nat.not_lt_zero _), World.ownsRow_made _ _ _ (Nat.le_refl _) (Nat.zero_le _) rfl, (by repeat (first | with_reducible exact Below.refl _ _ | with_reducible exact HBL | with_reducible refine Below.drew ?_ | with_reducible refine Bel_drewN ?_ _ | with_reducible refine Below.alloc ?_ (by first | omega | (simp; done) | (simp; omega)) _ | with_reducible refine Below.setCell ?_ (by first | omega | (simp; done) | (simp; omega)) _))⟩
  case round =>
    obtain ⟨k, r, ds, hk, rfl, rfl, hr, hdl, hds, hown, hbel⟩ := hrel
    have H := Lib.hid (And.intro hown hbel)
    have HD := Lib.hid (And.intro hr (And.intro hdl hds))
    have hzr := hbel.size
    by_cases hlt : k < bs.length
    · obtain ⟨b, o, rfl, hc⟩ := (Holds.below HX.out hbel) k (by simpa [bl] using hlt)
      rw [bl_get _ _ hlt] at hc
      have hlt' : (k : Int) < bs.length := by omega
      clear hr hdl hds hown hbel
      cases hx : bs[k]?.getD false with
      | true =>
        rw [hx] at hc
        have HE := Lib.hid hx
        clear hx
        go_wp2_with (first | (refine wpList_farith (dst := some 38) _ _ _ _ _ .f32 1065353216 sh rfl rfl rfl ?_; intro d1 n1 hd1) | (refine wpList_farith (dst := some 39) _ _ _ _ _ .f32 st d1 rfl rfl rfl ?_; intro d2 n2 hd2) | (refine wpList_farith (dst := some 40) _ _ _ _ _ .f32 1065353216 d2 rfl rfl rfl ?_; intro h n3 hh) | (refine wpList_farith (dst := some 41) _ _ _ _ _ .f32 r h rfl rfl rfl ?_; intro d n4 hd; have HV2 : Hid (av .f32 d = wkV .mul (betH sh st) (betM sh st) (some 1065353216) bs (k + 1)) := Lib.hid (by rw [wkV_yes HE.out, ← HD.out.1]; unfold betH; rw [← hd1.2, ← hd2.2, ← hh.2]; exact hd.2); clear hd hd1 hd2 hh; generalize hW : World.drewN _ _ = wq; have hbq : Below w.heap.size w wq := (by rw [← hW]; have HBL := H.out.2; exact (by repeat (first | with_reducible exact Below.refl _ _ | with_reducible exact HBL | with_reducible refine Below.drew ?_ | with_reducible refine Bel_drewN ?_ _ | with_reducible refine Below.alloc ?_ (by first | omega | (simp; done) | (simp; omega)) _ | with_reducible refine Below.setCell ?_ (by first | omega | (simp; done) | (simp; omega)) _))); have hhq : wq.heap = wr.heap := (by rw [← hW]; rfl); clear hW; have H2 := Lib.hid (And.intro hbq (own_heap H.out.1 hhq)); have hzq := hbq.size; clear hbq hhq; go_wp2_with (at_builtin; refine wpList_app1 rfl _ _ 22 rfl w.heap.size 23 (.float .f32 0) 4 Try.underlying22 (by kernel_rfl) rfl _ k _ rfl (H2.out.2.alloc _) _ _ (.float .f32 d) rfl ?_ rfl ⟨by omega, by omega⟩ ?_ ?_)))
        · exact (Whole.made wq 23 #[.float .f32 d]).cell 0
        · simp; omega
        · intro v' w' hown' hgr'
          have hb2 : Below w.heap.size w w' := by
            have h1 : Below w.heap.size w (wq.alloc (.cells #[.float .f32 d] 23)) := by have HBL := H2.out.1; exact (by repeat (first | with_reducible exact Below.refl _ _ | with_reducible exact HBL | with_reducible refine Below.drew ?_ | with_reducible refine Bel_drewN ?_ _ | with_reducible refine Below.alloc ?_ (by first | omega | (simp; done) | (simp; omega)) _ | with_reducible refine Below.setCell ?_ (by first | omega | (simp; done) | (simp; omega)) _))
            exact h1.grown hgr' (by simp; omega) (own_ge H2.out.2)
          have ho3 : w'.ownsRow w.heap.size 23 1 v' (k + 1) (fl .f32 (ds ++ [d])) := by rw [fl, List.map_append]; exact hown'
          have H3 := Lib.hid (And.intro ho3 hb2)
          clear hown' hgr' hb2 ho3
          go_wp2_with fail
          go_roundw
          case rel =>
            refine ⟨k + 1, d, ds ++ [d], by omega, by go_num, rfl, HV2.out, by rw [List.length_append, HD.out.2.1]; rfl, fun j hj => ?_, H3.out⟩
            by_cases e : j = k
            · subst e
              rw [List.getElem?_append_right (by rw [HD.out.2.1]; exact Nat.le_refl _), HD.out.2.1, Nat.sub_self]
              exact HV2.out
            · rw [List.getElem?_append_left (by rw [HD.out.2.1]; omega)]
              exact HD.out.2.2 j (by omega)
          case measure => simp [intOf]; omega
      | false =>
        rw [hx] at hc
        have HE := Lib.hid hx
        clear hx
        go_wp2_with (first | (refine wpList_farith (dst := some 45) _ _ _ _ _ .f32 st sh rfl rfl rfl ?_; intro d1 n1 hd1) | (refine wpList_farith (dst := some 46) _ _ _ _ _ .f32 1065353216 d1 rfl rfl rfl ?_; intro h n3 hh) | (refine wpList_farith (dst := some 47) _ _ _ _ _ .f32 r h rfl rfl rfl ?_; intro d n4 hd; have HV2 : Hid (av .f32 d = wkV .mul (betH sh st) (betM sh st) (some 1065353216) bs (k + 1)) := Lib.hid (by rw [wkV_no HE.out, ← HD.out.1]; unfold betM; rw [← hd1.2, ← hh.2]; exact hd.2); clear hd hd1 hh; generalize hW : World.drewN _ _ = wq; have hbq : Below w.heap.size w wq := (by rw [← hW]; have HBL := H.out.2; exact (by repeat (first | with_reducible exact Below.refl _ _ | with_reducible exact HBL | with_reducible refine Below.drew ?_ | with_reducible refine Bel_drewN ?_ _ | with_reducible refine Below.alloc ?_ (by first | omega | (simp; done) | (simp; omega)) _ | with_reducible refine Below.setCell ?_ (by first | omega | (simp; done) | (simp; omega)) _))); have hhq : wq.heap = wr.heap := (by rw [← hW]; rfl); clear hW; have H2 := Lib.hid (And.intro hbq (own_heap H.out.1 hhq)); have hzq := hbq.size; clear hbq hhq; go_wp2_with (at_builtin; refine wpList_app1 rfl _ _ 22 rfl w.heap.size 23 (.float .f32 0) 4 Try.underlying22 (by kernel_rfl) rfl _ k _ rfl (H2.out.2.alloc _) _ _ (.float .f32 d) rfl ?_ rfl ⟨by omega, by omega⟩ ?_ ?_)))
        · exact (Whole.made wq 23 #[.float .f32 d]).cell 0
        · simp; omega
        · intro v' w' hown' hgr'
          have hb2 : Below w.heap.size w w' := by
            have h1 : Below w.heap.size w (wq.alloc (.cells #[.float .f32 d] 23)) := by have HBL := H2.out.1; exact (by repeat (first | with_reducible exact Below.refl _ _ | with_reducible exact HBL | with_reducible refine Below.drew ?_ | with_reducible refine Bel_drewN ?_ _ | with_reducible refine Below.alloc ?_ (by first | omega | (simp; done) | (simp; omega)) _ | with_reducible refine Below.setCell ?_ (by first | omega | (simp; done) | (simp; omega)) _))
            exact h1.grown hgr' (by simp; omega) (own_ge H2.out.2)
          have ho3 : w'.ownsRow w.heap.size 23 1 v' (k + 1) (fl .f32 (ds ++ [d])) := by rw [fl, List.map_append]; exact hown'
          have H3 := Lib.hid (And.intro ho3 hb2)
          clear hown' hgr' hb2 ho3
          go_wp2_with fail
          go_roundw
          case rel =>
            refine ⟨k + 1, d, ds ++ [d], by omega, by go_num, rfl, HV2.out, by rw [List.length_append, HD.out.2.1]; rfl, fun j hj => ?_, H3.out⟩
            by_cases e : j = k
            · subst e
              rw [List.getElem?_append_right (by rw [HD.out.2.1]; exact Nat.le_refl _), HD.out.2.1, Nat.sub_self]
              exact HV2.out
            · rw [List.getElem?_append_left (by rw [HD.out.2.1]; omega)]
              exact HD.out.2.2 j (by omega)
          case measure => simp [intOf]; omega
    · have e : k = bs.length := by omega
      obtain ⟨ao2, c2, rfl⟩ := own_form hown
      have H3 := Lib.hid (And.intro (Row.of_own hown) hbel)
      have HL : Hid (ds.length = bs.length ∧ ∀ j, j < bs.length → av .f32 (ds[j]?.getD 0) = wkV .mul (betH sh st) (betM sh st) (some 1065353216) bs (j + 1)) := Lib.hid ⟨by omega, fun j hj => hds j (by omega)⟩
      subst e
      clear hr hdl hds hown hbel H HD
      by_cases hf : wkFin .mul (betH sh st) (betM sh st) (some 1065353216) bs
      · have HF := Lib.hid hf
        clear hf
        go_wp2_with fail
        refine (l02List_yes ds _ HL.out.1 ao2 _ _ H3.out.1.holds (by omega) ((wkFin_iff HL.out.1 HL.out.2).2 HF.out)).mono ?_
        rintro e w1 ⟨rfl, hb⟩
        have HR : Hid (RetL bs.length (fl .f32 (wkL .mul (betH sh st) (betM sh st) (some 1065353216) bs)) (fun s => .tuple #[s, .bool true]) w (.returned (.tuple #[.slice ao2 bs.length c2, .bool true])) w1) := Lib.hid (by
          rw [← wkL_of HL.out.1 HL.out.2 HF.out]
          exact ⟨ao2, c2, rfl, (H3.out.1.below hb).wide (Nat.le_refl _) hb.size, Bel_next H3.out.2 hb⟩)
        clear hb
        go_wp2_with fail
        go_ret2
        exact .inl ⟨HF.out, HR.out⟩
      · have HF := Lib.hid hf
        clear hf
        go_wp2_with fail
        refine (l02List_no ds _ HL.out.1 ao2 _ _ H3.out.1.holds (by omega) (fun h => HF.out ((wkFin_iff HL.out.1 HL.out.2).1 h))).mono ?_
        rintro e w1 ⟨rfl, hb⟩
        have HB := Lib.hid (Bel_next H3.out.2 hb)
        clear hb
        go_wp2_with fail
        go_ret2
        exact .inr ⟨HF.out, rfl, HB.out⟩
theorem specBet_out (bs : List Bool) (sh st : Nat) (ao : Option Addr) (ca : Nat) (w : World) (hv : ¬betIn bs sh st) (hl : bs.length ≤ 1048576) :
    Calls Try.prog 37 #[.slice ao bs.length ca, .float .f32 sh, .float .f32 st] w (RetB (.tuple #[.slice none 0 0, .bool false]) w) := by
  unfold betIn at hv
  by_cases h0 : 1 ≤ bs.length ∧ bs.length ≤ 256
  · have H0 := Lib.hid (decide_eq_true h0)
    cases h1 : partB sh with
    | false =>
      have H1 := Lib.hid h1
      clear hv h1 h0
      go_enter Try.func37, Try.ntmps37
      go_wp2_with fail
      refine (l06Bits_any _ _ _ _ H0.out _).mono ?_
      rintro e w1 ⟨rfl, rfl⟩
      go_wp2_with fail
      refine (l02Part_any sh _).mono ?_
      rintro e w1 ⟨rfl, rfl⟩
      rw [H1.out]
      go_wp2_with fail
      go_ret2
      exact ⟨rfl, Below.refl _ _⟩
    | true =>
      have H1 := Lib.hid h1
      have H2 : Hid (partB st = false) := Lib.hid (by cases h : partB st with | false => rfl | true => exact absurd ⟨h0, h1, h⟩ hv)
      clear hv h1 h0
      go_enter Try.func37, Try.ntmps37
      go_wp2_with fail
      refine (l06Bits_any _ _ _ _ H0.out _).mono ?_
      rintro e w1 ⟨rfl, rfl⟩
      go_wp2_with fail
      refine (l02Part_any sh _).mono ?_
      rintro e w1 ⟨rfl, rfl⟩
      rw [H1.out]
      go_wp2_with fail
      refine (l02Part_any st _).mono ?_
      rintro e w1 ⟨rfl, rfl⟩
      rw [H2.out]
      go_wp2_with fail
      go_ret2
      exact ⟨rfl, Below.refl _ _⟩
  · have H0 := Lib.hid (decide_eq_false h0)
    clear hv h0
    go_enter Try.func37, Try.ntmps37
    go_wp2_with fail
    refine (l06Bits_any _ _ _ _ H0.out _).mono ?_
    rintro e w1 ⟨rfl, rfl⟩
    go_wp2_with fail
    go_ret2
    exact ⟨rfl, Below.refl _ _⟩
/-- All that BetWealth asks. -/
def betC (bs : List Bool) (sh st : Nat) : Prop := betIn bs sh st ∧ wkFin .mul (betH sh st) (betM sh st) (some 1065353216) bs
def betL (bs : List Bool) (sh st : Nat) : List Nat := wkL .mul (betH sh st) (betM sh st) (some 1065353216) bs
theorem implBet_yes (bs : List Bool) (sh st : Nat) (ao : Option Addr) (ca : Nat) (w : World) (hv : betC bs sh st) (hx : Holds w ao (bl bs)) :
    Calls Try.prog 38 #[.slice ao bs.length ca, .float .f32 sh, .float .f32 st] w (RetL bs.length (fl .f32 (betL bs sh st)) (fun s => .tuple #[s, .bool true]) w) :=
  (implBet_in bs sh st ao ca w hv.1 hx).mono fun e w' h => WkR_mul.yes hv.2 h
theorem implBet_no (bs : List Bool) (sh st : Nat) (ao : Option Addr) (ca : Nat) (w : World) (hv : ¬betC bs sh st) (hx : Holds w ao (bl bs)) (hl : bs.length ≤ 1048576) :
    Calls Try.prog 38 #[.slice ao bs.length ca, .float .f32 sh, .float .f32 st] w (RetB (.tuple #[.slice none 0 0, .bool false]) w) := by
  by_cases h : betIn bs sh st
  · exact (implBet_in bs sh st ao ca w h hx).mono fun e w' hr => WkR_mul.no (fun hf => hv ⟨h, hf⟩) hr
  · exact implBet_out bs sh st ao ca w h hl
theorem specBet_yes (bs : List Bool) (sh st : Nat) (ao : Option Addr) (ca : Nat) (w : World) (hv : betC bs sh st) (hx : Holds w ao (bl bs)) :
    Calls Try.prog 37 #[.slice ao bs.length ca, .float .f32 sh, .float .f32 st] w (RetL bs.length (fl .f32 (betL bs sh st)) (fun s => .tuple #[s, .bool true]) w) :=
  (specBet_in bs sh st ao ca w hv.1 hx).mono fun e w' h => WkR_mul.yes hv.2 h
theorem specBet_no (bs : List Bool) (sh st : Nat) (ao : Option Addr) (ca : Nat) (w : World) (hv : ¬betC bs sh st) (hx : Holds w ao (bl bs)) (hl : bs.length ≤ 1048576) :
    Calls Try.prog 37 #[.slice ao bs.length ca, .float .f32 sh, .float .f32 st] w (RetB (.tuple #[.slice none 0 0, .bool false]) w) := by
  by_cases h : betIn bs sh st
  · exact (specBet_in bs sh st ao ca w h hx).mono fun e w' hr => WkR_mul.no (fun hf => hv ⟨h, hf⟩) hr
  · exact specBet_out bs sh st ao ca w h hl
end Go.Proofs.Ytlnhobikejbkkaa
