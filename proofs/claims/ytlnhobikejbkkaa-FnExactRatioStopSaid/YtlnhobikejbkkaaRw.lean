/- RatioWalk and BetWealth: both sides. -/
import Derived.Test.YtlnhobikejbkkaaWk
namespace Go.Proofs.Ytlnhobikejbkkaa
open Go Go.RowKit Fl
set_option linter.unusedVariables false

/-- Between 0 and 1. -/
def insB (x : Nat) : Bool := gtB x 0 && ltB x 1065353216
theorem isInside_any (x : Nat) (w : World) : Calls Try.prog 69 #[.float .f32 x] w (fun e w' => e = .returned (.bool (insB x)) ∧ w = w') := by
  cases hg : gtB x 0 with
  | true =>
    have hp : insB x = ltB x 1065353216 := by unfold insB; rw [hg]; rfl
    have HP := Lib.hid hp
    have hg' : (FloatKind.f32.format.order x 0 == some Ordering.gt) = true := hg
    clear hg hp
    go_enter Try.func69, Try.ntmps69
    go_wp2
    go_ret
    exact ⟨by rw [HP.out]; rfl, rfl⟩
  | false =>
    have hp : insB x = false := by unfold insB; rw [hg]; rfl
    have HP := Lib.hid hp
    have hg' : (FloatKind.f32.format.order x 0 == some Ordering.gt) = false := hg
    clear hg hp
    go_enter Try.func69, Try.ntmps69
    go_wp2
    go_ret
    exact ⟨by rw [HP.out]; rfl, rfl⟩
theorem l06Open_any (x : Nat) (w : World) : Calls Try.prog 66 #[.float .f32 x] w (fun e w' => e = .returned (.bool (insB x)) ∧ w = w') := by
  cases hg : gtB x 0 with
  | true =>
    have hp : insB x = ltB x 1065353216 := by unfold insB; rw [hg]; rfl
    have HP := Lib.hid hp
    have hg' : (FloatKind.f32.format.order x 0 == some Ordering.gt) = true := hg
    clear hg hp
    go_enter Try.func66, Try.ntmps66
    go_wp2
    go_ret
    exact ⟨by rw [HP.out]; rfl, rfl⟩
  | false =>
    have hp : insB x = false := by unfold insB; rw [hg]; rfl
    have HP := Lib.hid hp
    have hg' : (FloatKind.f32.format.order x 0 == some Ordering.gt) = false := hg
    clear hg hp
    go_enter Try.func66, Try.ntmps66
    go_wp2
    go_ret
    exact ⟨by rw [HP.out]; rfl, rfl⟩
/-- The logarithm of what may be no number. -/
noncomputable def logA : Option Nat → Option Nat
  | none => none
  | some q => logV q
theorem implLogA {v : Option Nat} {r : Nat} (h : Fv .f32 v r) (w : World) : Calls Try.prog 70 #[.float .f32 r] w (Num32 (logA v) w) := by
  cases v with
  | none => exact implLog_neg r w (.inl h.2)
  | some q =>
    have e := Fv_some h
    subst e
    exact implLog_any r h.1 w
theorem specLogA {v : Option Nat} {r : Nat} (h : Fv .f32 v r) (w : World) : Calls Try.prog 67 #[.float .f32 r] w (Num32 (logA v) w) := by
  cases v with
  | none => exact l01Log_of r none w (.inl rfl) (fun r' w hr => logWide_neg r r' hr w (.inl h.2))
  | some q =>
    have e := Fv_some h
    subst e
    exact l01Log_any r h.1 w
theorem own_heap {w wq : World} {base : Nat} {e : TypeId} {size : Nat} {v : Value} {n : Nat} {xs : List Value} (h : w.ownsRow base e size v n xs) (he : wq.heap = w.heap) : wq.ownsRow base e size v n xs := by
  unfold World.ownsRow at h ⊢
  rw [he]; exact h
noncomputable def ratH (lo hi : Nat) : Option Nat := logA (aop .quo .f32 (av .f32 hi) (av .f32 lo))
noncomputable def ratM (lo hi : Nat) : Option Nat := logA (aop .quo .f32 (aop .sub .f32 (av .f32 1065353216) (av .f32 hi)) (aop .sub .f32 (av .f32 1065353216) (av .f32 lo)))
def ratIn (bs : List Bool) (lo hi : Nat) : Prop := (1 ≤ bs.length ∧ bs.length ≤ 256) ∧ insB lo = true ∧ insB hi = true
set_option maxRecDepth 100000 in
set_option maxHeartbeats 4000000 in
theorem implRatio_in (bs : List Bool) (lo hi : Nat) (ao : Option Addr) (ca : Nat) (w : World) (hv : ratIn bs lo hi) (hx : Holds w ao (bl bs)) :
    Calls Try.prog 32 #[.slice ao bs.length ca, .float .f32 lo, .float .f32 hi] w (WkR_add (ratH lo hi) (ratM lo hi) (some 0) bs w) := by
  have HX := Lib.hid hx
  have HV := Lib.hid hv
  clear hx hv
  go_enter Try.func32, Try.ntmps32
  go_wp2_with fail
  refine (isInside_any lo _).mono ?_
  rintro e w1 ⟨rfl, rfl⟩
  rw [HV.out.2.1]
  go_wp2_with fail
  refine (isInside_any hi _).mono ?_
  rintro e w1 ⟨rfl, rfl⟩
  rw [HV.out.2.2]
  go_wp2_with (refine wpList_farith (dst := some 20) _ _ _ _ _ .f32 hi lo rfl rfl rfl ?_; intro q1 n1 hq1)
  refine (implLogA hq1 _).mono ?_
  rintro e w1 ⟨h, n2, rfl, hh, rfl⟩
  have HH := Lib.hid hh.2
  clear hq1 hh
  go_wp2_with (first | (refine wpList_farith (dst := some 23) _ _ _ _ _ .f32 1065353216 hi rfl rfl rfl ?_; intro d1 n3 hd1) | (refine wpList_farith (dst := some 25) _ _ _ _ _ .f32 1065353216 lo rfl rfl rfl ?_; intro d2 n4 hd2) | (refine wpList_farith (dst := some 26) _ _ _ _ _ .f32 d1 d2 rfl rfl rfl ?_; intro q2 n5 hq2))
  have hq3 : Fv .f32 (aop .quo .f32 (aop .sub .f32 (av .f32 1065353216) (av .f32 hi)) (aop .sub .f32 (av .f32 1065353216) (av .f32 lo))) q2 := by rw [← hd1.2, ← hd2.2]; exact hq2
  refine (implLogA hq3 _).mono ?_
  rintro e w1 ⟨m, n6, rfl, hm, rfl⟩
  have HM := Lib.hid hm.2
  clear hd1 hd2 hq2 hq3 hm
  generalize hW : World.drewN _ n6 = w1
  have hb1 : Below w.heap.size w w1 := by rw [← hW]; exact (by repeat (first | with_reducible exact Below.refl _ _ | with_reducible exact HBL | with_reducible refine Below.drew ?_ | with_reducible refine Bel_drewN ?_ _ | with_reducible refine Below.alloc ?_ (by first | omega | (simp; done) | (simp; omega)) _ | with_reducible refine Below.setCell ?_ (by first | omega | (simp; done) | (simp; omega)) _))
  clear hW
  have HB1 := Lib.hid hb1
  have HW1 := Lib.hid ((Whole.made w1 23 #[.float .f32 h]).alloc (.cells #[.float .f32 m] 23))
  have HW2 := Lib.hid (Whole.made2 w1 (.cells #[.float .f32 h] 23) 23 #[.float .f32 m])
  have HB2 : Hid (Below w1.heap.size w1 ((w1.alloc (.cells #[.float .f32 h] 23)).alloc (.cells #[.float .f32 m] 23))) := Lib.hid (by repeat (first | with_reducible exact Below.refl _ _ | with_reducible exact HBL | with_reducible refine Below.drew ?_ | with_reducible refine Bel_drewN ?_ _ | with_reducible refine Below.alloc ?_ (by first | omega | (simp; done) | (simp; omega)) _ | with_reducible refine Below.setCell ?_ (by first | omega | (simp; done) | (simp; omega)) _))
  clear hb1
  go_wp2_with fail
  refine (walkOf_add bs ao ca h m 0 w1.heap.size (w1.heap.size + 1) 23 _ (HX.out.below (Bel_next HB1.out HB2.out)) HV.out.1.1 HV.out.1.2 HW1.out HW2.out).mono ?_
  rintro e w2 hr
  rw [HH.out, HM.out, av_zero] at hr
  have HBB := Lib.hid (Bel_next HB1.out HB2.out)
  rcases hr with ⟨hf, ao2, c2, rfl, hrow, hb⟩ | ⟨hf, rfl, hb⟩
  · have H := Lib.hid (And.intro hf (And.intro (hrow.wide HBB.out.size (Nat.le_refl _)) (Bel_next HBB.out hb)))
    clear hf hrow hb
    go_wp2_with fail
    go_ret2
    exact .inl ⟨H.out.1, _, _, rfl, H.out.2⟩
  · have H := Lib.hid (And.intro hf (Bel_next HBB.out hb))
    clear hf hb
    go_wp2_with fail
    go_ret2
    exact .inr ⟨H.out.1, rfl, H.out.2⟩
set_option maxRecDepth 100000 in
set_option maxHeartbeats 4000000 in
theorem implRatio_out (bs : List Bool) (lo hi : Nat) (ao : Option Addr) (ca : Nat) (w : World) (hv : ¬ratIn bs lo hi) (hl : bs.length ≤ 1048576) :
    Calls Try.prog 32 #[.slice ao bs.length ca, .float .f32 lo, .float .f32 hi] w (RetB (.tuple #[.slice none 0 0, .bool false]) w) := by
  unfold ratIn at hv
  cases h1 : insB lo with
  | false =>
    have H1 := Lib.hid h1
    clear hv h1
    go_enter Try.func32, Try.ntmps32
    go_wp2_with fail
    refine (isInside_any lo _).mono ?_
    rintro e w1 ⟨rfl, rfl⟩
    rw [H1.out]
    go_wp2_with fail
    go_ret2
    exact ⟨rfl, Below.refl _ _⟩
  | true =>
    cases h2 : insB hi with
    | false =>
      have H1 := Lib.hid (And.intro h1 h2)
      clear hv h1 h2
      go_enter Try.func32, Try.ntmps32
      go_wp2_with fail
      refine (isInside_any lo _).mono ?_
      rintro e w1 ⟨rfl, rfl⟩
      rw [H1.out.1]
      go_wp2_with fail
      refine (isInside_any hi _).mono ?_
      rintro e w1 ⟨rfl, rfl⟩
      rw [H1.out.2]
      go_wp2_with fail
      go_ret2
      exact ⟨rfl, Below.refl _ _⟩
    | true =>
      have HL : Hid (¬(1 ≤ bs.length ∧ bs.length ≤ 256)) := Lib.hid (fun h => hv ⟨h, h1, h2⟩)
      have H1 := Lib.hid (And.intro h1 h2)
      clear hv h1 h2
      go_enter Try.func32, Try.ntmps32
      go_wp2_with fail
      refine (isInside_any lo _).mono ?_
      rintro e w1 ⟨rfl, rfl⟩
      rw [H1.out.1]
      go_wp2_with fail
      refine (isInside_any hi _).mono ?_
      rintro e w1 ⟨rfl, rfl⟩
      rw [H1.out.2]
      go_wp2_with (refine wpList_farith (dst := some 20) _ _ _ _ _ .f32 hi lo rfl rfl rfl ?_; intro q1 n1 hq1)
      refine (implLogA hq1 _).mono ?_
      rintro e w1 ⟨h, n2, rfl, hh, rfl⟩
      clear hq1 hh
      go_wp2_with (first | (refine wpList_farith (dst := some 23) _ _ _ _ _ .f32 1065353216 hi rfl rfl rfl ?_; intro d1 n3 hd1) | (refine wpList_farith (dst := some 25) _ _ _ _ _ .f32 1065353216 lo rfl rfl rfl ?_; intro d2 n4 hd2) | (refine wpList_farith (dst := some 26) _ _ _ _ _ .f32 d1 d2 rfl rfl rfl ?_; intro q2 n5 hq2))
      refine (implLogA hq2 _).mono ?_
      rintro e w1 ⟨m, n6, rfl, hm, rfl⟩
      clear hd1 hd2 hq2 hm
      generalize hW : World.drewN _ n6 = w1
      have hb1 : Below w.heap.size w w1 := by rw [← hW]; exact (by repeat (first | with_reducible exact Below.refl _ _ | with_reducible exact HBL | with_reducible refine Below.drew ?_ | with_reducible refine Bel_drewN ?_ _ | with_reducible refine Below.alloc ?_ (by first | omega | (simp; done) | (simp; omega)) _ | with_reducible refine Below.setCell ?_ (by first | omega | (simp; done) | (simp; omega)) _))
      clear hW
      have HB1 := Lib.hid hb1
      have HB2 : Hid (Below w1.heap.size w1 ((w1.alloc (.cells #[.float .f32 h] 23)).alloc (.cells #[.float .f32 m] 23))) := Lib.hid (by repeat (first | with_reducible exact Below.refl _ _ | with_reducible exact HBL | with_reducible refine Below.drew ?_ | with_reducible refine Bel_drewN ?_ _ | with_reducible refine Below.alloc ?_ (by first | omega | (simp; done) | (simp; omega)) _ | with_reducible refine Below.setCell ?_ (by first | omega | (simp; done) | (simp; omega)) _))
      clear hb1
      go_wp2_with fail
      refine (walkOf_add_not bs.length ao ca 0 _ _ HL.out hl).mono ?_
      rintro e w2 ⟨rfl, hb⟩
      have H := Lib.hid (Bel_next (Bel_next HB1.out HB2.out) hb)
      clear hb
      go_wp2_with fail
      go_ret2
      exact ⟨rfl, H.out⟩
theorem l06Bits_any (n : Nat) (ao : Option Addr) (ca : Nat) (b : Bool) (hb : decide (1 ≤ n ∧ n ≤ 256) = b) (w : World) : Calls Try.prog 65 #[.slice ao n ca] w (fun e w' => e = .returned (.bool b) ∧ w = w') := by
  have E := Lib.hid hb
  clear hb
  by_cases h1 : 1 ≤ n
  · by_cases h2 : n ≤ 256
    · have E2 : Hid (b = true) := Lib.hid (by rw [← E.out]; exact decide_eq_true ⟨h1, h2⟩)
      go_enter Try.func65, Try.ntmps65
      go_wp2_with fail
      go_ret
      exact ⟨by rw [E2.out]; first | rfl | (simp; omega), rfl⟩
    · have E2 : Hid (b = false) := Lib.hid (by rw [← E.out]; exact decide_eq_false (fun h => h2 h.2))
      go_enter Try.func65, Try.ntmps65
      go_wp2_with fail
      go_ret
      exact ⟨by rw [E2.out]; first | rfl | (simp; omega), rfl⟩
  · have E2 : Hid (b = false) := Lib.hid (by rw [← E.out]; exact decide_eq_false (fun h => h1 h.1))
    go_enter Try.func65, Try.ntmps65
    go_wp2_with fail
    go_ret
    exact ⟨by rw [E2.out]; first | rfl | (simp; omega), rfl⟩
/-- A list if all of it is finite, and nothing else. -/
theorem l02List_yes (ds : List Nat) (n : Nat) (hn : ds.length = n) (ao : Option Addr) (c : Nat) (w : World) (hx : Holds w ao (fl .f32 ds)) (hl : n ≤ 1048576) (hf : fins ds) :
    Calls Try.prog 68 #[.slice ao n c] w (RetB (.tuple #[.slice ao n c, .bool true]) w) := by
  have H := Lib.hid (And.intro hx (And.intro hn hf))
  clear hx hn hf
  go_enter Try.func68, Try.ntmps68
  go_wp2_with fail
  refine (l02Finite_any ds n H.out.2.1 ao c _ H.out.1 hl).mono ?_
  rintro e w1 ⟨b, q, rfl, hbf, rfl⟩
  have hbt : b = true := hbf.2 H.out.2.2
  subst hbt
  clear hbf
  go_wp2_with fail
  go_ret2
  exact ⟨rfl, (by repeat (first | with_reducible exact Below.refl _ _ | with_reducible exact HBL | with_reducible refine Below.drew ?_ | with_reducible refine Bel_drewN ?_ _ | with_reducible refine Below.alloc ?_ (by first | omega | (simp; done) | (simp; omega)) _ | with_reducible refine Below.setCell ?_ (by first | omega | (simp; done) | (simp; omega)) _))⟩
theorem l02List_no (ds : List Nat) (n : Nat) (hn : ds.length = n) (ao : Option Addr) (c : Nat) (w : World) (hx : Holds w ao (fl .f32 ds)) (hl : n ≤ 1048576) (hf : ¬fins ds) :
    Calls Try.prog 68 #[.slice ao n c] w (RetB (.tuple #[.slice none 0 0, .bool false]) w) := by
  have H := Lib.hid (And.intro hx (And.intro hn hf))
  clear hx hn hf
  go_enter Try.func68, Try.ntmps68
  go_wp2_with fail
  refine (l02Finite_any ds n H.out.2.1 ao c _ H.out.1 hl).mono ?_
  rintro e w1 ⟨b, q, rfl, hbf, rfl⟩
  have hbt : b = false := by
    cases b with
    | false => rfl
    | true => exact absurd (hbf.1 rfl) H.out.2.2
  subst hbt
  clear hbf
  go_wp2_with fail
  go_ret2
  exact ⟨rfl, (by repeat (first | with_reducible exact Below.refl _ _ | with_reducible exact HBL | with_reducible refine Below.drew ?_ | with_reducible refine Bel_drewN ?_ _ | with_reducible refine Below.alloc ?_ (by first | omega | (simp; done) | (simp; omega)) _ | with_reducible refine Below.setCell ?_ (by first | omega | (simp; done) | (simp; omega)) _))⟩
set_option maxRecDepth 100000 in
set_option maxHeartbeats 4000000 in
theorem specRatio_in (bs : List Bool) (lo hi : Nat) (ao : Option Addr) (ca : Nat) (w : World) (hv : ratIn bs lo hi) (hx : Holds w ao (bl bs)) :
    Calls Try.prog 30 #[.slice ao bs.length ca, .float .f32 lo, .float .f32 hi] w (WkR_add (ratH lo hi) (ratM lo hi) (some 0) bs w) := by
  have HX := Lib.hid hx
  have HV := Lib.hid hv
  have h256 := hv.1.2
  clear hx hv
  go_enter Try.func30, Try.ntmps30
  go_wp2_with fail
  refine (l06Bits_any _ _ _ true (decide_eq_true HV.out.1) _).mono ?_
  rintro e w1 ⟨rfl, rfl⟩
  go_wp2_with fail
  refine (l06Open_any lo _).mono ?_
  rintro e w1 ⟨rfl, rfl⟩
  rw [HV.out.2.1]
  go_wp2_with fail
  refine (l06Open_any hi _).mono ?_
  rintro e w1 ⟨rfl, rfl⟩
  rw [HV.out.2.2]
  go_wp2_with fail
  go_loopw [8, 9, 10] (fun v a i wr => ∃ (k r : Nat) (ds : List Nat), k ≤ bs.length ∧ i = .int .i64 k ∧ a = .float .f32 r ∧ av .f32 r = wkV .add (ratH lo hi) (ratM lo hi) (some 0) bs k ∧ ds.length = k ∧ (∀ j, j < k → av .f32 (ds[j]?.getD 0) = wkV .add (ratH lo hi) (ratM lo hi) (some 0) bs (j + 1)) ∧ wr.ownsRow w.heap.size 23 1 v k (fl .f32 ds) ∧ Below w.heap.size w wr) (fun _ _ i _ => bs.length - (intOf i).toNat)
  case atStart => exact ⟨0, 0, [], Nat.zero_le _, rfl, rfl, av_zero _, rfl, fun j hj => absurd hj (Nat.not_lt_zero _), World.ownsRow_made _ _ _ (Nat.le_refl _) (Nat.zero_le _) rfl, (by repeat (first | with_reducible exact Below.refl _ _ | with_reducible exact HBL | with_reducible refine Below.drew ?_ | with_reducible refine Bel_drewN ?_ _ | with_reducible refine Below.alloc ?_ (by first | omega | (simp; done) | (simp; omega)) _ | with_reducible refine Below.setCell ?_ (by first | omega | (simp; done) | (simp; omega)) _))⟩
  case round =>
    obtain ⟨k, r, ds, hk, rfl, rfl, hr, hdl, hds, hown, hbel⟩ := hrel
    have H := Lib.hid (And.intro hown hbel)
    have HD := Lib.hid (And.intro hr (And.intro hdl hds))
    have hzr := hbel.size
    by_cases hlt : k < bs.length
    · obtain ⟨b, o, rfl, hc⟩ := (Holds.below HX.out hbel) k (by simpa [bl] using hlt)
      rw [bl_get _ _ hlt] at hc
      have hlt' : (k : Int) < bs.length := by omega
      clear hr hdl hds hown hbel
      cases hx : bs[k]?.getD false with
      | true =>
        rw [hx] at hc
        have HE := Lib.hid hx
        clear hx
        go_wp2_with (first | (refine wpList_farith (dst := some 38) _ _ _ _ _ .f32 hi lo rfl rfl rfl ?_; intro q1 n1 hq1) | (go_at_call 67; fail))
        refine (specLogA hq1 _).mono ?_
        rintro e w1 ⟨h, n2, rfl, hh, rfl⟩
        have HH : Hid (av .f32 h = ratH lo hi) := Lib.hid hh.2
        clear hq1 hh
        go_wp2_with (refine wpList_farith (dst := some 40) _ _ _ _ _ .f32 r h rfl rfl rfl ?_; intro d n3 hd; have HV2 : Hid (av .f32 d = wkV .add (ratH lo hi) (ratM lo hi) (some 0) bs (k + 1)) := Lib.hid (by rw [wkV_yes HE.out, ← HD.out.1, ← HH.out]; exact hd.2); clear hd; generalize hW : World.drewN _ n3 = wq; have hbq : Below w.heap.size w wq := (by rw [← hW]; have HBL := H.out.2; exact (by repeat (first | with_reducible exact Below.refl _ _ | with_reducible exact HBL | with_reducible refine Below.drew ?_ | with_reducible refine Bel_drewN ?_ _ | with_reducible refine Below.alloc ?_ (by first | omega | (simp; done) | (simp; omega)) _ | with_reducible refine Below.setCell ?_ (by first | omega | (simp; done) | (simp; omega)) _))); have hhq : wq.heap = wr.heap := (by rw [← hW]; rfl); clear hW; have H2 := Lib.hid (And.intro hbq (own_heap H.out.1 hhq)); have hzq := hbq.size; clear hbq hhq; go_wp2_with (at_builtin; refine wpList_app1 rfl _ _ 22 rfl w.heap.size 23 (.float .f32 0) 4 Try.underlying22 (by kernel_rfl) rfl _ k _ rfl (H2.out.2.alloc _) _ _ (.float .f32 d) rfl ?_ rfl ⟨by omega, by omega⟩ ?_ ?_))
        · exact (Whole.made wq 23 #[.float .f32 d]).cell 0
        · simp; omega
        · intro v' w' hown' hgr'
          have hb2 : Below w.heap.size w w' := by
            have h1 : Below w.heap.size w (wq.alloc (.cells #[.float .f32 d] 23)) := by have HBL := H2.out.1; exact (by repeat (first | with_reducible exact Below.refl _ _ | with_reducible exact HBL | with_reducible refine Below.drew ?_ | with_reducible refine Bel_drewN ?_ _ | with_reducible refine Below.alloc ?_ (by first | omega | (simp; done) | (simp; omega)) _ | with_reducible refine Below.setCell ?_ (by first | omega | (simp; done) | (simp; omega)) _))
            exact h1.grown hgr' (by simp; omega) (own_ge H2.out.2)
          have ho3 : w'.ownsRow w.heap.size 23 1 v' (k + 1) (fl .f32 (ds ++ [d])) := by rw [fl, List.map_append]; exact hown'
          have H3 := Lib.hid (And.intro ho3 hb2)
          clear hown' hgr' hb2 ho3
          go_wp2_with fail
          go_roundw
          case rel =>
            refine ⟨k + 1, d, ds ++ [d], by omega, by go_num, rfl, HV2.out, by rw [List.length_append, HD.out.2.1]; rfl, fun j hj => ?_, H3.out⟩
            by_cases e : j = k
            · subst e
              rw [List.getElem?_append_right (by rw [HD.out.2.1]; exact Nat.le_refl _), HD.out.2.1, Nat.sub_self]
              exact HV2.out
            · rw [List.getElem?_append_left (by rw [HD.out.2.1]; omega)]
              exact HD.out.2.2 j (by omega)
          case measure => simp [intOf]; omega
      | false =>
        rw [hx] at hc
        have HE := Lib.hid hx
        clear hx
        go_wp2_with (first | (refine wpList_farith (dst := some 43) _ _ _ _ _ .f32 1065353216 hi rfl rfl rfl ?_; intro d1 n3 hd1) | (refine wpList_farith (dst := some 45) _ _ _ _ _ .f32 1065353216 lo rfl rfl rfl ?_; intro d2 n4 hd2) | (refine wpList_farith (dst := some 46) _ _ _ _ _ .f32 d1 d2 rfl rfl rfl ?_; intro q1 n5 hq1) | (go_at_call 67; fail))
        have hq3 : Fv .f32 (aop .quo .f32 (aop .sub .f32 (av .f32 1065353216) (av .f32 hi)) (aop .sub .f32 (av .f32 1065353216) (av .f32 lo))) q1 := by rw [← hd1.2, ← hd2.2]; exact hq1
        refine (specLogA hq3 _).mono ?_
        rintro e w1 ⟨h, n2, rfl, hh, rfl⟩
        have HH : Hid (av .f32 h = ratM lo hi) := Lib.hid hh.2
        clear hd1 hd2 hq1 hq3 hh
        go_wp2_with (refine wpList_farith (dst := some 48) _ _ _ _ _ .f32 r h rfl rfl rfl ?_; intro d n6 hd; have HV2 : Hid (av .f32 d = wkV .add (ratH lo hi) (ratM lo hi) (some 0) bs (k + 1)) := Lib.hid (by rw [wkV_no HE.out, ← HD.out.1, ← HH.out]; exact hd.2); clear hd; generalize hW : World.drewN _ n6 = wq; have hbq : Below w.heap.size w wq := (by rw [← hW]; have HBL := H.out.2; exact (by repeat (first | with_reducible exact Below.refl _ _ | with_reducible exact HBL | with_reducible refine Below.drew ?_ | with_reducible refine Bel_drewN ?_ _ | with_reducible refine Below.alloc ?_ (by first | omega | (simp; done) | (simp; omega)) _ | with_reducible refine Below.setCell ?_ (by first | omega | (simp; done) | (simp; omega)) _))); have hhq : wq.heap = wr.heap := (by rw [← hW]; rfl); clear hW; have H2 := Lib.hid (And.intro hbq (own_heap H.out.1 hhq)); have hzq := hbq.size; clear hbq hhq; go_wp2_with (at_builtin; refine wpList_app1 rfl _ _ 22 rfl w.heap.size 23 (.float .f32 0) 4 Try.underlying22 (by kernel_rfl) rfl _ k _ rfl (H2.out.2.alloc _) _ _ (.float .f32 d) rfl ?_ rfl ⟨by omega, by omega⟩ ?_ ?_))
        · exact (Whole.made wq 23 #[.float .f32 d]).cell 0
        · simp; omega
        · intro v' w' hown' hgr'
          have hb2 : Below w.heap.size w w' := by
            have h1 : Below w.heap.size w (wq.alloc (.cells #[.float .f32 d] 23)) := by have HBL := H2.out.1; exact (by repeat (first | with_reducible exact Below.refl _ _ | with_reducible exact HBL | with_reducible refine Below.drew ?_ | with_reducible refine Bel_drewN ?_ _ | with_reducible refine Below.alloc ?_ (by first | omega | (simp; done) | (simp; omega)) _ | with_reducible refine Below.setCell ?_ (by first | omega | (simp; done) | (simp; omega)) _))
            exact h1.grown hgr' (by simp; omega) (own_ge H2.out.2)
          have ho3 : w'.ownsRow w.heap.size 23 1 v' (k + 1) (fl .f32 (ds ++ [d])) := by rw [fl, List.map_append]; exact hown'
          have H3 := Lib.hid (And.intro ho3 hb2)
          clear hown' hgr' hb2 ho3
          go_wp2_with fail
          go_roundw
          case rel =>
            refine ⟨k + 1, d, ds ++ [d], by omega, by go_num, rfl, HV2.out, by rw [List.length_append, HD.out.2.1]; rfl, fun j hj => ?_, H3.out⟩
            by_cases e : j = k
            · subst e
              rw [List.getElem?_append_right (by rw [HD.out.2.1]; exact Nat.le_refl _), HD.out.2.1, Nat.sub_self]
              exact HV2.out
            · rw [List.getElem?_append_left (by rw [HD.out.2.1]; omega)]
              exact HD.out.2.2 j (by omega)
          case measure => simp [intOf]; omega
    · have e : k = bs.length := by omega
      obtain ⟨ao2, c2, rfl⟩ := own_form hown
      have H3 := Lib.hid (And.intro (Row.of_own hown) hbel)
      have HL : Hid (ds.length = bs.length ∧ ∀ j, j < bs.length → av .f32 (ds[j]?.getD 0) = wkV .add (ratH lo hi) (ratM lo hi) (some 0) bs (j + 1)) := Lib.hid ⟨by omega, fun j hj => hds j (by omega)⟩
      subst e
      clear hr hdl hds hown hbel H HD
      by_cases hf : wkFin .add (ratH lo hi) (ratM lo hi) (some 0) bs
      · have HF := Lib.hid hf
        clear hf
        go_wp2_with fail
        refine (l02List_yes ds _ HL.out.1 ao2 _ _ H3.out.1.holds (by omega) ((wkFin_iff HL.out.1 HL.out.2).2 HF.out)).mono ?_
        rintro e w1 ⟨rfl, hb⟩
        have HR : Hid (RetL bs.length (fl .f32 (wkL .add (ratH lo hi) (ratM lo hi) (some 0) bs)) (fun s => .tuple #[s, .bool true]) w (.returned (.tuple #[.slice ao2 bs.length c2, .bool true])) w1) := Lib.hid (by
          rw [← wkL_of HL.out.1 HL.out.2 HF.out]
          exact ⟨ao2, c2, rfl, (H3.out.1.below hb).wide (Nat.le_refl _) hb.size, Bel_next H3.out.2 hb⟩)
        clear hb
        go_wp2_with fail
        go_ret2
        exact .inl ⟨HF.out, HR.out⟩
      · have HF := Lib.hid hf
        clear hf
        go_wp2_with fail
        refine (l02List_no ds _ HL.out.1 ao2 _ _ H3.out.1.holds (by omega) (fun h => HF.out ((wkFin_iff HL.out.1 HL.out.2).1 h))).mono ?_
        rintro e w1 ⟨rfl, hb⟩
        have HB := Lib.hid (Bel_next H3.out.2 hb)
        clear hb
        go_wp2_with fail
        go_ret2
        exact .inr ⟨HF.out, rfl, HB.out⟩
theorem specRatio_out (bs : List Bool) (lo hi : Nat) (ao : Option Addr) (ca : Nat) (w : World) (hv : ¬ratIn bs lo hi) (hl : bs.length ≤ 1048576) :
    Calls Try.prog 30 #[.slice ao bs.length ca, .float .f32 lo, .float .f32 hi] w (RetB (.tuple #[.slice none 0 0, .bool false]) w) := by
  unfold ratIn at hv
  by_cases h0 : 1 ≤ bs.length ∧ bs.length ≤ 256
  · have H0 := Lib.hid (decide_eq_true h0)
    cases h1 : insB lo with
    | false =>
      have H1 := Lib.hid h1
      clear hv h1 h0
      go_enter Try.func30, Try.ntmps30
      go_wp2_with fail
      refine (l06Bits_any _ _ _ _ H0.out _).mono ?_
      rintro e w1 ⟨rfl, rfl⟩
      go_wp2_with fail
      refine (l06Open_any lo _).mono ?_
      rintro e w1 ⟨rfl, rfl⟩
      rw [H1.out]
      go_wp2_with fail
      go_ret2
      exact ⟨rfl, Below.refl _ _⟩
    | true =>
      have H1 := Lib.hid h1
      have H2 : Hid (insB hi = false) := Lib.hid (by cases h : insB hi with | false => rfl | true => exact absurd ⟨h0, h1, h⟩ hv)
      clear hv h1 h0
      go_enter Try.func30, Try.ntmps30
      go_wp2_with fail
      refine (l06Bits_any _ _ _ _ H0.out _).mono ?_
      rintro e w1 ⟨rfl, rfl⟩
      go_wp2_with fail
      refine (l06Open_any lo _).mono ?_
      rintro e w1 ⟨rfl, rfl⟩
      rw [H1.out]
      go_wp2_with fail
      refine (l06Open_any hi _).mono ?_
      rintro e w1 ⟨rfl, rfl⟩
      rw [H2.out]
      go_wp2_with fail
      go_ret2
      exact ⟨rfl, Below.refl _ _⟩
  · have H0 := Lib.hid (decide_eq_false h0)
    clear hv h0
    go_enter Try.func30, Try.ntmps30
    go_wp2_with fail
    refine (l06Bits_any _ _ _ _ H0.out _).mono ?_
    rintro e w1 ⟨rfl, rfl⟩
    go_wp2_with fail
    go_ret2
    exact ⟨rfl, Below.refl _ _⟩
/-- All that RatioWalk asks. -/
def ratC (bs : List Bool) (lo hi : Nat) : Prop := ratIn bs lo hi ∧ wkFin .add (ratH lo hi) (ratM lo hi) (some 0) bs
noncomputable def ratL (bs : List Bool) (lo hi : Nat) : List Nat := wkL .add (ratH lo hi) (ratM lo hi) (some 0) bs
theorem implRatio_yes (bs : List Bool) (lo hi : Nat) (ao : Option Addr) (ca : Nat) (w : World) (hv : ratC bs lo hi) (hx : Holds w ao (bl bs)) :
    Calls Try.prog 32 #[.slice ao bs.length ca, .float .f32 lo, .float .f32 hi] w (RetL bs.length (fl .f32 (ratL bs lo hi)) (fun s => .tuple #[s, .bool true]) w) :=
  (implRatio_in bs lo hi ao ca w hv.1 hx).mono fun e w' h => WkR_add.yes hv.2 h
theorem implRatio_no (bs : List Bool) (lo hi : Nat) (ao : Option Addr) (ca : Nat) (w : World) (hv : ¬ratC bs lo hi) (hx : Holds w ao (bl bs)) (hl : bs.length ≤ 1048576) :
    Calls Try.prog 32 #[.slice ao bs.length ca, .float .f32 lo, .float .f32 hi] w (RetB (.tuple #[.slice none 0 0, .bool false]) w) := by
  by_cases h : ratIn bs lo hi
  · exact (implRatio_in bs lo hi ao ca w h hx).mono fun e w' hr => WkR_add.no (fun hf => hv ⟨h, hf⟩) hr
  · exact implRatio_out bs lo hi ao ca w h hl
theorem specRatio_yes (bs : List Bool) (lo hi : Nat) (ao : Option Addr) (ca : Nat) (w : World) (hv : ratC bs lo hi) (hx : Holds w ao (bl bs)) :
    Calls Try.prog 30 #[.slice ao bs.length ca, .float .f32 lo, .float .f32 hi] w (RetL bs.length (fl .f32 (ratL bs lo hi)) (fun s => .tuple #[s, .bool true]) w) :=
  (specRatio_in bs lo hi ao ca w hv.1 hx).mono fun e w' h => WkR_add.yes hv.2 h
theorem specRatio_no (bs : List Bool) (lo hi : Nat) (ao : Option Addr) (ca : Nat) (w : World) (hv : ¬ratC bs lo hi) (hx : Holds w ao (bl bs)) (hl : bs.length ≤ 1048576) :
    Calls Try.prog 30 #[.slice ao bs.length ca, .float .f32 lo, .float .f32 hi] w (RetB (.tuple #[.slice none 0 0, .bool false]) w) := by
  by_cases h : ratIn bs lo hi
  · exact (specRatio_in bs lo hi ao ca w h hx).mono fun e w' hr => WkR_add.no (fun hf => hv ⟨h, hf⟩) hr
  · exact specRatio_out bs lo hi ao ca w h hl
end Go.Proofs.Ytlnhobikejbkkaa
