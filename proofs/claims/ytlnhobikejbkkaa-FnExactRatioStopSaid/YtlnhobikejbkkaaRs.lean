/- RatioStop: both sides. -/
import Derived.Test.YtlnhobikejbkkaaRw
namespace Go.Proofs.Ytlnhobikejbkkaa
open Go Go.RowKit Fl
set_option linter.unusedVariables false

/-- Where a walk stops, and on which side; k comes before the list. -/
def stopL (l r : Nat) : List Nat → Nat → Int × Int
  | [], k => (k, 0)
  | x :: xs, k => if geB x r = true then (k, 1) else if leB x l = true then (k, -1) else stopL l r xs (k + 1)
theorem drop_at (xs : List Nat) (k : Nat) (h : k < xs.length) : xs.drop k = xs[k]?.getD 0 :: xs.drop (k + 1) := by
  rw [List.drop_eq_getElem_cons h]; simp [h]
theorem stopL_end {l r : Nat} {xs : List Nat} {k : Nat} (h : xs.length ≤ k) : stopL l r (xs.drop k) k = ((k : Int), 0) := by rw [List.drop_eq_nil_of_le h]; rfl
theorem stopL_ge {l r : Nat} {xs : List Nat} {k : Nat} (h : k < xs.length) (e : geB (xs[k]?.getD 0) r = true) : stopL l r (xs.drop k) k = ((k : Int), 1) := by rw [drop_at xs k h]; unfold stopL; rw [if_pos e]
theorem stopL_le {l r : Nat} {xs : List Nat} {k : Nat} (h : k < xs.length) (e : geB (xs[k]?.getD 0) r = false) (e2 : leB (xs[k]?.getD 0) l = true) : stopL l r (xs.drop k) k = ((k : Int), -1) := by rw [drop_at xs k h]; unfold stopL; rw [if_neg (by rw [e]; simp), if_pos e2]
theorem stopL_go {l r : Nat} {xs : List Nat} {k : Nat} (h : k < xs.length) (e : geB (xs[k]?.getD 0) r = false) (e2 : leB (xs[k]?.getD 0) l = false) : stopL l r (xs.drop k) k = stopL l r (xs.drop (k + 1)) (k + 1) := by
  rw [drop_at xs k h]
  show (if geB (xs[k]?.getD 0) r = true then _ else if leB (xs[k]?.getD 0) l = true then _ else _) = _
  rw [if_neg (by rw [e]; simp), if_neg (by rw [e2]; simp)]
theorem ge_lt {x y : Nat} (hx : finA .f32 (av .f32 x) = true) (hy : finA .f32 (av .f32 y) = true) : geB x y = !ltB x y := by
  rw [geB_K (fin_self hx) (fin_self hy), ltB_K (fin_self hx) (fin_self hy)]
  by_cases h : fK x < fK y
  · rw [decide_eq_true h, decide_eq_false (by omega)]; rfl
  · rw [decide_eq_false h, decide_eq_true (by omega)]; rfl
/-- All that RatioStop asks. -/
def rstC (bs : List Bool) (lo hi l r : Nat) : Prop := ratC bs lo hi ∧ finA .f32 (av .f32 l) = true ∧ finA .f32 (av .f32 r) = true ∧ ltB l r = true
noncomputable def rstV (bs : List Bool) (lo hi l r : Nat) : Int × Int := stopL l r (ratL bs lo hi) 0
theorem ratL_len (bs : List Bool) (lo hi : Nat) : (ratL bs lo hi).length = bs.length := wkL_len _ _ _ _ _
set_option maxRecDepth 100000 in
set_option maxHeartbeats 4000000 in
theorem implRst_yes (bs : List Bool) (lo hi l r : Nat) (ao : Option Addr) (ca : Nat) (w : World) (hv : rstC bs lo hi l r) (hx : Holds w ao (bl bs)) (hl : bs.length ≤ 1048576) :
    Calls Try.prog 36 #[.slice ao bs.length ca, .float .f32 lo, .float .f32 hi, .float .f32 l, .float .f32 r] w (RetB (.tuple #[.int .i64 (rstV bs lo hi l r).1, .int .i64 (rstV bs lo hi l r).2, .bool true]) w) := by
  have HX := Lib.hid hx
  have HV := Lib.hid hv
  have HL := Lib.hid (ratL_len bs lo hi)
  have hlt : (FloatKind.f32.format.order l r == some Ordering.gt || FloatKind.f32.format.order l r == some Ordering.eq) = false := by have := ge_lt hv.2.1 hv.2.2.1; rw [hv.2.2.2] at this; exact this
  clear hx hv
  go_enter Try.func36, Try.ntmps36
  go_wp2_with fail
  refine (implRatio_yes bs lo hi ao ca _ HV.out.1 HX.out).mono ?_
  rintro e w1 ⟨ao1, c1, rfl, hrow, hb⟩
  have H1 := Lib.hid (And.intro hrow hb)
  clear hrow hb
  go_wp2_with fail
  refine (IsFinite_any l _).mono ?_
  rintro e w2 ⟨n1, rfl, rfl⟩
  rw [HV.out.2.1]
  go_wp2_with fail
  refine (IsFinite_any r _).mono ?_
  rintro e w2 ⟨n2, rfl, rfl⟩
  rw [HV.out.2.2.1]
  generalize hW : World.drewN _ n2 = w2
  have hb2 : Below w1.heap.size w1 w2 := by rw [← hW]; exact (by repeat (first | with_reducible exact Below.refl _ _ | with_reducible exact HBL | with_reducible refine Below.drew ?_ | with_reducible refine Bel_drewN ?_ _ | with_reducible refine Below.alloc ?_ (by first | omega | (simp; done) | (simp; omega)) _ | with_reducible refine Below.setCell ?_ (by first | omega | (simp; done) | (simp; omega)) _))
  have H2 : Hid (Holds w2 ao1 (fl .f32 (ratL bs lo hi)) ∧ Below w.heap.size w w2) := Lib.hid ⟨(H1.out.1.holds).below hb2, Bel_next H1.out.2 hb2⟩
  clear hW hb2
  go_wp2_with fail
  clear hlt
  go_loop [43] (fun i => ∃ k : Nat, k ≤ bs.length ∧ i = .int .i64 k ∧ rstV bs lo hi l r = stopL l r ((ratL bs lo hi).drop k) k) (fun i => bs.length - (intOf i).toNat)
  case atStart => exact ⟨0, Nat.zero_le _, rfl, by rw [List.drop_zero]; rfl⟩
  case round =>
    obtain ⟨k, hk, rfl, hst⟩ := hrel
    have HS := Lib.hid hst
    clear hst
    by_cases hlt : k < bs.length
    · have hlk : k < (ratL bs lo hi).length := by rw [HL.out]; exact hlt
      obtain ⟨b, o, rfl, hc⟩ := H2.out.1 k (by simpa [fl] using hlk)
      rw [fl_get _ _ _ hlk] at hc
      have hlt' : (k : Int) < bs.length := by omega
      have HLK := Lib.hid hlk
      obtain ⟨x, hx⟩ : ∃ x, (ratL bs lo hi)[k]?.getD 0 = x := ⟨_, rfl⟩
      rw [hx] at hc
      have HE := Lib.hid hx
      clear hx hlk
      cases hg : geB x r with
      | true =>
        have HG : Hid (rstV bs lo hi l r = ((k : Int), 1)) := Lib.hid (HS.out.trans (stopL_ge HLK.out (by rw [HE.out]; exact hg)))
        have hg' : (FloatKind.f32.format.order x r == some Ordering.gt || FloatKind.f32.format.order x r == some Ordering.eq) = true := hg
        clear hg
        go_wp2_with fail
        go_ret3
        exact ⟨by rw [HG.out]; rfl, H2.out.2⟩
      | false =>
        cases hl2 : leB x l with
        | true =>
          have HG : Hid (rstV bs lo hi l r = ((k : Int), -1)) := Lib.hid (HS.out.trans (stopL_le HLK.out (by rw [HE.out]; exact hg) (by rw [HE.out]; exact hl2)))
          have hg' : (FloatKind.f32.format.order x r == some Ordering.gt || FloatKind.f32.format.order x r == some Ordering.eq) = false := hg
          have hl' : (FloatKind.f32.format.order x l == some Ordering.lt || FloatKind.f32.format.order x l == some Ordering.eq) = true := hl2
          clear hg hl2
          go_wp2_with fail
          go_ret3
          exact ⟨by rw [HG.out]; rfl, H2.out.2⟩
        | false =>
          have HG : Hid (rstV bs lo hi l r = stopL l r ((ratL bs lo hi).drop (k + 1)) (k + 1)) := Lib.hid (HS.out.trans (stopL_go HLK.out (by rw [HE.out]; exact hg) (by rw [HE.out]; exact hl2)))
          have hg' : (FloatKind.f32.format.order x r == some Ordering.gt || FloatKind.f32.format.order x r == some Ordering.eq) = false := hg
          have hl' : (FloatKind.f32.format.order x l == some Ordering.lt || FloatKind.f32.format.order x l == some Ordering.eq) = false := hl2
          clear hg hl2
          go_wp2_with fail
          go_round
          case rel => exact ⟨k + 1, by omega, by go_num, HG.out⟩
          case measure => simp [intOf]; omega
    · have HG : Hid (rstV bs lo hi l r = ((bs.length : Int), 0)) := Lib.hid (by rw [HS.out, stopL_end (by rw [HL.out]; omega)]; rw [show k = bs.length by omega])
      go_wp2_with fail
      go_ret3
      exact ⟨by rw [HG.out]; rfl, H2.out.2⟩
set_option maxRecDepth 100000 in
set_option maxHeartbeats 4000000 in
theorem implRst_no (bs : List Bool) (lo hi l r : Nat) (ao : Option Addr) (ca : Nat) (w : World) (hv : ¬rstC bs lo hi l r) (hx : Holds w ao (bl bs)) (hl : bs.length ≤ 1048576) :
    Calls Try.prog 36 #[.slice ao bs.length ca, .float .f32 lo, .float .f32 hi, .float .f32 l, .float .f32 r] w (RetB (.tuple #[.int .i64 0, .int .i64 0, .bool false]) w) := by
  have HX := Lib.hid hx
  unfold rstC at hv
  clear hx
  by_cases h0 : ratC bs lo hi
  · have H0 := Lib.hid h0
    cases h1 : finA .f32 (av .f32 l) with
    | false =>
      have HV := Lib.hid h1
      clear hv h0 h1
      go_enter Try.func36, Try.ntmps36
      go_wp2_with fail
      refine (implRatio_yes bs lo hi ao ca _ H0.out HX.out).mono ?_
      rintro e w1 ⟨ao1, c1, rfl, hrow, hb⟩
      have H1 := Lib.hid hb
      clear hrow hb
      go_wp2_with fail
      refine (IsFinite_any l _).mono ?_
      rintro e w2 ⟨n1, rfl, rfl⟩
      rw [HV.out]
      go_wp2_with fail
      go_ret3
      exact ⟨rfl, by have HBL := H1.out; exact (by repeat (first | with_reducible exact Below.refl _ _ | with_reducible exact HBL | with_reducible refine Below.drew ?_ | with_reducible refine Bel_drewN ?_ _ | with_reducible refine Below.alloc ?_ (by first | omega | (simp; done) | (simp; omega)) _ | with_reducible refine Below.setCell ?_ (by first | omega | (simp; done) | (simp; omega)) _))⟩
    | true =>
      cases h2 : finA .f32 (av .f32 r) with
      | false =>
        have HV := Lib.hid (And.intro h1 h2)
        clear hv h0 h1 h2
        go_enter Try.func36, Try.ntmps36
        go_wp2_with fail
        refine (implRatio_yes bs lo hi ao ca _ H0.out HX.out).mono ?_
        rintro e w1 ⟨ao1, c1, rfl, hrow, hb⟩
        have H1 := Lib.hid hb
        clear hrow hb
        go_wp2_with fail
        refine (IsFinite_any l _).mono ?_
        rintro e w2 ⟨n1, rfl, rfl⟩
        rw [HV.out.1]
        go_wp2_with fail
        refine (IsFinite_any r _).mono ?_
        rintro e w2 ⟨n2, rfl, rfl⟩
        rw [HV.out.2]
        go_wp2_with fail
        go_ret3
        exact ⟨rfl, by have HBL := H1.out; exact (by repeat (first | with_reducible exact Below.refl _ _ | with_reducible exact HBL | with_reducible refine Below.drew ?_ | with_reducible refine Bel_drewN ?_ _ | with_reducible refine Below.alloc ?_ (by first | omega | (simp; done) | (simp; omega)) _ | with_reducible refine Below.setCell ?_ (by first | omega | (simp; done) | (simp; omega)) _))⟩
      | true =>
        have HV := Lib.hid (And.intro h1 h2)
        have h3 : ltB l r = false := by cases h : ltB l r with | false => rfl | true => exact absurd ⟨h0, h1, h2, h⟩ hv
        have hlt : (FloatKind.f32.format.order l r == some Ordering.gt || FloatKind.f32.format.order l r == some Ordering.eq) = true := by have := ge_lt h1 h2; rw [h3] at this; exact this
        clear hv h0 h1 h2 h3
        go_enter Try.func36, Try.ntmps36
        go_wp2_with fail
        refine (implRatio_yes bs lo hi ao ca _ H0.out HX.out).mono ?_
        rintro e w1 ⟨ao1, c1, rfl, hrow, hb⟩
        have H1 := Lib.hid hb
        clear hrow hb
        go_wp2_with fail
        refine (IsFinite_any l _).mono ?_
        rintro e w2 ⟨n1, rfl, rfl⟩
        rw [HV.out.1]
        go_wp2_with fail
        refine (IsFinite_any r _).mono ?_
        rintro e w2 ⟨n2, rfl, rfl⟩
        rw [HV.out.2]
        go_wp2_with fail
        go_ret3
        exact ⟨rfl, by have HBL := H1.out; exact (by repeat (first | with_reducible exact Below.refl _ _ | with_reducible exact HBL | with_reducible refine Below.drew ?_ | with_reducible refine Bel_drewN ?_ _ | with_reducible refine Below.alloc ?_ (by first | omega | (simp; done) | (simp; omega)) _ | with_reducible refine Below.setCell ?_ (by first | omega | (simp; done) | (simp; omega)) _))⟩
  · have H0 := Lib.hid h0
    clear hv h0
    go_enter Try.func36, Try.ntmps36
    go_wp2_with fail
    refine (implRatio_no bs lo hi ao ca _ H0.out HX.out hl).mono ?_
    rintro e w1 ⟨rfl, hb⟩
    have H1 := Lib.hid hb
    clear hb
    go_wp2_with fail
    go_ret3
    exact ⟨rfl, H1.out⟩
set_option maxRecDepth 100000 in
set_option maxHeartbeats 4000000 in
theorem specRst_yes (bs : List Bool) (lo hi l r : Nat) (ao : Option Addr) (ca : Nat) (w : World) (hv : rstC bs lo hi l r) (hx : Holds w ao (bl bs)) (hl : bs.length ≤ 1048576) :
    Calls Try.prog 35 #[.slice ao bs.length ca, .float .f32 lo, .float .f32 hi, .float .f32 l, .float .f32 r] w (RetB (.tuple #[.int .i64 (rstV bs lo hi l r).1, .int .i64 (rstV bs lo hi l r).2, .bool true]) w) := by
  have HX := Lib.hid hx
  have HV := Lib.hid hv
  have HL := Lib.hid (ratL_len bs lo hi)
  have hlt : (FloatKind.f32.format.order l r == some Ordering.lt) = true := hv.2.2.2
  clear hx hv
  go_enter Try.func35, Try.ntmps35
  go_wp2_with fail
  refine (specRatio_yes bs lo hi ao ca _ HV.out.1 HX.out).mono ?_
  rintro e w1 ⟨ao1, c1, rfl, hrow, hb⟩
  have H1 := Lib.hid (And.intro hrow hb)
  clear hrow hb
  go_wp2_with fail
  refine (l01Finite_any l _).mono ?_
  rintro e w2 ⟨n1, rfl, rfl⟩
  rw [HV.out.2.1]
  go_wp2_with fail
  refine (l01Finite_any r _).mono ?_
  rintro e w2 ⟨n2, rfl, rfl⟩
  rw [HV.out.2.2.1]
  generalize hW : World.drewN _ n2 = w2
  have hb2 : Below w1.heap.size w1 w2 := by rw [← hW]; exact (by repeat (first | with_reducible exact Below.refl _ _ | with_reducible exact HBL | with_reducible refine Below.drew ?_ | with_reducible refine Bel_drewN ?_ _ | with_reducible refine Below.alloc ?_ (by first | omega | (simp; done) | (simp; omega)) _ | with_reducible refine Below.setCell ?_ (by first | omega | (simp; done) | (simp; omega)) _))
  have H2 : Hid (Holds w2 ao1 (fl .f32 (ratL bs lo hi)) ∧ Below w.heap.size w w2) := Lib.hid ⟨(H1.out.1.holds).below hb2, Bel_next H1.out.2 hb2⟩
  clear hW hb2
  go_wp2_with fail
  clear hlt
  go_loop [15] (fun i => ∃ k : Nat, k ≤ bs.length ∧ i = .int .i64 k ∧ rstV bs lo hi l r = stopL l r ((ratL bs lo hi).drop k) k) (fun i => bs.length - (intOf i).toNat)
  case atStart => exact ⟨0, Nat.zero_le _, rfl, by rw [List.drop_zero]; rfl⟩
  case round =>
    obtain ⟨k, hk, rfl, hst⟩ := hrel
    have HS := Lib.hid hst
    clear hst
    by_cases hlt : k < bs.length
    · have hlk : k < (ratL bs lo hi).length := by rw [HL.out]; exact hlt
      obtain ⟨b, o, rfl, hc⟩ := H2.out.1 k (by simpa [fl] using hlk)
      rw [fl_get _ _ _ hlk] at hc
      have hlt' : (k : Int) < bs.length := by omega
      have HLK := Lib.hid hlk
      obtain ⟨x, hx⟩ : ∃ x, (ratL bs lo hi)[k]?.getD 0 = x := ⟨_, rfl⟩
      rw [hx] at hc
      have HE := Lib.hid hx
      clear hx hlk
      cases hg : geB x r with
      | true =>
        have HG : Hid (rstV bs lo hi l r = ((k : Int), 1)) := Lib.hid (HS.out.trans (stopL_ge HLK.out (by rw [HE.out]; exact hg)))
        have hg' : (FloatKind.f32.format.order x r == some Ordering.gt || FloatKind.f32.format.order x r == some Ordering.eq) = true := hg
        clear hg
        go_wp2_with fail
        go_ret3
        exact ⟨by rw [HG.out]; rfl, H2.out.2⟩
      | false =>
        cases hl2 : leB x l with
        | true =>
          have HG : Hid (rstV bs lo hi l r = ((k : Int), -1)) := Lib.hid (HS.out.trans (stopL_le HLK.out (by rw [HE.out]; exact hg) (by rw [HE.out]; exact hl2)))
          have hg' : (FloatKind.f32.format.order x r == some Ordering.gt || FloatKind.f32.format.order x r == some Ordering.eq) = false := hg
          have hl' : (FloatKind.f32.format.order x l == some Ordering.lt || FloatKind.f32.format.order x l == some Ordering.eq) = true := hl2
          clear hg hl2
          go_wp2_with fail
          go_ret3
          exact ⟨by rw [HG.out]; rfl, H2.out.2⟩
        | false =>
          have HG : Hid (rstV bs lo hi l r = stopL l r ((ratL bs lo hi).drop (k + 1)) (k + 1)) := Lib.hid (HS.out.trans (stopL_go HLK.out (by rw [HE.out]; exact hg) (by rw [HE.out]; exact hl2)))
          have hg' : (FloatKind.f32.format.order x r == some Ordering.gt || FloatKind.f32.format.order x r == some Ordering.eq) = false := hg
          have hl' : (FloatKind.f32.format.order x l == some Ordering.lt || FloatKind.f32.format.order x l == some Ordering.eq) = false := hl2
          clear hg hl2
          go_wp2_with fail
          go_round
          case rel => exact ⟨k + 1, by omega, by go_num, HG.out⟩
          case measure => simp [intOf]; omega
    · have HG : Hid (rstV bs lo hi l r = ((bs.length : Int), 0)) := Lib.hid (by rw [HS.out, stopL_end (by rw [HL.out]; omega)]; rw [show k = bs.length by omega])
      go_wp2_with fail
      go_ret3
      exact ⟨by rw [HG.out]; rfl, H2.out.2⟩
set_option maxRecDepth 100000 in
set_option maxHeartbeats 4000000 in
theorem specRst_no (bs : List Bool) (lo hi l r : Nat) (ao : Option Addr) (ca : Nat) (w : World) (hv : ¬rstC bs lo hi l r) (hx : Holds w ao (bl bs)) (hl : bs.length ≤ 1048576) :
    Calls Try.prog 35 #[.slice ao bs.length ca, .float .f32 lo, .float .f32 hi, .float .f32 l, .float .f32 r] w (RetB (.tuple #[.int .i64 0, .int .i64 0, .bool false]) w) := by
  have HX := Lib.hid hx
  unfold rstC at hv
  clear hx
  by_cases h0 : ratC bs lo hi
  · have H0 := Lib.hid h0
    cases h1 : finA .f32 (av .f32 l) with
    | false =>
      have HV := Lib.hid h1
      clear hv h0 h1
      go_enter Try.func35, Try.ntmps35
      go_wp2_with fail
      refine (specRatio_yes bs lo hi ao ca _ H0.out HX.out).mono ?_
      rintro e w1 ⟨ao1, c1, rfl, hrow, hb⟩
      have H1 := Lib.hid hb
      clear hrow hb
      go_wp2_with fail
      refine (l01Finite_any l _).mono ?_
      rintro e w2 ⟨n1, rfl, rfl⟩
      rw [HV.out]
      go_wp2_with fail
      go_ret3
      exact ⟨rfl, by have HBL := H1.out; exact (by repeat (first | with_reducible exact Below.refl _ _ | with_reducible exact HBL | with_reducible refine Below.drew ?_ | with_reducible refine Bel_drewN ?_ _ | with_reducible refine Below.alloc ?_ (by first | omega | (simp; done) | (simp; omega)) _ | with_reducible refine Below.setCell ?_ (by first | omega | (simp; done) | (simp; omega)) _))⟩
    | true =>
      cases h2 : finA .f32 (av .f32 r) with
      | false =>
        have HV := Lib.hid (And.intro h1 h2)
        clear hv h0 h1 h2
        go_enter Try.func35, Try.ntmps35
        go_wp2_with fail
        refine (specRatio_yes bs lo hi ao ca _ H0.out HX.out).mono ?_
        rintro e w1 ⟨ao1, c1, rfl, hrow, hb⟩
        have H1 := Lib.hid hb
        clear hrow hb
        go_wp2_with fail
        refine (l01Finite_any l _).mono ?_
        rintro e w2 ⟨n1, rfl, rfl⟩
        rw [HV.out.1]
        go_wp2_with fail
        refine (l01Finite_any r _).mono ?_
        rintro e w2 ⟨n2, rfl, rfl⟩
        rw [HV.out.2]
        go_wp2_with fail
        go_ret3
        exact ⟨rfl, by have HBL := H1.out; exact (by repeat (first | with_reducible exact Below.refl _ _ | with_reducible exact HBL | with_reducible refine Below.drew ?_ | with_reducible refine Bel_drewN ?_ _ | with_reducible refine Below.alloc ?_ (by first | omega | (simp; done) | (simp; omega)) _ | with_reducible refine Below.setCell ?_ (by first | omega | (simp; done) | (simp; omega)) _))⟩
      | true =>
        have HV := Lib.hid (And.intro h1 h2)
        have h3 : ltB l r = false := by cases h : ltB l r with | false => rfl | true => exact absurd ⟨h0, h1, h2, h⟩ hv
        have hlt : (FloatKind.f32.format.order l r == some Ordering.lt) = false := h3
        clear hv h0 h1 h2 h3
        go_enter Try.func35, Try.ntmps35
        go_wp2_with fail
        refine (specRatio_yes bs lo hi ao ca _ H0.out HX.out).mono ?_
        rintro e w1 ⟨ao1, c1, rfl, hrow, hb⟩
        have H1 := Lib.hid hb
        clear hrow hb
        go_wp2_with fail
        refine (l01Finite_any l _).mono ?_
        rintro e w2 ⟨n1, rfl, rfl⟩
        rw [HV.out.1]
        go_wp2_with fail
        refine (l01Finite_any r _).mono ?_
        rintro e w2 ⟨n2, rfl, rfl⟩
        rw [HV.out.2]
        go_wp2_with fail
        go_ret3
        exact ⟨rfl, by have HBL := H1.out; exact (by repeat (first | with_reducible exact Below.refl _ _ | with_reducible exact HBL | with_reducible refine Below.drew ?_ | with_reducible refine Bel_drewN ?_ _ | with_reducible refine Below.alloc ?_ (by first | omega | (simp; done) | (simp; omega)) _ | with_reducible refine Below.setCell ?_ (by first | omega | (simp; done) | (simp; omega)) _))⟩
  · have H0 := Lib.hid h0
    clear hv h0
    go_enter Try.func35, Try.ntmps35
    go_wp2_with fail
    refine (specRatio_no bs lo hi ao ca _ H0.out HX.out hl).mono ?_
    rintro e w1 ⟨rfl, hb⟩
    have H1 := Lib.hid hb
    clear hb
    go_wp2_with fail
    go_ret3
    exact ⟨rfl, H1.out⟩
end Go.Proofs.Ytlnhobikejbkkaa
