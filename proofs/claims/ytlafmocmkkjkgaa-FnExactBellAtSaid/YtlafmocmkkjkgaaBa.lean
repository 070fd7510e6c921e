/- BellAt: halvings on the bell. -/
import Derived.Test.YtlafmocmkkjkgaaBl
namespace Go.Proofs.Ytlafmocmkkjkgaa
open Go Go.RowKit Fl
set_option linter.unusedVariables false

theorem read_2 : Ieee.single.read 1073741824 = .number false 8388608 (-22) := by decide +kernel
theorem read_05 : Ieee.single.read 1056964608 = .number false 8388608 (-24) := by decide +kernel
theorem av_2 : av .f32 1073741824 = some 1073741824 ∧ av .f32 1056964608 = some 1056964608 := by decide +kernel
/-- A half: divided by two, or times a half. -/
theorem half_eq {s : Nat} {t : Bool} {m : Nat} {i : Int} (hr : Ieee.single.read s = .number t m i) (hm : m < 16777216) : aop .quo .f32 (some s) (some 1073741824) = aop .mul .f32 (some 1056964608) (some s) := by
  have e1 : aop .quo .f32 (some s) (some 1073741824) = ((Ieee.single.read s).quotient (Ieee.single.fractionBits + 2) (Ieee.single.read 1073741824)).map Ieee.single.write := rfl
  have e2 : aop .mul .f32 (some 1056964608) (some s) = ((Ieee.single.read 1056964608).product (Ieee.single.read s)).map Ieee.single.write := rfl
  rw [e1, e2, hr, read_2, read_05]
  simp only [Ieee.Datum.quotient, Ieee.Datum.product]
  rw [if_neg (by decide)]
  simp only [Option.map_some]
  rw [show Ieee.single.fractionBits + 2 = 25 from rfl, show (8388608 : Nat).log2 = 23 by decide]
  congr 1
  show Ieee.single.nearest _ _ _ = Ieee.single.nearest _ _ _
  rcases Nat.eq_zero_or_pos m with h0 | h0
  · subst h0
    simp [Ieee.Format.nearest]
  · have hl : m.log2 ≤ 23 := by have := (Nat.log2_lt (n := m) (by omega) (k := 24)).2 hm; omega
    obtain ⟨q, hq⟩ : ∃ q, 25 + 23 - m.log2 = 23 + q := ⟨25 - m.log2, by omega⟩
    rw [hq]
    have es : m <<< (23 + q) = m * 2 ^ q * 8388608 := by
      rw [Nat.shiftLeft_eq, Nat.pow_add, Nat.mul_comm (2 ^ 23), ← Nat.mul_assoc]
    rw [es, Nat.mul_div_cancel _ (by omega), Nat.mul_mod_left]
    have em : 2 * (m * 2 ^ q) + ((0 : Nat) != 0).toNat = m <<< (q + 1) := by
      rw [show ((0 : Nat) != 0).toNat = 0 from rfl, Nat.shiftLeft_eq, Nat.pow_succ, Nat.add_zero, Nat.mul_comm (2 ^ q) 2, ← Nat.mul_assoc m 2 (2 ^ q), Nat.mul_comm m 2, Nat.mul_assoc]
    have en : 8388608 * m = m <<< 23 := by rw [Nat.shiftLeft_eq, Nat.mul_comm]
    rw [em, en, nearest_scale _ _ _ _ _ (by omega), nearest_scale _ _ _ _ _ (by omega)]
    have ep : i - -22 - ((23 + q : Nat) : Int) - 1 + ((q + 1 : Nat) : Int) = -24 + i + ((23 : Nat) : Int) := by omega
    rw [ep, show (t ^^ false) = (false ^^ t) by cases t <;> rfl]
def R6 : Nat := 1086324736
def R12 : Nat := 1094713344
theorem R6_lt : R6 < FloatKind.f32.format.infRung ∧ R12 < FloatKind.f32.format.infRung ∧ 1056964608 < FloatKind.f32.format.infRung := by decide +kernel
theorem R6_add : vr Ieee.single R6 + vr Ieee.single R6 ≤ vr Ieee.single R12 := by decide +kernel
theorem R6_mul : vr Ieee.single 1056964608 * vr Ieee.single R12 ≤ vr Ieee.single R6 * 2 ^ K0 := by decide +kernel
def midV (l h : Nat) : Option Nat := aop .mul .f32 (some 1056964608) (aop .add .f32 (av .f32 l) (av .f32 h))
def midB (l h : Nat) : Nat := (midV l h).getD 0
theorem sum_in12 {l h : Nat} (hl : In .f32 R6 (av .f32 l)) (hh : In .f32 R6 (av .f32 h)) : In .f32 R12 (aop .add .f32 (av .f32 l) (av .f32 h)) := by
  have a1 := R6_add
  have a2 := R6_lt
  generalize R6 = x at *
  generalize R12 = y at *
  exact In.add hl hh a2.1 a2.1 a2.2.1 a1
theorem mid_in {l h : Nat} (hl : In .f32 R6 (av .f32 l)) (hh : In .f32 R6 (av .f32 h)) : In .f32 R6 (midV l h) := by
  have h1 : In .f32 1056964608 (some 1056964608) := ⟨_, rfl, by decide +kernel⟩
  have h2 := sum_in12 hl hh
  have a1 := R6_mul
  have a2 := R6_lt
  unfold midV
  generalize R6 = x at *
  generalize R12 = y at *
  exact In.mul h1 h2 a2.2.2 a2.2.1 a2.1 a1
theorem in_av {R : Nat} (hR : R < FloatKind.f32.format.infRung) {v : Option Nat} (h : In .f32 R v) : ∃ b, v = some b ∧ av .f32 b = some b ∧ finA .f32 (av .f32 b) = true ∧ In .f32 R (av .f32 b) := by
  have h' := h
  obtain ⟨b, s, m, i, e1, e2, _, _⟩ := h.read hR
  have e2' : Ieee.single.read b = .number s m i := e2
  have ha := av_num e2'
  refine ⟨b, e1, ha, ?_, by rw [ha, ← e1]; exact h'⟩
  exact fin_num e2'
theorem mid_ok {l h : Nat} (hl : In .f32 R6 (av .f32 l)) (hh : In .f32 R6 (av .f32 h)) : midV l h = some (midB l h) ∧ av .f32 (midB l h) = some (midB l h) ∧ finA .f32 (av .f32 (midB l h)) = true ∧ In .f32 R6 (av .f32 (midB l h)) := by
  obtain ⟨b, e1, e2, e3, e4⟩ := in_av R6_lt.1 (mid_in hl hh)
  have : midB l h = b := by unfold midB; rw [e1]; rfl
  rw [this]; exact ⟨e1, e2, e3, e4⟩
theorem mid_m {l h d1 d2 : Nat} (hl : In .f32 R6 (av .f32 l)) (hh : In .f32 R6 (av .f32 h)) (h1 : Fv .f32 (aop .add .f32 (av .f32 l) (av .f32 h)) d1) (h2 : Fv .f32 (aop .mul .f32 (av .f32 1056964608) (av .f32 d1)) d2) : d2 = midB l h := by
  have e : av .f32 d2 = midV l h := by rw [h2.2, h1.2, av_2.2]; rfl
  rw [(mid_ok hl hh).1] at e
  exact av_eq e
theorem mid_q {l h d1 d2 : Nat} (hl : In .f32 R6 (av .f32 l)) (hh : In .f32 R6 (av .f32 h)) (h1 : Fv .f32 (aop .add .f32 (av .f32 l) (av .f32 h)) d1) (h2 : Fv .f32 (aop .quo .f32 (av .f32 d1) (av .f32 1073741824)) d2) : d2 = midB l h := by
  obtain ⟨b, t, m, i, e1, e2, _, _, e5⟩ := (sum_in12 hl hh).read' R6_lt.2.1
  have e2' : Ieee.single.read b = .number t m i := e2
  have e5' : m < 16777216 := e5
  have e : av .f32 d2 = midV l h := by
    rw [h2.2, h1.2, av_2.1]
    unfold midV
    rw [e1]
    exact half_eq e2' e5'
  rw [(mid_ok hl hh).1] at e
  exact av_eq e
theorem ends_in : In .f32 R6 (av .f32 3233808384) ∧ In .f32 R6 (av .f32 1086324736) := ⟨⟨3233808384, by decide +kernel, by decide +kernel⟩, ⟨1086324736, by decide +kernel, by decide +kernel⟩⟩
/-- Where the ends are behind k halvings. -/
def hN (p : Nat) : Nat → Nat × Nat
  | 0 => (3233808384, 1086324736)
  | k + 1 => if ltB (bellR (midB (hN p k).1 (hN p k).2)) p = true then (midB (hN p k).1 (hN p k).2, (hN p k).2) else ((hN p k).1, midB (hN p k).1 (hN p k).2)
theorem hN_in (p : Nat) : ∀ k, In .f32 R6 (av .f32 (hN p k).1) ∧ In .f32 R6 (av .f32 (hN p k).2)
  | 0 => ends_in
  | k + 1 => by
    obtain ⟨h1, h2⟩ := hN_in p k
    have h3 := (mid_ok h1 h2).2.2.2
    show In .f32 R6 (av .f32 (if _ then _ else _ : Nat × Nat).1) ∧ In .f32 R6 (av .f32 (if _ then _ else _ : Nat × Nat).2)
    split
    · exact ⟨h3, h2⟩
    · exact ⟨h1, h3⟩
theorem hN_yes {p k l h : Nat} (hl : hN p k = (l, h)) (hb : ltB (bellR (midB l h)) p = true) : hN p (k + 1) = (midB l h, h) := by
  show (if _ then _ else _ : Nat × Nat) = _
  rw [hl, if_pos hb]
theorem hN_no {p k l h : Nat} (hl : hN p k = (l, h)) (hb : ltB (bellR (midB l h)) p = false) : hN p (k + 1) = (l, midB l h) := by
  show (if _ then _ else _ : Nat × Nat) = _
  rw [hl, if_neg (by rw [hb]; exact Bool.false_ne_true)]
def RetQ (f : Nat → Value) (v : Option Nat) (w : World) (e : Ending) (w' : World) : Prop := ∃ r, e = .returned (f r) ∧ (True ∧ av .f32 r = v) ∧ Below w.heap.size w w'
def inB (p : Nat) : Bool := gtB p 0 && ltB p 1065353216
theorem inB_yes {p : Nat} (h : inB p = true) : (geB p 0 && leB p 1065353216) = true ∧ (FloatKind.f32.format.order p 0 == some Ordering.eq) = false ∧ (FloatKind.f32.format.order p 1065353216 == some Ordering.eq) = false ∧ (FloatKind.f32.format.order p 0 == some Ordering.gt) = true ∧ (FloatKind.f32.format.order p 1065353216 == some Ordering.lt) = true := by
  unfold inB gtB ltB at h
  unfold geB leB
  generalize FloatKind.f32.format.order p 0 = x at *
  generalize FloatKind.f32.format.order p 1065353216 = y at *
  revert h
  rcases x with _ | (_ | _ | _) <;> rcases y with _ | (_ | _ | _) <;> decide
theorem inB_no {p : Nat} (h : inB p = false) : (geB p 0 && leB p 1065353216) = false ∨ ((geB p 0 && leB p 1065353216) = true ∧ (FloatKind.f32.format.order p 0 == some Ordering.eq) = true) ∨ ((geB p 0 && leB p 1065353216) = true ∧ (FloatKind.f32.format.order p 0 == some Ordering.eq) = false ∧ (FloatKind.f32.format.order p 1065353216 == some Ordering.eq) = true) := by
  unfold inB gtB ltB at h
  unfold geB leB
  generalize FloatKind.f32.format.order p 0 = x at *
  generalize FloatKind.f32.format.order p 1065353216 = y at *
  revert h
  rcases x with _ | (_ | _ | _) <;> rcases y with _ | (_ | _ | _) <;> decide
set_option maxRecDepth 100000 in
set_option maxHeartbeats 1000000 in
theorem implBa_yes (p : Nat) (h : inB p = true) (w : World) : Calls Try.prog 16 #[.float .f32 p] w (RetQ (fun r => .tuple #[.float .f32 r, .bool true]) (av .f32 (hN p 40).1) w) := by
  obtain ⟨g1, g2, g3, _, _⟩ := inB_yes h
  clear h
  go_enter Try.func16, Try.ntmps16
  go_wp2_with (first | (go_at_call 55; fail))
  refine (isWithin_any _ _ _ _).mono ?_
  rintro e w' ⟨rfl, rfl⟩
  rw [g1]
  go_wp2
  clear g1 g2 g3
  go_loopw [4, 5, 18] (fun lo hi k wr => ∃ j l h n : Nat, j ≤ 40 ∧ k = .int .i64 j ∧ lo = .float .f32 l ∧ hi = .float .f32 h ∧ hN p j = (l, h) ∧ wr = w.drewN n) (fun _ _ k _ => 40 - (intOf k).toNat)
  case atStart => exact ⟨0, _, _, 0, Nat.zero_le _, rfl, rfl, rfl, rfl, rfl⟩
  case round =>
    obtain ⟨j, l, h, n, hj, rfl, rfl, rfl, hh, rfl⟩ := hrel
    have hi0 := hN_in p j
    rw [hh] at hi0
    have HI : Hid (In .f32 R6 (av .f32 l) ∧ In .f32 R6 (av .f32 h)) := Lib.hid hi0
    have HH := Lib.hid hh
    clear hi0 hh
    by_cases hlt : j < 40
    · have HM := Lib.hid (mid_ok HI.out.1 HI.out.2)
      go_wp2_with (first | (refine wpList_farith (dst := some 22) _ _ _ _ _ .f32 _ _ rfl rfl rfl ?_; intro d1 n1 h1) | (refine wpList_farith (dst := some 23) _ _ _ _ _ .f32 _ _ rfl rfl rfl ?_; intro d2 n2 h2; have E := mid_q HI.out.1 HI.out.2 h1 h2; clear h1 h2; subst E) | (go_at_call 56; fail))
      cases hb : ltB (bellR (midB l h)) p with
      | true =>
        have HY := Lib.hid (hN_yes HH.out hb)
        generalize midB l h = M at *
        refine (implBell_any M HM.out.2.2.1 _).mono ?_
        rintro e w' ⟨n3, rfl, rfl⟩
        have g := (show (FloatKind.f32.format.order (bellR M) p == some Ordering.lt) = _ from hb)
        generalize bellR M = R at *
        clear hb
        go_wp2
        go_roundw
        case rel => exact ⟨j + 1, M, h, _, by omega, by go_num, rfl, rfl, HY.out, by first | rfl | simp⟩
        case measure => simp [intOf]; omega
      | false =>
        have HY := Lib.hid (hN_no HH.out hb)
        generalize midB l h = M at *
        refine (implBell_any M HM.out.2.2.1 _).mono ?_
        rintro e w' ⟨n3, rfl, rfl⟩
        have g := (show (FloatKind.f32.format.order (bellR M) p == some Ordering.lt) = _ from hb)
        generalize bellR M = R at *
        clear hb
        go_wp2
        go_roundw
        case rel => exact ⟨j + 1, l, M, _, by omega, by go_num, rfl, rfl, HY.out, by first | rfl | simp⟩
        case measure => simp [intOf]; omega
    · obtain rfl : j = 40 := by omega
      go_wp2
      go_ret2
      exact ⟨l, rfl, ⟨trivial, by rw [HH.out]⟩, (by repeat (first | with_reducible exact Below.refl _ _ | with_reducible exact HBL | with_reducible refine Below.drew ?_ | with_reducible refine Bel_drewN ?_ _ | with_reducible refine Below.alloc ?_ (by first | omega | (simp; done) | (simp; omega)) _ | with_reducible refine Below.setCell ?_ (by first | omega | (simp; done) | (simp; omega)) _))⟩
set_option maxRecDepth 100000 in
theorem implBa_no (p : Nat) (h : inB p = false) (w : World) : Calls Try.prog 16 #[.float .f32 p] w (RetQ (fun r => .tuple #[.float .f32 r, .bool false]) (av .f32 0) w) := by
  rcases inB_no h with g1 | ⟨g1, g2⟩ | ⟨g1, g2, g3⟩
  all_goals
    clear h
    go_enter Try.func16, Try.ntmps16
    go_wp2_with (first | (go_at_call 55; fail))
    refine (isWithin_any _ _ _ _).mono ?_
    rintro e w' ⟨rfl, rfl⟩
    rw [g1]
    go_wp2
    go_ret2
    exact ⟨0, rfl, ⟨trivial, rfl⟩, (by repeat (first | with_reducible exact Below.refl _ _ | with_reducible exact HBL | with_reducible refine Below.drew ?_ | with_reducible refine Bel_drewN ?_ _ | with_reducible refine Below.alloc ?_ (by first | omega | (simp; done) | (simp; omega)) _ | with_reducible refine Below.setCell ?_ (by first | omega | (simp; done) | (simp; omega)) _))⟩
set_option maxRecDepth 100000 in
set_option maxHeartbeats 1000000 in
theorem specBa_yes (p : Nat) (h : inB p = true) (w : World) : Calls Try.prog 15 #[.float .f32 p] w (RetQ (fun r => .tuple #[.float .f32 r, .bool true]) (av .f32 (hN p 40).1) w) := by
  obtain ⟨_, _, _, g1, g2⟩ := inB_yes h
  clear h
  go_enter Try.func15, Try.ntmps15
  go_wp2
  clear g1 g2
  go_loopw [4, 5, 6] (fun lo hi k wr => ∃ j l h n : Nat, j ≤ 40 ∧ k = .int .i64 j ∧ lo = .float .f32 l ∧ hi = .float .f32 h ∧ hN p j = (l, h) ∧ wr = w.drewN n) (fun _ _ k _ => 40 - (intOf k).toNat)
  case atStart => exact ⟨0, _, _, 0, Nat.zero_le _, rfl, rfl, rfl, rfl, rfl⟩
  case round =>
    obtain ⟨j, l, h, n, hj, rfl, rfl, rfl, hh, rfl⟩ := hrel
    have hi0 := hN_in p j
    rw [hh] at hi0
    have HI : Hid (In .f32 R6 (av .f32 l) ∧ In .f32 R6 (av .f32 h)) := Lib.hid hi0
    have HH := Lib.hid hh
    clear hi0 hh
    by_cases hlt : j < 40
    · have HM := Lib.hid (mid_ok HI.out.1 HI.out.2)
      go_wp2_with (first | (refine wpList_farith (dst := some 21) _ _ _ _ _ .f32 _ _ rfl rfl rfl ?_; intro d1 n1 h1) | (refine wpList_farith (dst := some 22) _ _ _ _ _ .f32 _ _ rfl rfl rfl ?_; intro d2 n2 h2; have E := mid_m HI.out.1 HI.out.2 h1 h2; clear h1 h2; subst E) | (go_at_call 54; fail))
      cases hb : ltB (bellR (midB l h)) p with
      | true =>
        have HY := Lib.hid (hN_yes HH.out hb)
        generalize midB l h = M at *
        refine (l05Bell_any M HM.out.2.2.1 _).mono ?_
        rintro e w' ⟨n3, rfl, rfl⟩
        have g := (show (FloatKind.f32.format.order (bellR M) p == some Ordering.lt) = _ from hb)
        generalize bellR M = R at *
        clear hb
        go_wp2
        go_roundw
        case rel => exact ⟨j + 1, M, h, _, by omega, by go_num, rfl, rfl, HY.out, by first | rfl | simp⟩
        case measure => simp [intOf]; omega
      | false =>
        have HY := Lib.hid (hN_no HH.out hb)
        generalize midB l h = M at *
        refine (l05Bell_any M HM.out.2.2.1 _).mono ?_
        rintro e w' ⟨n3, rfl, rfl⟩
        have g := (show (FloatKind.f32.format.order (bellR M) p == some Ordering.lt) = _ from hb)
        generalize bellR M = R at *
        clear hb
        go_wp2
        go_roundw
        case rel => exact ⟨j + 1, l, M, _, by omega, by go_num, rfl, rfl, HY.out, by first | rfl | simp⟩
        case measure => simp [intOf]; omega
    · obtain rfl : j = 40 := by omega
      go_wp2
      go_ret2
      exact ⟨l, rfl, ⟨trivial, by rw [HH.out]⟩, (by repeat (first | with_reducible exact Below.refl _ _ | with_reducible exact HBL | with_reducible refine Below.drew ?_ | with_reducible refine Bel_drewN ?_ _ | with_reducible refine Below.alloc ?_ (by first | omega | (simp; done) | (simp; omega)) _ | with_reducible refine Below.setCell ?_ (by first | omega | (simp; done) | (simp; omega)) _))⟩
set_option maxRecDepth 100000 in
theorem specBa_no (p : Nat) (h : inB p = false) (w : World) : Calls Try.prog 15 #[.float .f32 p] w (RetQ (fun r => .tuple #[.float .f32 r, .bool false]) (av .f32 0) w) := by
  unfold inB at h
  cases g1 : gtB p 0 with
  | false =>
    have d1 := (show (FloatKind.f32.format.order p 0 == some Ordering.gt) = _ from g1)
    clear h g1
    go_enter Try.func15, Try.ntmps15
    go_wp2
    go_ret2
    exact ⟨0, rfl, ⟨trivial, rfl⟩, (by repeat (first | with_reducible exact Below.refl _ _ | with_reducible exact HBL | with_reducible refine Below.drew ?_ | with_reducible refine Bel_drewN ?_ _ | with_reducible refine Below.alloc ?_ (by first | omega | (simp; done) | (simp; omega)) _ | with_reducible refine Below.setCell ?_ (by first | omega | (simp; done) | (simp; omega)) _))⟩
  | true =>
    rw [g1, Bool.true_and] at h
    have d1 := (show (FloatKind.f32.format.order p 0 == some Ordering.gt) = _ from g1)
    have d2 := (show (FloatKind.f32.format.order p 1065353216 == some Ordering.lt) = _ from h)
    clear h g1
    go_enter Try.func15, Try.ntmps15
    go_wp2
    go_ret2
    exact ⟨0, rfl, ⟨trivial, rfl⟩, (by repeat (first | with_reducible exact Below.refl _ _ | with_reducible exact HBL | with_reducible refine Below.drew ?_ | with_reducible refine Bel_drewN ?_ _ | with_reducible refine Below.alloc ?_ (by first | omega | (simp; done) | (simp; omega)) _ | with_reducible refine Below.setCell ?_ (by first | omega | (simp; done) | (simp; omega)) _))⟩
end Go.Proofs.Ytlafmocmkkjkgaa
