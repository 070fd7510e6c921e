/- The first hit: what the code and its model return. -/
import Derived.Test.YtlipdegiihojfaaFo
namespace Go.Proofs.Ytlipdegiihojfaa
open Go Go.RowKit Fl
set_option linter.unusedVariables false

def omx (x : Nat) : Nat := (Ieee.single.sub 1065353216 x).getD 0
theorem omx_is {x : Nat} (h : ∃ s m i, Ieee.single.read x = .number s m i) : Ieee.single.sub 1065353216 x = some (omx x) := by
  obtain ⟨s, m, i, h⟩ := h
  unfold omx Ieee.Format.sub
  rw [h, read1_32]
  rfl
/-- A share that is more than 0 and at most 1. -/
def hitB (x : Nat) : Bool := gtB x 0 && leB x 1065353216
def isOne (x : Nat) : Bool := FloatKind.f32.format.order x 1065353216 == some Ordering.eq
theorem hit_num {x : Nat} (h : hitB x = true) : ∃ s m i, Ieee.single.read x = .number s m i := by
  unfold hitB at h
  rw [Bool.and_eq_true] at h
  obtain ⟨h1, h2⟩ := h
  rcases read_single x with ⟨s, m, i, e, _⟩ | ⟨s, e⟩ | ⟨s, f, e⟩
  · exact ⟨s, m, i, e⟩
  · exfalso
    have e0 : FloatKind.f32.format.order x 0 = some (if s = true then .lt else .gt) := ord0_inf e
    have e9 : FloatKind.f32.format.order x 1065353216 = some (if s = true then .lt else .gt) := by
      show Ieee.single.order x 1065353216 = _
      unfold Ieee.Format.order
      rw [e, read1_32]; rfl
    unfold gtB at h1; unfold leB at h2
    rw [e0] at h1; rw [e9] at h2
    cases s
    · cases h2
    · cases h1
  · exfalso
    have e0 : FloatKind.f32.format.order x 0 = none := by
      show Ieee.single.order x 0 = none
      unfold Ieee.Format.order
      exact order_nan_l (by rw [e]; rfl)
    unfold gtB at h1
    rw [e0] at h1; cases h1
theorem hit_tests {x : Nat} : hitB x = ((geB x 0 && leB x 1065353216) && !(FloatKind.f32.format.order x 0 == some Ordering.eq)) := by
  unfold hitB gtB geB
  cases ho : FloatKind.f32.format.order x 0 with
  | none => simp
  | some o => cases o <;> cases leB x 1065353216 <;> rfl
/-- How many miss, as a number. -/
noncomputable def missV (k : Int) (a b x : Nat) : Option Nat := aop .quo .f32 (logV (oml (shK k a b))) (logV (omx x))
/-- How many miss; none if they are too many, or there is no number. -/
noncomputable def missO (k : Int) (a b x : Nat) : Option Int :=
  if vSeed k a b = true ∧ hitB x = true then
    if isOne x = true then some 0 else match missV k a b x with
      | none => none
      | some r => if inB r = true then (Ieee.double.read (floorB (Ieee.double.write (Ieee.single.read r)))).toInt .zero else none
  else none
theorem quiet_nan (s : Bool) (t : Nat) : av .f64 (FloatKind.f64.encode (.nan s (FloatKind.f64.format.quiet t))) = none := by
  have e : FloatKind.f64.encode (.nan s (FloatKind.f64.format.quiet t)) = Ieee.double.word s (Ieee.double.infRung + (t ||| 2251799813685248) % 4503599627370496) := rfl
  have h1 : (t ||| 2251799813685248) % 4503599627370496 = t % 4503599627370496 ||| 2251799813685248 := Nat.or_mod_two_pow (a := t) (b := 2251799813685248) (n := 52)
  have h2 : 2251799813685248 ≤ t % 4503599627370496 ||| 2251799813685248 := Nat.right_le_or
  have h3 : t % 4503599627370496 ||| 2251799813685248 < 4503599627370496 := Nat.or_lt_two_pow (n := 52) (Nat.mod_lt _ (by decide)) (by decide)
  rw [e, h1]
  generalize t % 4503599627370496 ||| 2251799813685248 = q at *
  have hi := double_inf
  have hs := double_sw
  unfold av
  rw [if_pos]
  refine isNaN_of .f64 _ ?_
  show Ieee.double.infRung < Ieee.double.word s (Ieee.double.infRung + q) % Ieee.double.signWeight
  rw [(read_word_sign Ieee.double s (rung := Ieee.double.infRung + q) (by omega)).1]
  omega
theorem floor_nan (b : Nat) (w : World) (h : (Ieee.double.read b).isNaN = true) : ∃ r n, (callFunc 101 #[.float .f64 b]).run Try.prog w = .ok (.value (.float .f64 r)) (w.drewN n) ∧ av .f64 r = none := by
  rw [run_floor_raw, floor_eq]
  have hd : FloatKind.f64.decode b = Ieee.double.read b := rfl
  rw [hd]
  cases he : Ieee.double.read b with
  | number s m i => rw [he] at h; cases h
  | infinity s => rw [he] at h; cases h
  | nan s t =>
    have hb : av .f64 b = none := by unfold av; rw [if_pos]; show (Ieee.double.read b).isNaN = true; rw [he]; rfl
    by_cases hq : FloatKind.f64.format.quiet t = t
    · refine ⟨b, 0, ?_, hb⟩
      simp [hq, World.drewN_zero]
    · refine ⟨_, 1, by simp [hq, Go.choose, Sem.run, Question.forced, World.drew_is_drewN]; rfl, ?_⟩
      split
      · exact hb
      · exact quiet_nan s t
set_option maxRecDepth 100000 in
theorem Floor_none (b : Nat) (w : World) (h : (Ieee.double.read b).isNaN = true) : Calls Try.prog 59 #[.float .f64 b] w (fun e w' => ∃ r n, e = .returned (.float .f64 r) ∧ av .f64 r = none ∧ w' = w.drewN n) := by
  obtain ⟨r, n, hr, ha⟩ := floor_nan b w h
  have HA := Lib.hid ha
  clear h ha
  go_enter Try.func59, Try.ntmps59
  go_wp2
  go_ret
  exact ⟨r, n, rfl, HA.out, rfl⟩
theorem run_widen_num {P : Program} {b : Nat} (hb : (Ieee.single.read b).isNaN = false) (w : World) : (Conv.floatToFloat .f32 b .f64).run P w = .ok (.float .f64 (Ieee.double.write (Ieee.single.read b))) w := by
  rcases read_single b with ⟨s, m, i, e, hm⟩ | ⟨s, e⟩ | ⟨s, f, e⟩
  · have hi := wide_not_inf b s m i e
    rw [e] at hi ⊢
    simp [Conv.floatToFloat, FloatKind.decode, FloatKind.encode, FloatKind.format, e, hi]
  · rw [e]
    simp [Conv.floatToFloat, FloatKind.decode, FloatKind.encode, FloatKind.format, e]
  · rw [e] at hb; cases hb
theorem run_toint {P : Program} {b : Nat} {n : Int} (h : (Ieee.double.read b).toInt .zero = some n) (hn : n.natAbs < 4503599627370496) (w : World) : (Conv.floatToInt .f64 b .i64).run P w = .ok (.int .i64 n) w := by
  have h1 : IntKind.i64.min ≤ n := by have : IntKind.i64.min = -9223372036854775808 := by decide
                                      omega
  have h2 : n ≤ 9223372036854775807 := by omega
  simp [Conv.floatToInt, FloatKind.decode, FloatKind.format, h, h1, h2]
theorem convert_wide {P : Program} {src dt : TypeId} (hs : P.underlying src = some (.float .f32)) (hd : P.underlying dt = some (.float .f64)) (b : Nat) (w : World) : (convert src dt (.float .f32 b)).run P w = (Conv.floatToFloat .f32 b .f64).run P w := by
  simp [convert, run_underlying hs, run_underlying hd]
theorem convert_int {P : Program} {src dt : TypeId} (hs : P.underlying src = some (.float .f64)) (hd : P.underlying dt = some (.int .i64)) (b : Nat) (w : World) : (convert src dt (.float .f64 b)).run P w = (Conv.floatToInt .f64 b .i64).run P w := by
  simp [convert, run_underlying hs, run_underlying hd]
theorem missV_Fv {k : Int} {a b x r1 r2 r3 : Nat} (h1 : Fv .f32 (logV (oml (shK k a b))) r1) (h2 : Fv .f32 (logV (omx x)) r2) (h3 : Fv .f32 (aop .quo .f32 (av .f32 r1) (av .f32 r2)) r3) : Fv .f32 (missV k a b x) r3 := by
  unfold missV; rw [← h1.2, ← h2.2]; exact h3
theorem one_sub {P : Program} {x : Nat} (h : ∃ s m i, Ieee.single.read x = .number s m i) (t : TypeId) (w : World) : (binOp .sub t (.float .f32 1065353216) (.float .f32 x)).run P w = .ok (.float .f32 (omx x)) w := run_float_arith w _ _ _ _ _ _ (omx_is h)
theorem omx_lt {x : Nat} (h : ∃ s m i, Ieee.single.read x = .number s m i) : omx x < 4294967296 := Ieee.single.sub_lt (omx_is h)
set_option maxRecDepth 100000 in
set_option maxHeartbeats 1000000 in
theorem implFirst_one (k : Int) (a b x : Nat) (w : World) (hs : sOk k a b) (hx : hitB x = true) (h1 : isOne x = true) :
    Calls Try.prog 17 #[sd k a b, .float .f32 x] w (RetB (.tuple #[sd k (nxA k a b) (nxB k a b), .int .i64 0, .bool true]) w) := by
  have hq1 : (FloatKind.f32.format.order x 1065353216 == some Ordering.eq) = true := h1
  have HS := Lib.hid hs
  have hw := hit_tests (x := x)
  rw [hx] at hw
  have hw1 : (geB x 0 && leB x 1065353216) = true := by cases h : (geB x 0 && leB x 1065353216) with | true => rfl | false => rw [h] at hw; cases hw
  have hq0 : (FloatKind.f32.format.order x 0 == some Ordering.eq) = false := by cases h : (FloatKind.f32.format.order x 0 == some Ordering.eq) with | false => rfl | true => rw [h, Bool.not_true, Bool.and_false] at hw; cases hw
  have HN := Lib.hid (hit_num hx)
  have HW := Lib.hid hw1
  have HX := Lib.hid hx
  clear hs hw hw1 hx
  clear h1
  go_enter Try.func17, Try.ntmps17
  go_wp2_with fail
  refine (ValidSeed_any _ _ _ _).mono ?_
  rintro e w1 ⟨rfl, rfl⟩
  rw [HS.out.1]
  go_wp2_with (first | (go_at_call 62; fail))
  refine (isWithin_any _ _ _ _).mono ?_
  rintro e w' ⟨rfl, rfl⟩
  rw [HW.out]
  generalize hW : World.alloc (World.alloc (World.alloc _ _) _) _ = w0
  have hH : Below w.heap.size w w0 ∧ Whole w0 w.heap.size 26 (sdC k a b) ∧ Whole w0 (w.heap.size + 1) 26 (sdC 0 0 0) := by
    rw [← hW]
    exact ⟨(by repeat (first | with_reducible exact Below.refl _ _ | with_reducible exact HBL | with_reducible refine Below.drew ?_ | with_reducible refine Bel_drewN ?_ _ | with_reducible refine Below.alloc ?_ (by first | omega | (simp; done) | (simp; omega)) _ | with_reducible refine Below.setCell ?_ (by first | omega | (simp; done) | (simp; omega)) _)), ((Whole.made _ _ _).alloc _).alloc _, (Whole.made2 _ _ _ _).alloc _⟩
  have H0 := Lib.hid hH
  obtain ⟨hc0, hf0⟩ := hH.2.1.facts
  have hz0 := hH.2.1.lt
  clear hH hW
  go_wp2_with (first | (go_at_call 63; fail))
  refine (drawShare_any _ _ _ _ HS.out).mono ?_
  rintro e w2 ⟨rfl, hb2⟩
  have hbb : Below w0.heap.size w0 w2 := hb2
  have r0 := H0.out.2.1.below hbb
  have r1 := H0.out.2.2.below hbb
  have HBL : Below w.heap.size w w2 := Bel_next H0.out.1 hbb
  clear hc0 hf0
  obtain ⟨hc0, hf0⟩ := r0.facts
  obtain ⟨hc1, hf1⟩ := r1.facts
  have hz20 := r0.lt
  have hz21 := r1.lt
  have H2 := Lib.hid (And.intro HBL (And.intro r0 r1))
  clear HBL r0 r1 hb2 hbb hq0
  go_wp2_with (first | (go_at_call 64; fail))
  obtain ⟨HBL, q0, q1⟩ := H2.out
  exact bodyPost_ret (v := .tuple #[sd k (nxA k a b) (nxB k a b), .int .i64 0, .bool true]) (by simp [results, Try.results17, go_sem, hc1]) rfl ⟨rfl, (by repeat (first | with_reducible exact Below.refl _ _ | with_reducible exact HBL | with_reducible refine Below.drew ?_ | with_reducible refine Bel_drewN ?_ _ | with_reducible refine Below.alloc ?_ (by first | omega | (simp; done) | (simp; omega)) _ | with_reducible refine Below.setCell ?_ (by first | omega | (simp; done) | (simp; omega)) _))⟩
set_option maxRecDepth 100000 in
set_option maxHeartbeats 1000000 in
theorem implFirst_nan (k : Int) (a b x : Nat) (w : World) (hs : sOk k a b) (hx : hitB x = true) (h1 : isOne x = false) (hV : missV k a b x = none) :
    Calls Try.prog 17 #[sd k a b, .float .f32 x] w (RetB (.tuple #[sd 0 0 0, .int .i64 0, .bool false]) w) := by
  have hq1 : (FloatKind.f32.format.order x 1065353216 == some Ordering.eq) = false := h1
  have HV := Lib.hid hV
  have HS := Lib.hid hs
  have hw := hit_tests (x := x)
  rw [hx] at hw
  have hw1 : (geB x 0 && leB x 1065353216) = true := by cases h : (geB x 0 && leB x 1065353216) with | true => rfl | false => rw [h] at hw; cases hw
  have hq0 : (FloatKind.f32.format.order x 0 == some Ordering.eq) = false := by cases h : (FloatKind.f32.format.order x 0 == some Ordering.eq) with | false => rfl | true => rw [h, Bool.not_true, Bool.and_false] at hw; cases hw
  have HN := Lib.hid (hit_num hx)
  have HW := Lib.hid hw1
  have HX := Lib.hid hx
  clear hs hw hw1 hx
  clear h1 hV
  have hm : ∀ (t : TypeId) (w : World), (binOp .sub t (.float .f32 1065353216) (.float .f32 (shK k a b))).run Try.prog w = .ok (.float .f32 (oml (shK k a b))) w := fun t w => oml_run HS.out t w
  have hm2 : ∀ (t : TypeId) (w : World), (binOp .sub t (.float .f32 1065353216) (.float .f32 x)).run Try.prog w = .ok (.float .f32 (omx x)) w := fun t w => one_sub HN.out t w
  have HO := Lib.hid (And.intro (oml_lt HS.out) (omx_lt HN.out))
  have HM : Hid (∀ {r1 r2 r3 : Nat}, Fv .f32 (logV (oml (shK k a b))) r1 → Fv .f32 (logV (omx x)) r2 → Fv .f32 (aop .quo .f32 (av .f32 r1) (av .f32 r2)) r3 → Fv .f32 (missV k a b x) r3) := Lib.hid missV_Fv
  generalize oml (shK k a b) = c at *
  generalize omx x = d at *
  go_enter Try.func17, Try.ntmps17
  go_wp2_with fail
  refine (ValidSeed_any _ _ _ _).mono ?_
  rintro e w1 ⟨rfl, rfl⟩
  rw [HS.out.1]
  go_wp2_with (first | (go_at_call 62; fail))
  refine (isWithin_any _ _ _ _).mono ?_
  rintro e w' ⟨rfl, rfl⟩
  rw [HW.out]
  generalize hW : World.alloc (World.alloc (World.alloc _ _) _) _ = w0
  have hH : Below w.heap.size w w0 ∧ Whole w0 w.heap.size 26 (sdC k a b) ∧ Whole w0 (w.heap.size + 1) 26 (sdC 0 0 0) := by
    rw [← hW]
    exact ⟨(by repeat (first | with_reducible exact Below.refl _ _ | with_reducible exact HBL | with_reducible refine Below.drew ?_ | with_reducible refine Bel_drewN ?_ _ | with_reducible refine Below.alloc ?_ (by first | omega | (simp; done) | (simp; omega)) _ | with_reducible refine Below.setCell ?_ (by first | omega | (simp; done) | (simp; omega)) _)), ((Whole.made _ _ _).alloc _).alloc _, (Whole.made2 _ _ _ _).alloc _⟩
  have H0 := Lib.hid hH
  obtain ⟨hc0, hf0⟩ := hH.2.1.facts
  have hz0 := hH.2.1.lt
  clear hH hW
  go_wp2_with (first | (go_at_call 63; fail))
  refine (drawShare_any _ _ _ _ HS.out).mono ?_
  rintro e w2 ⟨rfl, hb2⟩
  have hbb : Below w0.heap.size w0 w2 := hb2
  have r0 := H0.out.2.1.below hbb
  have r1 := H0.out.2.2.below hbb
  have HBL : Below w.heap.size w w2 := Bel_next H0.out.1 hbb
  clear hc0 hf0
  obtain ⟨hc0, hf0⟩ := r0.facts
  obtain ⟨hc1, hf1⟩ := r1.facts
  have hz20 := r0.lt
  have hz21 := r1.lt
  have H2 := Lib.hid (And.intro HBL (And.intro r0 r1))
  clear HBL r0 r1 hb2 hbb hq0
  go_wp2_with (first | (go_at_call 64; fail))
  clear hc0 hf0 hc1 hf1 hm
  generalize hW : World.setCell (World.setCell (World.setCell _ _ _) _ _) _ _ = w3
  have hH : Below w.heap.size w w3 ∧ Whole w3 w.heap.size 26 (sdC k (nxA k a b) (nxB k a b)) ∧ Whole w3 (w.heap.size + 1) 26 (sdC 0 0 0) := by
    obtain ⟨HBL, q0, q1⟩ := H2.out
    rw [← hW]
    exact ⟨(by repeat (first | with_reducible exact Below.refl _ _ | with_reducible exact HBL | with_reducible refine Below.drew ?_ | with_reducible refine Bel_drewN ?_ _ | with_reducible refine Below.alloc ?_ (by first | omega | (simp; done) | (simp; omega)) _ | with_reducible refine Below.setCell ?_ (by first | omega | (simp; done) | (simp; omega)) _)), ((q0.put 0 _).put 1 _).put 2 _, ((q1.far (by first | omega | (simp; done) | (simp; omega)) _).far (by first | omega | (simp; done) | (simp; omega)) _).far (by first | omega | (simp; done) | (simp; omega)) _⟩
  have H3 := Lib.hid hH
  clear hH hW H2
  refine (implLog_any c HO.out.1 _).mono ?_
  rintro e w' ⟨r, n2, rfl, hr, rfl⟩
  have HR := Lib.hid hr
  clear hr
  go_wp2_with (first | (go_at_call 64; fail))
  refine (implLog_any d HO.out.2 _).mono ?_
  rintro e w' ⟨r2, n3, rfl, hr, rfl⟩
  have HR2 := Lib.hid hr
  clear hr hm2
  obtain ⟨hc0, hf0⟩ := H3.out.2.1.facts
  obtain ⟨hc1, hf1⟩ := H3.out.2.2.facts
  have hz31 := H3.out.2.2.lt
  have hz30 := H3.out.2.1.lt
  go_wp2_with (first | (go_at_call 62; fail) | (refine wpList_farith _ _ _ _ _ .f32 _ _ rfl rfl rfl ?_; intro r3 n4 hr3; have HQ := Lib.hid (HM.out HR.out HR2.out hr3); clear hr3))
  refine (isWithin_any _ _ _ _).mono ?_
  rintro e w' ⟨rfl, rfl⟩
  have hin : (geB r3 0 && leB r3 1315859240) = inB r3 := rfl
  rw [hin]
  clear hin
  have HI : Hid (inB r3 = false) := Lib.hid (inB_nan (HQ.out.2.trans HV.out))
  rw [HI.out]
  clear HI
  go_wp2_with fail
  obtain ⟨HBL, q0, q1⟩ := H3.out
  exact bodyPost_ret (v := .tuple #[sd 0 0 0, .int .i64 0, .bool false]) (by simp [results, Try.results17, go_sem, hc1]) rfl ⟨rfl, (by repeat (first | with_reducible exact Below.refl _ _ | with_reducible exact HBL | with_reducible refine Below.drew ?_ | with_reducible refine Bel_drewN ?_ _ | with_reducible refine Below.alloc ?_ (by first | omega | (simp; done) | (simp; omega)) _ | with_reducible refine Below.setCell ?_ (by first | omega | (simp; done) | (simp; omega)) _))⟩
set_option maxRecDepth 100000 in
set_option maxHeartbeats 1000000 in
theorem implFirst_out (k : Int) (a b x : Nat) (w : World) (hs : sOk k a b) (hx : hitB x = true) (h1 : isOne x = false) (r0 : Nat) (hV : missV k a b x = some r0 ∧ inB r0 = false) :
    Calls Try.prog 17 #[sd k a b, .float .f32 x] w (RetB (.tuple #[sd 0 0 0, .int .i64 0, .bool false]) w) := by
  have hq1 : (FloatKind.f32.format.order x 1065353216 == some Ordering.eq) = false := h1
  have HV := Lib.hid hV
  have HS := Lib.hid hs
  have hw := hit_tests (x := x)
  rw [hx] at hw
  have hw1 : (geB x 0 && leB x 1065353216) = true := by cases h : (geB x 0 && leB x 1065353216) with | true => rfl | false => rw [h] at hw; cases hw
  have hq0 : (FloatKind.f32.format.order x 0 == some Ordering.eq) = false := by cases h : (FloatKind.f32.format.order x 0 == some Ordering.eq) with | false => rfl | true => rw [h, Bool.not_true, Bool.and_false] at hw; cases hw
  have HN := Lib.hid (hit_num hx)
  have HW := Lib.hid hw1
  have HX := Lib.hid hx
  clear hs hw hw1 hx
  clear h1 hV
  have hm : ∀ (t : TypeId) (w : World), (binOp .sub t (.float .f32 1065353216) (.float .f32 (shK k a b))).run Try.prog w = .ok (.float .f32 (oml (shK k a b))) w := fun t w => oml_run HS.out t w
  have hm2 : ∀ (t : TypeId) (w : World), (binOp .sub t (.float .f32 1065353216) (.float .f32 x)).run Try.prog w = .ok (.float .f32 (omx x)) w := fun t w => one_sub HN.out t w
  have HO := Lib.hid (And.intro (oml_lt HS.out) (omx_lt HN.out))
  have HM : Hid (∀ {r1 r2 r3 : Nat}, Fv .f32 (logV (oml (shK k a b))) r1 → Fv .f32 (logV (omx x)) r2 → Fv .f32 (aop .quo .f32 (av .f32 r1) (av .f32 r2)) r3 → Fv .f32 (missV k a b x) r3) := Lib.hid missV_Fv
  generalize oml (shK k a b) = c at *
  generalize omx x = d at *
  go_enter Try.func17, Try.ntmps17
  go_wp2_with fail
  refine (ValidSeed_any _ _ _ _).mono ?_
  rintro e w1 ⟨rfl, rfl⟩
  rw [HS.out.1]
  go_wp2_with (first | (go_at_call 62; fail))
  refine (isWithin_any _ _ _ _).mono ?_
  rintro e w' ⟨rfl, rfl⟩
  rw [HW.out]
  generalize hW : World.alloc (World.alloc (World.alloc _ _) _) _ = w0
  have hH : Below w.heap.size w w0 ∧ Whole w0 w.heap.size 26 (sdC k a b) ∧ Whole w0 (w.heap.size + 1) 26 (sdC 0 0 0) := by
    rw [← hW]
    exact ⟨(by repeat (first | with_reducible exact Below.refl _ _ | with_reducible exact HBL | with_reducible refine Below.drew ?_ | with_reducible refine Bel_drewN ?_ _ | with_reducible refine Below.alloc ?_ (by first | omega | (simp; done) | (simp; omega)) _ | with_reducible refine Below.setCell ?_ (by first | omega | (simp; done) | (simp; omega)) _)), ((Whole.made _ _ _).alloc _).alloc _, (Whole.made2 _ _ _ _).alloc _⟩
  have H0 := Lib.hid hH
  obtain ⟨hc0, hf0⟩ := hH.2.1.facts
  have hz0 := hH.2.1.lt
  clear hH hW
  go_wp2_with (first | (go_at_call 63; fail))
  refine (drawShare_any _ _ _ _ HS.out).mono ?_
  rintro e w2 ⟨rfl, hb2⟩
  have hbb : Below w0.heap.size w0 w2 := hb2
  have r0 := H0.out.2.1.below hbb
  have r1 := H0.out.2.2.below hbb
  have HBL : Below w.heap.size w w2 := Bel_next H0.out.1 hbb
  clear hc0 hf0
  obtain ⟨hc0, hf0⟩ := r0.facts
  obtain ⟨hc1, hf1⟩ := r1.facts
  have hz20 := r0.lt
  have hz21 := r1.lt
  have H2 := Lib.hid (And.intro HBL (And.intro r0 r1))
  clear HBL r0 r1 hb2 hbb hq0
  go_wp2_with (first | (go_at_call 64; fail))
  clear hc0 hf0 hc1 hf1 hm
  generalize hW : World.setCell (World.setCell (World.setCell _ _ _) _ _) _ _ = w3
  have hH : Below w.heap.size w w3 ∧ Whole w3 w.heap.size 26 (sdC k (nxA k a b) (nxB k a b)) ∧ Whole w3 (w.heap.size + 1) 26 (sdC 0 0 0) := by
    obtain ⟨HBL, q0, q1⟩ := H2.out
    rw [← hW]
    exact ⟨(by repeat (first | with_reducible exact Below.refl _ _ | with_reducible exact HBL | with_reducible refine Below.drew ?_ | with_reducible refine Bel_drewN ?_ _ | with_reducible refine Below.alloc ?_ (by first | omega | (simp; done) | (simp; omega)) _ | with_reducible refine Below.setCell ?_ (by first | omega | (simp; done) | (simp; omega)) _)), ((q0.put 0 _).put 1 _).put 2 _, ((q1.far (by first | omega | (simp; done) | (simp; omega)) _).far (by first | omega | (simp; done) | (simp; omega)) _).far (by first | omega | (simp; done) | (simp; omega)) _⟩
  have H3 := Lib.hid hH
  clear hH hW H2
  refine (implLog_any c HO.out.1 _).mono ?_
  rintro e w' ⟨r, n2, rfl, hr, rfl⟩
  have HR := Lib.hid hr
  clear hr
  go_wp2_with (first | (go_at_call 64; fail))
  refine (implLog_any d HO.out.2 _).mono ?_
  rintro e w' ⟨r2, n3, rfl, hr, rfl⟩
  have HR2 := Lib.hid hr
  clear hr hm2
  obtain ⟨hc0, hf0⟩ := H3.out.2.1.facts
  obtain ⟨hc1, hf1⟩ := H3.out.2.2.facts
  have hz31 := H3.out.2.2.lt
  have hz30 := H3.out.2.1.lt
  go_wp2_with (first | (go_at_call 62; fail) | (refine wpList_farith _ _ _ _ _ .f32 _ _ rfl rfl rfl ?_; intro r3 n4 hr3; have HQ := Lib.hid (HM.out HR.out HR2.out hr3); clear hr3))
  refine (isWithin_any _ _ _ _).mono ?_
  rintro e w' ⟨rfl, rfl⟩
  have hin : (geB r3 0 && leB r3 1315859240) = inB r3 := rfl
  rw [hin]
  clear hin
  have HI : Hid (inB r3 = false) := Lib.hid (by rw [av_eq (HQ.out.2.trans HV.out.1)]; exact HV.out.2)
  rw [HI.out]
  clear HI
  go_wp2_with fail
  obtain ⟨HBL, q0, q1⟩ := H3.out
  exact bodyPost_ret (v := .tuple #[sd 0 0 0, .int .i64 0, .bool false]) (by simp [results, Try.results17, go_sem, hc1]) rfl ⟨rfl, (by repeat (first | with_reducible exact Below.refl _ _ | with_reducible exact HBL | with_reducible refine Below.drew ?_ | with_reducible refine Bel_drewN ?_ _ | with_reducible refine Below.alloc ?_ (by first | omega | (simp; done) | (simp; omega)) _ | with_reducible refine Below.setCell ?_ (by first | omega | (simp; done) | (simp; omega)) _))⟩
set_option maxRecDepth 100000 in
set_option maxHeartbeats 1000000 in
theorem implFirst_in (k : Int) (a b x : Nat) (w : World) (hs : sOk k a b) (hx : hitB x = true) (h1 : isOne x = false) (r0 : Nat) (n : Int) (hV : missV k a b x = some r0 ∧ inB r0 = true ∧ (Ieee.double.read (floorB (Ieee.double.write (Ieee.single.read r0)))).toInt .zero = some n) :
    Calls Try.prog 17 #[sd k a b, .float .f32 x] w (RetB (.tuple #[sd k (nxA k a b) (nxB k a b), .int .i64 n, .bool true]) w) := by
  have hq1 : (FloatKind.f32.format.order x 1065353216 == some Ordering.eq) = false := h1
  have HV := Lib.hid hV
  have HS := Lib.hid hs
  have hw := hit_tests (x := x)
  rw [hx] at hw
  have hw1 : (geB x 0 && leB x 1065353216) = true := by cases h : (geB x 0 && leB x 1065353216) with | true => rfl | false => rw [h] at hw; cases hw
  have hq0 : (FloatKind.f32.format.order x 0 == some Ordering.eq) = false := by cases h : (FloatKind.f32.format.order x 0 == some Ordering.eq) with | false => rfl | true => rw [h, Bool.not_true, Bool.and_false] at hw; cases hw
  have HN := Lib.hid (hit_num hx)
  have HW := Lib.hid hw1
  have HX := Lib.hid hx
  clear hs hw hw1 hx
  clear h1 hV
  have hm : ∀ (t : TypeId) (w : World), (binOp .sub t (.float .f32 1065353216) (.float .f32 (shK k a b))).run Try.prog w = .ok (.float .f32 (oml (shK k a b))) w := fun t w => oml_run HS.out t w
  have hm2 : ∀ (t : TypeId) (w : World), (binOp .sub t (.float .f32 1065353216) (.float .f32 x)).run Try.prog w = .ok (.float .f32 (omx x)) w := fun t w => one_sub HN.out t w
  have HO := Lib.hid (And.intro (oml_lt HS.out) (omx_lt HN.out))
  have HM : Hid (∀ {r1 r2 r3 : Nat}, Fv .f32 (logV (oml (shK k a b))) r1 → Fv .f32 (logV (omx x)) r2 → Fv .f32 (aop .quo .f32 (av .f32 r1) (av .f32 r2)) r3 → Fv .f32 (missV k a b x) r3) := Lib.hid missV_Fv
  generalize oml (shK k a b) = c at *
  generalize omx x = d at *
  go_enter Try.func17, Try.ntmps17
  go_wp2_with fail
  refine (ValidSeed_any _ _ _ _).mono ?_
  rintro e w1 ⟨rfl, rfl⟩
  rw [HS.out.1]
  go_wp2_with (first | (go_at_call 62; fail))
  refine (isWithin_any _ _ _ _).mono ?_
  rintro e w' ⟨rfl, rfl⟩
  rw [HW.out]
  generalize hW : World.alloc (World.alloc (World.alloc _ _) _) _ = w0
  have hH : Below w.heap.size w w0 ∧ Whole w0 w.heap.size 26 (sdC k a b) ∧ Whole w0 (w.heap.size + 1) 26 (sdC 0 0 0) := by
    rw [← hW]
    exact ⟨(by repeat (first | with_reducible exact Below.refl _ _ | with_reducible exact HBL | with_reducible refine Below.drew ?_ | with_reducible refine Bel_drewN ?_ _ | with_reducible refine Below.alloc ?_ (by first | omega | (simp; done) | (simp; omega)) _ | with_reducible refine Below.setCell ?_ (by first | omega | (simp; done) | (simp; omega)) _)), ((Whole.made _ _ _).alloc _).alloc _, (Whole.made2 _ _ _ _).alloc _⟩
  have H0 := Lib.hid hH
  obtain ⟨hc0, hf0⟩ := hH.2.1.facts
  have hz0 := hH.2.1.lt
  clear hH hW
  go_wp2_with (first | (go_at_call 63; fail))
  refine (drawShare_any _ _ _ _ HS.out).mono ?_
  rintro e w2 ⟨rfl, hb2⟩
  have hbb : Below w0.heap.size w0 w2 := hb2
  have r0 := H0.out.2.1.below hbb
  have r1 := H0.out.2.2.below hbb
  have HBL : Below w.heap.size w w2 := Bel_next H0.out.1 hbb
  clear hc0 hf0
  obtain ⟨hc0, hf0⟩ := r0.facts
  obtain ⟨hc1, hf1⟩ := r1.facts
  have hz20 := r0.lt
  have hz21 := r1.lt
  have H2 := Lib.hid (And.intro HBL (And.intro r0 r1))
  clear HBL r0 r1 hb2 hbb hq0
  go_wp2_with (first | (go_at_call 64; fail))
  clear hc0 hf0 hc1 hf1 hm
  generalize hW : World.setCell (World.setCell (World.setCell _ _ _) _ _) _ _ = w3
  have hH : Below w.heap.size w w3 ∧ Whole w3 w.heap.size 26 (sdC k (nxA k a b) (nxB k a b)) ∧ Whole w3 (w.heap.size + 1) 26 (sdC 0 0 0) := by
    obtain ⟨HBL, q0, q1⟩ := H2.out
    rw [← hW]
    exact ⟨(by repeat (first | with_reducible exact Below.refl _ _ | with_reducible exact HBL | with_reducible refine Below.drew ?_ | with_reducible refine Bel_drewN ?_ _ | with_reducible refine Below.alloc ?_ (by first | omega | (simp; done) | (simp; omega)) _ | with_reducible refine Below.setCell ?_ (by first | omega | (simp; done) | (simp; omega)) _)), ((q0.put 0 _).put 1 _).put 2 _, ((q1.far (by first | omega | (simp; done) | (simp; omega)) _).far (by first | omega | (simp; done) | (simp; omega)) _).far (by first | omega | (simp; done) | (simp; omega)) _⟩
  have H3 := Lib.hid hH
  clear hH hW H2
  refine (implLog_any c HO.out.1 _).mono ?_
  rintro e w' ⟨r, n2, rfl, hr, rfl⟩
  have HR := Lib.hid hr
  clear hr
  go_wp2_with (first | (go_at_call 64; fail))
  refine (implLog_any d HO.out.2 _).mono ?_
  rintro e w' ⟨r2, n3, rfl, hr, rfl⟩
  have HR2 := Lib.hid hr
  clear hr hm2
  obtain ⟨hc0, hf0⟩ := H3.out.2.1.facts
  obtain ⟨hc1, hf1⟩ := H3.out.2.2.facts
  have hz31 := H3.out.2.2.lt
  have hz30 := H3.out.2.1.lt
  go_wp2_with (first | (go_at_call 62; fail) | (refine wpList_farith _ _ _ _ _ .f32 _ _ rfl rfl rfl ?_; intro r3 n4 hr3; have HQ := Lib.hid (HM.out HR.out HR2.out hr3); clear hr3))
  refine (isWithin_any _ _ _ _).mono ?_
  rintro e w' ⟨rfl, rfl⟩
  have hin : (geB r3 0 && leB r3 1315859240) = inB r3 := rfl
  rw [hin]
  clear hin
  have e3 := av_eq (HQ.out.2.trans HV.out.1)
  have hnn : (Ieee.single.read r3).isNaN = false := by rw [e3]; exact av_notNaN (k := .f32) (HQ.out.2.trans HV.out.1)
  have HI : Hid (inB r3 = true) := Lib.hid (by rw [e3]; exact HV.out.2.1)
  obtain ⟨n', hn1, hn2⟩ := floor_int r3 HI.out
  have hnn' : n' = n := by have h := HV.out.2.2; rw [← e3, hn1] at h; injection h
  subst hnn'
  have hwd : ∀ w : World, (convert 25 61 (.float .f32 r3)).run Try.prog w = .ok (.float .f64 (Ieee.double.write (Ieee.single.read r3))) w := fun w => (convert_wide Try.underlying25 Try.underlying61 _ w).trans (run_widen_num hnn w)
  have hti : ∀ w : World, (convert 61 2 (.float .f64 (floorB (Ieee.double.write (Ieee.single.read r3))))).run Try.prog w = .ok (.int .i64 n') w := fun w => (convert_int Try.underlying61 Try.underlying2 _ w).trans (run_toint hn1 hn2 w)
  have HD : Hid ((Ieee.double.read (Ieee.double.write (Ieee.single.read r3))).isNaN = false) := Lib.hid (read_write _ _ hnn)
  generalize Ieee.double.write (Ieee.single.read r3) = d64 at *
  clear hn1 hn2 hnn e3
  rw [HI.out]
  clear HI
  go_wp2_with (first | (go_at_call 59; fail))
  go_region_with (first | (go_at_call 59; refine (Floor_any _ _ HD.out).mono ?_; rintro e w4 ⟨rfl, rfl⟩))
  all_goals
    go_wp2_with fail
    obtain ⟨HBL, q0, q1⟩ := H3.out
    exact bodyPost_ret (v := .tuple #[sd k (nxA k a b) (nxB k a b), .int .i64 n', .bool true]) (by simp [results, Try.results17, go_sem, hc1]) rfl ⟨rfl, (by repeat (first | with_reducible exact Below.refl _ _ | with_reducible exact HBL | with_reducible refine Below.drew ?_ | with_reducible refine Bel_drewN ?_ _ | with_reducible refine Below.alloc ?_ (by first | omega | (simp; done) | (simp; omega)) _ | with_reducible refine Below.setCell ?_ (by first | omega | (simp; done) | (simp; omega)) _))⟩
set_option maxRecDepth 100000 in
set_option maxHeartbeats 1000000 in
theorem specFirst_one (k : Int) (a b x : Nat) (w : World) (hs : sOk k a b) (hx : hitB x = true) (h1 : isOne x = true) :
    Calls Try.prog 15 #[sd k a b, .float .f32 x] w (RetB (.tuple #[sd k (nxA k a b) (nxB k a b), .int .i64 0, .bool true]) w) := by
  have hq1 : (FloatKind.f32.format.order x 1065353216 == some Ordering.eq) = true := h1
  have HS := Lib.hid hs
  have hg : (FloatKind.f32.format.order x 0 == some Ordering.gt) = true := by unfold hitB at hx; rw [Bool.and_eq_true] at hx; exact hx.1
  have hl : (FloatKind.f32.format.order x 1065353216 == some Ordering.lt || FloatKind.f32.format.order x 1065353216 == some Ordering.eq) = true := by unfold hitB at hx; rw [Bool.and_eq_true] at hx; exact hx.2
  have HN := Lib.hid (hit_num hx)
  clear hs hx
  clear h1
  have p0 := Lib.hid ((Whole.made w 26 (sdC k a b)).alloc (.cells (sdC 0 0 0) 26))
  go_enter Try.func15, Try.ntmps15
  go_wp2_with fail
  refine (l02Is_any _ _ _ _ _ p0.out).mono ?_
  rintro e w1 ⟨rfl, rfl⟩
  rw [HS.out.1]
  generalize hW : World.alloc (World.alloc _ _) _ = w0
  have hH : Below w.heap.size w w0 ∧ Whole w0 w.heap.size 26 (sdC k a b) ∧ Whole w0 (w.heap.size + 1) 26 (sdC 0 0 0) := by
    rw [← hW]
    exact ⟨(by repeat (first | with_reducible exact Below.refl _ _ | with_reducible exact HBL | with_reducible refine Below.drew ?_ | with_reducible refine Bel_drewN ?_ _ | with_reducible refine Below.alloc ?_ (by first | omega | (simp; done) | (simp; omega)) _ | with_reducible refine Below.setCell ?_ (by first | omega | (simp; done) | (simp; omega)) _)), p0.out, Whole.made2 _ _ _ _⟩
  have H0 := Lib.hid hH
  clear hH hW p0
  go_wp2_with (first | (go_at_call 58; fail))
  refine (l03Left_any _ _ _ _ _ HS.out H0.out.2.1).mono ?_
  rintro e w2 ⟨r, rfl, hr, r0, hg2⟩
  have HR := Lib.hid hr
  have r1 := H0.out.2.2.grown hg2 (by simp)
  have HBL : Below w.heap.size w w2 := Below.grown H0.out.1 hg2 H0.out.1.size (by simp)
  obtain ⟨hc0, hf0⟩ := r0.facts
  obtain ⟨hc1, hf1⟩ := r1.facts
  have hz20 := r0.lt
  have hz21 := r1.lt
  have H2 := Lib.hid (And.intro HBL (And.intro r0 r1))
  clear HBL r0 r1 hg2 hr H0
  go_wp2_with (first | (go_at_call 60; fail))
  obtain ⟨HBL, q0, q1⟩ := H2.out
  exact bodyPost_ret (v := .tuple #[sd k (nxA k a b) (nxB k a b), .int .i64 0, .bool true]) (by simp [results, Try.results15, go_sem, hc1]) rfl ⟨rfl, (by repeat (first | with_reducible exact Below.refl _ _ | with_reducible exact HBL | with_reducible refine Below.drew ?_ | with_reducible refine Bel_drewN ?_ _ | with_reducible refine Below.alloc ?_ (by first | omega | (simp; done) | (simp; omega)) _ | with_reducible refine Below.setCell ?_ (by first | omega | (simp; done) | (simp; omega)) _))⟩
set_option maxRecDepth 100000 in
set_option maxHeartbeats 1000000 in
theorem specFirst_nan (k : Int) (a b x : Nat) (w : World) (hs : sOk k a b) (hx : hitB x = true) (h1 : isOne x = false) (hV : missV k a b x = none) :
    Calls Try.prog 15 #[sd k a b, .float .f32 x] w (RetB (.tuple #[sd 0 0 0, .int .i64 0, .bool false]) w) := by
  have hq1 : (FloatKind.f32.format.order x 1065353216 == some Ordering.eq) = false := h1
  have HV := Lib.hid hV
  have HS := Lib.hid hs
  have hg : (FloatKind.f32.format.order x 0 == some Ordering.gt) = true := by unfold hitB at hx; rw [Bool.and_eq_true] at hx; exact hx.1
  have hl : (FloatKind.f32.format.order x 1065353216 == some Ordering.lt || FloatKind.f32.format.order x 1065353216 == some Ordering.eq) = true := by unfold hitB at hx; rw [Bool.and_eq_true] at hx; exact hx.2
  have HN := Lib.hid (hit_num hx)
  clear hs hx
  have hl2 : (FloatKind.f32.format.order x 1065353216 == some Ordering.lt) = true := by rw [hq1, Bool.or_false] at hl; exact hl
  clear h1 hV hl
  have hm2 : ∀ (t : TypeId) (w : World), (binOp .sub t (.float .f32 1065353216) (.float .f32 x)).run Try.prog w = .ok (.float .f32 (omx x)) w := fun t w => one_sub HN.out t w
  have HO := Lib.hid (omx_lt HN.out)
  have HM : Hid (∀ {r1 r2 r3 : Nat}, Fv .f32 (logV (oml (shK k a b))) r1 → Fv .f32 (logV (omx x)) r2 → Fv .f32 (aop .quo .f32 (av .f32 r1) (av .f32 r2)) r3 → Fv .f32 (missV k a b x) r3) := Lib.hid missV_Fv
  generalize omx x = d at *
  have p0 := Lib.hid ((Whole.made w 26 (sdC k a b)).alloc (.cells (sdC 0 0 0) 26))
  go_enter Try.func15, Try.ntmps15
  go_wp2_with fail
  refine (l02Is_any _ _ _ _ _ p0.out).mono ?_
  rintro e w1 ⟨rfl, rfl⟩
  rw [HS.out.1]
  generalize hW : World.alloc (World.alloc _ _) _ = w0
  have hH : Below w.heap.size w w0 ∧ Whole w0 w.heap.size 26 (sdC k a b) ∧ Whole w0 (w.heap.size + 1) 26 (sdC 0 0 0) := by
    rw [← hW]
    exact ⟨(by repeat (first | with_reducible exact Below.refl _ _ | with_reducible exact HBL | with_reducible refine Below.drew ?_ | with_reducible refine Bel_drewN ?_ _ | with_reducible refine Below.alloc ?_ (by first | omega | (simp; done) | (simp; omega)) _ | with_reducible refine Below.setCell ?_ (by first | omega | (simp; done) | (simp; omega)) _)), p0.out, Whole.made2 _ _ _ _⟩
  have H0 := Lib.hid hH
  clear hH hW p0
  go_wp2_with (first | (go_at_call 58; fail))
  refine (l03Left_any _ _ _ _ _ HS.out H0.out.2.1).mono ?_
  rintro e w2 ⟨r, rfl, hr, r0, hg2⟩
  have HR := Lib.hid hr
  have r1 := H0.out.2.2.grown hg2 (by simp)
  have HBL : Below w.heap.size w w2 := Below.grown H0.out.1 hg2 H0.out.1.size (by simp)
  obtain ⟨hc0, hf0⟩ := r0.facts
  obtain ⟨hc1, hf1⟩ := r1.facts
  have hz20 := r0.lt
  have hz21 := r1.lt
  have H2 := Lib.hid (And.intro HBL (And.intro r0 r1))
  clear HBL r0 r1 hg2 hr H0
  clear hc0 hf0 hc1 hf1
  go_wp2_with (first | (go_at_call 60; fail))
  refine (l01Log_any d HO.out _).mono ?_
  rintro e w' ⟨r2, n3, rfl, hr, rfl⟩
  have HR2 := Lib.hid hr
  clear hr hm2
  obtain ⟨hc0, hf0⟩ := H2.out.2.1.facts
  obtain ⟨hc1, hf1⟩ := H2.out.2.2.facts
  go_wp2_with (first | (go_at_call 59; fail) | (refine wpList_farith _ _ _ _ _ .f32 _ _ rfl rfl rfl ?_; intro r3 n4 hr3; have HQ := Lib.hid (HM.out HR.out HR2.out hr3); clear hr3) | (refine wpList_widen _ _ _ _ rfl Try.underlying25 Try.underlying61 ?_; intro r5 n5 hr5; have HQ5 := Lib.hid hr5; clear hr5))
  have hn5 : (Ieee.double.read r5).isNaN = true := by
    have h := HQ5.out.2
    rw [HQ.out.2, HV.out] at h
    unfold av at h
    split at h
    · assumption
    · cases h
  refine (Floor_none _ _ hn5).mono ?_
  rintro e w' ⟨r6, n6, rfl, ha, rfl⟩
  have hge : (FloatKind.f64.format.order r6 0 == some Ordering.gt || FloatKind.f64.format.order r6 0 == some Ordering.eq) = false := by
    have h : FloatKind.f64.format.order r6 0 = none := by rw [aord_order, ha]; rfl
    rw [h]; rfl
  clear hn5 ha
  go_wp2_with fail
  obtain ⟨HBL, q0, q1⟩ := H2.out
  exact bodyPost_ret (v := .tuple #[sd 0 0 0, .int .i64 0, .bool false]) (by simp [results, Try.results15, go_sem, hc1]) rfl ⟨rfl, (by repeat (first | with_reducible exact Below.refl _ _ | with_reducible exact HBL | with_reducible refine Below.drew ?_ | with_reducible refine Bel_drewN ?_ _ | with_reducible refine Below.alloc ?_ (by first | omega | (simp; done) | (simp; omega)) _ | with_reducible refine Below.setCell ?_ (by first | omega | (simp; done) | (simp; omega)) _))⟩
set_option maxRecDepth 100000 in
set_option maxHeartbeats 1000000 in
theorem specFirst_out (k : Int) (a b x : Nat) (w : World) (hs : sOk k a b) (hx : hitB x = true) (h1 : isOne x = false) (r0 : Nat) (hV : missV k a b x = some r0 ∧ inB r0 = false) :
    Calls Try.prog 15 #[sd k a b, .float .f32 x] w (RetB (.tuple #[sd 0 0 0, .int .i64 0, .bool false]) w) := by
  have hq1 : (FloatKind.f32.format.order x 1065353216 == some Ordering.eq) = false := h1
  have HV := Lib.hid hV
  have HS := Lib.hid hs
  have hg : (FloatKind.f32.format.order x 0 == some Ordering.gt) = true := by unfold hitB at hx; rw [Bool.and_eq_true] at hx; exact hx.1
  have hl : (FloatKind.f32.format.order x 1065353216 == some Ordering.lt || FloatKind.f32.format.order x 1065353216 == some Ordering.eq) = true := by unfold hitB at hx; rw [Bool.and_eq_true] at hx; exact hx.2
  have HN := Lib.hid (hit_num hx)
  clear hs hx
  have hl2 : (FloatKind.f32.format.order x 1065353216 == some Ordering.lt) = true := by rw [hq1, Bool.or_false] at hl; exact hl
  clear h1 hV hl
  have hm2 : ∀ (t : TypeId) (w : World), (binOp .sub t (.float .f32 1065353216) (.float .f32 x)).run Try.prog w = .ok (.float .f32 (omx x)) w := fun t w => one_sub HN.out t w
  have HO := Lib.hid (omx_lt HN.out)
  have HM : Hid (∀ {r1 r2 r3 : Nat}, Fv .f32 (logV (oml (shK k a b))) r1 → Fv .f32 (logV (omx x)) r2 → Fv .f32 (aop .quo .f32 (av .f32 r1) (av .f32 r2)) r3 → Fv .f32 (missV k a b x) r3) := Lib.hid missV_Fv
  generalize omx x = d at *
  have p0 := Lib.hid ((Whole.made w 26 (sdC k a b)).alloc (.cells (sdC 0 0 0) 26))
  go_enter Try.func15, Try.ntmps15
  go_wp2_with fail
  refine (l02Is_any _ _ _ _ _ p0.out).mono ?_
  rintro e w1 ⟨rfl, rfl⟩
  rw [HS.out.1]
  generalize hW : World.alloc (World.alloc _ _) _ = w0
  have hH : Below w.heap.size w w0 ∧ Whole w0 w.heap.size 26 (sdC k a b) ∧ Whole w0 (w.heap.size + 1) 26 (sdC 0 0 0) := by
    rw [← hW]
    exact ⟨(by repeat (first | with_reducible exact Below.refl _ _ | with_reducible exact HBL | with_reducible refine Below.drew ?_ | with_reducible refine Bel_drewN ?_ _ | with_reducible refine Below.alloc ?_ (by first | omega | (simp; done) | (simp; omega)) _ | with_reducible refine Below.setCell ?_ (by first | omega | (simp; done) | (simp; omega)) _)), p0.out, Whole.made2 _ _ _ _⟩
  have H0 := Lib.hid hH
  clear hH hW p0
  go_wp2_with (first | (go_at_call 58; fail))
  refine (l03Left_any _ _ _ _ _ HS.out H0.out.2.1).mono ?_
  rintro e w2 ⟨r, rfl, hr, r0, hg2⟩
  have HR := Lib.hid hr
  have r1 := H0.out.2.2.grown hg2 (by simp)
  have HBL : Below w.heap.size w w2 := Below.grown H0.out.1 hg2 H0.out.1.size (by simp)
  obtain ⟨hc0, hf0⟩ := r0.facts
  obtain ⟨hc1, hf1⟩ := r1.facts
  have hz20 := r0.lt
  have hz21 := r1.lt
  have H2 := Lib.hid (And.intro HBL (And.intro r0 r1))
  clear HBL r0 r1 hg2 hr H0
  clear hc0 hf0 hc1 hf1
  go_wp2_with (first | (go_at_call 60; fail))
  refine (l01Log_any d HO.out _).mono ?_
  rintro e w' ⟨r2, n3, rfl, hr, rfl⟩
  have HR2 := Lib.hid hr
  clear hr hm2
  obtain ⟨hc0, hf0⟩ := H2.out.2.1.facts
  obtain ⟨hc1, hf1⟩ := H2.out.2.2.facts
  go_wp2_with (first | (go_at_call 59; fail) | (refine wpList_farith _ _ _ _ _ .f32 _ _ rfl rfl rfl ?_; intro r3 n4 hr3; have HQ := Lib.hid (HM.out HR.out HR2.out hr3); clear hr3) | (refine wpList_widen _ _ _ _ rfl Try.underlying25 Try.underlying61 ?_; intro r5 n5 hr5; have HQ5 := Lib.hid hr5; clear hr5))
  have e3 := av_eq (HQ.out.2.trans HV.out.1)
  have hnn : (Ieee.single.read r3).isNaN = false := by rw [e3]; exact av_notNaN (k := .f32) (HQ.out.2.trans HV.out.1)
  have e5 : r5 = Ieee.double.write (Ieee.single.read r3) := av_eq (HQ5.out.2.trans (by rw [av_some (k := .f32) hnn]; rfl))
  have hD : (Ieee.double.read (Ieee.double.write (Ieee.single.read r3))).isNaN = false := read_write _ _ hnn
  have hT := floor_in64 r3 hnn
  rw [show inB r3 = false by rw [e3]; exact HV.out.2] at hT
  rw [e5]
  refine (Floor_any _ _ hD).mono ?_
  rintro e w' ⟨rfl, rfl⟩
  clear e5 hD hnn
  generalize floorB (Ieee.double.write (Ieee.single.read r3)) = F at *
  clear e3
  cases hge : (FloatKind.f64.format.order F 0 == some Ordering.gt || FloatKind.f64.format.order F 0 == some Ordering.eq) with
  | false =>
    clear hT
    go_wp2_with fail
    obtain ⟨HBL, q0, q1⟩ := H2.out
    exact bodyPost_ret (v := .tuple #[sd 0 0 0, .int .i64 0, .bool false]) (by simp [results, Try.results15, go_sem, hc1]) rfl ⟨rfl, (by repeat (first | with_reducible exact Below.refl _ _ | with_reducible exact HBL | with_reducible refine Below.drew ?_ | with_reducible refine Bel_drewN ?_ _ | with_reducible refine Below.alloc ?_ (by first | omega | (simp; done) | (simp; omega)) _ | with_reducible refine Below.setCell ?_ (by first | omega | (simp; done) | (simp; omega)) _))⟩
  | true =>
    have hle : (FloatKind.f64.format.order F 4741671816366391296 == some Ordering.lt || FloatKind.f64.format.order F 4741671816366391296 == some Ordering.eq) = false := by
      unfold in64 at hT
      rw [hge, Bool.true_and] at hT
      exact hT
    clear hT
    go_wp2_with fail
    obtain ⟨HBL, q0, q1⟩ := H2.out
    exact bodyPost_ret (v := .tuple #[sd 0 0 0, .int .i64 0, .bool false]) (by simp [results, Try.results15, go_sem, hc1]) rfl ⟨rfl, (by repeat (first | with_reducible exact Below.refl _ _ | with_reducible exact HBL | with_reducible refine Below.drew ?_ | with_reducible refine Bel_drewN ?_ _ | with_reducible refine Below.alloc ?_ (by first | omega | (simp; done) | (simp; omega)) _ | with_reducible refine Below.setCell ?_ (by first | omega | (simp; done) | (simp; omega)) _))⟩
set_option maxRecDepth 100000 in
set_option maxHeartbeats 1000000 in
theorem specFirst_in (k : Int) (a b x : Nat) (w : World) (hs : sOk k a b) (hx : hitB x = true) (h1 : isOne x = false) (r0 : Nat) (n : Int) (hV : missV k a b x = some r0 ∧ inB r0 = true ∧ (Ieee.double.read (floorB (Ieee.double.write (Ieee.single.read r0)))).toInt .zero = some n) :
    Calls Try.prog 15 #[sd k a b, .float .f32 x] w (RetB (.tuple #[sd k (nxA k a b) (nxB k a b), .int .i64 n, .bool true]) w) := by
  have hq1 : (FloatKind.f32.format.order x 1065353216 == some Ordering.eq) = false := h1
  have HV := Lib.hid hV
  have HS := Lib.hid hs
  have hg : (FloatKind.f32.format.order x 0 == some Ordering.gt) = true := by unfold hitB at hx; rw [Bool.and_eq_true] at hx; exact hx.1
  have hl : (FloatKind.f32.format.order x 1065353216 == some Ordering.lt || FloatKind.f32.format.order x 1065353216 == some Ordering.eq) = true := by unfold hitB at hx; rw [Bool.and_eq_true] at hx; exact hx.2
  have HN := Lib.hid (hit_num hx)
  clear hs hx
  have hl2 : (FloatKind.f32.format.order x 1065353216 == some Ordering.lt) = true := by rw [hq1, Bool.or_false] at hl; exact hl
  clear h1 hV hl
  have hm2 : ∀ (t : TypeId) (w : World), (binOp .sub t (.float .f32 1065353216) (.float .f32 x)).run Try.prog w = .ok (.float .f32 (omx x)) w := fun t w => one_sub HN.out t w
  have HO := Lib.hid (omx_lt HN.out)
  have HM : Hid (∀ {r1 r2 r3 : Nat}, Fv .f32 (logV (oml (shK k a b))) r1 → Fv .f32 (logV (omx x)) r2 → Fv .f32 (aop .quo .f32 (av .f32 r1) (av .f32 r2)) r3 → Fv .f32 (missV k a b x) r3) := Lib.hid missV_Fv
  generalize omx x = d at *
  have p0 := Lib.hid ((Whole.made w 26 (sdC k a b)).alloc (.cells (sdC 0 0 0) 26))
  go_enter Try.func15, Try.ntmps15
  go_wp2_with fail
  refine (l02Is_any _ _ _ _ _ p0.out).mono ?_
  rintro e w1 ⟨rfl, rfl⟩
  rw [HS.out.1]
  generalize hW : World.alloc (World.alloc _ _) _ = w0
  have hH : Below w.heap.size w w0 ∧ Whole w0 w.heap.size 26 (sdC k a b) ∧ Whole w0 (w.heap.size + 1) 26 (sdC 0 0 0) := by
    rw [← hW]
    exact ⟨(by repeat (first | with_reducible exact Below.refl _ _ | with_reducible exact HBL | with_reducible refine Below.drew ?_ | with_reducible refine Bel_drewN ?_ _ | with_reducible refine Below.alloc ?_ (by first | omega | (simp; done) | (simp; omega)) _ | with_reducible refine Below.setCell ?_ (by first | omega | (simp; done) | (simp; omega)) _)), p0.out, Whole.made2 _ _ _ _⟩
  have H0 := Lib.hid hH
  clear hH hW p0
  go_wp2_with (first | (go_at_call 58; fail))
  refine (l03Left_any _ _ _ _ _ HS.out H0.out.2.1).mono ?_
  rintro e w2 ⟨r, rfl, hr, r0, hg2⟩
  have HR := Lib.hid hr
  have r1 := H0.out.2.2.grown hg2 (by simp)
  have HBL : Below w.heap.size w w2 := Below.grown H0.out.1 hg2 H0.out.1.size (by simp)
  obtain ⟨hc0, hf0⟩ := r0.facts
  obtain ⟨hc1, hf1⟩ := r1.facts
  have hz20 := r0.lt
  have hz21 := r1.lt
  have H2 := Lib.hid (And.intro HBL (And.intro r0 r1))
  clear HBL r0 r1 hg2 hr H0
  clear hc0 hf0 hc1 hf1
  go_wp2_with (first | (go_at_call 60; fail))
  refine (l01Log_any d HO.out _).mono ?_
  rintro e w' ⟨r2, n3, rfl, hr, rfl⟩
  have HR2 := Lib.hid hr
  clear hr hm2
  obtain ⟨hc0, hf0⟩ := H2.out.2.1.facts
  obtain ⟨hc1, hf1⟩ := H2.out.2.2.facts
  go_wp2_with (first | (go_at_call 59; fail) | (refine wpList_farith _ _ _ _ _ .f32 _ _ rfl rfl rfl ?_; intro r3 n4 hr3; have HQ := Lib.hid (HM.out HR.out HR2.out hr3); clear hr3) | (refine wpList_widen _ _ _ _ rfl Try.underlying25 Try.underlying61 ?_; intro r5 n5 hr5; have HQ5 := Lib.hid hr5; clear hr5))
  have e3 := av_eq (HQ.out.2.trans HV.out.1)
  have hnn : (Ieee.single.read r3).isNaN = false := by rw [e3]; exact av_notNaN (k := .f32) (HQ.out.2.trans HV.out.1)
  have e5 : r5 = Ieee.double.write (Ieee.single.read r3) := av_eq (HQ5.out.2.trans (by rw [av_some (k := .f32) hnn]; rfl))
  have hD : (Ieee.double.read (Ieee.double.write (Ieee.single.read r3))).isNaN = false := read_write _ _ hnn
  have hT := floor_in64 r3 hnn
  have hin : inB r3 = true := by rw [e3]; exact HV.out.2.1
  rw [hin] at hT
  obtain ⟨n', hn1, hn2⟩ := floor_int r3 hin
  have hnn' : n' = n := by have h := HV.out.2.2; rw [← e3, hn1] at h; injection h
  subst hnn'
  rw [e5]
  refine (Floor_any _ _ hD).mono ?_
  rintro e w' ⟨rfl, rfl⟩
  clear e5 hD hnn hin e3
  generalize floorB (Ieee.double.write (Ieee.single.read r3)) = F at *
  unfold in64 at hT
  rw [Bool.and_eq_true] at hT
  obtain ⟨hT1, hT2⟩ := hT
  have HI := Lib.hid (And.intro hn1 hn2)
  clear hn1 hn2
  go_wp2_with (refine wpList_toint _ _ _ _ n' rfl Try.underlying61 Try.underlying2 HI.out.1 HI.out.2 ?_)
  obtain ⟨HBL, q0, q1⟩ := H2.out
  exact bodyPost_ret (v := .tuple #[sd k (nxA k a b) (nxB k a b), .int .i64 n', .bool true]) (by simp [results, Try.results15, go_sem, hc1]) rfl ⟨rfl, (by repeat (first | with_reducible exact Below.refl _ _ | with_reducible exact HBL | with_reducible refine Below.drew ?_ | with_reducible refine Bel_drewN ?_ _ | with_reducible refine Below.alloc ?_ (by first | omega | (simp; done) | (simp; omega)) _ | with_reducible refine Below.setCell ?_ (by first | omega | (simp; done) | (simp; omega)) _))⟩
set_option maxRecDepth 100000 in
theorem implFirst_no (k : Int) (a b x : Nat) (w : World) (h : ¬(vSeed k a b = true ∧ hitB x = true)) :
    Calls Try.prog 17 #[sd k a b, .float .f32 x] w (RetB (.tuple #[sd 0 0 0, .int .i64 0, .bool false]) w) := by
  cases hv : vSeed k a b with
  | false =>
    clear h
    go_enter Try.func17, Try.ntmps17
    go_wp2_with fail
    refine (ValidSeed_any _ _ _ _).mono ?_
    rintro e w1 ⟨rfl, rfl⟩
    rw [hv]
    go_wp2_with fail
    exact bodyPost_ret (v := .tuple #[sd 0 0 0, .int .i64 0, .bool false]) (by simp [results, Try.results17, go_sem]) rfl ⟨rfl, (by repeat (first | with_reducible exact Below.refl _ _ | with_reducible exact HBL | with_reducible refine Below.drew ?_ | with_reducible refine Bel_drewN ?_ _ | with_reducible refine Below.alloc ?_ (by first | omega | (simp; done) | (simp; omega)) _ | with_reducible refine Below.setCell ?_ (by first | omega | (simp; done) | (simp; omega)) _))⟩
  | true =>
    have hx : hitB x = false := by
      cases hx : hitB x with
      | false => rfl
      | true => exact absurd ⟨hv, hx⟩ h
    have hw := hit_tests (x := x)
    rw [hx] at hw
    clear h hx
    have HV := Lib.hid hv
    clear hv
    cases hg : (geB x 0 && leB x 1065353216) with
    | false =>
      have HG := Lib.hid hg
      clear hg hw
      go_enter Try.func17, Try.ntmps17
      go_wp2_with fail
      refine (ValidSeed_any _ _ _ _).mono ?_
      rintro e w1 ⟨rfl, rfl⟩
      rw [HV.out]
      go_wp2_with (first | (go_at_call 62; fail))
      refine (isWithin_any _ _ _ _).mono ?_
      rintro e w' ⟨rfl, rfl⟩
      rw [HG.out]
      go_wp2_with fail
      exact bodyPost_ret (v := .tuple #[sd 0 0 0, .int .i64 0, .bool false]) (by simp [results, Try.results17, go_sem]) rfl ⟨rfl, (by repeat (first | with_reducible exact Below.refl _ _ | with_reducible exact HBL | with_reducible refine Below.drew ?_ | with_reducible refine Bel_drewN ?_ _ | with_reducible refine Below.alloc ?_ (by first | omega | (simp; done) | (simp; omega)) _ | with_reducible refine Below.setCell ?_ (by first | omega | (simp; done) | (simp; omega)) _))⟩
    | true =>
      have hq0 : (FloatKind.f32.format.order x 0 == some Ordering.eq) = true := by
        rw [hg, Bool.true_and] at hw
        cases h : (FloatKind.f32.format.order x 0 == some Ordering.eq) with
        | true => rfl
        | false => rw [h] at hw; cases hw
      have HG := Lib.hid hg
      clear hg hw
      go_enter Try.func17, Try.ntmps17
      go_wp2_with fail
      refine (ValidSeed_any _ _ _ _).mono ?_
      rintro e w1 ⟨rfl, rfl⟩
      rw [HV.out]
      go_wp2_with (first | (go_at_call 62; fail))
      refine (isWithin_any _ _ _ _).mono ?_
      rintro e w' ⟨rfl, rfl⟩
      rw [HG.out]
      go_wp2_with fail
      exact bodyPost_ret (v := .tuple #[sd 0 0 0, .int .i64 0, .bool false]) (by simp [results, Try.results17, go_sem]) rfl ⟨rfl, (by repeat (first | with_reducible exact Below.refl _ _ | with_reducible exact HBL | with_reducible refine Below.drew ?_ | with_reducible refine Bel_drewN ?_ _ | with_reducible refine Below.alloc ?_ (by first | omega | (simp; done) | (simp; omega)) _ | with_reducible refine Below.setCell ?_ (by first | omega | (simp; done) | (simp; omega)) _))⟩
set_option maxRecDepth 100000 in
theorem specFirst_no (k : Int) (a b x : Nat) (w : World) (h : ¬(vSeed k a b = true ∧ hitB x = true)) :
    Calls Try.prog 15 #[sd k a b, .float .f32 x] w (RetB (.tuple #[sd 0 0 0, .int .i64 0, .bool false]) w) := by
  have p0 := Lib.hid ((Whole.made w 26 (sdC k a b)).alloc (.cells (sdC 0 0 0) 26))
  cases hv : vSeed k a b with
  | false =>
    clear h
    go_enter Try.func15, Try.ntmps15
    go_wp2_with fail
    refine (l02Is_any _ _ _ _ _ p0.out).mono ?_
    rintro e w1 ⟨rfl, rfl⟩
    rw [hv]
    go_wp2_with fail
    exact bodyPost_ret (v := .tuple #[sd 0 0 0, .int .i64 0, .bool false]) (by simp [results, Try.results15, go_sem]) rfl ⟨rfl, (by repeat (first | with_reducible exact Below.refl _ _ | with_reducible exact HBL | with_reducible refine Below.drew ?_ | with_reducible refine Bel_drewN ?_ _ | with_reducible refine Below.alloc ?_ (by first | omega | (simp; done) | (simp; omega)) _ | with_reducible refine Below.setCell ?_ (by first | omega | (simp; done) | (simp; omega)) _))⟩
  | true =>
    have hx : hitB x = false := by
      cases hx : hitB x with
      | false => rfl
      | true => exact absurd ⟨hv, hx⟩ h
    unfold hitB at hx
    have HV := Lib.hid hv
    clear hv h
    cases hg : gtB x 0 with
    | false =>
      have hg' : (FloatKind.f32.format.order x 0 == some Ordering.gt) = false := hg
      clear hg hx
      go_enter Try.func15, Try.ntmps15
      go_wp2_with fail
      refine (l02Is_any _ _ _ _ _ p0.out).mono ?_
      rintro e w1 ⟨rfl, rfl⟩
      rw [HV.out]
      go_wp2_with fail
      exact bodyPost_ret (v := .tuple #[sd 0 0 0, .int .i64 0, .bool false]) (by simp [results, Try.results15, go_sem]) rfl ⟨rfl, (by repeat (first | with_reducible exact Below.refl _ _ | with_reducible exact HBL | with_reducible refine Below.drew ?_ | with_reducible refine Bel_drewN ?_ _ | with_reducible refine Below.alloc ?_ (by first | omega | (simp; done) | (simp; omega)) _ | with_reducible refine Below.setCell ?_ (by first | omega | (simp; done) | (simp; omega)) _))⟩
    | true =>
      have hg' : (FloatKind.f32.format.order x 0 == some Ordering.gt) = true := hg
      have hl : (FloatKind.f32.format.order x 1065353216 == some Ordering.lt || FloatKind.f32.format.order x 1065353216 == some Ordering.eq) = false := by
        rw [hg, Bool.true_and] at hx; exact hx
      clear hg hx
      go_enter Try.func15, Try.ntmps15
      go_wp2_with fail
      refine (l02Is_any _ _ _ _ _ p0.out).mono ?_
      rintro e w1 ⟨rfl, rfl⟩
      rw [HV.out]
      go_wp2_with fail
      exact bodyPost_ret (v := .tuple #[sd 0 0 0, .int .i64 0, .bool false]) (by simp [results, Try.results15, go_sem]) rfl ⟨rfl, (by repeat (first | with_reducible exact Below.refl _ _ | with_reducible exact HBL | with_reducible refine Below.drew ?_ | with_reducible refine Bel_drewN ?_ _ | with_reducible refine Below.alloc ?_ (by first | omega | (simp; done) | (simp; omega)) _ | with_reducible refine Below.setCell ?_ (by first | omega | (simp; done) | (simp; omega)) _))⟩
theorem missO_cases (k : Int) (a b x : Nat) : (¬(vSeed k a b = true ∧ hitB x = true) ∧ missO k a b x = none) ∨ ((vSeed k a b = true ∧ hitB x = true) ∧ ((isOne x = true ∧ missO k a b x = some 0) ∨ (isOne x = false ∧ (
    (missV k a b x = none ∧ missO k a b x = none) ∨ (∃ r, (missV k a b x = some r ∧ inB r = false) ∧ missO k a b x = none) ∨ (∃ r n, (missV k a b x = some r ∧ inB r = true ∧ (Ieee.double.read (floorB (Ieee.double.write (Ieee.single.read r)))).toInt .zero = some n) ∧ missO k a b x = some n))))) := by
  by_cases h : vSeed k a b = true ∧ hitB x = true
  · refine .inr ⟨h, ?_⟩
    cases h1 : isOne x with
    | true => exact .inl ⟨rfl, by unfold missO; rw [if_pos h, if_pos h1]⟩
    | false =>
      refine .inr ⟨rfl, ?_⟩
      have e : missO k a b x = match missV k a b x with
        | none => none
        | some r => if inB r = true then (Ieee.double.read (floorB (Ieee.double.write (Ieee.single.read r)))).toInt .zero else none := by
        unfold missO; rw [if_pos h, if_neg (by rw [h1]; exact Bool.false_ne_true)]
      cases hV : missV k a b x with
      | none => exact .inl ⟨rfl, by rw [e, hV]⟩
      | some r =>
        refine .inr ?_
        cases hb : inB r with
        | false => exact .inl ⟨r, ⟨rfl, hb⟩, by rw [e, hV]; simp [hb]⟩
        | true =>
          obtain ⟨n, hn, _⟩ := floor_int r hb
          exact .inr ⟨r, n, ⟨rfl, hb, hn⟩, by rw [e, hV]; simp [hb, hn]⟩
  · exact .inl ⟨h, by unfold missO; rw [if_neg h]⟩
theorem implFirst_some (k : Int) (a b x : Nat) (n : Int) (w : World) (ha : a < 18446744073709551616) (hb : b < 18446744073709551616) (h : missO k a b x = some n) :
    Calls Try.prog 17 #[sd k a b, .float .f32 x] w (RetB (.tuple #[sd k (nxA k a b) (nxB k a b), .int .i64 n, .bool true]) w) := by
  rcases missO_cases k a b x with ⟨_, e⟩ | ⟨⟨hv, hx⟩, ⟨h1, e⟩ | ⟨h1, ⟨_, e⟩ | ⟨r, _, e⟩ | ⟨r, m, hm, e⟩⟩⟩
  · rw [e] at h; cases h
  · rw [e] at h; injection h with h; subst h; exact implFirst_one k a b x w ⟨hv, ha, hb⟩ hx h1
  · rw [e] at h; cases h
  · rw [e] at h; cases h
  · rw [e] at h; injection h with h; subst h; exact implFirst_in k a b x w ⟨hv, ha, hb⟩ hx h1 r m hm
theorem implFirst_none (k : Int) (a b x : Nat) (w : World) (ha : a < 18446744073709551616) (hb : b < 18446744073709551616) (h : missO k a b x = none) :
    Calls Try.prog 17 #[sd k a b, .float .f32 x] w (RetB (.tuple #[sd 0 0 0, .int .i64 0, .bool false]) w) := by
  rcases missO_cases k a b x with ⟨hn, _⟩ | ⟨⟨hv, hx⟩, ⟨h1, e⟩ | ⟨h1, ⟨hV, e⟩ | ⟨r, hV, e⟩ | ⟨r, m, hm, e⟩⟩⟩
  · exact implFirst_no k a b x w hn
  · rw [e] at h; cases h
  · exact implFirst_nan k a b x w ⟨hv, ha, hb⟩ hx h1 hV
  · exact implFirst_out k a b x w ⟨hv, ha, hb⟩ hx h1 r hV
  · rw [e] at h; cases h
theorem specFirst_some (k : Int) (a b x : Nat) (n : Int) (w : World) (ha : a < 18446744073709551616) (hb : b < 18446744073709551616) (h : missO k a b x = some n) :
    Calls Try.prog 15 #[sd k a b, .float .f32 x] w (RetB (.tuple #[sd k (nxA k a b) (nxB k a b), .int .i64 n, .bool true]) w) := by
  rcases missO_cases k a b x with ⟨_, e⟩ | ⟨⟨hv, hx⟩, ⟨h1, e⟩ | ⟨h1, ⟨_, e⟩ | ⟨r, _, e⟩ | ⟨r, m, hm, e⟩⟩⟩
  · rw [e] at h; cases h
  · rw [e] at h; injection h with h; subst h; exact specFirst_one k a b x w ⟨hv, ha, hb⟩ hx h1
  · rw [e] at h; cases h
  · rw [e] at h; cases h
  · rw [e] at h; injection h with h; subst h; exact specFirst_in k a b x w ⟨hv, ha, hb⟩ hx h1 r m hm
theorem specFirst_none (k : Int) (a b x : Nat) (w : World) (ha : a < 18446744073709551616) (hb : b < 18446744073709551616) (h : missO k a b x = none) :
    Calls Try.prog 15 #[sd k a b, .float .f32 x] w (RetB (.tuple #[sd 0 0 0, .int .i64 0, .bool false]) w) := by
  rcases missO_cases k a b x with ⟨hn, _⟩ | ⟨⟨hv, hx⟩, ⟨h1, e⟩ | ⟨h1, ⟨hV, e⟩ | ⟨r, hV, e⟩ | ⟨r, m, hm, e⟩⟩⟩
  · exact specFirst_no k a b x w hn
  · rw [e] at h; cases h
  · exact specFirst_nan k a b x w ⟨hv, ha, hb⟩ hx h1 hV
  · exact specFirst_out k a b x w ⟨hv, ha, hb⟩ hx h1 r hV
  · rw [e] at h; cases h
end Go.Proofs.Ytlipdegiihojfaa
