/- A number of a bell, by quotients: BellQuotient. -/
import Derived.Test.YtlipdegiihojfaaTn
import Derived.Test.YtlipdegiihojfaaVag
import Derived.WalkMore
namespace Go.Proofs.Ytlipdegiihojfaa
open Go Go.RowKit Fl Vag
set_option linter.unusedVariables false

/-! ### Plain facts -/
theorem nums_one {P : Program} {f : FuncId} {args : Array Value} {w : World} {v1 v2 : Option Nat} (hi : P.inits.idxOf? f = none) (h1 : Calls P f args w (Num32 v1 w)) (h2 : Calls P f args w (Num32 v2 w)) : v1 = v2 := by
  obtain ⟨e1, w1, fr1, ⟨r1, n1, rfl, hr1, rfl⟩, c1, f1, l1⟩ := h1 []
  obtain ⟨e2, w2, fr2, ⟨r2, n2, rfl, hr2, rfl⟩, c2, f2, l2⟩ := h2 []
  have key : r1 = r2 := by
    obtain ⟨n1, c1⟩ : Steps P _ _ := c1
    obtain ⟨n2, c2⟩ : Steps P _ _ := c2
    have s1 := step_leave_done l1 (by rw [f1]; exact hi)
    have s2 := step_leave_done l2 (by rw [f2]; exact hi)
    rcases Nat.le_total n1 n2 with h | h
    · obtain ⟨d, rfl⟩ := Nat.exists_eq_add_of_le h
      rw [runN_add, c1] at c2
      cases d with
      | zero => simp only [runN, Stepped.next.injEq] at c2; rw [c2, s2] at s1; injection s1 with e1 _; injection e1 with e1; injection e1 with _ e1; all_goals first | exact e1 | exact e1.symm
      | succ d => simp only [runN, s1] at c2; cases c2
    · obtain ⟨d, rfl⟩ := Nat.exists_eq_add_of_le h
      rw [runN_add, c2] at c1
      cases d with
      | zero => simp only [runN, Stepped.next.injEq] at c1; rw [c1, s1] at s2; injection s2 with e1 _; injection e1 with e1; injection e1 with _ e1; all_goals first | exact e1 | exact e1.symm
      | succ d => simp only [runN, s2] at c1; cases c1
  rw [← hr1.2, ← hr2.2, key]
theorem oml_pos {k : Int} {a b : Nat} (hs : sOk k a b) : ∃ m i, Ieee.single.read (oml (shK k a b)) = .number false m i ∧ m ≠ 0 := by
  have hx := shK_lt (a := a) (b := b) hs.kind
  have hs1 : Ieee.single.sub 1065353216 (shK k a b) = some (oml (shK k a b)) := oml_is hs
  unfold shK at hs1 ⊢
  generalize nxW k a b / 256 = x at *
  by_cases h0 : x = 0
  · subst h0
    have e : Ieee.single.sub 1065353216 (shF 0) = some 1065353216 := by decide +kernel
    rw [e] at hs1
    injection hs1 with hs1
    rw [← hs1]
    exact ⟨8388608, -23, by decide +kernel, by decide⟩
  · have hl := log2_le23 h0 hx
    have hr : Ieee.single.read (shF x) = _ := read1_nearest_exact false x (-24) h0 hl (by omega) (by omega)
    unfold Ieee.Format.sub at hs1
    rw [read1_32, hr] at hs1
    have hs2 : (((Ieee.Datum.number false 8388608 (-23)).sum (.number true (x <<< (23 - x.log2)) (-24 + (x.log2 : Int) - 23))).map Ieee.single.write) = some (oml (shF x)) := hs1
    unfold Ieee.Datum.sum at hs2
    simp only [Option.map_some] at hs2
    injection hs2 with hs2
    have eb : min (-23 : Int) (-24 + (x.log2 : Int) - 23) = -24 + (x.log2 : Int) - 23 := by omega
    rw [eb] at hs2
    have e1 : (-24 + (x.log2 : Int) - 23 - (-24 + (x.log2 : Int) - 23)).toNat = 0 := by omega
    have e2 : (-23 - (-24 + (x.log2 : Int) - 23)).toNat = 1 + (23 - x.log2) := by omega
    rw [e1, e2] at hs2
    have e3 : Ieee.signed false 8388608 (1 + (23 - x.log2)) + Ieee.signed true (x <<< (23 - x.log2)) 0 = (((16777216 - x) <<< (23 - x.log2) : Nat) : Int) := by
      have p1 : Ieee.signed false 8388608 (1 + (23 - x.log2)) = ((16777216 * 2 ^ (23 - x.log2) : Nat) : Int) := by
        unfold Ieee.signed
        rw [Nat.shiftLeft_eq, Nat.pow_add, ← Nat.mul_assoc]; rfl
      have p2 : Ieee.signed true (x <<< (23 - x.log2)) 0 = -((x * 2 ^ (23 - x.log2) : Nat) : Int) := by
        unfold Ieee.signed
        rw [Nat.shiftLeft_zero, Nat.shiftLeft_eq]; rfl
      rw [p1, p2, Nat.shiftLeft_eq, Nat.sub_mul]
      have : x * 2 ^ (23 - x.log2) ≤ 16777216 * 2 ^ (23 - x.log2) := Nat.mul_le_mul_right _ (by omega)
      omega
    rw [e3] at hs2
    have hy : 16777216 - x ≠ 0 := by omega
    have hpos : (16777216 - x) <<< (23 - x.log2) ≠ 0 := by rw [Nat.shiftLeft_eq]; exact Nat.mul_ne_zero hy (by have := Nat.two_pow_pos (23 - x.log2); omega)
    obtain ⟨T, hT⟩ : ∃ T, T = (16777216 - x) <<< (23 - x.log2) := ⟨_, rfl⟩
    rw [← hT] at hs2 hpos
    rw [if_neg (by omega), decide_eq_false (by omega), Int.natAbs_natCast, hT] at hs2
    have hs3 : Ieee.single.nearest false ((16777216 - x) <<< (23 - x.log2)) (-24 + (x.log2 : Int) - 23) = oml (shF x) := hs2
    rw [nearest_scale _ _ _ _ _ hy] at hs3
    have e4 : -24 + (x.log2 : Int) - 23 + ((23 - x.log2 : Nat) : Int) = -24 := by omega
    rw [e4] at hs3
    rw [← hs3]
    have hyl : 16777216 - x < 16777216 := by omega
    have hl2 := log2_le23 hy hyl
    refine ⟨_, _, read1_nearest_exact false (16777216 - x) (-24) hy hl2 (by omega) (by omega), ?_⟩
    rw [Nat.shiftLeft_eq]; exact Nat.mul_ne_zero hy (by have := Nat.two_pow_pos (23 - (16777216 - x).log2); omega)
def R15 : Nat := 1191182336
def R17 : Nat := 1207959552
def R4 : Nat := 1082130432
theorem R15_lt : R15 < FloatKind.f32.format.infRung ∧ R17 < FloatKind.f32.format.infRung ∧ R4 < FloatKind.f32.format.infRung := by decide +kernel
theorem vr_15 : vr Ieee.single R15 = 2 ^ (15 + K0) := by decide +kernel
theorem four_mul : vr Ieee.single R4 * vr Ieee.single R15 ≤ vr Ieee.single R17 * 2 ^ K0 := by decide +kernel
theorem narrow_in {v : Option Nat} (h : P2 15 v) : ∃ L, narrow v = some L ∧ av .f32 L = some L ∧ In .f32 R15 (some L) := by
  obtain ⟨b, s, m, i, e1, e2, e3, e4⟩ := In.read (k := .f64) (R := R2 15) h (R2_lt 15 (by omega))
  have e2' : Ieee.double.read b = .number s m i := e2
  have e4' : (-1074 : Int) ≤ i := e4
  have e3' : val m i ≤ vr Ieee.double (R2 15) := e3
  rw [vr_R2] at e3'
  rw [e1]
  have hn : narrow (some b) = some (Ieee.single.write (.number s m i)) := by show some (Ieee.single.write (Ieee.double.read b)) = _; rw [e2']
  refine ⟨_, hn, av_some (k := .f32) (read_write Ieee.single _ rfl), ?_⟩
  refine write_in (k := .f32) (by omega) R15_lt.1 ?_
  show val m i ≤ vr Ieee.single R15
  rw [vr_15]; exact e3'
theorem log_num {k : Int} {a b : Nat} (hs : sOk k a b) (w : World) : ∃ L, logV (oml (shK k a b)) = some L ∧ av .f32 L = some L ∧ In .f32 R15 (some L) := by
  obtain ⟨m, i, hr, h0⟩ := oml_pos hs
  have hlt := oml_lt hs
  generalize oml (shK k a b) = c at *
  have hab : aboveB c = true := by
    unfold aboveB gtB
    rw [fin_num hr, ord0_num hr, if_neg h0]; rfl
  obtain ⟨L, K, J1, J2, hw, hN⟩ := above_kind c hab
  have h1 := implLog_any c hlt w
  have h2 := implLog_more c w m i h0 hr L K J1 J2 hw hN
  rw [nums_one (by kernel_rfl) h1 h2]
  exact narrow_in (lgA_in (L - J1 + J2) K ((J1 : Int) - J2) hN.k1 hN.k2 (by have := hN.lo; have := hN.hi; omega) (by have := hN.j1; have := hN.j2; omega))
/-- What a try makes: the numbers on the way. -/
structure QV (k : Int) (a b d bb xb sq L P : Nat) : Prop where
  sub : Ieee.single.sub (shK k (nxA k a b) (nxB k a b)) 1056964608 = some d
  mul : Ieee.single.mul 1071355498 d = some bb
  div : Ieee.single.div bb (oml (shK k a b)) = some xb
  sqr : Ieee.single.mul xb xb = some sq
  log : logV (oml (shK k a b)) = some L
  avL : av .f32 L = some L
  low : Ieee.single.mul 3229614080 L = some P
  avx : av .f32 xb = some xb
  fin : leB sq P = true → finA .f32 (av .f32 xb) = true
theorem readh : Ieee.single.read 1056964608 = .number false 8388608 (-24) := by decide +kernel
theorem readw : Ieee.single.read 1071355498 = .number false 14390890 (-23) := by decide +kernel
theorem readm4 : Ieee.single.read 3229614080 = .number true 8388608 (-21) := by decide +kernel
theorem avm4 : av .f32 3229614080 = some 3229614080 := by decide +kernel
theorem in4 : In .f32 R4 (some 3229614080) := ⟨_, rfl, by decide +kernel⟩
theorem low_in {L : Nat} (h : In .f32 R15 (some L)) : In .f32 R17 (aop .mul .f32 (some 3229614080) (some L)) := by
  have l := R15_lt
  have e := four_mul
  have i4 := in4
  generalize R15 = p at *
  generalize R17 = q at *
  generalize R4 = r at *
  exact In.mul i4 h l.2.2 l.1 l.2.1 e
theorem quot_of {k : Int} {a b : Nat} (hs : sOk k a b) (w : World) : ∃ d bb xb sq L P, QV k a b d bb xb sq L P := by
  obtain ⟨m, i, hc, h0⟩ := oml_pos hs
  obtain ⟨mv, iv, hv⟩ := read_shF _ (shK_lt (k := k) (a := nxA k a b) (b := nxB k a b) hs.next.kind)
  have hv' : Ieee.single.read (shK k (nxA k a b) (nxB k a b)) = .number false mv iv := hv
  obtain ⟨L, hL, hav, hin⟩ := log_num hs w
  obtain ⟨P, sp, mp, ip, hP, hrp, _, _⟩ := In.read (low_in hin) R15_lt.2.1
  have hrp' : Ieee.single.read P = .number sp mp ip := hrp
  obtain ⟨d, hd⟩ : ∃ d, Ieee.single.sub (shK k (nxA k a b) (nxB k a b)) 1056964608 = some d := by
    unfold Ieee.Format.sub; rw [hv', readh]; exact ⟨_, rfl⟩
  have hdn : (Ieee.single.read d).isNaN = false := bop_notNaN (op := .sub) (k := .f32) hd
  obtain ⟨bb, hb⟩ : ∃ bb, Ieee.single.mul 1071355498 d = some bb := by
    unfold Ieee.Format.mul; rw [readw]
    cases hr : Ieee.single.read d with
    | nan _ _ => rw [hr] at hdn; cases hdn
    | number s n j => exact ⟨_, rfl⟩
    | infinity s => exact ⟨_, rfl⟩
  have hbn : (Ieee.single.read bb).isNaN = false := bop_notNaN (op := .mul) (k := .f32) hb
  obtain ⟨xb, hx⟩ : ∃ xb, Ieee.single.div bb (oml (shK k a b)) = some xb := by
    unfold Ieee.Format.div; rw [hc]
    cases hr : Ieee.single.read bb with
    | nan _ _ => rw [hr] at hbn; cases hbn
    | number s n j => simp only [Ieee.Datum.quotient]; rw [if_neg h0]; exact ⟨_, rfl⟩
    | infinity s => exact ⟨_, rfl⟩
  have hxn : (Ieee.single.read xb).isNaN = false := bop_notNaN (op := .quo) (k := .f32) hx
  have hsq : ∃ sq, Ieee.single.mul xb xb = some sq ∧ (∀ s, Ieee.single.read xb = .infinity s → Ieee.single.read sq = .infinity false) := by
    unfold Ieee.Format.mul
    cases hr : Ieee.single.read xb with
    | nan _ _ => rw [hr] at hxn; cases hxn
    | number s n j => exact ⟨_, rfl, fun s h => by cases h⟩
    | infinity s =>
      refine ⟨_, rfl, fun t h => ?_⟩
      cases s <;> decide +kernel
  obtain ⟨sq, hs1, hs2⟩ := hsq
  refine ⟨d, bb, xb, sq, L, P, hd, hb, hx, hs1, hL, hav, hP, av_some (k := .f32) hxn, fun hle => ?_⟩
  rw [av_some (k := .f32) hxn]
  show (!(Ieee.single.read xb).isInfinity) = true
  cases hr : Ieee.single.read xb with
  | nan _ _ => rfl
  | number _ _ _ => rfl
  | infinity s =>
    exfalso
    have h2 := hs2 s hr
    have ho : FloatKind.f32.format.order sq P = some .gt := by
      show Ieee.single.order sq P = _
      unfold Ieee.Format.order
      rw [h2, hrp']; rfl
    unfold leB at hle
    rw [ho] at hle
    cases hle
noncomputable def xQ (k : Int) (a b : Nat) : Option Nat := aop .quo .f32 (aop .mul .f32 (some 1071355498) (aop .sub .f32 (av .f32 (shK k (nxA k a b) (nxB k a b))) (some 1056964608))) (some (oml (shK k a b)))
noncomputable def accQ (k : Int) (a b : Nat) : Bool :=
  let o := aord .f32 (aop .mul .f32 (xQ k a b) (xQ k a b)) (aop .mul .f32 (some 3229614080) (logV (oml (shK k a b))))
  o == some Ordering.lt || o == some Ordering.eq
theorem av_sh {k : Int} {a b : Nat} (hs : sOk k a b) : av .f32 (shK k a b) = some (shK k a b) := by
  obtain ⟨m, i, h⟩ := read_shF _ (shK_lt (k := k) (a := a) (b := b) hs.kind)
  exact av_num (s := false) (m := m) (i := i) h
theorem QV.x {k : Int} {a b d bb xb sq L P : Nat} (hs : sOk k a b) (h : QV k a b d bb xb sq L P) : xQ k a b = some xb := by
  have h1 : aop .sub .f32 (some (shK k (nxA k a b) (nxB k a b))) (some 1056964608) = some d := h.sub
  have h2 : aop .mul .f32 (some 1071355498) (some d) = some bb := h.mul
  have h3 : aop .quo .f32 (some bb) (some (oml (shK k a b))) = some xb := h.div
  unfold xQ
  rw [av_sh hs.next, h1, h2, h3]
theorem QV.acc {k : Int} {a b d bb xb sq L P : Nat} (hs : sOk k a b) (h : QV k a b d bb xb sq L P) : accQ k a b = leB sq P := by
  have h1 : aop .mul .f32 (some xb) (some xb) = some sq := h.sqr
  have h2 : aop .mul .f32 (some 3229614080) (some L) = some P := h.low
  unfold accQ
  rw [h.x hs, h.log, h1, h2]
  rfl
theorem QV.xlt {k : Int} {a b d bb xb sq L P : Nat} (h : QV k a b d bb xb sq L P) : xb < 4294967296 := Ieee.single.div_lt h.div
set_option maxRecDepth 100000 in
set_option maxHeartbeats 2000000 in
theorem tryQuot_any (k : Int) (a b d bb xb sq L P : Nat) (w : World) (hs : sOk k a b) (hQ : QV k a b d bb xb sq L P) :
    Calls Try.prog 94 #[sd k a b] w (RetB (.tuple #[sd k (nxA k (nxA k a b) (nxB k a b)) (nxB k (nxA k a b) (nxB k a b)), .float .f32 xb, .bool (leB sq P)]) w) := by
  have HS := Lib.hid (And.intro hs hs.next)
  have HQ := Lib.hid hQ
  have HO := Lib.hid (oml_lt hs)
  have hm1 : ∀ (t : TypeId) (w : World), (binOp .sub t (.float .f32 1065353216) (.float .f32 (shK k a b))).run Try.prog w = .ok (.float .f32 (oml (shK k a b))) w := fun t w => oml_run hs t w
  have hm2 : ∀ (t : TypeId) (w : World), (binOp .sub t (.float .f32 (shK k (nxA k a b) (nxB k a b))) (.float .f32 1056964608)).run Try.prog w = .ok (.float .f32 d) w := fun t w => run_float_arith w _ _ _ _ _ _ hQ.sub
  have hm3 : ∀ (t : TypeId) (w : World), (binOp .mul t (.float .f32 1071355498) (.float .f32 d)).run Try.prog w = .ok (.float .f32 bb) w := fun t w => run_float_arith w _ _ _ _ _ _ hQ.mul
  have hm4 : ∀ (t : TypeId) (w : World), (binOp .quo t (.float .f32 bb) (.float .f32 (oml (shK k a b)))).run Try.prog w = .ok (.float .f32 xb) w := fun t w => run_float_arith w _ _ _ _ _ _ hQ.div
  have hm5 : ∀ (t : TypeId) (w : World), (binOp .mul t (.float .f32 xb) (.float .f32 xb)).run Try.prog w = .ok (.float .f32 sq) w := fun t w => run_float_arith w _ _ _ _ _ _ hQ.sqr
  have hm6 : ∀ (t : TypeId) (w : World), (binOp .mul t (.float .f32 3229614080) (.float .f32 L)).run Try.prog w = .ok (.float .f32 P) w := fun t w => run_float_arith w _ _ _ _ _ _ hQ.low
  have HL : Hid (∀ r, Fv .f32 (logV (oml (shK k a b))) r → r = L) := Lib.hid (fun r hr => av_eq (hr.2.trans hQ.log))
  clear hs hQ
  generalize oml (shK k a b) = c at *
  go_enter Try.func94, Try.ntmps94
  go_wp2_with (first | (go_at_call 63; fail))
  generalize hW : World.alloc (World.alloc _ _) _ = w0
  have H0 : Hid (Below w.heap.size w w0 ∧ Whole w0 w.heap.size 26 (sdC k a b) ∧ Whole w0 (w.heap.size + 1) 26 (sdC 0 0 0)) := Lib.hid (by
    rw [← hW]; exact ⟨(by repeat (first | with_reducible exact Below.refl _ _ | with_reducible exact HBL | with_reducible refine Below.drew ?_ | with_reducible refine Bel_drewN ?_ _ | with_reducible refine Below.alloc ?_ (by first | omega | (simp; done) | (simp; omega)) _ | with_reducible refine Below.setCell ?_ (by first | omega | (simp; done) | (simp; omega)) _)), (Whole.made _ _ _).alloc _, Whole.made2 _ _ _ _⟩)
  clear hW
  refine (drawShare_any _ _ _ _ HS.out.1).mono ?_
  rintro e w1 ⟨rfl, hb⟩
  have r0 := H0.out.2.1.below hb
  obtain ⟨hc0, hf0⟩ := r0.facts
  have hz0 := r0.lt
  have H1 := Lib.hid (And.intro (Bel_next H0.out.1 hb) (And.intro r0 (H0.out.2.2.below hb)))
  clear r0 hb H0
  go_wp2_with (first | (go_at_call 63; fail))
  clear hc0 hf0 hz0
  generalize hW : World.setCell (World.setCell (World.setCell _ _ _) _ _) _ _ = w2
  have H2 : Hid (Below w.heap.size w w2 ∧ Whole w2 w.heap.size 26 (sdC k (nxA k a b) (nxB k a b)) ∧ Whole w2 (w.heap.size + 1) 26 (sdC 0 0 0)) := Lib.hid (by
    obtain ⟨HBL, q0, q1⟩ := H1.out
    rw [← hW]
    exact ⟨(by repeat (first | with_reducible exact Below.refl _ _ | with_reducible exact HBL | with_reducible refine Below.drew ?_ | with_reducible refine Bel_drewN ?_ _ | with_reducible refine Below.alloc ?_ (by first | omega | (simp; done) | (simp; omega)) _ | with_reducible refine Below.setCell ?_ (by first | omega | (simp; done) | (simp; omega)) _)), ((q0.put 0 _).put 1 _).put 2 _, ((q1.far (by first | omega | (simp; done) | (simp; omega)) _).far (by first | omega | (simp; done) | (simp; omega)) _).far (by first | omega | (simp; done) | (simp; omega)) _⟩)
  clear hW H1
  refine (drawShare_any _ _ _ _ HS.out.2).mono ?_
  rintro e w3 ⟨rfl, hb⟩
  have r0 := H2.out.2.1.below hb
  obtain ⟨hc0, hf0⟩ := r0.facts
  have hz0 := r0.lt
  have H3 := Lib.hid (And.intro (Bel_next H2.out.1 hb) (And.intro r0 (H2.out.2.2.below hb)))
  clear r0 hb H2
  go_wp2_with (first | (go_at_call 64; fail))
  clear hc0 hf0 hz0
  generalize hW : World.setCell (World.setCell (World.setCell _ _ _) _ _) _ _ = w4
  have H4 : Hid (Below w.heap.size w w4 ∧ Whole w4 w.heap.size 26 (sdC k (nxA k (nxA k a b) (nxB k a b)) (nxB k (nxA k a b) (nxB k a b))) ∧ Whole w4 (w.heap.size + 1) 26 (sdC 0 0 0)) := Lib.hid (by
    obtain ⟨HBL, q0, q1⟩ := H3.out
    rw [← hW]
    exact ⟨(by repeat (first | with_reducible exact Below.refl _ _ | with_reducible exact HBL | with_reducible refine Below.drew ?_ | with_reducible refine Bel_drewN ?_ _ | with_reducible refine Below.alloc ?_ (by first | omega | (simp; done) | (simp; omega)) _ | with_reducible refine Below.setCell ?_ (by first | omega | (simp; done) | (simp; omega)) _)), ((q0.put 0 _).put 1 _).put 2 _, ((q1.far (by first | omega | (simp; done) | (simp; omega)) _).far (by first | omega | (simp; done) | (simp; omega)) _).far (by first | omega | (simp; done) | (simp; omega)) _⟩)
  clear hW H3
  obtain ⟨hc0, hf0⟩ := H4.out.2.1.facts
  obtain ⟨hc1, hf1⟩ := H4.out.2.2.facts
  have hz0 := H4.out.2.1.lt
  have hz1 := H4.out.2.2.lt
  go_region_with (first | (go_at_call 64; refine (implLog_any c HO.out _).mono ?_; rintro e w5 ⟨r, nl, rfl, hr, rfl⟩; have er := HL.out r hr; subst er; clear hr))
  all_goals
    go_wp2_with fail
    obtain ⟨HBL, q0, q1⟩ := H4.out
    exact bodyPost_ret (v := .tuple #[sd k (nxA k (nxA k a b) (nxB k a b)) (nxB k (nxA k a b) (nxB k a b)), .float .f32 xb, .bool (leB sq P)]) (by simp [results, Try.results94, go_sem, hc1]; rfl) rfl ⟨rfl, (by repeat (first | with_reducible exact Below.refl _ _ | with_reducible exact HBL | with_reducible refine Below.drew ?_ | with_reducible refine Bel_drewN ?_ _ | with_reducible refine Below.alloc ?_ (by first | omega | (simp; done) | (simp; omega)) _ | with_reducible refine Below.setCell ?_ (by first | omega | (simp; done) | (simp; omega)) _))⟩
/-- The first try that brings one. -/
def quotC (k : Int) (a b n : Nat) : Prop := n < 64 ∧ accQ k (sdK k a b (2 * n)).1 (sdK k a b (2 * n)).2 = true ∧ ∀ j, j < n → accQ k (sdK k a b (2 * j)).1 (sdK k a b (2 * j)).2 = false
def QuotR (k : Int) (a b : Nat) (w : World) (e : Ending) (w' : World) : Prop :=
  (∃ n x, quotC k a b n ∧ e = .returned (.tuple #[sd k (sdK k a b (2 * n + 2)).1 (sdK k a b (2 * n + 2)).2, .float .f32 x, .bool true]) ∧ Fv .f32 (xQ k (sdK k a b (2 * n)).1 (sdK k a b (2 * n)).2) x) ∧ Below w.heap.size w w' ∨ ((∀ j, j < 64 → accQ k (sdK k a b (2 * j)).1 (sdK k a b (2 * j)).2 = false) ∧ e = .returned (.tuple #[sd 0 0 0, .float .f32 0, .bool false])) ∧ Below w.heap.size w w'
theorem QuotR.yes {k : Int} {a b n x A B A2 B2 : Nat} {w w' : World} (h : quotC k a b n) (hA : (sdK k a b (2 * n)).1 = A) (hB : (sdK k a b (2 * n)).2 = B) (hA2 : nxA k (nxA k A B) (nxB k A B) = A2) (hB2 : nxB k (nxA k A B) (nxB k A B) = B2) (hx : Fv .f32 (xQ k A B) x) (hw : Below w.heap.size w w') :
    QuotR k a b w (.returned (.tuple #[sd k A2 B2, .float .f32 x, .bool true])) w' := by
  subst hA hB hA2 hB2
  exact .inl ⟨⟨n, x, h, rfl, hx⟩, hw⟩
theorem QuotR.no {k : Int} {a b : Nat} {w w' : World} (h : ∀ j, j < 64 → accQ k (sdK k a b (2 * j)).1 (sdK k a b (2 * j)).2 = false) (hw : Below w.heap.size w w') : QuotR k a b w (.returned (.tuple #[sd 0 0 0, .float .f32 0, .bool false])) w' := .inr ⟨⟨h, rfl⟩, hw⟩
theorem sdK_two (k : Int) (a b n : Nat) : sdK k a b (2 * (n + 1)) = (nxA k (nxA k (sdK k a b (2 * n)).1 (sdK k a b (2 * n)).2) (nxB k (sdK k a b (2 * n)).1 (sdK k a b (2 * n)).2), nxB k (nxA k (sdK k a b (2 * n)).1 (sdK k a b (2 * n)).2) (nxB k (sdK k a b (2 * n)).1 (sdK k a b (2 * n)).2)) := rfl
set_option maxRecDepth 100000 in
set_option maxHeartbeats 2000000 in
theorem tryUp_quot (k : Int) (a b : Nat) (w : World) (hs : sOk k a b) :
    Calls Try.prog 93 #[sd k a b, .func (.func 94) #[] #[]] w (QuotR k a b w) := by
  have HS := Lib.hid hs
  clear hs
  go_enter Try.func93, Try.ntmps93
  go_wp2_with fail
  generalize hW : World.alloc (World.alloc _ _) _ = w0
  have H0 : Hid (Below w.heap.size w w0 ∧ Whole w0 w.heap.size 26 (sdC k a b) ∧ Whole w0 (w.heap.size + 1) 26 (sdC 0 0 0)) := Lib.hid (by
    rw [← hW]; exact ⟨(by repeat (first | with_reducible exact Below.refl _ _ | with_reducible exact HBL | with_reducible refine Below.drew ?_ | with_reducible refine Bel_drewN ?_ _ | with_reducible refine Below.alloc ?_ (by first | omega | (simp; done) | (simp; omega)) _ | with_reducible refine Below.setCell ?_ (by first | omega | (simp; done) | (simp; omega)) _)), (Whole.made _ _ _).alloc _, Whole.made2 _ _ _ _⟩)
  clear hW
  go_step3
  go_wp2_with fail
  go_step3
  go_wp2_with fail
  go_loopw [7, 8, 9] (fun x f i wr => ∃ n : Nat, n ≤ 64 ∧ i = .int .i64 n ∧ (∀ j, j < n → accQ k (sdK k a b (2 * j)).1 (sdK k a b (2 * j)).2 = false) ∧ (∃ v, x = .float .f32 v) ∧ (∃ v, f = .bool v) ∧ Below w.heap.size w wr ∧ Whole wr w.heap.size 26 (sdC k (sdK k a b (2 * n)).1 (sdK k a b (2 * n)).2) ∧ Whole wr (w.heap.size + 1) 26 (sdC 0 0 0)) (fun _ _ i _ => 64 - (intOf i).toNat)
  case atStart => exact ⟨0, Nat.zero_le _, rfl, fun j hj => absurd hj (Nat.not_lt_zero _), ⟨_, rfl⟩, ⟨_, rfl⟩, H0.out⟩
  case round =>
    obtain ⟨n, hn, rfl, hall, ⟨v1, rfl⟩, ⟨v2, rfl⟩, hbel, q0, q1⟩ := hrel
    clear H0
    have H := Lib.hid (And.intro hbel (And.intro q0 q1))
    have HA := Lib.hid hall
    have hz0 := q0.lt
    have hz1 := q1.lt
    obtain ⟨hc0, hf0⟩ := q0.facts
    obtain ⟨hc1, hf1⟩ := q1.facts
    clear hbel q0 q1 hall
    by_cases hlt : n < 64
    · have HJ := Lib.hid (HS.out.sdK (2 * n))
      have HE := Lib.hid (sdK_two k a b n)
      have HAB : Hid (∃ A B, (sdK k a b (2 * n)).1 = A ∧ (sdK k a b (2 * n)).2 = B) := Lib.hid ⟨_, _, rfl, rfl⟩
      obtain ⟨A, hA⟩ : ∃ A, (sdK k a b (2 * n)).1 = A := ⟨_, rfl⟩
      obtain ⟨B, hB⟩ : ∃ B, (sdK k a b (2 * n)).2 = B := ⟨_, rfl⟩
      rw [hA, hB] at HJ HE hc0
      have H' : Hid (Below w.heap.size w wr ∧ Whole wr w.heap.size 26 (sdC k A B) ∧ Whole wr (w.heap.size + 1) 26 (sdC 0 0 0)) := Lib.hid (by have := H.out; rw [hA, hB] at this; exact this)
      have HEQ := Lib.hid (And.intro hA hB)
      clear hA hB H HAB
      obtain ⟨d, bb, xb, sq, L, P, hQ⟩ := quot_of HJ.out w
      have HQ := Lib.hid hQ
      clear hQ
      have hnn : (n : Int) < 64 := by omega
      clear hc1 hf1
      go_wp2_with (first | (go_at_call 94; fail))
      refine (tryQuot_any k A B d bb xb sq L P _ HJ.out HQ.out).mono ?_
      rintro e w2 ⟨rfl, hb2⟩
      have r0 := H'.out.2.1.below hb2
      have r1 := H'.out.2.2.below hb2
      clear hc0 hf0
      obtain ⟨hc0, hf0⟩ := r0.facts
      obtain ⟨hc1, hf1⟩ := r1.facts
      have hz2 := r0.lt
      have hz3 := r1.lt
      have H2 := Lib.hid (And.intro (Bel_next H'.out.1 hb2) (And.intro r0 r1))
      clear hb2 r0 r1 H'
      cases hacc : leB sq P with
      | true =>
        have HAC : Hid (accQ k A B = true) := Lib.hid (by rw [HQ.out.acc HJ.out]; exact hacc)
        clear hacc
        go_wp2_with fail
        obtain ⟨HBL, q0, q1⟩ := H2.out
        first | rw [Exit.noGoto_ret] | skip
        exact bodyPost_ret (v := .tuple #[sd k (nxA k (nxA k A B) (nxB k A B)) (nxB k (nxA k A B) (nxB k A B)), .float .f32 xb, .bool true]) (by simp [results, Try.results93, go_sem, hc1]) rfl (QuotR.yes (n := n) ⟨hlt, by rw [HEQ.out.1, HEQ.out.2]; exact HAC.out, HA.out⟩ HEQ.out.1 HEQ.out.2 rfl rfl ⟨HQ.out.xlt, by rw [HQ.out.x HJ.out]; exact HQ.out.avx⟩ (by repeat (first | with_reducible exact Below.refl _ _ | with_reducible exact HBL | with_reducible refine Below.drew ?_ | with_reducible refine Bel_drewN ?_ _ | with_reducible refine Below.alloc ?_ (by first | omega | (simp; done) | (simp; omega)) _ | with_reducible refine Below.setCell ?_ (by first | omega | (simp; done) | (simp; omega)) _)))
      | false =>
        have HAC : Hid (accQ k A B = false) := Lib.hid (by rw [HQ.out.acc HJ.out]; exact hacc)
        clear hacc
        go_wp2_with fail
        go_roundw
        case rel =>
          obtain ⟨HBL, q0, q1⟩ := H2.out
          refine ⟨n + 1, by omega, by go_num, fun j hj => ?_, ⟨_, rfl⟩, ⟨_, rfl⟩, (by repeat (first | with_reducible exact Below.refl _ _ | with_reducible exact HBL | with_reducible refine Below.drew ?_ | with_reducible refine Bel_drewN ?_ _ | with_reducible refine Below.alloc ?_ (by first | omega | (simp; done) | (simp; omega)) _ | with_reducible refine Below.setCell ?_ (by first | omega | (simp; done) | (simp; omega)) _)), ?_, ((q1.far (by first | omega | (simp; done) | (simp; omega)) _).far (by first | omega | (simp; done) | (simp; omega)) _).far (by first | omega | (simp; done) | (simp; omega)) _⟩
          · by_cases e : j = n
            · subst e; rw [HEQ.out.1, HEQ.out.2]; exact HAC.out
            · exact HA.out j (by omega)
          · rw [HE.out]
            exact ((q0.put 0 _).put 1 _).put 2 _
        case measure => simp [intOf]; omega
    · obtain rfl : n = 64 := by omega
      go_wp2_with fail
      obtain ⟨HBL, q0, q1⟩ := H.out
      exact bodyPost_ret (v := .tuple #[sd 0 0 0, .float .f32 0, .bool false]) (by simp [results, Try.results93, go_sem, hc1]) rfl (QuotR.no HA.out (by repeat (first | with_reducible exact Below.refl _ _ | with_reducible exact HBL | with_reducible refine Below.drew ?_ | with_reducible refine Bel_drewN ?_ _ | with_reducible refine Below.alloc ?_ (by first | omega | (simp; done) | (simp; omega)) _ | with_reducible refine Below.setCell ?_ (by first | omega | (simp; done) | (simp; omega)) _)))
set_option maxRecDepth 100000 in
theorem implQuot_in (k : Int) (a b : Nat) (w : World) (hs : sOk k a b) :
    Calls Try.prog 51 #[sd k a b] w (QuotR k a b w) := by
  have HS := Lib.hid hs
  clear hs
  go_enter Try.func51, Try.ntmps51
  go_wp2_with fail
  refine (ValidSeed_any _ _ _ _).mono ?_
  rintro e w1 ⟨rfl, rfl⟩
  rw [HS.out.1]
  go_wp2_with (first | (go_at_call 93; fail))
  generalize hW : World.alloc (World.alloc (World.alloc _ _) _) _ = w0
  have H0 : Hid (Below w.heap.size w w0 ∧ Whole w0 (w.heap.size + 1) 26 (sdC 0 0 0)) := Lib.hid (by
    rw [← hW]; exact ⟨(by repeat (first | with_reducible exact Below.refl _ _ | with_reducible exact HBL | with_reducible refine Below.drew ?_ | with_reducible refine Bel_drewN ?_ _ | with_reducible refine Below.alloc ?_ (by first | omega | (simp; done) | (simp; omega)) _ | with_reducible refine Below.setCell ?_ (by first | omega | (simp; done) | (simp; omega)) _)), (Whole.made2 _ _ _ _).alloc _⟩)
  clear hW
  refine (tryUp_quot k a b _ HS.out).mono ?_
  rintro e w2 (⟨⟨n, x, hq, rfl, hx⟩, hb⟩ | ⟨⟨hall, rfl⟩, hb⟩)
  · have r1 := H0.out.2.below hb
    obtain ⟨hc1, hf1⟩ := r1.facts
    have hz1 := r1.lt
    have H2 := Lib.hid (And.intro (Bel_next H0.out.1 hb) (And.intro hq hx))
    clear r1 hb hq hx H0
    obtain ⟨A, hA⟩ : ∃ A, (sdK k a b (2 * n + 2)).1 = A := ⟨_, rfl⟩
    obtain ⟨B, hB⟩ : ∃ B, (sdK k a b (2 * n + 2)).2 = B := ⟨_, rfl⟩
    rw [hA, hB]
    have HE := Lib.hid (And.intro hA hB)
    clear hA hB
    go_wp2_with fail
    obtain ⟨HBL, hq, hx⟩ := H2.out
    exact bodyPost_ret (v := .tuple #[sd k A B, .float .f32 x, .bool true]) (by simp [results, Try.results51, go_sem, hc1]) rfl (.inl ⟨⟨n, x, hq, by rw [HE.out.1, HE.out.2], hx⟩, (by repeat (first | with_reducible exact Below.refl _ _ | with_reducible exact HBL | with_reducible refine Below.drew ?_ | with_reducible refine Bel_drewN ?_ _ | with_reducible refine Below.alloc ?_ (by first | omega | (simp; done) | (simp; omega)) _ | with_reducible refine Below.setCell ?_ (by first | omega | (simp; done) | (simp; omega)) _))⟩)
  · have r1 := H0.out.2.below hb
    obtain ⟨hc1, hf1⟩ := r1.facts
    have hz1 := r1.lt
    have H2 := Lib.hid (And.intro (Bel_next H0.out.1 hb) hall)
    clear r1 hb hall H0
    go_wp2_with fail
    obtain ⟨HBL, hall⟩ := H2.out
    exact bodyPost_ret (v := .tuple #[sd 0 0 0, .float .f32 0, .bool false]) (by simp [results, Try.results51, go_sem, hc1]) rfl (QuotR.no hall (by repeat (first | with_reducible exact Below.refl _ _ | with_reducible exact HBL | with_reducible refine Below.drew ?_ | with_reducible refine Bel_drewN ?_ _ | with_reducible refine Below.alloc ?_ (by first | omega | (simp; done) | (simp; omega)) _ | with_reducible refine Below.setCell ?_ (by first | omega | (simp; done) | (simp; omega)) _)))
theorem implQuot_no (k : Int) (a b : Nat) (w : World) (hv : vSeed k a b = false) :
    Calls Try.prog 51 #[sd k a b] w (RetB (.tuple #[sd 0 0 0, .float .f32 0, .bool false]) w) := by
  go_enter Try.func51, Try.ntmps51
  go_wp2_with fail
  refine (ValidSeed_any _ _ _ _).mono ?_
  rintro e w1 ⟨rfl, rfl⟩
  rw [hv]
  go_wp2_with fail
  exact bodyPost_ret (v := .tuple #[sd 0 0 0, .float .f32 0, .bool false]) (by simp [results, Try.results51, go_sem]) rfl ⟨rfl, (by repeat (first | with_reducible exact Below.refl _ _ | with_reducible exact HBL | with_reducible refine Below.drew ?_ | with_reducible refine Bel_drewN ?_ _ | with_reducible refine Below.alloc ?_ (by first | omega | (simp; done) | (simp; omega)) _ | with_reducible refine Below.setCell ?_ (by first | omega | (simp; done) | (simp; omega)) _))⟩
theorem specQuot_no (k : Int) (a b : Nat) (w : World) (hv : vSeed k a b = false) :
    Calls Try.prog 50 #[sd k a b] w (RetB (.tuple #[sd 0 0 0, .float .f32 0, .bool false]) w) := by
  have p0 := Lib.hid ((Whole.made w 26 (sdC k a b)).alloc (.cells (sdC 0 0 0) 26))
  go_enter Try.func50, Try.ntmps50
  go_wp2_with fail
  refine (l02Is_any _ _ _ _ _ p0.out).mono ?_
  rintro e w1 ⟨rfl, rfl⟩
  rw [hv]
  go_wp2_with fail
  exact bodyPost_ret (v := .tuple #[sd 0 0 0, .float .f32 0, .bool false]) (by simp [results, Try.results50, go_sem]) rfl ⟨rfl, (by repeat (first | with_reducible exact Below.refl _ _ | with_reducible exact HBL | with_reducible refine Below.drew ?_ | with_reducible refine Bel_drewN ?_ _ | with_reducible refine Below.alloc ?_ (by first | omega | (simp; done) | (simp; omega)) _ | with_reducible refine Below.setCell ?_ (by first | omega | (simp; done) | (simp; omega)) _))⟩
set_option maxRecDepth 100000 in
set_option maxHeartbeats 4000000 in
theorem specQuot_in (k : Int) (a b : Nat) (w : World) (hs : sOk k a b) :
    Calls Try.prog 50 #[sd k a b] w (QuotR k a b w) := by
  have HS := Lib.hid hs
  have p0 := Lib.hid ((Whole.made w 26 (sdC k a b)).alloc (.cells (sdC 0 0 0) 26))
  clear hs
  go_enter Try.func50, Try.ntmps50
  go_wp2_with fail
  refine (l02Is_any _ _ _ _ _ p0.out).mono ?_
  rintro e w1 ⟨rfl, rfl⟩
  rw [HS.out.1]
  generalize hW : World.alloc (World.alloc _ _) _ = w0
  have H0 : Hid (Below w.heap.size w w0 ∧ Whole w0 w.heap.size 26 (sdC k a b) ∧ Whole w0 (w.heap.size + 1) 26 (sdC 0 0 0)) := Lib.hid (by
    rw [← hW]; exact ⟨(by repeat (first | with_reducible exact Below.refl _ _ | with_reducible exact HBL | with_reducible refine Below.drew ?_ | with_reducible refine Bel_drewN ?_ _ | with_reducible refine Below.alloc ?_ (by first | omega | (simp; done) | (simp; omega)) _ | with_reducible refine Below.setCell ?_ (by first | omega | (simp; done) | (simp; omega)) _)), p0.out, Whole.made2 _ _ _ _⟩)
  clear hW p0
  go_wp2_with fail
  go_loopw [5] (fun i wr => ∃ n : Nat, n ≤ 64 ∧ i = .int .i64 n ∧ (∀ j, j < n → accQ k (sdK k a b (2 * j)).1 (sdK k a b (2 * j)).2 = false) ∧ Below w.heap.size w wr ∧ Whole wr w.heap.size 26 (sdC k (sdK k a b (2 * n)).1 (sdK k a b (2 * n)).2) ∧ Whole wr (w.heap.size + 1) 26 (sdC 0 0 0)) (fun i _ => 64 - (intOf i).toNat)
  case atStart => exact ⟨0, Nat.zero_le _, rfl, fun j hj => absurd hj (Nat.not_lt_zero _), H0.out⟩
  case round =>
    obtain ⟨n, hn, rfl, hall, hbel, q0, q1⟩ := hrel
    clear H0
    have H := Lib.hid (And.intro hbel (And.intro q0 q1))
    have HA := Lib.hid hall
    have hz0 := q0.lt
    have hz1 := q1.lt
    obtain ⟨hc1, hf1⟩ := q1.facts
    clear hbel q0 q1 hall
    by_cases hlt : n < 64
    · have HJ := Lib.hid (HS.out.sdK (2 * n))
      have HE := Lib.hid (sdK_two k a b n)
      obtain ⟨A, hA⟩ : ∃ A, (sdK k a b (2 * n)).1 = A := ⟨_, rfl⟩
      obtain ⟨B, hB⟩ : ∃ B, (sdK k a b (2 * n)).2 = B := ⟨_, rfl⟩
      rw [hA, hB] at HJ HE
      have H' : Hid (Below w.heap.size w wr ∧ Whole wr w.heap.size 26 (sdC k A B) ∧ Whole wr (w.heap.size + 1) 26 (sdC 0 0 0)) := Lib.hid (by have := H.out; rw [hA, hB] at this; exact this)
      have HEQ := Lib.hid (And.intro hA hB)
      clear hA hB H
      obtain ⟨d, bb, xb, sq, L, P, hQ⟩ := quot_of HJ.out w
      have HQ := Lib.hid hQ
      have HJ2 := Lib.hid HJ.out.next
      have hnn : (n : Int) < 64 := by omega
      have hm1 : ∀ (t : TypeId) (w : World), (binOp .sub t (.float .f32 1065353216) (.float .f32 (shK k A B))).run Try.prog w = .ok (.float .f32 (oml (shK k A B))) w := fun t w => oml_run HJ.out t w
      have hm2 : ∀ (t : TypeId) (w : World), (binOp .sub t (.float .f32 (shK k (nxA k A B) (nxB k A B))) (.float .f32 1056964608)).run Try.prog w = .ok (.float .f32 d) w := fun t w => run_float_arith w _ _ _ _ _ _ hQ.sub
      have hm3 : ∀ (t : TypeId) (w : World), (binOp .mul t (.float .f32 1071355498) (.float .f32 d)).run Try.prog w = .ok (.float .f32 bb) w := fun t w => run_float_arith w _ _ _ _ _ _ hQ.mul
      have hm4 : ∀ (t : TypeId) (w : World), (binOp .quo t (.float .f32 bb) (.float .f32 (oml (shK k A B)))).run Try.prog w = .ok (.float .f32 xb) w := fun t w => run_float_arith w _ _ _ _ _ _ hQ.div
      have hm5 : ∀ (t : TypeId) (w : World), (binOp .mul t (.float .f32 xb) (.float .f32 xb)).run Try.prog w = .ok (.float .f32 sq) w := fun t w => run_float_arith w _ _ _ _ _ _ hQ.sqr
      have hm6 : ∀ (t : TypeId) (w : World), (binOp .mul t (.float .f32 3229614080) (.float .f32 L)).run Try.prog w = .ok (.float .f32 P) w := fun t w => run_float_arith w _ _ _ _ _ _ hQ.low
      have HL : Hid (∀ r, Fv .f32 (logV (oml (shK k A B))) r → r = L) := Lib.hid (fun r hr => av_eq (hr.2.trans hQ.log))
      have HO := Lib.hid (oml_lt HJ.out)
      clear hQ hc1 hf1
      generalize oml (shK k A B) = c at *
      go_wp2_with (first | (go_at_call 66; fail))
      refine (l02Share_any _ _ _ _ _ HJ.out H'.out.2.1).mono ?_
      rintro e w2 ⟨rfl, r0, hg2⟩
      have H2 := Lib.hid (And.intro (Below.grown H'.out.1 hg2 H'.out.1.size (by simp)) (And.intro r0 (H'.out.2.2.grown hg2 (by simp))))
      clear r0 hg2 H'
      go_wp2_with (first | (go_at_call 66; fail))
      refine (l02Share_any _ _ _ _ _ HJ2.out H2.out.2.1).mono ?_
      rintro e w3 ⟨rfl, r0, hg2⟩
      have H3 := Lib.hid (And.intro (Below.grown H2.out.1 hg2 H2.out.1.size (by simp)) (And.intro r0 (H2.out.2.2.grown hg2 (by simp))))
      clear r0 hg2 H2
      go_wp2_with (first | (go_at_call 60; fail))
      refine (l01Log_any c HO.out _).mono ?_
      rintro e w' ⟨r, nl, rfl, hr, rfl⟩
      have er := HL.out r hr
      subst er
      clear hr
      cases hacc : leB sq P with
      | true =>
        have HAC : Hid (accQ k A B = true) := Lib.hid (by rw [HQ.out.acc HJ.out]; exact hacc)
        have HF := Lib.hid (HQ.out.fin hacc)
        have hle : (FloatKind.f32.format.order sq P == some Ordering.lt || FloatKind.f32.format.order sq P == some Ordering.eq) = true := hacc
        clear hacc
        go_wp2_with (first | (go_at_call 92; fail))
        refine (l03Give_fin _ k _ _ xb _ (H3.out.2.1.drewN nl) HF.out).mono ?_
        rintro e w4 ⟨rfl, hb4⟩
        have hbb : Below (w3.drewN nl).heap.size (w3.drewN nl) w4 := hb4
        have r1 := (H3.out.2.2.drewN nl).below hbb
        obtain ⟨hc1, hf1⟩ := r1.facts
        have hz4 := r1.lt
        have H4 := Lib.hid (Bel_next (Bel_drewN H3.out.1 nl) hbb)
        clear r1 hb4 hbb
        go_wp2_with fail
        have HBL := H4.out
        exact bodyPost_ret (v := .tuple #[sd k (nxA k (nxA k A B) (nxB k A B)) (nxB k (nxA k A B) (nxB k A B)), .float .f32 xb, .bool true]) (by simp [results, Try.results50, go_sem, hc1]) rfl (QuotR.yes (n := n) ⟨hlt, by rw [HEQ.out.1, HEQ.out.2]; exact HAC.out, HA.out⟩ HEQ.out.1 HEQ.out.2 rfl rfl ⟨HQ.out.xlt, by rw [HQ.out.x HJ.out]; exact HQ.out.avx⟩ (by repeat (first | with_reducible exact Below.refl _ _ | with_reducible exact HBL | with_reducible refine Below.drew ?_ | with_reducible refine Bel_drewN ?_ _ | with_reducible refine Below.alloc ?_ (by first | omega | (simp; done) | (simp; omega)) _ | with_reducible refine Below.setCell ?_ (by first | omega | (simp; done) | (simp; omega)) _)))
      | false =>
        have HAC : Hid (accQ k A B = false) := Lib.hid (by rw [HQ.out.acc HJ.out]; exact hacc)
        have hle : (FloatKind.f32.format.order sq P == some Ordering.lt || FloatKind.f32.format.order sq P == some Ordering.eq) = false := hacc
        clear hacc
        go_wp2_with fail
        go_roundw
        case rel =>
          obtain ⟨HBL, q0, q1⟩ := H3.out
          refine ⟨n + 1, by omega, by go_num, fun j hj => ?_, Bel_drewN HBL nl, ?_, q1.drewN nl⟩
          · by_cases e : j = n
            · subst e; rw [HEQ.out.1, HEQ.out.2]; exact HAC.out
            · exact HA.out j (by omega)
          · rw [HE.out]
            exact q0.drewN nl
        case measure => simp [intOf]; omega
    · obtain rfl : n = 64 := by omega
      go_wp2_with fail
      obtain ⟨HBL, q0, q1⟩ := H.out
      exact bodyPost_ret (v := .tuple #[sd 0 0 0, .float .f32 0, .bool false]) (by simp [results, Try.results50, go_sem, hc1]) rfl (QuotR.no HA.out (by repeat (first | with_reducible exact Below.refl _ _ | with_reducible exact HBL | with_reducible refine Below.drew ?_ | with_reducible refine Bel_drewN ?_ _ | with_reducible refine Below.alloc ?_ (by first | omega | (simp; done) | (simp; omega)) _ | with_reducible refine Below.setCell ?_ (by first | omega | (simp; done) | (simp; omega)) _)))
theorem quotC_one {k : Int} {a b n m : Nat} (h : quotC k a b n) (g : quotC k a b m) : n = m := by
  rcases Nat.lt_trichotomy n m with hl | he | hl
  · have := g.2.2 n hl; rw [h.2.1] at this; cases this
  · exact he
  · have := h.2.2 m hl; rw [g.2.1] at this; cases this
theorem QuotR.some {k : Int} {a b n : Nat} {w w' : World} {e : Ending} (h : quotC k a b n) (hr : QuotR k a b w e w') : RetF (fun r => .tuple #[sd k (sdK k a b (2 * n + 2)).1 (sdK k a b (2 * n + 2)).2, .float .f32 r, .bool true]) (xQ k (sdK k a b (2 * n)).1 (sdK k a b (2 * n)).2) w e w' := by
  rcases hr with ⟨⟨m, x, hm, he, hx⟩, hb⟩ | ⟨⟨hn, he⟩, hb⟩
  · obtain rfl := quotC_one h hm
    exact ⟨x, he, hx, hb⟩
  · have := hn n h.1; rw [h.2.1] at this; cases this
theorem QuotR.none {k : Int} {a b : Nat} {w w' : World} {e : Ending} (h : ¬∃ n, quotC k a b n) (hr : QuotR k a b w e w') : RetB (.tuple #[sd 0 0 0, .float .f32 0, .bool false]) w e w' := by
  rcases hr with ⟨⟨m, x, hm, he, hx⟩, hb⟩ | ⟨⟨hn, he⟩, hb⟩
  · exact absurd ⟨m, hm⟩ h
  · exact ⟨he, hb⟩
def bellQC (k : Int) (a b n : Nat) : Prop := vSeed k a b = true ∧ quotC k a b n
theorem implQuot_some (k : Int) (a b n : Nat) (w : World) (ha : a < 18446744073709551616) (hb : b < 18446744073709551616) (h : bellQC k a b n) :
    Calls Try.prog 51 #[sd k a b] w (RetF (fun r => .tuple #[sd k (sdK k a b (2 * n + 2)).1 (sdK k a b (2 * n + 2)).2, .float .f32 r, .bool true]) (xQ k (sdK k a b (2 * n)).1 (sdK k a b (2 * n)).2) w) :=
  (implQuot_in k a b w ⟨h.1, ha, hb⟩).mono fun e w' hr => QuotR.some h.2 hr
theorem implQuot_none (k : Int) (a b : Nat) (w : World) (ha : a < 18446744073709551616) (hb : b < 18446744073709551616) (h : ¬∃ n, bellQC k a b n) :
    Calls Try.prog 51 #[sd k a b] w (RetF (fun r => .tuple #[sd 0 0 0, .float .f32 r, .bool false]) (av .f32 0) w) := by
  refine RetB.toF (r := 0) ?_ (by decide)
  cases hv : vSeed k a b with
  | true => exact (implQuot_in k a b w ⟨hv, ha, hb⟩).mono fun e w' hr => QuotR.none (fun ⟨n, hn⟩ => h ⟨n, hv, hn⟩) hr
  | false => exact implQuot_no k a b w hv
theorem specQuot_some (k : Int) (a b n : Nat) (w : World) (ha : a < 18446744073709551616) (hb : b < 18446744073709551616) (h : bellQC k a b n) :
    Calls Try.prog 50 #[sd k a b] w (RetF (fun r => .tuple #[sd k (sdK k a b (2 * n + 2)).1 (sdK k a b (2 * n + 2)).2, .float .f32 r, .bool true]) (xQ k (sdK k a b (2 * n)).1 (sdK k a b (2 * n)).2) w) :=
  (specQuot_in k a b w ⟨h.1, ha, hb⟩).mono fun e w' hr => QuotR.some h.2 hr
theorem specQuot_none (k : Int) (a b : Nat) (w : World) (ha : a < 18446744073709551616) (hb : b < 18446744073709551616) (h : ¬∃ n, bellQC k a b n) :
    Calls Try.prog 50 #[sd k a b] w (RetF (fun r => .tuple #[sd 0 0 0, .float .f32 r, .bool false]) (av .f32 0) w) := by
  refine RetB.toF (r := 0) ?_ (by decide)
  cases hv : vSeed k a b with
  | true => exact (specQuot_in k a b w ⟨hv, ha, hb⟩).mono fun e w' hr => QuotR.none (fun ⟨n, hn⟩ => h ⟨n, hv, hn⟩) hr
  | false => exact specQuot_no k a b w hv
end Go.Proofs.Ytlipdegiihojfaa
