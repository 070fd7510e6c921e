/- The square root: what the code and its model return. -/
import Derived.Test.YticmnkgcolgpaaaNum
import Derived.Test.YticmnkgcolgpaaaIn
namespace Go.Proofs.Yticmnkgcolgpaaa
open Go Go.RowKit Fl

theorem run_sqrt_raw (b : Nat) (w : World) : (callFunc 114 #[.float .f64 b]).run Try.prog w = ((Extern.MathSqrt.sqrt #[.float .f64 b]) >>= fun v => pure (Next.value v)).run Try.prog w := by kernel_rfl

theorem sqrt_eq (b : Nat) : Extern.MathSqrt.sqrt #[.float .f64 b] = (match Ieee.double.sqrt b with
    | some r => pure (.float .f64 r)
    | none => do pure (.float .f64 (← choose (.nanBits .f64 b b)))) := rfl

theorem run_sqrt (b : Nat) (w : World) : ∃ r n, (callFunc 114 #[.float .f64 b]).run Try.prog w = .ok (.value (.float .f64 r)) (w.drewN n) ∧ Fv .f64 (asqrt (av .f64 b)) r := by
  rw [run_sqrt_raw, asqrt_of, sqrt_eq]
  cases hs : Ieee.double.sqrt b with
  | some r =>
    refine ⟨r, 0, ?_, Ieee.double.sqrt_lt hs, av_some (k := .f64) (map_write_notNaN Ieee.double (fun _ hd => root_notNaN hd) hs)⟩
    rw [World.drewN_zero]
    simp
  | none =>
    refine ⟨(Question.nanBits .f64 b b).cut (w.tape w.drawn (.nanBits .f64 b b)), 1, ?_, nanBits_nan .f64 b b _⟩
    simp [Go.choose, Sem.run, Question.forced, World.drew_is_drewN]

set_option maxRecDepth 100000 in
/-- math.sqrt in the walk. -/
theorem wpList_sqrt {ops : Array Oper} {Q : Exit → Act → World → Prop} {rest : List Oper} {a : Act} {w : World} {dst : Option Tmp} {ty : TypeId} {pos : String} {af : Array Edge} {ts : Array TypeId}
    (x : Operand) (b : Nat) (hx : a.eval x = .float .f64 b)
    (hK : ∀ r n, Fv .f64 (asqrt (av .f64 b)) r → wpList Try.prog ops Q rest (a.put dst (.float .f64 r)) (w.drewN n)) :
    wpList Try.prog ops Q (⟨dst, .call { callee := .value (.func 114), args := #[x], argTypes := ts }, ty, pos, af, none⟩ :: rest) a w := by
  refine wpList_plain rfl fun K hK' => ?_
  obtain ⟨r, n, hrun, hr⟩ := run_sqrt b w
  unfold Oper.wp
  have e : execOp a.eval (⟨dst, .call { callee := .value (.func 114), args := #[x], argTypes := ts }, ty, pos, af, none⟩ : Oper) = callFunc 114 #[a.eval x] := by
    simp [execOp, resolve, invoke, Deferred.ofValue]
    rfl
  rw [e, hx, hrun]
  exact hK' _ _ (hK r n hr)

def SqrtPost (b : Nat) (w : World) (e : Ending) (w' : World) : Prop := ∃ r n, e = .returned (.float .f64 r) ∧ Fv .f64 (asqrt (av .f64 b)) r ∧ w' = w.drewN n
set_option maxRecDepth 100000 in
theorem Sqrt_any (b : Nat) (w : World) : Calls Try.prog 99 #[.float .f64 b] w (SqrtPost b w) := by
  go_enter Try.func99, Try.ntmps99
  go_wp2_with (refine wpList_sqrt _ _ rfl ?_; intro r n hr)
  go_ret
  exact ⟨r, n, rfl, hr, rfl⟩

def NumP (k : FloatKind) (v : Option Nat) (w : World) (e : Ending) (w' : World) : Prop := ∃ r n, e = .returned (.float k r) ∧ Fv k v r ∧ w' = w.drewN n

set_option maxRecDepth 100000 in
theorem implRoot_any (a : Nat) (w : World) : Calls Try.prog 65 #[.float .f32 a] w (NumP .f32 (narrow (asqrt (widen (av .f32 a)))) w) := by
  have HO := Lib.hid (root_ok a)
  go_enter Try.func65, Try.ntmps65
  go_wp2_with (first | (go_at_call 99; fail) | (refine wpList_widen _ _ _ _ rfl Try.underlying50 Try.underlying22 ?_; intro r n hr))
  refine (Sqrt_any _ _).mono ?_
  rintro e w' ⟨r2, n2, rfl, hr2, rfl⟩
  have hw := narrow_of hr2 (by rw [hr.2]; exact HO.out)
  go_wp2_with (refine wpList_narrow _ _ _ _ rfl Try.underlying22 Try.underlying50 hw ?_; intro r3 n3 hr3)
  go_ret
  exact ⟨r3, _, rfl, by rw [hr2.2, hr.2] at hr3; exact hr3, rfl⟩
theorem l01Narrow_any (b : Nat) (v : Option Nat) (hb : Fv .f64 v b) (h : v = none ∨ In .f64 R127 v ∨ ∃ b, v = some b ∧ (Ieee.double.read b).isInfinity = true) (w : World) :
    Calls Try.prog 92 #[.float .f64 b] w (NumP .f32 (narrow v) w) := by
  have hw := narrow_of hb h
  have HB := Lib.hid hb
  clear hb h
  go_enter Try.func92, Try.ntmps92
  go_wp2_with (refine wpList_narrow _ _ _ _ rfl Try.underlying22 Try.underlying50 hw ?_; intro r3 n3 hr3)
  go_ret
  exact ⟨r3, _, rfl, by rw [HB.out.2] at hr3; exact hr3, rfl⟩
set_option maxRecDepth 100000 in
theorem l01Sqrt_any (a : Nat) (w : World) : Calls Try.prog 63 #[.float .f32 a] w (NumP .f32 (narrow (asqrt (widen (av .f32 a)))) w) := by
  have HO := Lib.hid (root_ok a)
  go_enter Try.func63, Try.ntmps63
  go_wp2_with (first | (go_at_call 99; fail) | (refine wpList_widen _ _ _ _ rfl Try.underlying50 Try.underlying22 ?_; intro r n hr))
  refine (Sqrt_any _ _).mono ?_
  rintro e w' ⟨r2, n2, rfl, hr2, rfl⟩
  go_wp2_with fail
  refine (l01Narrow_any _ _ (by rw [hr.2] at hr2; exact hr2) HO.out _).mono ?_
  rintro e w' ⟨r3, n3, rfl, hr3, rfl⟩
  go_wp2_with fail
  go_ret
  exact ⟨r3, _, rfl, hr3, rfl⟩
end Go.Proofs.Yticmnkgcolgpaaa
