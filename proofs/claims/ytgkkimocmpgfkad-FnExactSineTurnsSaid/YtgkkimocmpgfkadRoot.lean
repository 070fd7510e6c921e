/- The square root: what the code and its model return. -/
import Derived.Test.YtgkkimocmpgfkadNum
import Derived.Test.YtgkkimocmpgfkadIn
namespace Go.Proofs.Ytgkkimocmpgfkad
open Go Go.RowKit Fl

theorem run_sqrt_raw (b : Nat) (w : World) : (callFunc 60 #[.float .f64 b]).run Try.prog w = ((Extern.MathSqrt.sqrt #[.float .f64 b]) >>= fun v => pure (Next.value v)).run Try.prog w := by kernel_rfl

theorem sqrt_eq (b : Nat) : Extern.MathSqrt.sqrt #[.float .f64 b] = (match Ieee.double.sqrt b with
    | some r => pure (.float .f64 r)
    | none => do pure (.float .f64 (← choose (.nanBits .f64 b b)))) := rfl

theorem run_sqrt (b : Nat) (w : World) : ∃ r n, (callFunc 60 #[.float .f64 b]).run Try.prog w = .ok (.value (.float .f64 r)) (w.drewN n) ∧ Fv .f64 (asqrt (av .f64 b)) r := by
  rw [run_sqrt_raw, asqrt_of, sqrt_eq]
  cases hs : Ieee.double.sqrt b with
  | some r =>
    refine ⟨r, 0, ?_, Ieee.double.sqrt_lt hs, av_some (k := .f64) (map_write_notNaN Ieee.double (fun _ hd => root_notNaN hd) hs)⟩
    rw [World.drewN_zero]
    simp
  | none =>
    refine ⟨(Question.nanBits .f64 b b).cut (w.tape w.drawn (.nanBits .f64 b b)), 1, ?_, nanBits_nan .f64 b b _⟩
    simp [Go.choose, Sem.run, Question.forced, World.drew_is_drewN]

/-- math.sqrt in the walk. -/
theorem wpList_sqrt {ops : Array Oper} {Q : Exit → Act → World → Prop} {rest : List Oper} {a : Act} {w : World} {dst : Option Tmp} {ty : TypeId} {pos : String} {af : Array Edge} {ts : Array TypeId}
    (x : Operand) (b : Nat) (hx : a.eval x = .float .f64 b)
    (hK : ∀ r n, Fv .f64 (asqrt (av .f64 b)) r → wpList Try.prog ops Q rest (a.put dst (.float .f64 r)) (w.drewN n)) :
    wpList Try.prog ops Q (⟨dst, .call { callee := .value (.func 60), args := #[x], argTypes := ts }, ty, pos, af, none⟩ :: rest) a w := by
  refine wpList_plain rfl fun K hK' => ?_
  obtain ⟨r, n, hrun, hr⟩ := run_sqrt b w
  unfold Oper.wp
  have e : execOp a.eval (⟨dst, .call { callee := .value (.func 60), args := #[x], argTypes := ts }, ty, pos, af, none⟩ : Oper) = callFunc 60 #[a.eval x] := by
    simp [execOp, resolve, invoke, Deferred.ofValue]
    rfl
  rw [e, hx, hrun]
  exact hK' _ _ (hK r n hr)

def SqrtPost (b : Nat) (w : World) (e : Ending) (w' : World) : Prop := ∃ r n, e = .returned (.float .f64 r) ∧ Fv .f64 (asqrt (av .f64 b)) r ∧ w' = w.drewN n
theorem Sqrt_any (b : Nat) (w : World) : Calls Try.prog 55 #[.float .f64 b] w (SqrtPost b w) := by
  go_enter Try.func55, Try.ntmps55
  go_wp2_with (refine wpList_sqrt _ _ rfl ?_; intro r n hr)
  go_ret
  exact ⟨r, n, rfl, hr, rfl⟩

def NumP (k : FloatKind) (v : Option Nat) (w : World) (e : Ending) (w' : World) : Prop := ∃ r n, e = .returned (.float k r) ∧ Fv k v r ∧ w' = w.drewN n

theorem l01Narrow_any (b : Nat) (v : Option Nat) (hb : Fv .f64 v b) (h : v = none ∨ In .f64 R127 v ∨ ∃ b, v = some b ∧ (Ieee.double.read b).isInfinity = true) (w : World) :
    Calls Try.prog 49 #[.float .f64 b] w (NumP .f32 (narrow v) w) := by
  have hw := narrow_of hb h
  have HB := Lib.hid hb
  clear hb h
  go_enter Try.func49, Try.ntmps49
  go_wp2_with (refine wpList_narrow _ _ _ _ rfl Try.underlying25 Try.underlying22 hw ?_; intro r3 n3 hr3)
  go_ret
  exact ⟨r3, _, rfl, by rw [HB.out.2] at hr3; exact hr3, rfl⟩
end Go.Proofs.Ytgkkimocmpgfkad
