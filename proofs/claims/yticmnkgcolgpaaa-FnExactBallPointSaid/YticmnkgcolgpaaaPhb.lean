/- Phasors: complex numbers in the walk. -/
import Derived.Test.YticmnkgcolgpaaaPha
import Derived.Test.YticmnkgcolgpaaaSf
import Derived.WalkLawsBesides
namespace Go.Proofs.Yticmnkgcolgpaaa.Fl
open Go Go.RowKit Ieee
set_option linter.unusedVariables false
def NumC (v u : Option Nat) (w : World) (e : Ending) (w' : World) : Prop := ∃ r s n, e = .returned (.complex .f32 r s) ∧ Fv .f32 v r ∧ Fv .f32 u s ∧ w' = w.drewN n
def narOk (v : Option Nat) : Prop := v = none ∨ In .f64 R127 v ∨ ∃ b, v = some b ∧ (double.read b).isInfinity = true
set_option maxRecDepth 100000 in
theorem narrowC_any (a b : Nat) (u v : Option Nat) (ha : Fv .f64 u a) (hb : Fv .f64 v b) (hu : narOk u) (hv : narOk v) (w : World) : Calls Try.prog 55 #[.complex .f64 a b] w (NumC (narrow u) (narrow v) w) := by
  have h1 := narrow_of ha hu
  have h2 := narrow_of hb hv
  have HA := Lib.hid (And.intro ha hb)
  have hflag : True := trivial
  clear ha hb
  go_enter Try.func55, Try.ntmps55
  go_wp2_with (first
    | (clear hflag; refine wpList_narrow _ _ _ _ rfl Try.underlying22 Try.underlying50 h1 ?_; intro r3 n3 hr3)
    | (refine wpList_narrow _ _ _ _ rfl Try.underlying22 Try.underlying50 h2 ?_; intro r4 n4 hr4))
  go_ret
  exact ⟨r3, r4, _, rfl, by rw [← HA.out.1.2]; exact hr3, by rw [← HA.out.2.2]; exact hr4, rfl⟩
set_option maxRecDepth 100000 in
theorem sameComplex_any (a b c d : Nat) (u v : Option Nat) (ha : Fv .f64 u a) (hb : Fv .f64 v b) (hc : Fv .f64 u c) (hd : Fv .f64 v d) (w : World) : Calls Try.prog 16 #[.complex .f64 a b, .complex .f64 c d] w (fun e w' => ∃ n, e = .returned (.bool true) ∧ w' = w.drewN n) := by
  have HA := Lib.hid (And.intro ha (And.intro hb (And.intro hc hd)))
  clear ha hb hc hd
  go_enter Try.func16, Try.ntmps16
  go_wp2_with (first | (go_at_call 40; fail))
  refine (sameFloat_any a c u HA.out.1 HA.out.2.2.1 _).mono ?_
  rintro e w' ⟨n, rfl, rfl⟩
  go_wp2_with (first | (go_at_call 40; fail))
  refine (sameFloat_any b d v HA.out.2.1 HA.out.2.2.2 _).mono ?_
  rintro e w' ⟨n2, rfl, rfl⟩
  go_wp2_with fail
  go_ret
  exact ⟨_, rfl, rfl⟩
theorem run_widenC {P : Program} (a b : Nat) (w : World) : ∃ r s n, (Conv.complexToComplex .f32 a b .f64).run P w = .ok (.complex .f64 r s) (w.drewN n) ∧ Fv .f64 (widen (av .f32 a)) r ∧ Fv .f64 (widen (av .f32 b)) s := by
  obtain ⟨r, n, h1, h2⟩ := run_widen (P := P) a w
  obtain ⟨s, m, h3, h4⟩ := run_widen (P := P) b (w.drewN n)
  refine ⟨r, s, n + m, ?_, h2, h4⟩
  unfold Conv.complexToComplex
  simp [h1, h3, World.drewN_drewN]
theorem wpList_widenC {P : Program} {ops : Array Oper} {Q : Exit → Act → World → Prop} {rest : List Oper} {a : Act} {w : World} {dst : Option Tmp} {ty : TypeId} {pos : String} {af : Array Edge} (src dt : TypeId) (x : Operand) (b c : Nat) (hx : a.eval x = .complex .f32 b c) (hs : P.underlying src = some (.complex .f32)) (hd : P.underlying dt = some (.complex .f64))
    (hK : ∀ r s n, Fv .f64 (widen (av .f32 b)) r → Fv .f64 (widen (av .f32 c)) s → wpList P ops Q rest (a.put dst (.complex .f64 r s)) (w.drewN n)) :
    wpList P ops Q (⟨dst, .convert src dt x, ty, pos, af, none⟩ :: rest) a w := by
  refine wpList_plain rfl fun K hK' => ?_
  obtain ⟨r, s, n, hrun, h1, h2⟩ := run_widenC (P := P) b c w
  unfold Oper.wp
  simp [execOp, hx, convert, run_underlying hs, run_underlying hd, hrun]
  exact hK' _ _ (hK r s n h1 h2)
end Go.Proofs.Yticmnkgcolgpaaa.Fl
