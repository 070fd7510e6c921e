/- Numbers with the other sign; 1 less a share; what is given if it is finite. -/
import Derived.Test.YticmnkgcolgpaaaLy
import Derived.Test.YticmnkgcolgpaaaHt
namespace Go.Proofs.Yticmnkgcolgpaaa
open Go Go.RowKit Fl
set_option linter.unusedVariables false

def negV (k : FloatKind) (v : Option Nat) : Option Nat := v.map (Op.negFloat k)
theorem ngm (k : FloatKind) (b : Nat) : Op.negFloat k b % k.format.signWeight = b % k.format.signWeight := by
  unfold Op.negFloat Ieee.Format.signWeight
  rw [Nat.xor_mod_two_pow, Nat.mod_self, Nat.xor_zero]
theorem ngl (k : FloatKind) (b : Nat) (h : b < 2 ^ k.format.width) : Op.negFloat k b < 2 ^ k.format.width := by
  unfold Op.negFloat
  exact Nat.xor_lt_two_pow h (Nat.pow_lt_pow_right (by omega) (by unfold Ieee.Format.width; omega))
theorem ngn (k : FloatKind) (b : Nat) : (k.format.read (Op.negFloat k b)).isNaN = (k.format.read b).isNaN := by
  unfold Ieee.Format.read
  simp only [ngm]
  split
  · rfl
  · split
    · rfl
    · split <;> rfl
@[go_sem] theorem unary_ngf (k : FloatKind) (b : Nat) : Op.unary .neg (.float k b) = pure (.float k (Op.negFloat k b)) := rfl
theorem Fv_ng {k : FloatKind} {v : Option Nat} {b : Nat} (h : Fv k v b) : Fv k (negV k v) (Op.negFloat k b) := by
  refine ⟨ngl k b h.1, ?_⟩
  have e := h.2
  unfold av at e ⊢
  rw [ngn]
  split at e
  · rename_i hn; rw [if_pos hn, ← e]; rfl
  · rename_i hn; rw [if_neg hn, ← e]; rfl

/-- The bits of 1 less a number. -/
def oml (u : Nat) : Nat := (Ieee.single.sub 1065353216 u).getD 0
theorem read_shF (x : Nat) (hx : x < 16777216) : ∃ m i, Ieee.single.read (shF x) = .number false m i := by
  by_cases h0 : x = 0
  · subst h0; exact ⟨0, -149, by decide +kernel⟩
  · have hl := log2_le23 h0 hx
    exact ⟨_, _, read1_nearest_exact false x (-24) h0 hl (by omega) (by omega)⟩
theorem read1_32 : Ieee.single.read 1065353216 = .number false 8388608 (-23) := by decide +kernel
theorem oml_is {k : Int} {a b : Nat} (hs : sOk k a b) : Ieee.single.sub 1065353216 (shK k a b) = some (oml (shK k a b)) := by
  obtain ⟨m, i, h⟩ := read_shF _ (shK_lt (k := k) (a := a) (b := b) hs.kind)
  unfold oml Ieee.Format.sub shK
  rw [h, read1_32]
  rfl
theorem oml_lt {k : Int} {a b : Nat} (hs : sOk k a b) : oml (shK k a b) < 4294967296 := Ieee.single.sub_lt (oml_is hs)
theorem oml_run {P : Program} {k : Int} {a b : Nat} (hs : sOk k a b) (t : TypeId) (w : World) : (binOp .sub t (.float .f32 1065353216) (.float .f32 (shK k a b))).run P w = .ok (.float .f32 (oml (shK k a b))) w :=
  run_float_arith w _ _ _ _ _ _ (oml_is hs)
theorem fin_read {x : Nat} (h : finA .f32 (av .f32 x) = true) : ∃ s m i, Ieee.single.read x = .number s m i := by
  rcases read_single x with ⟨s, m, i, e, _⟩ | ⟨s, e⟩ | ⟨s, f, e⟩
  · exact ⟨s, m, i, e⟩
  · rw [fin_inf e] at h; cases h
  · have : av .f32 x = none := by unfold av; rw [if_pos]; show (Ieee.single.read x).isNaN = true; rw [e]; rfl
    rw [this] at h; cases h
theorem le_gt {x : Nat} (h : finA .f32 (av .f32 x) = true) : leB x 0 = !gtB x 0 := by
  obtain ⟨s, m, i, e⟩ := fin_read h
  unfold leB gtB
  rw [ord0_num e]
  split
  · rfl
  · split <;> rfl
/-- Finite and greater than 0. -/
def aboveB (x : Nat) : Bool := finA .f32 (av .f32 x) && gtB x 0
end Go.Proofs.Yticmnkgcolgpaaa
