/- The zeros in front of a number of 32 binary digits. -/
import Derived.Test.YtlipdegiihojfaaNum
import Derived.LoopTactic
import Derived.Lib.BitFns
import Derived.Lib.Walk
namespace Go.Proofs.Ytlipdegiihojfaa
open Go Go.RowKit Fl
set_option linter.unusedVariables false

def lz (x : Nat) : Nat := 32 - Lib.bitLen x
theorem bitLen_pow : ∀ x : Nat, x < 2 ^ 64 → x < 2 ^ Lib.bitLen x ∧ (x ≠ 0 → 1 ≤ Lib.bitLen x ∧ 2 ^ (Lib.bitLen x - 1) ≤ x) := by
  intro x
  induction x using Nat.strongRecOn with
  | ind x ih =>
    intro hx
    by_cases h0 : x = 0
    · subst h0
      exact ⟨by decide, fun h => absurd rfl h⟩
    · rw [Lib.bitLen_half x h0 hx]
      obtain ⟨i1, i2⟩ := ih (x / 2) (by omega) (by omega)
      by_cases h1 : x / 2 = 0
      · rw [h1, show Lib.bitLen 0 = 0 by decide]
        exact ⟨by simp; omega, fun _ => ⟨by omega, by simp; omega⟩⟩
      · obtain ⟨j1, j2⟩ := i2 h1
        generalize Lib.bitLen (x / 2) = q at *
        refine ⟨?_, fun _ => ⟨by omega, ?_⟩⟩
        · rw [Nat.add_comm, Nat.pow_succ]; omega
        · obtain ⟨p, rfl⟩ : ∃ p, q = p + 1 := ⟨q - 1, by omega⟩
          rw [Nat.add_sub_cancel] at j2
          rw [Nat.add_sub_cancel_left, Nat.pow_succ]; omega
theorem bitLen_le {x : Nat} (h : x < 4294967296) : Lib.bitLen x ≤ 32 := by
  obtain ⟨h1, h2⟩ := bitLen_pow x (by omega)
  by_cases h0 : x = 0
  · subst h0; decide
  · have := (h2 h0).2
    have : 2 ^ (Lib.bitLen x - 1) < 2 ^ 32 := by omega
    have := (Nat.pow_lt_pow_iff_right (by decide : 1 < 2)).1 this
    omega
theorem tab_get (i : Nat) (h : i < Lib.len8tab.size) : (Lib.len8tab[i]'h).toNat = Lib.bitLen i := by
  have e := Lib.len8_eq ⟨i, by rw [Lib.len8tab_size] at h; exact h⟩
  unfold Lib.len8 at e
  simp only [Int.toNat_natCast] at e
  rw [getElem?_pos Lib.len8tab i h, Option.getD_some] at e
  exact Int.ofNat.inj e
theorem wrap_k (k i r : Nat) (h : i < Lib.len8tab.size) (hk : k ≤ 24) (hr : r = k + Lib.bitLen i) : wrap64 ((k : Int) + wrap64 ((Lib.len8tab[i]'h).toNat : Int)) = (r : Int) := by
  rw [tab_get i h]
  rw [Lib.len8tab_size] at h
  have := Lib.bitLen_le8 ⟨i, h⟩
  simp only at this
  unfold wrap64
  omega
theorem wrap_0 (i r : Nat) (h : i < Lib.len8tab.size) (hr : r = Lib.bitLen i) : wrap64 (wrap64 ((Lib.len8tab[i]'h).toNat : Int)) = (r : Int) ∧ wrap64 ((Lib.len8tab[i]'h).toNat : Int) = (r : Int) := by
  rw [tab_get i h]
  rw [Lib.len8tab_size] at h
  have := Lib.bitLen_le8 ⟨i, h⟩
  simp only at this
  unfold wrap64
  omega
theorem w24 (x : Nat) (h1 : 65536 ≤ (x : Int)) (h2 : 256 ≤ (x : Int) / 65536) (h : x < 4294967296) (hi : x / 65536 / 256 < Lib.len8tab.size) : wrap64 (24 + wrap64 ((Lib.len8tab[x / 65536 / 256]'hi).toNat : Int)) = (Lib.bitLen x : Int) :=
  wrap_k 24 _ _ hi (by omega) (by rw [Lib.bitLen_shift16 x (by omega) (by omega), Lib.bitLen_shift8 (x / 65536) (by omega) (by omega)]; omega)
theorem w16 (x : Nat) (h1 : 65536 ≤ (x : Int)) (h : x < 4294967296) (hi : x / 65536 < Lib.len8tab.size) : wrap64 (16 + wrap64 ((Lib.len8tab[x / 65536]'hi).toNat : Int)) = (Lib.bitLen x : Int) :=
  wrap_k 16 _ _ hi (by omega) (by rw [Lib.bitLen_shift16 x (by omega) (by omega)])
theorem w8 (x : Nat) (h2 : 256 ≤ (x : Int)) (h : x < 4294967296) (hi : x / 256 < Lib.len8tab.size) : wrap64 (8 + wrap64 ((Lib.len8tab[x / 256]'hi).toNat : Int)) = (Lib.bitLen x : Int) :=
  wrap_k 8 _ _ hi (by omega) (by rw [Lib.bitLen_shift8 x (by omega) (by omega)])
theorem w0 (x : Nat) (hi : x < Lib.len8tab.size) : wrap64 (0 + wrap64 ((Lib.len8tab[x]'hi).toNat : Int)) = (Lib.bitLen x : Int) := wrap_k 0 _ _ hi (by omega) (by omega)
set_option maxRecDepth 1000000 in
set_option maxHeartbeats 4000000 in
theorem Len32_any (x : Nat) (w : World) (h : x < 4294967296) :
    Calls Try.prog 127 #[.int .u32 x] w (fun e w' => e = .returned (.int .i64 (Lib.bitLen x)) ∧ w = w') := by
  go_enter Try.func127, Try.ntmps127
  go_wp2
  all_goals first
    | (go_ret; refine ⟨congrArg Ending.returned (congrArg (Value.int IntKind.i64) ?_), rfl⟩
       first
         | exact w24 x (by assumption) (by assumption) h _
         | exact w16 x (by assumption) h _
         | exact w8 x (by assumption) h _
         | exact w0 x _
         | exact (wrap_0 x _ _ rfl).1
         | exact (wrap_0 x _ _ rfl).2)
    | (exfalso
       have hs := Lib.len8tab_size
       omega)
theorem Lead_any (x : Nat) (w : World) (h : x < 4294967296) :
    Calls Try.prog 115 #[.int .u32 x] w (fun e w' => e = .returned (.int .i64 (lz x)) ∧ w = w') := by
  have hl := bitLen_le h
  have e : (32 : Int) - (Lib.bitLen x : Int) = (lz x : Int) := by unfold lz; omega
  have HL := Lib.hid h
  clear h
  go_enter Try.func115, Try.ntmps115
  go_wp2_with (go_at_call 127; refine (Len32_any _ _ HL.out).mono ?_; rintro e w' ⟨rfl, rfl⟩)
  go_ret
  exact ⟨by rw [← e]; rfl, rfl⟩
/-- What lz is. -/
theorem lz_spec {x : Nat} (h0 : x ≠ 0) (h : x < 4294967296) : lz x ≤ 31 ∧ 2147483648 ≤ x * 2 ^ lz x ∧ x * 2 ^ lz x < 4294967296 := by
  obtain ⟨h1, h2⟩ := bitLen_pow x (by omega)
  obtain ⟨h3, h4⟩ := h2 h0
  have h5 := bitLen_le h
  unfold lz
  generalize Lib.bitLen x = q at *
  refine ⟨by omega, ?_, ?_⟩
  · have e : 2147483648 = 2 ^ (q - 1) * 2 ^ (32 - q) := by rw [← Nat.pow_add, show q - 1 + (32 - q) = 31 by omega]
    rw [e]; exact Nat.mul_le_mul_right _ h4
  · have e : 4294967296 = 2 ^ q * 2 ^ (32 - q) := by rw [← Nat.pow_add, show q + (32 - q) = 32 by omega]
    rw [e]; exact Nat.mul_lt_mul_of_pos_right h1 (Nat.two_pow_pos _)
end Go.Proofs.Ytlipdegiihojfaa
