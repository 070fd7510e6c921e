/- Names: what the code, which reads runes, and its model, which reads bytes, return. -/
import Derived.Test.YtgeomaeccalceaaChk
import Derived.Laws.RangeAny
import Derived.Below
namespace Go.Proofs.Ytgeomaeccalceaa
open Go Go.RowKit Fl

def isL (b : UInt8) : Bool := decide (97 ≤ b.toNat) && decide (b.toNat ≤ 122)
theorem isL_iff (b : UInt8) : isL b = true ↔ (97 : Int) ≤ (b.toNat : Int) ∧ (b.toNat : Int) ≤ 122 := by unfold isL; simp; omega
theorem all_snoc (l : List UInt8) (b : UInt8) (h : l.all isL = true) : (l ++ [b]).all isL = isL b := by simp [h]
theorem all_cut (s : ByteArray) (k : Nat) (h : k < s.size) (hb : isL s[k] = false) : s.data.toList.all isL = false := by
  rw [List.all_eq_false]
  refine ⟨s[k], ?_, by simp [hb]⟩
  rw [show s[k] = s.data.toList[k]'(by simpa using h) from rfl]
  exact List.getElem_mem _

/-- A name: 1 to 8 letters. -/
def nameA (s : ByteArray) : Bool := s.data.toList.all isL && (decide (1 ≤ s.size) && decide (s.size ≤ 8))

theorem name_all (s : ByteArray) (h : s.data.toList.all isL = true) : nameA s = (decide (1 ≤ s.size) && decide (s.size ≤ 8)) := by unfold nameA; rw [h]; rfl
theorem name_pos (s : ByteArray) (h : 1 ≤ s.size) : (decide (1 ≤ s.size) && decide (s.size ≤ 8)) = decide ((s.size : Int) ≤ 8) := by
  rw [decide_eq_true h, Bool.true_and]; simp; omega
theorem name_none (s : ByteArray) (h : ¬ 1 ≤ s.size) : (decide (1 ≤ s.size) && decide (s.size ≤ 8)) = false := by
  rw [decide_eq_false h, Bool.false_and]
theorem name_long (s : ByteArray) (h : 8 < s.size ∨ s.size < 1) : nameA s = false := by
  unfold nameA
  have : (decide (1 ≤ s.size) && decide (s.size ≤ 8)) = false := by
    rcases h with h | h
    · rw [decide_eq_false (show ¬ s.size ≤ 8 by omega), Bool.and_false]
    · rw [decide_eq_false (show ¬ 1 ≤ s.size by omega), Bool.false_and]
  rw [this, Bool.and_false]
theorem name_not (s : ByteArray) (k : Nat) (h : k < s.size) (hb : isL s[k] = false) : nameA s = false := by unfold nameA; rw [all_cut s k h hb]; rfl
theorem name_short (s : ByteArray) (h : s.data.toList.all isL = true) (h1 : 1 ≤ s.size) (h8 : s.size ≤ 8) : nameA s = true := by
  rw [name_all s h, decide_eq_true h1, decide_eq_true h8]; rfl

def Name (s : ByteArray) (w : World) (e : Ending) (w' : World) : Prop := e = .returned (.bool (nameA s)) ∧ Below w.heap.size w w'
set_option maxHeartbeats 400000 in
theorem implIsName_any (s : ByteArray) (w : World) :
    Calls Try.prog 106 #[.string s] w (Name s w) := by
  by_cases h8 : (s.size : Int) < 1 ∨ 8 < (s.size : Int)
  · have HN := Lib.hid (name_long s (by omega))
    rcases h8 with h8 | h8
    · go_enter Try.func106, Try.ntmps106
      go_wp2
      go_ret
      exact ⟨by rw [HN.out]; rfl, Below.refl _ _⟩
    · have h1 : (1 : Int) ≤ (s.size : Int) := by omega
      go_enter Try.func106, Try.ntmps106
      go_wp2
      go_ret
      exact ⟨by rw [HN.out]; rfl, Below.refl _ _⟩
  · have h1 : (1 : Int) ≤ (s.size : Int) := by omega
    have h2 : (s.size : Int) ≤ 8 := by omega
    clear h8
    go_enter Try.func106, Try.ntmps106
    go_wp2
    go_loopw [4] (fun r wr => ∃ p : Nat, p ≤ s.size ∧ wr = w.iter s p ∧ (s.data.toList.take p).all isL = true) (fun _ wr => s.size - wr.iterPos w.heap.size)
    case atStart => exact ⟨0, Nat.zero_le _, rfl, rfl⟩
    case round =>
      obtain ⟨p, hp, rfl, hall⟩ := hrel
      have HA := Lib.hid hall
      clear hall
      by_cases hlt : p < s.size
      · by_cases hasc : s[p].toNat < 128
        · have hn := fun ty => run_next_ascii (P := Try.prog) w s p ty hlt hasc
          cases hb : isL s[p] with
          | true =>
            obtain ⟨b1, b2⟩ := (isL_iff _).1 hb
            have HB := Lib.hid hb
            clear hb
            have HT := Lib.hid (take_snoc s p hlt)
            go_wp2
            go_roundw
            case rel => exact ⟨p + 1, by omega, rfl, by rw [HT.out, all_snoc _ _ HA.out, HB.out]⟩
            case measure => simp; omega
          | false =>
            have HN := Lib.hid (name_not s p hlt hb)
            have hb' : ¬ ((97 : Int) ≤ (s[p].toNat : Int) ∧ (s[p].toNat : Int) ≤ 122) := fun h => by rw [(isL_iff _).2 h] at hb; cases hb
            clear hb
            by_cases h97 : (s[p].toNat : Int) < 97
            · clear hb'
              go_wp2
              go_ret
              exact ⟨by rw [HN.out]; rfl, (Below.refl _ _).alloc (Nat.le_refl _) _⟩
            · have h122 : (122 : Int) < (s[p].toNat : Int) := by omega
              have h97' : (97 : Int) ≤ (s[p].toNat : Int) := by omega
              clear hb' h97
              go_wp2
              go_ret
              exact ⟨by rw [HN.out]; rfl, (Below.refl _ _).alloc (Nat.le_refl _) _⟩
        · have hn := fun ty => run_next_any (P := Try.prog) w s p ty hlt
          have hd := (decode_high s p hlt (by omega)).1
          have HN := Lib.hid (name_not s p hlt (by unfold isL; rw [decide_eq_false (show ¬ s[p].toNat ≤ 122 by omega), Bool.and_false]))
          generalize Utf8.decode s p = D at *
          obtain ⟨R, Wd⟩ := D
          have hd1 : (122 : Int) < (R : Int) := by have : 128 ≤ R := hd; omega
          have hd2 : (97 : Int) ≤ (R : Int) := by omega
          clear hd hasc
          go_wp2
          go_ret
          exact ⟨by rw [HN.out]; rfl, (Below.refl _ _).alloc (Nat.le_refl _) _⟩
      · have HE := Lib.hid (take_all s p (by omega))
        have hn := fun ty => run_next_end (P := Try.prog) w s p ty hlt
        have HN := Lib.hid (name_short s (by rw [← HE.out]; exact HA.out) (by omega) (by omega))
        go_wp2
        go_ret
        exact ⟨by rw [HN.out]; rfl, (Below.refl _ _).alloc (Nat.le_refl _) _⟩
end Go.Proofs.Ytgeomaeccalceaa
