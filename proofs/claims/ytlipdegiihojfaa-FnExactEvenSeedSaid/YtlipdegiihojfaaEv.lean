/- A number between all others: EvenSeed. -/
import Derived.Test.YtlipdegiihojfaaLd
import Derived.Test.YtlipdegiihojfaaLz
import Derived.Test.YtlipdegiihojfaaSv
import Derived.Test.YtlipdegiihojfaaSh
import Derived.Test.YtlipdegiihojfaaLy
namespace Go.Proofs.Ytlipdegiihojfaa
open Go Go.RowKit Fl
set_option linter.unusedVariables false

/-- How many words are 0 in front, of four. -/
def evN (k : Int) (a b : Nat) : Nat := if wdK k a b 0 ≠ 0 then 0 else if wdK k a b 1 ≠ 0 then 1 else if wdK k a b 2 ≠ 0 then 2 else if wdK k a b 3 ≠ 0 then 3 else 4
theorem evN_one {k : Int} {a b n : Nat} (h4 : n ≤ 4) (h0 : ∀ j, j < n → wdK k a b j = 0) (h1 : n < 4 → wdK k a b n ≠ 0) : evN k a b = n := by
  unfold evN
  obtain rfl | rfl | rfl | rfl | rfl : n = 0 ∨ n = 1 ∨ n = 2 ∨ n = 3 ∨ n = 4 := by omega
  · rw [if_pos (h1 (by omega))]
  · rw [if_neg (fun h => h (h0 0 (by omega))), if_pos (h1 (by omega))]
  · rw [if_neg (fun h => h (h0 0 (by omega))), if_neg (fun h => h (h0 1 (by omega))), if_pos (h1 (by omega))]
  · rw [if_neg (fun h => h (h0 0 (by omega))), if_neg (fun h => h (h0 1 (by omega))), if_neg (fun h => h (h0 2 (by omega))), if_pos (h1 (by omega))]
  · rw [if_neg (fun h => h (h0 0 (by omega))), if_neg (fun h => h (h0 1 (by omega))), if_neg (fun h => h (h0 2 (by omega))), if_neg (fun h => h (h0 3 (by omega)))]
/-- The zeros in front; how many words that takes. -/
def evT (k : Int) (a b : Nat) : Nat := if evN k a b < 4 then 32 * evN k a b + lz (wdK k a b (evN k a b)) else 128
def evC (k : Int) (a b : Nat) : Nat := if evN k a b < 4 then evN k a b + 1 else 4
/-- A state of the loop over words. -/
def EvS (k : Int) (a b n z x : Nat) : Prop := n ≤ 4 ∧ ((z = 32 * n ∧ x = 0 ∧ ∀ j, j < n → wdK k a b j = 0) ∨ (∃ m, n = m + 1 ∧ wdK k a b m ≠ 0 ∧ (∀ j, j < m → wdK k a b j = 0) ∧ z = 32 * m + lz (wdK k a b m) ∧ x = wdK k a b m))
theorem lz_zero : lz 0 = 32 := by decide
theorem EvS.start (k : Int) (a b : Nat) : EvS k a b 0 0 0 := ⟨by omega, .inl ⟨rfl, rfl, fun j hj => absurd hj (Nat.not_lt_zero _)⟩⟩
theorem EvS.next {k : Int} {a b n z x : Nat} (h : EvS k a b n z x) (hn : n < 4) (hx : x = 0) : EvS k a b (n + 1) (z + lz (wdK k a b n)) (wdK k a b n) := by
  refine ⟨by omega, ?_⟩
  rcases h.2 with ⟨hz, _, h0⟩ | ⟨m, rfl, hm, h0, hz, hx'⟩
  · by_cases hw : wdK k a b n = 0
    · refine .inl ⟨by rw [hw, lz_zero]; omega, hw, fun j hj => ?_⟩
      by_cases e : j = n
      · subst e; exact hw
      · exact h0 j (by omega)
    · exact .inr ⟨n, rfl, hw, h0, by omega, rfl⟩
  · omega
theorem EvS.done {k : Int} {a b n z x : Nat} (h : EvS k a b n z x) (hn : ¬(n < 4 ∧ x = 0)) : z = evT k a b ∧ n = evC k a b := by
  rcases h.2 with ⟨hz, hx, h0⟩ | ⟨m, rfl, hm, h0, hz, hx'⟩
  · have h4 : n = 4 := by have := h.1; omega
    subst h4
    have := evN_one (k := k) (a := a) (b := b) (n := 4) (by omega) h0 (fun h => absurd h (by omega))
    unfold evT evC
    rw [this, if_neg (by omega), if_neg (by omega)]
    exact ⟨by omega, rfl⟩
  · have := evN_one (k := k) (a := a) (b := b) (n := m) (by have := h.1; omega) h0 (fun _ => hm)
    have hm4 : m < 4 := by have := h.1; omega
    unfold evT evC
    rw [this, if_pos hm4, if_pos hm4]
    exact ⟨hz, rfl⟩
theorem EvS.z {k : Int} {a b n z x : Nat} (h : EvS k a b n z x) (hk : 0 ≤ k ∧ k ≤ 3) : z ≤ 200 ∧ x < 4294967296 := by
  have h1 := h.1
  rcases h.2 with ⟨hz, hx, h0⟩ | ⟨m, rfl, hm, h0, hz, hx'⟩
  · omega
  · have := (lz_spec hm (wdK_lt k a b m hk)).1
    have := wdK_lt k a b m hk
    omega
/-- The number, and the seed behind it. -/
def evX (k : Int) (a b : Nat) : Nat := nb (1021 - evT k a b) ((8388608 + wdK k a b (evC k a b) / 512) * 536870912)
def evR (k : Int) (a b : Nat) : Option Nat := if evN k a b < 4 then narrow (some (evX k a b)) else av .f32 0
def EvP (g : Nat) (k : Int) (a b : Nat) (w : World) (e : Ending) (w' : World) : Prop :=
  ∃ r, e = .returned (.float .f32 r) ∧ Fv .f32 (evR k a b) r ∧ Whole w' g 26 (sdC k (sdK k a b (evC k a b + 1)).1 (sdK k a b (evC k a b + 1)).2) ∧ w.grownBy w' (some g)
theorem float_nb (d : Nat) (h1 : 8388608 ≤ d) (h2 : d < 16777216) : floatOfInt .f64 (d : Int) = nb 1045 (d * 536870912) := by
  have e : floatOfInt .f64 (d : Int) = Ieee.double.nearest (decide ((d : Int) < 0)) d 0 := rfl
  have e1 : decide ((d : Int) < 0) = false := by simp
  rw [e, e1]
  have e2 := nearest_scale Ieee.double false d 29 (-29) (by omega)
  rw [show ((-29 : Int) + ((29 : Nat) : Int)) = 0 by omega] at e2
  rw [← e2, Nat.shiftLeft_eq]
  exact nearest_nb _ 1045 _ (by omega) (by omega) (by omega) (by omega)
theorem Nb.in127 {L K : Nat} (h : Nb L K) : In .f64 R127 (some (nb L K)) := by
  have h1 := h.hi
  have h2 := h.L
  refine ⟨_, rfl, ?_⟩
  have e : FloatKind.f64.format.signWeight = 9223372036854775808 := by decide
  rw [e, h.abs]
  show nb L K ≤ (127 + 1023) * 4503599627370496
  unfold nb; omega
set_option maxRecDepth 100000 in
set_option maxHeartbeats 1000000 in
theorem drawZeros_any (k : Int) (a b : Nat) (w : World) (hs : sOk k a b) :
    Calls Try.prog 86 #[sd k a b] w (RetB (.tuple #[sd k (sdK k a b (evC k a b)).1 (sdK k a b (evC k a b)).2, .int .i64 (evT k a b)]) w) := by
  have HS := Lib.hid hs
  clear hs
  go_enter Try.func86, Try.ntmps86
  go_wp2_with fail
  have HP := Lib.hid (And.intro ((Whole.made w 26 (sdC k a b)).alloc (.cells (sdC 0 0 0) 26)) (Whole.made2 w (.cells (sdC k a b) 26) 26 (sdC 0 0 0)))
  go_loopw [4, 5, 6] (fun z x i wr => ∃ n nz nx : Nat, i = .int .i64 n ∧ z = .int .i64 nz ∧ x = .int .i64 nx ∧ EvS k a b n nz nx ∧ Below w.heap.size w wr ∧ Whole wr w.heap.size 26 (sdC k (sdK k a b n).1 (sdK k a b n).2) ∧ Whole wr (w.heap.size + 1) 26 (sdC 0 0 0)) (fun _ _ i _ => 4 - (intOf i).toNat)
  case atStart => exact ⟨0, 0, 0, rfl, rfl, rfl, EvS.start k a b, (by repeat (first | with_reducible exact Below.refl _ _ | with_reducible exact HBL | with_reducible refine Below.drew ?_ | with_reducible refine Bel_drewN ?_ _ | with_reducible refine Below.alloc ?_ (by first | omega | (simp; done) | (simp; omega)) _ | with_reducible refine Below.setCell ?_ (by first | omega | (simp; done) | (simp; omega)) _)), HP.out.1, HP.out.2⟩
  case round =>
    obtain ⟨n, nz, nx, rfl, rfl, rfl, hev, hbel, q0, q1⟩ := hrel
    clear HP
    have hz1 : w.heap.size + 1 < wr.heap.size := q1.lt
    have hz0 : w.heap.size < wr.heap.size := q0.lt
    obtain ⟨hc0, hf0⟩ := q0.facts
    obtain ⟨hc1, hf1⟩ := q1.facts
    have hb : nz ≤ 200 := (hev.z HS.out.kind).1
    have hn4 := hev.1
    have H := Lib.hid (And.intro hev (And.intro hbel (And.intro q0 q1)))
    have HJ := Lib.hid (HS.out.sdK n)
    have hl : (nxW k (sdK k a b n).1 (sdK k a b n).2 : Int) ≤ 4294967295 := by have := wdK_lt k a b n HS.out.kind; unfold wdK at this; omega
    have hlz : (lz (nxW k (sdK k a b n).1 (sdK k a b n).2) : Int) ≤ 32 := by unfold lz; omega
    clear hev hbel q0 q1
    by_cases hc : n < 4 ∧ nx = 0
    · obtain ⟨hlt, rfl⟩ := hc
      generalize hA : (sdK k a b n).1 = A at *
      generalize hB : (sdK k a b n).2 = B at *
      have HAB := Lib.hid (And.intro hA hB)
      clear hA hB
      go_wp2_with fail
      refine (stepSeed_any _ _ _ _ HJ.out.kind HJ.out.2.1 HJ.out.2.2).mono ?_
      rintro e w2 ⟨rfl, rfl⟩
      have HL := Lib.hid hl
      go_wp2_with (go_at_call 115; refine (Lead_any _ _ (by have := HL.out; omega)).mono ?_; rintro e w' ⟨rfl, rfl⟩)
      go_roundw
      case rel =>
        obtain ⟨hev, HBL, q0, q1⟩ := H.out
        obtain ⟨rfl, rfl⟩ := HAB.out
        have hnx : EvS k a b (n + 1) (nz + lz (nxW k (sdK k a b n).1 (sdK k a b n).2)) (nxW k (sdK k a b n).1 (sdK k a b n).2) := hev.next hlt rfl
        refine ⟨n + 1, nz + lz (nxW k (sdK k a b n).1 (sdK k a b n).2), nxW k (sdK k a b n).1 (sdK k a b n).2, by go_num, by go_num, rfl, hnx, (by repeat (first | with_reducible exact Below.refl _ _ | with_reducible exact HBL | with_reducible refine Below.drew ?_ | with_reducible refine Bel_drewN ?_ _ | with_reducible refine Below.alloc ?_ (by first | omega | (simp; done) | (simp; omega)) _ | with_reducible refine Below.setCell ?_ (by first | omega | (simp; done) | (simp; omega)) _)), ?_, ?_⟩
        · exact ((((q0.put 0 _).put 1 _).put 2 _).alloc _).alloc _
        · exact ((((q1.far (by first | omega | (simp; done) | (simp; omega)) _).far (by first | omega | (simp; done) | (simp; omega)) _).far (by first | omega | (simp; done) | (simp; omega)) _).alloc _).alloc _
      case measure => simp [intOf]; omega
    · have HE := Lib.hid (H.out.1.done hc)
      by_cases hlt : n < 4
      · have hx : 1 ≤ nx := by omega
        go_wp2_with fail
        obtain ⟨_, HBL, _, _⟩ := H.out
        rw [← HE.out.1, ← HE.out.2]
        exact bodyPost_ret (v := .tuple #[sd k (sdK k a b n).1 (sdK k a b n).2, .int .i64 nz]) (by simp [results, Try.results86, go_sem, hc1]) rfl ⟨rfl, (by repeat (first | with_reducible exact Below.refl _ _ | with_reducible exact HBL | with_reducible refine Below.drew ?_ | with_reducible refine Bel_drewN ?_ _ | with_reducible refine Below.alloc ?_ (by first | omega | (simp; done) | (simp; omega)) _ | with_reducible refine Below.setCell ?_ (by first | omega | (simp; done) | (simp; omega)) _))⟩
      · have hn : 4 ≤ n := by omega
        go_wp2_with fail
        obtain ⟨_, HBL, _, _⟩ := H.out
        rw [← HE.out.1, ← HE.out.2]
        exact bodyPost_ret (v := .tuple #[sd k (sdK k a b n).1 (sdK k a b n).2, .int .i64 nz]) (by simp [results, Try.results86, go_sem, hc1]) rfl ⟨rfl, (by repeat (first | with_reducible exact Below.refl _ _ | with_reducible exact HBL | with_reducible refine Below.drew ?_ | with_reducible refine Bel_drewN ?_ _ | with_reducible refine Below.alloc ?_ (by first | omega | (simp; done) | (simp; omega)) _ | with_reducible refine Below.setCell ?_ (by first | omega | (simp; done) | (simp; omega)) _))⟩
end Go.Proofs.Ytlipdegiihojfaa
