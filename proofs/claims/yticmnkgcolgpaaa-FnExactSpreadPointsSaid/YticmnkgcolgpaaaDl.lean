/- Taking a value out of a row: append within a row, clear, slices.Delete; the first orders. -/
import Derived.Test.YticmnkgcolgpaaaCp
import Derived.Test.YticmnkgcolgpaaaOr
import Derived.Deep.RegionLaw
import Derived.Lib.SliceRun
namespace Go.Proofs.Yticmnkgcolgpaaa
open Go Go.RowKit
set_option linter.unusedVariables false

/-- A row with other values laid over it from place o on. -/
def layL (cs : List Int) (o : Nat) : List Int → List Int
  | [] => cs
  | n :: ns => layL (cs.set o n) (o + 1) ns
theorem layL_len (ns : List Int) : ∀ (cs : List Int) (o : Nat), (layL cs o ns).length = cs.length := by
  induction ns with
  | nil => intro cs o; rfl
  | cons n ns ih => intro cs o; rw [layL, ih]; simp
theorem layL_out (ns : List Int) : ∀ (cs : List Int) (o x : Nat), (x < o ∨ o + ns.length ≤ x) → (layL cs o ns)[x]? = cs[x]? := by
  induction ns with
  | nil => intro cs o x h; rfl
  | cons n ns ih =>
    intro cs o x h
    simp at h
    rw [layL, ih _ _ _ (by omega), List.getElem?_set_ne (by omega)]
theorem layL_in (ns : List Int) : ∀ (cs : List Int) (o x : Nat), o ≤ x → x < o + ns.length → x < cs.length → (layL cs o ns)[x]? = ns[x - o]? := by
  induction ns with
  | nil => intro cs o x h1 h2; simp at h2; omega
  | cons n ns ih =>
    intro cs o x h1 h2 h3
    simp at h2
    by_cases e : x = o
    · subst e
      rw [layL, layL_out _ _ _ _ (by omega), List.getElem?_set_self h3]; simp
    · rw [layL, ih _ _ _ (by omega) (by omega) (by simpa using h3), show x - o = x - (o + 1) + 1 by omega]; simp
theorem layL_erase (cs : List Int) (i : Nat) (hi : i < cs.length) : (layL cs i (cs.drop (i + 1))).take (cs.length - 1) = cs.eraseIdx i := by
  apply List.ext_getElem?
  intro x
  have hd : (cs.drop (i + 1)).length = cs.length - (i + 1) := by simp
  by_cases hx : x < cs.length - 1
  · rw [List.getElem?_take_of_lt hx, List.getElem?_eraseIdx]
    by_cases h : x < i
    · rw [layL_out _ _ _ _ (by omega), if_pos h]
    · rw [layL_in _ _ _ _ (by omega) (by omega) (by omega), if_neg h, List.getElem?_drop]
      congr 1; omega
  · rw [List.getElem?_eq_none (by simp [layL_len]; omega), List.getElem?_eq_none (by rw [List.length_eraseIdx, if_pos hi]; omega)]
section
variable {w w' : World} {g : Nat} {t : TypeId} {cs : List Int}
theorem RowAt.lay (ns : List Int) : ∀ {w : World} {cs : List Int}, RowAt w g t cs → ∀ o, RowAt (w.setCells g o (il ns)) g t (layL cs o ns) := by
  induction ns with
  | nil => intro w cs h o; exact h
  | cons n ns ih => intro w cs h o; exact ih (h.put o n) (o + 1)
theorem grown_cells (vs : List Value) : ∀ {w w' : World}, w.grownBy w' (some g) → ∀ o, w.grownBy (w'.setCells g o vs) (some g) := by
  induction vs with
  | nil => intro w w' h o; exact h
  | cons v vs ih => intro w w' h o; exact ih (grown_put h o v) (o + 1)
end
theorem eraseIdx_len (cs : List Int) (i : Nat) (hi : i < cs.length) : (cs.eraseIdx i).length = cs.length - 1 := by rw [List.length_eraseIdx, if_pos hi]
theorem RowAt.of_own2 {w : World} {t : TypeId} {cs : List Int} {base : Nat} {v : Value} {n : Nat} (h : w.ownsRow base t 1 v n (il cs)) (hn : 0 < n) : ∃ g cap, v = .slice (some ⟨g, 0, none⟩) n cap ∧ base ≤ g ∧ RowAt w g t cs ∧ n ≤ cap ∧ cap ≤ maxLen := by
  obtain ⟨hl, h⟩ := h
  rcases h with ⟨_, h0⟩ | ⟨g, cap, cur, hv, hg, hh, hn', hcm, hsz, ht⟩
  · omega
  · refine ⟨g, cap, hv, hg, ⟨cur, hh, fun i hi => ?_⟩, hn', hcm⟩
    have hil : (il cs).length = cs.length := il_len cs
    have hc : i < cur.size := by omega
    have hin : i < n * 1 := by omega
    have e : (il cs)[i]? = some cur[i] := by rw [← ht, List.getElem?_take_of_lt hin, Array.getElem?_toList, Array.getElem?_eq_getElem hc]
    rw [show cur[i]? = some cur[i] from Array.getElem?_eq_getElem hc, ← e]
    simp [il, hi]
/-- The first k numbers, and zeros. -/
def fstK (k : Nat) : List Int := (List.range 64).map fun i => if i < k then (i : Int) else 0
theorem fstK_zero : fstK 0 = List.replicate 64 0 := by decide
theorem fstK_next (k : Nat) : (fstK k).set k (k : Int) = fstK (k + 1) := by
  apply List.ext_getElem
  · simp [fstK]
  · intro i h1 h2
    rw [List.getElem_set]
    by_cases e : k = i
    · subst e; simp [fstK]
    · rw [if_neg e]
      simp only [fstK, List.getElem_map, List.getElem_range]
      by_cases hi : i < k
      · rw [if_pos hi, if_pos (by omega)]
      · rw [if_neg hi, if_neg (by omega)]
theorem fstK_all (n : Nat) (h : n ≤ 64) : (fstK 64).take n = idL n := by
  apply List.ext_getElem
  · simp [fstK, idL]; omega
  · intro i h1 h2
    have : i < 64 := by simp [idL] at h2; omega
    simp [fstK, idL, this]
set_option maxRecDepth 100000 in
set_option maxHeartbeats 1000000 in
theorem firstOrder_ret (n : Nat) (h1 : 1 ≤ n) (h2 : n ≤ 64) (w : World) :
    Calls Try.prog 75 #[.int .i64 n] w (fun e w' => e = .returned (.slice (some ⟨w.heap.size, 0, none⟩) n n) ∧ RowAt w' w.heap.size 112 (idL n) ∧ Below w.heap.size w w') := by
  have hnew := Lib.hid (tally_new w 64 112).rowAt
  have hn1 : (1 : Int) ≤ n := by omega
  have hn2 : (n : Int) ≤ 64 := by omega
  go_enter Try.func75, Try.ntmps75
  go_wp2_with fail
  go_loopw [5] (fun i wr => ∃ k : Nat, k ≤ 64 ∧ i = .int .i64 k ∧ Below w.heap.size w wr ∧ RowAt wr w.heap.size 112 (fstK k)) (fun i _ => 64 - (intOf i).toNat)
  case atStart => exact ⟨0, Nat.zero_le _, rfl, (by repeat (first | with_reducible exact Below.refl _ _ | with_reducible exact HBL | with_reducible refine Below.drew ?_ | with_reducible refine Bel_drewN ?_ _ | with_reducible refine Below.alloc ?_ (by first | omega | (simp; done) | (simp; omega)) _ | with_reducible refine Below.setCell ?_ (by first | omega | (simp; done) | (simp; omega)) _)), by rw [fstK_zero]; exact hnew.out⟩
  case round =>
    obtain ⟨k, hk, rfl, hbel, hrow⟩ := hrel
    have H := Lib.hid (And.intro hbel hrow)
    by_cases hlt : k < 64
    · have hlt' : (k : Int) < 64 := by omega
      have hcell := hrow.cell k (by simp [fstK]; omega)
      have hfr := hrow.frozen k
      have hblk := hrow.lt
      clear hbel hrow
      generalize (fstK k)[k]?.getD 0 = v at hcell
      go_wp2
      go_roundw
      case rel =>
        refine ⟨k + 1, by omega, by go_num, ?_, ?_⟩
        · have HBL := H.out.1; exact (by repeat (first | with_reducible exact Below.refl _ _ | with_reducible exact HBL | with_reducible refine Below.drew ?_ | with_reducible refine Bel_drewN ?_ _ | with_reducible refine Below.alloc ?_ (by first | omega | (simp; done) | (simp; omega)) _ | with_reducible refine Below.setCell ?_ (by first | omega | (simp; done) | (simp; omega)) _))
        · have := H.out.2.put k (k : Int)
          rwa [fstK_next] at this
      case measure => simp [intOf]; omega
    · have hk64 : k = 64 := by omega
      subst hk64
      clear hbel hrow
      go_wp2
      go_ret
      refine ⟨rfl, ?_, H.out.1⟩
      have := H.out.2.take n
      rwa [fstK_all n h2] at this
set_option maxRecDepth 100000 in
set_option maxHeartbeats 1000000 in
theorem l04All_ret (n : Nat) (h1 : 1 ≤ n) (h2 : n ≤ 64) (w : World) :
    Calls Try.prog 74 #[.int .i64 n] w (fun e w' => ∃ g cap, e = .returned (.slice (some ⟨g, 0, none⟩) n cap) ∧ n ≤ cap ∧ cap ≤ maxLen ∧ w.heap.size ≤ g ∧ RowAt w' g 2 (idL n) ∧ Below w.heap.size w w') := by
  go_enter Try.func74, Try.ntmps74
  go_wp2_with fail
  go_loopw [3, 4] (fun v i wr => ∃ j : Nat, j ≤ n ∧ i = .int .i64 j ∧ wr.ownsRow w.heap.size 2 1 v j (il (idL j)) ∧ w.grownBy wr none) (fun _ i _ => n - (intOf i).toNat)
  case atStart => exact ⟨0, Nat.zero_le _, rfl, World.ownsRow_made _ _ _ (Nat.le_refl _) (Nat.zero_le _) rfl, World.grownBy_alloc _ _ _⟩
  case round =>
    obtain ⟨j, hj, rfl, hown, hgr⟩ := hrel
    have H := Lib.hid (And.intro hown hgr)
    have hzr : w.heap.size ≤ wr.heap.size := hgr.size
    clear hown hgr
    by_cases hlt : j < n
    · go_wp2_with (at_builtin; refine wpList_app1 rfl _ _ 58 rfl w.heap.size 2 (.int .i64 0) 8 Try.underlying58 (by kernel_rfl) rfl _ j _ rfl (H.out.1.alloc _) _ _ (.int .i64 (j : Int)) rfl ?_ rfl ⟨by omega, by omega⟩ ?_ ?_)
      · simp
      · simp; omega
      · intro v' w' hown' hgr'
        have hg3 := grown_more (grown_more H.out.2 (World.grownBy_alloc _ _ none) (fun i hi => by cases hi)) hgr' (own_ge H.out.1)
        have ho3 : w'.ownsRow w.heap.size 2 1 v' (j + 1) (il (idL (j + 1))) := by rw [idL_next, il, List.map_append]; exact hown'
        have H3 := Lib.hid (And.intro ho3 hg3)
        clear hown' hgr' hg3 ho3 H
        go_wp2
        go_roundw
        case rel => exact ⟨j + 1, by omega, by go_num, H3.out⟩
        case measure => simp [intOf]; omega
    · obtain rfl : j = n := by omega
      obtain ⟨g, cap, rfl, hg, hrow, hcap, hcm⟩ := RowAt.of_own2 H.out.1 (by omega)
      have hbel : Below w.heap.size w wr := Below.grown (Below.refl _ _) H.out.2 (Nat.le_refl _) (fun k h => by cases h)
      have HR := Lib.hid (And.intro hcap (And.intro hcm (And.intro hg (And.intro hrow hbel))))
      clear hrow hbel H hcm
      go_wp2
      go_ret
      exact ⟨_, _, rfl, HR.out⟩
end Go.Proofs.Yticmnkgcolgpaaa
