/- Trees of sums: the model's tree; TreeOf. -/
import Derived.Test.YthalameadedbmaaTr
namespace Go.Proofs.Ythalameadedbmaa
open Go Go.RowKit
set_option linter.unusedVariables false

theorem treeL_take (ws : List Int) (j : Nat) (h : j < ws.length) : (treeL ws).take (j + 1) = (treeL ws).take j ++ [treeV ws ws.length (j + 1)] := by
  have hl : j < (treeL ws).length := by rw [treeL_len]; exact h
  rw [List.take_succ_eq_append_getElem hl]
  congr 1
  have := treeL_get ws j h
  rw [List.getElem?_eq_getElem hl] at this
  simp only [Option.getD_some] at this
  rw [this]
theorem l03Leaf_any (x : Int) (w : World) : Calls Try.prog 59 #[.int .i64 x] w (fun e w' => e = .returned (.bool (decide (0 ≤ x ∧ x ≤ 1000000))) ∧ w = w') := by
  go_enter Try.func59, Try.ntmps59
  go_wp2_with fail
  refine (l00In_any _ _ _ _).mono ?_
  rintro e w1 ⟨rfl, rfl⟩
  go_wp2_with fail
  go_ret
  exact ⟨by simp, rfl⟩
set_option maxRecDepth 100000 in
set_option maxHeartbeats 2000000 in
theorem l03Tree_any (ws : List Int) (ao : Option Addr) (c : Nat) (w : World) (hx : Holds w ao (il ws)) (hw : isLeafs ws) :
    Calls Try.prog 60 #[.slice ao ws.length c] w (RetL ws.length (il (treeL ws)) (fun s => s) w) := by
  have HX := Lib.hid hx
  have HW := Lib.hid hw
  have hn1 : 1 ≤ ws.length := hw.1
  have hn2 : ws.length ≤ 64 := hw.2.1
  have hn3 : (ws.length : Int) ≤ 64 := by omega
  clear hx hw
  go_enter Try.func60, Try.ntmps60
  go_wp2
  go_loopw [3, 4] (fun v i wr => ∃ j : Nat, j ≤ ws.length ∧ i = .int .i64 ((j : Int) + 1) ∧ wr.ownsRow w.heap.size 2 1 v j (il ((treeL ws).take j)) ∧ Below w.heap.size w wr ∧ w.heap.size ≤ wr.heap.size) (fun _ i _ => 200 - (intOf i).toNat)
  case atStart => exact ⟨0, Nat.zero_le _, by go_num, World.ownsRow_made _ _ _ (Nat.le_refl _) (Nat.zero_le _) rfl, (Below.refl _ _).alloc (Nat.le_refl _) _, by simp⟩
  case round =>
    rename World => wo
    obtain ⟨j, hj, rfl, hown, hbel, hsz⟩ := hrel
    have H := Lib.hid (And.intro hown hbel)
    by_cases hlt : j < ws.length
    · have hlt' : (j : Int) + 1 ≤ ws.length := by omega
      have HLOW := Lib.hid (l03Low_any (j + 1) (by omega) (by omega))
      have hlp := low_pos (j + 1)
      have hle := low_le (j + 1) (by omega) (by omega)
      have HV := Lib.hid (treeV_range ws (j + 1) ws.length (by omega) (by omega) (by omega))
      have HXo := Lib.hid (HX.out.below hbel)
      obtain ⟨b, o, hao, _⟩ := HXo.out 0 (by simp [il]; omega)
      subst hao
      clear hown hbel
      generalize hD : lowN (j + 1) = D at *
      have hD1 : (D : Int) ≤ (j : Int) + 1 := by omega
      have hD2 : (1 : Int) ≤ D := by omega
      have HDD := Lib.hid hD
      clear hD
      go_wp2_with fail
      have hcall := HLOW.out wo
      refine hcall.mono ?_
      rintro e w3 ⟨rfl, rfl⟩
      clear hcall
      obtain ⟨lo, hlo⟩ : ∃ lo : Nat, lo + D = j + 1 := ⟨j + 1 - D, by omega⟩
      have hlo' : (j : Int) + 1 - D = lo := by omega
      go_wp2
      go_loop [5, 6] (fun s k => ∃ d : Nat, d ≤ D ∧ k = .int .i64 ((lo + d : Nat) : Int) ∧ s = .int .i64 (sumR ws lo d)) (fun _ k => j + 1 - (intOf k).toNat)
      case atStart => exact ⟨0, Nat.zero_le _, by congr 1, rfl⟩
      case round =>
        obtain ⟨d, hd, rfl, rfl⟩ := hrel
        have hbd := sumR_bd HW.out.2.2 lo d
        have hs0 := hbd.1
        have hs1 : sumR ws lo d ≤ 64000000 := by omega
        clear hbd hlo'
        by_cases hld : d < D
        · obtain ⟨b', o', ho, hc⟩ := HXo.out (lo + d) (by simp [il]; omega)
          cases ho
          rw [il_get _ _ (by omega)] at hc
          have HN := Lib.hid (sumR_next ws lo d)
          have hx := HW.out.2.2 (lo + d)
          generalize ws[lo + d]?.getD 0 = x at *
          generalize sumR ws lo d = S at *
          obtain ⟨K, hK⟩ : ∃ K : Nat, K = lo + d := ⟨_, rfl⟩
          rw [← hK] at hc ⊢
          have hKj : (K : Int) < (j : Int) + 1 := by omega
          have hKn : (K : Int) < ws.length := by omega
          have HK := Lib.hid hK
          have hx0 := hx.1
          have hx1 := hx.2
          clear hx hK
          go_wp2
          go_round
          case rel =>
            have hK := HK.out
            exact ⟨d + 1, by omega, by congr 1; omega, by rw [HN.out]⟩
          case measure => simp [intOf]; omega
        · obtain rfl : d = D := by omega
          rw [hlo]
          have HS : Hid (sumR ws lo d = treeV ws ws.length (j + 1)) := Lib.hid (by rw [HV.out]; congr 1; omega)
          have hge : ¬ ((j + 1 : Nat) : Int) < (j : Int) + 1 := by omega
          generalize sumR ws lo d = S at *
          go_wp2_with (at_builtin; refine wpList_app1 rfl _ _ 22 rfl w.heap.size 2 (.int .i64 0) 8 Try.underlying22 (by kernel_rfl) rfl _ j _ rfl (H.out.1.alloc _) _ _ (.int .i64 S) rfl ?_ rfl ⟨by omega, by omega⟩ ?_ ?_)
          · omega
          · intro v' w' hown' hgr'
            have hb3 : Below w.heap.size w w' := Below.grown (H.out.2.alloc H.out.2.size _) hgr' (by first | omega | (simp; done) | (simp; omega)) (fun i hi => by have := own_ge H.out.1 i hi; omega)
            have ho3 : w'.ownsRow w.heap.size 2 1 v' (j + 1) (il ((treeL ws).take (j + 1))) := by rw [treeL_take ws j hlt, ← HS.out, il, List.map_append]; exact hown'
            have hz3 : w.heap.size ≤ w'.heap.size := hb3.size
            have H3 := Lib.hid (And.intro ho3 (And.intro hb3 hz3))
            clear hown' hgr' hb3 ho3 H hz3
            go_wp2
            go_roundw
            case rel => exact ⟨j + 1, by omega, by go_num, H3.out⟩
            case measure => simp [intOf]; omega
    · have hjn : j = ws.length := by omega
      have hlt' : (ws.length : Int) < (j : Int) + 1 := by omega
      obtain ⟨ao', c', rfl⟩ := own_form hown
      have hrow := Row.of_own hown
      rw [hjn, List.take_of_length_le (by rw [treeL_len]; omega)] at hrow
      have H1 := Lib.hid (And.intro hrow hbel)
      have HJ := Lib.hid hjn
      clear hown hbel hrow hjn
      go_wp2
      go_ret
      exact ⟨_, _, by rw [← HJ.out]; rfl, H1.out.1, H1.out.2⟩
def TreeR (n : Nat) (ts : List Int) : World → Ending → World → Prop := RetL n (il ts) (fun s => .tuple #[s, .bool true])
end Go.Proofs.Ythalameadedbmaa
