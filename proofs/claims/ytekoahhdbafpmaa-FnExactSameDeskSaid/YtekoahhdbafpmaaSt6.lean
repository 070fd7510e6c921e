/- Tables that are the same: both sides. -/
import Derived.Test.YtekoahhdbafpmaaSz
import Derived.Deep.QuietTactic
import Derived.BigQuiet
namespace Go.Proofs.Ytekoahhdbafpmaa
open Go Go.RowKit
set_option linter.unusedVariables false

theorem eq_of_at {xs ys : List Int} (hl : xs.length = ys.length) (h : ∀ j : Nat, j < xs.length → xs[j]?.getD 0 = ys[j]?.getD 0) : xs = ys := by
  apply List.ext_getElem hl
  intro i h1 h2
  have := h i h1
  simpa [h1, h2] using this
set_option maxRecDepth 100000 in
set_option maxHeartbeats 1000000 in
theorem equalI_any (xs ys : List Int) (n m : Nat) (hn : xs.length = n) (hm : ys.length = m) (ao bo : Option Addr) (ca cb : Nat) (w : World) (hx : Holds w ao (il xs)) (hy : Holds w bo (il ys)) (hl : n ≤ 1048576) (hl2 : m ≤ 1048576) :
    Calls Try.prog 38 #[.slice ao n ca, .slice bo m cb] w (RetB (.bool (decide (xs = ys))) w) := by
  have HX := Lib.hid (And.intro hx (And.intro hy (And.intro hn hm)))
  clear hx hy hn hm
  by_cases he : n = m
  · subst he
    go_enter Try.func38, Try.ntmps38
    go_wp2_with fail
    go_loopw [13] (fun i wr => ∃ k : Nat, k ≤ n ∧ i = .int .i64 k ∧ (∀ j : Nat, j < k → xs[j]?.getD 0 = ys[j]?.getD 0) ∧ ∃ q, wr = w.drewN q) (fun i _ => n - (intOf i).toNat)
    case atStart => exact ⟨0, Nat.zero_le _, rfl, fun j hj => absurd hj (Nat.not_lt_zero _), 0, rfl⟩
    case round =>
      obtain ⟨k, hk, rfl, hall, q, rfl⟩ := hrel
      have HA := Lib.hid hall
      clear hall
      by_cases hlt : k < n
      · obtain ⟨b, o, rfl, hc⟩ := HX.out.1 k (by rw [il_len]; have := HX.out.2.2; omega)
        obtain ⟨b', o', rfl, hc'⟩ := HX.out.2.1 k (by rw [il_len]; have := HX.out.2.2; omega)
        rw [il_get _ _ (by have := HX.out.2.2; omega)] at hc hc'
        have hlt' : (k : Int) < n := by omega
        obtain ⟨x, hx⟩ : ∃ x, xs[k]?.getD 0 = x := ⟨_, rfl⟩
        obtain ⟨y, hy⟩ : ∃ y, ys[k]?.getD 0 = y := ⟨_, rfl⟩
        rw [hx] at hc
        rw [hy] at hc'
        have HE := Lib.hid (And.intro hx hy)
        clear hx hy
        by_cases hb : x = y
        · have HB := Lib.hid hb
          have hne : (x != y) = false := by simpa using hb
          clear hb
          go_wp2_with fail
          go_quiet (fail)
          go_wp2_with fail
          go_roundw
          case rel => exact ⟨k + 1, by omega, by go_num, fun j hj => (by
            by_cases e : j = k
            · subst e; rw [HE.out.1, HE.out.2]; exact HB.out
            · exact HA.out j (by omega)), _, rfl⟩
          case measure => simp [intOf]; omega
        · have HB : Hid (decide (xs = ys) = false) := Lib.hid (decide_eq_false (fun h => hb (by rw [← HE.out.1, ← HE.out.2, h])))
          have hne : (x != y) = true := by simpa using hb
          clear hb
          go_wp2_with fail
          go_quiet (fail)
          go_wp2_with fail
          go_ret
          exact ⟨by rw [HB.out]; rfl, (by repeat (first | with_reducible exact Below.refl _ _ | with_reducible exact HBL | with_reducible refine Below.drew ?_ | with_reducible refine Bel_drewN ?_ _ | with_reducible refine Below.alloc ?_ (by first | omega | (simp; done) | (simp; omega)) _ | with_reducible refine Below.setCell ?_ (by first | omega | (simp; done) | (simp; omega)) _))⟩
      · have HB : Hid (decide (xs = ys) = true) := Lib.hid (decide_eq_true (eq_of_at (by have := HX.out.2.2; omega) (fun j hj => HA.out j (by have := HX.out.2.2; omega))))
        go_wp2_with fail
        go_ret
        exact ⟨by rw [HB.out]; rfl, (by repeat (first | with_reducible exact Below.refl _ _ | with_reducible exact HBL | with_reducible refine Below.drew ?_ | with_reducible refine Bel_drewN ?_ _ | with_reducible refine Below.alloc ?_ (by first | omega | (simp; done) | (simp; omega)) _ | with_reducible refine Below.setCell ?_ (by first | omega | (simp; done) | (simp; omega)) _))⟩
  · have HB : Hid (decide (xs = ys) = false) := Lib.hid (decide_eq_false (fun h => he (by have := HX.out.2.2; rw [h] at this; omega)))
    have hne : ((n : Int) != (m : Int)) = true := by simp; omega
    clear he
    go_enter Try.func38, Try.ntmps38
    go_wp2_with fail
    go_ret
    exact ⟨by rw [HB.out]; rfl, Below.refl _ _⟩
/-- Tables with the same sides and the same counts. -/
def sameT (r c : Int) (xs : List Int) (r' c' : Int) (ys : List Int) : Prop := r = r' ∧ c = c' ∧ xs = ys
instance (r c : Int) (xs : List Int) (r' c' : Int) (ys : List Int) : Decidable (sameT r c xs r' c' ys) := by unfold sameT; infer_instance
def sameB (r c : Int) (xs : List Int) (r' c' : Int) (ys : List Int) : Bool := decide (sameT r c xs r' c' ys)
set_option maxRecDepth 100000 in
set_option maxHeartbeats 1000000 in
theorem implSameTable_any (r c r' c' : Int) (xs ys : List Int) (ao bo : Option Addr) (ca cb : Nat) (w : World) (hx : Holds w ao (il xs)) (hy : Holds w bo (il ys)) (hl : xs.length ≤ 1048576) (hl2 : ys.length ≤ 1048576) :
    Calls Try.prog 37 #[.agg #[.int .i64 r, .int .i64 c, .slice ao xs.length ca], .agg #[.int .i64 r', .int .i64 c', .slice bo ys.length cb]] w (RetB (.bool (sameB r c xs r' c' ys)) w) := by
  have HX := Lib.hid (And.intro hx hy)
  have HB : Hid (Below w.heap.size w ((w.alloc (.cells #[.int .i64 r, .int .i64 c, .slice ao xs.length ca] 34)).alloc (.cells #[.int .i64 r', .int .i64 c', .slice bo ys.length cb] 34))) := Lib.hid (by repeat (first | with_reducible exact Below.refl _ _ | with_reducible exact HBL | with_reducible refine Below.drew ?_ | with_reducible refine Bel_drewN ?_ _ | with_reducible refine Below.alloc ?_ (by first | omega | (simp; done) | (simp; omega)) _ | with_reducible refine Below.setCell ?_ (by first | omega | (simp; done) | (simp; omega)) _))
  clear hx hy
  by_cases h1 : r = r'
  · by_cases h2 : c = c'
    · have HF : Hid (sameB r c xs r' c' ys = decide (xs = ys)) := Lib.hid (by unfold sameB sameT; simp [h1, h2])
      have e1 : (r == r') = true := by simpa using h1
      have e2 : (c == c') = true := by simpa using h2
      clear h1 h2
      go_enter Try.func37, Try.ntmps37
      go_wp2_with fail
      refine (equalI_any xs ys _ _ rfl rfl ao bo _ _ _ (HX.out.1.below HB.out) (HX.out.2.below HB.out) hl hl2).mono ?_
      rintro e w1 ⟨rfl, hb⟩
      have H := Lib.hid (Bel_next HB.out hb)
      rw [← HF.out]
      clear hb
      go_wp2_with fail
      go_ret
      exact ⟨by first | rfl | (simp; done), H.out⟩
    · have HF : Hid (sameB r c xs r' c' ys = false) := Lib.hid (by unfold sameB sameT; simp [h2])
      have e1 : (r == r') = true := by simpa using h1
      have e2 : (c == c') = false := by simpa using h2
      clear h1 h2
      go_enter Try.func37, Try.ntmps37
      go_wp2_with fail
      go_ret
      exact ⟨by rw [HF.out]; first | rfl | (simp; done), HB.out⟩
  · have HF : Hid (sameB r c xs r' c' ys = false) := Lib.hid (by unfold sameB sameT; simp [h1])
    have e1 : (r == r') = false := by simpa using h1
    clear h1
    go_enter Try.func37, Try.ntmps37
    go_wp2_with fail
    go_ret
    exact ⟨by rw [HF.out]; first | rfl | (simp; done), HB.out⟩
set_option maxRecDepth 100000 in
set_option maxHeartbeats 1000000 in
theorem l06Same_any (r c r' c' : Int) (xs ys : List Int) (ao bo : Option Addr) (ca cb g g' : Nat) (T : TypeId) (w : World) (hW : Whole w g T #[.int .i64 r, .int .i64 c, .slice ao xs.length ca]) (hV : Whole w g' T #[.int .i64 r', .int .i64 c', .slice bo ys.length cb]) (hx : Holds w ao (il xs)) (hy : Holds w bo (il ys)) (hl : xs.length ≤ 1048576) (hl2 : ys.length ≤ 1048576) :
    Calls Try.prog 33 #[.pointer (some ⟨g, 0, none⟩), .pointer (some ⟨g', 0, none⟩)] w (RetB (.bool (sameB r c xs r' c' ys)) w) := by
  have HX := Lib.hid (And.intro hx hy)
  have hc0 := hW.cell 0
  have hc1 := hW.cell 1
  have hc2 := hW.cell 2
  have hd0 := hV.cell 0
  have hd1 := hV.cell 1
  have hd2 := hV.cell 2
  clear hx hy hW hV
  by_cases h1 : r = r'
  · by_cases h2 : c = c'
    · by_cases h3 : xs.length = ys.length
      · have HF : Hid (sameB r c xs r' c' ys = decide (xs = ys)) := Lib.hid (by unfold sameB sameT; simp [h1, h2])
        have e1 : (r != r') = false := by simpa using h1
        have e2 : (c != c') = false := by simpa using h2
        obtain ⟨m, hm⟩ : ∃ m, ys.length = m := ⟨_, rfl⟩
        have H3 : Hid (ys.length = xs.length) := Lib.hid h3.symm
        rw [← h3] at hd2
        clear h1 h2 hm h3
        go_enter Try.func33, Try.ntmps33
        go_wp2_with fail
        go_quiet (fail)
        go_wp2_with fail
        go_loopw [5] (fun i wr => ∃ k : Nat, k ≤ xs.length ∧ i = .int .i64 k ∧ (∀ j : Nat, j < k → xs[j]?.getD 0 = ys[j]?.getD 0) ∧ ∃ q, wr = w.drewN q) (fun i _ => xs.length - (intOf i).toNat)
        case atStart => exact ⟨0, Nat.zero_le _, rfl, fun j hj => absurd hj (Nat.not_lt_zero _), _, rfl⟩
        case round =>
          obtain ⟨k, hk, rfl, hall, q, rfl⟩ := hrel
          have HA := Lib.hid hall
          clear hall
          by_cases hlt : k < xs.length
          · obtain ⟨b, o, rfl, hc⟩ := HX.out.1 k (by rw [il_len]; omega)
            obtain ⟨b', o', rfl, hc'⟩ := HX.out.2 k (by rw [il_len]; have := H3.out; omega)
            rw [il_get _ _ hlt] at hc
            rw [il_get _ _ (by have := H3.out; omega)] at hc'
            have hlt' : (k : Int) < xs.length := by omega
            obtain ⟨x, hx⟩ : ∃ x, xs[k]?.getD 0 = x := ⟨_, rfl⟩
            obtain ⟨y, hy⟩ : ∃ y, ys[k]?.getD 0 = y := ⟨_, rfl⟩
            rw [hx] at hc
            rw [hy] at hc'
            have HE := Lib.hid (And.intro hx hy)
            clear hx hy
            by_cases hb : x = y
            · have HB := Lib.hid hb
              have hne : (x != y) = false := by simpa using hb
              clear hb
              go_wp2_with fail
              go_quiet (fail)
              go_wp2_with fail
              go_roundw
              case rel => exact ⟨k + 1, by omega, by go_num, fun j hj => (by
                by_cases e : j = k
                · subst e; rw [HE.out.1, HE.out.2]; exact HB.out
                · exact HA.out j (by omega)), _, rfl⟩
              case measure => simp [intOf]; omega
            · have HB : Hid (decide (xs = ys) = false) := Lib.hid (decide_eq_false (fun h => hb (by rw [← HE.out.1, ← HE.out.2, h])))
              have hne : (x != y) = true := by simpa using hb
              clear hb
              go_wp2_with fail
              go_quiet (fail)
              go_wp2_with fail
              go_ret
              exact ⟨by rw [HF.out, HB.out]; rfl, (by repeat (first | with_reducible exact Below.refl _ _ | with_reducible exact HBL | with_reducible refine Below.drew ?_ | with_reducible refine Bel_drewN ?_ _ | with_reducible refine Below.alloc ?_ (by first | omega | (simp; done) | (simp; omega)) _ | with_reducible refine Below.setCell ?_ (by first | omega | (simp; done) | (simp; omega)) _))⟩
          · have HB : Hid (decide (xs = ys) = true) := Lib.hid (decide_eq_true (eq_of_at H3.out.symm (fun j hj => HA.out j (by omega))))
            go_wp2_with fail
            go_ret
            exact ⟨by rw [HF.out, HB.out]; rfl, (by repeat (first | with_reducible exact Below.refl _ _ | with_reducible exact HBL | with_reducible refine Below.drew ?_ | with_reducible refine Bel_drewN ?_ _ | with_reducible refine Below.alloc ?_ (by first | omega | (simp; done) | (simp; omega)) _ | with_reducible refine Below.setCell ?_ (by first | omega | (simp; done) | (simp; omega)) _))⟩
      · have HF : Hid (sameB r c xs r' c' ys = false) := Lib.hid (decide_eq_false (fun h => h3 (by rw [h.2.2])))
        have e1 : (r != r') = false := by simpa using h1
        have e2 : (c != c') = false := by simpa using h2
        have e3 : ((xs.length : Int) != (ys.length : Int)) = true := by simp; omega
        clear h1 h2 h3
        go_enter Try.func33, Try.ntmps33
        go_wp2_with fail
        go_quiet (fail)
        go_wp2_with fail
        go_ret
        exact ⟨by rw [HF.out]; first | rfl | (simp; done), (by repeat (first | with_reducible exact Below.refl _ _ | with_reducible exact HBL | with_reducible refine Below.drew ?_ | with_reducible refine Bel_drewN ?_ _ | with_reducible refine Below.alloc ?_ (by first | omega | (simp; done) | (simp; omega)) _ | with_reducible refine Below.setCell ?_ (by first | omega | (simp; done) | (simp; omega)) _))⟩
    · have HF : Hid (sameB r c xs r' c' ys = false) := Lib.hid (by unfold sameB sameT; simp [h2])
      have e1 : (r != r') = false := by simpa using h1
      have e2 : (c != c') = true := by simpa using h2
      clear h1 h2
      go_enter Try.func33, Try.ntmps33
      go_wp2_with fail
      go_quiet (fail)
      go_wp2_with fail
      go_ret
      exact ⟨by rw [HF.out]; first | rfl | (simp; done), (by repeat (first | with_reducible exact Below.refl _ _ | with_reducible exact HBL | with_reducible refine Below.drew ?_ | with_reducible refine Bel_drewN ?_ _ | with_reducible refine Below.alloc ?_ (by first | omega | (simp; done) | (simp; omega)) _ | with_reducible refine Below.setCell ?_ (by first | omega | (simp; done) | (simp; omega)) _))⟩
  · have HF : Hid (sameB r c xs r' c' ys = false) := Lib.hid (by unfold sameB sameT; simp [h1])
    have e1 : (r != r') = true := by simpa using h1
    clear h1
    go_enter Try.func33, Try.ntmps33
    go_wp2_with fail
    go_quiet (fail)
    go_wp2_with fail
    go_ret
    exact ⟨by rw [HF.out]; first | rfl | (simp; done), (by repeat (first | with_reducible exact Below.refl _ _ | with_reducible exact HBL | with_reducible refine Below.drew ?_ | with_reducible refine Bel_drewN ?_ _ | with_reducible refine Below.alloc ?_ (by first | omega | (simp; done) | (simp; omega)) _ | with_reducible refine Below.setCell ?_ (by first | omega | (simp; done) | (simp; omega)) _))⟩
end Go.Proofs.Ytekoahhdbafpmaa
