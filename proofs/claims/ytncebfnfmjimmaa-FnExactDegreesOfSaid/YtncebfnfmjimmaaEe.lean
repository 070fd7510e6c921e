/- Edges: the model's side, AreEdges. -/
import Derived.Test.YtncebfnfmjimmaaEd
namespace Go.Proofs.Ytncebfnfmjimmaa
open Go Go.RowKit
set_option linter.unusedVariables false

open Classical in
noncomputable def edB (xs : List Int) (n : Int) : Bool := decide (isEd xs n)
theorem edB_yes {xs : List Int} {n : Int} (h : isEd xs n) : edB xs n = true := by unfold edB; simpa using h
theorem edB_no {xs : List Int} {n : Int} (h : ¬isEd xs n) : edB xs n = false := by unfold edB; simpa using h
theorem l00In_val (n lo hi : Int) (v : Bool) (h : decide (lo ≤ n ∧ n ≤ hi) = v) (w : World) :
    Calls Try.prog 54 #[.int .i64 n, .int .i64 lo, .int .i64 hi] w (fun e w' => e = .returned (.bool v) ∧ w = w') := by subst h; exact l00In_any n lo hi w
set_option maxRecDepth 100000 in
set_option maxHeartbeats 12000000 in
theorem l04Edges_in (xs : List Int) (n : Int) (ao : Option Addr) (c : Nat) (w : World) (hn : 1 ≤ n ∧ n ≤ 64) (h2 : xs.length % 2 = 0) (hl : xs.length ≤ 512) (hx : Holds w ao (il xs)) :
    Calls Try.prog 68 #[.slice ao xs.length c, .int .i64 n] w (RetB (.bool (edB xs n)) w) := by
  have HX := Lib.hid hx
  have hr2 : (xs.length : Int) % 2 = 0 := by omega
  have hl' : (xs.length : Int) ≤ 512 := by omega
  have HD : Hid (decide (1 ≤ n ∧ n ≤ 64) = true) := Lib.hid (by simpa using hn)
  obtain ⟨hn1, hn2⟩ := hn
  clear hx
  go_enter Try.func68, Try.ntmps68
  go_wp2_with fail
  refine (l04Count_any _ _).mono ?_
  rintro e w1 ⟨rfl, rfl⟩
  rw [HD.out]
  go_wp2
  rw [hr2]
  clear hr2
  go_loopw [5] (fun iv wr => ∃ k i : Nat, i = 2 * k ∧ i ≤ xs.length ∧ iv = .int .i64 (i : Int) ∧ edTo xs n k ∧ Below w.heap.size w wr) (fun iv _ => xs.length + 2 - (intOf iv).toNat)
  case atStart => exact ⟨0, 0, rfl, Nat.zero_le _, rfl, fun j hj => absurd hj (Nat.not_lt_zero _), Below.refl _ _⟩
  case round =>
    obtain ⟨k, i, hik, hi, rfl, hed, hbel⟩ := hrel
    have H := Lib.hid (And.intro hed hbel)
    by_cases hlt : i < xs.length
    · obtain ⟨j, hj⟩ : ∃ j, j = i + 1 := ⟨_, rfl⟩
      have hjl : j < xs.length := by omega
      obtain ⟨b0, o0, rfl, hca⟩ := (Holds.below HX.out hbel) i (by simpa [il] using hlt)
      obtain ⟨b', o', e', hcb⟩ := (Holds.below HX.out hbel) j (by simpa [il] using hjl)
      cases e'
      rw [il_get _ _ hlt] at hca
      rw [il_get _ _ hjl] at hcb
      obtain ⟨a, ha⟩ : ∃ a, a = xs[i]?.getD 0 := ⟨_, rfl⟩
      obtain ⟨b, hb⟩ : ∃ b, b = xs[j]?.getD 0 := ⟨_, rfl⟩
      rw [← ha] at hca
      rw [← hb] at hcb
      have hNO : Hid (¬ (0 ≤ a ∧ a < b ∧ b < n ∧ cmpE (prevA xs k) (prevB xs k) a b < 0) → edB xs n = false) := Lib.hid (fun hh => edB_no (fun hi => by
        have := hi.2.2.2 k (by omega)
        unfold edOk at this
        rw [← hik, ← hj, ← ha, ← hb] at this
        exact hh this))
      have hYE : Hid (0 ≤ a ∧ a < b ∧ b < n ∧ cmpE (prevA xs k) (prevB xs k) a b < 0 → edTo xs n (k + 1)) := Lib.hid (fun hh => edTo_next hed (by unfold edOk; rw [← hik, ← hj, ← ha, ← hb]; exact hh))
      have HIK := Lib.hid (And.intro hik hj)
      have hlt' : (i : Int) < xs.length := by omega
      have hjl' : (j : Int) < xs.length := by omega
      have hwj : IntKind.i64.wrap ((i : Int) + 1) = (j : Int) := by rw [IntWalk.i64_in _ (by omega)]; omega
      have hwn : IntKind.i64.wrap (n - 1) = n - 1 := IntWalk.i64_in _ (by omega)
      have hPQ : Hid (0 < k → ∃ r s : Nat, r + 2 = i ∧ s + 1 = i ∧ prevA xs k = xs[r]?.getD 0 ∧ prevB xs k = xs[s]?.getD 0) := Lib.hid (fun h0 => ⟨i - 2, i - 1, by omega, by omega, by unfold prevA; rw [if_neg (by omega), hik], by unfold prevB; rw [if_neg (by omega), hik]⟩)
      clear ha hb hed hik hj
      by_cases t1 : 0 ≤ a ∧ a ≤ n - 1
      · have HV1 : Hid (decide (0 ≤ a ∧ a ≤ n - 1) = true) := Lib.hid (decide_eq_true t1)
        obtain ⟨t1a, t1b⟩ := t1
        have hwa : IntKind.i64.wrap (a + 1) = a + 1 := IntWalk.i64_in _ (by omega)
        by_cases t2 : a + 1 ≤ b ∧ b ≤ n - 1
        · have HV2 : Hid (decide (a + 1 ≤ b ∧ b ≤ n - 1) = true) := Lib.hid (decide_eq_true t2)
          obtain ⟨t2a, t2b⟩ := t2
          go_wp2_with fail
          go_quiet (first | (go_at_call 54; exact quiet_same' (l00In_val _ _ _ _ (by first | exact HV1.out | exact HV2.out) _)))
          have t3 : a < b := by omega
          have t4 : b < n := by omega
          by_cases hk : k = 0
          · have hi0 : i = 0 := by have := HIK.out; omega
            have HS : Hid (edTo xs n (k + 1)) := Lib.hid (hYE.out ⟨t1a, t3, t4, by
              rw [cmpE_neg]; unfold prevA prevB; rw [if_pos hk, if_pos hk]; omega⟩)
            clear hwn hwa hwj
            subst hi0
            go_wp2_with fail
            go_quiet (fail)
            go_wp2
            go_roundw
            case rel => exact ⟨k + 1, 2, by have := HIK.out; omega, by have := HIK.out; omega, rfl, HS.out, Bel_drewN H.out.2 _⟩
            case measure => simp [intOf]
          · obtain ⟨r, s, hr, hs, hp, hq⟩ := hPQ.out (by omega)
            have hrl : r < xs.length := by omega
            have hsl : s < xs.length := by omega
            obtain ⟨b', o', e', hcp⟩ := (Holds.below HX.out hbel) r (by simpa [il] using hrl)
            cases e'
            obtain ⟨b', o', e', hcq⟩ := (Holds.below HX.out hbel) s (by simpa [il] using hsl)
            cases e'
            rw [il_get _ _ hrl, ← hp] at hcp
            rw [il_get _ _ hsl, ← hq] at hcq
            generalize prevA xs k = p at *
            generalize prevB xs k = q at *
            have hi1 : (0 : Int) < i := by omega
            have hi1n : 0 < i := by omega
            have hw2 : IntKind.i64.wrap ((i : Int) - 2) = (r : Int) := by rw [IntWalk.i64_in _ (by omega)]; omega
            have hw1 : IntKind.i64.wrap ((i : Int) - 1) = (s : Int) := by rw [IntWalk.i64_in _ (by omega)]; omega
            have hrl' : (r : Int) < xs.length := by omega
            have hsl' : (s : Int) < xs.length := by omega
            have HRS := Lib.hid (And.intro hr hs)
            clear hr hs hp hq hwn hwa hk
            by_cases hap : a < p
            · have HB : Hid (edB xs n = false) := Lib.hid (hNO.out (fun hh => by have := (cmpE_neg _ _ _ _).1 hh.2.2.2; omega))
              clear t1a t1b t2a t2b t3 t4 hwj
              go_wp2_with fail
              go_quiet (fail)
              go_wp2
              go_ret
              exact ⟨by rw [HB.out]; rfl, Bel_drewN (Bel_drewN H.out.2 _) _⟩
            · have hap' : p ≤ a := by omega
              by_cases hpa : p < a
              · have HS : Hid (edTo xs n (k + 1)) := Lib.hid (hYE.out ⟨t1a, t3, t4, by rw [cmpE_neg]; exact .inl hpa⟩)
                have hne : (a == p) = false := by simp; omega
                have hnl : decide (a < p) = false := by simpa using hap'
                clear hap t1a t1b t2a t2b t3 t4 hpa hwj
                go_wp2_with fail
                go_quiet (fail)
                go_wp2
                go_roundw
                case rel => exact ⟨k + 1, i + 2, by have := HIK.out; omega, by have := HIK.out; omega, by go_num, HS.out, Bel_drewN H.out.2 _⟩
                case measure => simp [intOf]; omega
              · obtain rfl : a = p := by omega
                clear hap hap' hpa
                by_cases hqb : q < b
                · have HS : Hid (edTo xs n (k + 1)) := Lib.hid (hYE.out ⟨t1a, t3, t4, by rw [cmpE_neg]; exact .inr ⟨rfl, hqb⟩⟩)
                  have hnl : decide (b ≤ q) = false := by simpa using hqb
                  clear t1a t1b t2a t2b t3 t4
                  go_wp2_with fail
                  go_quiet (fail)
                  go_wp2
                  go_roundw
                  case rel => exact ⟨k + 1, i + 2, by have := HIK.out; omega, by have := HIK.out; omega, by go_num, HS.out, Bel_drewN H.out.2 _⟩
                  case measure => simp [intOf]; omega
                · have HB : Hid (edB xs n = false) := Lib.hid (hNO.out (fun hh => by have := (cmpE_neg _ _ _ _).1 hh.2.2.2; omega))
                  have hqb' : b ≤ q := by omega
                  clear t1a t1b t2a t2b t3 t4 hqb
                  go_wp2_with fail
                  go_quiet (fail)
                  go_wp2
                  go_ret
                  exact ⟨by rw [HB.out]; rfl, Bel_drewN (Bel_drewN H.out.2 _) _⟩
        · have HV2 : Hid (decide (a + 1 ≤ b ∧ b ≤ n - 1) = false) := Lib.hid (decide_eq_false t2)
          have HB : Hid (edB xs n = false) := Lib.hid (hNO.out (by omega))
          clear t2
          go_wp2_with fail
          go_quiet (first | (go_at_call 54; exact quiet_same' (l00In_val _ _ _ _ (by first | exact HV1.out | exact HV2.out) _)))
          go_wp2
          go_ret
          exact ⟨by rw [HB.out]; rfl, Bel_drewN H.out.2 _⟩
      · have HV1 : Hid (decide (0 ≤ a ∧ a ≤ n - 1) = false) := Lib.hid (decide_eq_false t1)
        have HV2 := HV1
        have HB : Hid (edB xs n = false) := Lib.hid (hNO.out (by omega))
        clear t1
        go_wp2_with fail
        go_quiet (first | (go_at_call 54; exact quiet_same' (l00In_val _ _ _ _ (by first | exact HV1.out | exact HV2.out) _)))
        go_wp2
        go_ret
        exact ⟨by rw [HB.out]; rfl, Bel_drewN H.out.2 _⟩
    · have HB : Hid (edB xs n = true) := Lib.hid (edB_yes ⟨⟨hn1, hn2⟩, h2, hl, by rwa [show xs.length / 2 = k by omega]⟩)
      clear hed hbel hik
      go_wp2
      go_ret
      exact ⟨by rw [HB.out]; rfl, H.out.2⟩
end Go.Proofs.Ytncebfnfmjimmaa
