/- Values of shares up to which the sum of chances is enough. -/
import Derived.Test.YtjnnfiimimmmnaaMn
namespace Go.Proofs.Ytjnnfiimimmmnaa
open Go Go.RowKit Fl Vag
set_option linter.unusedVariables false

def geV (p : Nat) (v : Option Nat) : Bool := match v with | some s => geB s p | none => false
def gtV (p : Nat) (v : Option Nat) : Bool := match v with | some s => gtB s p | none => false
theorem geV_of {p r : Nat} {v : Option Nat} (h : av .f32 r = v) : geB r p = geV p v := by
  subst h
  rcases av_self_or r with h | h
  · rw [h]; rfl
  · rw [h, (nan_ord h).1]; rfl
theorem gtV_of {p r : Nat} {v : Option Nat} (h : av .f32 r = v) : gtB r p = gtV p v := by
  subst h
  rcases av_self_or r with h | h
  · rw [h]; rfl
  · rw [h, (nan_ord h).2.2.2]; rfl
/-- The first place up to which the sum is enough, or the last one. -/
def Fst (cs : List Nat) (t : Option Nat → Bool) (n i : Nat) : Prop := i < n ∧ (∀ j, j < i → t (sumA .f32 (cs.take (j + 1))) = false) ∧ (t (sumA .f32 (cs.take (i + 1))) = true ∨ i + 1 = n)
theorem fst_ex (cs : List Nat) (t : Option Nat → Bool) : ∀ n, 1 ≤ n → ∃ i, Fst cs t n i
  | 0, h => absurd h (by omega)
  | 1, _ => ⟨0, by omega, fun j hj => absurd hj (Nat.not_lt_zero _), .inr rfl⟩
  | n + 2, _ => by
    obtain ⟨i, h1, h2, h3⟩ := fst_ex cs t (n + 1) (by omega)
    cases ht : t (sumA .f32 (cs.take (i + 1))) with
    | true => exact ⟨i, by omega, h2, .inl ht⟩
    | false =>
      have hi : i + 1 = n + 1 := by
        rcases h3 with h | h
        · rw [ht] at h; cases h
        · exact h
      refine ⟨n + 1, by omega, fun j hj => ?_, .inr rfl⟩
      by_cases e : j = i
      · subst e; exact ht
      · exact h2 j (by omega)
/-- A number known by what it is but for a not-a-number's bits, among other results. -/
def RetA (f : Nat → Value) (v : Option Nat) (w : World) (e : Ending) (w' : World) : Prop := ∃ r, e = .returned (f r) ∧ (True ∧ av .f32 r = v) ∧ Below w.heap.size w w'
theorem RetA.of {f : Nat → Value} {r : Nat} {w w' : World} {e : Ending} (h : RetB (f r) w e w') : RetA f (av .f32 r) w e w' := ⟨r, h.1, ⟨trivial, rfl⟩, h.2⟩
theorem cloGe_any (r p B : Nat) (w : World) (hw : Whole w B 32 #[.float .f32 p]) : Calls Try.prog 67 #[.float .f32 r, .pointer (some ⟨B, 0, none⟩)] w (fun e w' => e = .returned (.bool (geB r p)) ∧ w = w') := by
  obtain ⟨hc0, hf0⟩ := hw.facts
  go_enter Try.func67, Try.ntmps67
  go_wp2
  go_ret
  exact ⟨rfl, rfl⟩
set_option maxRecDepth 100000 in
set_option maxHeartbeats 1000000 in
theorem valueAtGe_any (vs cs : List Nat) (hm : cs.length = vs.length) (ao bo : Option Addr) (c d p B i : Nat) (w : World) (hx : Holds w ao (fl .f32 vs)) (hy : Holds w bo (fl .f32 cs)) (h64 : vs.length ≤ 64) (hB : Whole w B 32 #[.float .f32 p]) (hi : Fst cs (geV p) vs.length i) :
    Calls Try.prog 66 #[.agg #[.slice ao vs.length c, .slice bo vs.length d], .func (.func 67) #[] #[.pointer (some ⟨B, 0, none⟩)]] w (RetB (.float .f32 (vs[i]?.getD 0)) w) := by
  have HX := Lib.hid (And.intro hx (And.intro hy hm))
  have HI := Lib.hid hi
  have HB := Lib.hid hB
  have h1 : 1 ≤ vs.length := by have := hi.1; omega
  have hil : i < vs.length := hi.1
  clear hx hy hm hi hB
  obtain ⟨z, hz⟩ : ∃ z, z = vs[i]?.getD 0 := ⟨_, rfl⟩
  rw [← hz]
  have HZ := Lib.hid hz
  clear hz
  go_enter Try.func66, Try.ntmps66
  go_wp2
  generalize hW : World.alloc _ _ = w1
  have H1 : Hid (ShrBox w w1 ao bo vs.length c d) := Lib.hid (by rw [← hW]; exact ⟨Whole.made _ _ _, (by repeat (first | with_reducible exact Below.refl _ _ | with_reducible exact HBL | with_reducible refine Below.drew ?_ | with_reducible refine Bel_drewN ?_ _ | with_reducible refine Below.alloc ?_ (by first | omega | (simp; done) | (simp; omega)) _ | with_reducible refine Below.setCell ?_ (by first | omega | (simp; done) | (simp; omega)) _))⟩)
  clear hW
  have HB1 := Lib.hid (HB.out.below H1.out.2)
  obtain ⟨bi, oi, rfl, hci⟩ := (HX.out.1.below H1.out.2) i (by simpa [fl] using hil)
  rw [fl_get _ _ _ hil, ← HZ.out] at hci
  go_loopw [5, 11] (fun s j wr => ∃ k : Nat, (k ≤ i ∨ (k = vs.length ∧ i + 1 = vs.length)) ∧ j = .int .i64 k ∧ ∃ r q, s = .float .f32 r ∧ av .f32 r = sumA .f32 (cs.take k) ∧ wr = w1.drewN q) (fun _ j _ => vs.length - (intOf j).toNat)
  case atStart => exact ⟨0, .inl (Nat.zero_le _), rfl, 0, 0, rfl, av_zero _, rfl⟩
  case round =>
    obtain ⟨k, hk, rfl, r, q, rfl, hr, rfl⟩ := hrel
    have HR := Lib.hid hr
    clear hr
    obtain ⟨hc0, hf0⟩ := H1.out.1.facts
    by_cases hlt : k < vs.length
    · have hki : k ≤ i := by omega
      have hltc : k < cs.length := by rw [HX.out.2.2]; exact hlt
      obtain ⟨b', o', rfl, hc'⟩ := (HX.out.2.1.below H1.out.2) k (by simpa [fl] using hltc)
      rw [fl_get _ _ _ hltc] at hc'
      have HT := Lib.hid (take_next cs k hltc)
      generalize cs[k]?.getD 0 = y at hc' HT
      clear hltc hk
      go_wp2_with (refine wpList_farith _ _ _ _ _ .f32 _ _ rfl rfl rfl ?_; intro r1 n1 hr1)
      have HR1 : Hid (av .f32 r1 = sumA .f32 (cs.take (k + 1))) := Lib.hid (by rw [HT.out, sumA_snoc, ← HR.out]; exact hr1.2)
      clear hr1
      refine (cloGe_any r1 p B _ (HB1.out.drewN _)).mono ?_
      rintro e w' ⟨rfl, rfl⟩
      cases hb : geB r1 p with
      | true =>
        have hbv : geV p (sumA .f32 (cs.take (k + 1))) = true := by rw [← geV_of HR1.out]; exact hb
        obtain rfl : k = i := by
          by_cases e : k = i
          · exact e
          · have := HI.out.2.1 k (by omega)
            rw [hbv] at this; cases this
        clear hb hbv hki
        go_wp2
        go_ret
        exact ⟨rfl, Bel_drewN H1.out.2 _⟩
      | false =>
        have hbv : geV p (sumA .f32 (cs.take (k + 1))) = false := by rw [← geV_of HR1.out]; exact hb
        have hnext : k + 1 ≤ i ∨ (k + 1 = vs.length ∧ i + 1 = vs.length) := by
          by_cases e : k = i
          · subst e
            rcases HI.out.2.2 with h | h
            · rw [hbv] at h; cases h
            · omega
          · omega
        have HN := Lib.hid hnext
        clear hb hbv hnext hki hci
        go_wp2
        go_roundw
        case rel => exact ⟨k + 1, HN.out, by go_num, r1, _, rfl, HR1.out, rfl⟩
        case measure => simp [intOf]; omega
    · obtain ⟨rfl, hin⟩ : k = vs.length ∧ i + 1 = vs.length := by omega
      have hin' : IntKind.i64.wrap ((vs.length : Int) - 1) = (i : Int) := by rw [IntWalk.i64_in _ (by omega)]; omega
      have hil' : (i : Int) < vs.length := by omega
      clear hin hk
      go_wp2
      go_ret
      exact ⟨rfl, Bel_drewN H1.out.2 _⟩
theorem cloGt_any (r p B : Nat) (w : World) (hw : Whole w B 32 #[.float .f32 p]) : Calls Try.prog 72 #[.float .f32 r, .pointer (some ⟨B, 0, none⟩)] w (fun e w' => e = .returned (.bool (gtB r p)) ∧ w = w') := by
  obtain ⟨hc0, hf0⟩ := hw.facts
  go_enter Try.func72, Try.ntmps72
  go_wp2
  go_ret
  exact ⟨rfl, rfl⟩
set_option maxRecDepth 100000 in
set_option maxHeartbeats 1000000 in
theorem valueAtGt_any (vs cs : List Nat) (hm : cs.length = vs.length) (ao bo : Option Addr) (c d p B i : Nat) (w : World) (hx : Holds w ao (fl .f32 vs)) (hy : Holds w bo (fl .f32 cs)) (h64 : vs.length ≤ 64) (hB : Whole w B 32 #[.float .f32 p]) (hi : Fst cs (gtV p) vs.length i) :
    Calls Try.prog 66 #[.agg #[.slice ao vs.length c, .slice bo vs.length d], .func (.func 72) #[] #[.pointer (some ⟨B, 0, none⟩)]] w (RetB (.float .f32 (vs[i]?.getD 0)) w) := by
  have HX := Lib.hid (And.intro hx (And.intro hy hm))
  have HI := Lib.hid hi
  have HB := Lib.hid hB
  have h1 : 1 ≤ vs.length := by have := hi.1; omega
  have hil : i < vs.length := hi.1
  clear hx hy hm hi hB
  obtain ⟨z, hz⟩ : ∃ z, z = vs[i]?.getD 0 := ⟨_, rfl⟩
  rw [← hz]
  have HZ := Lib.hid hz
  clear hz
  go_enter Try.func66, Try.ntmps66
  go_wp2
  generalize hW : World.alloc _ _ = w1
  have H1 : Hid (ShrBox w w1 ao bo vs.length c d) := Lib.hid (by rw [← hW]; exact ⟨Whole.made _ _ _, (by repeat (first | with_reducible exact Below.refl _ _ | with_reducible exact HBL | with_reducible refine Below.drew ?_ | with_reducible refine Bel_drewN ?_ _ | with_reducible refine Below.alloc ?_ (by first | omega | (simp; done) | (simp; omega)) _ | with_reducible refine Below.setCell ?_ (by first | omega | (simp; done) | (simp; omega)) _))⟩)
  clear hW
  have HB1 := Lib.hid (HB.out.below H1.out.2)
  obtain ⟨bi, oi, rfl, hci⟩ := (HX.out.1.below H1.out.2) i (by simpa [fl] using hil)
  rw [fl_get _ _ _ hil, ← HZ.out] at hci
  go_loopw [5, 11] (fun s j wr => ∃ k : Nat, (k ≤ i ∨ (k = vs.length ∧ i + 1 = vs.length)) ∧ j = .int .i64 k ∧ ∃ r q, s = .float .f32 r ∧ av .f32 r = sumA .f32 (cs.take k) ∧ wr = w1.drewN q) (fun _ j _ => vs.length - (intOf j).toNat)
  case atStart => exact ⟨0, .inl (Nat.zero_le _), rfl, 0, 0, rfl, av_zero _, rfl⟩
  case round =>
    obtain ⟨k, hk, rfl, r, q, rfl, hr, rfl⟩ := hrel
    have HR := Lib.hid hr
    clear hr
    obtain ⟨hc0, hf0⟩ := H1.out.1.facts
    by_cases hlt : k < vs.length
    · have hki : k ≤ i := by omega
      have hltc : k < cs.length := by rw [HX.out.2.2]; exact hlt
      obtain ⟨b', o', rfl, hc'⟩ := (HX.out.2.1.below H1.out.2) k (by simpa [fl] using hltc)
      rw [fl_get _ _ _ hltc] at hc'
      have HT := Lib.hid (take_next cs k hltc)
      generalize cs[k]?.getD 0 = y at hc' HT
      clear hltc hk
      go_wp2_with (refine wpList_farith _ _ _ _ _ .f32 _ _ rfl rfl rfl ?_; intro r1 n1 hr1)
      have HR1 : Hid (av .f32 r1 = sumA .f32 (cs.take (k + 1))) := Lib.hid (by rw [HT.out, sumA_snoc, ← HR.out]; exact hr1.2)
      clear hr1
      refine (cloGt_any r1 p B _ (HB1.out.drewN _)).mono ?_
      rintro e w' ⟨rfl, rfl⟩
      cases hb : gtB r1 p with
      | true =>
        have hbv : gtV p (sumA .f32 (cs.take (k + 1))) = true := by rw [← gtV_of HR1.out]; exact hb
        obtain rfl : k = i := by
          by_cases e : k = i
          · exact e
          · have := HI.out.2.1 k (by omega)
            rw [hbv] at this; cases this
        clear hb hbv hki
        go_wp2
        go_ret
        exact ⟨rfl, Bel_drewN H1.out.2 _⟩
      | false =>
        have hbv : gtV p (sumA .f32 (cs.take (k + 1))) = false := by rw [← gtV_of HR1.out]; exact hb
        have hnext : k + 1 ≤ i ∨ (k + 1 = vs.length ∧ i + 1 = vs.length) := by
          by_cases e : k = i
          · subst e
            rcases HI.out.2.2 with h | h
            · rw [hbv] at h; cases h
            · omega
          · omega
        have HN := Lib.hid hnext
        clear hb hbv hnext hki hci
        go_wp2
        go_roundw
        case rel => exact ⟨k + 1, HN.out, by go_num, r1, _, rfl, HR1.out, rfl⟩
        case measure => simp [intOf]; omega
    · obtain ⟨rfl, hin⟩ : k = vs.length ∧ i + 1 = vs.length := by omega
      have hin' : IntKind.i64.wrap ((vs.length : Int) - 1) = (i : Int) := by rw [IntWalk.i64_in _ (by omega)]; omega
      have hil' : (i : Int) < vs.length := by omega
      clear hin hk
      go_wp2
      go_ret
      exact ⟨rfl, Bel_drewN H1.out.2 _⟩
end Go.Proofs.Ytjnnfiimimmmnaa
