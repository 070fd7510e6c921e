/- Records that are valid, both sides. -/
import Derived.Test.YtgeomaeccalceaaRec
import Derived.Test.YtgeomaeccalceaaName
import Derived.Test.YtgeomaeccalceaaIn0
import Derived.BigQuiet
namespace Go.Proofs.Ytgeomaeccalceaa
open Go Go.RowKit Fl
set_option linter.unusedVariables false

theorem isBelowR_any (k n : Int) (w : World) : Calls Try.prog 105 #[.int .i64 k, .int .i64 n] w (fun e w' => e = .returned (.bool (decide (0 ≤ k ∧ k < n))) ∧ w = w') := by
  by_cases h0 : 0 ≤ k
  · have e : decide (0 ≤ k ∧ k < n) = decide (k < n) := by rw [Bool.eq_iff_iff]; simp; omega
    have E := Lib.hid e
    clear e
    go_enter Try.func105, Try.ntmps105
    go_wp2
    go_ret
    exact ⟨by first | rfl | (rw [E.out]; rfl), rfl⟩
  · have h1 : decide (0 ≤ k) = false := by simpa using h0
    have e : decide (0 ≤ k ∧ k < n) = false := by simp; omega
    have E := Lib.hid e
    clear e
    go_enter Try.func105, Try.ntmps105
    go_wp2
    go_ret
    exact ⟨by first | rfl | (rw [E.out]; rfl), rfl⟩
set_option maxHeartbeats 400000 in
theorem l07Name_any (s : ByteArray) (hs : s.size ≤ maxLen) (w : World) :
    Calls Try.prog 134 #[.string s] w (fun e w' => e = .returned (.bool (nameA s)) ∧ w = w') := by
  unfold maxLen at hs
  go_enter Try.func134, Try.ntmps134
  go_wp2
  go_loop [3] (fun i => ∃ k : Nat, k ≤ s.size ∧ i = .int .i64 k ∧ (s.data.toList.take k).all isL = true) (fun i => s.size - (intOf i).toNat)
  case atStart => exact ⟨0, Nat.zero_le _, rfl, rfl⟩
  case round =>
    obtain ⟨k, hk, rfl, hall⟩ := hrel
    have HA := Lib.hid hall
    clear hall
    by_cases hlt : k < s.size
    · have HT := Lib.hid (take_snoc s k hlt)
      cases hb : isL s[k] with
      | true =>
        have hb' := (isL_iff _).1 hb
        obtain ⟨b1, b2⟩ := hb'
        have HB := Lib.hid hb
        clear hb
        go_wp2
        go_round
        case rel => exact ⟨k + 1, by omega, by go_num, by rw [HT.out, all_snoc _ _ HA.out, HB.out]⟩
        case measure => simp [intOf]; omega
      | false =>
        have HB := Lib.hid (all_cut s k hlt hb)
        have hb' : ¬ ((97 : Int) ≤ (s[k].toNat : Int) ∧ (s[k].toNat : Int) ≤ 122) := fun h => by rw [(isL_iff _).2 h] at hb; cases hb
        clear hb
        by_cases h97 : (s[k].toNat : Int) < 97
        · clear hb'
          go_wp2
          go_ret
          exact ⟨by unfold nameA; rw [HB.out]; rfl, rfl⟩
        · have h122 : (122 : Int) < (s[k].toNat : Int) := by omega
          have h97' : (97 : Int) ≤ (s[k].toNat : Int) := by omega
          clear hb' h97
          go_wp2
          go_ret
          exact ⟨by unfold nameA; rw [HB.out]; rfl, rfl⟩
    · have HE := Lib.hid (take_all s k (by omega))
      have HN := Lib.hid (name_all s (by rw [← HE.out]; exact HA.out))
      have hge : (s.size : Int) ≤ k := by omega
      clear hlt
      by_cases h1 : 1 ≤ s.size
      · have h1' : (1 : Int) ≤ (s.size : Int) := by omega
        have HZ := Lib.hid (name_pos s h1)
        clear h1
        go_wp2
        go_ret
        exact ⟨by rw [HN.out, HZ.out]; rfl, rfl⟩
      · have h1' : (s.size : Int) < 1 := by omega
        have HZ := Lib.hid (name_none s h1)
        clear h1
        go_wp2
        go_ret
        exact ⟨by rw [HN.out, HZ.out]; rfl, rfl⟩
def drawsOk (xs : List Int) : Prop := ∀ j, j < xs.length → 0 ≤ xs[j]?.getD 0 ∧ xs[j]?.getD 0 < 65536
open Classical in
noncomputable def drawsB (xs : List Int) : Bool := decide (drawsOk xs)
theorem drawsB_yes {xs : List Int} (h : drawsOk xs) : drawsB xs = true := by unfold drawsB; simpa using h
theorem drawsB_no {xs : List Int} (h : ¬drawsOk xs) : drawsB xs = false := by unfold drawsB; simpa using h
noncomputable def recB (nm : ByteArray) (k : Int) (a b : Nat) (xs : List Int) : Bool := ((nameA nm && vSeed k a b) && decide (xs.length ≤ 256)) && drawsB xs
theorem ValidSeed_R (k : Int) (a b : Nat) (v : Bool) (w : World) (hv : vSeed k a b = v) : Calls Try.prog 67 #[sd k a b] w (RetB (.bool v) w) :=
  (ValidSeed_any k a b w).mono fun e w' h => by
    obtain ⟨h1, h2⟩ := h
    subst h2
    exact ⟨by rw [h1, hv], (by repeat (first | with_reducible exact Below.refl _ _ | with_reducible exact HBL | with_reducible refine Below.drew ?_ | with_reducible refine Bel_drewN ?_ _ | with_reducible refine Below.alloc ?_ (by first | omega | (simp; done) | (simp; omega)) _ | with_reducible refine Below.setCell ?_ (by first | omega | (simp; done) | (simp; omega)) _))⟩
theorem l02IsR_any (g : Nat) (k : Int) (a b : Nat) (v : Bool) (w : World) (hv : vSeed k a b = v) (c0 : w.cell? ⟨g, 1, none⟩ = some (.int .i64 k)) (c1 : w.cell? ⟨g, 2, none⟩ = some (.int .u64 a)) (c2 : w.cell? ⟨g, 3, none⟩ = some (.int .u64 b)) :
    Calls Try.prog 62 #[.pointer (some ⟨g, 1, none⟩)] w (fun e w' => e = .returned (.bool v) ∧ w = w') := by
  subst hv
  go_enter Try.func62, Try.ntmps62
  go_wp2
  all_goals
    go_ret
    refine ⟨?_, rfl⟩
    simp_all [vSeed]
    try (rw [Bool.eq_iff_iff]; simp <;> omega)
set_option maxRecDepth 100000 in
set_option maxHeartbeats 2000000 in
theorem implValidRecord_any (nm : ByteArray) (k : Int) (a b : Nat) (xs : List Int) (ax : Option Addr) (cx : Nat) (w : World) (h0 : Holds w ax (il xs)) (l0 : xs.length ≤ 1048576) :
    Calls Try.prog 52 #[.agg #[.string nm, .int .i64 k, .int .u64 (a : Int), .int .u64 (b : Int), .slice ax xs.length cx]] w (RetB (.bool (recB nm k a b xs)) w) := by
  have HX := Lib.hid h0
  clear h0
  obtain ⟨v1, hv1⟩ : ∃ v, nameA nm = v := ⟨_, rfl⟩
  obtain ⟨v2, hv2⟩ : ∃ v, vSeed k a b = v := ⟨_, rfl⟩
  obtain ⟨v4, hv4⟩ : ∃ v, drawsB xs = v := ⟨_, rfl⟩
  have HV : Hid (recB nm k a b xs = (((v1 && v2) && decide (xs.length ≤ 256)) && v4)) := Lib.hid (by unfold recB; rw [hv1, hv2, hv4])
  rw [HV.out]
  have HS := Lib.hid (And.intro hv1 (And.intro hv2 hv4))
  clear hv1 hv2 hv4
  have H0 : Hid (Whole (w.alloc (.cells #[.string nm, .int .i64 k, .int .u64 (a : Int), .int .u64 (b : Int), .slice ax xs.length cx] 75)) w.heap.size 75 #[.string nm, .int .i64 k, .int .u64 (a : Int), .int .u64 (b : Int), .slice ax xs.length cx] ∧ Below w.heap.size w (w.alloc (.cells #[.string nm, .int .i64 k, .int .u64 (a : Int), .int .u64 (b : Int), .slice ax xs.length cx] 75))) := Lib.hid ⟨Whole.made _ _ _, (by repeat (first | with_reducible exact Below.refl _ _ | with_reducible exact HBL | with_reducible refine Below.drew ?_ | with_reducible refine Bel_drewN ?_ _ | with_reducible refine Below.alloc ?_ (by first | omega | (simp; done) | (simp; omega)) _ | with_reducible refine Below.setCell ?_ (by first | omega | (simp; done) | (simp; omega)) _))⟩
  go_enter Try.func52, Try.ntmps52
  go_wp2_with fail
  generalize hW : World.alloc w _ = w0
  rw [hW] at H0
  clear hW
  go_loopw [8] (fun i wr => ∃ j : Nat, j ≤ xs.length ∧ i = .int .i64 j ∧ (∀ i, i < j → 0 ≤ xs[i]?.getD 0 ∧ xs[i]?.getD 0 < 65536) ∧ wr = w0) (fun i _ => xs.length - (intOf i).toNat)
  case atStart => exact ⟨0, Nat.zero_le _, rfl, fun i hi => absurd hi (Nat.not_lt_zero _), rfl⟩
  case round =>
    obtain ⟨j, hj, rfl, hall, rfl⟩ := hrel
    have HA := Lib.hid hall
    clear hall
    have hjn : (j : Int) ≤ xs.length := by omega
    by_cases hlt : j < xs.length
    · have hlt' : (j : Int) < xs.length := by omega
      obtain ⟨bb, o, rfl, hc⟩ := (HX.out.below H0.out.2) j (by rw [il_len]; exact hlt)
      rw [il_get _ _ hlt] at hc
      obtain ⟨x, hx⟩ : ∃ x, xs[j]?.getD 0 = x := ⟨_, rfl⟩
      rw [hx] at hc
      have HE := Lib.hid hx
      clear hx
      go_wp2_with (first | (go_at_call 105; fail))
      refine (isBelowR_any _ _ _).mono ?_
      rintro e w' ⟨rfl, rfl⟩
      by_cases hb : 0 ≤ x ∧ x < 65536
      · have HB := Lib.hid hb
        rw [decide_eq_true hb]
        clear hb
        go_wp2_with fail
        go_roundw
        case rel =>
          refine ⟨j + 1, by omega, by go_num, fun i hi => ?_, trivial⟩
          by_cases e : i = j
          · subst e; rw [HE.out]; exact HB.out
          · exact HA.out i (by omega)
        case measure => simp [intOf]; omega
      · have HN : Hid (v4 = false) := Lib.hid (by rw [← HS.out.2.2]; exact drawsB_no (fun h => hb (by rw [← HE.out]; exact h j hlt)))
        rw [decide_eq_false hb]
        clear hb
        go_wp2_with fail
        go_ret
        exact ⟨by rw [HN.out]; simp, H0.out.2⟩
    · obtain rfl : j = xs.length := by omega
      have HN : Hid (v4 = true) := Lib.hid (by rw [← HS.out.2.2]; exact drawsB_yes HA.out)
      obtain ⟨hcg, hfg⟩ := H0.out.1.facts
      have hzg := H0.out.1.lt
      go_wp2_with (first | (go_at_call 106; fail))
      refine (implIsName_any nm _).mono ?_
      rintro e w1 ⟨rfl, hb⟩
      rw [HS.out.1]
      have H1 := Lib.hid (And.intro (H0.out.1.below hb) (Bel_next H0.out.2 hb))
      change Hid (_ ∧ _) at H1
      clear hb hcg hfg hzg
      obtain ⟨hcg, hfg⟩ := H1.out.1.facts
      have hzg := H1.out.1.lt
      cases v1 with
      | false =>
        go_wp2_with fail
        go_ret
        exact ⟨by simp, H1.out.2⟩
      | true =>
        go_wp2_with (first | (go_at_call 67; fail))
        refine (ValidSeed_R k a b v2 _ HS.out.2.1).mono ?_
        rintro e w2 ⟨rfl, hb⟩
        have H2 := Lib.hid (And.intro (H1.out.1.below hb) (Bel_next H1.out.2 hb))
        change Hid (_ ∧ _) at H2
        clear hb hcg hfg hzg
        obtain ⟨hcg, hfg⟩ := H2.out.1.facts
        cases v2 with
        | false =>
          go_wp2_with fail
          go_ret
          exact ⟨by simp, H2.out.2⟩
        | true =>
          have HD : Hid (decide ((xs.length : Int) ≤ 256) = decide (xs.length ≤ 256)) := Lib.hid (by rw [Bool.eq_iff_iff]; simp; omega)
          go_wp2_with fail
          go_ret
          exact ⟨by rw [HN.out, ← HD.out]; simp, H2.out.2⟩
set_option maxRecDepth 100000 in
set_option maxHeartbeats 2000000 in
theorem l07Record_any (nm : ByteArray) (k : Int) (a b : Nat) (xs : List Int) (ax : Option Addr) (cx : Nat) (g : Nat) (hnm : nm.size ≤ maxLen) (w : World) (hW : Whole w g 75 #[.string nm, .int .i64 k, .int .u64 (a : Int), .int .u64 (b : Int), .slice ax xs.length cx]) (h0 : Holds w ax (il xs)) (l0 : xs.length ≤ 1048576) :
    Calls Try.prog 104 #[.pointer (some ⟨g, 0, none⟩)] w (RetB (.bool (recB nm k a b xs)) w) := by
  have HX := Lib.hid h0
  have H0 := Lib.hid hW
  clear h0
  obtain ⟨v1, hv1⟩ : ∃ v, nameA nm = v := ⟨_, rfl⟩
  obtain ⟨v2, hv2⟩ : ∃ v, vSeed k a b = v := ⟨_, rfl⟩
  obtain ⟨v4, hv4⟩ : ∃ v, drawsB xs = v := ⟨_, rfl⟩
  have HV : Hid (recB nm k a b xs = (((v1 && v2) && decide (xs.length ≤ 256)) && v4)) := Lib.hid (by unfold recB; rw [hv1, hv2, hv4])
  rw [HV.out]
  have HS := Lib.hid (And.intro hv1 (And.intro hv2 hv4))
  clear hv1 hv2 hv4
  obtain ⟨hcg, hfg⟩ := hW.facts
  clear hW
  go_enter Try.func104, Try.ntmps104
  go_wp2_with (first | (go_at_call 134; fail))
  refine (l07Name_any nm hnm _).mono ?_
  rintro e w' ⟨rfl, rfl⟩
  rw [HS.out.1]
  cases v1 with
  | false =>
    go_wp2_with fail
    go_ret
    exact ⟨by simp, (by repeat (first | with_reducible exact Below.refl _ _ | with_reducible exact HBL | with_reducible refine Below.drew ?_ | with_reducible refine Bel_drewN ?_ _ | with_reducible refine Below.alloc ?_ (by first | omega | (simp; done) | (simp; omega)) _ | with_reducible refine Below.setCell ?_ (by first | omega | (simp; done) | (simp; omega)) _))⟩
  | true =>
    go_wp2_with (first | (go_at_call 62; fail))
    refine (l02IsR_any g k a b v2 _ HS.out.2.1 (H0.out.cell 1) (H0.out.cell 2) (H0.out.cell 3)).mono ?_
    rintro e w' ⟨rfl, rfl⟩
    cases v2 with
    | false =>
      go_wp2_with fail
      go_ret
      exact ⟨by simp, (by repeat (first | with_reducible exact Below.refl _ _ | with_reducible exact HBL | with_reducible refine Below.drew ?_ | with_reducible refine Bel_drewN ?_ _ | with_reducible refine Below.alloc ?_ (by first | omega | (simp; done) | (simp; omega)) _ | with_reducible refine Below.setCell ?_ (by first | omega | (simp; done) | (simp; omega)) _))⟩
    | true =>
      by_cases hl : 256 < xs.length
      · have hl' : (256 : Int) < (xs.length : Int) := by omega
        have HD : Hid (decide (xs.length ≤ 256) = false) := Lib.hid (by simp; omega)
        clear hl
        go_wp2_with fail
        go_ret
        exact ⟨by rw [HD.out]; simp, (by repeat (first | with_reducible exact Below.refl _ _ | with_reducible exact HBL | with_reducible refine Below.drew ?_ | with_reducible refine Bel_drewN ?_ _ | with_reducible refine Below.alloc ?_ (by first | omega | (simp; done) | (simp; omega)) _ | with_reducible refine Below.setCell ?_ (by first | omega | (simp; done) | (simp; omega)) _))⟩
      · have hl' : (xs.length : Int) ≤ 256 := by omega
        have HD : Hid (decide (xs.length ≤ 256) = true) := Lib.hid (by simp; omega)
        clear hl
        go_wp2_with fail
        go_loopw [30] (fun i wr => ∃ j : Nat, j ≤ xs.length ∧ i = .int .i64 j ∧ (∀ i, i < j → 0 ≤ xs[i]?.getD 0 ∧ xs[i]?.getD 0 < 65536) ∧ ∃ q, wr = w.drewN q) (fun i _ => xs.length - (intOf i).toNat)
        case atStart => exact ⟨0, Nat.zero_le _, rfl, fun i hi => absurd hi (Nat.not_lt_zero _), 0, rfl⟩
        case round =>
          obtain ⟨j, hj, rfl, hall, q, rfl⟩ := hrel
          have HA := Lib.hid hall
          clear hall
          have hjn : (j : Int) ≤ xs.length := by omega
          by_cases hlt : j < xs.length
          · have hlt' : (j : Int) < xs.length := by omega
            obtain ⟨bb, o, rfl, hc⟩ := HX.out j (by rw [il_len]; exact hlt)
            rw [il_get _ _ hlt] at hc
            obtain ⟨x, hx⟩ : ∃ x, xs[j]?.getD 0 = x := ⟨_, rfl⟩
            rw [hx] at hc
            have HE := Lib.hid hx
            clear hx
            by_cases hb : 0 ≤ x ∧ x ≤ 65535
            · have HB := Lib.hid hb
              have HV1 := Lib.hid (decide_eq_true hb)
              clear hb
              go_wp2_with (first | (go_at_call 64; fail))
              refine (l00In_any _ _ _ _).mono ?_
              rintro e w' ⟨rfl, rfl⟩
              rw [HV1.out]
              go_wp2_with fail
              go_roundw
              case rel =>
                refine ⟨j + 1, by omega, by go_num, fun i hi => ?_, _, rfl⟩
                by_cases e : i = j
                · subst e; rw [HE.out]; have := HB.out; omega
                · exact HA.out i (by omega)
              case measure => simp [intOf]; omega
            · have HN : Hid (v4 = false) := Lib.hid (by rw [← HS.out.2.2]; exact drawsB_no (fun h => hb (by rw [← HE.out]; have := h j hlt; omega)))
              have HV1 := Lib.hid (decide_eq_false hb)
              clear hb
              go_wp2_with (first | (go_at_call 64; fail))
              refine (l00In_any _ _ _ _).mono ?_
              rintro e w' ⟨rfl, rfl⟩
              rw [HV1.out]
              go_wp2_with fail
              go_ret
              exact ⟨by rw [HN.out]; simp, (by repeat (first | with_reducible exact Below.refl _ _ | with_reducible exact HBL | with_reducible refine Below.drew ?_ | with_reducible refine Bel_drewN ?_ _ | with_reducible refine Below.alloc ?_ (by first | omega | (simp; done) | (simp; omega)) _ | with_reducible refine Below.setCell ?_ (by first | omega | (simp; done) | (simp; omega)) _))⟩
          · obtain rfl : j = xs.length := by omega
            have HN : Hid (v4 = true) := Lib.hid (by rw [← HS.out.2.2]; exact drawsB_yes HA.out)
            go_wp2_with fail
            go_ret
            exact ⟨by rw [HN.out, HD.out]; rfl, (by repeat (first | with_reducible exact Below.refl _ _ | with_reducible exact HBL | with_reducible refine Below.drew ?_ | with_reducible refine Bel_drewN ?_ _ | with_reducible refine Below.alloc ?_ (by first | omega | (simp; done) | (simp; omega)) _ | with_reducible refine Below.setCell ?_ (by first | omega | (simp; done) | (simp; omega)) _))⟩
theorem specValidRecord_any (nm : ByteArray) (k : Int) (a b : Nat) (xs : List Int) (ax : Option Addr) (cx : Nat) (hnm : nm.size ≤ maxLen) (w : World) (h0 : Holds w ax (il xs)) (l0 : xs.length ≤ 1048576) :
    Calls Try.prog 50 #[.agg #[.string nm, .int .i64 k, .int .u64 (a : Int), .int .u64 (b : Int), .slice ax xs.length cx]] w (RetB (.bool (recB nm k a b xs)) w) := by
  have HX := Lib.hid h0
  have H0 : Hid (Whole (w.alloc (.cells #[.string nm, .int .i64 k, .int .u64 (a : Int), .int .u64 (b : Int), .slice ax xs.length cx] 75)) w.heap.size 75 #[.string nm, .int .i64 k, .int .u64 (a : Int), .int .u64 (b : Int), .slice ax xs.length cx] ∧ Below w.heap.size w (w.alloc (.cells #[.string nm, .int .i64 k, .int .u64 (a : Int), .int .u64 (b : Int), .slice ax xs.length cx] 75))) := Lib.hid ⟨Whole.made _ _ _, (by repeat (first | with_reducible exact Below.refl _ _ | with_reducible exact HBL | with_reducible refine Below.drew ?_ | with_reducible refine Bel_drewN ?_ _ | with_reducible refine Below.alloc ?_ (by first | omega | (simp; done) | (simp; omega)) _ | with_reducible refine Below.setCell ?_ (by first | omega | (simp; done) | (simp; omega)) _))⟩
  clear h0
  go_enter Try.func50, Try.ntmps50
  go_wp2_with (first | (go_at_call 104; fail))
  refine (l07Record_any nm k a b xs ax cx _ hnm _ H0.out.1 (HX.out.below H0.out.2) l0).mono ?_
  rintro e w1 ⟨rfl, hb⟩
  have HBL := Bel_next H0.out.2 hb
  go_wp2_with fail
  go_ret
  exact ⟨rfl, (by repeat (first | with_reducible exact Below.refl _ _ | with_reducible exact HBL | with_reducible refine Below.drew ?_ | with_reducible refine Bel_drewN ?_ _ | with_reducible refine Below.alloc ?_ (by first | omega | (simp; done) | (simp; omega)) _ | with_reducible refine Below.setCell ?_ (by first | omega | (simp; done) | (simp; omega)) _))⟩
end Go.Proofs.Ytgeomaeccalceaa
