/- ValidChain, both sides. -/
import Derived.Test.YtgeomaeccalceaaChn
import Derived.Test.YtgeomaeccalceaaIn0
namespace Go.Proofs.Ytgeomaeccalceaa
open Go Go.RowKit Fl Vag
set_option linter.unusedVariables false

theorem fl_len32 (xs : List Nat) : (fl .f32 xs).length = xs.length := by simp [fl]
/-- A slice that is not empty lies somewhere. -/
theorem Holds.at {w : World} {ao : Option Addr} {xs : List Value} (h : Holds w ao xs) (hl : 0 < xs.length) : ∃ b o, ao = some ⟨b, o, none⟩ := by
  obtain ⟨b, o, e, _⟩ := h 0 hl
  exact ⟨b, o, e⟩
/-- The chain in the box of a call's own. -/
def ChBox (w v : World) (s : Int) (ao : Option Addr) (n c : Nat) : Prop := Whole v w.heap.size 34 #[.int .i64 s, .slice ao n c] ∧ Below w.heap.size w v
theorem ChBox.below {w v v' : World} {s : Int} {ao : Option Addr} {n c : Nat} (h : ChBox w v s ao n c) (hb : Below v.heap.size v v') : ChBox w v' s ao n c := ⟨h.1.below hb, Bel_next h.2 hb⟩
theorem ChBox.drewN {w v : World} {s : Int} {ao : Option Addr} {n c : Nat} (h : ChBox w v s ao n c) (k : Nat) : ChBox w (v.drewN k) s ao n c := ⟨h.1.drewN k, Bel_drewN h.2 k⟩
set_option maxRecDepth 100000 in
theorem from_any (n i b o m c : Nat) (w : World) (hi : i < n) (hn : n ≤ 12) (hm : m = n * n) (hc : m ≤ c) :
    Calls Try.prog 113 #[.agg #[.int .i64 n, .slice (some ⟨b, o, none⟩) m c], .int .i64 i] w (RetB (.slice (some ⟨b, o + i * n, none⟩) n (c - i * n)) w) := by
  have h1 := row_in hi
  have h2 := sq_le hn
  obtain ⟨q, hq⟩ : ∃ q, i * n = q := ⟨_, rfl⟩
  obtain ⟨j, hj⟩ : ∃ j, i + 1 = j := ⟨_, rfl⟩
  obtain ⟨r, hr⟩ : ∃ r, j * n = r := ⟨_, rfl⟩
  have hr2 : r = q + n := by rw [← hr, ← hj, Nat.add_mul, Nat.one_mul, hq]
  have e1 : (i : Int) * (n : Int) = (q : Int) := by rw [← hq]; simp
  have e2 : (i : Int) + 1 = (j : Int) := by omega
  have e3 : (j : Int) * (n : Int) = (r : Int) := by rw [← hr]; simp
  have b1 : (q : Int) ≤ 144 := by omega
  have b2 : (r : Int) ≤ 144 := by omega
  have b3 : (q : Int) ≤ r := by omega
  have b4 : (r : Int) ≤ c := by omega
  have b5 : r - q = n := by omega
  have b6 : q ≤ c := by omega
  have b7 : r ≤ c := by omega
  have b8 : q ≤ r := by omega
  have b9 : (i : Int) ≤ 12 := by omega
  have b10 : (n : Int) ≤ 12 := by omega
  have b11 : ¬ c = q := by omega
  rw [hq]
  clear hq hj hr hr2 hi hn hm hc h1 h2
  go_enter Try.func113, Try.ntmps113
  go_wp2
  go_ret
  exact ⟨rfl, (by repeat (first | with_reducible exact Below.refl _ _ | with_reducible exact HBL | with_reducible refine Below.drew ?_ | with_reducible refine Bel_drewN ?_ _ | with_reducible refine Below.alloc ?_ (by first | omega | (simp; done) | (simp; omega)) _ | with_reducible refine Below.setCell ?_ (by first | omega | (simp; done) | (simp; omega)) _))⟩
set_option maxRecDepth 100000 in
set_option maxHeartbeats 1000000 in
theorem implValidChain_any (s : Int) (ss : List Nat) (m : Nat) (hm : ss.length = m) (ao : Option Addr) (c : Nat) (w : World) (hx : Holds w ao (fl .f32 ss)) (hlen : m ≤ 1048576) (hc : m ≤ c) :
    Calls Try.prog 68 #[.agg #[.int .i64 s, .slice ao m c]] w (Bo (isChain s ss) w) := by
  have HX := Lib.hid (And.intro hx hm)
  clear hx hm
  by_cases h1 : s < 1
  · go_enter Try.func68, Try.ntmps68
    go_wp2
    go_ret
    exact Bo.mk _ (falseIs fun h => by have := h.side; omega) (by repeat (first | with_reducible exact Below.refl _ _ | with_reducible exact HBL | with_reducible refine Below.drew ?_ | with_reducible refine Bel_drewN ?_ _ | with_reducible refine Below.alloc ?_ (by first | omega | (simp; done) | (simp; omega)) _ | with_reducible refine Below.setCell ?_ (by first | omega | (simp; done) | (simp; omega)) _))
  · have h1' : 1 ≤ s := by omega
    by_cases h2 : 12 < s
    · clear h1
      go_enter Try.func68, Try.ntmps68
      go_wp2
      go_ret
      exact Bo.mk _ (falseIs fun h => by have := h.side; omega) (by repeat (first | with_reducible exact Below.refl _ _ | with_reducible exact HBL | with_reducible refine Below.drew ?_ | with_reducible refine Bel_drewN ?_ _ | with_reducible refine Below.alloc ?_ (by first | omega | (simp; done) | (simp; omega)) _ | with_reducible refine Below.setCell ?_ (by first | omega | (simp; done) | (simp; omega)) _))
    · obtain ⟨n, rfl⟩ : ∃ n : Nat, s = n := ⟨s.toNat, by omega⟩
      have h2' : (n : Int) ≤ 12 := by omega
      have hn1 : 1 ≤ n := by omega
      have hn2 : n ≤ 12 := by omega
      have hsq := sq_le hn2
      obtain ⟨p, hp⟩ : ∃ p, n * n = p := ⟨_, rfl⟩
      have hp' : (n : Int) * (n : Int) = (p : Int) := by rw [← hp]; simp
      have hp3 : (p : Int) ≤ 144 := by omega
      clear h1 h2 hsq
      by_cases he : m = p
      · subst he
        obtain ⟨b, o, rfl⟩ := HX.out.1.at (by rw [fl_len32, HX.out.2, ← hp]; exact Nat.mul_pos hn1 hn1)
        have HP := Lib.hid (And.intro hn1 (And.intro hn2 (And.intro hp hc)))
        clear hn1 hn2 hp
        go_enter Try.func68, Try.ntmps68
        go_wp2_with fail
        generalize hW : World.alloc _ _ = w0
        have H0 : Hid (ChBox w w0 n (some ⟨b, o, none⟩) m c) := Lib.hid (by rw [← hW]; exact ⟨Whole.made _ _ _, (by repeat (first | with_reducible exact Below.refl _ _ | with_reducible exact HBL | with_reducible refine Below.drew ?_ | with_reducible refine Bel_drewN ?_ _ | with_reducible refine Below.alloc ?_ (by first | omega | (simp; done) | (simp; omega)) _ | with_reducible refine Below.setCell ?_ (by first | omega | (simp; done) | (simp; omega)) _))⟩)
        clear hW
        go_loopw [26] (fun i wr => ∃ k : Nat, k ≤ n ∧ i = .int .i64 k ∧ rowsTo n ss k ∧ ChBox w wr n (some ⟨b, o, none⟩) m c) (fun i _ => n - (intOf i).toNat)
        case atStart => exact ⟨0, Nat.zero_le _, rfl, rowsTo_zero _ _, H0.out⟩
        case round =>
          obtain ⟨k, hk, rfl, hall, hbox⟩ := hrel
          have HA := Lib.hid hall
          have HB := Lib.hid hbox
          have hz := hbox.1.lt
          obtain ⟨hc0, hf0⟩ := hbox.1.facts
          clear hall hbox H0
          have hkn : (k : Int) ≤ n := by omega
          by_cases hlt : k < n
          · have hlt' : (k : Int) < n := by omega
            go_wp2_with (first | (go_at_call 113; fail))
            clear hc0 hf0
            refine (from_any n k b o m c _ hlt HP.out.2.1 HP.out.2.2.1.symm HP.out.2.2.2).mono ?_
            rintro e w1 ⟨rfl, hb1⟩
            have HB1 := Lib.hid (HB.out.below hb1)
            clear hb1
            have hx1 := (Holds.rowA (HX.out.1.below HB1.out.2) n k)
            have hl1 := rowA_len (n := n) (i := k) (ss := ss) (by have := row_in hlt; have := HP.out.2.2.1; have := HX.out.2; omega)
            have HR := Lib.hid (And.intro hx1 hl1)
            have hn12 : n ≤ 12 := HP.out.2.1
            clear hx1 hl1
            go_wp2_with (first | (go_at_call 114; fail))
            refine (areWithin_any _ n HR.out.2 _ _ _ HR.out.1 (by omega)).mono ?_
            rintro e w' ⟨b1, rfl, hb1, rfl⟩
            have HB2 := Lib.hid hb1
            clear hb1
            cases b1 with
            | false =>
              go_wp2_with (first | (go_at_call 115; fail))
              go_ret
              refine Bo.mk _ (falseIs fun h => ?_) HB1.out.2
              have h2 := h.rows k (by simpa using hlt)
              have := HB2.out.2 (by simpa using h2.1)
              cases this
            | true =>
              go_wp2_with (first | (go_at_call 115; fail))
              refine (addUp_any _ n HR.out.2 _ _ _ HR.out.1 (by omega)).mono ?_
              rintro e w2 ⟨b2, rfl, hb2, hw2⟩
              have HB3 := Lib.hid (And.intro hb2 (HB1.out.below hw2))
              clear hb2 hw2
              cases b2 with
              | false =>
                go_wp2
                go_ret
                refine Bo.mk _ (falseIs fun h => ?_) HB3.out.2.2
                have h2 := h.rows k (by simpa using hlt)
                have := HB3.out.1.2 (by simpa using h2.ones)
                cases this
              | true =>
                go_wp2
                go_roundw
                case rel => exact ⟨k + 1, by omega, by go_num, rowsTo_next HA.out ((parts.ones (HB2.out.1 trivial)).1 (HB3.out.1.1 trivial)), HB3.out.2⟩
                case measure => simp [intOf]; omega
          · obtain rfl : k = n := by omega
            clear hc0 hf0
            go_wp2
            go_ret
            refine Bo.mk _ ⟨fun _ => ?_, fun _ => rfl⟩ HB.out.2
            exact isChain.of HP.out.1 HP.out.2.1 (by rw [HX.out.2]; exact HP.out.2.2.1.symm) HA.out
      · have he' : ((m : Int) != (p : Int)) = true := by simp; omega
        have HN : Hid (¬ isChain n ss) := Lib.hid (fun h => he (by have := h.len; rw [HX.out.2, hp'] at this; omega))
        clear he
        go_enter Try.func68, Try.ntmps68
        go_wp2
        go_ret
        exact Bo.mk _ (falseIs HN.out) (by repeat (first | with_reducible exact Below.refl _ _ | with_reducible exact HBL | with_reducible refine Below.drew ?_ | with_reducible refine Bel_drewN ?_ _ | with_reducible refine Below.alloc ?_ (by first | omega | (simp; done) | (simp; omega)) _ | with_reducible refine Below.setCell ?_ (by first | omega | (simp; done) | (simp; omega)) _))
theorem l00In_vc (n lo hi : Int) (v : Bool) (h : decide (lo ≤ n ∧ n ≤ hi) = v) (w : World) :
    Calls Try.prog 64 #[.int .i64 n, .int .i64 lo, .int .i64 hi] w (fun e w' => e = .returned (.bool v) ∧ w = w') := h ▸ l00In_any n lo hi w
theorem l02Part_v (x : Nat) (v : Bool) (h : partB x = v) (w : World) : Calls Try.prog 119 #[.float .f32 x] w (fun e w' => e = .returned (.bool v) ∧ w = w') := h ▸ l02Part_any x w
set_option maxRecDepth 100000 in
set_option maxHeartbeats 4000000 in
theorem l07Is_any (s : Int) (ss : List Nat) (m : Nat) (hm : ss.length = m) (ao : Option Addr) (c g : Nat) (w : World) (hw : Whole w g 34 #[.int .i64 s, .slice ao m c]) (hx : Holds w ao (fl .f32 ss)) (hlen : m ≤ 1048576) :
    Calls Try.prog 75 #[.pointer (some ⟨g, 0, none⟩)] w (BoD (isChain s ss) w) := by
  have HX := Lib.hid (And.intro hx hm)
  have HWH := Lib.hid hw
  obtain ⟨hc0, hf0⟩ := hw.facts
  clear hx hm hw
  by_cases h1 : 1 ≤ s ∧ s ≤ 12
  · obtain ⟨n, rfl⟩ : ∃ n : Nat, s = n := ⟨s.toNat, by omega⟩
    have hn1 : 1 ≤ n := by omega
    have hn2 : n ≤ 12 := by omega
    have HV := Lib.hid (decide_eq_true h1)
    have hsq := sq_le hn2
    obtain ⟨p, hp⟩ : ∃ p, n * n = p := ⟨_, rfl⟩
    have hp' : (n : Int) * (n : Int) = (p : Int) := by rw [← hp]; simp
    have hwr : IntKind.i64.wrap ((n : Int) * (n : Int)) = (p : Int) := by rw [hp', IntKind.wrap_i64]; omega
    have HQ := Lib.hid hp'
    clear h1 hsq hp'
    by_cases he : m = p
    · subst he
      obtain ⟨b, o, rfl⟩ := HX.out.1.at (by rw [fl_len32, HX.out.2, ← hp]; exact Nat.mul_pos hn1 hn1)
      have HP := Lib.hid (And.intro hn1 (And.intro hn2 hp))
      have he2 : ((m : Int) != (m : Int)) = false := by simp
      clear hn1 hn2 hp
      go_enter Try.func75, Try.ntmps75
      go_wp2_with fail
      go_quiet (first | (go_at_call 64; exact quiet_same' (l00In_vc _ _ _ _ HV.out _)))
      clear hwr
      have hq1 : ∀ n0 : Nat, (w.drewN n0).heap = w.heap := fun _ => rfl
      go_wp2_with fail
      rename Nat => n0
      go_loopw [3] (fun i wr => ∃ k : Nat, k ≤ n ∧ i = .int .i64 k ∧ rowsTo n ss k ∧ ∃ q, wr = w.drewN q) (fun i _ => n - (intOf i).toNat)
      case atStart => exact ⟨0, Nat.zero_le _, rfl, rowsTo_zero _ _, _, rfl⟩
      case round =>
        obtain ⟨k, hk, rfl, hall, q, hwr⟩ := hrel
        have HA := Lib.hid hall
        have HW := Lib.hid (show ∃ n, wr = w.drewN n from ⟨q, hwr⟩)
        have hbel : Below w.heap.size w wr := by rw [hwr]; exact Bel_drewN (Below.refl _ _) _
        have hcg : ∀ i, wr.cell? ⟨g, i, none⟩ = #[Value.int IntKind.i64 ↑n, Value.slice (some ⟨b, o, none⟩) m c][i]? := by rw [hwr]; exact hc0
        clear hall hwr hc0 hf0 hq1
        have hkl : (k : Int) ≤ n := by omega
        by_cases hlt : k < n
        · have hlt' : (k : Int) < n := by omega
          have hin := row_in hlt
          obtain ⟨kn, hkn⟩ : ∃ kn, k * n = kn := ⟨_, rfl⟩
          rw [hkn, HP.out.2.2] at hin
          have HK := Lib.hid (And.intro hkn hin)
          have hm144 : m ≤ 144 := by rw [← HP.out.2.2]; exact sq_le HP.out.2.1
          have hn12 : (n : Int) ≤ 12 := by have := HP.out.2.1; omega
          have hw1 : IntKind.i64.wrap ((k : Int) * (n : Int)) = (kn : Int) := by rw [← Int.natCast_mul, hkn, IntKind.wrap_i64]; omega
          have HRL : Hid ((rowA n k ss).length = n) := Lib.hid (rowA_len (by rw [hkn, HX.out.2]; exact hin))
          clear hkn hin
          go_wp2
          rename World => wa
          go_loopw [4, 5] (fun s i wq => ∃ j : Nat, j ≤ n ∧ i = .int .i64 j ∧ (∀ t, t < j → partB ((rowA n k ss)[t]?.getD 0) = true) ∧ ∃ r, s = .float .f32 r ∧ Fv .f32 (sumA .f32 ((rowA n k ss).take j)) r ∧ ∃ q, wq = w.drewN q) (fun _ i _ => n - (intOf i).toNat)
          case atStart => exact ⟨0, Nat.zero_le _, rfl, fun t ht => absurd ht (Nat.not_lt_zero _), 0, rfl, Fv_zero _, HW.out⟩
          case round =>
            obtain ⟨j, hj, rfl, hall, r, rfl, hr, q, hwr⟩ := hrel
            have HA2 := Lib.hid (And.intro hall hr)
            have HW2 := Lib.hid (show ∃ n, wr = w.drewN n from ⟨q, hwr⟩)
            have hbel2 : Below w.heap.size w wr := by rw [hwr]; exact Bel_drewN (Below.refl _ _) _
            have hcg2 : ∀ i, wr.cell? ⟨g, i, none⟩ = #[Value.int IntKind.i64 ↑n, Value.slice (some ⟨b, o, none⟩) m c][i]? := by rw [hwr]; exact (HWH.out.drewN q).cell
            clear hall hr hwr hcg hbel
            have hjl : (j : Int) ≤ n := by omega
            by_cases hlt2 : j < n
            · have hlt2' : (j : Int) < n := by omega
              obtain ⟨f, hf⟩ : ∃ f, kn + j = f := ⟨_, rfl⟩
              have hfm : f < m := by have := HK.out.2; omega
              have hw2 : IntKind.i64.wrap ((kn : Int) + (j : Int)) = (f : Int) := by rw [IntKind.wrap_i64]; omega
              obtain ⟨b', o', e', hc⟩ := (Holds.below HX.out.1 hbel2) f (by rw [fl_len32, HX.out.2]; exact hfm)
              cases e'
              rw [fl_get _ _ _ (by rw [HX.out.2]; exact hfm)] at hc
              have hxe : ss[f]?.getD 0 = (rowA n k ss)[j]?.getD 0 := by rw [rowA_get hlt2, HK.out.1, hf]
              rw [hxe] at hc
              have HT := Lib.hid (take_next (rowA n k ss) j (by rw [HRL.out]; exact hlt2))
              obtain ⟨x, hx⟩ : ∃ x, x = (rowA n k ss)[j]?.getD 0 := ⟨_, rfl⟩
              rw [← hx] at hc HT
              have HE := Lib.hid (And.intro hx hf)
              have hf0 : (0 : Int) ≤ (f : Int) := by omega
              have hfl : (f : Int) < (m : Int) := by omega
              clear hx hf hxe hfm
              cases hp : partB x with
              | false =>
                have HPB := Lib.hid hp
                clear hp
                go_wp2_with fail
                go_quiet (first | (go_at_call 119; exact quiet_same' (l02Part_v _ _ HPB.out _)))
                go_wp2
                go_ret
                refine BoD.of _ (falseIs fun h => ?_) (drewn_more HW2.out _)
                have h2 := (h.rows k (by simpa using hlt)).1 j (by simpa [HRL.out] using hlt2)
                simp only [Int.toNat_natCast] at h2
                rw [← HE.out.1, HPB.out] at h2
                cases h2
              | true =>
                have HPB := Lib.hid hp
                clear hp
                go_wp2_with fail
                go_quiet (first | (go_at_call 119; exact quiet_same' (l02Part_v _ _ HPB.out _)))
                go_wp2
                refine wp_region_lex (C := Cw (wr.drewN _)) (by kernel_rfl) (by kernel_rfl) ⟨1, rfl⟩ ?_
                repeat (first
                  | (apply lex_move rfl (.inl rfl); (focus (simp [go_sem]; rfl)))
                  | (apply lex_move rfl (.inr rfl); (focus (simp [go_sem]; rfl)))
                  | (apply lex_farith _ _ _ _ _ .f32 _ _ rfl rfl rfl; (focus (intro r; simp [go_sem]; rfl)); intro r' hr')
                  | (apply lex_pure rfl; (focus (intro m; go_simp; rfl)); (focus (simp [go_sem]; rfl))))
                refine lex_nil ?_
                rintro _ ⟨m2, rfl⟩
                have HR2 := Lib.hid hr'
                clear hr'
                go_wp2
                go_roundw
                case rel =>
                  refine ⟨j + 1, by omega, by go_num, fun t ht => ?_, r', rfl, by rw [HT.out, sumA_snoc, ← HA2.out.2.2]; exact HR2.out, drewn_more HW2.out _⟩
                  by_cases e : t = j
                  · subst e; rw [← HE.out.1]; exact HPB.out
                  · exact HA2.out.1 t (by omega)
                case measure => simp [intOf]; omega
            · obtain rfl : j = n := by omega
              have HTW := Lib.hid (take_whole (rowA j k ss) j (by rw [HRL.out]; omega))
              go_wp2_with (first | (refine wpList_farith _ _ _ _ _ .f32 _ _ rfl rfl rfl ?_; intro r1 n1 hr1; (obtain ⟨bq, hbq⟩ : ∃ b, leB r1 981668463 = b := ⟨_, rfl⟩); have hle' := le_fact hbq) | (refine wpList_farith_g _ _ _ _ _ .f32 _ _ rfl rfl rfl rfl ?_; intro r2 n2 hr2; (obtain ⟨bq2, hbq2⟩ : ∃ b, geB r2 3129152111 = b := ⟨_, rfl⟩); have hge' := ge_factB hbq2))
              · rename_i hq1 hq2
                have e := near_of_Fv2 (v := sumA .f32 (rowA j k ss)) (r := r1) (s := r2) (by unfold offV; rw [← HTW.out, ← HA2.out.2.2]; exact hr1) (by unfold offV; rw [← HTW.out, ← HA2.out.2.2]; exact hr2)
                go_ret
                refine BoD.of _ (falseIs fun h => ?_) (drewn_more HW2.out _)
                have h2 := (h.rows k (by simpa using hlt)).2
                simp only [Int.toNat_natCast] at h2
                rw [hbq, hq1, hbq2, Bool.true_and] at e
                rw [h2] at e
                rw [e] at hq2; cases hq2
              · rename_i hq1 hq2
                have e := near_of_Fv2 (v := sumA .f32 (rowA j k ss)) (r := r1) (s := r2) (by unfold offV; rw [← HTW.out, ← HA2.out.2.2]; exact hr1) (by unfold offV; rw [← HTW.out, ← HA2.out.2.2]; exact hr2)
                have hq3 : bq2 = true := by cases bq2 <;> simp_all
                rw [hbq, hq1, hbq2, hq3, Bool.true_and] at e
                have HE2 := Lib.hid e.symm
                clear e hr1 hr2 hbq hbq2 hle' hge' hq1 hq2 hq3
                go_roundw
                case rel => exact ⟨k + 1, by omega, by go_num, rowsTo_next HA.out ⟨fun t ht => HA2.out.1 t (by rw [HRL.out] at ht; exact ht), HE2.out⟩, drewn_more HW2.out _⟩
                case measure => simp [intOf]; omega
              · rename_i hq1
                have e := near_of_Fv2 (v := sumA .f32 (rowA j k ss)) (r := r1) (s := r1) (by unfold offV; rw [← HTW.out, ← HA2.out.2.2]; exact hr1) (by unfold offV; rw [← HTW.out, ← HA2.out.2.2]; exact hr1)
                go_ret
                refine BoD.of _ (falseIs fun h => ?_) (drewn_more HW2.out _)
                have h2 := (h.rows k (by simpa using hlt)).2
                simp only [Int.toNat_natCast] at h2
                rw [hbq, Bool.eq_false_iff.2 hq1, Bool.false_and, h2] at e
                cases e
        · obtain rfl : k = n := by omega
          go_wp2
          go_ret
          refine BoD.of _ ⟨fun _ => ?_, fun _ => rfl⟩ HW.out
          exact isChain.of HP.out.1 HP.out.2.1 (by rw [HX.out.2]; exact HP.out.2.2.symm) HA.out
    · have he2 : ((m : Int) != (p : Int)) = true := by simp; omega
      have HN : Hid (¬ isChain n ss) := Lib.hid (fun h => he (by have := h.len; rw [HX.out.2, HQ.out] at this; omega))
      clear he
      go_enter Try.func75, Try.ntmps75
      go_wp2_with fail
      go_quiet (first | (go_at_call 64; exact quiet_same' (l00In_vc _ _ _ _ HV.out _)))
      clear hwr
      go_wp2_with fail
      go_ret
      exact BoD.of _ (falseIs HN.out) (drewn_more ⟨0, rfl⟩ _)
  · have HN : Hid (¬ isChain s ss) := Lib.hid (fun h => h1 h.side)
    have HV := Lib.hid (decide_eq_false h1)
    clear h1
    go_enter Try.func75, Try.ntmps75
    go_wp2_with fail
    go_quiet (first | (go_at_call 64; exact quiet_same' (l00In_vc _ _ _ _ HV.out _)))
    go_wp2_with fail
    go_ret
    exact BoD.of _ (falseIs HN.out) (drewn_more ⟨0, rfl⟩ _)
end Go.Proofs.Ytgeomaeccalceaa
