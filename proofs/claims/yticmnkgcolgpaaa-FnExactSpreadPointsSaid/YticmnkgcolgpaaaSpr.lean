/- Points of low discrepancy: both sides. -/
import Derived.Test.YticmnkgcolgpaaaTd
import Derived.Test.YticmnkgcolgpaaaDl
import Derived.Test.YticmnkgcolgpaaaCk
namespace Go.Proofs.Yticmnkgcolgpaaa
open Go Go.RowKit Fl
set_option linter.unusedVariables false
/-- The points, known but for not-a-numbers' bits. -/
def sprF (from_ : Nat) (i : Nat) : Option Nat × Option Nat := (trnV (idL 2) 2 (from_ + i), trnV (idL 3) 3 (from_ + i))
theorem ownC_bel {w w' : World} {base : Nat} {e : TypeId} {size : Nat} {v : Value} {n : Nat} {xs : List Value} (h : w.ownsRow base e size v n xs) (hb : Below w.heap.size w w') : w'.ownsRow base e size v n xs := h.kept (grown_below (row := none) hb) (Classical.em _)
theorem RowAt.holds0 {w : World} {g : Nat} {t : TypeId} {cs : List Int} (h : RowAt w g t cs) : Holds w (some ⟨g, 0, none⟩) (il cs) := (h.row (Nat.zero_le _) h.lt).holds
theorem run_mkC {P : Program} (w : World) (t e : TypeId) (n : Nat) (ht : P.underlying t = some (.slice e)) (hi : (P.info? e).map (fun i => (i.zero, i.size, i.bytes)) = some (some (.complex .f32 0 0), 1, 8)) (hn : n ≤ 1048577) :
    (Instr.makeSlice t (.int .i64 0) (.int .i64 (n : Int))).run P w = .ok (.slice (some ⟨w.heap.size, 0, none⟩) 0 n) (w.alloc (.cells (Array.replicate n (.complex .f32 0 0)) e)) := by
  obtain ⟨i, hi, h1, h2, h3⟩ := info_parts hi
  have hb' : (i.bytes : Int) * (n : Int) ≤ 281474976710656 := by rw [h3]; omega
  rw [run_make w t e i (.complex .f32 0 0) ht hi h1 .i64 .i64 0 n (by omega) (by omega) hb' (by omega)]
  have : madeCells (Value.complex .f32 0 0).cells ((n : Int).toNat * i.size) = Array.replicate n (.complex .f32 0 0) := by
    rw [show (Value.complex .f32 0 0).cells = #[.complex .f32 0 0] from rfl, h2, Int.toNat_natCast, Nat.mul_one]
    unfold madeCells
    apply Array.ext
    · simp
    · intro j h1 h2
      simp [Nat.mod_one]
  rw [this]; simp
theorem turn2 (q : Nat) (hq : q ≤ 65535) (ao : Option Addr) (c : Nat) (w : World) (hx : Holds w ao (il (idL 2))) :
    Calls Try.prog 76 #[.int .i64 q, .slice ao 2 c] w (RetF (fun r => .float .f32 r) (trnV (idL 2) 2 q) w) := by
  have h := implTurn_ret (idL 2) q ao c w hq (by simp [idL_len]) hx
  rwa [idL_len] at h
theorem turn3 (q : Nat) (hq : q ≤ 65535) (ao : Option Addr) (c : Nat) (w : World) (hx : Holds w ao (il (idL 3))) :
    Calls Try.prog 76 #[.int .i64 q, .slice ao 3 c] w (RetF (fun r => .float .f32 r) (trnV (idL 3) 3 q) w) := by
  have h := implTurn_ret (idL 3) q ao c w hq (by simp [idL_len]) hx
  rwa [idL_len] at h
theorem turned2 (q : Nat) (hq : q ≤ 65535) (ao : Option Addr) (c : Nat) (w : World) (hx : Holds w ao (il (idL 2))) :
    Calls Try.prog 73 #[.int .i64 q, .int .i64 2, .slice ao 2 c] w (RetF (fun r => .float .f32 r) (trnV (idL 2) 2 q) w) := by
  have h := specTurn_ret (idL 2) q ao c w hq (by simp [idL_len]) hx
  rwa [idL_len] at h
theorem turned3 (q : Nat) (hq : q ≤ 65535) (ao : Option Addr) (c : Nat) (w : World) (hx : Holds w ao (il (idL 3))) :
    Calls Try.prog 73 #[.int .i64 q, .int .i64 3, .slice ao 3 c] w (RetF (fun r => .float .f32 r) (trnV (idL 3) 3 q) w) := by
  have h := specTurn_ret (idL 3) q ao c w hq (by simp [idL_len]) hx
  rwa [idL_len] at h
set_option maxRecDepth 100000 in
set_option maxHeartbeats 1000000 in
theorem implSpread_yes (F C : Nat) (hF : F ≤ 65000) (hC : C ≤ 256) (w : World) :
    Calls Try.prog 33 #[.int .i64 (F : Int), .int .i64 (C : Int)] w (RetLC C (sprF F) (fun s => .tuple #[s, .bool true]) w) := by
  have hF0 : (0 : Int) ≤ F := by omega
  have hF1 : (F : Int) ≤ 65000 := by omega
  have hC0 : (0 : Int) ≤ C := by omega
  have hC1 : (C : Int) ≤ 256 := by omega
  have hmk := fun w => run_mkC (P := Try.prog) w 44 23 C Try.underlying44 (by kernel_rfl) (by omega)
  go_enter Try.func33, Try.ntmps33
  go_wp2_with (first | (go_at_call 75; fail))
  refine (firstOrder_ret 2 (by omega) (by omega) _).mono ?_
  rintro e w1 ⟨rfl, hrow, hb⟩
  have H1 := Lib.hid (And.intro hrow hb)
  have hz1 := hb.size
  clear hrow hb
  go_wp2_with (first | (go_at_call 75; fail))
  refine (firstOrder_ret 3 (by omega) (by omega) _).mono ?_
  rintro e w2 ⟨rfl, hrow, hb⟩
  have H2 : Hid (RowAt w2 w.heap.size 112 (idL 2) ∧ RowAt w2 w1.heap.size 112 (idL 3) ∧ Below w.heap.size w w2 ∧ w.heap.size ≤ w2.heap.size) := Lib.hid ⟨H1.out.1.below hb, hrow, Bel_next H1.out.2 hb, Nat.le_trans hz1 hb.size⟩
  clear hrow hb H1
  have ho0 : Hid ((w2.alloc (.cells (Array.replicate C (.complex .f32 0 0)) 23)).ownsRow w2.heap.size 23 1 (.slice (some ⟨w2.heap.size, 0, none⟩) 0 C) 0 []) := Lib.hid (World.ownsRow_made w2 _ C (Nat.le_refl _) (by unfold maxLen; omega) (by simp))
  go_wp2_with fail
  go_loopw [9, 8] (fun nv ov wr => ∃ (j q : Nat) (ps : List (Nat × Nat)) (ao : Option Addr) (c : Nat), j ≤ C ∧ q = F + j ∧ nv = .int .i64 (q : Int) ∧ ov = .slice ao j c ∧ LikeC j (sprF F) ps ∧ wr.ownsRow w2.heap.size 23 1 ov j (cl ps) ∧ Below w.heap.size w wr ∧ RowAt wr w.heap.size 112 (idL 2) ∧ RowAt wr w1.heap.size 112 (idL 3) ∧ w2.heap.size ≤ wr.heap.size) (fun nv _ _ => F + C - (intOf nv).toNat)
  case atStart => exact ⟨0, F, [], _, C, Nat.zero_le _, rfl, rfl, rfl, LikeC.nil _, ho0.out, H2.out.2.2.1.alloc H2.out.2.2.2 _, H2.out.1.alloc _, H2.out.2.1.alloc _, by simp⟩
  case round =>
    obtain ⟨j, q, ps, ao, c, hj, hq, rfl, rfl, hl, hown, hbel, h2, h3, hzz⟩ := hrel
    have H := Lib.hid (And.intro hown (And.intro hbel (And.intro h2 (And.intro h3 hzz))))
    have HL := Lib.hid (And.intro hl hq)
    clear hown hbel h2 h3 ho0 hmk hl
    by_cases hlt : j < C
    · have hq1 : q ≤ 65535 := by omega
      have hq2 : (q : Int) < (F : Int) + (C : Int) := by omega
      have HQ := Lib.hid hlt
      clear hq hlt
      go_wp2_with (first | (go_at_call 76; fail))
      refine (turn2 q hq1 _ _ _ H.out.2.2.1.holds0).mono ?_
      rintro e w3 ⟨r, rfl, hr, hb3⟩
      have H3 := Lib.hid (And.intro hr hb3)
      clear hr hb3
      go_wp2_with (first | (go_at_call 76; fail))
      refine (turn3 q hq1 _ _ _ (H.out.2.2.2.1.below H3.out.2).holds0).mono ?_
      rintro e w4 ⟨t, rfl, ht, hb4⟩
      have hb34 : Below wr.heap.size wr w4 := Bel_next H3.out.2 hb4
      have H4 : Hid (w4.ownsRow w2.heap.size 23 1 (.slice ao j c) j (cl ps) ∧ Below w.heap.size w w4 ∧ RowAt w4 w.heap.size 112 (idL 2) ∧ RowAt w4 w1.heap.size 112 (idL 3) ∧ w2.heap.size ≤ w4.heap.size ∧ w.heap.size < w2.heap.size ∧ w1.heap.size < w2.heap.size ∧ LikeC (j + 1) (sprF F) (ps ++ [(r, t)])) := Lib.hid ⟨ownC_bel H.out.1 hb34, Bel_next H.out.2.1 hb34, H.out.2.2.1.below hb34, H.out.2.2.2.1.below hb34, Nat.le_trans H.out.2.2.2.2 hb34.size, H2.out.1.lt, H2.out.2.1.lt, HL.out.1.snoc (by have := H3.out.1; rw [HL.out.2] at this; exact this) (by rw [HL.out.2] at ht; exact ht)⟩
      have hjj := HQ.out
      clear ht hb4 hb34 H H3
      go_wp2_with (at_builtin; refine wpList_app1 rfl _ _ 44 rfl w2.heap.size 23 (.complex .f32 0 0) 8 Try.underlying44 (by kernel_rfl) rfl _ j (cl ps) rfl (H4.out.1.alloc _) w4.heap.size 1 (.complex .f32 r t) rfl ((Whole.made w4 _ _).cell 0) rfl ⟨by omega, by omega⟩ (by have := H4.out.2.2.2.2.1; simp; omega) ?_; intro v' w' hown' hgr')
      obtain ⟨ao', c', rfl⟩ := own_form hown'
      go_wp2_with fail
      go_roundw
      case rel =>
        obtain ⟨g1, g2, g3, g4, g5, g6, g7, g8⟩ := H4.out
        refine ⟨j + 1, q + 1, _, ao', c', by omega, by rw [HL.out.2]; omega, by go_num, rfl, g8, by rw [cl_snoc]; exact hown', ?_, ?_, ?_, ?_⟩
        · exact Below.grown (g2.alloc (by omega) _) hgr' (by simp; omega) (fun i hi => by have := own_ge g1 i hi; omega)
        · exact (g3.alloc _).grown hgr' (own_ne' g1 g6)
        · exact (g4.alloc _).grown hgr' (own_ne' g1 g7)
        · have := hgr'.size; simp at this; omega
      case measure => simp [intOf]; omega
    · obtain rfl : j = C := by omega
      have hq2 : ¬ ((q : Int) < (F : Int) + (j : Int)) := by omega
      clear hq hlt
      go_wp2_with fail
      go_ret2
      exact ⟨ps, ao, c, rfl, HL.out.1, (Row.of_own H.out.1).wide H2.out.2.2.2 (Nat.le_refl _), H.out.2.1⟩
theorem implSpread_no (f c : Int) (hv : ¬ ((0 ≤ f ∧ f ≤ 65000) ∧ 0 ≤ c ∧ c ≤ 256)) (w : World) :
    Calls Try.prog 33 #[.int .i64 f, .int .i64 c] w (RetB (.tuple #[.slice none 0 0, .bool false]) w) := by
  by_cases h0 : f < 0
  · clear hv
    go_enter Try.func33, Try.ntmps33
    go_wp2_with fail
    go_ret2
    exact ⟨rfl, Below.refl _ _⟩
  · have h0' : 0 ≤ f := by omega
    by_cases h1 : 65000 < f
    · clear hv h0
      go_enter Try.func33, Try.ntmps33
      go_wp2_with fail
      go_ret2
      exact ⟨rfl, Below.refl _ _⟩
    · have h1' : f ≤ 65000 := by omega
      by_cases h2 : c < 0
      · clear hv h0 h1
        go_enter Try.func33, Try.ntmps33
        go_wp2_with fail
        go_ret2
        exact ⟨rfl, Below.refl _ _⟩
      · have h2' : 0 ≤ c := by omega
        have h3' : 256 < c := by omega
        clear hv h0 h1 h2
        go_enter Try.func33, Try.ntmps33
        go_wp2_with fail
        go_ret2
        exact ⟨rfl, Below.refl _ _⟩
set_option maxRecDepth 100000 in
set_option maxHeartbeats 1000000 in
theorem specSpread_yes (F C : Nat) (hF : F ≤ 65000) (hC : C ≤ 256) (w : World) :
    Calls Try.prog 32 #[.int .i64 (F : Int), .int .i64 (C : Int)] w (RetLC C (sprF F) (fun s => .tuple #[s, .bool true]) w) := by
  have hF0 : (0 : Int) ≤ F := by omega
  have hF1 : (F : Int) ≤ 65000 := by omega
  have hC0 : (0 : Int) ≤ C := by omega
  have hC1 : (C : Int) ≤ 256 := by omega
  go_enter Try.func32, Try.ntmps32
  go_wp2_with fail
  refine (l00In_yes _ _ _ hF0 hF1 _).mono ?_
  rintro e w1 ⟨rfl, rfl⟩
  go_wp2_with fail
  refine (l00In_yes _ _ _ hC0 hC1 _).mono ?_
  rintro e w1 ⟨rfl, rfl⟩
  go_wp2_with fail
  go_loopw [7, 6] (fun nv ov wr => ∃ (j q : Nat) (ps : List (Nat × Nat)) (ao : Option Addr) (c : Nat), j ≤ C ∧ q = F + j ∧ nv = .int .i64 (q : Int) ∧ ov = .slice ao j c ∧ LikeC j (sprF F) ps ∧ wr.ownsRow w.heap.size 23 1 ov j (cl ps) ∧ Below w.heap.size w wr) (fun nv _ _ => F + C - (intOf nv).toNat)
  case atStart => exact ⟨0, F, [], _, _, Nat.zero_le _, rfl, rfl, rfl, LikeC.nil _, World.ownsRow_made _ _ _ (Nat.le_refl _) (Nat.zero_le _) rfl, (by repeat (first | with_reducible exact Below.refl _ _ | with_reducible exact HBL | with_reducible refine Below.drew ?_ | with_reducible refine Bel_drewN ?_ _ | with_reducible refine Below.alloc ?_ (by first | omega | (simp; done) | (simp; omega)) _ | with_reducible refine Below.setCell ?_ (by first | omega | (simp; done) | (simp; omega)) _))⟩
  case round =>
    obtain ⟨j, q, ps, ao, c, hj, hq, rfl, rfl, hl, hown, hbel⟩ := hrel
    have H := Lib.hid (And.intro hown (And.intro hbel hbel.size))
    have HL := Lib.hid (And.intro hl hq)
    clear hown hbel hl
    by_cases hlt : j < C
    · have hq1 : q ≤ 65535 := by omega
      have hq2 : (q : Int) < (F : Int) + (C : Int) := by omega
      have HQ := Lib.hid hlt
      clear hq hlt
      go_wp2_with (first | (go_at_call 74; fail))
      refine (l04All_ret 2 (by omega) (by omega) _).mono ?_
      rintro e w3 ⟨g2, cap2, rfl, _, _, _, hrow, hb3⟩
      have H3 := Lib.hid (And.intro hrow hb3)
      clear hrow hb3
      go_wp2_with (first | (go_at_call 73; fail))
      refine (turned2 q hq1 _ _ _ H3.out.1.holds0).mono ?_
      rintro e w4 ⟨r, rfl, hr, hb4⟩
      have H4 : Hid (Fv .f32 (trnV (idL 2) 2 q) r ∧ Below wr.heap.size wr w4) := Lib.hid ⟨hr, Bel_next H3.out.2 hb4⟩
      clear hr hb4 H3
      go_wp2_with (first | (go_at_call 74; fail))
      refine (l04All_ret 3 (by omega) (by omega) _).mono ?_
      rintro e w5 ⟨g3, cap3, rfl, _, _, _, hrow, hb5⟩
      have H5 := Lib.hid (And.intro hrow (Bel_next H4.out.2 hb5))
      clear hrow hb5
      go_wp2_with (first | (go_at_call 73; fail))
      refine (turned3 q hq1 _ _ _ H5.out.1.holds0).mono ?_
      rintro e w6 ⟨t, rfl, ht, hb6⟩
      have hb34 : Below wr.heap.size wr w6 := Bel_next H5.out.2 hb6
      have H6 : Hid (w6.ownsRow w.heap.size 23 1 (.slice ao j c) j (cl ps) ∧ Below w.heap.size w w6 ∧ w.heap.size ≤ w6.heap.size ∧ LikeC (j + 1) (sprF F) (ps ++ [(r, t)])) := Lib.hid ⟨ownC_bel H.out.1 hb34, Bel_next H.out.2.1 hb34, Nat.le_trans H.out.2.2 hb34.size, HL.out.1.snoc (by have := H4.out.1; rw [HL.out.2] at this; exact this) (by rw [HL.out.2] at ht; exact ht)⟩
      have hjj := HQ.out
      clear ht hb6 hb34 H H4 H5
      go_wp2_with (at_builtin; refine wpList_app1 rfl _ _ 44 rfl w.heap.size 23 (.complex .f32 0 0) 8 Try.underlying44 (by kernel_rfl) rfl _ j (cl ps) rfl (H6.out.1.alloc _) w6.heap.size 1 (.complex .f32 r t) rfl ((Whole.made w6 _ _).cell 0) rfl ⟨by omega, by omega⟩ (by have := H6.out.2.2.1; simp; omega) ?_; intro v' w' hown' hgr')
      obtain ⟨ao', c', rfl⟩ := own_form hown'
      go_wp2_with fail
      go_roundw
      case rel =>
        obtain ⟨g1, g2, g5, g8⟩ := H6.out
        refine ⟨j + 1, q + 1, _, ao', c', by omega, by rw [HL.out.2]; omega, by go_num, rfl, g8, by rw [cl_snoc]; exact hown', ?_⟩
        exact Below.grown (g2.alloc (by omega) _) hgr' (by simp; omega) (own_ge g1)
      case measure => simp [intOf]; omega
    · obtain rfl : j = C := by omega
      have hq2 : ¬ ((q : Int) < (F : Int) + (j : Int)) := by omega
      clear hq hlt
      go_wp2_with fail
      go_ret2
      exact ⟨ps, ao, c, rfl, HL.out.1, Row.of_own H.out.1, H.out.2.1⟩
theorem specSpread_no (f c : Int) (hv : ¬ ((0 ≤ f ∧ f ≤ 65000) ∧ 0 ≤ c ∧ c ≤ 256)) (w : World) :
    Calls Try.prog 32 #[.int .i64 f, .int .i64 c] w (RetB (.tuple #[.slice none 0 0, .bool false]) w) := by
  by_cases h01 : 0 ≤ f ∧ f ≤ 65000
  · have h2 : c < 0 ∨ 256 < c := by omega
    have H01 := Lib.hid (And.intro h01 h2)
    clear hv h01 h2
    go_enter Try.func32, Try.ntmps32
    go_wp2_with fail
    refine (l00In_yes _ _ _ H01.out.1.1 H01.out.1.2 _).mono ?_
    rintro e w1 ⟨rfl, rfl⟩
    go_wp2_with fail
    refine (l00In_no _ _ _ H01.out.2 _).mono ?_
    rintro e w1 ⟨rfl, rfl⟩
    go_wp2_with fail
    go_ret2
    exact ⟨rfl, Below.refl _ _⟩
  · have H01 : Hid (f < 0 ∨ 65000 < f) := Lib.hid (by omega)
    clear hv h01
    go_enter Try.func32, Try.ntmps32
    go_wp2_with fail
    refine (l00In_no _ _ _ H01.out _).mono ?_
    rintro e w1 ⟨rfl, rfl⟩
    go_wp2_with fail
    go_ret2
    exact ⟨rfl, Below.refl _ _⟩
end Go.Proofs.Yticmnkgcolgpaaa
