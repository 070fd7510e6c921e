/- Points of a disc: numbers of the tries, both sides' loops, DiscPoint. -/
import Derived.Test.YticmnkgcolgpaaaCir
import Derived.Test.YticmnkgcolgpaaaSh
import Derived.Test.YticmnkgcolgpaaaIn
namespace Go.Proofs.Yticmnkgcolgpaaa
open Go Go.RowKit Fl
set_option linter.unusedVariables false
/-! ### Numbers -/
def R1f : Nat := 1065353216
def R2f : Nat := 1073741824
def R3f : Nat := 1077936128
def R9f : Nat := 1091567616
def R18f : Nat := 1099956224
theorem Rf_lt : R1f < FloatKind.f32.format.infRung ∧ R2f < FloatKind.f32.format.infRung ∧ R3f < FloatKind.f32.format.infRung ∧ R9f < FloatKind.f32.format.infRung ∧ R18f < FloatKind.f32.format.infRung := by decide +kernel
theorem vr_1f : vr Ieee.single R1f = 2 ^ K0 := by decide +kernel
theorem m_22 : vr FloatKind.f32.format R2f * vr FloatKind.f32.format R1f ≤ vr FloatKind.f32.format R2f * 2 ^ K0 := by decide +kernel
theorem a_23 : vr FloatKind.f32.format R2f + vr FloatKind.f32.format R1f ≤ vr FloatKind.f32.format R3f := by decide +kernel
theorem m_39 : vr FloatKind.f32.format R3f * vr FloatKind.f32.format R3f ≤ vr FloatKind.f32.format R9f * 2 ^ K0 := by decide +kernel
theorem a_18 : vr FloatKind.f32.format R9f + vr FloatKind.f32.format R9f ≤ vr FloatKind.f32.format R18f := by decide +kernel
theorem share_val {x e K : Nat} (hx : x < 16777216) (hK : K = 24 + e) : x * 2 ^ e ≤ 2 ^ K := by
  subst hK
  rw [Nat.pow_add]
  exact Nat.mul_le_mul_right _ (by omega)
theorem share_in {k : Int} {a b : Nat} (hs : sOk k a b) : In .f32 R1f (some (shK k a b)) := by
  have hx := shK_lt (a := a) (b := b) hs.kind
  unfold shK
  generalize nxW k a b / 256 = x at *
  have h : shF x = FloatKind.f32.format.write (.number false x (-24)) := rfl
  rw [h]
  refine write_in (by omega) Rf_lt.1 ?_
  have hK := K0_eq
  have e1 : (-24 + (K0 : Int)).toNat = K0 - 24 := by omega
  have h1 := share_val (K := K0) (e := K0 - 24) hx (by omega)
  rw [← vr_1f] at h1
  unfold val
  rw [e1]
  exact h1
theorem in_two : In .f32 R2f (some 1073741824) := ⟨_, rfl, by decide +kernel⟩
theorem in_one : In .f32 R1f (some 1065353216) := ⟨_, rfl, by decide +kernel⟩
theorem in_av {R x : Nat} (h : In .f32 R (some x)) (hR : R < FloatKind.f32.format.infRung) : av .f32 x = some x := by
  obtain ⟨b, s, m, i, e, hr, _, _⟩ := h.read hR
  cases e
  exact av_some (k := .f32) (by rw [hr]; rfl)
def du (s : Nat) : Nat := (Ieee.single.sub ((Ieee.single.mul 1073741824 s).getD 0) 1065353216).getD 0
def qq (u v : Nat) : Nat := (Ieee.single.add ((Ieee.single.mul u u).getD 0) ((Ieee.single.mul v v).getD 0)).getD 0
structure DuV (s m u : Nat) : Prop where
  mul : Ieee.single.mul 1073741824 s = some m
  sub : Ieee.single.sub m 1065353216 = some u
structure SqV (u v p q r : Nat) : Prop where
  uu : Ieee.single.mul u u = some p
  vv : Ieee.single.mul v v = some q
  add : Ieee.single.add p q = some r
theorem du_of {s : Nat} (h : In .f32 R1f (some s)) : ∃ m, DuV s m (du s) ∧ In .f32 R3f (some (du s)) := by
  have l := Rf_lt
  have h1 := In.mul in_two h l.2.1 l.1 l.2.1 m_22
  obtain ⟨m, e1, _⟩ := id h1
  rw [e1] at h1
  have h2 := In.sub h1 in_one l.2.1 l.1 l.2.2.1 a_23
  obtain ⟨u, e2, _⟩ := id h2
  rw [e2] at h2
  have e1' : Ieee.single.mul 1073741824 s = some m := e1
  have e2' : Ieee.single.sub m 1065353216 = some u := e2
  have e3 : du s = u := by unfold du; rw [e1', Option.getD_some, e2']; rfl
  rw [e3]
  exact ⟨m, ⟨e1', e2'⟩, h2⟩
theorem qq_of {u v : Nat} (hu : In .f32 R3f (some u)) (hv : In .f32 R3f (some v)) : ∃ p q, SqV u v p q (qq u v) ∧ In .f32 R18f (some (qq u v)) := by
  have l := Rf_lt
  have h1 := In.mul hu hu l.2.2.1 l.2.2.1 l.2.2.2.1 m_39
  have h2 := In.mul hv hv l.2.2.1 l.2.2.1 l.2.2.2.1 m_39
  obtain ⟨p, e1, _⟩ := id h1
  obtain ⟨q, e2, _⟩ := id h2
  rw [e1] at h1
  rw [e2] at h2
  have h3 := In.add h1 h2 l.2.2.2.1 l.2.2.2.1 l.2.2.2.2 a_18
  obtain ⟨r, e3, _⟩ := id h3
  rw [e3] at h3
  have e1' : Ieee.single.mul u u = some p := e1
  have e2' : Ieee.single.mul v v = some q := e2
  have e3' : Ieee.single.add p q = some r := e3
  have e4 : qq u v = r := by unfold qq; rw [e1', e2', Option.getD_some, Option.getD_some, e3']; rfl
  rw [e4]
  exact ⟨p, q, ⟨e1', e2', e3'⟩, h3⟩
def uD (k : Int) (a b n : Nat) : Nat := du (shK k (sdK k a b (2 * n)).1 (sdK k a b (2 * n)).2)
def vD (k : Int) (a b n : Nat) : Nat := du (shK k (sdK k a b (2 * n + 1)).1 (sdK k a b (2 * n + 1)).2)
def qD (k : Int) (a b n : Nat) : Nat := qq (uD k a b n) (vD k a b n)
def hD (k : Int) (a b n : Nat) : Bool := FloatKind.f32.format.order (qD k a b n) 1065353216 == some Ordering.lt
/-- The first try within the disc, or 64. -/
def discN (k : Int) (a b N : Nat) : Prop := N ≤ 64 ∧ (∀ j, j < N → hD k a b j = false) ∧ (N < 64 → hD k a b N = true)
theorem disc_some (k : Int) (a b : Nat) : ∃ N, discN k a b N := by
  suffices H : ∀ m, m ≤ 64 → (∃ N, N < m ∧ hD k a b N = true ∧ ∀ j, j < N → hD k a b j = false) ∨ ∀ j, j < m → hD k a b j = false by
    rcases H 64 (Nat.le_refl _) with ⟨N, h1, h2, h3⟩ | h
    · exact ⟨N, by omega, h3, fun _ => h2⟩
    · exact ⟨64, Nat.le_refl _, h, fun h => absurd h (by omega)⟩
  intro m
  induction m with
  | zero => intro _; right; intro j hj; omega
  | succ m ih =>
    intro hm
    rcases ih (by omega) with ⟨N, h1, h2, h3⟩ | h
    · exact .inl ⟨N, by omega, h2, h3⟩
    · cases hb : hD k a b m with
      | true => exact .inl ⟨m, by omega, hb, h⟩
      | false =>
        right; intro j hj
        by_cases e : j = m
        · rw [e]; exact hb
        · exact h j (by omega)
theorem sdK_odd (k : Int) (a b n : Nat) : sdK k a b (2 * n + 1) = (nxA k (sdK k a b (2 * n)).1 (sdK k a b (2 * n)).2, nxB k (sdK k a b (2 * n)).1 (sdK k a b (2 * n)).2) := rfl
theorem sdK_even (k : Int) (a b n : Nat) : sdK k a b (2 * (n + 1)) = (nxA k (nxA k (sdK k a b (2 * n)).1 (sdK k a b (2 * n)).2) (nxB k (sdK k a b (2 * n)).1 (sdK k a b (2 * n)).2), nxB k (nxA k (sdK k a b (2 * n)).1 (sdK k a b (2 * n)).2) (nxB k (sdK k a b (2 * n)).1 (sdK k a b (2 * n)).2)) := rfl
structure TryD (k : Int) (a b n m1 m2 p q u v r : Nat) (A B : Nat) : Prop where
  fst : DuV (shK k A B) m1 u
  snd : DuV (shK k (nxA k A B) (nxB k A B)) m2 v
  sq : SqV u v p q r
  eu : uD k a b n = u
  ev : vD k a b n = v
  er : qD k a b n = r
  iu : In .f32 R3f (some u)
  iv : In .f32 R3f (some v)
  ir : In .f32 R18f (some r)
theorem tryD_of {k : Int} {a b n A B : Nat} (hs : sOk k a b) (hA : (sdK k a b (2 * n)).1 = A) (hB : (sdK k a b (2 * n)).2 = B) : ∃ m1 m2 p q u v r, TryD k a b n m1 m2 p q u v r A B := by
  have h0 := hs.sdK (2 * n)
  have h1 := hs.sdK (2 * n + 1)
  obtain ⟨m1, d1, i1⟩ := du_of (share_in h0)
  obtain ⟨m2, d2, i2⟩ := du_of (share_in h1)
  obtain ⟨p, q, s, i3⟩ := qq_of i1 i2
  subst hA hB
  exact ⟨m1, m2, p, q, _, _, _, d1, d2, s, rfl, rfl, rfl, i1, i2, i3⟩
theorem TryD.hit {k : Int} {a b n m1 m2 p q u v r A B : Nat} (h : TryD k a b n m1 m2 p q u v r A B) : (FloatKind.f32.format.order r 1065353216 == some Ordering.lt) = hD k a b n := by unfold hD; rw [h.er]
/-! ### The model's loop -/
def DiscP (g : Nat) (k : Int) (a b N : Nat) (w : World) (e : Ending) (w' : World) : Prop :=
  ((N < 64 ∧ e = .returned (.tuple #[.float .f32 (uD k a b N), .float .f32 (vD k a b N), .float .f32 (qD k a b N), .bool true]) ∧ Whole w' g 31 (sdC k (sdK k a b (2 * (N + 1))).1 (sdK k a b (2 * (N + 1))).2)) ∨ (N = 64 ∧ e = .returned (.tuple #[.float .f32 0, .float .f32 0, .float .f32 0, .bool false]))) ∧ w.grownBy w' (some g)
theorem DiscP.yes {g : Nat} {k : Int} {a b N u v r A B : Nat} {w w' : World} (hN : N < 64) (hu : uD k a b N = u) (hv : vD k a b N = v) (hr : qD k a b N = r) (hE : sdK k a b (2 * (N + 1)) = (A, B)) (hw : Whole w' g 31 (sdC k A B)) (hg : w.grownBy w' (some g)) : DiscP g k a b N w (.returned (.tuple #[.float .f32 u, .float .f32 v, .float .f32 r, .bool true])) w' := by
  subst hu hv hr
  refine ⟨.inl ⟨hN, rfl, ?_⟩, hg⟩
  rw [hE]; exact hw
set_option maxRecDepth 100000 in
set_option maxHeartbeats 4000000 in
theorem l04Disc_any (g : Nat) (k : Int) (a b N : Nat) (w : World) (hs : sOk k a b) (hN : discN k a b N) (hw : Whole w g 31 (sdC k a b)) :
    Calls Try.prog 60 #[.pointer (some ⟨g, 0, none⟩)] w (DiscP g k a b N w) := by
  have HS := Lib.hid hs
  have HW := Lib.hid hw
  have HN := Lib.hid hN
  clear hs hw hN
  go_enter Try.func60, Try.ntmps60
  go_wp2_with fail
  go_loopw [6] (fun i wr => ∃ n : Nat, n ≤ N ∧ i = .int .i64 n ∧ w.grownBy wr (some g) ∧ Whole wr g 31 (sdC k (sdK k a b (2 * n)).1 (sdK k a b (2 * n)).2)) (fun i _ => 64 - (intOf i).toNat)
  case atStart => exact ⟨0, Nat.zero_le _, rfl, grown_refl _ _, HW.out⟩
  case round =>
    obtain ⟨n, hn, rfl, hg, hq⟩ := hrel
    have H := Lib.hid (And.intro hg hq)
    clear hg hq HW
    have h64 := HN.out.1
    by_cases hlt : n < 64
    · have HO := Lib.hid (HS.out.sdK (2 * n))
      have HE := Lib.hid (sdK_even k a b n)
      obtain ⟨A, hA⟩ : ∃ A, (sdK k a b (2 * n)).1 = A := ⟨_, rfl⟩
      obtain ⟨B, hB⟩ : ∃ B, (sdK k a b (2 * n)).2 = B := ⟨_, rfl⟩
      obtain ⟨m1, m2, p, q, u, v, r, hT⟩ := tryD_of (n := n) HS.out hA hB
      have HT := Lib.hid hT
      rw [hA, hB] at HO HE H
      have h1 : ∀ (t : TypeId) (w : World), (binOp .mul t (.float .f32 1073741824) (.float .f32 (shK k A B))).run Try.prog w = .ok (.float .f32 m1) w := fun t w => run_float_arith w _ _ _ _ _ _ hT.fst.mul
      have h2 : ∀ (t : TypeId) (w : World), (binOp .sub t (.float .f32 m1) (.float .f32 1065353216)).run Try.prog w = .ok (.float .f32 u) w := fun t w => run_float_arith w _ _ _ _ _ _ hT.fst.sub
      have h3 : ∀ (t : TypeId) (w : World), (binOp .mul t (.float .f32 1073741824) (.float .f32 (shK k (nxA k A B) (nxB k A B)))).run Try.prog w = .ok (.float .f32 m2) w := fun t w => run_float_arith w _ _ _ _ _ _ hT.snd.mul
      have h4 : ∀ (t : TypeId) (w : World), (binOp .sub t (.float .f32 m2) (.float .f32 1065353216)).run Try.prog w = .ok (.float .f32 v) w := fun t w => run_float_arith w _ _ _ _ _ _ hT.snd.sub
      have h5 : ∀ (t : TypeId) (w : World), (binOp .mul t (.float .f32 u) (.float .f32 u)).run Try.prog w = .ok (.float .f32 p) w := fun t w => run_float_arith w _ _ _ _ _ _ hT.sq.uu
      have h6 : ∀ (t : TypeId) (w : World), (binOp .mul t (.float .f32 v) (.float .f32 v)).run Try.prog w = .ok (.float .f32 q) w := fun t w => run_float_arith w _ _ _ _ _ _ hT.sq.vv
      have h7 : ∀ (t : TypeId) (w : World), (binOp .add t (.float .f32 p) (.float .f32 q)).run Try.prog w = .ok (.float .f32 r) w := fun t w => run_float_arith w _ _ _ _ _ _ hT.sq.add
      have hnn : (n : Int) < 64 := by omega
      clear hA hB hT
      go_wp2_with (first | (go_at_call 57; fail))
      refine (l02Share_any _ _ _ _ _ HO.out H.out.2).mono ?_
      rintro e w2 ⟨rfl, q0, hg2⟩
      have H2 := Lib.hid (And.intro (grown_trans H.out.1 hg2) q0)
      clear q0 hg2 H
      go_wp2_with (first | (go_at_call 57; fail))
      refine (l02Share_any _ _ _ _ _ HO.out.next H2.out.2).mono ?_
      rintro e w3 ⟨rfl, q0, hg2⟩
      have H3 := Lib.hid (And.intro (grown_trans H2.out.1 hg2) q0)
      clear q0 hg2 H2
      cases hh : hD k a b n with
      | true =>
        have hq1 : (FloatKind.f32.format.order r 1065353216 == some Ordering.lt) = true := HT.out.hit.trans hh
        have HH := Lib.hid hh
        clear hh
        go_wp2_with fail
        have e : n = N := by
          rcases Nat.lt_or_ge n N with h | h
          · have := HN.out.2.1 n h; rw [HH.out] at this; cases this
          · omega
        subst e
        exact bodyPost_ret (v := .tuple #[.float .f32 u, .float .f32 v, .float .f32 r, .bool true]) (by simp [results, Try.results60, go_sem]) rfl (DiscP.yes hlt HT.out.eu HT.out.ev HT.out.er HE.out H3.out.2 H3.out.1)
      | false =>
        have hq1 : (FloatKind.f32.format.order r 1065353216 == some Ordering.lt) = false := HT.out.hit.trans hh
        have HH := Lib.hid hh
        clear hh
        go_wp2_with fail
        go_roundw
        case rel =>
          refine ⟨n + 1, ?_, by go_num, H3.out.1, ?_⟩
          · rcases Nat.lt_or_ge n N with h | h
            · exact h
            · obtain rfl : n = N := by omega
              have := HN.out.2.2 hlt; rw [HH.out] at this; cases this
          · rw [HE.out]; exact H3.out.2
        case measure => simp [intOf]; omega
    · obtain rfl : n = 64 := by omega
      go_wp2_with fail
      exact bodyPost_ret (v := .tuple #[.float .f32 0, .float .f32 0, .float .f32 0, .bool false]) (by simp [results, Try.results60, go_sem]) rfl ⟨.inr ⟨by omega, rfl⟩, H.out.1⟩
/-! ### The code's loop -/
def SharedE (g : Nat) (k : Int) (a b : Nat) (w : World) (e : Ending) (w' : World) : Prop :=
  e = .returned (.float .f32 (shK k a b)) ∧ Whole w' g 78 (sdC k (nxA k a b) (nxB k a b)) ∧ w.grownBy w' (some g)
set_option maxHeartbeats 1000000 in
theorem shareE_any (g : Nat) (k : Int) (a b : Nat) (w : World) (hs : sOk k a b) (hw : Whole w g 78 (sdC k a b)) :
    Calls Try.prog 62 #[.pointer (some ⟨g, 0, none⟩)] w (SharedE g k a b w) := by
  have HS := Lib.hid hs
  have HW := Lib.hid hw
  obtain ⟨hc0, hf0⟩ := hw.facts
  have hz := hw.lt
  clear hs hw
  go_enter Try.func62, Try.ntmps62
  go_wp2_with (first | (go_at_call 98; fail))
  refine (implShare_yes _ _ _ _ HS.out).mono ?_
  rintro e w1 ⟨rfl, hb⟩
  have H1 := Lib.hid (And.intro (HW.out.below hb) (grown_below (row := some g) hb))
  clear hc0 hf0 hz hb
  obtain ⟨hc0, hf0⟩ := H1.out.1.facts
  have hz := H1.out.1.lt
  go_wp2_with fail
  go_ret
  exact ⟨rfl, (((H1.out.1.put 0 _).put 1 _).put 2 _).alloc _, grown_trans H1.out.2 (grown_trans (grown_put (grown_put (grown_set w1 g 0 _) 1 _) 2 _) (grown_below (Below.alloc (Below.refl _ _) (Nat.le_refl _) _)))⟩
set_option maxHeartbeats 1000000 in
theorem shareE_not (g : Nat) (k : Int) (a b : Nat) (w : World) (hs : vSeed k a b = false) (hw : Whole w g 78 (sdC k a b)) :
    Calls Try.prog 62 #[.pointer (some ⟨g, 0, none⟩)] w (fun e w' => e = .returned (.float .f32 0) ∧ Whole w' g 78 (sdC 0 0 0) ∧ w.grownBy w' (some g)) := by
  have HS := Lib.hid hs
  have HW := Lib.hid hw
  obtain ⟨hc0, hf0⟩ := hw.facts
  have hz := hw.lt
  clear hs hw
  go_enter Try.func62, Try.ntmps62
  go_wp2_with (first | (go_at_call 98; fail))
  refine (implShare_no _ _ _ _ HS.out).mono ?_
  rintro e w1 ⟨rfl, hb⟩
  have H1 := Lib.hid (And.intro (HW.out.below hb) (grown_below (row := some g) hb))
  clear hc0 hf0 hz hb
  obtain ⟨hc0, hf0⟩ := H1.out.1.facts
  have hz := H1.out.1.lt
  go_wp2_with fail
  go_ret
  exact ⟨rfl, (((H1.out.1.put 0 _).put 1 _).put 2 _).alloc _, grown_trans H1.out.2 (grown_trans (grown_put (grown_put (grown_set w1 g 0 _) 1 _) 2 _) (grown_below (Below.alloc (Below.refl _ _) (Nat.le_refl _) _)))⟩
theorem squares_any (u v p q r : Nat) (h : SqV u v p q r) (w : World) : Calls Try.prog 64 #[.float .f32 u, .float .f32 v] w (fun e w' => e = .returned (.float .f32 r) ∧ w = w') := by
  have h5 : ∀ (t : TypeId) (w : World), (binOp .mul t (.float .f32 u) (.float .f32 u)).run Try.prog w = .ok (.float .f32 p) w := fun t w => run_float_arith w _ _ _ _ _ _ h.uu
  have h6 : ∀ (t : TypeId) (w : World), (binOp .mul t (.float .f32 v) (.float .f32 v)).run Try.prog w = .ok (.float .f32 q) w := fun t w => run_float_arith w _ _ _ _ _ _ h.vv
  have h7 : ∀ (t : TypeId) (w : World), (binOp .add t (.float .f32 p) (.float .f32 q)).run Try.prog w = .ok (.float .f32 r) w := fun t w => run_float_arith w _ _ _ _ _ _ h.add
  clear h
  go_enter Try.func64, Try.ntmps64
  go_wp2_with fail
  go_ret
  exact ⟨rfl, rfl⟩
def PtP (g : Nat) (k : Int) (a b N : Nat) (w : World) (e : Ending) (w' : World) : Prop :=
  ((N < 64 ∧ e = .returned (.tuple #[.complex .f32 (uD k a b N) (vD k a b N), .bool true]) ∧ Whole w' g 78 (sdC k (sdK k a b (2 * (N + 1))).1 (sdK k a b (2 * (N + 1))).2)) ∨ (N = 64 ∧ e = .returned (.tuple #[.complex .f32 0 0, .bool false]))) ∧ w.grownBy w' (some g)
theorem PtP.yes {g : Nat} {k : Int} {a b N u v A B : Nat} {w w' : World} (hN : N < 64) (hu : uD k a b N = u) (hv : vD k a b N = v) (hE : sdK k a b (2 * (N + 1)) = (A, B)) (hw : Whole w' g 78 (sdC k A B)) (hg : w.grownBy w' (some g)) : PtP g k a b N w (.returned (.tuple #[.complex .f32 u v, .bool true])) w' := by
  subst hu hv
  refine ⟨.inl ⟨hN, rfl, ?_⟩, hg⟩
  rw [hE]; exact hw
set_option maxRecDepth 100000 in
set_option maxHeartbeats 4000000 in
theorem pointIn_any (g : Nat) (k : Int) (a b N : Nat) (w : World) (hs : sOk k a b) (hN : discN k a b N) (hw : Whole w g 78 (sdC k a b)) :
    Calls Try.prog 61 #[.func (.func 62) #[.pointer (some ⟨g, 0, none⟩)] #[]] w (PtP g k a b N w) := by
  have HS := Lib.hid hs
  have HW := Lib.hid hw
  have HN := Lib.hid hN
  clear hs hw hN
  go_enter Try.func61, Try.ntmps61
  go_wp2_with fail
  go_loopw [6] (fun i wr => ∃ n : Nat, n ≤ N ∧ i = .int .i64 n ∧ w.grownBy wr (some g) ∧ Whole wr g 78 (sdC k (sdK k a b (2 * n)).1 (sdK k a b (2 * n)).2)) (fun i _ => 64 - (intOf i).toNat)
  case atStart => exact ⟨0, Nat.zero_le _, rfl, grown_refl _ _, HW.out⟩
  case round =>
    obtain ⟨n, hn, rfl, hg, hq⟩ := hrel
    have H := Lib.hid (And.intro hg hq)
    clear hg hq HW
    have h64 := HN.out.1
    by_cases hlt : n < 64
    · have HO := Lib.hid (HS.out.sdK (2 * n))
      have HE := Lib.hid (sdK_even k a b n)
      obtain ⟨A, hA⟩ : ∃ A, (sdK k a b (2 * n)).1 = A := ⟨_, rfl⟩
      obtain ⟨B, hB⟩ : ∃ B, (sdK k a b (2 * n)).2 = B := ⟨_, rfl⟩
      obtain ⟨m1, m2, p, q, u, v, r, hT⟩ := tryD_of (n := n) HS.out hA hB
      have HT := Lib.hid hT
      rw [hA, hB] at HO HE H
      have h1 : ∀ (t : TypeId) (w : World), (binOp .mul t (.float .f32 1073741824) (.float .f32 (shK k A B))).run Try.prog w = .ok (.float .f32 m1) w := fun t w => run_float_arith w _ _ _ _ _ _ hT.fst.mul
      have h2 : ∀ (t : TypeId) (w : World), (binOp .sub t (.float .f32 m1) (.float .f32 1065353216)).run Try.prog w = .ok (.float .f32 u) w := fun t w => run_float_arith w _ _ _ _ _ _ hT.fst.sub
      have h3 : ∀ (t : TypeId) (w : World), (binOp .mul t (.float .f32 1073741824) (.float .f32 (shK k (nxA k A B) (nxB k A B)))).run Try.prog w = .ok (.float .f32 m2) w := fun t w => run_float_arith w _ _ _ _ _ _ hT.snd.mul
      have h4 : ∀ (t : TypeId) (w : World), (binOp .sub t (.float .f32 m2) (.float .f32 1065353216)).run Try.prog w = .ok (.float .f32 v) w := fun t w => run_float_arith w _ _ _ _ _ _ hT.snd.sub
      have hnn : (n : Int) < 64 := by omega
      clear hA hB hT
      go_wp2_with (first | (go_at_call 62; fail))
      refine (shareE_any _ _ _ _ _ HO.out H.out.2).mono ?_
      rintro e w2 ⟨rfl, q0, hg2⟩
      have H2 := Lib.hid (And.intro (grown_trans H.out.1 hg2) q0)
      clear q0 hg2 H
      go_wp2_with (first | (go_at_call 62; fail))
      refine (shareE_any _ _ _ _ _ HO.out.next H2.out.2).mono ?_
      rintro e w3 ⟨rfl, q0, hg2⟩
      have H3 := Lib.hid (And.intro (grown_trans H2.out.1 hg2) q0)
      clear q0 hg2 H2
      cases hh : hD k a b n with
      | true =>
        have hq1 : (FloatKind.f32.format.order r 1065353216 == some Ordering.lt) = true := HT.out.hit.trans hh
        have HH := Lib.hid hh
        clear hh
        go_wp2_with (first | (go_at_call 64; refine (squares_any u v p q r HT.out.sq _).mono ?_; rintro e w4 ⟨rfl, rfl⟩))
        go_ret2
        have e : n = N := by
          rcases Nat.lt_or_ge n N with h | h
          · have := HN.out.2.1 n h; rw [HH.out] at this; cases this
          · omega
        subst e
        exact PtP.yes hlt HT.out.eu HT.out.ev HE.out H3.out.2 H3.out.1
      | false =>
        have hq1 : (FloatKind.f32.format.order r 1065353216 == some Ordering.lt) = false := HT.out.hit.trans hh
        have HH := Lib.hid hh
        clear hh
        go_wp2_with (first | (go_at_call 64; refine (squares_any u v p q r HT.out.sq _).mono ?_; rintro e w4 ⟨rfl, rfl⟩))
        go_roundw
        case rel =>
          refine ⟨n + 1, ?_, by go_num, H3.out.1, ?_⟩
          · rcases Nat.lt_or_ge n N with h | h
            · exact h
            · obtain rfl : n = N := by omega
              have := HN.out.2.2 hlt; rw [HH.out] at this; cases this
          · rw [HE.out]; exact H3.out.2
        case measure => simp [intOf]; omega
    · obtain rfl : n = 64 := by omega
      go_wp2_with fail
      go_ret2
      exact ⟨.inr ⟨by omega, rfl⟩, H.out.1⟩
theorem minus_one : DuV 0 0 3212836864 := ⟨by decide +kernel, by decide +kernel⟩
theorem two_sq : SqV 3212836864 3212836864 1065353216 1065353216 1073741824 := ⟨by decide +kernel, by decide +kernel, by decide +kernel⟩
theorem two_gt : (FloatKind.f32.format.order 1073741824 1065353216 == some Ordering.lt) = false := by decide +kernel
theorem vSeed_zero : vSeed 0 0 0 = false := by decide +kernel
set_option maxRecDepth 100000 in
set_option maxHeartbeats 4000000 in
theorem pointIn_not (g : Nat) (k : Int) (a b : Nat) (w : World) (hs : vSeed k a b = false) (hw : Whole w g 78 (sdC k a b)) :
    Calls Try.prog 61 #[.func (.func 62) #[.pointer (some ⟨g, 0, none⟩)] #[]] w (fun e w' => e = .returned (.tuple #[.complex .f32 0 0, .bool false]) ∧ w.grownBy w' (some g)) := by
  have HS := Lib.hid hs
  have HW := Lib.hid hw
  clear hs hw
  have h1 : ∀ (t : TypeId) (w : World), (binOp .mul t (.float .f32 1073741824) (.float .f32 0)).run Try.prog w = .ok (.float .f32 0) w := fun t w => run_float_arith w _ _ _ _ _ _ minus_one.mul
  have h2 : ∀ (t : TypeId) (w : World), (binOp .sub t (.float .f32 0) (.float .f32 1065353216)).run Try.prog w = .ok (.float .f32 3212836864) w := fun t w => run_float_arith w _ _ _ _ _ _ minus_one.sub
  have hq1 := two_gt
  go_enter Try.func61, Try.ntmps61
  go_wp2_with fail
  go_loopw [6] (fun i wr => ∃ n : Nat, n ≤ 64 ∧ i = .int .i64 n ∧ w.grownBy wr (some g) ∧ ∃ l A B, vSeed l A B = false ∧ Whole wr g 78 (sdC l A B)) (fun i _ => 64 - (intOf i).toNat)
  case atStart => exact ⟨0, Nat.zero_le _, rfl, grown_refl _ _, k, a, b, HS.out, HW.out⟩
  case round =>
    obtain ⟨n, hn, rfl, hg, l, A, B, hv, hq⟩ := hrel
    have H := Lib.hid (And.intro hg (And.intro hv hq))
    clear hg hq hv HW HS
    by_cases hlt : n < 64
    · have hnn : (n : Int) < 64 := by omega
      go_wp2_with (first | (go_at_call 62; fail))
      refine (shareE_not _ _ _ _ _ H.out.2.1 H.out.2.2).mono ?_
      rintro e w2 ⟨rfl, q0, hg2⟩
      have H2 := Lib.hid (And.intro (grown_trans H.out.1 hg2) q0)
      clear q0 hg2 H
      go_wp2_with (first | (go_at_call 62; fail))
      refine (shareE_not _ _ _ _ _ vSeed_zero H2.out.2).mono ?_
      rintro e w3 ⟨rfl, q0, hg2⟩
      have H3 := Lib.hid (And.intro (grown_trans H2.out.1 hg2) q0)
      clear q0 hg2 H2
      go_wp2_with (first | (go_at_call 64; refine (squares_any _ _ _ _ _ two_sq _).mono ?_; rintro e w4 ⟨rfl, rfl⟩))
      go_roundw
      case rel => exact ⟨n + 1, hlt, by go_num, H3.out.1, 0, 0, 0, vSeed_zero, H3.out.2⟩
      case measure => simp [intOf]; omega
    · obtain rfl : n = 64 := by omega
      go_wp2_with fail
      go_ret2
      exact ⟨rfl, H.out.1⟩
end Go.Proofs.Yticmnkgcolgpaaa
