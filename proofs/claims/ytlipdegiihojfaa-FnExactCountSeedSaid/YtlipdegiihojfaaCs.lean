/- Counts with a mean: CountSeed. -/
import Derived.Test.YtlipdegiihojfaaEx
namespace Go.Proofs.Ytlipdegiihojfaa
open Go Go.RowKit Fl
set_option linter.unusedVariables false

/-! ### Plain facts -/
theorem read_neg {b : Nat} {s : Bool} {m : Nat} {i : Int} (h : Ieee.single.read b = .number s m i) : ∃ s', Ieee.single.read (Op.negFloat .f32 b) = .number s' m i := by
  have hm : Op.negFloat .f32 b % Ieee.single.signWeight = b % Ieee.single.signWeight := ngm .f32 b
  unfold Ieee.Format.read at h ⊢
  simp only [hm]
  simp only [] at h
  split at h
  · rename_i h1; rw [if_pos h1]; cases h; exact ⟨_, rfl⟩
  · split at h
    · rename_i h1 h2; rw [if_neg h1, if_pos h2]; cases h; exact ⟨_, rfl⟩
    · split at h <;> cases h
theorem read32 : Ieee.single.read 1107296256 = .number false 8388608 (-18) := by decide +kernel
theorem val32 : val 8388608 (-18) = 2 ^ (5 + K0) := by decide +kernel
theorem ord_gt2 {x y : Nat} {m n : Nat} {i j : Int} (hx : Ieee.single.read x = .number false m i) (hy : Ieee.single.read y = .number false n j) (hi : -4000 ≤ i) (hj : -4000 ≤ j) (h : val n j < val m i) : FloatKind.f32.format.order x y = some .gt := by
  show Ieee.single.order x y = _
  unfold Ieee.Format.order
  rw [hx, hy]
  show (Ieee.Datum.number false m i).order (.number false n j) = _
  rw [order_number false false m n i j (min i j) (by omega) (by omega), compare_int]
  rw [← scale_val m i (min i j) (by omega) (by omega), ← scale_val n j (min i j) (by omega) (by omega)] at h
  have h' := Nat.lt_of_mul_lt_mul_right h
  rw [sgn_f, sgn_f, Nat.shiftLeft_eq, Nat.shiftLeft_eq]
  generalize m * 2 ^ (i - min i j).toNat = X at *
  generalize n * 2 ^ (j - min i j).toNat = Y at *
  rw [if_neg (by omega), if_neg (by omega)]
/-- From 0 to 32. -/
def meanB (x : Nat) : Bool := geB x 0 && leB x 1107296256
theorem mean_small {x : Nat} (h : meanB x = true) : Small (Op.negFloat .f32 x) := by
  unfold meanB at h
  rw [Bool.and_eq_true] at h
  obtain ⟨h1, h2⟩ := h
  have key : ∀ s m i, Ieee.single.read x = .number s m i → val m i ≤ 2 ^ (5 + K0) := by
    intro s m i e
    by_cases h0 : m = 0
    · subst h0; unfold val; rw [Nat.zero_mul]; exact Nat.zero_le _
    · have hs : s = false := by
        unfold geB at h1
        rw [ord0_num e, if_neg h0] at h1
        cases s with
        | false => rfl
        | true => cases h1
      subst hs
      rcases Nat.lt_or_ge (2 ^ (5 + K0)) (val m i) with hlt | hge
      · exfalso
        rw [← val32] at hlt
        have ho := ord_gt2 e read32 (by have := read_ge e; omega) (by omega) hlt
        unfold leB at h2
        rw [ho] at h2
        cases h2
      · exact hge
  rcases read_single x with ⟨s, m, i, e, _⟩ | ⟨s, e⟩ | ⟨s, f, e⟩
  · obtain ⟨s', e'⟩ := read_neg e
    exact ⟨s', m, i, e', key s m i e⟩
  · exfalso
    have e0 : FloatKind.f32.format.order x 0 = some (if s = true then .lt else .gt) := ord0_inf e
    have e9 : FloatKind.f32.format.order x 1107296256 = some (if s = true then .lt else .gt) := by
      show Ieee.single.order x 1107296256 = _
      unfold Ieee.Format.order
      rw [e, read32]; rfl
    unfold geB at h1; unfold leB at h2
    rw [e0] at h1; rw [e9] at h2
    cases s
    · cases h2
    · cases h1
  · exfalso
    have e0 : FloatKind.f32.format.order x 0 = none := by
      show Ieee.single.order x 0 = none
      unfold Ieee.Format.order
      exact order_nan_l (by rw [e]; rfl)
    unfold geB at h1
    rw [e0] at h1; cases h1
def R1 : Nat := 1065353216
theorem R1_lt : R1 < FloatKind.f32.format.infRung := by decide +kernel
theorem vr_1 : vr Ieee.single R1 = 2 ^ K0 := by decide +kernel
theorem oml_in {k : Int} {a b : Nat} (hs : sOk k a b) : In .f32 R1 (some (oml (shK k a b))) := by
  have hx := shK_lt (a := a) (b := b) hs.kind
  have hK := K0_eq
  have hs1 : Ieee.single.sub 1065353216 (shK k a b) = some (oml (shK k a b)) := oml_is hs
  unfold Ieee.Format.sub shK at hs1
  rw [read1_32] at hs1
  have hu : ∃ m i, Ieee.single.read (shF (nxW k a b / 256)) = .number false m i ∧ -149 ≤ i ∧ val m i ≤ 2 ^ K0 := by
    by_cases h0 : nxW k a b / 256 = 0
    · rw [h0]
      exact ⟨0, -149, by decide +kernel, by omega, by unfold val; rw [Nat.zero_mul]; exact Nat.zero_le _⟩
    · have hl := log2_le23 h0 hx
      have hr := read1_nearest_exact false (nxW k a b / 256) (-24) h0 hl (by omega) (by omega)
      refine ⟨_, _, hr, by omega, ?_⟩
      unfold val
      rw [Nat.shiftLeft_eq, Nat.mul_assoc, ← Nat.pow_add]
      have e : 23 - (nxW k a b / 256).log2 + (-24 + ((nxW k a b / 256).log2 : Int) - 23 + (K0 : Int)).toNat = K0 - 24 := by omega
      rw [e]
      have e2 : 2 ^ K0 = 16777216 * 2 ^ (K0 - 24) := by
        have : K0 = 24 + (K0 - 24) := by omega
        have e3 : (2 : Nat) ^ 24 = 16777216 := rfl
        rw [← e3, ← Nat.pow_add, ← this]
      rw [e2]
      exact Nat.mul_le_mul_right _ (by clear e e2 hr hs1; omega)
  obtain ⟨m, i, hr, hi, hv⟩ := hu
  rw [hr] at hs1
  show In .f32 R1 (some (oml (shF (nxW k a b / 256))))
  rw [← hs1]
  show In .f32 R1 (((Ieee.Datum.number false 8388608 (-23)).sum (.number true m i)).map Ieee.single.write)
  unfold Ieee.Datum.sum
  simp only [Option.map_some]
  refine write_in (k := .f32) (by omega) R1_lt ?_
  show val _ _ ≤ vr Ieee.single R1
  rw [vr_1]
  have hv1 : val 8388608 (-23) = 2 ^ K0 := by decide +kernel
  rw [← scale_val 8388608 (-23) (min (-23) i) (by omega) (by omega)] at hv1
  rw [← scale_val m i (min (-23) i) (by omega) (by omega), ← hv1] at hv
  have hv' := Nat.le_of_mul_le_mul_right hv (Nat.two_pow_pos _)
  rw [← hv1]
  show _ * _ ≤ _ * _
  refine Nat.mul_le_mul_right _ ?_
  rw [sgn_f, sgn_t, Nat.shiftLeft_eq, Nat.shiftLeft_eq]
  generalize 8388608 * 2 ^ (-23 - min (-23) i).toNat = X at *
  generalize m * 2 ^ (i - min (-23) i).toNat = Y at *
  clear hv hv1 hr hs1 hx hK
  omega
/-- The product of the first n numbers. -/
def prodV (k : Int) (a b : Nat) : Nat → Option Nat
  | 0 => some 1065353216
  | n + 1 => aop .mul .f32 (prodV k a b n) (av .f32 (oml (shK k (sdK k a b n).1 (sdK k a b n).2)))
theorem mulR1 {u v : Option Nat} (hu : In .f32 R1 u) (hv : In .f32 R1 v) : In .f32 R1 (aop .mul .f32 u v) := by
  have l := R1_lt
  have e : vr Ieee.single R1 * vr Ieee.single R1 ≤ vr Ieee.single R1 * 2 ^ K0 := by rw [vr_1]; exact Nat.le_refl _
  generalize R1 = a at *
  exact In.mul hu hv l l l e
theorem prod_in {k : Int} {a b : Nat} (hs : sOk k a b) : ∀ n, In .f32 R1 (prodV k a b n)
  | 0 => ⟨_, rfl, by decide +kernel⟩
  | n + 1 => by
    have ih := prod_in hs n
    have ho := oml_in (hs.sdK n)
    have ha : av .f32 (oml (shK k (sdK k a b n).1 (sdK k a b n).2)) = some (oml (shK k (sdK k a b n).1 (sdK k a b n).2)) := by
      obtain ⟨c, s, m, i, e1, e2, _, _⟩ := In.read ho R1_lt
      cases e1
      exact av_num e2
    have e : prodV k a b (n + 1) = aop .mul .f32 (prodV k a b n) (av .f32 (oml (shK k (sdK k a b n).1 (sdK k a b n).2))) := rfl
    rw [e, ha]
    exact mulR1 ih ho
theorem ge_nlt {x y : Nat} (h : Ieee.single.order x y ≠ none) : geB x y = !ltB x y := by
  unfold geB ltB
  have e : FloatKind.f32.format.order x y = Ieee.single.order x y := rfl
  rw [e]
  cases ho : Ieee.single.order x y with
  | none => exact absurd ho h
  | some o => cases o <;> rfl
theorem ord_any {x y : Nat} (hx : (Ieee.single.read x).isNaN = false) (hy : (Ieee.single.read y).isNaN = false) : Ieee.single.order x y ≠ none := by
  unfold Ieee.Format.order
  cases h1 : Ieee.single.read x <;> cases h2 : Ieee.single.read y <;> rw [h1] at hx <;> rw [h2] at hy <;> first | (cases hx; done) | (cases hy; done) | (simp [Ieee.Datum.order])
/-- Is the product, after n + 1 shares, less than the least one? -/
def ltV (u v : Option Nat) : Bool := aord .f32 u v == some Ordering.lt
def hitAt (k : Int) (a b x n : Nat) : Bool := ltV (prodV k a b (n + 1)) (narrow (expW x))
theorem hit_of {k : Int} {a b x n r l : Nat} (hr : Fv .f32 (prodV k a b (n + 1)) r) (hl : Fv .f32 (narrow (expW x)) l) : (FloatKind.f32.format.order r l == some Ordering.lt) = hitAt k a b x n := by
  rw [aord_order, hr.2, hl.2]; rfl
theorem hit_ge {k : Int} {a b x n r l : Nat} (hs : sOk k a b) (hx : Small x) (hr : Fv .f32 (prodV k a b (n + 1)) r) (hl : Fv .f32 (narrow (expW x)) l) : (FloatKind.f32.format.order r l == some Ordering.gt || FloatKind.f32.format.order r l == some Ordering.eq) = !hitAt k a b x n := by
  obtain ⟨c, s, m, i, e1, e2, _, _⟩ := In.read (prod_in hs (n + 1)) R1_lt
  obtain ⟨L, h1, h2⟩ := expW_num hx
  have er : r = c := av_eq (hr.2.trans e1)
  have el : l = L := av_eq (hl.2.trans h1)
  have hn : (Ieee.single.read l).isNaN = false := by rw [el]; exact av_notNaN (k := .f32) h2
  have hm : (Ieee.single.read r).isNaN = false := by rw [er]; exact (congrArg Ieee.Datum.isNaN e2)
  have := ge_nlt (ord_any hm hn)
  rw [← hit_of hr hl]
  exact this
theorem av1_32 : av .f32 1065353216 = some 1065353216 := by decide +kernel
theorem prod_step {k : Int} {a b n r f : Nat} (hr : Fv .f32 (prodV k a b n) r) (h : Fv .f32 (aop .mul .f32 (av .f32 r) (av .f32 (oml (shK k (sdK k a b n).1 (sdK k a b n).2)))) f) : Fv .f32 (prodV k a b (n + 1)) f := by
  have e : prodV k a b (n + 1) = aop .mul .f32 (prodV k a b n) (av .f32 (oml (shK k (sdK k a b n).1 (sdK k a b n).2))) := rfl
  rw [e, ← hr.2]; exact h
/-- The count: the first hit, before which there is none. -/
def cntC (k : Int) (a b x n : Nat) : Prop := n < 256 ∧ hitAt k a b x n = true ∧ ∀ j, j < n → hitAt k a b x j = false
/-- What it returns: the count, or none. -/
def CntR (k : Int) (a b x : Nat) (w : World) (e : Ending) (w' : World) : Prop :=
  (∃ n, cntC k a b x n ∧ e = .returned (.tuple #[sd k (sdK k a b (n + 1)).1 (sdK k a b (n + 1)).2, .int .i64 n, .bool true])) ∧ Below w.heap.size w w' ∨ ((∀ j, j < 256 → hitAt k a b x j = false) ∧ e = .returned (.tuple #[sd 0 0 0, .int .i64 0, .bool false])) ∧ Below w.heap.size w w'
theorem CntR.yes {k : Int} {a b x : Nat} {w w' : World} {A B : Nat} (n : Nat) (h : cntC k a b x n) (hA : (sdK k a b (n + 1)).1 = A) (hB : (sdK k a b (n + 1)).2 = B) (hw : Below w.heap.size w w') : CntR k a b x w (.returned (.tuple #[sd k A B, .int .i64 n, .bool true])) w' := by
  subst hA hB; exact .inl ⟨⟨n, h, rfl⟩, hw⟩
theorem CntR.no {k : Int} {a b x : Nat} {w w' : World} (h : ∀ j, j < 256 → hitAt k a b x j = false) (hw : Below w.heap.size w w') : CntR k a b x w (.returned (.tuple #[sd 0 0 0, .int .i64 0, .bool false])) w' := .inr ⟨⟨h, rfl⟩, hw⟩
set_option maxRecDepth 100000 in
set_option maxHeartbeats 2000000 in
theorem implCount_in (k : Int) (a b y : Nat) (w : World) (hs : sOk k a b) (hy : meanB y = true) :
    Calls Try.prog 20 #[sd k a b, .float .f32 y] w (CntR k a b (Op.negFloat .f32 y) w) := by
  have HS := Lib.hid hs
  have HY := Lib.hid (show (geB y 0 && leB y 1107296256) = true from hy)
  have HX := Lib.hid (mean_small hy)
  clear hs hy
  go_enter Try.func20, Try.ntmps20
  go_wp2_with fail
  refine (ValidSeed_any _ _ _ _).mono ?_
  rintro e w1 ⟨rfl, rfl⟩
  rw [HS.out.1]
  go_wp2_with (first | (go_at_call 62; fail))
  refine (isWithin_any _ _ _ _).mono ?_
  rintro e w' ⟨rfl, rfl⟩
  rw [HY.out]
  go_wp2_with (first | (go_at_call 67; fail))
  generalize Op.negFloat .f32 y = x at *
  refine (implExp_any x HX.out _).mono ?_
  rintro e w' ⟨l, nl, rfl, hl, rfl⟩
  have HL := Lib.hid hl
  clear hl
  generalize hW : World.drewN (World.alloc (World.alloc (World.alloc _ _) _) _) _ = w0
  have hH : Below w.heap.size w w0 ∧ Whole w0 w.heap.size 26 (sdC k a b) ∧ Whole w0 (w.heap.size + 1) 26 (sdC 0 0 0) := by
    rw [← hW]
    exact ⟨Bel_drewN ((by repeat (first | with_reducible exact Below.refl _ _ | with_reducible exact HBL | with_reducible refine Below.drew ?_ | with_reducible refine Bel_drewN ?_ _ | with_reducible refine Below.alloc ?_ (by first | omega | (simp; done) | (simp; omega)) _ | with_reducible refine Below.setCell ?_ (by first | omega | (simp; done) | (simp; omega)) _))) _, ((((Whole.made _ _ _).alloc _).alloc _)).drewN _, ((Whole.made2 _ _ _ _).alloc _).drewN _⟩
  have H0 := Lib.hid hH
  clear hH hW HY
  go_wp2_with fail
  go_loopw [7, 23] (fun p i wr => ∃ n : Nat, n ≤ 256 ∧ i = .int .i64 n ∧ (∀ j, j < n → hitAt k a b x j = false) ∧ (∃ r, p = .float .f32 r ∧ Fv .f32 (prodV k a b n) r) ∧ Below w.heap.size w wr ∧ Whole wr w.heap.size 26 (sdC k (sdK k a b n).1 (sdK k a b n).2) ∧ Whole wr (w.heap.size + 1) 26 (sdC 0 0 0)) (fun _ i _ => 256 - (intOf i).toNat)
  case atStart => exact ⟨0, Nat.zero_le _, rfl, fun j hj => absurd hj (Nat.not_lt_zero _), ⟨_, rfl, ⟨by decide, av1_32⟩⟩, H0.out⟩
  case round =>
    obtain ⟨n, hn, rfl, hall, ⟨r, rfl, hr⟩, hbel, q0, q1⟩ := hrel
    clear H0
    have H := Lib.hid (And.intro hbel (And.intro q0 q1))
    have HR := Lib.hid (And.intro hr hall)
    have hz0 := q0.lt
    have hz1 := q1.lt
    obtain ⟨hc0, hf0⟩ := q0.facts
    obtain ⟨hc1, hf1⟩ := q1.facts
    clear hbel q0 q1 hr hall
    by_cases hlt : n < 256
    · have HJ := Lib.hid (HS.out.sdK n)
      have HE : Hid (sdK k a b (n + 1) = (nxA k (sdK k a b n).1 (sdK k a b n).2, nxB k (sdK k a b n).1 (sdK k a b n).2)) := Lib.hid rfl
      have HP : Hid (∀ {r f : Nat}, Fv .f32 (prodV k a b n) r → Fv .f32 (aop .mul .f32 (av .f32 r) (av .f32 (oml (shK k (sdK k a b n).1 (sdK k a b n).2)))) f → Fv .f32 (prodV k a b (n + 1)) f) := Lib.hid prod_step
      have hm : ∀ (t : TypeId) (w : World), (binOp .sub t (.float .f32 1065353216) (.float .f32 (shK k (sdK k a b n).1 (sdK k a b n).2))).run Try.prog w = .ok (.float .f32 (oml (shK k (sdK k a b n).1 (sdK k a b n).2))) w := fun t w => oml_run HJ.out t w
      generalize (sdK k a b n).1 = A at *
      generalize (sdK k a b n).2 = B at *
      generalize oml (shK k A B) = c at *
      clear hc1 hf1
      have hnn : (n : Int) < 256 := by omega
      go_wp2_with (first | (go_at_call 63; fail))
      clear hc0 hf0
      refine (drawShare_any _ _ _ _ HJ.out).mono ?_
      rintro e w2 ⟨rfl, hb2⟩
      have r0 := H.out.2.1.below hb2
      have r1 := H.out.2.2.below hb2
      obtain ⟨hc0, hf0⟩ := r0.facts
      obtain ⟨hc1, hf1⟩ := r1.facts
      have hz2 := r0.lt
      have hz3 := r1.lt
      have H2 := Lib.hid (And.intro (Bel_next H.out.1 hb2) (And.intro r0 r1))
      clear hb2 r0 r1 H
      cases hh : hitAt k a b x n with
      | true =>
        have HH := Lib.hid hh
        clear hh
        go_wp2_with (first | (refine wpList_farith (dst := some 34) _ _ _ _ _ .f32 _ _ rfl rfl rfl ?_; intro f nf hf; have ht := (hit_of (HP.out HR.out.1 hf) HL.out).trans HH.out; clear hf))
        obtain ⟨HBL, q0, q1⟩ := H2.out
        exact bodyPost_ret (v := .tuple #[sd k (nxA k A B) (nxB k A B), .int .i64 n, .bool true]) (by simp [results, Try.results20, go_sem, hc1]) rfl (CntR.yes n ⟨hlt, HH.out, HR.out.2⟩ (by rw [HE.out]) (by rw [HE.out]) (by first | exact (by repeat (first | with_reducible exact Below.refl _ _ | with_reducible exact HBL | with_reducible refine Below.drew ?_ | with_reducible refine Bel_drewN ?_ _ | with_reducible refine Below.alloc ?_ (by first | omega | (simp; done) | (simp; omega)) _ | with_reducible refine Below.setCell ?_ (by first | omega | (simp; done) | (simp; omega)) _)) | exact Bel_drewN ((by repeat (first | with_reducible exact Below.refl _ _ | with_reducible exact HBL | with_reducible refine Below.drew ?_ | with_reducible refine Bel_drewN ?_ _ | with_reducible refine Below.alloc ?_ (by first | omega | (simp; done) | (simp; omega)) _ | with_reducible refine Below.setCell ?_ (by first | omega | (simp; done) | (simp; omega)) _))) _))
      | false =>
        have HH := Lib.hid hh
        clear hh
        go_wp2_with (first | (refine wpList_farith (dst := some 34) _ _ _ _ _ .f32 _ _ rfl rfl rfl ?_; intro f nf hf; have HF := Lib.hid (HP.out HR.out.1 hf); have ht := (hit_of HF.out HL.out).trans HH.out; clear hf))
        go_roundw
        case rel =>
          obtain ⟨HBL, q0, q1⟩ := H2.out
          refine ⟨n + 1, by omega, by go_num, fun j hj => ?_, ⟨f, rfl, HF.out⟩, ?_, ?_, ?_⟩
          · by_cases e : j = n
            · subst e; exact HH.out
            · exact HR.out.2 j (by omega)
          · exact (by repeat (first | with_reducible exact Below.refl _ _ | with_reducible exact HBL | with_reducible refine Below.drew ?_ | with_reducible refine Bel_drewN ?_ _ | with_reducible refine Below.alloc ?_ (by first | omega | (simp; done) | (simp; omega)) _ | with_reducible refine Below.setCell ?_ (by first | omega | (simp; done) | (simp; omega)) _))
          · rw [HE.out]
            exact (((q0.put 0 _).put 1 _).put 2 _).drewN _
          · exact (((q1.far (by first | omega | (simp; done) | (simp; omega)) _).far (by first | omega | (simp; done) | (simp; omega)) _).far (by first | omega | (simp; done) | (simp; omega)) _).drewN _
        case measure => simp [intOf]; omega
    · obtain rfl : n = 256 := by omega
      go_wp2_with fail
      obtain ⟨HBL, q0, q1⟩ := H.out
      exact bodyPost_ret (v := .tuple #[sd 0 0 0, .int .i64 0, .bool false]) (by simp [results, Try.results20, go_sem, hc1]) rfl (CntR.no HR.out.2 (by repeat (first | with_reducible exact Below.refl _ _ | with_reducible exact HBL | with_reducible refine Below.drew ?_ | with_reducible refine Bel_drewN ?_ _ | with_reducible refine Below.alloc ?_ (by first | omega | (simp; done) | (simp; omega)) _ | with_reducible refine Below.setCell ?_ (by first | omega | (simp; done) | (simp; omega)) _)))
set_option maxRecDepth 100000 in
set_option maxHeartbeats 2000000 in
theorem specCount_in (k : Int) (a b y : Nat) (w : World) (hs : sOk k a b) (hy : meanB y = true) :
    Calls Try.prog 19 #[sd k a b, .float .f32 y] w (CntR k a b (Op.negFloat .f32 y) w) := by
  have HS := Lib.hid hs
  have hg : (FloatKind.f32.format.order y 0 == some Ordering.gt || FloatKind.f32.format.order y 0 == some Ordering.eq) = true := by unfold meanB at hy; rw [Bool.and_eq_true] at hy; exact hy.1
  have hl : (FloatKind.f32.format.order y 1107296256 == some Ordering.lt || FloatKind.f32.format.order y 1107296256 == some Ordering.eq) = true := by unfold meanB at hy; rw [Bool.and_eq_true] at hy; exact hy.2
  have HX := Lib.hid (mean_small hy)
  have p0 := Lib.hid ((Whole.made w 26 (sdC k a b)).alloc (.cells (sdC 0 0 0) 26))
  clear hs hy
  go_enter Try.func19, Try.ntmps19
  go_wp2_with fail
  refine (l02Is_any _ _ _ _ _ p0.out).mono ?_
  rintro e w1 ⟨rfl, rfl⟩
  rw [HS.out.1]
  go_wp2_with (first | (go_at_call 65; fail))
  generalize Op.negFloat .f32 y = x at *
  refine (l01Exp_any x HX.out _).mono ?_
  rintro e w' ⟨l, nl, rfl, hl, rfl⟩
  have HL := Lib.hid hl
  clear hl
  generalize hW : World.drewN (World.alloc (World.alloc _ _) _) _ = w0
  have hH : Below w.heap.size w w0 ∧ Whole w0 w.heap.size 26 (sdC k a b) ∧ Whole w0 (w.heap.size + 1) 26 (sdC 0 0 0) := by
    rw [← hW]
    exact ⟨Bel_drewN ((by repeat (first | with_reducible exact Below.refl _ _ | with_reducible exact HBL | with_reducible refine Below.drew ?_ | with_reducible refine Bel_drewN ?_ _ | with_reducible refine Below.alloc ?_ (by first | omega | (simp; done) | (simp; omega)) _ | with_reducible refine Below.setCell ?_ (by first | omega | (simp; done) | (simp; omega)) _))) _, p0.out.drewN _, (Whole.made2 _ _ _ _).drewN _⟩
  have H0 := Lib.hid hH
  clear hH hW p0
  go_wp2_with fail
  go_loopw [8, 9] (fun p i wr => ∃ n : Nat, n ≤ 256 ∧ i = .int .i64 n ∧ (∀ j, j < n → hitAt k a b x j = false) ∧ (∃ r, p = .float .f32 r ∧ Fv .f32 (prodV k a b n) r) ∧ Below w.heap.size w wr ∧ Whole wr w.heap.size 26 (sdC k (sdK k a b n).1 (sdK k a b n).2) ∧ Whole wr (w.heap.size + 1) 26 (sdC 0 0 0)) (fun _ i _ => 256 - (intOf i).toNat)
  case atStart => exact ⟨0, Nat.zero_le _, rfl, fun j hj => absurd hj (Nat.not_lt_zero _), ⟨_, rfl, ⟨by decide, av1_32⟩⟩, H0.out⟩
  case round =>
    obtain ⟨n, hn, rfl, hall, ⟨r, rfl, hr⟩, hbel, q0, q1⟩ := hrel
    clear H0
    have H := Lib.hid (And.intro hbel (And.intro q0 q1))
    have HR := Lib.hid (And.intro hr hall)
    have hz0 := q0.lt
    have hz1 := q1.lt
    obtain ⟨hc0, hf0⟩ := q0.facts
    obtain ⟨hc1, hf1⟩ := q1.facts
    clear hbel q0 q1 hr hall
    by_cases hlt : n < 256
    · have HJ := Lib.hid (HS.out.sdK n)
      have HE : Hid (sdK k a b (n + 1) = (nxA k (sdK k a b n).1 (sdK k a b n).2, nxB k (sdK k a b n).1 (sdK k a b n).2)) := Lib.hid rfl
      have HP : Hid (∀ {r f : Nat}, Fv .f32 (prodV k a b n) r → Fv .f32 (aop .mul .f32 (av .f32 r) (av .f32 (oml (shK k (sdK k a b n).1 (sdK k a b n).2)))) f → Fv .f32 (prodV k a b (n + 1)) f) := Lib.hid prod_step
      have HG : Hid (∀ {r l : Nat}, Fv .f32 (prodV k a b (n + 1)) r → Fv .f32 (narrow (expW x)) l → (FloatKind.f32.format.order r l == some Ordering.gt || FloatKind.f32.format.order r l == some Ordering.eq) = !hitAt k a b x n) := Lib.hid (hit_ge HS.out HX.out)
      have hm : ∀ (t : TypeId) (w : World), (binOp .sub t (.float .f32 1065353216) (.float .f32 (shK k (sdK k a b n).1 (sdK k a b n).2))).run Try.prog w = .ok (.float .f32 (oml (shK k (sdK k a b n).1 (sdK k a b n).2))) w := fun t w => oml_run HJ.out t w
      generalize (sdK k a b n).1 = A at *
      generalize (sdK k a b n).2 = B at *
      generalize oml (shK k A B) = c at *
      have hnn : (n : Int) < 256 := by omega
      clear hc0 hf0 hc1 hf1
      go_wp2_with (first | (go_at_call 66; fail))
      refine (l02Share_any _ _ _ _ _ HJ.out H.out.2.1).mono ?_
      rintro e w2 ⟨rfl, r0, hg2⟩
      have r1 := H.out.2.2.grown hg2 (by simp)
      have HBL : Below w.heap.size w w2 := Below.grown H.out.1 hg2 H.out.1.size (by simp)
      obtain ⟨hc0, hf0⟩ := r0.facts
      obtain ⟨hc1, hf1⟩ := r1.facts
      have hz2 := r0.lt
      have hz3 := r1.lt
      have H2 := Lib.hid (And.intro HBL (And.intro r0 r1))
      clear HBL r0 r1 hg2 H
      cases hh : hitAt k a b x n with
      | true =>
        have HH := Lib.hid hh
        clear hh
        go_wp2_with (first | (refine wpList_farith (dst := some 34) _ _ _ _ _ .f32 _ _ rfl rfl rfl ?_; intro f nf hf; have ht := (HG.out (HP.out HR.out.1 hf) HL.out).trans (congrArg not HH.out); clear hf))
        obtain ⟨HBL, q0, q1⟩ := H2.out
        exact bodyPost_ret (v := .tuple #[sd k (nxA k A B) (nxB k A B), .int .i64 n, .bool true]) (by simp [results, Try.results19, go_sem, hc1]) rfl (CntR.yes n ⟨hlt, HH.out, HR.out.2⟩ (by rw [HE.out]) (by rw [HE.out]) (by first | exact (by repeat (first | with_reducible exact Below.refl _ _ | with_reducible exact HBL | with_reducible refine Below.drew ?_ | with_reducible refine Bel_drewN ?_ _ | with_reducible refine Below.alloc ?_ (by first | omega | (simp; done) | (simp; omega)) _ | with_reducible refine Below.setCell ?_ (by first | omega | (simp; done) | (simp; omega)) _)) | exact Bel_drewN ((by repeat (first | with_reducible exact Below.refl _ _ | with_reducible exact HBL | with_reducible refine Below.drew ?_ | with_reducible refine Bel_drewN ?_ _ | with_reducible refine Below.alloc ?_ (by first | omega | (simp; done) | (simp; omega)) _ | with_reducible refine Below.setCell ?_ (by first | omega | (simp; done) | (simp; omega)) _))) _))
      | false =>
        have HH := Lib.hid hh
        clear hh
        go_wp2_with (first | (refine wpList_farith (dst := some 34) _ _ _ _ _ .f32 _ _ rfl rfl rfl ?_; intro f nf hf; have HF := Lib.hid (HP.out HR.out.1 hf); have ht := (HG.out HF.out HL.out).trans (congrArg not HH.out); clear hf))
        go_roundw
        case rel =>
          obtain ⟨HBL, q0, q1⟩ := H2.out
          refine ⟨n + 1, by omega, by go_num, fun j hj => ?_, ⟨f, rfl, HF.out⟩, ?_, ?_, ?_⟩
          · by_cases e : j = n
            · subst e; exact HH.out
            · exact HR.out.2 j (by omega)
          · exact (by repeat (first | with_reducible exact Below.refl _ _ | with_reducible exact HBL | with_reducible refine Below.drew ?_ | with_reducible refine Bel_drewN ?_ _ | with_reducible refine Below.alloc ?_ (by first | omega | (simp; done) | (simp; omega)) _ | with_reducible refine Below.setCell ?_ (by first | omega | (simp; done) | (simp; omega)) _))
          · rw [HE.out]
            exact q0.drewN _
          · exact q1.drewN _
        case measure => simp [intOf]; omega
    · obtain rfl : n = 256 := by omega
      go_wp2_with fail
      obtain ⟨HBL, q0, q1⟩ := H.out
      exact bodyPost_ret (v := .tuple #[sd 0 0 0, .int .i64 0, .bool false]) (by simp [results, Try.results19, go_sem, hc1]) rfl (CntR.no HR.out.2 (by repeat (first | with_reducible exact Below.refl _ _ | with_reducible exact HBL | with_reducible refine Below.drew ?_ | with_reducible refine Bel_drewN ?_ _ | with_reducible refine Below.alloc ?_ (by first | omega | (simp; done) | (simp; omega)) _ | with_reducible refine Below.setCell ?_ (by first | omega | (simp; done) | (simp; omega)) _)))
theorem cntC_one {k : Int} {a b x n m : Nat} (h : cntC k a b x n) (g : cntC k a b x m) : n = m := by
  rcases Nat.lt_trichotomy n m with hl | he | hl
  · have := g.2.2 n hl; rw [h.2.1] at this; cases this
  · exact he
  · have := h.2.2 m hl; rw [g.2.1] at this; cases this
theorem CntR.some {k : Int} {a b x n : Nat} {w w' : World} {e : Ending} (h : cntC k a b x n) (hr : CntR k a b x w e w') : RetB (.tuple #[sd k (sdK k a b (n + 1)).1 (sdK k a b (n + 1)).2, .int .i64 n, .bool true]) w e w' := by
  rcases hr with ⟨⟨m, hm, he⟩, hb⟩ | ⟨⟨hn, he⟩, hb⟩
  · obtain rfl := cntC_one h hm
    exact ⟨he, hb⟩
  · have := hn n h.1; rw [h.2.1] at this; cases this
theorem CntR.none {k : Int} {a b x : Nat} {w w' : World} {e : Ending} (h : ¬∃ n, cntC k a b x n) (hr : CntR k a b x w e w') : RetB (.tuple #[sd 0 0 0, .int .i64 0, .bool false]) w e w' := by
  rcases hr with ⟨⟨m, hm, he⟩, hb⟩ | ⟨⟨hn, he⟩, hb⟩
  · exact absurd ⟨m, hm⟩ h
  · exact ⟨he, hb⟩
set_option maxRecDepth 100000 in
theorem implCount_no (k : Int) (a b y : Nat) (w : World) (h : ¬(vSeed k a b = true ∧ meanB y = true)) :
    Calls Try.prog 20 #[sd k a b, .float .f32 y] w (RetB (.tuple #[sd 0 0 0, .int .i64 0, .bool false]) w) := by
  cases hv : vSeed k a b with
  | false =>
    clear h
    go_enter Try.func20, Try.ntmps20
    go_wp2_with fail
    refine (ValidSeed_any _ _ _ _).mono ?_
    rintro e w1 ⟨rfl, rfl⟩
    rw [hv]
    go_wp2_with fail
    exact bodyPost_ret (v := .tuple #[sd 0 0 0, .int .i64 0, .bool false]) (by simp [results, Try.results20, go_sem]) rfl ⟨rfl, (by repeat (first | with_reducible exact Below.refl _ _ | with_reducible exact HBL | with_reducible refine Below.drew ?_ | with_reducible refine Bel_drewN ?_ _ | with_reducible refine Below.alloc ?_ (by first | omega | (simp; done) | (simp; omega)) _ | with_reducible refine Below.setCell ?_ (by first | omega | (simp; done) | (simp; omega)) _))⟩
  | true =>
    have HG : Hid ((geB y 0 && leB y 1107296256) = false) := Lib.hid (by
      cases hy : meanB y with
      | false => exact hy
      | true => exact absurd ⟨hv, hy⟩ h)
    have HV := Lib.hid hv
    clear h hv
    go_enter Try.func20, Try.ntmps20
    go_wp2_with fail
    refine (ValidSeed_any _ _ _ _).mono ?_
    rintro e w1 ⟨rfl, rfl⟩
    rw [HV.out]
    go_wp2_with (first | (go_at_call 62; fail))
    refine (isWithin_any _ _ _ _).mono ?_
    rintro e w' ⟨rfl, rfl⟩
    rw [HG.out]
    go_wp2_with fail
    exact bodyPost_ret (v := .tuple #[sd 0 0 0, .int .i64 0, .bool false]) (by simp [results, Try.results20, go_sem]) rfl ⟨rfl, (by repeat (first | with_reducible exact Below.refl _ _ | with_reducible exact HBL | with_reducible refine Below.drew ?_ | with_reducible refine Bel_drewN ?_ _ | with_reducible refine Below.alloc ?_ (by first | omega | (simp; done) | (simp; omega)) _ | with_reducible refine Below.setCell ?_ (by first | omega | (simp; done) | (simp; omega)) _))⟩
set_option maxRecDepth 100000 in
theorem specCount_no (k : Int) (a b y : Nat) (w : World) (h : ¬(vSeed k a b = true ∧ meanB y = true)) :
    Calls Try.prog 19 #[sd k a b, .float .f32 y] w (RetB (.tuple #[sd 0 0 0, .int .i64 0, .bool false]) w) := by
  have p0 := Lib.hid ((Whole.made w 26 (sdC k a b)).alloc (.cells (sdC 0 0 0) 26))
  cases hv : vSeed k a b with
  | false =>
    clear h
    go_enter Try.func19, Try.ntmps19
    go_wp2_with fail
    refine (l02Is_any _ _ _ _ _ p0.out).mono ?_
    rintro e w1 ⟨rfl, rfl⟩
    rw [hv]
    go_wp2_with fail
    exact bodyPost_ret (v := .tuple #[sd 0 0 0, .int .i64 0, .bool false]) (by simp [results, Try.results19, go_sem]) rfl ⟨rfl, (by repeat (first | with_reducible exact Below.refl _ _ | with_reducible exact HBL | with_reducible refine Below.drew ?_ | with_reducible refine Bel_drewN ?_ _ | with_reducible refine Below.alloc ?_ (by first | omega | (simp; done) | (simp; omega)) _ | with_reducible refine Below.setCell ?_ (by first | omega | (simp; done) | (simp; omega)) _))⟩
  | true =>
    have hy : meanB y = false := by
      cases hy : meanB y with
      | false => rfl
      | true => exact absurd ⟨hv, hy⟩ h
    unfold meanB at hy
    have HV := Lib.hid hv
    clear h hv
    cases hg : geB y 0 with
    | false =>
      have hg' : (FloatKind.f32.format.order y 0 == some Ordering.gt || FloatKind.f32.format.order y 0 == some Ordering.eq) = false := hg
      clear hg hy
      go_enter Try.func19, Try.ntmps19
      go_wp2_with fail
      refine (l02Is_any _ _ _ _ _ p0.out).mono ?_
      rintro e w1 ⟨rfl, rfl⟩
      rw [HV.out]
      go_wp2_with fail
      exact bodyPost_ret (v := .tuple #[sd 0 0 0, .int .i64 0, .bool false]) (by simp [results, Try.results19, go_sem]) rfl ⟨rfl, (by repeat (first | with_reducible exact Below.refl _ _ | with_reducible exact HBL | with_reducible refine Below.drew ?_ | with_reducible refine Bel_drewN ?_ _ | with_reducible refine Below.alloc ?_ (by first | omega | (simp; done) | (simp; omega)) _ | with_reducible refine Below.setCell ?_ (by first | omega | (simp; done) | (simp; omega)) _))⟩
    | true =>
      have hg' : (FloatKind.f32.format.order y 0 == some Ordering.gt || FloatKind.f32.format.order y 0 == some Ordering.eq) = true := hg
      have hl : (FloatKind.f32.format.order y 1107296256 == some Ordering.lt || FloatKind.f32.format.order y 1107296256 == some Ordering.eq) = false := by
        rw [hg, Bool.true_and] at hy; exact hy
      clear hg hy
      go_enter Try.func19, Try.ntmps19
      go_wp2_with fail
      refine (l02Is_any _ _ _ _ _ p0.out).mono ?_
      rintro e w1 ⟨rfl, rfl⟩
      rw [HV.out]
      go_wp2_with fail
      exact bodyPost_ret (v := .tuple #[sd 0 0 0, .int .i64 0, .bool false]) (by simp [results, Try.results19, go_sem]) rfl ⟨rfl, (by repeat (first | with_reducible exact Below.refl _ _ | with_reducible exact HBL | with_reducible refine Below.drew ?_ | with_reducible refine Bel_drewN ?_ _ | with_reducible refine Below.alloc ?_ (by first | omega | (simp; done) | (simp; omega)) _ | with_reducible refine Below.setCell ?_ (by first | omega | (simp; done) | (simp; omega)) _))⟩
def countC (k : Int) (a b y n : Nat) : Prop := (vSeed k a b = true ∧ meanB y = true) ∧ cntC k a b (Op.negFloat .f32 y) n
theorem implCount_some (k : Int) (a b y n : Nat) (w : World) (ha : a < 18446744073709551616) (hb : b < 18446744073709551616) (h : countC k a b y n) :
    Calls Try.prog 20 #[sd k a b, .float .f32 y] w (RetB (.tuple #[sd k (sdK k a b (n + 1)).1 (sdK k a b (n + 1)).2, .int .i64 n, .bool true]) w) :=
  (implCount_in k a b y w ⟨h.1.1, ha, hb⟩ h.1.2).mono fun e w' hr => CntR.some h.2 hr
theorem implCount_none (k : Int) (a b y : Nat) (w : World) (ha : a < 18446744073709551616) (hb : b < 18446744073709551616) (h : ¬∃ n, countC k a b y n) :
    Calls Try.prog 20 #[sd k a b, .float .f32 y] w (RetB (.tuple #[sd 0 0 0, .int .i64 0, .bool false]) w) := by
  by_cases hc : vSeed k a b = true ∧ meanB y = true
  · exact (implCount_in k a b y w ⟨hc.1, ha, hb⟩ hc.2).mono fun e w' hr => CntR.none (fun ⟨n, hn⟩ => h ⟨n, hc, hn⟩) hr
  · exact implCount_no k a b y w hc
theorem specCount_some (k : Int) (a b y n : Nat) (w : World) (ha : a < 18446744073709551616) (hb : b < 18446744073709551616) (h : countC k a b y n) :
    Calls Try.prog 19 #[sd k a b, .float .f32 y] w (RetB (.tuple #[sd k (sdK k a b (n + 1)).1 (sdK k a b (n + 1)).2, .int .i64 n, .bool true]) w) :=
  (specCount_in k a b y w ⟨h.1.1, ha, hb⟩ h.1.2).mono fun e w' hr => CntR.some h.2 hr
theorem specCount_none (k : Int) (a b y : Nat) (w : World) (ha : a < 18446744073709551616) (hb : b < 18446744073709551616) (h : ¬∃ n, countC k a b y n) :
    Calls Try.prog 19 #[sd k a b, .float .f32 y] w (RetB (.tuple #[sd 0 0 0, .int .i64 0, .bool false]) w) := by
  by_cases hc : vSeed k a b = true ∧ meanB y = true
  · exact (specCount_in k a b y w ⟨hc.1, ha, hb⟩ hc.2).mono fun e w' hr => CntR.none (fun ⟨n, hn⟩ => h ⟨n, hc, hn⟩) hr
  · exact specCount_no k a b y w hc
end Go.Proofs.Ytlipdegiihojfaa
