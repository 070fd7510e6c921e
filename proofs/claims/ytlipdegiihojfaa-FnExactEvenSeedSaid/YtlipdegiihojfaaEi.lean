/- EvenSeed of the code. -/
import Derived.Test.YtlipdegiihojfaaEv
import Derived.Test.YtlipdegiihojfaaVag
namespace Go.Proofs.Ytlipdegiihojfaa
open Go Go.RowKit Fl
set_option linter.unusedVariables false

theorem narrow_num {P : Program} {b : Nat} {s : Bool} {m : Nat} {i : Int} (hd : Ieee.double.read b = .number s m i) (h : In .f64 R127 (some b)) : ∃ r, Fv .f32 (narrow (some b)) r ∧ ∀ w : World, (Conv.floatToFloat .f64 b .f32).run P w = .ok (.float .f32 r) w := by
  obtain ⟨b', s', m', i', e1, e2, e3, e4⟩ := h.read (by decide)
  cases e1
  rw [show FloatKind.f64.format.read b = Ieee.double.read b from rfl, hd] at e2
  cases e2
  have hl : (-1074 : Int) ≤ i := e4
  have hin : In .f32 ((127 + 127) * 8388608) (some (Ieee.single.write (.number s m i))) := write_in (k := .f32) (by omega) (by decide) (by
    have e5 : val m i ≤ vr Ieee.double R127 := e3
    rw [vr_127] at e5; exact e5)
  obtain ⟨b2, s2, m2, i2, f1, f2, _, _⟩ := hin.read (by decide)
  cases f1
  have hni : (Ieee.single.read (Ieee.single.write (.number s m i))).isInfinity = false := by
    rw [show Ieee.single.read (Ieee.single.write (.number s m i)) = FloatKind.f32.format.read (Ieee.single.write (.number s m i)) from rfl, f2]; rfl
  refine ⟨Ieee.single.write (Ieee.double.read b), ⟨Ieee.single.write_lt _, av_some (k := .f32) (read_write Ieee.single _ (by rw [hd]; rfl))⟩, fun w => ?_⟩
  rw [hd]
  simp [Conv.floatToFloat, FloatKind.decode, FloatKind.encode, FloatKind.format, hd, hni]
theorem narrow_run {P : Program} {L K : Nat} (h : Nb L K) : ∃ r, Fv .f32 (narrow (some (nb L K))) r ∧ ∀ w : World, (Conv.floatToFloat .f64 (nb L K) .f32).run P w = .ok (.float .f32 r) w :=
  narrow_num (read_nb L K h.lo h.hi (by have := h.L; omega)) h.in127
theorem convert_small {P : Program} {src dt : TypeId} (hs : P.underlying src = some (.float .f64)) (hd : P.underlying dt = some (.float .f32)) (b : Nat) (w : World) : (convert src dt (.float .f64 b)).run P w = (Conv.floatToFloat .f64 b .f32).run P w := by
  simp [convert, run_underlying hs, run_underlying hd]
theorem evT_le (k : Int) (a b : Nat) (hk : 0 ≤ k ∧ k ≤ 3) (h : evN k a b < 4) : evT k a b ≤ 127 := by
  have hn : wdK k a b (evN k a b) ≠ 0 := by
    by_cases h0 : wdK k a b 0 ≠ 0
    · rw [show evN k a b = 0 by unfold evN; rw [if_pos h0]]; exact h0
    · by_cases h1 : wdK k a b 1 ≠ 0
      · rw [show evN k a b = 1 by unfold evN; rw [if_neg h0, if_pos h1]]; exact h1
      · by_cases h2 : wdK k a b 2 ≠ 0
        · rw [show evN k a b = 2 by unfold evN; rw [if_neg h0, if_neg h1, if_pos h2]]; exact h2
        · by_cases h3 : wdK k a b 3 ≠ 0
          · rw [show evN k a b = 3 by unfold evN; rw [if_neg h0, if_neg h1, if_neg h2, if_pos h3]]; exact h3
          · rw [show evN k a b = 4 by unfold evN; rw [if_neg h0, if_neg h1, if_neg h2, if_neg h3]] at h; omega
  have := (lz_spec hn (wdK_lt k a b _ hk)).1
  unfold evT
  rw [if_pos h]
  omega
theorem evT_128 (k : Int) (a b : Nat) (h : ¬evN k a b < 4) : evT k a b = 128 := by unfold evT; rw [if_neg h]
set_option maxRecDepth 100000 in
set_option maxHeartbeats 1000000 in
theorem implEven_in (k : Int) (a b : Nat) (w : World) (hs : sOk k a b) :
    Calls Try.prog 45 #[sd k a b] w (RetF (fun r => .tuple #[sd k (sdK k a b (evC k a b + 1)).1 (sdK k a b (evC k a b + 1)).2, .float .f32 r, .bool true]) (evR k a b) w) := by
  have HS := Lib.hid hs
  clear hs
  go_enter Try.func45, Try.ntmps45
  go_wp2_with fail
  refine (ValidSeed_any _ _ _ _).mono ?_
  rintro e w1 ⟨rfl, rfl⟩
  rw [HS.out.1]
  go_wp2_with (first | (go_at_call 86; fail))
  generalize hW : World.alloc (World.alloc (World.alloc _ _) _) _ = w0
  have H0 : Hid (Below w.heap.size w w0 ∧ Whole w0 w.heap.size 26 (sdC k a b) ∧ Whole w0 (w.heap.size + 1) 26 (sdC 0 0 0)) := Lib.hid (by
    rw [← hW]; exact ⟨(by repeat (first | with_reducible exact Below.refl _ _ | with_reducible exact HBL | with_reducible refine Below.drew ?_ | with_reducible refine Bel_drewN ?_ _ | with_reducible refine Below.alloc ?_ (by first | omega | (simp; done) | (simp; omega)) _ | with_reducible refine Below.setCell ?_ (by first | omega | (simp; done) | (simp; omega)) _)), ((Whole.made w 26 (sdC k a b)).alloc _).alloc _, (Whole.made2 _ _ _ _).alloc _⟩)
  clear hW
  refine (drawZeros_any k a b _ HS.out).mono ?_
  rintro e w2 ⟨rfl, hb⟩
  have H1 := Lib.hid (And.intro (Bel_next H0.out.1 hb) (And.intro (H0.out.2.1.below hb) (H0.out.2.2.below hb)))
  clear hb H0
  have HJ := Lib.hid (HS.out.sdK (evC k a b))
  have HE : Hid (∀ r, Fv .f32 (evR k a b) r → ∀ w', Below w.heap.size w w' → RetF (fun r => .tuple #[sd k (sdK k a b (evC k a b + 1)).1 (sdK k a b (evC k a b + 1)).2, .float .f32 r, .bool true]) (evR k a b) w (.returned (.tuple #[sd k (nxA k (sdK k a b (evC k a b)).1 (sdK k a b (evC k a b)).2) (nxB k (sdK k a b (evC k a b)).1 (sdK k a b (evC k a b)).2), .float .f32 r, .bool true])) w') := Lib.hid (fun r hr w' hb => ⟨r, rfl, hr, hb⟩)
  have HT := Lib.hid (And.intro (evT_le k a b HS.out.kind) (evT_128 k a b))
  have HX : Hid (evX k a b = nb (1021 - evT k a b) ((8388608 + nxW k (sdK k a b (evC k a b)).1 (sdK k a b (evC k a b)).2 / 512) * 536870912)) := Lib.hid rfl
  generalize (sdK k a b (evC k a b)).1 = A at *
  generalize (sdK k a b (evC k a b)).2 = B at *
  generalize evT k a b = Z at *
  have hl := nxW_lt k A B HJ.out.kind
  obtain ⟨hc0, hf0⟩ := H1.out.2.1.facts
  obtain ⟨hc1, hf1⟩ := H1.out.2.2.facts
  have hz1 := H1.out.2.2.lt
  have hz0 := H1.out.2.1.lt
  go_wp2_with (first | (go_at_call 87; fail))
  refine (stepSeed_any _ _ _ _ HJ.out.kind HJ.out.2.1 HJ.out.2.2).mono ?_
  rintro e w3 ⟨rfl, rfl⟩
  generalize hW : World.alloc (World.alloc _ _) _ = w4
  have H4 : Hid (Below w.heap.size w w4 ∧ Whole w4 w.heap.size 26 (sdC k A B) ∧ Whole w4 (w.heap.size + 1) 26 (sdC 0 0 0)) := Lib.hid (by
    obtain ⟨HBL, q0, q1⟩ := H1.out
    rw [← hW]
    exact ⟨(by repeat (first | with_reducible exact Below.refl _ _ | with_reducible exact HBL | with_reducible refine Below.drew ?_ | with_reducible refine Bel_drewN ?_ _ | with_reducible refine Below.alloc ?_ (by first | omega | (simp; done) | (simp; omega)) _ | with_reducible refine Below.setCell ?_ (by first | omega | (simp; done) | (simp; omega)) _)), ((((q0.put 0 _).put 1 _).put 2 _).alloc _).alloc _, ((((q1.far (by first | omega | (simp; done) | (simp; omega)) _).far (by first | omega | (simp; done) | (simp; omega)) _).far (by first | omega | (simp; done) | (simp; omega)) _).alloc _).alloc _⟩)
  clear hW hc0 hf0 hc1 hf1 hz1 hz0 H1
  obtain ⟨hc0, hf0⟩ := H4.out.2.1.facts
  obtain ⟨hc1, hf1⟩ := H4.out.2.2.facts
  have hz1 := H4.out.2.2.lt
  have hz0 := H4.out.2.1.lt
  generalize nxW k A B = W at *
  by_cases h4 : evN k a b < 4
  · have hZ := HT.out.1 h4
    have hK : Nb (1021 - Z + (24 + Z)) ((8388608 + W / 512) * 536870912) := ⟨by omega, by omega, by omega⟩
    have e45 : 1021 - Z + (24 + Z) = 1045 := by omega
    have HNB := Lib.hid (⟨hK.lo, hK.hi, by omega⟩ : Nb (1021 - Z) ((8388608 + W / 512) * 536870912))
    have hld := fun w => Ldexp_nb (1021 - Z) _ (24 + Z) w hK
    rw [e45, show (-((24 + Z : Nat) : Int)) = -(24 + (Z : Int)) by omega] at hld
    have HLD := Lib.hid hld
    have HWR : Hid (IntKind.i64.wrap (-IntKind.i64.wrap (24 + (Z : Int))) = -(24 + (Z : Int))) := Lib.hid (by rw [IntKind.wrap_i64, IntKind.wrap_i64]; omega)
    obtain ⟨r, hr, hrun⟩ := narrow_run (P := Try.prog) HNB.out
    have hcv : ∀ w : World, (convert 61 25 (.float .f64 (nb (1021 - Z) ((8388608 + W / 512) * 536870912)))).run Try.prog w = .ok (.float .f32 r) w := fun w => (convert_small Try.underlying61 Try.underlying25 _ w).trans (hrun w)
    have HR : Hid (Fv .f32 (evR k a b) r) := Lib.hid (by unfold evR; rw [if_pos h4, HX.out]; exact hr)
    have hfl : floatOfInt .f64 (8388608 + (W : Int) / 512) = nb 1045 ((8388608 + W / 512) * 536870912) := by
      have := float_nb (8388608 + W / 512) (by omega) (by omega)
      rw [← this]; congr 1
    clear hrun hr hK e45 hld HX HT
    have hl' : (W : Int) ≤ 4294967295 := by omega
    clear hl
    generalize nb (1021 - Z) ((8388608 + W / 512) * 536870912) = N2 at *
    generalize nb 1045 ((8388608 + W / 512) * 536870912) = N1 at *
    go_wp2_with (first | (go_at_call 88; fail))
    go_region_with (first | (go_at_call 88; rw [HWR.out]; refine (HLD.out _).mono ?_; rintro e w5 ⟨rfl, rfl⟩))
    all_goals
      go_wp2_with fail
      obtain ⟨HBL, q0, q1⟩ := H4.out
      exact bodyPost_ret (v := .tuple #[sd k (nxA k A B) (nxB k A B), .float .f32 r, .bool true]) (by simp [results, Try.results45, go_sem, hc1]) rfl (HE.out r HR.out _ (by repeat (first | with_reducible exact Below.refl _ _ | with_reducible exact HBL | with_reducible refine Below.drew ?_ | with_reducible refine Bel_drewN ?_ _ | with_reducible refine Below.alloc ?_ (by first | omega | (simp; done) | (simp; omega)) _ | with_reducible refine Below.setCell ?_ (by first | omega | (simp; done) | (simp; omega)) _)))
  · have hZ := HT.out.2 h4
    have HR : Hid (Fv .f32 (evR k a b) 0) := Lib.hid (by unfold evR; rw [if_neg h4]; exact ⟨by decide, rfl⟩)
    subst hZ
    have hl' : (W : Int) ≤ 4294967295 := by omega
    clear hl HX HT
    go_wp2_with fail
    obtain ⟨HBL, q0, q1⟩ := H4.out
    exact bodyPost_ret (v := .tuple #[sd k (nxA k A B) (nxB k A B), .float .f32 0, .bool true]) (by simp [results, Try.results45, go_sem, hc1]) rfl (HE.out 0 HR.out _ (by repeat (first | with_reducible exact Below.refl _ _ | with_reducible exact HBL | with_reducible refine Below.drew ?_ | with_reducible refine Bel_drewN ?_ _ | with_reducible refine Below.alloc ?_ (by first | omega | (simp; done) | (simp; omega)) _ | with_reducible refine Below.setCell ?_ (by first | omega | (simp; done) | (simp; omega)) _)))
theorem implEven_no (k : Int) (a b : Nat) (w : World) (hv : vSeed k a b = false) :
    Calls Try.prog 45 #[sd k a b] w (RetF (fun r => .tuple #[sd 0 0 0, .float .f32 r, .bool false]) (av .f32 0) w) := by
  refine RetB.toF (r := 0) ?_ (by decide)
  go_enter Try.func45, Try.ntmps45
  go_wp2_with fail
  refine (ValidSeed_any _ _ _ _).mono ?_
  rintro e w1 ⟨rfl, rfl⟩
  rw [hv]
  go_wp2_with fail
  exact bodyPost_ret (v := .tuple #[sd 0 0 0, .float .f32 0, .bool false]) (by simp [results, Try.results45, go_sem]) rfl ⟨rfl, (by repeat (first | with_reducible exact Below.refl _ _ | with_reducible exact HBL | with_reducible refine Below.drew ?_ | with_reducible refine Bel_drewN ?_ _ | with_reducible refine Below.alloc ?_ (by first | omega | (simp; done) | (simp; omega)) _ | with_reducible refine Below.setCell ?_ (by first | omega | (simp; done) | (simp; omega)) _))⟩
end Go.Proofs.Ytlipdegiihojfaa
