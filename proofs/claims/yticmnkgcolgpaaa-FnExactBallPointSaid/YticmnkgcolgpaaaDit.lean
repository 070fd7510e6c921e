/- DiscPoint, both sides. -/
import Derived.Test.YticmnkgcolgpaaaDis
namespace Go.Proofs.Yticmnkgcolgpaaa
open Go Go.RowKit Fl
set_option linter.unusedVariables false
/-- The seed behind the try number N. -/
def sN (k : Int) (a b N : Nat) : Nat × Nat := sdK k a b (2 * (N + 1))
theorem sN_eq (k : Int) (a b N : Nat) : sN k a b N = sdK k a b (2 * (N + 1)) := rfl
theorem uD_F {k : Int} {a b N : Nat} (hs : sOk k a b) : Fv .f32 (some (uD k a b N)) (uD k a b N) ∧ Fv .f32 (some (vD k a b N)) (vD k a b N) := by
  obtain ⟨m1, m2, p, q, u, v, r, hT⟩ := tryD_of (n := N) hs rfl rfl
  rw [hT.eu, hT.ev]
  exact ⟨⟨Ieee.single.sub_lt hT.fst.sub, in_av hT.iu Rf_lt.2.2.1⟩, ⟨Ieee.single.sub_lt hT.snd.sub, in_av hT.iv Rf_lt.2.2.1⟩⟩
theorem Whole.made3D (w : World) (o1 o2 : Obj) (T : TypeId) (cs : Array Value) : Whole (((w.alloc o1).alloc o2).alloc (.cells cs T)) (w.heap.size + 1 + 1) T cs := by
  have h := Whole.made ((w.alloc o1).alloc o2) T cs
  have e : ((w.alloc o1).alloc o2).heap.size = w.heap.size + 1 + 1 := by simp
  rw [e] at h
  exact h
set_option maxRecDepth 100000 in
set_option maxHeartbeats 1000000 in
theorem implDisc_any (k : Int) (a b N : Nat) (w : World) (hs : sOk k a b) (hN : discN k a b N) :
    Calls Try.prog 22 #[sd k a b] w (fun e w' => ((N < 64 ∧ e = .returned (.tuple #[sd k (sN k a b N).1 (sN k a b N).2, .complex .f32 (uD k a b N) (vD k a b N), .bool true])) ∨ (N = 64 ∧ e = .returned (.tuple #[sd 0 0 0, .complex .f32 0 0, .bool false]))) ∧ Below w.heap.size w w') := by
  have HS := Lib.hid hs
  have HN := Lib.hid hN
  clear hs hN
  go_enter Try.func22, Try.ntmps22
  go_wp2_with (first | (go_at_call 61; fail))
  generalize hW : World.alloc (World.alloc (World.alloc _ _) _) _ = w0
  have H0 : Hid (Below w.heap.size w w0 ∧ Whole w0 w.heap.size 31 (sdC k a b) ∧ Whole w0 (w.heap.size + 1) 31 (sdC 0 0 0) ∧ Whole w0 (w.heap.size + 1 + 1) 78 (sdC k a b)) := Lib.hid (by
    rw [← hW]; exact ⟨(by repeat (first | with_reducible exact Below.refl _ _ | with_reducible exact HBL | with_reducible refine Below.drew ?_ | with_reducible refine Bel_drewN ?_ _ | with_reducible refine Below.alloc ?_ (by first | omega | (simp; done) | (simp; omega)) _ | with_reducible refine Below.setCell ?_ (by first | omega | (simp; done) | (simp; omega)) _)), ((Whole.made _ _ _).alloc _).alloc _, (Whole.made2 _ _ _ _).alloc _, Whole.made3D _ _ _ _ _⟩)
  clear hW
  refine (pointIn_any _ _ _ _ N _ HS.out HN.out H0.out.2.2.2).mono ?_
  rintro e w2 ⟨hor, hg⟩
  have HB : Hid (Below w.heap.size w w2) := Lib.hid (Below.grown H0.out.1 hg (by have := H0.out.1.size; have := H0.out.2.2.2.lt; omega) (by simp <;> omega))
  have q0 := H0.out.2.1.grown hg (by simp; omega)
  have q1 := H0.out.2.2.1.grown hg (by simp)
  have hz0 := q0.lt
  have hz1 := q1.lt
  obtain ⟨hc0, hf0⟩ := q0.facts
  obtain ⟨hc1, hf1⟩ := q1.facts
  clear hg q0 q1
  rcases hor with ⟨hlt, rfl, q2⟩ | ⟨h64, rfl⟩
  · obtain ⟨A, hA⟩ : ∃ A, (sN k a b N).1 = A := ⟨_, rfl⟩
    obtain ⟨B, hB⟩ : ∃ B, (sN k a b N).2 = B := ⟨_, rfl⟩
    rw [← sN_eq, hA, hB] at q2
    obtain ⟨hc2, hf2⟩ := q2.facts
    have hz2 := q2.lt
    obtain ⟨u, hu⟩ : ∃ u, uD k a b N = u := ⟨_, rfl⟩
    obtain ⟨v, hv⟩ : ∃ v, vD k a b N = v := ⟨_, rfl⟩
    have HE := Lib.hid (And.intro hlt (And.intro hA (And.intro hB (And.intro hu hv))))
    rw [hu, hv]
    clear hA hB hlt q2 hu hv
    go_wp2_with (first | (go_at_call 58; refine (ValidSeed_any _ _ _ _).mono ?_; rintro e w1 ⟨rfl, rfl⟩; rw [HS.out.1]))
    have HBL := HB.out
    exact bodyPost_ret (v := .tuple #[sd k A B, .complex .f32 u v, .bool true]) (by simp [results, Try.results22, go_sem, hc1, hz1]) rfl ⟨.inl ⟨HE.out.1, by rw [HE.out.2.1, HE.out.2.2.1, HE.out.2.2.2.1, HE.out.2.2.2.2]⟩, (by repeat (first | with_reducible exact Below.refl _ _ | with_reducible exact HBL | with_reducible refine Below.drew ?_ | with_reducible refine Bel_drewN ?_ _ | with_reducible refine Below.alloc ?_ (by first | omega | (simp; done) | (simp; omega)) _ | with_reducible refine Below.setCell ?_ (by first | omega | (simp; done) | (simp; omega)) _))⟩
  · have HE := Lib.hid h64
    clear h64
    go_wp2_with (first | (go_at_call 58; refine (ValidSeed_any _ _ _ _).mono ?_; rintro e w1 ⟨rfl, rfl⟩; rw [HS.out.1]))
    have HBL := HB.out
    exact bodyPost_ret (v := .tuple #[sd 0 0 0, .complex .f32 0 0, .bool false]) (by simp [results, Try.results22, go_sem, hc1]) rfl ⟨.inr ⟨HE.out, rfl⟩, (by repeat (first | with_reducible exact Below.refl _ _ | with_reducible exact HBL | with_reducible refine Below.drew ?_ | with_reducible refine Bel_drewN ?_ _ | with_reducible refine Below.alloc ?_ (by first | omega | (simp; done) | (simp; omega)) _ | with_reducible refine Below.setCell ?_ (by first | omega | (simp; done) | (simp; omega)) _))⟩
set_option maxRecDepth 100000 in
set_option maxHeartbeats 1000000 in
theorem implDisc_not (k : Int) (a b : Nat) (w : World) (hs : vSeed k a b = false) :
    Calls Try.prog 22 #[sd k a b] w (RetB (.tuple #[sd 0 0 0, .complex .f32 0 0, .bool false]) w) := by
  have HS := Lib.hid hs
  clear hs
  go_enter Try.func22, Try.ntmps22
  go_wp2_with (first | (go_at_call 61; fail))
  generalize hW : World.alloc (World.alloc (World.alloc _ _) _) _ = w0
  have H0 : Hid (Below w.heap.size w w0 ∧ Whole w0 (w.heap.size + 1) 31 (sdC 0 0 0) ∧ Whole w0 (w.heap.size + 1 + 1) 78 (sdC k a b)) := Lib.hid (by
    rw [← hW]; exact ⟨(by repeat (first | with_reducible exact Below.refl _ _ | with_reducible exact HBL | with_reducible refine Below.drew ?_ | with_reducible refine Bel_drewN ?_ _ | with_reducible refine Below.alloc ?_ (by first | omega | (simp; done) | (simp; omega)) _ | with_reducible refine Below.setCell ?_ (by first | omega | (simp; done) | (simp; omega)) _)), (Whole.made2 _ _ _ _).alloc _, Whole.made3D _ _ _ _ _⟩)
  clear hW
  refine (pointIn_not _ _ _ _ _ HS.out H0.out.2.2).mono ?_
  rintro e w2 ⟨rfl, hg⟩
  have HB : Hid (Below w.heap.size w w2) := Lib.hid (Below.grown H0.out.1 hg (by have := H0.out.1.size; have := H0.out.2.2.lt; omega) (by simp <;> omega))
  have q1 := H0.out.2.1.grown hg (by simp)
  have hz1 := q1.lt
  obtain ⟨hc1, hf1⟩ := q1.facts
  clear hg q1
  go_wp2_with fail
  have HBL := HB.out
  exact bodyPost_ret (v := .tuple #[sd 0 0 0, .complex .f32 0 0, .bool false]) (by simp [results, Try.results22, go_sem, hc1]) rfl ⟨rfl, (by repeat (first | with_reducible exact Below.refl _ _ | with_reducible exact HBL | with_reducible refine Below.drew ?_ | with_reducible refine Bel_drewN ?_ _ | with_reducible refine Below.alloc ?_ (by first | omega | (simp; done) | (simp; omega)) _ | with_reducible refine Below.setCell ?_ (by first | omega | (simp; done) | (simp; omega)) _))⟩
set_option maxRecDepth 100000 in
set_option maxHeartbeats 1000000 in
theorem specDisc_any (k : Int) (a b N : Nat) (w : World) (hs : sOk k a b) (hN : discN k a b N) :
    Calls Try.prog 21 #[sd k a b] w (fun e w' => ((N < 64 ∧ e = .returned (.tuple #[sd k (sN k a b N).1 (sN k a b N).2, .complex .f32 (uD k a b N) (vD k a b N), .bool true])) ∨ (N = 64 ∧ e = .returned (.tuple #[sd 0 0 0, .complex .f32 0 0, .bool false]))) ∧ Below w.heap.size w w') := by
  have HS := Lib.hid hs
  have HN := Lib.hid hN
  have p0 := Lib.hid ((Whole.made w 31 (sdC k a b)).alloc (.cells (sdC 0 0 0) 31))
  have p1 := Lib.hid (Whole.made2 w (.cells (sdC k a b) 31) 31 (sdC 0 0 0))
  clear hs hN
  go_enter Try.func21, Try.ntmps21
  go_wp2_with fail
  refine (l02Is_any _ _ _ _ _ p0.out).mono ?_
  rintro e w1 ⟨rfl, rfl⟩
  rw [HS.out.1]
  go_wp2_with (first | (go_at_call 60; fail))
  refine (l04Disc_any _ _ _ _ N _ HS.out HN.out p0.out).mono ?_
  rintro e w2 ⟨hor, hg⟩
  have HB : Hid (Below w.heap.size w w2) := Lib.hid (Below.grown (by repeat (first | with_reducible exact Below.refl _ _ | with_reducible exact HBL | with_reducible refine Below.drew ?_ | with_reducible refine Bel_drewN ?_ _ | with_reducible refine Below.alloc ?_ (by first | omega | (simp; done) | (simp; omega)) _ | with_reducible refine Below.setCell ?_ (by first | omega | (simp; done) | (simp; omega)) _)) hg (by simp <;> omega) (by simp))
  have q1 := p1.out.grown hg (by simp)
  have hz1 := q1.lt
  obtain ⟨hc1, hf1⟩ := q1.facts
  clear hg q1 p0 p1
  rcases hor with ⟨hlt, rfl, q2⟩ | ⟨h64, rfl⟩
  · obtain ⟨A, hA⟩ : ∃ A, (sN k a b N).1 = A := ⟨_, rfl⟩
    obtain ⟨B, hB⟩ : ∃ B, (sN k a b N).2 = B := ⟨_, rfl⟩
    rw [← sN_eq, hA, hB] at q2
    obtain ⟨hc2, hf2⟩ := q2.facts
    have hz2 := q2.lt
    obtain ⟨u, hu⟩ : ∃ u, uD k a b N = u := ⟨_, rfl⟩
    obtain ⟨v, hv⟩ : ∃ v, vD k a b N = v := ⟨_, rfl⟩
    have HE := Lib.hid (And.intro hlt (And.intro hA (And.intro hB (And.intro hu hv))))
    rw [hu, hv]
    clear hA hB hlt q2 hu hv
    go_wp2_with fail
    have HBL := HB.out
    exact bodyPost_ret (v := .tuple #[sd k A B, .complex .f32 u v, .bool true]) (by simp [results, Try.results21, go_sem, hc1]) rfl ⟨.inl ⟨HE.out.1, by rw [HE.out.2.1, HE.out.2.2.1, HE.out.2.2.2.1, HE.out.2.2.2.2]⟩, (by repeat (first | with_reducible exact Below.refl _ _ | with_reducible exact HBL | with_reducible refine Below.drew ?_ | with_reducible refine Bel_drewN ?_ _ | with_reducible refine Below.alloc ?_ (by first | omega | (simp; done) | (simp; omega)) _ | with_reducible refine Below.setCell ?_ (by first | omega | (simp; done) | (simp; omega)) _))⟩
  · have HE := Lib.hid h64
    clear h64
    go_wp2_with fail
    have HBL := HB.out
    exact bodyPost_ret (v := .tuple #[sd 0 0 0, .complex .f32 0 0, .bool false]) (by simp [results, Try.results21, go_sem, hc1]) rfl ⟨.inr ⟨HE.out, rfl⟩, (by repeat (first | with_reducible exact Below.refl _ _ | with_reducible exact HBL | with_reducible refine Below.drew ?_ | with_reducible refine Bel_drewN ?_ _ | with_reducible refine Below.alloc ?_ (by first | omega | (simp; done) | (simp; omega)) _ | with_reducible refine Below.setCell ?_ (by first | omega | (simp; done) | (simp; omega)) _))⟩
theorem specDisc_not (k : Int) (a b : Nat) (w : World) (hv : vSeed k a b = false) :
    Calls Try.prog 21 #[sd k a b] w (RetB (.tuple #[sd 0 0 0, .complex .f32 0 0, .bool false]) w) := by
  have p0 := Lib.hid ((Whole.made w 31 (sdC k a b)).alloc (.cells (sdC 0 0 0) 31))
  go_enter Try.func21, Try.ntmps21
  go_wp2_with fail
  refine (l02Is_any _ _ _ _ _ p0.out).mono ?_
  rintro e w1 ⟨rfl, rfl⟩
  go_wp2_with fail
  exact bodyPost_ret (v := .tuple #[sd 0 0 0, .complex .f32 0 0, .bool false]) (by simp [results, Try.results21, go_sem]) rfl ⟨rfl, (by repeat (first | with_reducible exact Below.refl _ _ | with_reducible exact HBL | with_reducible refine Below.drew ?_ | with_reducible refine Bel_drewN ?_ _ | with_reducible refine Below.alloc ?_ (by first | omega | (simp; done) | (simp; omega)) _ | with_reducible refine Below.setCell ?_ (by first | omega | (simp; done) | (simp; omega)) _))⟩
/-! ### As the walk of the law calls them -/
theorem zero_F : Fv .f32 (some 0) 0 := ⟨by decide, by decide +kernel⟩
def discYes (k : Int) (a b N : Nat) : Prop := vSeed k a b = true ∧ N < 64 ∧ discN k a b N
theorem implDisc_yes {k : Int} {a b N : Nat} (ha : a < 18446744073709551616) (hb : b < 18446744073709551616) (h : discYes k a b N) (w : World) :
    Calls Try.prog 22 #[sd k a b] w (RetC (fun r t => .tuple #[sd k (sN k a b N).1 (sN k a b N).2, .complex .f32 r t, .bool true]) (some (uD k a b N)) (some (vD k a b N)) w) := by
  have hs : sOk k a b := ⟨h.1, ha, hb⟩
  refine (implDisc_any k a b N w hs h.2.2).mono ?_
  rintro e w' ⟨⟨_, rfl⟩ | ⟨h64, _⟩, hB⟩
  · exact ⟨_, _, rfl, (uD_F hs).1, (uD_F hs).2, hB⟩
  · exact absurd h.2.1 (by omega)
theorem implDisc_no {k : Int} {a b : Nat} (ha : a < 18446744073709551616) (hb : b < 18446744073709551616) (h : ¬ ∃ N, discYes k a b N) (w : World) :
    Calls Try.prog 22 #[sd k a b] w (RetC (fun r t => .tuple #[sd 0 0 0, .complex .f32 r t, .bool false]) (some 0) (some 0) w) := by
  cases hv : vSeed k a b with
  | false => exact (implDisc_not k a b w hv).mono fun e w' ⟨he, hB⟩ => ⟨0, 0, he, zero_F, zero_F, hB⟩
  | true =>
    obtain ⟨N, hN⟩ := disc_some k a b
    refine (implDisc_any k a b N w ⟨hv, ha, hb⟩ hN).mono ?_
    rintro e w' ⟨⟨hlt, _⟩ | ⟨h64, he⟩, hB⟩
    · exact absurd ⟨N, hv, hlt, hN⟩ h
    · exact ⟨0, 0, he, zero_F, zero_F, hB⟩
theorem specDisc_yes {k : Int} {a b N : Nat} (ha : a < 18446744073709551616) (hb : b < 18446744073709551616) (h : discYes k a b N) (w : World) :
    Calls Try.prog 21 #[sd k a b] w (RetC (fun r t => .tuple #[sd k (sN k a b N).1 (sN k a b N).2, .complex .f32 r t, .bool true]) (some (uD k a b N)) (some (vD k a b N)) w) := by
  have hs : sOk k a b := ⟨h.1, ha, hb⟩
  refine (specDisc_any k a b N w hs h.2.2).mono ?_
  rintro e w' ⟨⟨_, rfl⟩ | ⟨h64, _⟩, hB⟩
  · exact ⟨_, _, rfl, (uD_F hs).1, (uD_F hs).2, hB⟩
  · exact absurd h.2.1 (by omega)
theorem specDisc_no {k : Int} {a b : Nat} (ha : a < 18446744073709551616) (hb : b < 18446744073709551616) (h : ¬ ∃ N, discYes k a b N) (w : World) :
    Calls Try.prog 21 #[sd k a b] w (RetC (fun r t => .tuple #[sd 0 0 0, .complex .f32 r t, .bool false]) (some 0) (some 0) w) := by
  cases hv : vSeed k a b with
  | false => exact (specDisc_not k a b w hv).mono fun e w' ⟨he, hB⟩ => ⟨0, 0, he, zero_F, zero_F, hB⟩
  | true =>
    obtain ⟨N, hN⟩ := disc_some k a b
    refine (specDisc_any k a b N w ⟨hv, ha, hb⟩ hN).mono ?_
    rintro e w' ⟨⟨hlt, _⟩ | ⟨h64, he⟩, hB⟩
    · exact absurd ⟨N, hv, hlt, hN⟩ h
    · exact ⟨0, 0, he, zero_F, zero_F, hB⟩
end Go.Proofs.Yticmnkgcolgpaaa
