/- Points of a ball's skin, both sides. -/
import Derived.Test.YticmnkgcolgpaaaDit
import Derived.Test.YticmnkgcolgpaaaLk
import Derived.Test.YticmnkgcolgpaaaRoot
namespace Go.Proofs.Yticmnkgcolgpaaa
open Go Go.RowKit Fl
set_option linter.unusedVariables false
def ballR (q : Nat) : Option Nat := narrow (asqrt (widen (aop .sub .f32 (some 1065353216) (some q))))
def ballV (u v q : Nat) : Nat → Option Nat
  | 0 => aop .mul .f32 (aop .mul .f32 (some 1073741824) (some u)) (ballR q)
  | 1 => aop .mul .f32 (aop .mul .f32 (some 1073741824) (some v)) (ballR q)
  | _ => aop .sub .f32 (some 1065353216) (aop .mul .f32 (some 1073741824) (some q))
/-- What a try's three numbers are, on the way to the point. -/
structure BallN (u v q s r a c b d e t : Nat) : Prop where
  fu : av .f32 u = some u
  fv : av .f32 v = some v
  fq : av .f32 q = some q
  fs : Fv .f32 (aop .sub .f32 (av .f32 1065353216) (av .f32 q)) s
  fr : Fv .f32 (narrow (asqrt (widen (av .f32 s)))) r
  fa : Fv .f32 (aop .mul .f32 (av .f32 1073741824) (av .f32 u)) a
  fc : Fv .f32 (aop .mul .f32 (av .f32 a) (av .f32 r)) c
  fb : Fv .f32 (aop .mul .f32 (av .f32 1073741824) (av .f32 v)) b
  fd : Fv .f32 (aop .mul .f32 (av .f32 b) (av .f32 r)) d
  fe : Fv .f32 (aop .mul .f32 (av .f32 1073741824) (av .f32 q)) e
  ft : Fv .f32 (aop .sub .f32 (av .f32 1065353216) (av .f32 e)) t
theorem av_two : av .f32 1073741824 = some 1073741824 := by decide +kernel
theorem av_oneB : av .f32 1065353216 = some 1065353216 := by decide +kernel
theorem BallN.like {u v q s r a c b d e t : Nat} (h : BallN u v q s r a c b d e t) : LikeL 3 (ballV u v q) [c, d, t] := by
  refine ⟨rfl, fun i hi => ?_⟩
  have hr : ballR q = av .f32 r := by unfold ballR; rw [h.fr.2, h.fs.2, av_oneB, h.fq]
  match i, hi with
  | 0, _ => show av .f32 c = aop .mul .f32 (aop .mul .f32 (some 1073741824) (some u)) (ballR q); rw [h.fc.2, h.fa.2, av_two, h.fu, hr]
  | 1, _ => show av .f32 d = aop .mul .f32 (aop .mul .f32 (some 1073741824) (some v)) (ballR q); rw [h.fd.2, h.fb.2, av_two, h.fv, hr]
  | 2, _ => show av .f32 t = aop .sub .f32 (some 1065353216) (aop .mul .f32 (some 1073741824) (some q)); rw [h.ft.2, h.fe.2, av_two, av_oneB, h.fq]
def BallP (k : Int) (a b N : Nat) (w : World) (e : Ending) (w' : World) : Prop :=
  (N < 64 ∧ RetLA 3 (ballV (uD k a b N) (vD k a b N) (qD k a b N)) (fun l => .tuple #[sd k (sN k a b N).1 (sN k a b N).2, l, .bool true]) w e w') ∨ (N = 64 ∧ RetB (.tuple #[sd 0 0 0, .slice none 0 0, .bool false]) w e w')
theorem ballRow {w w5 : World} {n : Nat} {x y z : Nat} {T : TypeId} {v1 v2 v3 : Value} (hz : w.heap.size + 1 < w5.heap.size) (hl : w.heap.size ≤ w5.heap.size) :
    Row (((((w5.drewN n).alloc (.cells #[.float .f32 x, .float .f32 y, .float .f32 z] T)).setCell ⟨w.heap.size + 1, 0, none⟩ v1).setCell ⟨w.heap.size + 1, 1, none⟩ v2).setCell ⟨w.heap.size + 1, 2, none⟩ v3) w.heap.size (((((w5.drewN n).alloc (.cells #[.float .f32 x, .float .f32 y, .float .f32 z] T)).setCell ⟨w.heap.size + 1, 0, none⟩ v1).setCell ⟨w.heap.size + 1, 1, none⟩ v2).setCell ⟨w.heap.size + 1, 2, none⟩ v3).heap.size (some ⟨w5.heap.size, 0, none⟩) (fl .f32 [x, y, z]) := by
  refine .inr ⟨w5.heap.size, _, T, rfl, hl, by simp, ((Whole.made (w5.drewN n) T _).far ?_ _ |>.far ?_ _).far ?_ _, fun i hi => ?_⟩
  · show w5.heap.size ≠ w.heap.size + 1; omega
  · show w5.heap.size ≠ w.heap.size + 1; omega
  · show w5.heap.size ≠ w.heap.size + 1; omega
  · match i, hi with
    | 0, _ => rfl
    | 1, _ => rfl
    | 2, _ => rfl
set_option maxRecDepth 100000 in
set_option maxHeartbeats 1000000 in
theorem implBall_any (k : Int) (a b N : Nat) (w : World) (hs : sOk k a b) (hN : discN k a b N) :
    Calls Try.prog 24 #[sd k a b] w (BallP k a b N w) := by
  have HS := Lib.hid hs
  have HN := Lib.hid hN
  clear hs hN
  go_enter Try.func24, Try.ntmps24
  go_wp2_with (first | (go_at_call 22; fail))
  generalize hW : World.alloc (World.alloc _ _) _ = w0
  have H0 : Hid (Below w.heap.size w w0 ∧ Whole w0 w.heap.size 31 (sdC k a b) ∧ Whole w0 (w.heap.size + 1) 31 (sdC 0 0 0)) := Lib.hid (by
    rw [← hW]; exact ⟨(by repeat (first | with_reducible exact Below.refl _ _ | with_reducible exact HBL | with_reducible refine Below.drew ?_ | with_reducible refine Bel_drewN ?_ _ | with_reducible refine Below.alloc ?_ (by first | omega | (simp; done) | (simp; omega)) _ | with_reducible refine Below.setCell ?_ (by first | omega | (simp; done) | (simp; omega)) _)), (Whole.made _ _ _).alloc _, Whole.made2 _ _ _ _⟩)
  clear hW
  refine (implDisc_any k a b N _ HS.out HN.out).mono ?_
  rintro e w1 ⟨⟨hlt, rfl⟩ | ⟨h64, rfl⟩, hb⟩
  · have HL : Hid (N < 64) := Lib.hid hlt
    obtain ⟨m1, m2, p, q, u, v, r, hT⟩ := tryD_of (n := N) HS.out rfl rfl
    have HT := Lib.hid hT
    rw [hT.eu, hT.ev]
    obtain ⟨A, hA⟩ : ∃ A, (sN k a b N).1 = A := ⟨_, rfl⟩
    obtain ⟨B, hB⟩ : ∃ B, (sN k a b N).2 = B := ⟨_, rfl⟩
    rw [hA, hB]
    have HE := Lib.hid (And.intro hA hB)
    have r0 := H0.out.2.1.below hb
    have r1 := H0.out.2.2.below hb
    obtain ⟨hc0, hf0⟩ := r0.facts
    obtain ⟨hc1, hf1⟩ := r1.facts
    have hz0 := r0.lt
    have hz1 := r1.lt
    have H1 := Lib.hid (And.intro (Bel_next H0.out.1 hb) (And.intro r0 r1))
    clear hT hlt hA hB hb r0 r1 H0
    go_wp2_with (first | (go_at_call 64; fail))
    clear hc0 hf0 hz0 hc1 hf1 hz1
    generalize hW : World.setCell (World.setCell (World.setCell _ _ _) _ _) _ _ = w2
    have H2 : Hid (Below w.heap.size w w2 ∧ Whole w2 w.heap.size 31 (sdC k A B) ∧ Whole w2 (w.heap.size + 1) 31 (sdC 0 0 0)) := Lib.hid (by
      obtain ⟨HBL, q0, q1⟩ := H1.out
      rw [← hW]
      exact ⟨(by repeat (first | with_reducible exact Below.refl _ _ | with_reducible exact HBL | with_reducible refine Below.drew ?_ | with_reducible refine Bel_drewN ?_ _ | with_reducible refine Below.alloc ?_ (by first | omega | (simp; done) | (simp; omega)) _ | with_reducible refine Below.setCell ?_ (by first | omega | (simp; done) | (simp; omega)) _)), ((q0.put 0 _).put 1 _).put 2 _, ((q1.far (by first | omega | (simp; done) | (simp; omega)) _).far (by first | omega | (simp; done) | (simp; omega)) _).far (by first | omega | (simp; done) | (simp; omega)) _⟩)
    clear hW H1
    refine (squares_any u v p q r HT.out.sq _).mono ?_
    rintro e w4 ⟨rfl, rfl⟩
    go_wp2_with (first
      | (refine wpList_farith (dst := some 28) _ _ _ _ _ .f32 _ _ rfl rfl rfl ?_; intro x1 n1 h1)
      | (go_at_call 65; fail))
    refine (implRoot_any x1 _).mono ?_
    rintro e w5 ⟨x2, n2, rfl, h2, hw5⟩
    have H5 : Hid (Below w.heap.size w w5 ∧ Whole w5 w.heap.size 31 (sdC k A B) ∧ Whole w5 (w.heap.size + 1) 31 (sdC 0 0 0)) := Lib.hid (by
      obtain ⟨x, y, z⟩ := H2.out
      rw [hw5]
      exact ⟨by repeat (first | exact x | refine Bel_drewN ?_ _), by repeat (first | exact y | refine Whole.drewN ?_ _), by repeat (first | exact z | refine Whole.drewN ?_ _)⟩)
    clear hw5 H2
    obtain ⟨hc0, hf0⟩ := H5.out.2.1.facts
    obtain ⟨hc1, hf1⟩ := H5.out.2.2.facts
    have hz0 := H5.out.2.1.lt
    have hz1 := H5.out.2.2.lt
    have hc1n : ∀ (n : Nat) (ob : Obj) (o : Nat), ((w5.drewN n).alloc ob).cell? ⟨w.heap.size + 1, o, none⟩ = (sdC 0 0 0)[o]? := fun n ob => ((H5.out.2.2.drewN n).alloc ob).facts.1
    have hf1n : ∀ (n : Nat) (ob : Obj) (o : Nat), ((w5.drewN n).alloc ob).frozen? ⟨w.heap.size + 1, o, none⟩ = false := fun n ob => ((H5.out.2.2.drewN n).alloc ob).facts.2
    go_wp2_with (first
      | ((with_reducible apply wpList_farith (dst := some 32) (k := .f32)); rfl; rfl; rfl; intro x3 n3 h3)
      | ((with_reducible apply wpList_farith (dst := some 34) (k := .f32)); rfl; rfl; rfl; intro x4 n4 h4)
      | ((with_reducible apply wpList_farith (dst := some 36) (k := .f32)); rfl; rfl; rfl; intro x5 n5 h5)
      | ((with_reducible apply wpList_farith (dst := some 38) (k := .f32)); rfl; rfl; rfl; intro x6 n6 h6)
      | ((with_reducible apply wpList_farith (dst := some 40) (k := .f32)); rfl; rfl; rfl; intro x7 n7 h7)
      | ((with_reducible apply wpList_farith (dst := some 41) (k := .f32)); rfl; rfl; rfl; intro x8 n8 h8))
    have HBL := H5.out.1
    have hzz := H5.out.1.size
    exact bodyPost_ret (v := .tuple #[sd k A B, .slice (some ⟨w5.heap.size, 0, none⟩) 3 3, .bool true]) (by simp [results, Try.results24, go_sem, hc1n]) rfl (.inl ⟨HL.out, [x4, x6, x8], _, 3, by rw [HE.out.1, HE.out.2], by rw [HT.out.eu, HT.out.ev, HT.out.er]; exact BallN.like ⟨in_av HT.out.iu Rf_lt.2.2.1, in_av HT.out.iv Rf_lt.2.2.1, in_av HT.out.ir Rf_lt.2.2.2.2, h1, h2, h3, h4, h5, h6, h7, h8⟩, ballRow hz1 hzz, (by repeat (first | with_reducible exact Below.refl _ _ | with_reducible exact HBL | with_reducible refine Below.drew ?_ | with_reducible refine Bel_drewN ?_ _ | with_reducible refine Below.alloc ?_ (by first | omega | (simp; done) | (simp; omega)) _ | with_reducible refine Below.setCell ?_ (by first | omega | (simp; done) | (simp; omega)) _))⟩)
  · have HL := Lib.hid h64
    have r0 := H0.out.2.1.below hb
    have r1 := H0.out.2.2.below hb
    obtain ⟨hc0, hf0⟩ := r0.facts
    obtain ⟨hc1, hf1⟩ := r1.facts
    have hz0 := r0.lt
    have hz1 := r1.lt
    have H1 := Lib.hid (Bel_next H0.out.1 hb)
    clear h64 hb r0 r1 H0
    go_wp2_with fail
    have HBL := H1.out
    exact bodyPost_ret (v := .tuple #[sd 0 0 0, .slice none 0 0, .bool false]) (by simp [results, Try.results24, go_sem, hc1]) rfl (.inr ⟨HL.out, rfl, (by repeat (first | with_reducible exact Below.refl _ _ | with_reducible exact HBL | with_reducible refine Below.drew ?_ | with_reducible refine Bel_drewN ?_ _ | with_reducible refine Below.alloc ?_ (by first | omega | (simp; done) | (simp; omega)) _ | with_reducible refine Below.setCell ?_ (by first | omega | (simp; done) | (simp; omega)) _))⟩)
set_option maxRecDepth 100000 in
set_option maxHeartbeats 1000000 in
theorem implBall_not (k : Int) (a b : Nat) (w : World) (hs : vSeed k a b = false) :
    Calls Try.prog 24 #[sd k a b] w (RetB (.tuple #[sd 0 0 0, .slice none 0 0, .bool false]) w) := by
  have HS := Lib.hid hs
  clear hs
  go_enter Try.func24, Try.ntmps24
  go_wp2_with (first | (go_at_call 22; fail))
  generalize hW : World.alloc (World.alloc _ _) _ = w0
  have H0 : Hid (Below w.heap.size w w0 ∧ Whole w0 w.heap.size 31 (sdC k a b) ∧ Whole w0 (w.heap.size + 1) 31 (sdC 0 0 0)) := Lib.hid (by
    rw [← hW]; exact ⟨(by repeat (first | with_reducible exact Below.refl _ _ | with_reducible exact HBL | with_reducible refine Below.drew ?_ | with_reducible refine Bel_drewN ?_ _ | with_reducible refine Below.alloc ?_ (by first | omega | (simp; done) | (simp; omega)) _ | with_reducible refine Below.setCell ?_ (by first | omega | (simp; done) | (simp; omega)) _)), (Whole.made _ _ _).alloc _, Whole.made2 _ _ _ _⟩)
  clear hW
  refine (implDisc_not k a b _ HS.out).mono ?_
  rintro e w1 ⟨rfl, hb⟩
  have r0 := H0.out.2.1.below hb
  have r1 := H0.out.2.2.below hb
  obtain ⟨hc0, hf0⟩ := r0.facts
  obtain ⟨hc1, hf1⟩ := r1.facts
  have hz0 := r0.lt
  have hz1 := r1.lt
  have H1 := Lib.hid (Bel_next H0.out.1 hb)
  clear hb r0 r1 H0
  go_wp2_with fail
  have HBL := H1.out
  exact bodyPost_ret (v := .tuple #[sd 0 0 0, .slice none 0 0, .bool false]) (by simp [results, Try.results24, go_sem, hc1]) rfl ⟨rfl, (by repeat (first | with_reducible exact Below.refl _ _ | with_reducible exact HBL | with_reducible refine Below.drew ?_ | with_reducible refine Bel_drewN ?_ _ | with_reducible refine Below.alloc ?_ (by first | omega | (simp; done) | (simp; omega)) _ | with_reducible refine Below.setCell ?_ (by first | omega | (simp; done) | (simp; omega)) _))⟩
set_option maxRecDepth 100000 in
set_option maxHeartbeats 1000000 in
theorem specBall_any (k : Int) (a b N : Nat) (w : World) (hs : sOk k a b) (hN : discN k a b N) :
    Calls Try.prog 23 #[sd k a b] w (BallP k a b N w) := by
  have HS := Lib.hid hs
  have HN := Lib.hid hN
  have p0 := Lib.hid ((Whole.made w 31 (sdC k a b)).alloc (.cells (sdC 0 0 0) 31))
  have p1 := Lib.hid (Whole.made2 w (.cells (sdC k a b) 31) 31 (sdC 0 0 0))
  clear hs hN
  go_enter Try.func23, Try.ntmps23
  go_wp2_with fail
  refine (l02Is_any _ _ _ _ _ p0.out).mono ?_
  rintro e w1 ⟨rfl, rfl⟩
  rw [HS.out.1]
  go_wp2_with (first | (go_at_call 60; fail))
  refine (l04Disc_any _ _ _ _ N _ HS.out HN.out p0.out).mono ?_
  rintro e w2 ⟨hor, hg⟩
  have HB : Hid (Below w.heap.size w w2 ∧ Whole w2 (w.heap.size + 1) 31 (sdC 0 0 0)) := Lib.hid ⟨Below.grown (by repeat (first | with_reducible exact Below.refl _ _ | with_reducible exact HBL | with_reducible refine Below.drew ?_ | with_reducible refine Bel_drewN ?_ _ | with_reducible refine Below.alloc ?_ (by first | omega | (simp; done) | (simp; omega)) _ | with_reducible refine Below.setCell ?_ (by first | omega | (simp; done) | (simp; omega)) _)) hg (by simp <;> omega) (by simp), p1.out.grown hg (by simp)⟩
  clear hg p0 p1
  rcases hor with ⟨hlt, rfl, q2⟩ | ⟨h64, rfl⟩
  · have HL : Hid (N < 64) := Lib.hid hlt
    obtain ⟨m1, m2, p, q, u, v, r, hT⟩ := tryD_of (n := N) HS.out rfl rfl
    have HT := Lib.hid hT
    rw [hT.eu, hT.ev, hT.er]
    obtain ⟨A, hA⟩ : ∃ A, (sN k a b N).1 = A := ⟨_, rfl⟩
    obtain ⟨B, hB⟩ : ∃ B, (sN k a b N).2 = B := ⟨_, rfl⟩
    rw [← sN_eq, hA, hB] at q2
    have HE := Lib.hid (And.intro hA hB)
    have H2 := Lib.hid (And.intro HB.out.1 (And.intro q2 HB.out.2))
    clear hT hlt hA hB q2 HB
    go_wp2_with (first
      | (refine wpList_farith (dst := some 23) _ _ _ _ _ .f32 _ _ rfl rfl rfl ?_; intro x1 n1 h1)
      | (go_at_call 63; fail))
    refine (l01Sqrt_any x1 _).mono ?_
    rintro e w5 ⟨x2, n2, rfl, h2, hw5⟩
    have H5 : Hid (Below w.heap.size w w5 ∧ Whole w5 w.heap.size 31 (sdC k A B) ∧ Whole w5 (w.heap.size + 1) 31 (sdC 0 0 0)) := Lib.hid (by
      obtain ⟨x, y, z⟩ := H2.out
      rw [hw5]
      exact ⟨by repeat (first | exact x | refine Bel_drewN ?_ _), by repeat (first | exact y | refine Whole.drewN ?_ _), by repeat (first | exact z | refine Whole.drewN ?_ _)⟩)
    clear hw5 H2
    obtain ⟨hc0, hf0⟩ := H5.out.2.1.facts
    have hz0 := H5.out.2.1.lt
    have hz1 := H5.out.2.2.lt
    have hc1n : ∀ (n : Nat) (ob : Obj) (o : Nat), ((w5.drewN n).alloc ob).cell? ⟨w.heap.size + 1, o, none⟩ = (sdC 0 0 0)[o]? := fun n ob => ((H5.out.2.2.drewN n).alloc ob).facts.1
    have hf1n : ∀ (n : Nat) (ob : Obj) (o : Nat), ((w5.drewN n).alloc ob).frozen? ⟨w.heap.size + 1, o, none⟩ = false := fun n ob => ((H5.out.2.2.drewN n).alloc ob).facts.2
    go_wp2_with (first
      | ((with_reducible apply wpList_farith (dst := some 27) (k := .f32)); rfl; rfl; rfl; intro x3 n3 h3)
      | ((with_reducible apply wpList_farith (dst := some 29) (k := .f32)); rfl; rfl; rfl; intro x4 n4 h4)
      | ((with_reducible apply wpList_farith (dst := some 31) (k := .f32)); rfl; rfl; rfl; intro x5 n5 h5)
      | ((with_reducible apply wpList_farith (dst := some 33) (k := .f32)); rfl; rfl; rfl; intro x6 n6 h6)
      | ((with_reducible apply wpList_farith (dst := some 35) (k := .f32)); rfl; rfl; rfl; intro x7 n7 h7)
      | ((with_reducible apply wpList_farith (dst := some 36) (k := .f32)); rfl; rfl; rfl; intro x8 n8 h8))
    have HBL := H5.out.1
    have hzz := H5.out.1.size
    exact bodyPost_ret (v := .tuple #[sd k A B, .slice (some ⟨w5.heap.size, 0, none⟩) 3 3, .bool true]) (by simp [results, Try.results23, go_sem, hc1n]) rfl (.inl ⟨HL.out, [x4, x6, x8], _, 3, by rw [HE.out.1, HE.out.2], by rw [HT.out.eu, HT.out.ev, HT.out.er]; exact BallN.like ⟨in_av HT.out.iu Rf_lt.2.2.1, in_av HT.out.iv Rf_lt.2.2.1, in_av HT.out.ir Rf_lt.2.2.2.2, h1, h2, h3, h4, h5, h6, h7, h8⟩, ballRow hz1 hzz, (by repeat (first | with_reducible exact Below.refl _ _ | with_reducible exact HBL | with_reducible refine Below.drew ?_ | with_reducible refine Bel_drewN ?_ _ | with_reducible refine Below.alloc ?_ (by first | omega | (simp; done) | (simp; omega)) _ | with_reducible refine Below.setCell ?_ (by first | omega | (simp; done) | (simp; omega)) _))⟩)
  · have HL := Lib.hid h64
    obtain ⟨hc1, hf1⟩ := HB.out.2.facts
    have hz1 := HB.out.2.lt
    clear h64
    go_wp2_with fail
    have HBL := HB.out.1
    exact bodyPost_ret (v := .tuple #[sd 0 0 0, .slice none 0 0, .bool false]) (by simp [results, Try.results23, go_sem, hc1]) rfl (.inr ⟨HL.out, rfl, (by repeat (first | with_reducible exact Below.refl _ _ | with_reducible exact HBL | with_reducible refine Below.drew ?_ | with_reducible refine Bel_drewN ?_ _ | with_reducible refine Below.alloc ?_ (by first | omega | (simp; done) | (simp; omega)) _ | with_reducible refine Below.setCell ?_ (by first | omega | (simp; done) | (simp; omega)) _))⟩)
theorem specBall_not (k : Int) (a b : Nat) (w : World) (hv : vSeed k a b = false) :
    Calls Try.prog 23 #[sd k a b] w (RetB (.tuple #[sd 0 0 0, .slice none 0 0, .bool false]) w) := by
  have p0 := Lib.hid ((Whole.made w 31 (sdC k a b)).alloc (.cells (sdC 0 0 0) 31))
  go_enter Try.func23, Try.ntmps23
  go_wp2_with fail
  refine (l02Is_any _ _ _ _ _ p0.out).mono ?_
  rintro e w1 ⟨rfl, rfl⟩
  go_wp2_with fail
  exact bodyPost_ret (v := .tuple #[sd 0 0 0, .slice none 0 0, .bool false]) (by simp [results, Try.results23, go_sem]) rfl ⟨rfl, (by repeat (first | with_reducible exact Below.refl _ _ | with_reducible exact HBL | with_reducible refine Below.drew ?_ | with_reducible refine Bel_drewN ?_ _ | with_reducible refine Below.alloc ?_ (by first | omega | (simp; done) | (simp; omega)) _ | with_reducible refine Below.setCell ?_ (by first | omega | (simp; done) | (simp; omega)) _))⟩
/-! ### As the walk of the law calls them -/
theorem implBall_yes {k : Int} {a b N : Nat} (ha : a < 18446744073709551616) (hb : b < 18446744073709551616) (h : discYes k a b N) (w : World) :
    Calls Try.prog 24 #[sd k a b] w (RetLA 3 (ballV (uD k a b N) (vD k a b N) (qD k a b N)) (fun l => .tuple #[sd k (sN k a b N).1 (sN k a b N).2, l, .bool true]) w) := by
  refine (implBall_any k a b N w ⟨h.1, ha, hb⟩ h.2.2).mono ?_
  rintro e w' (⟨_, h1⟩ | ⟨h64, _⟩)
  · exact h1
  · exact absurd h.2.1 (by omega)
theorem implBall_no {k : Int} {a b : Nat} (ha : a < 18446744073709551616) (hb : b < 18446744073709551616) (h : ¬ ∃ N, discYes k a b N) (w : World) :
    Calls Try.prog 24 #[sd k a b] w (RetB (.tuple #[sd 0 0 0, .slice none 0 0, .bool false]) w) := by
  cases hv : vSeed k a b with
  | false => exact implBall_not k a b w hv
  | true =>
    obtain ⟨N, hN⟩ := disc_some k a b
    refine (implBall_any k a b N w ⟨hv, ha, hb⟩ hN).mono ?_
    rintro e w' (⟨hlt, _⟩ | ⟨h64, h1⟩)
    · exact absurd ⟨N, hv, hlt, hN⟩ h
    · exact h1
theorem specBall_yes {k : Int} {a b N : Nat} (ha : a < 18446744073709551616) (hb : b < 18446744073709551616) (h : discYes k a b N) (w : World) :
    Calls Try.prog 23 #[sd k a b] w (RetLA 3 (ballV (uD k a b N) (vD k a b N) (qD k a b N)) (fun l => .tuple #[sd k (sN k a b N).1 (sN k a b N).2, l, .bool true]) w) := by
  refine (specBall_any k a b N w ⟨h.1, ha, hb⟩ h.2.2).mono ?_
  rintro e w' (⟨_, h1⟩ | ⟨h64, _⟩)
  · exact h1
  · exact absurd h.2.1 (by omega)
theorem specBall_no {k : Int} {a b : Nat} (ha : a < 18446744073709551616) (hb : b < 18446744073709551616) (h : ¬ ∃ N, discYes k a b N) (w : World) :
    Calls Try.prog 23 #[sd k a b] w (RetB (.tuple #[sd 0 0 0, .slice none 0 0, .bool false]) w) := by
  cases hv : vSeed k a b with
  | false => exact specBall_not k a b w hv
  | true =>
    obtain ⟨N, hN⟩ := disc_some k a b
    refine (specBall_any k a b N w ⟨hv, ha, hb⟩ hN).mono ?_
    rintro e w' (⟨hlt, _⟩ | ⟨h64, h1⟩)
    · exact absurd ⟨N, hv, hlt, hN⟩ h
    · exact h1
end Go.Proofs.Yticmnkgcolgpaaa
