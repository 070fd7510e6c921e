/- Hits: how many shares are less than a share. -/
import Derived.Test.YtnofikeeobahjaaSh
import Derived.Test.YtnofikeeobahjaaIn0
import Derived.LoopTactic
namespace Go.Proofs.Ytnofikeeobahjaa
open Go Go.RowKit Fl
set_option linter.unusedVariables false

def geB (x y : Nat) : Bool := FloatKind.f32.format.order x y == some Ordering.gt || FloatKind.f32.format.order x y == some Ordering.eq
def leB (x y : Nat) : Bool := FloatKind.f32.format.order x y == some Ordering.lt || FloatKind.f32.format.order x y == some Ordering.eq
def ltB (x y : Nat) : Bool := FloatKind.f32.format.order x y == some Ordering.lt
def gtB (x y : Nat) : Bool := FloatKind.f32.format.order x y == some Ordering.gt
def partB (x : Nat) : Bool := geB x 0 && leB x 1065353216
theorem isWithin_any (x lo hi : Nat) (w : World) : Calls Try.prog 52 #[.float .f32 x, .float .f32 lo, .float .f32 hi] w (fun e w' => e = .returned (.bool (geB x lo && leB x hi)) ∧ w = w') := by
  cases hg : geB x lo with
  | true =>
    have hg' : (FloatKind.f32.format.order x lo == some Ordering.gt || FloatKind.f32.format.order x lo == some Ordering.eq) = true := hg
    clear hg
    go_enter Try.func52, Try.ntmps52
    go_wp2
    go_ret
    exact ⟨rfl, rfl⟩
  | false =>
    have hg' : (FloatKind.f32.format.order x lo == some Ordering.gt || FloatKind.f32.format.order x lo == some Ordering.eq) = false := hg
    clear hg
    go_enter Try.func52, Try.ntmps52
    go_wp2
    go_ret
    exact ⟨rfl, rfl⟩
theorem l02Part_any (x : Nat) (w : World) : Calls Try.prog 51 #[.float .f32 x] w (fun e w' => e = .returned (.bool (partB x)) ∧ w = w') := by
  cases hg : geB x 0 with
  | true =>
    have hp : partB x = leB x 1065353216 := by unfold partB; rw [hg]; rfl
    have HP := Lib.hid hp
    have hg' : (FloatKind.f32.format.order x 0 == some Ordering.gt || FloatKind.f32.format.order x 0 == some Ordering.eq) = true := hg
    clear hg hp
    go_enter Try.func51, Try.ntmps51
    go_wp2
    go_ret
    exact ⟨by rw [HP.out]; rfl, rfl⟩
  | false =>
    have hp : partB x = false := by unfold partB; rw [hg]; rfl
    have HP := Lib.hid hp
    have hg' : (FloatKind.f32.format.order x 0 == some Ordering.gt || FloatKind.f32.format.order x 0 == some Ordering.eq) = false := hg
    clear hg hp
    go_enter Try.func51, Try.ntmps51
    go_wp2
    go_ret
    exact ⟨by rw [HP.out]; rfl, rfl⟩
/-- How many of the first j shares are less than x. -/
def hitsN (k : Int) (a b x : Nat) : Nat → Nat
  | 0 => 0
  | j + 1 => if ltB (shK k (sdK k a b j).1 (sdK k a b j).2) x = true then hitsN k a b x j + 1 else hitsN k a b x j
theorem hitsN_le (k : Int) (a b x j : Nat) : hitsN k a b x j ≤ j := by
  induction j with
  | zero => exact Nat.le_refl _
  | succ j ih => unfold hitsN; split <;> omega
set_option maxRecDepth 100000 in
set_option maxHeartbeats 1000000 in
theorem implHits_yes (k : Int) (a b n x : Nat) (w : World) (hs : sOk k a b) (hn : n ≤ 256) (hx : partB x = true) :
    Calls Try.prog 21 #[sd k a b, .int .i64 n, .float .f32 x] w (RetB (.tuple #[sd k (sdK k a b n).1 (sdK k a b n).2, .int .i64 (hitsN k a b x n), .bool true]) w) := by
  have HS := Lib.hid hs
  have HX := Lib.hid (show (geB x 0 && leB x 1065353216) = true from hx)
  have hn0 : (0 : Int) ≤ n := by omega
  have hn1 : (n : Int) ≤ 256 := by omega
  clear hs hx
  go_enter Try.func21, Try.ntmps21
  go_wp2_with fail
  refine (ValidSeed_any _ _ _ _).mono ?_
  rintro e w1 ⟨rfl, rfl⟩
  rw [HS.out.1]
  go_wp2_with (first | (go_at_call 52; fail))
  refine (isWithin_any _ _ _ _).mono ?_
  rintro e w1 ⟨rfl, rfl⟩
  rw [HX.out]
  generalize hW : World.alloc (World.alloc (World.alloc _ _) _) _ = w0
  have hH : Below w.heap.size w w0 ∧ Whole w0 w.heap.size 25 (sdC k a b) ∧ Whole w0 (w.heap.size + 1) 25 (sdC 0 0 0) := by
    rw [← hW]
    exact ⟨(by repeat (first | with_reducible exact Below.refl _ _ | with_reducible exact HBL | with_reducible refine Below.drew ?_ | with_reducible refine Bel_drewN ?_ _ | with_reducible refine Below.alloc ?_ (by first | omega | (simp; done) | (simp; omega)) _ | with_reducible refine Below.setCell ?_ (by first | omega | (simp; done) | (simp; omega)) _)), ((Whole.made _ _ _).alloc _).alloc _, (Whole.made2 _ _ _ _).alloc _⟩
  have H0 := Lib.hid hH
  clear hH hW HX
  go_wp2_with fail
  go_loopw [29, 9] (fun i h wr => ∃ j : Nat, j ≤ n ∧ i = .int .i64 j ∧ h = .int .i64 (hitsN k a b x j) ∧ Below w.heap.size w wr ∧ Whole wr w.heap.size 25 (sdC k (sdK k a b j).1 (sdK k a b j).2) ∧ Whole wr (w.heap.size + 1) 25 (sdC 0 0 0)) (fun i _ _ => n - (intOf i).toNat)
  case atStart => exact ⟨0, Nat.zero_le _, rfl, rfl, H0.out⟩
  case round =>
    obtain ⟨j, hj, rfl, rfl, hbel, q0, q1⟩ := hrel
    clear H0
    have H := Lib.hid (And.intro hbel (And.intro q0 q1))
    have hz0 := q0.lt
    have hz1 := q1.lt
    have hh := hitsN_le k a b x j
    have hh1 : (hitsN k a b x j : Int) ≤ 256 := by omega
    obtain ⟨hc0, hf0⟩ := q0.facts
    obtain ⟨hc1, hf1⟩ := q1.facts
    clear hbel q0 q1 hh
    by_cases hlt : j < n
    · have HJ := Lib.hid (HS.out.sdK j)
      have HN : Hid (hitsN k a b x (j + 1) = if ltB (shK k (sdK k a b j).1 (sdK k a b j).2) x = true then hitsN k a b x j + 1 else hitsN k a b x j) := Lib.hid rfl
      have HE : Hid (sdK k a b (j + 1) = (nxA k (sdK k a b j).1 (sdK k a b j).2, nxB k (sdK k a b j).1 (sdK k a b j).2)) := Lib.hid rfl
      clear hc1 hf1
      generalize (sdK k a b j).1 = A at *
      generalize (sdK k a b j).2 = B at *
      generalize hitsN k a b x j = N at *
      go_wp2_with (first | (go_at_call 53; fail))
      clear hc0 hf0
      refine (drawShare_any _ _ _ _ HJ.out).mono ?_
      rintro e w2 ⟨rfl, hb2⟩
      have r0 := H.out.2.1.below hb2
      obtain ⟨hc0, hf0⟩ := r0.facts
      have hz2 := r0.lt
      have HB2 := Lib.hid hb2
      clear hb2 r0
      cases hlb : ltB (shK k A B) x with
      | true =>
        have hl : (FloatKind.f32.format.order (shK k A B) x == some Ordering.lt) = true := hlb
        have HL := Lib.hid hlb
        clear hlb
        go_wp2_with fail
        go_roundw
        case rel =>
          obtain ⟨hbel, q0, q1⟩ := H.out
          have HBL := Bel_next hbel HB2.out
          refine ⟨j + 1, by omega, by go_num, by rw [HN.out, if_pos HL.out]; go_num, (by repeat (first | with_reducible exact Below.refl _ _ | with_reducible exact HBL | with_reducible refine Below.drew ?_ | with_reducible refine Bel_drewN ?_ _ | with_reducible refine Below.alloc ?_ (by first | omega | (simp; done) | (simp; omega)) _ | with_reducible refine Below.setCell ?_ (by first | omega | (simp; done) | (simp; omega)) _)), ?_, (((q1.below HB2.out).far (by first | omega | (simp; done) | (simp; omega)) _).far (by first | omega | (simp; done) | (simp; omega)) _).far (by first | omega | (simp; done) | (simp; omega)) _⟩
          rw [HE.out]
          exact (((q0.below HB2.out).put 0 _).put 1 _).put 2 _
        case measure => simp [intOf]; omega
      | false =>
        have hl : (FloatKind.f32.format.order (shK k A B) x == some Ordering.lt) = false := hlb
        have HL := Lib.hid hlb
        clear hlb
        go_wp2_with fail
        go_roundw
        case rel =>
          obtain ⟨hbel, q0, q1⟩ := H.out
          have HBL := Bel_next hbel HB2.out
          refine ⟨j + 1, by omega, by go_num, by rw [HN.out, if_neg (by rw [HL.out]; exact Bool.false_ne_true)], (by repeat (first | with_reducible exact Below.refl _ _ | with_reducible exact HBL | with_reducible refine Below.drew ?_ | with_reducible refine Bel_drewN ?_ _ | with_reducible refine Below.alloc ?_ (by first | omega | (simp; done) | (simp; omega)) _ | with_reducible refine Below.setCell ?_ (by first | omega | (simp; done) | (simp; omega)) _)), ?_, (((q1.below HB2.out).far (by first | omega | (simp; done) | (simp; omega)) _).far (by first | omega | (simp; done) | (simp; omega)) _).far (by first | omega | (simp; done) | (simp; omega)) _⟩
          rw [HE.out]
          exact (((q0.below HB2.out).put 0 _).put 1 _).put 2 _
        case measure => simp [intOf]; omega
    · obtain rfl : j = n := by omega
      clear hlt hj
      go_wp2_with fail
      obtain ⟨HBL, q0, q1⟩ := H.out
      exact bodyPost_ret (v := .tuple #[sd k (sdK k a b j).1 (sdK k a b j).2, .int .i64 (hitsN k a b x j), .bool true]) (by simp [results, Try.results21, go_sem, hc1]) rfl ⟨rfl, (by repeat (first | with_reducible exact Below.refl _ _ | with_reducible exact HBL | with_reducible refine Below.drew ?_ | with_reducible refine Bel_drewN ?_ _ | with_reducible refine Below.alloc ?_ (by first | omega | (simp; done) | (simp; omega)) _ | with_reducible refine Below.setCell ?_ (by first | omega | (simp; done) | (simp; omega)) _))⟩
theorem implHits_no (k : Int) (a b : Nat) (n : Int) (x : Nat) (w : World) (h : ¬(vSeed k a b = true ∧ (0 ≤ n ∧ n ≤ 256) ∧ partB x = true)) :
    Calls Try.prog 21 #[sd k a b, .int .i64 n, .float .f32 x] w (RetB (.tuple #[sd 0 0 0, .int .i64 0, .bool false]) w) := by
  cases hv : vSeed k a b with
  | false =>
    clear h
    go_enter Try.func21, Try.ntmps21
    go_wp2_with fail
    refine (ValidSeed_any _ _ _ _).mono ?_
    rintro e w1 ⟨rfl, rfl⟩
    rw [hv]
    go_wp2_with fail
    exact bodyPost_ret (v := .tuple #[sd 0 0 0, .int .i64 0, .bool false]) (by simp [results, Try.results21, go_sem]) rfl ⟨rfl, (by repeat (first | with_reducible exact Below.refl _ _ | with_reducible exact HBL | with_reducible refine Below.drew ?_ | with_reducible refine Bel_drewN ?_ _ | with_reducible refine Below.alloc ?_ (by first | omega | (simp; done) | (simp; omega)) _ | with_reducible refine Below.setCell ?_ (by first | omega | (simp; done) | (simp; omega)) _))⟩
  | true =>
    by_cases h0 : n < 0
    · clear h
      go_enter Try.func21, Try.ntmps21
      go_wp2_with fail
      refine (ValidSeed_any _ _ _ _).mono ?_
      rintro e w1 ⟨rfl, rfl⟩
      rw [hv]
      go_wp2_with fail
      exact bodyPost_ret (v := .tuple #[sd 0 0 0, .int .i64 0, .bool false]) (by simp [results, Try.results21, go_sem]) rfl ⟨rfl, (by repeat (first | with_reducible exact Below.refl _ _ | with_reducible exact HBL | with_reducible refine Below.drew ?_ | with_reducible refine Bel_drewN ?_ _ | with_reducible refine Below.alloc ?_ (by first | omega | (simp; done) | (simp; omega)) _ | with_reducible refine Below.setCell ?_ (by first | omega | (simp; done) | (simp; omega)) _))⟩
    · have h0' : 0 ≤ n := by omega
      by_cases h1 : 256 < n
      · clear h h0
        go_enter Try.func21, Try.ntmps21
        go_wp2_with fail
        refine (ValidSeed_any _ _ _ _).mono ?_
        rintro e w1 ⟨rfl, rfl⟩
        rw [hv]
        go_wp2_with fail
        exact bodyPost_ret (v := .tuple #[sd 0 0 0, .int .i64 0, .bool false]) (by simp [results, Try.results21, go_sem]) rfl ⟨rfl, (by repeat (first | with_reducible exact Below.refl _ _ | with_reducible exact HBL | with_reducible refine Below.drew ?_ | with_reducible refine Bel_drewN ?_ _ | with_reducible refine Below.alloc ?_ (by first | omega | (simp; done) | (simp; omega)) _ | with_reducible refine Below.setCell ?_ (by first | omega | (simp; done) | (simp; omega)) _))⟩
      · have h1' : n ≤ 256 := by omega
        have HP : Hid ((geB x 0 && leB x 1065353216) = false) := Lib.hid (by
          cases hp : partB x with
          | false => exact hp
          | true => exact absurd ⟨hv, ⟨h0', h1'⟩, hp⟩ h)
        clear h h0 h1
        go_enter Try.func21, Try.ntmps21
        go_wp2_with fail
        refine (ValidSeed_any _ _ _ _).mono ?_
        rintro e w1 ⟨rfl, rfl⟩
        rw [hv]
        go_wp2_with (first | (go_at_call 52; fail))
        refine (isWithin_any _ _ _ _).mono ?_
        rintro e w1 ⟨rfl, rfl⟩
        rw [HP.out]
        go_wp2_with fail
        exact bodyPost_ret (v := .tuple #[sd 0 0 0, .int .i64 0, .bool false]) (by simp [results, Try.results21, go_sem]) rfl ⟨rfl, (by repeat (first | with_reducible exact Below.refl _ _ | with_reducible exact HBL | with_reducible refine Below.drew ?_ | with_reducible refine Bel_drewN ?_ _ | with_reducible refine Below.alloc ?_ (by first | omega | (simp; done) | (simp; omega)) _ | with_reducible refine Below.setCell ?_ (by first | omega | (simp; done) | (simp; omega)) _))⟩
set_option maxRecDepth 100000 in
set_option maxHeartbeats 1000000 in
theorem specHits_yes (k : Int) (a b n x : Nat) (w : World) (hs : sOk k a b) (hn : n ≤ 256) (hx : partB x = true) :
    Calls Try.prog 20 #[sd k a b, .int .i64 n, .float .f32 x] w (RetB (.tuple #[sd k (sdK k a b n).1 (sdK k a b n).2, .int .i64 (hitsN k a b x n), .bool true]) w) := by
  have HS := Lib.hid hs
  have HX := Lib.hid hx
  have hn0 : (0 : Int) ≤ n := by omega
  have hn1 : (n : Int) ≤ 256 := by omega
  clear hs hx
  have p0 := Lib.hid ((Whole.made w 25 (sdC k a b)).alloc (.cells (sdC 0 0 0) 25))
  go_enter Try.func20, Try.ntmps20
  go_wp2_with fail
  refine (l02Is_any _ _ _ _ _ p0.out).mono ?_
  rintro e w1 ⟨rfl, rfl⟩
  rw [HS.out.1]
  go_wp2_with fail
  refine (l00In_yes _ _ _ hn0 hn1 _).mono ?_
  rintro e w1 ⟨rfl, rfl⟩
  go_wp2_with (first | (go_at_call 51; fail))
  refine (l02Part_any _ _).mono ?_
  rintro e w1 ⟨rfl, rfl⟩
  rw [HX.out]
  generalize hW : World.alloc (World.alloc _ _) _ = w0
  have hH : Below w.heap.size w w0 ∧ Whole w0 w.heap.size 25 (sdC k a b) ∧ Whole w0 (w.heap.size + 1) 25 (sdC 0 0 0) := by
    rw [← hW]
    exact ⟨(by repeat (first | with_reducible exact Below.refl _ _ | with_reducible exact HBL | with_reducible refine Below.drew ?_ | with_reducible refine Bel_drewN ?_ _ | with_reducible refine Below.alloc ?_ (by first | omega | (simp; done) | (simp; omega)) _ | with_reducible refine Below.setCell ?_ (by first | omega | (simp; done) | (simp; omega)) _)), p0.out, Whole.made2 _ _ _ _⟩
  have H0 := Lib.hid hH
  clear hH hW HX p0
  go_wp2_with fail
  go_loopw [1, 9] (fun i h wr => ∃ j : Nat, j ≤ n ∧ i = .int .i64 ((n : Int) - j) ∧ h = .int .i64 (hitsN k a b x j) ∧ Below w.heap.size w wr ∧ Whole wr w.heap.size 25 (sdC k (sdK k a b j).1 (sdK k a b j).2) ∧ Whole wr (w.heap.size + 1) 25 (sdC 0 0 0)) (fun i _ _ => (intOf i).toNat)
  case atStart => exact ⟨0, Nat.zero_le _, by congr 1 <;> omega, rfl, H0.out⟩
  case round =>
    obtain ⟨j, hj, rfl, rfl, hbel, q0, q1⟩ := hrel
    clear H0
    have H := Lib.hid (And.intro hbel (And.intro q0 q1))
    have hz0 := q0.lt
    have hz1 := q1.lt
    have hh := hitsN_le k a b x j
    have hh1 : (hitsN k a b x j : Int) ≤ 256 := by omega
    have hj' : (j : Int) ≤ n := by omega
    obtain ⟨hc0, hf0⟩ := q0.facts
    obtain ⟨hc1, hf1⟩ := q1.facts
    clear hbel q0 q1 hh
    by_cases hlt : j < n
    · have htest : (0 : Int) < (n : Int) - j := by omega
      have HJ := Lib.hid (HS.out.sdK j)
      have HN : Hid (hitsN k a b x (j + 1) = if ltB (shK k (sdK k a b j).1 (sdK k a b j).2) x = true then hitsN k a b x j + 1 else hitsN k a b x j) := Lib.hid rfl
      have HE : Hid (sdK k a b (j + 1) = (nxA k (sdK k a b j).1 (sdK k a b j).2, nxB k (sdK k a b j).1 (sdK k a b j).2)) := Lib.hid rfl
      clear hc1 hf1 hc0 hf0
      generalize (sdK k a b j).1 = A at *
      generalize (sdK k a b j).2 = B at *
      generalize hitsN k a b x j = N at *
      go_wp2_with (first | (go_at_call 47; fail))
      refine (l02Share_any _ _ _ _ _ HJ.out H.out.2.1).mono ?_
      rintro e w2 ⟨rfl, r0, hg2⟩
      have r1 := H.out.2.2.grown hg2 (by simp)
      have HBL : Below w.heap.size w w2 := Below.grown H.out.1 hg2 H.out.1.size (by simp)
      have H2 := Lib.hid (And.intro HBL (And.intro r0 r1))
      clear r0 r1 hg2 HBL H
      cases hlb : ltB (shK k A B) x with
      | true =>
        have hl : (FloatKind.f32.format.order (shK k A B) x == some Ordering.lt) = true := hlb
        have HL := Lib.hid hlb
        clear hlb
        go_wp2_with fail
        go_roundw
        case rel => exact ⟨j + 1, by omega, by congr 1; omega, by rw [HN.out, if_pos HL.out]; go_num, by rw [HE.out]; exact H2.out⟩
        case measure => simp [intOf]; omega
      | false =>
        have hl : (FloatKind.f32.format.order (shK k A B) x == some Ordering.lt) = false := hlb
        have HL := Lib.hid hlb
        clear hlb
        go_wp2_with fail
        go_roundw
        case rel => exact ⟨j + 1, by omega, by congr 1; omega, by rw [HN.out, if_neg (by rw [HL.out]; exact Bool.false_ne_true)], by rw [HE.out]; exact H2.out⟩
        case measure => simp [intOf]; omega
    · obtain rfl : j = n := by omega
      clear hlt hj
      go_wp2_with fail
      obtain ⟨HBL, q0, q1⟩ := H.out
      exact bodyPost_ret (v := .tuple #[sd k (sdK k a b j).1 (sdK k a b j).2, .int .i64 (hitsN k a b x j), .bool true]) (by simp [results, Try.results20, go_sem, hc1]) rfl ⟨rfl, (by repeat (first | with_reducible exact Below.refl _ _ | with_reducible exact HBL | with_reducible refine Below.drew ?_ | with_reducible refine Bel_drewN ?_ _ | with_reducible refine Below.alloc ?_ (by first | omega | (simp; done) | (simp; omega)) _ | with_reducible refine Below.setCell ?_ (by first | omega | (simp; done) | (simp; omega)) _))⟩
theorem specHits_no (k : Int) (a b : Nat) (n : Int) (x : Nat) (w : World) (h : ¬(vSeed k a b = true ∧ (0 ≤ n ∧ n ≤ 256) ∧ partB x = true)) :
    Calls Try.prog 20 #[sd k a b, .int .i64 n, .float .f32 x] w (RetB (.tuple #[sd 0 0 0, .int .i64 0, .bool false]) w) := by
  have p0 := Lib.hid ((Whole.made w 25 (sdC k a b)).alloc (.cells (sdC 0 0 0) 25))
  cases hv : vSeed k a b with
  | false =>
    clear h
    go_enter Try.func20, Try.ntmps20
    go_wp2_with fail
    refine (l02Is_any _ _ _ _ _ p0.out).mono ?_
    rintro e w1 ⟨rfl, rfl⟩
    rw [hv]
    go_wp2_with fail
    exact bodyPost_ret (v := .tuple #[sd 0 0 0, .int .i64 0, .bool false]) (by simp [results, Try.results20, go_sem]) rfl ⟨rfl, (by repeat (first | with_reducible exact Below.refl _ _ | with_reducible exact HBL | with_reducible refine Below.drew ?_ | with_reducible refine Bel_drewN ?_ _ | with_reducible refine Below.alloc ?_ (by first | omega | (simp; done) | (simp; omega)) _ | with_reducible refine Below.setCell ?_ (by first | omega | (simp; done) | (simp; omega)) _))⟩
  | true =>
    by_cases h0 : 0 ≤ n ∧ n ≤ 256
    · have HP : Hid (partB x = false) := Lib.hid (by
        cases hp : partB x with
        | false => rfl
        | true => exact absurd ⟨hv, h0, hp⟩ h)
      have H0 := Lib.hid h0
      clear h h0
      go_enter Try.func20, Try.ntmps20
      go_wp2_with fail
      refine (l02Is_any _ _ _ _ _ p0.out).mono ?_
      rintro e w1 ⟨rfl, rfl⟩
      rw [hv]
      go_wp2_with fail
      refine (l00In_yes _ _ _ H0.out.1 H0.out.2 _).mono ?_
      rintro e w1 ⟨rfl, rfl⟩
      go_wp2_with (first | (go_at_call 51; fail))
      refine (l02Part_any _ _).mono ?_
      rintro e w1 ⟨rfl, rfl⟩
      rw [HP.out]
      go_wp2_with fail
      exact bodyPost_ret (v := .tuple #[sd 0 0 0, .int .i64 0, .bool false]) (by simp [results, Try.results20, go_sem]) rfl ⟨rfl, (by repeat (first | with_reducible exact Below.refl _ _ | with_reducible exact HBL | with_reducible refine Below.drew ?_ | with_reducible refine Bel_drewN ?_ _ | with_reducible refine Below.alloc ?_ (by first | omega | (simp; done) | (simp; omega)) _ | with_reducible refine Below.setCell ?_ (by first | omega | (simp; done) | (simp; omega)) _))⟩
    · have H0 : Hid (n < 0 ∨ 256 < n) := Lib.hid (by omega)
      clear h h0
      go_enter Try.func20, Try.ntmps20
      go_wp2_with fail
      refine (l02Is_any _ _ _ _ _ p0.out).mono ?_
      rintro e w1 ⟨rfl, rfl⟩
      rw [hv]
      go_wp2_with fail
      refine (l00In_no _ _ _ H0.out _).mono ?_
      rintro e w1 ⟨rfl, rfl⟩
      go_wp2_with fail
      exact bodyPost_ret (v := .tuple #[sd 0 0 0, .int .i64 0, .bool false]) (by simp [results, Try.results20, go_sem]) rfl ⟨rfl, (by repeat (first | with_reducible exact Below.refl _ _ | with_reducible exact HBL | with_reducible refine Below.drew ?_ | with_reducible refine Bel_drewN ?_ _ | with_reducible refine Below.alloc ?_ (by first | omega | (simp; done) | (simp; omega)) _ | with_reducible refine Below.setCell ?_ (by first | omega | (simp; done) | (simp; omega)) _))⟩
end Go.Proofs.Ytnofikeeobahjaa
