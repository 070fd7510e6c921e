/- Walkers, and MeetWalks. -/
import Derived.Test.YtgeomaeccalceaaWkb
import Derived.Lib.MinMax
import Derived.BigQuiet
namespace Go.Proofs.Ytgeomaeccalceaa
open Go Go.RowKit Fl Vag
set_option linter.unusedVariables false

/-- The least one and the greatest one of the first k, and of the first one. -/
def mnA (xs : List Int) : Nat → Int
  | 0 => xs[0]?.getD 0
  | k + 1 => min (mnA xs k) (xs[k]?.getD 0)
def mxA (xs : List Int) : Nat → Int
  | 0 => xs[0]?.getD 0
  | k + 1 => max (mxA xs k) (xs[k]?.getD 0)
theorem mn_le (xs : List Int) : ∀ k, (mnA xs k ≤ xs[0]?.getD 0 ∧ xs[0]?.getD 0 ≤ mxA xs k) ∧ ∀ i, i < k → mnA xs k ≤ xs[i]?.getD 0 ∧ xs[i]?.getD 0 ≤ mxA xs k
  | 0 => ⟨⟨Int.le_refl _, Int.le_refl _⟩, fun i hi => absurd hi (Nat.not_lt_zero _)⟩
  | k + 1 => by
    obtain ⟨⟨h1, h2⟩, h3⟩ := mn_le xs k
    have e1 : mnA xs (k + 1) = min (mnA xs k) (xs[k]?.getD 0) := rfl
    have e2 : mxA xs (k + 1) = max (mxA xs k) (xs[k]?.getD 0) := rfl
    refine ⟨⟨by omega, by omega⟩, fun i hi => ?_⟩
    by_cases e : i = k
    · subst e; omega
    · have := h3 i (by omega); omega
theorem mn_eq {xs : List Int} : ∀ {k : Nat}, (∀ i, i < k → xs[i]?.getD 0 = xs[0]?.getD 0) → mnA xs k = xs[0]?.getD 0 ∧ mxA xs k = xs[0]?.getD 0
  | 0, _ => ⟨rfl, rfl⟩
  | k + 1, h => by
    obtain ⟨h1, h2⟩ := mn_eq (k := k) (fun i hi => h i (by omega))
    have e1 : mnA xs (k + 1) = min (mnA xs k) (xs[k]?.getD 0) := rfl
    have e2 : mxA xs (k + 1) = max (mxA xs k) (xs[k]?.getD 0) := rfl
    have := h k (by omega)
    omega
/-- All of them are equal. -/
def oneAt (xs : List Int) (n : Nat) : Prop := ∀ i, i < n → xs[i]?.getD 0 = xs[0]?.getD 0
theorem mn_mx (xs : List Int) (n : Nat) : mnA xs n = mxA xs n ↔ oneAt xs n := by
  refine ⟨fun h i hi => ?_, fun h => by obtain ⟨h1, h2⟩ := mn_eq h; omega⟩
  obtain ⟨⟨h1, h2⟩, h3⟩ := mn_le xs n
  have := h3 i hi
  omega
set_option maxHeartbeats 1000000 in
theorem minA_any (xs : List Int) (n : Nat) (hn : xs.length = n) (ao : Option Addr) (c : Nat) (w : World) (hx : Holds w ao (il xs)) (h1 : 1 ≤ n) (hl : n ≤ 1048576) :
    Calls Try.prog 117 #[.slice ao n c] w (fun e w' => e = .returned (.int .i64 (mnA xs n)) ∧ w = w') := by
  have HX := Lib.hid (And.intro hx hn)
  obtain ⟨b, o, hao, hc⟩ := hx 0 (by rw [il_len]; omega)
  rw [il_get _ _ (by omega), Nat.add_zero] at hc
  have H1 : Hid (mnA xs 1 = xs[0]?.getD 0) := Lib.hid (by show min (xs[0]?.getD 0) (xs[0]?.getD 0) = _; omega)
  generalize xs[0]?.getD 0 = x0 at hc H1
  subst hao
  clear hx hn
  go_enter Try.func117, Try.ntmps117
  go_wp2_with fail
  clear hc
  go_loop [3, 4] (fun m i => ∃ k : Nat, 1 ≤ k ∧ k ≤ n ∧ i = .int .i64 (k : Int) ∧ m = .int .i64 (mnA xs k)) (fun _ i => n - (intOf i).toNat)
  case atStart => exact ⟨1, Nat.le_refl _, h1, rfl, by rw [H1.out]⟩
  case round =>
    obtain ⟨k, hk1, hk, rfl, rfl⟩ := hrel
    by_cases hlt : k < n
    · obtain ⟨b', o', e, hc⟩ := HX.out.1 k (by rw [il_len]; have := HX.out.2; omega)
      obtain ⟨rfl, rfl⟩ : b = b' ∧ o = o' := by simpa using e
      rw [il_get _ _ (by have := HX.out.2; omega)] at hc
      have hlt' : (k : Int) < n := by omega
      have HM : Hid (mnA xs (k + 1) = min (mnA xs k) (xs[k]?.getD 0)) := Lib.hid rfl
      generalize xs[k]?.getD 0 = x at hc HM
      generalize mnA xs k = m at HM ⊢
      go_wp2_with fail
      go_round
      case rel => exact ⟨k + 1, by omega, by omega, by go_num, by rw [HM.out]⟩
      case measure => simp [intOf]; omega
    · have e : k = n := by omega
      subst e
      go_wp2_with fail
      go_ret
      exact ⟨rfl, rfl⟩
set_option maxHeartbeats 1000000 in
theorem maxA_any (xs : List Int) (n : Nat) (hn : xs.length = n) (ao : Option Addr) (c : Nat) (w : World) (hx : Holds w ao (il xs)) (h1 : 1 ≤ n) (hl : n ≤ 1048576) :
    Calls Try.prog 118 #[.slice ao n c] w (fun e w' => e = .returned (.int .i64 (mxA xs n)) ∧ w = w') := by
  have HX := Lib.hid (And.intro hx hn)
  obtain ⟨b, o, hao, hc⟩ := hx 0 (by rw [il_len]; omega)
  rw [il_get _ _ (by omega), Nat.add_zero] at hc
  have H1 : Hid (mxA xs 1 = xs[0]?.getD 0) := Lib.hid (by show max (xs[0]?.getD 0) (xs[0]?.getD 0) = _; omega)
  generalize xs[0]?.getD 0 = x0 at hc H1
  subst hao
  clear hx hn
  go_enter Try.func118, Try.ntmps118
  go_wp2_with fail
  clear hc
  go_loop [3, 4] (fun m i => ∃ k : Nat, 1 ≤ k ∧ k ≤ n ∧ i = .int .i64 (k : Int) ∧ m = .int .i64 (mxA xs k)) (fun _ i => n - (intOf i).toNat)
  case atStart => exact ⟨1, Nat.le_refl _, h1, rfl, by rw [H1.out]⟩
  case round =>
    obtain ⟨k, hk1, hk, rfl, rfl⟩ := hrel
    by_cases hlt : k < n
    · obtain ⟨b', o', e, hc⟩ := HX.out.1 k (by rw [il_len]; have := HX.out.2; omega)
      obtain ⟨rfl, rfl⟩ : b = b' ∧ o = o' := by simpa using e
      rw [il_get _ _ (by have := HX.out.2; omega)] at hc
      have hlt' : (k : Int) < n := by omega
      have HM : Hid (mxA xs (k + 1) = max (mxA xs k) (xs[k]?.getD 0)) := Lib.hid rfl
      generalize xs[k]?.getD 0 = x at hc HM
      generalize mxA xs k = m at HM ⊢
      go_wp2_with fail
      go_round
      case rel => exact ⟨k + 1, by omega, by omega, by go_num, by rw [HM.out]⟩
      case measure => simp [intOf]; omega
    · have e : k = n := by omega
      subst e
      go_wp2_with fail
      go_ret
      exact ⟨rfl, rfl⟩
set_option maxHeartbeats 1000000 in
theorem haveMet_any (xs : List Int) (n : Nat) (t : Int) (hn : xs.length = n) (v : Bool) (hv : v = true ↔ oneAt xs n) (ao : Option Addr) (c : Nat) (w : World) (hx : Holds w ao (il xs)) (h1 : 1 ≤ n) (hl : n ≤ 1048576) :
    Calls Try.prog 74 #[.agg #[.slice ao n c, .int .i64 t]] w (RetB (.bool v) w) := by
  have HX := Lib.hid (And.intro hx hn)
  have HV : Hid (decide (mnA xs n = mxA xs n) = v) := Lib.hid (by rw [Bool.eq_iff_iff, decide_eq_true_eq, mn_mx]; exact hv.symm)
  clear hx hv hn
  have HB : Hid (Below w.heap.size w (w.alloc (.cells #[.slice ao n c, .int .i64 t] 103))) := Lib.hid (by repeat (first | with_reducible exact Below.refl _ _ | with_reducible exact HBL | with_reducible refine Below.drew ?_ | with_reducible refine Bel_drewN ?_ _ | with_reducible refine Below.alloc ?_ (by first | omega | (simp; done) | (simp; omega)) _ | with_reducible refine Below.setCell ?_ (by first | omega | (simp; done) | (simp; omega)) _))
  obtain ⟨p, hp⟩ : ∃ p, mnA xs n = p := ⟨_, rfl⟩
  obtain ⟨q, hq⟩ : ∃ q, mxA xs n = q := ⟨_, rfl⟩
  have HP := Lib.hid (And.intro hp hq)
  have hpq : Hid ((p == q) = v) := Lib.hid (by rw [← HV.out, ← hp, ← hq]; rfl)
  clear hp hq
  go_enter Try.func74, Try.ntmps74
  go_wp2_with fail
  go_quiet (first
    | (go_at_call 117; exact quiet_same' (HP.out.1 ▸ minA_any xs n HX.out.2 _ _ _ ((HX.out.1.below HB.out).below (Below.refl _ _ |> fun h => Bel_drewN h _)) h1 hl))
    | (go_at_call 118; exact quiet_same' (HP.out.2 ▸ maxA_any xs n HX.out.2 _ _ _ ((HX.out.1.below HB.out).below (Below.refl _ _ |> fun h => Bel_drewN h _)) h1 hl)))
  go_wp2
  go_ret
  exact ⟨by rw [← hpq.out]; rfl, (by repeat (first | with_reducible exact Below.refl _ _ | with_reducible exact HBL | with_reducible refine Below.drew ?_ | with_reducible refine Bel_drewN ?_ _ | with_reducible refine Below.alloc ?_ (by first | omega | (simp; done) | (simp; omega)) _ | with_reducible refine Below.setCell ?_ (by first | omega | (simp; done) | (simp; omega)) _))⟩
/-- All but two blocks are as they were. -/
structure Duo (g h : Nat) (w w' : World) : Prop where
  os : w'.os = w.os
  tape : w'.tape = w.tape
  output : w'.output = w.output
  size : w.heap.size ≤ w'.heap.size
  block : ∀ k, k < w.heap.size → k ≠ g → k ≠ h → w'.heap[k]? = w.heap[k]?
theorem Duo.refl (g h : Nat) (w : World) : Duo g h w w := ⟨rfl, rfl, rfl, Nat.le_refl _, fun _ _ _ _ => rfl⟩
theorem Duo.trans {g h : Nat} {a b c : World} (x : Duo g h a b) (y : Duo g h b c) : Duo g h a c :=
  ⟨y.os.trans x.os, y.tape.trans x.tape, y.output.trans x.output, Nat.le_trans x.size y.size, fun k hk h1 h2 => (y.block k (Nat.lt_of_lt_of_le hk x.size) h1 h2).trans (x.block k hk h1 h2)⟩
theorem Duo.of_below {g h : Nat} {a b : World} (x : Below a.heap.size a b) : Duo g h a b := ⟨x.os, x.tape, x.output, x.size, fun k hk _ _ => x.block k hk⟩
theorem Duo.of_l {g h : Nat} {a b : World} (x : a.grownBy b (some g)) : Duo g h a b := ⟨x.os, x.tape, x.output, x.size, fun k hk h1 _ => x.block k hk (by simpa using h1)⟩
theorem Duo.of_r {g h : Nat} {a b : World} (x : a.grownBy b (some h)) : Duo g h a b := ⟨x.os, x.tape, x.output, x.size, fun k hk _ h1 => x.block k hk (by simpa using h1)⟩
theorem Duo.of_drew {g h : Nat} (a : World) : Duo g h a a.drew := ⟨rfl, rfl, rfl, Nat.le_refl _, fun _ _ _ _ => rfl⟩
theorem Duo.put {g h : Nat} {w a : World} (x : Duo g h w a) {p : Addr} (hp : w.heap.size ≤ p.block) (u : Value) : Duo g h w (a.setCell p u) :=
  ⟨x.os, x.tape, x.output, by simpa using x.size, fun k hk h1 h2 => (Below.heap_setCell a p u k (by omega)).trans (x.block k hk h1 h2)⟩
theorem Duo.more {g h p : Nat} {w a b : World} (x : Duo g h w a) (y : Duo p h a b) (hp : w.heap.size ≤ p) : Duo g h w b :=
  ⟨y.os.trans x.os, y.tape.trans x.tape, y.output.trans x.output, Nat.le_trans x.size y.size, fun k hk h1 h2 => (y.block k (Nat.lt_of_lt_of_le hk x.size) (by omega) h2).trans (x.block k hk h1 h2)⟩
theorem Duo.bel {g h B : Nat} {w0 a b : World} (x : Below B w0 a) (y : Duo g h a b) (hz : B ≤ a.heap.size) (h1 : B ≤ g) (h2 : B ≤ h) : Below B w0 b :=
  ⟨y.os.trans x.os, y.tape.trans x.tape, y.output.trans x.output, Nat.le_trans x.size y.size, fun k hk => (y.block k (by omega) (by omega) (by omega)).trans (x.block k hk)⟩
theorem Whole.two {g h q : Nat} {a b : World} {t : TypeId} {cs : Array Value} (x : Whole a q t cs) (y : Duo g h a b) (h1 : q ≠ g) (h2 : q ≠ h) : Whole b q t cs := (y.block q x.lt h1 h2).trans x
theorem Holds.two {g h bl o : Nat} {a b : World} {vs : List Value} (x : Holds a (some ⟨bl, o, none⟩) vs) (y : Duo g h a b) (h1 : bl ≠ g) (h2 : bl ≠ h) : Holds b (some ⟨bl, o, none⟩) vs := fun i hi => by
  obtain ⟨b', o', e, hc⟩ := x i hi
  cases e
  exact ⟨bl, o, rfl, (World.cell?_of_block (y.block bl (World.block_lt_of_cell? _ _ hc) h1 h2)).trans hc⟩
/-- Where the walkers are behind one more share. -/
def goL (n : Nat) (ss : List Nat) (u : Nat) (xs : List Int) : List Int := xs.map fun x => ((onF (rowA n x.toNat ss) u n 0 0 : Nat) : Int)
theorem goL_len (n : Nat) (ss : List Nat) (u : Nat) (xs : List Int) : (goL n ss u xs).length = xs.length := by simp [goL]
/-- Each of them is at a state. -/
def atStates (n : Nat) (xs : List Int) : Prop := ∀ i, i < xs.length → ∃ y : Nat, xs[i]?.getD 0 = (y : Int) ∧ y < n
theorem goL_get {n : Nat} {ss : List Nat} {u : Nat} {xs : List Int} {i : Nat} (hi : i < xs.length) : (goL n ss u xs)[i]?.getD 0 = ((onF (rowA n (xs[i]?.getD 0).toNat ss) u n 0 0 : Nat) : Int) := by
  unfold goL; rw [List.getElem?_map, List.getElem?_eq_getElem hi]; rfl
theorem atStates.go {n : Nat} {ss : List Nat} {u : Nat} {xs : List Int} (h : atStates n xs) (hn : 1 ≤ n) : atStates n (goL n ss u xs) := fun i hi => by
  rw [goL_len] at hi
  exact ⟨_, goL_get hi, onF_lt (by omega) (by omega)⟩
/-- The first k have gone on. -/
def mixL (n : Nat) (ss : List Nat) (u : Nat) (xs : List Int) (k : Nat) : List Int := (goL n ss u xs).take k ++ xs.drop k
theorem mixL_len (n : Nat) (ss : List Nat) (u : Nat) (xs : List Int) (k : Nat) (hk : k ≤ xs.length) : (mixL n ss u xs k).length = xs.length := by
  unfold mixL; rw [List.length_append, List.length_take, List.length_drop, goL_len]; omega
theorem mixL_zero (n : Nat) (ss : List Nat) (u : Nat) (xs : List Int) : mixL n ss u xs 0 = xs := by unfold mixL; simp
theorem mixL_all (n : Nat) (ss : List Nat) (u : Nat) (xs : List Int) : mixL n ss u xs xs.length = goL n ss u xs := by
  unfold mixL; rw [List.drop_length, List.append_nil, List.take_of_length_le (by rw [goL_len]; exact Nat.le_refl _)]
theorem mixL_at {n : Nat} {ss : List Nat} {u : Nat} {xs : List Int} {k : Nat} (hk : k < xs.length) : (mixL n ss u xs k)[k]?.getD 0 = xs[k]?.getD 0 := by
  unfold mixL
  rw [List.getElem?_append_right (by rw [List.length_take, goL_len]; omega), List.length_take, goL_len, List.getElem?_drop]
  congr 2; omega
theorem mixL_next {n : Nat} {ss : List Nat} {u : Nat} {xs : List Int} {k : Nat} (hk : k < xs.length) : (mixL n ss u xs k).set k ((onF (rowA n (xs[k]?.getD 0).toNat ss) u n 0 0 : Nat) : Int) = mixL n ss u xs (k + 1) := by
  apply List.ext_getElem?
  intro i
  have hl := mixL_len n ss u xs k (by omega)
  rw [List.getElem?_set]
  by_cases e : k = i
  · subst e
    rw [if_pos rfl, if_pos (by omega)]
    unfold mixL
    rw [List.getElem?_append_left (by rw [List.length_take, goL_len]; omega), List.getElem?_take_of_lt (by omega)]
    have h1 := goL_get (n := n) (ss := ss) (u := u) hk
    have h2 : k < (goL n ss u xs).length := by rw [goL_len]; exact hk
    rw [List.getElem?_eq_getElem h2] at h1 ⊢
    rw [← h1]; rfl
  · rw [if_neg e]
    unfold mixL
    by_cases e2 : i < k
    · rw [List.getElem?_append_left (by rw [List.length_take, goL_len]; omega), List.getElem?_take_of_lt e2, List.getElem?_append_left (by rw [List.length_take, goL_len]; omega), List.getElem?_take_of_lt (by omega)]
    · rw [List.getElem?_append_right (by rw [List.length_take, goL_len]; omega), List.getElem?_append_right (by rw [List.length_take, goL_len]; omega), List.length_take, List.length_take, goL_len, List.getElem?_drop, List.getElem?_drop]
      congr 1; omega
set_option maxRecDepth 100000 in
set_option maxHeartbeats 4000000 in
theorem wgoOn_any (ss : List Nat) (xs : List Int) (n N u gw ga cN bl o m c : Nat) (t : Int) (w : World) (hw : Whole w gw 103 #[.slice (some ⟨ga, 0, none⟩) N cN, .int .i64 t]) (hr : Whole w ga 2 (il xs).toArray) (hne : gw ≠ ga) (hN : xs.length = N) (hat : atStates n xs) (hC : isChain n ss) (hm : ss.length = m) (hc : m ≤ c) (hx : Holds w (some ⟨bl, o, none⟩) (fl .f32 ss)) (h1 : bl ≠ gw) (h2 : bl ≠ ga) (ht : 0 ≤ t ∧ t ≤ 1048576) (hN2 : N ≤ 1048576) :
    Calls Try.prog 78 #[.pointer (some ⟨gw, 0, none⟩), .agg #[.int .i64 n, .slice (some ⟨bl, o, none⟩) m c], .float .f32 u] w (fun e w' => e = .returned (.tuple #[]) ∧ Whole w' gw 103 #[.slice (some ⟨ga, 0, none⟩) N cN, .int .i64 (t + 1)] ∧ Whole w' ga 2 (il (goL n ss u xs)).toArray ∧ Duo gw ga w w') := by
  have HX := Lib.hid (And.intro hx (And.intro hC (And.intro hm hc)))
  have HN := Lib.hid (And.intro hN (And.intro hat hne))
  have H0 := Lib.hid (And.intro hw hr)
  have hz1 := hw.lt
  have hz2 := hr.lt
  obtain ⟨hcw, hfw⟩ := hw.facts
  have hn12 : n ≤ 12 := by have := hC.side; omega
  have HMM : Hid (m = n * n) := Lib.hid (by rw [← hm]; exact hC.lenN)
  clear hw hr hN hat hC hm hc hx
  go_enter Try.func78, Try.ntmps78
  go_wp2_with fail
  generalize hW : World.alloc w _ = w0
  have HL : Hid (Whole w0 w.heap.size 34 #[.int .i64 n, .slice (some ⟨bl, o, none⟩) m c] ∧ Whole w0 gw 103 #[.slice (some ⟨ga, 0, none⟩) N cN, .int .i64 t] ∧ Whole w0 ga 2 (il (mixL n ss u xs 0)).toArray ∧ Duo gw ga w w0) := Lib.hid (by
    rw [← hW, mixL_zero]
    exact ⟨Whole.made _ _ _, H0.out.1.alloc _, H0.out.2.alloc _, Duo.of_below (by repeat (first | with_reducible exact Below.refl _ _ | with_reducible exact HBL | with_reducible refine Below.drew ?_ | with_reducible refine Bel_drewN ?_ _ | with_reducible refine Below.alloc ?_ (by first | omega | (simp; done) | (simp; omega)) _ | with_reducible refine Below.setCell ?_ (by first | omega | (simp; done) | (simp; omega)) _))⟩)
  clear hW hcw hfw H0
  go_loopw [13] (fun i wr => ∃ k : Nat, k ≤ N ∧ i = .int .i64 k ∧ Whole wr w.heap.size 34 #[.int .i64 n, .slice (some ⟨bl, o, none⟩) m c] ∧ Whole wr gw 103 #[.slice (some ⟨ga, 0, none⟩) N cN, .int .i64 t] ∧ Whole wr ga 2 (il (mixL n ss u xs k)).toArray ∧ Duo gw ga w wr) (fun i _ => N - (intOf i).toNat)
  case atStart => exact ⟨0, Nat.zero_le _, rfl, HL.out⟩
  case round =>
    obtain ⟨k, hk, rfl, q0, q1, q2, q3⟩ := hrel
    have H := Lib.hid (And.intro q0 (And.intro q1 (And.intro q2 q3)))
    change Hid (_ ∧ _ ∧ _ ∧ _) at H
    have hz := q0.lt
    have hzg := q1.lt
    have hza := q2.lt
    have hkN : (k : Int) ≤ N := by omega
    obtain ⟨hcw, hfw⟩ := q1.facts
    clear HL
    by_cases hlt : k < N
    · have hlt' : (k : Int) < N := by omega
      obtain ⟨hcc, hfc⟩ := q0.facts
      have hca := tally_cell q2 k (by rw [mixL_len _ _ _ _ _ (by rw [HN.out.1]; exact hk), HN.out.1]; exact hlt)
      rw [mixL_at (by rw [HN.out.1]; exact hlt)] at hca
      have hfa := q2.frozen k
      obtain ⟨y, hy, hyn⟩ := HN.out.2.1 k (by rw [HN.out.1]; exact hlt)
      rw [hy] at hca
      have HY := Lib.hid (And.intro hy hyn)
      have HCA : Hid (∀ v, Below wr.heap.size wr v → v.cell? ⟨ga, k, none⟩ = some (.int .i64 y)) := Lib.hid (fun v hb => (Below.cell hb hza).trans hca)
      have HBB : Hid (∀ v, Below wr.drew.heap.size wr.drew v → Below wr.heap.size wr v) := Lib.hid (fun v hb => Bel_next (Below.refl _ _).drew hb)
      clear q0 q1 q2 q3 hy hyn
      go_wp2_with fail
      go_region_with (first
        | (go_at_call 71; refine (goOn_any ss n _ _ bl o m c _ (by first | exact (HX.out.1.two H.out.2.2.2 h1 h2).below (Below.refl _ _).drew | exact (HX.out.1.two H.out.2.2.2 h1 h2)) HY.out.2 hn12 HMM.out HX.out.2.2.1 HX.out.2.2.2).mono ?_; rintro e w6 ⟨rfl, hb⟩; have hbb := HBB.out _ hb; obtain ⟨hcw6, hfw6⟩ := (H.out.2.1.below hbb).facts; have hca6 := HCA.out _ hbb; have hfa6 := (H.out.2.2.1.below hbb).frozen k))
      all_goals
        have hnx := mixL_next (n := n) (ss := ss) (u := u) (xs := xs) (k := k) (by rw [HN.out.1]; exact hlt)
        rw [HY.out.1, show ((y : Int)).toNat = y from rfl] at hnx
        have hne' : w.heap.size ≠ ga := by omega
        have H6 := Lib.hid (And.intro (H.out.1.below hbb) (And.intro (H.out.2.1.below hbb) (And.intro (H.out.2.2.1.below hbb) (And.intro (H.out.2.2.2.trans (Duo.of_below hbb)) hnx))))
        change Hid (_ ∧ _ ∧ _ ∧ _ ∧ _) at H6
        clear hcw6 hfw6 hca6 hfa6 hbb hb hnx H HCA HBB hca hfa hcc hfc hcw hfw
        go_wp2_with fail
        go_roundw
        case rel => exact ⟨k + 1, by omega, by go_num, H6.out.1.far (by first | exact hne' | exact hne'.symm) _, H6.out.2.1.far (by first | exact hne | exact hne.symm) _, by rw [← H6.out.2.2.2.2]; exact tally_put H6.out.2.2.1 k _, H6.out.2.2.2.1.trans (Duo.of_r (grown_set _ _ _ _))⟩
        case measure => simp [intOf]; omega
    · obtain rfl : k = N := by omega
      go_wp2_with fail
      have e := HN.out.1
      refine bodyPost_end (v := .tuple #[]) (by simp [results, Try.results78, go_sem]) rfl ?_
      exact ⟨rfl, H.out.2.1.put 1 _, by have h3 := H.out.2.2.1.far (by first | exact hne | exact hne.symm) (p := ⟨gw, 1, none⟩) (.int .i64 (t + 1)); rw [← e, mixL_all] at h3; exact h3, H.out.2.2.2.trans (Duo.of_l (grown_set _ _ _ _))⟩
/-- Where the walkers are behind j shares. -/
def atL (n : Nat) (ss : List Nat) (k : Int) (a b : Nat) (xs : List Int) : Nat → List Int
  | 0 => xs
  | j + 1 => goL n ss (shK k (sdK k a b j).1 (sdK k a b j).2) (atL n ss k a b xs j)
theorem atL_len (n : Nat) (ss : List Nat) (k : Int) (a b : Nat) (xs : List Int) : ∀ j, (atL n ss k a b xs j).length = xs.length
  | 0 => rfl
  | j + 1 => by
    show (goL _ _ _ _).length = _
    rw [goL_len, atL_len n ss k a b xs j]
theorem atL_st {n : Nat} {ss : List Nat} {k : Int} {a b : Nat} {xs : List Int} (hn : 1 ≤ n) (h : atStates n xs) : ∀ j, atStates n (atL n ss k a b xs j)
  | 0 => h
  | j + 1 => (atL_st hn h j).go hn
/-- The number in a cell. -/
def cellInt (w : World) (g o : Nat) : Int := match w.cell? ⟨g, o, none⟩ with | some (.int _ i) => i | _ => 0
theorem cellInt_of {w : World} {g o : Nat} {k : IntKind} {i : Int} (h : w.cell? ⟨g, o, none⟩ = some (.int k i)) : cellInt w g o = i := by unfold cellInt; rw [h]
theorem holds_lt {w : World} {bl o : Nat} {vs : List Value} (h : Holds w (some ⟨bl, o, none⟩) vs) (h1 : 0 < vs.length) : bl < w.heap.size := by
  obtain ⟨b, o', e, hc⟩ := h 0 h1
  cases e
  exact World.block_lt_of_cell? _ _ hc
set_option maxRecDepth 100000 in
set_option maxHeartbeats 4000000 in
theorem until_any (ss : List Nat) (xs : List Int) (n N gd ga cN bl o m c q : Nat) (k : Int) (a b : Nat) (w : World) (hs : sOk k a b) (hd : Whole w gd 99 (sdC k a b)) (hr : Whole w ga 2 (il xs).toArray) (hne : gd ≠ ga) (hN : xs.length = N) (hN1 : 1 ≤ N) (hat : atStates n xs) (hC : isChain n ss) (hm : ss.length = m) (hc : m ≤ c) (hx : Holds w (some ⟨bl, o, none⟩) (fl .f32 ss)) (h1 : bl ≠ gd) (h2 : bl ≠ ga) (hN2 : N ≤ 1048576) (hq : q ≤ 512) :
    Calls Try.prog 73 #[.pointer (some ⟨gd, 0, none⟩), .agg #[.int .i64 n, .slice (some ⟨bl, o, none⟩) m c], .slice (some ⟨ga, 0, none⟩) N cN, .int .i64 q, .func (.func 74) #[] #[]] w (fun e w' => ∃ T, T ≤ q ∧ e = .returned (.agg #[.slice (some ⟨ga, 0, none⟩) N cN, .int .i64 (T : Nat)]) ∧ (∀ i, i < T → ¬oneAt (atL n ss k a b xs i) N) ∧ (oneAt (atL n ss k a b xs T) N ∨ T = q) ∧ Whole w' gd 99 (sdC k (sdK k a b T).1 (sdK k a b T).2) ∧ Whole w' ga 2 (il (atL n ss k a b xs T)).toArray ∧ Duo gd ga w w') := by
  have HS := Lib.hid hs
  have HX := Lib.hid (And.intro hx (And.intro hC (And.intro hm hc)))
  have HN := Lib.hid (And.intro hN (And.intro hat hne))
  have H0 := Lib.hid (And.intro hd hr)
  have hz1 := hd.lt
  have hz2 := hr.lt
  have hn1 : 1 ≤ n := by have := hC.side; omega
  have hbl := holds_lt hx (by rw [fl_len32, hC.lenN]; exact Nat.mul_pos hn1 hn1)
  have hq1 : (q : Int) ≤ 512 := by omega
  clear hs hd hr hN hat hC hm hc hx
  go_enter Try.func73, Try.ntmps73
  go_wp2_with fail
  generalize hW : World.alloc (World.alloc (World.alloc w _) _) _ = w0
  have HL : Hid (Whole w0 w.heap.size 34 #[.int .i64 n, .slice (some ⟨bl, o, none⟩) m c] ∧ Whole w0 (w.heap.size + 1) 103 #[.slice none 0 0, .int .i64 0] ∧ Whole w0 (w.heap.size + 1 + 1) 103 #[.slice (some ⟨ga, 0, none⟩) N cN, .int .i64 (0 : Nat)] ∧ Whole w0 gd 99 (sdC k (sdK k a b 0).1 (sdK k a b 0).2) ∧ Whole w0 ga 2 (il (atL n ss k a b xs 0)).toArray ∧ Duo gd ga w w0) := Lib.hid (by
    rw [← hW]
    exact ⟨((Whole.made _ _ _).alloc _).alloc _, (Whole.made2 _ _ _ _).alloc _, by simpa using Whole.made2 (w.alloc _) _ _ _, ((H0.out.1.alloc _).alloc _).alloc _, ((H0.out.2.alloc _).alloc _).alloc _, Duo.of_below (by repeat (first | with_reducible exact Below.refl _ _ | with_reducible exact HBL | with_reducible refine Below.drew ?_ | with_reducible refine Bel_drewN ?_ _ | with_reducible refine Below.alloc ?_ (by first | omega | (simp; done) | (simp; omega)) _ | with_reducible refine Below.setCell ?_ (by first | omega | (simp; done) | (simp; omega)) _))⟩)
  clear hW H0
  go_loopw [] (fun wr => ∃ j : Nat, j ≤ q ∧ (∀ i, i < j → ¬oneAt (atL n ss k a b xs i) N) ∧ Whole wr w.heap.size 34 #[.int .i64 n, .slice (some ⟨bl, o, none⟩) m c] ∧ Whole wr (w.heap.size + 1) 103 #[.slice none 0 0, .int .i64 0] ∧ Whole wr (w.heap.size + 1 + 1) 103 #[.slice (some ⟨ga, 0, none⟩) N cN, .int .i64 (j : Nat)] ∧ Whole wr gd 99 (sdC k (sdK k a b j).1 (sdK k a b j).2) ∧ Whole wr ga 2 (il (atL n ss k a b xs j)).toArray ∧ Duo gd ga w wr) (fun wr => q - (cellInt wr (w.heap.size + 1 + 1) 1).toNat)
  case atStart => exact ⟨0, Nat.zero_le _, fun i hi => absurd hi (Nat.not_lt_zero _), HL.out⟩
  case round =>
    obtain ⟨j, hj, hno, q0, q1, q2, q3, q4, q5⟩ := hrel
    have H := Lib.hid (And.intro q0 (And.intro q1 (And.intro q2 (And.intro q3 (And.intro q4 (And.intro q5 hno))))))
    change Hid (_ ∧ _ ∧ _ ∧ _ ∧ _ ∧ _ ∧ _) at H
    have hzw := q2.lt
    have hjq : (j : Int) ≤ q := by omega
    obtain ⟨hcw, hfw⟩ := q2.facts
    obtain ⟨hc1, hf1⟩ := q1.facts
    have HCI : Hid (cellInt wr (w.heap.size + 1 + 1) 1 = j) := Lib.hid (cellInt_of (q2.cell 1))
    clear HL q0 q1 q2 q3 q4 q5 hno
    by_cases hlt : j < q
    · have hlt' : (j : Int) < q := by omega
      by_cases ho : oneAt (atL n ss k a b xs j) N
      · have HO := Lib.hid ho
        clear ho
        go_wp2_with (first | (go_at_call 74; fail))
        refine (haveMet_any (atL n ss k a b xs j) N _ ((atL_len _ _ _ _ _ _ _).trans HN.out.1) true ⟨fun _ => HO.out, fun _ => rfl⟩ _ _ _ (tally_row H.out.2.2.2.2.1 (Nat.zero_le _) (Nat.lt_succ_self _)).holds hN1 hN2).mono ?_
        rintro e w1 ⟨rfl, hb⟩
        have HE := Lib.hid (And.intro (H.out.2.1.below hb) (And.intro (H.out.2.2.1.below hb) (And.intro (H.out.2.2.2.1.below hb) (And.intro (H.out.2.2.2.2.1.below hb) (H.out.2.2.2.2.2.1.trans (Duo.of_below hb))))))
        change Hid (_ ∧ _ ∧ _ ∧ _ ∧ _) at HE
        have HNO := Lib.hid H.out.2.2.2.2.2.2
        clear hb H hcw hfw hc1 hf1
        have hzw := HE.out.2.1.lt
        obtain ⟨hcw, hfw⟩ := HE.out.2.1.facts
        obtain ⟨hc1, hf1⟩ := HE.out.1.facts
        go_wp2_with fail
        exact bodyPost_ret (v := .agg #[.slice (some ⟨ga, 0, none⟩) N cN, .int .i64 (j : Nat)]) (by simp [results, Try.results73, go_sem, hc1]) rfl ⟨j, hj, rfl, HNO.out, .inl HO.out, (HE.out.2.2.1.far (by simp; omega) _).far (by simp; omega) _, (HE.out.2.2.2.1.far (by simp; omega) _).far (by simp; omega) _, (HE.out.2.2.2.2.put (by simp) _).put (by simp) _⟩
      · have HO := Lib.hid ho
        clear ho
        go_wp2_with (first | (go_at_call 74; fail))
        refine (haveMet_any (atL n ss k a b xs j) N _ ((atL_len _ _ _ _ _ _ _).trans HN.out.1) false ⟨fun h => by (cases h), fun h => absurd h HO.out⟩ _ _ _ (tally_row H.out.2.2.2.2.1 (Nat.zero_le _) (Nat.lt_succ_self _)).holds hN1 hN2).mono ?_
        rintro e w1 ⟨rfl, hb⟩
        have HE := Lib.hid (And.intro (H.out.1.below hb) (And.intro (H.out.2.1.below hb) (And.intro (H.out.2.2.1.below hb) (And.intro (H.out.2.2.2.1.below hb) (And.intro (H.out.2.2.2.2.1.below hb) (H.out.2.2.2.2.2.1.trans (Duo.of_below hb)))))))
        change Hid (_ ∧ _ ∧ _ ∧ _ ∧ _ ∧ _) at HE
        have HNO := Lib.hid H.out.2.2.2.2.2.2
        clear hb H hcw hfw hc1 hf1
        have hzw := HE.out.2.2.1.lt
        obtain ⟨hcc, hfc⟩ := HE.out.1.facts
        have HJ := Lib.hid (HS.out.sdK j)
        have HG : Hid (∀ v, w1.drew.grownBy v (some gd) → Whole v (w.heap.size + 1 + 1) 103 #[.slice (some ⟨ga, 0, none⟩) N cN, .int .i64 (j : Nat)] ∧ Whole v ga 2 (il (atL n ss k a b xs j)).toArray ∧ Holds v (some ⟨bl, o, none⟩) (fl .f32 ss) ∧ Duo gd ga w v ∧ Whole v w.heap.size 34 #[.int .i64 n, .slice (some ⟨bl, o, none⟩) m c] ∧ Whole v (w.heap.size + 1) 103 #[.slice none 0 0, .int .i64 0]) := Lib.hid (fun v hg => by
          have hg' : w1.grownBy v (some gd) := grown_trans (grown_drew (grown_refl _ _)) hg
          exact ⟨HE.out.2.2.1.grown hg' (by simp; omega), HE.out.2.2.2.2.1.grown hg' (by simpa using fun e => hne e.symm), (HX.out.1.two HE.out.2.2.2.2.2 h1 h2).two (Duo.of_l (g := gd) (h := ga) hg') h1 h2, HE.out.2.2.2.2.2.trans (Duo.of_l hg'), HE.out.1.grown hg' (by simp; omega), HE.out.2.1.grown hg' (by simp; omega)⟩)
        go_wp2_with fail
        go_region_with (first
          | (go_at_call 72; refine (share_any _ _ _ _ _ HJ.out (by exact HE.out.2.2.2.1)).mono ?_; rintro e w5 ⟨rfl, r0, hg⟩; obtain ⟨hcc5, hfc5⟩ := (HG.out _ hg).2.2.2.2.1.facts)
          | (go_at_call 78; refine (wgoOn_any ss _ n N _ _ ga cN bl o m c _ _ (HG.out _ hg).1 (HG.out _ hg).2.1 (by omega) ((atL_len _ _ _ _ _ _ _).trans HN.out.1) (atL_st hn1 HN.out.2.1 j) HX.out.2.1 HX.out.2.2.1 HX.out.2.2.2 (HG.out _ hg).2.2.1 (by omega) h2 (by omega) hN2).mono ?_; rintro e w6 ⟨rfl, p0, p1, p2⟩))
        all_goals
          have HG5 := Lib.hid (HG.out _ hg)
          change Hid (_ ∧ _ ∧ _ ∧ _ ∧ _ ∧ _) at HG5
          have H6 := Lib.hid (And.intro (HG5.out.2.2.2.2.1.two p2 (by omega) (by omega)) (And.intro (HG5.out.2.2.2.2.2.two p2 (by omega) (by omega)) (And.intro p0 (And.intro (r0.two p2 (by omega) hne) (And.intro p1 (HG5.out.2.2.2.1.more p2 (by omega)))))))
          change Hid (_ ∧ _ ∧ _ ∧ _ ∧ _ ∧ _) at H6
          clear p0 p1 p2 r0 hg HG HG5 hcc5 hfc5 hcc hfc HE
          go_wp2_with fail
          go_roundw
          case rel =>
            refine ⟨j + 1, by omega, fun i hi => ?_, H6.out⟩
            by_cases e : i = j
            · subst e; exact HO.out
            · exact HNO.out i (by omega)
          case measure =>
            rw [HCI.out, cellInt_of (H6.out.2.2.1.cell 1)]
            omega
    · obtain rfl : j = q := by omega
      have HE := H
      clear H
      go_wp2_with (first | (go_at_call 74; fail))
      exact bodyPost_ret (v := .agg #[.slice (some ⟨ga, 0, none⟩) N cN, .int .i64 (j : Nat)]) (by simp [results, Try.results73, go_sem, hc1]) rfl ⟨j, hj, rfl, HE.out.2.2.2.2.2.2, .inr rfl, (HE.out.2.2.2.1.far (by simp; omega) _).far (by simp; omega) _, (HE.out.2.2.2.2.1.far (by simp; omega) _).far (by simp; omega) _, (HE.out.2.2.2.2.2.1.put (by simp) _).put (by simp) _⟩
end Go.Proofs.Ytgeomaeccalceaa
