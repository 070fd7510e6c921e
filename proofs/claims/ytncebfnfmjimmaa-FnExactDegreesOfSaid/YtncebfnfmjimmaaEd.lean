/- Edges: how two are compared, what a list of them is. -/
import Derived.Test.YtncebfnfmjimmaaOr
import Derived.Deep.QuietTactic
import Derived.BigQuiet
import Derived.Deep.RegionLaw
import Derived.StillTailTactics
namespace Go.Proofs.Ytncebfnfmjimmaa
open Go Go.RowKit
set_option linter.unusedVariables false

/-- A slice's length. -/
def slen : Value → Nat
  | .slice _ n _ => n
  | _ => 0
def cmpZ (x y : Int) : Int := if x < y then -1 else if y < x then 1 else 0
def orZ (x y : Int) : Int := if x = 0 then y else x
/-- The order of two pairs. -/
def cmpE (a b c d : Int) : Int := orZ (cmpZ a c) (cmpZ b d)
theorem cmpE_neg (a b c d : Int) : (cmpE a b c d < 0) ↔ (a < c ∨ (a = c ∧ b < d)) := by
  unfold cmpE orZ cmpZ
  split <;> split at * <;> (try split at *) <;> (try split) <;> omega
theorem isNaN_i (x : Int) (w : World) : Calls Try.prog 83 #[.int .i64 x] w (fun e w' => e = .returned (.bool false) ∧ w = w') := by
  go_enter Try.func83, Try.ntmps83
  go_wp2
  go_ret
  exact ⟨by simp, rfl⟩
theorem compare_i (x y : Int) (w : World) : Calls Try.prog 79 #[.int .i64 x, .int .i64 y] w (fun e w' => e = .returned (.int .i64 (cmpZ x y)) ∧ w = w') := by
  by_cases h1 : x < y
  · have HC : Hid (cmpZ x y = -1) := Lib.hid (by unfold cmpZ; rw [if_pos h1])
    go_enter Try.func79, Try.ntmps79
    go_wp2_with (first | (go_at_call 83; refine (isNaN_i _ _).mono ?_; rintro e w' ⟨rfl, rfl⟩))
    go_ret
    exact ⟨by rw [HC.out]; rfl, rfl⟩
  · by_cases h2 : y < x
    · have HC : Hid (cmpZ x y = 1) := Lib.hid (by unfold cmpZ; rw [if_neg h1, if_pos h2])
      go_enter Try.func79, Try.ntmps79
      go_wp2_with (first | (go_at_call 83; refine (isNaN_i _ _).mono ?_; rintro e w' ⟨rfl, rfl⟩))
      go_ret
      exact ⟨by rw [HC.out]; rfl, rfl⟩
    · have HC : Hid (cmpZ x y = 0) := Lib.hid (by unfold cmpZ; rw [if_neg h1, if_neg h2])
      have h1' : y ≤ x := by omega
      have h2' : x ≤ y := by omega
      clear h1 h2
      go_enter Try.func79, Try.ntmps79
      go_wp2_with (first | (go_at_call 83; refine (isNaN_i _ _).mono ?_; rintro e w' ⟨rfl, rfl⟩))
      go_ret
      exact ⟨by rw [HC.out]; rfl, rfl⟩
theorem or_i (x y : Int) (g c : Nat) (w : World) (h0 : w.cell? ⟨g, 0, none⟩ = some (.int .i64 x)) (h1 : w.cell? ⟨g, 1, none⟩ = some (.int .i64 y)) :
    Calls Try.prog 78 #[.slice (some ⟨g, 0, none⟩) 2 c] w (fun e w' => e = .returned (.int .i64 (orZ x y)) ∧ w = w') := by
  by_cases hx : x = 0
  · subst hx
    have HC : Hid (orZ 0 y = y) := Lib.hid rfl
    by_cases hy : y = 0
    · subst hy
      go_enter Try.func78, Try.ntmps78
      go_wp2
      go_loopw [8] (fun i wr => (i = .int .i64 0 ∨ i = .int .i64 1 ∨ i = .int .i64 2) ∧ wr = w) (fun i _ => 2 - (intOf i).toNat)
      case atStart => exact ⟨.inl rfl, rfl⟩
      case round =>
        obtain ⟨rfl | rfl | rfl, rfl⟩ := hrel
        · go_wp2
          go_roundw
          case rel => exact ⟨.inr (.inl rfl), by trivial⟩
          case measure => simp [intOf]
        · go_wp2
          go_roundw
          case rel => exact ⟨.inr (.inr rfl), by trivial⟩
          case measure => simp [intOf]
        · go_wp2
          go_ret
          exact ⟨by rw [HC.out]; rfl, rfl⟩
    · have hy' : (y != 0) = true := by simpa using hy
      go_enter Try.func78, Try.ntmps78
      go_wp2
      go_loopw [8] (fun i wr => (i = .int .i64 0 ∨ i = .int .i64 1) ∧ wr = w) (fun i _ => 2 - (intOf i).toNat)
      case atStart => exact ⟨.inl rfl, rfl⟩
      case round =>
        obtain ⟨rfl | rfl, rfl⟩ := hrel
        · go_wp2
          go_roundw
          case rel => exact ⟨.inr rfl, by trivial⟩
          case measure => simp [intOf]
        · go_wp2
          go_ret
          exact ⟨by rw [HC.out]; rfl, rfl⟩
  · have HC : Hid (orZ x y = x) := Lib.hid (by unfold orZ; rw [if_neg hx])
    have hx' : (x != 0) = true := by simpa using hx
    go_enter Try.func78, Try.ntmps78
    go_wp2
    go_loopw [8] (fun i wr => i = .int .i64 0 ∧ wr = w) (fun i _ => 0)
    case atStart => exact ⟨rfl, rfl⟩
    case round =>
      obtain ⟨rfl, rfl⟩ := hrel
      go_wp2
      go_ret
      exact ⟨by rw [HC.out]; rfl, rfl⟩
set_option maxHeartbeats 1000000 in
set_option maxRecDepth 100000 in
theorem compareEdges_ret (a b c d : Int) (w : World) :
    Calls Try.prog 75 #[.agg #[.int .i64 a, .int .i64 b], .agg #[.int .i64 c, .int .i64 d]] w (RetB (.int .i64 (cmpE a b c d)) w) := by
  have h1 := fun w => compare_i a c w
  have h2 := fun w => compare_i b d w
  have HC := Lib.hid (And.intro h1 h2)
  clear h1 h2
  go_enter Try.func75, Try.ntmps75
  go_wp2_with fail
  have q0 := (Whole.made w 84 #[.int .i64 a, .int .i64 b]).alloc (.cells #[.int .i64 c, .int .i64 d] 84)
  have q1 := Whole.made2 w (.cells #[.int .i64 a, .int .i64 b] 84) 84 #[.int .i64 c, .int .i64 d]
  have hbl : Below w.heap.size w ((w.alloc (.cells #[.int .i64 a, .int .i64 b] 84)).alloc (.cells #[.int .i64 c, .int .i64 d] 84)) := (by repeat (first | with_reducible exact Below.refl _ _ | with_reducible exact HBL | with_reducible refine Below.drew ?_ | with_reducible refine Bel_drewN ?_ _ | with_reducible refine Below.alloc ?_ (by first | omega | (simp; done) | (simp; omega)) _ | with_reducible refine Below.setCell ?_ (by first | omega | (simp; done) | (simp; omega)) _))
  generalize ((w.alloc (.cells #[.int .i64 a, .int .i64 b] 84)).alloc (.cells #[.int .i64 c, .int .i64 d] 84)) = w0 at q0 q1 hbl ⊢
  have HBL := hbl.drew
  have c0 : w0.drew.cell? ⟨w.heap.size, 0, none⟩ = some (.int .i64 a) := q0.cell 0
  have c1 : w0.drew.cell? ⟨w.heap.size, 1, none⟩ = some (.int .i64 b) := q0.cell 1
  have c2 : w0.drew.cell? ⟨w.heap.size + 1, 0, none⟩ = some (.int .i64 c) := q1.cell 0
  have c3 : w0.drew.cell? ⟨w.heap.size + 1, 1, none⟩ = some (.int .i64 d) := q1.cell 1
  refine wp_region_still_tail 10 (by kernel_rfl) (by kernel_rfl) ?_
  change wpStill _ _ w0.drew (fun a' => wpList _ _ _ _ a' w0.drew) _ _
  have hzz : w.heap.size + 1 < w0.drew.heap.size := q1.lt
  generalize w0.drew = w1 at *
  simp only [List.take_succ_cons, List.take_zero, List.drop_succ_cons, List.drop_zero]
  repeat still_step
  still_call ((HC.out.1 _).mono fun _ _ ⟨he, hw⟩ => ⟨he, hw.symm⟩)
  repeat still_step
  still_call ((HC.out.2 _).mono fun _ _ ⟨he, hw⟩ => ⟨he, hw.symm⟩)
  repeat still_step
  refine wpStill_nil ?_
  clear c0 c1 c2 c3
  go_wp2_with fail
  refine (or_i (cmpZ a c) (cmpZ b d) _ _ _ (by simp [go_sem]) (by simp [go_sem])).mono ?_
  rintro e w' ⟨rfl, rfl⟩
  go_wp2_with fail
  go_ret
  exact ⟨rfl, HBL.alloc (by omega) _⟩
/-- What lies before the pair j. -/
def prevA (xs : List Int) (j : Nat) : Int := if j = 0 then 0 else xs[2 * j - 2]?.getD 0
def prevB (xs : List Int) (j : Nat) : Int := if j = 0 then 0 else xs[2 * j - 1]?.getD 0
def edOk (xs : List Int) (n : Int) (j : Nat) : Prop := 0 ≤ xs[2 * j]?.getD 0 ∧ xs[2 * j]?.getD 0 < xs[2 * j + 1]?.getD 0 ∧ xs[2 * j + 1]?.getD 0 < n ∧ cmpE (prevA xs j) (prevB xs j) (xs[2 * j]?.getD 0) (xs[2 * j + 1]?.getD 0) < 0
def edTo (xs : List Int) (n : Int) (k : Nat) : Prop := ∀ j : Nat, j < k → edOk xs n j
def isEd (xs : List Int) (n : Int) : Prop := (1 ≤ n ∧ n ≤ 64) ∧ xs.length % 2 = 0 ∧ xs.length ≤ 512 ∧ edTo xs n (xs.length / 2)
theorem edTo_next {xs : List Int} {n : Int} {k : Nat} (h : edTo xs n k) (hk : edOk xs n k) : edTo xs n (k + 1) := fun j hj => by
  by_cases e : j = k
  · subst e; exact hk
  · exact h j (by omega)
/-- It returns edges in memory of its own and yes, or nothing and no. -/
def EdP (xs : List Int) (n : Int) (t : TypeId) (w : World) (e : Ending) (w' : World) : Prop :=
  (isEd xs n → ∃ v, e = .returned (.tuple #[v, .bool true]) ∧ w'.ownsRow w.heap.size t 2 v (xs.length / 2) (il xs) ∧ Below w.heap.size w w') ∧
  (¬isEd xs n → RetB (.tuple #[.slice none 0 0, .bool false]) w e w')
theorem EdP.no {xs : List Int} {n : Int} {t : TypeId} {w w' : World} {e : Ending} (h : ¬isEd xs n) (hr : RetB (.tuple #[.slice none 0 0, .bool false]) w e w') : EdP xs n t w e w' := ⟨fun hp => absurd hp h, fun _ => hr⟩
theorem EdP.yes {xs : List Int} {n : Int} {t : TypeId} {w w' : World} {e : Ending} {v : Value} (h : isEd xs n) (hr : e = .returned (.tuple #[v, .bool true])) (ho : w'.ownsRow w.heap.size t 2 v (xs.length / 2) (il xs)) (hb : Below w.heap.size w w') : EdP xs n t w e w' := ⟨fun _ => ⟨v, hr, ho, hb⟩, fun hn => absurd h hn⟩
theorem run_mkE {P : Program} (w : World) (t e : TypeId) (z : Value) (h : Nat) (hh : h ≤ 1048576) (ht : P.underlying t = some (.slice e)) (hi : (P.info? e).map (fun i => (i.zero, i.size, i.bytes)) = some (some z, 2, 16)) :
    ∃ cur : Array Value, cur.size = h * 2 ∧ (Instr.makeSlice t (.int .i64 0) (.int .i64 (h : Int))).run P w = .ok (.slice (some ⟨w.heap.size, 0, none⟩) 0 h) (w.alloc (.cells cur e)) := by
  obtain ⟨i, hi, h1, h2, h3⟩ := info_parts hi
  have hb' : (i.bytes : Int) * (h : Int) ≤ 281474976710656 := by rw [h3]; omega
  refine ⟨_, ?_, run_make w t e i z ht hi h1 .i64 .i64 0 h (Int.le_refl _) (by omega) hb' (by omega)⟩
  rw [h2]; simp [madeCells]
theorem take_two {xs : List Int} {k : Nat} (h : 2 * k + 1 < xs.length) : xs.take (2 * (k + 1)) = xs.take (2 * k) ++ [xs[2 * k]?.getD 0, xs[2 * k + 1]?.getD 0] := by
  rw [show 2 * (k + 1) = 2 * k + 1 + 1 by omega, List.take_succ_eq_append_getElem h, List.take_succ_eq_append_getElem (show 2 * k < xs.length by omega)]
  simp [h, show 2 * k < xs.length by omega, -List.take_append_getElem]
set_option maxRecDepth 100000 in
set_option maxHeartbeats 2000000 in
theorem readEdges_in (xs : List Int) (n : Int) (ao : Option Addr) (w : World) (hn : 1 ≤ n ∧ n ≤ 64) (h2 : xs.length % 2 = 0) (hl : xs.length ≤ 512) (hx : Holds w ao (il xs)) :
    Calls Try.prog 69 #[.slice ao xs.length xs.length, .int .i64 n] w (EdP xs n 84 w) := by
  have HX := Lib.hid hx
  have hmk : ∀ w : World, _ := fun w => run_mkE (P := Try.prog) w 71 84 (.agg #[.int .i64 0, .int .i64 0]) (xs.length / 2) (by omega) Try.underlying71 (by kernel_rfl)
  obtain ⟨cur, hcs, hmkw⟩ := hmk w
  have hHH : ∃ h, h = xs.length / 2 ∧ xs.length = 2 * h := ⟨_, rfl, by omega⟩
  obtain ⟨h, hh, hlen⟩ := hHH
  rw [← hh] at hmkw hcs
  have hr2 : (xs.length : Int) % 2 = 0 := by omega
  have hd2 : (xs.length : Int) / 2 = h := by omega
  have hl' : (xs.length : Int) ≤ 512 := by omega
  have HN := Lib.hid hn
  have HD : Hid (decide (1 ≤ n ∧ n ≤ 64) = true) := Lib.hid (by simpa using hn)
  have HH := Lib.hid (And.intro hh hlen)
  have hh256 : h ≤ 256 := by omega
  clear hmk hx hn hh hlen
  obtain ⟨i0, hi0, hz0, hz1, hz2⟩ := info_parts (show (Try.prog.info? 84).map (fun i => (i.zero, i.size, i.bytes)) = some (some (.agg #[.int .i64 0, .int .i64 0]), 2, 16) by kernel_rfl)
  go_enter Try.func69, Try.ntmps69
  go_wp2_with fail
  refine (isOrderSize_any _ _).mono ?_
  rintro e w1 ⟨rfl, rfl⟩
  rw [HD.out]
  go_wp2_with fail
  rw [hr2]
  clear hr2 hd2
  go_loopw [0, 6] (fun s0 s6 wr => ∃ (k m : Nat) (A : Option Addr), m + 2 * k = xs.length ∧ s0 = .slice A m m ∧ Holds w A (il (xs.drop (2 * k))) ∧ edTo xs n k ∧ s6 = .slice (some ⟨w.heap.size, 0, none⟩) k h ∧ wr.ownsRow w.heap.size 84 2 (.slice (some ⟨w.heap.size, 0, none⟩) k h) k (il (xs.take (2 * k))) ∧ Whole wr (w.heap.size + 1) 84 #[.int .i64 (prevA xs k), .int .i64 (prevB xs k)] ∧ Below w.heap.size w wr) (fun s0 _ _ => slen s0)
  case atStart =>
    refine ⟨0, xs.length, ao, rfl, rfl, HX.out, fun j hj => absurd hj (Nat.not_lt_zero _), rfl, ?_, Whole.made2 _ _ _ _, (by repeat (first | with_reducible exact Below.refl _ _ | with_reducible exact HBL | with_reducible refine Below.drew ?_ | with_reducible refine Bel_drewN ?_ _ | with_reducible refine Below.alloc ?_ (by first | omega | (simp; done) | (simp; omega)) _ | with_reducible refine Below.setCell ?_ (by first | omega | (simp; done) | (simp; omega)) _))⟩
    exact (World.ownsRow_made w cur h (Nat.le_refl _) (by unfold maxLen; omega) hcs).alloc _
  case round =>
    obtain ⟨k, m, A, hmk, rfl, hol, hed, rfl, hown, hwh, hbel⟩ := hrel
    have H := Lib.hid (And.intro hed (And.intro hown (And.intro hwh hbel)))
    have HO := Lib.hid hol
    have hgl := hwh.lt
    have hm512 : (m : Int) ≤ 512 := by omega
    by_cases hlt : 0 < m
    · have hkh : k < h := by have := HH.out; omega
      have hm2 : 2 ≤ m := by have := HH.out; omega
      have hm2' : (1 : Int) < m := by omega
      have hm0' : (0 : Int) < m := by omega
      obtain ⟨b0, o0, rfl, hc0⟩ := (Holds.below hol hbel) 0 (by simp [il]; omega)
      obtain ⟨b', o', e', hc1⟩ := (Holds.below hol hbel) 1 (by simp [il]; omega)
      cases e'
      rw [il_get _ _ (by simp; omega), show (xs.drop (2 * k))[0]?.getD 0 = xs[2 * k]?.getD 0 by simp, Nat.add_zero] at hc0
      rw [il_get _ _ (by simp; omega), show (xs.drop (2 * k))[1]?.getD 0 = xs[2 * k + 1]?.getD 0 by simp] at hc1
      obtain ⟨a, ha⟩ : ∃ a, a = xs[2 * k]?.getD 0 := ⟨_, rfl⟩
      obtain ⟨b, hb⟩ : ∃ b, b = xs[2 * k + 1]?.getD 0 := ⟨_, rfl⟩
      obtain ⟨p, hp⟩ : ∃ p, p = prevA xs k := ⟨_, rfl⟩
      obtain ⟨q, hq⟩ : ∃ q, q = prevB xs k := ⟨_, rfl⟩
      rw [← ha] at hc0
      rw [← hb] at hc1
      rw [← hp, ← hq] at hwh
      have HE := Lib.hid (And.intro ha (And.intro hb (And.intro hp hq)))
      have HW := Lib.hid hwh
      have HMK := Lib.hid hmk
      have hz0 : w.heap.size ≤ wr.heap.size := hbel.size
      have hb0 := World.block_lt_of_cell? _ _ hc0
      clear ha hb hp hq hwh hed hown hbel hol hmk
      go_wp2
      go_region
      have hW2 : Hid (Below w.heap.size w (wr.alloc (.cells #[.int .i64 a, .int .i64 b] 84)).drew ∧ (wr.alloc (.cells #[.int .i64 a, .int .i64 b] 84)).drew.ownsRow w.heap.size 84 2 (.slice (some ⟨w.heap.size, 0, none⟩) k h) k (il (xs.take (2 * k))) ∧ Whole (wr.alloc (.cells #[.int .i64 a, .int .i64 b] 84)).drew (w.heap.size + 1) 84 #[.int .i64 p, .int .i64 q] ∧ Whole (wr.alloc (.cells #[.int .i64 a, .int .i64 b] 84)).drew wr.heap.size 84 #[.int .i64 a, .int .i64 b]) := Lib.hid (by
        obtain ⟨_, h1, h2, h3⟩ := H.out
        exact ⟨(h3.alloc hz0 _).drew, (h1.alloc _).drew, (HW.out.alloc _).drew, (Whole.made _ _ _).drew⟩)
      generalize (wr.alloc (.cells #[.int .i64 a, .int .i64 b] 84)).drew = w2 at hW2 ⊢
      have hlg := hW2.out.2.2.2.lt
      have hca := hW2.out.2.2.2.cell 0
      have hcb := hW2.out.2.2.2.cell 1
      have hcp := hW2.out.2.2.1.cell 0
      have hcq := hW2.out.2.2.1.cell 1
      simp at hca hcb hcp hcq
      have hNO : Hid (¬ (0 ≤ a ∧ a < b ∧ b < n ∧ cmpE p q a b < 0) → ¬ isEd xs n) := Lib.hid (fun hh hi => by
        have := hi.2.2.2 k (by have := HH.out; omega)
        unfold edOk at this
        rw [← HE.out.1, ← HE.out.2.1, ← HE.out.2.2.1, ← HE.out.2.2.2] at this
        exact hh this)
      clear hc0 hc1
      by_cases t1 : a < 0
      · have HB : Hid (¬ isEd xs n) := Lib.hid (hNO.out (by omega))
        go_wp2
        go_ret2
        exact EdP.no HB.out ⟨rfl, hW2.out.1⟩
      · have t1' : 0 ≤ a := by omega
        by_cases t2 : b ≤ a
        · have HB : Hid (¬ isEd xs n) := Lib.hid (hNO.out (by omega))
          clear t1
          go_wp2
          go_ret2
          exact EdP.no HB.out ⟨rfl, hW2.out.1⟩
        · have t2' : a < b := by omega
          by_cases t3 : n ≤ b
          · have HB : Hid (¬ isEd xs n) := Lib.hid (hNO.out (by omega))
            clear t1 t2
            go_wp2
            go_ret2
            exact EdP.no HB.out ⟨rfl, hW2.out.1⟩
          · have t3' : b < n := by omega
            clear t1 t2 t3
            go_wp2_with fail
            refine (compareEdges_ret p q a b _).mono ?_
            rintro e w3 ⟨rfl, hb3⟩
            have H3 : Hid (Below w.heap.size w w3 ∧ w3.ownsRow w.heap.size 84 2 (.slice (some ⟨w.heap.size, 0, none⟩) k h) k (il (xs.take (2 * k))) ∧ Whole w3 (w.heap.size + 1) 84 #[.int .i64 p, .int .i64 q] ∧ Whole w3 wr.heap.size 84 #[.int .i64 a, .int .i64 b]) := Lib.hid (by
              obtain ⟨h0, h1, h2, h3⟩ := hW2.out
              exact ⟨Bel_next h0 hb3, h1.kept (grown_below (row := none) hb3) (Or.inr (by simp [Value.ownBlock])), h2.below hb3, h3.below hb3⟩)
            by_cases t4 : cmpE p q a b < 0
            · have HS : Hid (edTo xs n (k + 1)) := Lib.hid (edTo_next H.out.1 (by unfold edOk; rw [← HE.out.1, ← HE.out.2.1, ← HE.out.2.2.1, ← HE.out.2.2.2]; exact ⟨t1', t2', t3', t4⟩))
              generalize cmpE p q a b = cc at t4 ⊢
              clear hca hcb hcp hcq hb3
              have hlg3 := H3.out.2.2.2.lt
              have hlp3 := H3.out.2.2.1.lt
              have hca := H3.out.2.2.2.cell 0
              have hcb := H3.out.2.2.2.cell 1
              simp at hca hcb
              go_wp2_with (at_builtin; refine wpList_append_fits _ rfl _ _ 71 rfl w.heap.size 84 i0 2 Try.underlying71 hi0 hz1 w.heap.size k h (il (xs.take (2 * k))) rfl (H3.out.2.1.alloc _) ⟨w3.heap.size, 0, none⟩ 1 1 [.int .i64 a, .int .i64 b] rfl rfl ?_ ?_ ?_ ?_)
              · intro j u hu
                rcases j with _ | _ | j
                · simp at hu; subst hu; simp [Addr.add]
                · simp at hu; subst hu; simp [Addr.add]
                · simp at hu
              · intro u hu; simp at hu; rcases hu with rfl | rfl <;> rfl
              · omega
              · intro w4 hown4 hgr4
                have H4 : Hid (w4.ownsRow w.heap.size 84 2 (.slice (some ⟨w.heap.size, 0, none⟩) (k + 1) h) (k + 1) (il (xs.take (2 * (k + 1)))) ∧ Whole w4 (w.heap.size + 1) 84 #[.int .i64 p, .int .i64 q] ∧ Whole w4 wr.heap.size 84 #[.int .i64 a, .int .i64 b] ∧ Below w.heap.size w w4) := Lib.hid (by
                  obtain ⟨h0, h1, h2, h3⟩ := H3.out
                  have hz3 := h0.size
                  refine ⟨?_, (h2.alloc _).grown hgr4 (by simp), (h3.alloc _).grown hgr4 (by simp; omega), ?_⟩
                  · rw [take_two (by have := HH.out; omega), il, List.map_append]
                    rw [← HE.out.1, ← HE.out.2.1]; exact hown4
                  · exact Below.grown (h0.alloc hz3 _) hgr4 (by simp; omega) (by intro i hi; cases hi; exact Nat.le_refl _))
                clear hown4 hgr4 hca hcb
                have hlg4 := H4.out.2.2.1.lt
                have hlp4 := H4.out.2.1.lt
                have hca := H4.out.2.2.1.cell 0
                have hcb := H4.out.2.2.1.cell 1
                have hcp := H4.out.2.1.cell 0
                have hcq := H4.out.2.1.cell 1
                have hfp := H4.out.2.1.frozen
                simp at hca hcb hcp hcq
                have hfin : Hid (∀ V : World, V = (w4.setCell ⟨w.heap.size + 1, 0, none⟩ (.int .i64 a)).setCell ⟨w.heap.size + 1, 1, none⟩ (.int .i64 b) → V.ownsRow w.heap.size 84 2 (.slice (some ⟨w.heap.size, 0, none⟩) (k + 1) h) (k + 1) (il (xs.take (2 * (k + 1)))) ∧ Whole V (w.heap.size + 1) 84 #[.int .i64 (prevA xs (k + 1)), .int .i64 (prevB xs (k + 1))] ∧ Below w.heap.size w V) := Lib.hid (by
                  rintro V rfl
                  obtain ⟨h1, h2, h3, h4⟩ := H4.out
                  refine ⟨h1.kept (grown_put (grown_set _ _ _ _) _ _) (Or.inr (by simp [Value.ownBlock])), ?_, (h4.setCell (by simp) _).setCell (by simp) _⟩
                  have := (h2.put 0 (.int .i64 a)).put 1 (.int .i64 b)
                  have e1 : prevA xs (k + 1) = a := by unfold prevA; rw [if_neg (by omega), show 2 * (k + 1) - 2 = 2 * k by omega, HE.out.1]
                  have e2 : prevB xs (k + 1) = b := by unfold prevB; rw [if_neg (by omega), show 2 * (k + 1) - 1 = 2 * k + 1 by omega, HE.out.2.1]
                  rw [e1, e2]; simpa using this)
                by_cases hcap : m = 2
                · subst hcap
                  go_wp2
                  go_roundw
                  case rel =>
                    exact ⟨k + 1, 0, _, by have := HMK.out; omega, rfl, by rw [show xs.drop (2 * (k + 1)) = [] from List.drop_eq_nil_of_le (by have := HMK.out; omega)]; exact Holds.nil _ _, HS.out, rfl, hfin.out _ rfl⟩
                  case measure => simp [slen]
                · have hm3 : (2 : Int) < m := by omega
                  have hm3' : 2 < m := by omega
                  go_wp2
                  go_roundw
                  case rel =>
                    refine ⟨k + 1, m - 2, _, by have := HMK.out; omega, rfl, ?_, HS.out, rfl, hfin.out _ rfl⟩
                    have := HO.out.drop 2
                    rwa [show (il (xs.drop (2 * k))).drop 2 = il (xs.drop (2 * (k + 1))) by simp [il, List.map_drop]; congr 1] at this
                  case measure => simp [slen]; omega
            · have HB : Hid (¬ isEd xs n) := Lib.hid (hNO.out (fun hh => t4 hh.2.2.2))
              have t4' : 0 ≤ cmpE p q a b := by omega
              generalize cmpE p q a b = cc at t4' ⊢
              clear t4
              go_wp2
              go_ret2
              exact EdP.no HB.out ⟨rfl, H3.out.1⟩
    · have hm0 : m = 0 := by omega
      subst hm0
      have HB : Hid (k = h) := Lib.hid (by have := HH.out; omega)
      clear hol hed hown hwh hbel hgl hlt
      go_wp2
      go_ret2
      obtain ⟨h1, h2, h3, h4⟩ := H.out
      have HN2 := HN.out
      have HHo := HH.out
      rw [HB.out] at h1 h2
      refine EdP.yes ⟨HN2, by omega, hl, by rw [← HHo.1]; exact h1⟩ (by rw [HB.out]; rfl) ?_ h4
      rw [← HHo.1]
      rwa [← HHo.2, List.take_length] at h2
end Go.Proofs.Ytncebfnfmjimmaa
