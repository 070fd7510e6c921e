/- An index by weights: PickSeed. -/
import Derived.Test.YtlipdegiihojfaaPk
import Derived.StillTailTactics
namespace Go.Proofs.Ytlipdegiihojfaa
open Go Go.RowKit Fl Vag
set_option linter.unusedVariables false

def gtA (u v : Option Nat) : Bool := aord .f32 u v == some Ordering.gt
theorem gtA_of {u v : Option Nat} {r s : Nat} (hr : Fv .f32 u r) (hs : Fv .f32 v s) : (FloatKind.f32.format.order r s == some Ordering.gt) = gtA u v := by
  rw [aord_order, hr.2, hs.2]; rfl
/-- The first index up to which the sum is greater than v, or the last one with a weight. -/
def pickI (v : Option Nat) : List Nat → Nat → Option Nat → Nat → Nat
  | [], k, s, last => last
  | x :: xs, k, s, last => if gtA (aop .add .f32 s (av .f32 x)) v = true then k else pickI v xs (k + 1) (aop .add .f32 s (av .f32 x)) (if gtB x 0 = true then k else last)
theorem drop_next (xs : List Nat) (k : Nat) (h : k < xs.length) : xs.drop k = (xs[k]?.getD 0) :: xs.drop (k + 1) := by
  rw [List.drop_eq_getElem_cons h]; simp [h]
theorem pickI_step (v : Option Nat) (xs : List Nat) (k last : Nat) (s : Option Nat) (h : k < xs.length) :
    pickI v (xs.drop k) k s last = if gtA (aop .add .f32 s (av .f32 (xs[k]?.getD 0))) v = true then k else pickI v (xs.drop (k + 1)) (k + 1) (aop .add .f32 s (av .f32 (xs[k]?.getD 0))) (if gtB (xs[k]?.getD 0) 0 = true then k else last) := by
  rw [drop_next xs k h]; rfl
theorem pickI_end (v : Option Nat) (xs : List Nat) (k last : Nat) (s : Option Nat) (h : xs.length ≤ k) : pickI v (xs.drop k) k s last = last := by
  rw [List.drop_of_length_le h]; rfl
theorem aop_av32 {op : BinOp} {u v : Option Nat} {r : Nat} (h : aop op .f32 u v = some r) : av .f32 r = some r := aop_av' h
/-- It returns the index. -/
def IdxP (I : Nat) (w : World) (e : Ending) (w' : World) : Prop := ∃ n, e = .returned (.int .i64 I) ∧ w' = w.drewN n
theorem IdxP.mk {I : Nat} {w : World} (J n : Nat) (h : J = I) : IdxP I w (.returned (.int .i64 J)) (w.drewN n) := ⟨n, by rw [h], rfl⟩

set_option maxRecDepth 100000 in
set_option maxHeartbeats 1000000 in
theorem indexAbove_any (xs : List Nat) (ao : Option Addr) (c L : Nat) (v : Option Nat) (w : World) (hx : Holds w ao (fl .f32 xs)) (hlen : xs.length ≤ 64) (hL : Fv .f32 v L) :
    Calls Try.prog 72 #[.slice ao xs.length c, .float .f32 L] w (IdxP (pickI v xs 0 (some 0) 0) w) := by
  have HX := Lib.hid hx
  have HL := Lib.hid hL
  have hl' : (xs.length : Int) ≤ 64 := by omega
  clear hx hL
  go_enter Try.func72, Try.ntmps72
  go_wp2
  go_loopw [5, 6, 11] (fun s l i wr => ∃ k last : Nat, k ≤ xs.length ∧ last ≤ 64 ∧ i = .int .i64 k ∧ l = .int .i64 last ∧ pickI v xs 0 (some 0) 0 = pickI v (xs.drop k) k (sumA .f32 (xs.take k)) last ∧ ∃ r n, s = .float .f32 r ∧ Fv .f32 (sumA .f32 (xs.take k)) r ∧ wr = w.drewN n) (fun _ _ i _ => xs.length - (intOf i).toNat)
  case atStart => exact ⟨0, 0, Nat.zero_le _, Nat.zero_le _, rfl, rfl, rfl, 0, 0, rfl, Fv_zero _, rfl⟩
  case round =>
    obtain ⟨k, last, hk, hla, rfl, rfl, hp, r, n, rfl, hr, rfl⟩ := hrel
    have HR := Lib.hid (And.intro hr hp)
    clear hr hp
    by_cases hlt : k < xs.length
    · obtain ⟨b, o, rfl, hc⟩ := HX.out k (by simpa [fl] using hlt)
      rw [fl_get _ _ _ hlt] at hc
      have HT := Lib.hid (And.intro (take_next xs k hlt) (pickI_step v xs k last (sumA .f32 (xs.take k)) hlt))
      generalize xs[k]?.getD 0 = x at hc HT
      cases hg : gtA (aop .add .f32 (sumA .f32 (xs.take k)) (av .f32 x)) v with
      | true =>
        have HG := Lib.hid hg
        clear hg
        go_wp2_with (refine wpList_farith _ _ _ _ _ .f32 _ _ rfl rfl rfl ?_; intro r' n' hr'; have ht := (gtA_of (by rw [HR.out.1.2] at hr'; exact hr') HL.out).trans HG.out; clear hr')
        go_ret
        exact IdxP.mk _ _ (by rw [HR.out.2, HT.out.2, if_pos HG.out])
      | false =>
        have HG := Lib.hid hg
        clear hg
        cases hb : gtB x 0 with
        | true =>
          have HB := Lib.hid hb
          have hb' : (FloatKind.f32.format.order x 0 == some Ordering.gt) = true := hb
          clear hb
          go_wp2_with (refine wpList_farith _ _ _ _ _ .f32 _ _ rfl rfl rfl ?_; intro r' n' hr'; have ht := (gtA_of (by rw [HR.out.1.2] at hr'; exact hr') HL.out).trans HG.out; have HR' := Lib.hid hr'; clear hr')
          go_roundw
          case rel =>
            refine ⟨k + 1, k, by omega, by omega, by go_num, rfl, ?_, r', n + n', rfl, by rw [HT.out.1, sumA_snoc, ← HR.out.1.2]; exact HR'.out, rfl⟩
            rw [HR.out.2, HT.out.2, if_neg (by rw [HG.out]; exact Bool.false_ne_true), if_pos HB.out, HT.out.1, sumA_snoc]
          case measure => simp [intOf]; omega
        | false =>
          have HB := Lib.hid hb
          have hb' : (FloatKind.f32.format.order x 0 == some Ordering.gt) = false := hb
          clear hb
          go_wp2_with (refine wpList_farith _ _ _ _ _ .f32 _ _ rfl rfl rfl ?_; intro r' n' hr'; have ht := (gtA_of (by rw [HR.out.1.2] at hr'; exact hr') HL.out).trans HG.out; have HR' := Lib.hid hr'; clear hr')
          go_roundw
          case rel =>
            refine ⟨k + 1, last, by omega, hla, by go_num, rfl, ?_, r', n + n', rfl, by rw [HT.out.1, sumA_snoc, ← HR.out.1.2]; exact HR'.out, rfl⟩
            rw [HR.out.2, HT.out.2, if_neg (by rw [HG.out]; exact Bool.false_ne_true), if_neg (by rw [HB.out]; exact Bool.false_ne_true), HT.out.1, sumA_snoc]
          case measure => simp [intOf]; omega
    · have HE := Lib.hid (pickI_end v xs k last (sumA .f32 (xs.take k)) (by omega))
      go_wp2
      go_ret
      exact IdxP.mk _ _ (by rw [HR.out.2, HE.out])
theorem mul_fin {x y : Nat} (hx : ∃ s m i, Ieee.single.read x = .number s m i) (hy : ∃ s m i, Ieee.single.read y = .number s m i) : ∃ p, Ieee.single.mul x y = some p := by
  obtain ⟨s, m, i, h⟩ := hx
  obtain ⟨t, n, j, g⟩ := hy
  unfold Ieee.Format.mul
  rw [h, g]
  exact ⟨_, rfl⟩
/-- What the sum of weights is. -/
theorem picks_sum {xs : List Nat} (h : picks xs) : ∃ b, sumA .f32 xs = some b ∧ ∃ s m i, Ieee.single.read b = .number s m i := by
  have h4 := h.2.2.2
  cases hs : sumA .f32 xs with
  | none => rw [hs] at h4; cases h4
  | some b =>
    rw [hs] at h4
    have h' : aboveB b = true := h4
    unfold aboveB at h'
    rw [Bool.and_eq_true] at h'
    exact ⟨b, rfl, fin_read h'.1⟩
/-- Up to which level the sums go. -/
def lvlV (k : Int) (a b : Nat) (xs : List Nat) : Option Nat := aop .mul .f32 (av .f32 (shK k a b)) (sumA .f32 xs)
theorem lvl_of {k : Int} {a b : Nat} {xs : List Nat} (hs : sOk k a b) (hp : picks xs) : ∃ B p, sumA .f32 xs = some B ∧ Ieee.single.mul (shK k a b) B = some p ∧ Fv .f32 (lvlV k a b xs) p := by
  obtain ⟨m, i, h⟩ := read_shF _ (shK_lt (k := k) (a := a) (b := b) hs.kind)
  obtain ⟨B, hB, hr⟩ := picks_sum hp
  obtain ⟨p, hq⟩ := mul_fin (x := shK k a b) ⟨_, _, _, h⟩ hr
  refine ⟨B, p, hB, hq, Ieee.single.mul_lt hq, ?_⟩
  have ha : av .f32 (shK k a b) = some (shK k a b) := av_num (s := false) (m := m) (i := i) h
  unfold lvlV
  rw [ha, hB]
  have e : aop .mul .f32 (some (shK k a b)) (some B) = some p := hq
  rw [e]
  exact aop_av32 e
set_option maxRecDepth 100000 in
set_option maxHeartbeats 1000000 in
theorem implPick_yes (k : Int) (a b : Nat) (xs : List Nat) (ao : Option Addr) (c : Nat) (w : World) (hs : sOk k a b) (hx : Holds w ao (fl .f32 xs)) (hp : picks xs) :
    Calls Try.prog 26 #[sd k a b, .slice ao xs.length c] w (RetB (.tuple #[sd k (nxA k a b) (nxB k a b), .int .i64 (pickI (lvlV k a b xs) xs 0 (some 0) 0), .bool true]) w) := by
  have HS := Lib.hid hs
  have HX := Lib.hid hx
  have HP := Lib.hid hp
  have h64 := hp.2.1
  obtain ⟨B, p, hB, hq, hv⟩ := lvl_of hs hp
  have hm : ∀ (t : TypeId) (w : World), (binOp .mul t (.float .f32 (shK k a b)) (.float .f32 B)).run Try.prog w = .ok (.float .f32 p) w := fun t w => run_float_arith w _ _ _ _ _ _ hq
  have HV := Lib.hid (And.intro hB hv)
  clear hs hx hp hB hq hv
  go_enter Try.func26, Try.ntmps26
  go_wp2_with fail
  refine (ValidSeed_any _ _ _ _).mono ?_
  rintro e w1 ⟨rfl, rfl⟩
  rw [HS.out.1]
  go_wp2_with (first | (go_at_call 23; fail))
  refine (implArePicks_any xs _ _ _ (HX.out.below ((by repeat (first | with_reducible exact Below.refl _ _ | with_reducible exact HBL | with_reducible refine Below.drew ?_ | with_reducible refine Bel_drewN ?_ _ | with_reducible refine Below.alloc ?_ (by first | omega | (simp; done) | (simp; omega)) _ | with_reducible refine Below.setCell ?_ (by first | omega | (simp; done) | (simp; omega)) _)))) (by omega)).mono ?_
  rintro e w' ⟨q, n, rfl, hq, rfl⟩
  obtain rfl : q = true := hq.2 HP.out
  clear hq
  generalize hW : World.alloc (World.alloc (World.alloc _ _) _) _ = w0
  have hH : Below w.heap.size w w0 ∧ Whole w0 w.heap.size 26 (sdC k a b) ∧ Whole w0 (w.heap.size + 1) 26 (sdC 0 0 0) := by
    rw [← hW]
    exact ⟨(by repeat (first | with_reducible exact Below.refl _ _ | with_reducible exact HBL | with_reducible refine Below.drew ?_ | with_reducible refine Bel_drewN ?_ _ | with_reducible refine Below.alloc ?_ (by first | omega | (simp; done) | (simp; omega)) _ | with_reducible refine Below.setCell ?_ (by first | omega | (simp; done) | (simp; omega)) _)), ((Whole.made _ _ _).alloc _).alloc _, (Whole.made2 _ _ _ _).alloc _⟩
  have H0 := Lib.hid hH
  obtain ⟨hc0, hf0⟩ := hH.2.1.facts
  have hz0 := hH.2.1.lt
  clear hH hW
  go_wp2_with (first | (go_at_call 63; fail))
  refine (drawShare_any _ _ _ _ HS.out).mono ?_
  rintro e w2 ⟨rfl, hb2⟩
  have hbb : Below (w0.drewN n).heap.size (w0.drewN n) w2 := hb2
  have r0 := (H0.out.2.1.drewN n).below hbb
  have r1 := (H0.out.2.2.drewN n).below hbb
  have HBL : Below w.heap.size w w2 := Bel_next (Bel_drewN H0.out.1 n) hbb
  clear hc0 hf0
  obtain ⟨hc0, hf0⟩ := r0.facts
  have hz20 := r0.lt
  have H2 := Lib.hid (And.intro HBL (And.intro r0 r1))
  clear HBL r0 r1 hb2 hbb
  go_wp2_with (first | (go_at_call 69; fail))
  clear hc0 hf0
  generalize hW : World.setCell (World.setCell (World.setCell _ _ _) _ _) _ _ = w3
  have hH : Below w.heap.size w w3 ∧ Whole w3 w.heap.size 26 (sdC k (nxA k a b) (nxB k a b)) ∧ Whole w3 (w.heap.size + 1) 26 (sdC 0 0 0) := by
    obtain ⟨HBL, q0, q1⟩ := H2.out
    rw [← hW]
    exact ⟨(by repeat (first | with_reducible exact Below.refl _ _ | with_reducible exact HBL | with_reducible refine Below.drew ?_ | with_reducible refine Bel_drewN ?_ _ | with_reducible refine Below.alloc ?_ (by first | omega | (simp; done) | (simp; omega)) _ | with_reducible refine Below.setCell ?_ (by first | omega | (simp; done) | (simp; omega)) _)), ((q0.put 0 _).put 1 _).put 2 _, ((q1.far (by first | omega | (simp; done) | (simp; omega)) _).far (by first | omega | (simp; done) | (simp; omega)) _).far (by first | omega | (simp; done) | (simp; omega)) _⟩
  have H3 := Lib.hid hH
  clear hH hW H2
  refine (implSum_in xs _ _ _ (HX.out.below H3.out.1) (by omega)).mono ?_
  rintro e w' ⟨r, n2, rfl, hr, rfl⟩
  obtain rfl : r = B := av_eq (hr.2.trans HV.out.1)
  clear hr
  obtain ⟨hc0, hf0⟩ := H3.out.2.1.facts
  obtain ⟨hc1, hf1⟩ := H3.out.2.2.facts
  have hz31 := H3.out.2.2.lt
  have hz30 := H3.out.2.1.lt
  go_wp2_with (first | (go_at_call 72; fail))
  go_region_with (first | (go_at_call 72; refine (indexAbove_any xs _ _ _ _ _ (by exact Holds.below HX.out (Bel_next H3.out.1 ((by repeat (first | with_reducible exact Below.refl _ _ | with_reducible exact HBL | with_reducible refine Below.drew ?_ | with_reducible refine Bel_drewN ?_ _ | with_reducible refine Below.alloc ?_ (by first | omega | (simp; done) | (simp; omega)) _ | with_reducible refine Below.setCell ?_ (by first | omega | (simp; done) | (simp; omega)) _))))) h64 HV.out.2).mono ?_; rintro e w4 ⟨q, rfl, rfl⟩))
  all_goals
    go_wp2_with fail
    obtain ⟨HBL, q0, q1⟩ := H3.out
    exact bodyPost_ret (v := .tuple #[sd k (nxA k a b) (nxB k a b), .int .i64 (pickI (lvlV k a b xs) xs 0 (some 0) 0), .bool true]) (by simp [results, Try.results26, go_sem, hc1]) rfl ⟨rfl, (by repeat (first | with_reducible exact Below.refl _ _ | with_reducible exact HBL | with_reducible refine Below.drew ?_ | with_reducible refine Bel_drewN ?_ _ | with_reducible refine Below.alloc ?_ (by first | omega | (simp; done) | (simp; omega)) _ | with_reducible refine Below.setCell ?_ (by first | omega | (simp; done) | (simp; omega)) _))⟩
set_option maxRecDepth 100000 in
theorem implPick_no (k : Int) (a b : Nat) (xs : List Nat) (ao : Option Addr) (c : Nat) (w : World) (hx : Holds w ao (fl .f32 xs)) (hlen : xs.length ≤ 1048576) (h : ¬(vSeed k a b = true ∧ picks xs)) :
    Calls Try.prog 26 #[sd k a b, .slice ao xs.length c] w (RetB (.tuple #[sd 0 0 0, .int .i64 0, .bool false]) w) := by
  have HX := Lib.hid hx
  clear hx
  cases hv : vSeed k a b with
  | false =>
    clear h
    go_enter Try.func26, Try.ntmps26
    go_wp2_with fail
    refine (ValidSeed_any _ _ _ _).mono ?_
    rintro e w1 ⟨rfl, rfl⟩
    rw [hv]
    go_wp2_with fail
    exact bodyPost_ret (v := .tuple #[sd 0 0 0, .int .i64 0, .bool false]) (by simp [results, Try.results26, go_sem]) rfl ⟨rfl, (by repeat (first | with_reducible exact Below.refl _ _ | with_reducible exact HBL | with_reducible refine Below.drew ?_ | with_reducible refine Bel_drewN ?_ _ | with_reducible refine Below.alloc ?_ (by first | omega | (simp; done) | (simp; omega)) _ | with_reducible refine Below.setCell ?_ (by first | omega | (simp; done) | (simp; omega)) _))⟩
  | true =>
    have HP := Lib.hid (show ¬ picks xs from fun hp => h ⟨hv, hp⟩)
    clear h
    go_enter Try.func26, Try.ntmps26
    go_wp2_with fail
    refine (ValidSeed_any _ _ _ _).mono ?_
    rintro e w1 ⟨rfl, rfl⟩
    rw [hv]
    go_wp2_with (first | (go_at_call 23; fail))
    refine (implArePicks_any xs _ _ _ (HX.out.below ((by repeat (first | with_reducible exact Below.refl _ _ | with_reducible exact HBL | with_reducible refine Below.drew ?_ | with_reducible refine Bel_drewN ?_ _ | with_reducible refine Below.alloc ?_ (by first | omega | (simp; done) | (simp; omega)) _ | with_reducible refine Below.setCell ?_ (by first | omega | (simp; done) | (simp; omega)) _)))) hlen).mono ?_
    rintro e w' ⟨q, n, rfl, hq, rfl⟩
    obtain rfl : q = false := by
      cases q with
      | false => rfl
      | true => exact absurd (hq.1 rfl) HP.out
    clear hq
    go_wp2_with fail
    exact bodyPost_ret (v := .tuple #[sd 0 0 0, .int .i64 0, .bool false]) (by simp [results, Try.results26, go_sem]) rfl ⟨rfl, (by repeat (first | with_reducible exact Below.refl _ _ | with_reducible exact HBL | with_reducible refine Below.drew ?_ | with_reducible refine Bel_drewN ?_ _ | with_reducible refine Below.alloc ?_ (by first | omega | (simp; done) | (simp; omega)) _ | with_reducible refine Below.setCell ?_ (by first | omega | (simp; done) | (simp; omega)) _))⟩
set_option maxRecDepth 100000 in
theorem specPick_no (k : Int) (a b : Nat) (xs : List Nat) (ao : Option Addr) (c : Nat) (w : World) (hx : Holds w ao (fl .f32 xs)) (hlen : xs.length ≤ 1048576) (h : ¬(vSeed k a b = true ∧ picks xs)) :
    Calls Try.prog 25 #[sd k a b, .slice ao xs.length c] w (RetB (.tuple #[sd 0 0 0, .int .i64 0, .bool false]) w) := by
  have HX := Lib.hid hx
  have p0 := Lib.hid ((Whole.made w 26 (sdC k a b)).alloc (.cells (sdC 0 0 0) 26))
  clear hx
  cases hv : vSeed k a b with
  | false =>
    clear h
    go_enter Try.func25, Try.ntmps25
    go_wp2_with fail
    refine (l02Is_any _ _ _ _ _ p0.out).mono ?_
    rintro e w1 ⟨rfl, rfl⟩
    rw [hv]
    go_wp2_with fail
    exact bodyPost_ret (v := .tuple #[sd 0 0 0, .int .i64 0, .bool false]) (by simp [results, Try.results25, go_sem]) rfl ⟨rfl, (by repeat (first | with_reducible exact Below.refl _ _ | with_reducible exact HBL | with_reducible refine Below.drew ?_ | with_reducible refine Bel_drewN ?_ _ | with_reducible refine Below.alloc ?_ (by first | omega | (simp; done) | (simp; omega)) _ | with_reducible refine Below.setCell ?_ (by first | omega | (simp; done) | (simp; omega)) _))⟩
  | true =>
    have HP := Lib.hid (show ¬ picks xs from fun hp => h ⟨hv, hp⟩)
    clear h
    go_enter Try.func25, Try.ntmps25
    go_wp2_with fail
    refine (l02Is_any _ _ _ _ _ p0.out).mono ?_
    rintro e w1 ⟨rfl, rfl⟩
    rw [hv]
    go_wp2_with (first | (go_at_call 68; fail))
    refine (l03Weights_any xs _ _ _ (HX.out.below ((by repeat (first | with_reducible exact Below.refl _ _ | with_reducible exact HBL | with_reducible refine Below.drew ?_ | with_reducible refine Bel_drewN ?_ _ | with_reducible refine Below.alloc ?_ (by first | omega | (simp; done) | (simp; omega)) _ | with_reducible refine Below.setCell ?_ (by first | omega | (simp; done) | (simp; omega)) _)))) hlen).mono ?_
    rintro e w' ⟨q, n, rfl, hq, rfl⟩
    obtain rfl : q = false := by
      cases q with
      | false => rfl
      | true => exact absurd (hq.1 rfl) HP.out
    clear hq
    go_wp2_with fail
    exact bodyPost_ret (v := .tuple #[sd 0 0 0, .int .i64 0, .bool false]) (by simp [results, Try.results25, go_sem]) rfl ⟨rfl, (by repeat (first | with_reducible exact Below.refl _ _ | with_reducible exact HBL | with_reducible refine Below.drew ?_ | with_reducible refine Bel_drewN ?_ _ | with_reducible refine Below.alloc ?_ (by first | omega | (simp; done) | (simp; omega)) _ | with_reducible refine Below.setCell ?_ (by first | omega | (simp; done) | (simp; omega)) _))⟩
set_option maxRecDepth 100000 in
set_option maxHeartbeats 1000000 in
theorem specPick_yes (k : Int) (a b : Nat) (xs : List Nat) (ao : Option Addr) (c : Nat) (w : World) (hs : sOk k a b) (hx : Holds w ao (fl .f32 xs)) (hp : picks xs) :
    Calls Try.prog 25 #[sd k a b, .slice ao xs.length c] w (RetB (.tuple #[sd k (nxA k a b) (nxB k a b), .int .i64 (pickI (lvlV k a b xs) xs 0 (some 0) 0), .bool true]) w) := by
  have HS := Lib.hid hs
  have HX := Lib.hid hx
  have HP := Lib.hid hp
  have h64 := hp.2.1
  have h64' : (xs.length : Int) ≤ 64 := by omega
  have p0 := Lib.hid ((Whole.made w 26 (sdC k a b)).alloc (.cells (sdC 0 0 0) 26))
  obtain ⟨B, p, hB, hq, hv⟩ := lvl_of hs hp
  have hm : ∀ (t : TypeId) (w : World), (binOp .mul t (.float .f32 (shK k a b)) (.float .f32 B)).run Try.prog w = .ok (.float .f32 p) w := fun t w => run_float_arith w _ _ _ _ _ _ hq
  have HV := Lib.hid (And.intro hB hv)
  clear hs hx hp hB hq hv
  generalize hlv : lvlV k a b xs = v at *
  clear hlv
  go_enter Try.func25, Try.ntmps25
  go_wp2_with fail
  refine (l02Is_any _ _ _ _ _ p0.out).mono ?_
  rintro e w1 ⟨rfl, rfl⟩
  rw [HS.out.1]
  go_wp2_with (first | (go_at_call 68; fail))
  refine (l03Weights_any xs _ _ _ (HX.out.below ((by repeat (first | with_reducible exact Below.refl _ _ | with_reducible exact HBL | with_reducible refine Below.drew ?_ | with_reducible refine Bel_drewN ?_ _ | with_reducible refine Below.alloc ?_ (by first | omega | (simp; done) | (simp; omega)) _ | with_reducible refine Below.setCell ?_ (by first | omega | (simp; done) | (simp; omega)) _)))) (by omega)).mono ?_
  rintro e w' ⟨q, n, rfl, hq, rfl⟩
  obtain rfl : q = true := hq.2 HP.out
  clear hq
  generalize hW : World.alloc (World.alloc _ _) _ = w0
  have hH : Below w.heap.size w w0 ∧ Whole w0 w.heap.size 26 (sdC k a b) ∧ Whole w0 (w.heap.size + 1) 26 (sdC 0 0 0) := by
    rw [← hW]
    exact ⟨(by repeat (first | with_reducible exact Below.refl _ _ | with_reducible exact HBL | with_reducible refine Below.drew ?_ | with_reducible refine Bel_drewN ?_ _ | with_reducible refine Below.alloc ?_ (by first | omega | (simp; done) | (simp; omega)) _ | with_reducible refine Below.setCell ?_ (by first | omega | (simp; done) | (simp; omega)) _)), p0.out, Whole.made2 _ _ _ _⟩
  have H0 := Lib.hid hH
  clear hH hW p0
  go_wp2_with (first | (go_at_call 66; fail))
  refine (l02Share_any _ _ _ _ _ HS.out (H0.out.2.1.drewN n)).mono ?_
  rintro e w2 ⟨rfl, r0, hg2⟩
  have r1 := (H0.out.2.2.drewN n).grown hg2 (by simp)
  have HBL : Below w.heap.size w w2 := Below.grown (Bel_drewN H0.out.1 n) hg2 H0.out.1.size (by simp)
  have H2 := Lib.hid (And.intro HBL (And.intro r0 r1))
  clear HBL r0 r1 hg2 H0
  go_wp2_with (first | (go_at_call 71; fail))
  refine (l03Sum_any xs _ _ _ (HX.out.below H2.out.1) (by omega)).mono ?_
  rintro e w' ⟨r, n2, rfl, hr, rfl⟩
  obtain rfl : r = B := av_eq (hr.2.trans HV.out.1)
  clear hr
  obtain ⟨hc0, hf0⟩ := H2.out.2.1.facts
  obtain ⟨hc1, hf1⟩ := H2.out.2.2.facts
  have hz31 := H2.out.2.2.lt
  have hz30 := H2.out.2.1.lt
  go_wp2_with fail
  clear hm
  go_loopw [8, 9, 25] (fun s l i wr => ∃ kk last : Nat, kk ≤ xs.length ∧ last ≤ 64 ∧ i = .int .i64 kk ∧ l = .int .i64 last ∧ pickI v xs 0 (some 0) 0 = pickI v (xs.drop kk) kk (sumA .f32 (xs.take kk)) last ∧ ∃ r n, s = .float .f32 r ∧ Fv .f32 (sumA .f32 (xs.take kk)) r ∧ wr = (w2.drewN n2).drewN n) (fun _ _ i _ => xs.length - (intOf i).toNat)
  case atStart => exact ⟨0, 0, Nat.zero_le _, Nat.zero_le _, rfl, rfl, rfl, 0, 0, rfl, Fv_zero _, rfl⟩
  case round =>
    obtain ⟨kk, last, hk, hla, rfl, rfl, hp, r1, n3, rfl, hr, rfl⟩ := hrel
    have HR := Lib.hid (And.intro hr hp)
    clear hr hp
    by_cases hlt : kk < xs.length
    · obtain ⟨bb, o, rfl, hc⟩ := (HX.out.below H2.out.1) kk (by simpa [fl] using hlt)
      rw [fl_get _ _ _ hlt] at hc
      have HT := Lib.hid (And.intro (take_next xs kk hlt) (pickI_step v xs kk last (sumA .f32 (xs.take kk)) hlt))
      generalize xs[kk]?.getD 0 = x at hc HT
      cases hg : gtA (aop .add .f32 (sumA .f32 (xs.take kk)) (av .f32 x)) v with
      | true =>
        have HG := Lib.hid hg
        clear hg
        go_wp2_with (refine wpList_farith _ _ _ _ _ .f32 _ _ rfl rfl rfl ?_; intro r' n' hr'; have ht := (gtA_of (by rw [HR.out.1.2] at hr'; exact hr') HV.out.2).trans HG.out; clear hr')
        obtain ⟨HBL, q0, q1⟩ := H2.out
        exact bodyPost_ret (v := .tuple #[sd k (nxA k a b) (nxB k a b), .int .i64 (pickI v xs 0 (some 0) 0), .bool true]) (by rw [HR.out.2, HT.out.2, if_pos HG.out]; simp [results, Try.results25, go_sem, hc1]) rfl ⟨rfl, (by repeat (first | with_reducible exact Below.refl _ _ | with_reducible exact HBL | with_reducible refine Below.drew ?_ | with_reducible refine Bel_drewN ?_ _ | with_reducible refine Below.alloc ?_ (by first | omega | (simp; done) | (simp; omega)) _ | with_reducible refine Below.setCell ?_ (by first | omega | (simp; done) | (simp; omega)) _))⟩
      | false =>
        have HG := Lib.hid hg
        clear hg
        cases hb : gtB x 0 with
        | true =>
          have HB := Lib.hid hb
          have hb' : (FloatKind.f32.format.order x 0 == some Ordering.gt) = true := hb
          clear hb
          go_wp2_with (refine wpList_farith _ _ _ _ _ .f32 _ _ rfl rfl rfl ?_; intro r' n' hr'; have ht := (gtA_of (by rw [HR.out.1.2] at hr'; exact hr') HV.out.2).trans HG.out; have HR' := Lib.hid hr'; clear hr')
          go_roundw
          case rel =>
            refine ⟨kk + 1, kk, by omega, by omega, by go_num, rfl, ?_, r', n3 + n', rfl, by rw [HT.out.1, sumA_snoc, ← HR.out.1.2]; exact HR'.out, by simp [World.drewN_drewN, Nat.add_assoc]⟩
            rw [HR.out.2, HT.out.2, if_neg (by rw [HG.out]; exact Bool.false_ne_true), if_pos HB.out, HT.out.1, sumA_snoc]
          case measure => simp [intOf]; omega
        | false =>
          have HB := Lib.hid hb
          have hb' : (FloatKind.f32.format.order x 0 == some Ordering.gt) = false := hb
          clear hb
          go_wp2_with (refine wpList_farith _ _ _ _ _ .f32 _ _ rfl rfl rfl ?_; intro r' n' hr'; have ht := (gtA_of (by rw [HR.out.1.2] at hr'; exact hr') HV.out.2).trans HG.out; have HR' := Lib.hid hr'; clear hr')
          go_roundw
          case rel =>
            refine ⟨kk + 1, last, by omega, hla, by go_num, rfl, ?_, r', n3 + n', rfl, by rw [HT.out.1, sumA_snoc, ← HR.out.1.2]; exact HR'.out, by simp [World.drewN_drewN, Nat.add_assoc]⟩
            rw [HR.out.2, HT.out.2, if_neg (by rw [HG.out]; exact Bool.false_ne_true), if_neg (by rw [HB.out]; exact Bool.false_ne_true), HT.out.1, sumA_snoc]
          case measure => simp [intOf]; omega
    · have HE := Lib.hid (pickI_end v xs kk last (sumA .f32 (xs.take kk)) (by omega))
      go_wp2
      obtain ⟨HBL, q0, q1⟩ := H2.out
      exact bodyPost_ret (v := .tuple #[sd k (nxA k a b) (nxB k a b), .int .i64 (pickI v xs 0 (some 0) 0), .bool true]) (by rw [HR.out.2, HE.out]; simp [results, Try.results25, go_sem, hc1]) rfl ⟨rfl, (by repeat (first | with_reducible exact Below.refl _ _ | with_reducible exact HBL | with_reducible refine Below.drew ?_ | with_reducible refine Bel_drewN ?_ _ | with_reducible refine Below.alloc ?_ (by first | omega | (simp; done) | (simp; omega)) _ | with_reducible refine Below.setCell ?_ (by first | omega | (simp; done) | (simp; omega)) _))⟩
end Go.Proofs.Ytlipdegiihojfaa
