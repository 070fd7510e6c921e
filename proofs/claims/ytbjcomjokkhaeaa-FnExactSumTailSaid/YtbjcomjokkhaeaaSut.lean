/- SumTail: both sides. -/
import Derived.Test.YtbjcomjokkhaeaaRt6
import Derived.Test.YtbjcomjokkhaeaaSbs
namespace Go.Proofs.Ytbjcomjokkhaeaa
open Go Go.RowKit
set_option linter.unusedVariables false

/-- The greatest of the first k, and of the first one. -/
def mxK (xs : List Int) : Nat → Int
  | 0 => xs[0]?.getD 0
  | k + 1 => max (mxK xs k) (xs[k]?.getD 0)
theorem mxK_next (xs : List Int) (k : Nat) : mxK xs (k + 1) = max (mxK xs k) (xs[k]?.getD 0) := rfl
theorem mxK_ge (xs : List Int) : ∀ k i : Nat, i < k → xs[i]?.getD 0 ≤ mxK xs k := by
  intro k
  induction k with
  | zero => intro i h; omega
  | succ k ih =>
    intro i h
    rw [mxK_next]
    by_cases e : i = k
    · subst e; omega
    · have := ih i (by omega); omega
theorem mxK_abs {b : Nat} {xs : List Int} (h : absLe b xs) : ∀ k, -(b : Int) ≤ mxK xs k ∧ mxK xs k ≤ b := by
  intro k
  induction k with
  | zero => exact h 0
  | succ k ih => rw [mxK_next]; have := h k; omega
/-- What the numbers lack to the greatest one. -/
def lkL (g : Int) (xs : List Int) : List Int := fnL xs.length (fun i => g - xs[i]?.getD 0)
theorem lkL_len (g : Int) (xs : List Int) : (lkL g xs).length = xs.length := fnL_len _ _
theorem lkL_get (g : Int) (xs : List Int) (i : Nat) (h : i < xs.length) : (lkL g xs)[i]?.getD 0 = g - xs[i]?.getD 0 := fnL_get _ _ _ h
theorem lkL_sum (g : Int) (xs : List Int) (k : Nat) (h : k ≤ xs.length) : sumK (lkL g xs) k = g * k - sumK xs k := by
  induction k with
  | zero => show (0 : Int) = g * ((0 : Nat) : Int) - 0; simp
  | succ k ih =>
    show sumK _ k + _ = g * ((k + 1 : Nat) : Int) - (sumK xs k + _)
    rw [ih (by omega), lkL_get _ _ _ (by omega), show ((k + 1 : Nat) : Int) = (k : Int) + 1 by omega, Int.mul_add, Int.mul_one]
    omega
def stG (xs ys : List Int) : Int := mxK (xs ++ ys) (xs.length + ys.length)
def stLk (xs ys : List Int) : List Int := lkL (stG xs ys) (xs ++ ys)
def stP (xs ys : List Int) : Nat := wyS (stLk xs ys) (sumK (stLk xs ys) xs.length).toNat xs.length
def sumC (xs ys : List Int) : Prop := poolC xs ys ∧ xs.length + ys.length ≤ 12
theorem stLk_pos {xs ys : List Int} (h : poolC xs ys) : posL (stLk xs ys) := fun i hi => by
  have ha : absLe 1000 (xs ++ ys) := fun i => by
    rw [List.getElem?_append]
    by_cases h1 : i < xs.length
    · rw [if_pos h1]; exact poolC_abs h.1 i
    · rw [if_neg h1]; exact poolC_abs h.2.1 _
  have hi' : i < xs.length + ys.length := by rw [stLk, lkL_len] at hi; simpa using hi
  rw [stLk, lkL_get _ _ _ (by simpa using hi')]
  have h1 := mxK_ge (xs ++ ys) _ i hi'
  have h2 := mxK_abs ha (xs.length + ys.length)
  have h3 := ha i
  unfold stG
  omega
theorem own_cap {w : World} {base : Nat} {e : TypeId} {v : Value} {n : Nat} {xs : List Value} (h : w.ownsRow base e 1 v n xs) (h0 : 0 < n) : ∃ ao c, v = .slice ao n c ∧ n ≤ c := by
  rcases h.2 with ⟨_, h1⟩ | ⟨g', cap, cur, hv, _, _, h2, _⟩
  · omega
  · exact ⟨_, _, hv, h2⟩
set_option maxHeartbeats 1000000 in
theorem max_any (xs : List Int) (n : Nat) (hn : xs.length = n) (ao : Option Addr) (c : Nat) (w : World) (hx : Holds w ao (il xs)) (h1 : 1 ≤ n) (hl : n ≤ 1048576) :
    Calls Try.prog 53 #[.slice ao n c] w (fun e w' => e = .returned (.int .i64 (mxK xs n)) ∧ w = w') := by
  have HX := Lib.hid (And.intro hx hn)
  obtain ⟨b, o, hao, hc⟩ := hx 0 (by rw [il_len]; omega)
  rw [il_get _ _ (by omega), Nat.add_zero] at hc
  have H1 : Hid (mxK xs 1 = xs[0]?.getD 0) := Lib.hid (by show max (xs[0]?.getD 0) (xs[0]?.getD 0) = _; omega)
  generalize xs[0]?.getD 0 = x0 at hc H1
  subst hao
  clear hx hn
  go_enter Try.func53, Try.ntmps53
  go_wp2_with fail
  clear hc
  go_loop [3, 4] (fun m i => ∃ k : Nat, 1 ≤ k ∧ k ≤ n ∧ i = .int .i64 (k : Int) ∧ m = .int .i64 (mxK xs k)) (fun _ i => n - (intOf i).toNat)
  case atStart => exact ⟨1, Nat.le_refl _, h1, rfl, by rw [H1.out]⟩
  case round =>
    obtain ⟨k, hk1, hk, rfl, rfl⟩ := hrel
    by_cases hlt : k < n
    · obtain ⟨b', o', e, hc⟩ := HX.out.1 k (by rw [il_len]; have := HX.out.2; omega)
      obtain ⟨rfl, rfl⟩ : b = b' ∧ o = o' := by simpa using e
      rw [il_get _ _ (by have := HX.out.2; omega)] at hc
      have hlt' : (k : Int) < n := by omega
      have HM : Hid (mxK xs (k + 1) = max (mxK xs k) (xs[k]?.getD 0)) := Lib.hid rfl
      generalize xs[k]?.getD 0 = x at hc HM
      generalize mxK xs k = m at HM ⊢
      go_wp2_with fail
      go_round
      case rel => exact ⟨k + 1, by omega, by omega, by go_num, by rw [HM.out, show max m x = if m < x then x else m by split <;> omega]⟩
      case measure => simp [intOf]; omega
    · have e : k = n := by omega
      subst e
      go_wp2_with fail
      go_ret
      exact ⟨rfl, rfl⟩
set_option maxHeartbeats 4000000 in
theorem implSumTail_N (xs ys : List Int) (N : Nat) (hN : xs.length + ys.length = N) (ao bo : Option Addr) (ca cb : Nat) (w : World) (hv : sumC xs ys) (hx : Holds w ao (il xs)) (hy : Holds w bo (il ys)) :
    Calls Try.prog 19 #[.slice ao xs.length ca, .slice bo ys.length cb] w (RetB (.tuple #[.int .i64 (stP xs ys), .int .i64 (bin N xs.length), .bool true]) w) := by
  have HX := Lib.hid (And.intro hx hy)
  have HV := Lib.hid hv
  have hN12 : N ≤ 12 := by rw [← hN]; exact hv.2
  have hxN : xs.length ≤ N := by omega
  have hx1 : 1 ≤ xs.length := hv.1.1.1.1
  have HL : Hid ((xs ++ ys).length = N) := Lib.hid (by rw [← hN]; simp)
  have HP := Lib.hid (stLk_pos hv.1)
  have HG : Hid (mxK (xs ++ ys) N = stG xs ys) := Lib.hid (by rw [← hN]; rfl)
  have HLK : Hid (stLk xs ys = fnL N (fun i => stG xs ys - (xs ++ ys)[i]?.getD 0)) := Lib.hid (by rw [stLk, lkL, ← HL.out])
  have HPO : Hid (∀ (w : World), Holds w ao (il xs) → Holds w bo (il ys) → Calls Try.prog 42 #[.slice ao xs.length ca, .slice bo ys.length cb] w (RetL N (il (xs ++ ys)) (fun s => .tuple #[s, .bool true]) w)) := Lib.hid (fun w hx hy => hN ▸ poolOf_yes xs ys _ _ _ _ _ hv.1 hx hy)
  have hgl : -1000 ≤ stG xs ys ∧ stG xs ys ≤ 1000 := mxK_abs (b := 1000) (fun i => by
    rw [List.getElem?_append]
    by_cases h1 : i < xs.length
    · rw [if_pos h1]; exact poolC_abs hv.1.1 i
    · rw [if_neg h1]; exact poolC_abs hv.1.2.1 _) _
  have HA : Hid (absLe 1000 (xs ++ ys)) := Lib.hid (fun i => by
    rw [List.getElem?_append]
    by_cases h1 : i < xs.length
    · rw [if_pos h1]; exact poolC_abs hv.1.1 i
    · rw [if_neg h1]; exact poolC_abs hv.1.2.1 _)
  have HSP : Hid (stP xs ys = wyS (stLk xs ys) (sumK (stLk xs ys) xs.length).toNat xs.length) := Lib.hid rfl
  generalize stP xs ys = P at HSP ⊢
  generalize stG xs ys = g at HG HLK hgl
  generalize stLk xs ys = lk at HSP HP HLK
  generalize xs ++ ys = zs at *
  clear hx hy hv hN
  go_enter Try.func19, Try.ntmps19
  go_wp2_with fail
  refine (HPO.out _ HX.out.1 HX.out.2).mono ?_
  rintro e w1 ⟨ao1, c1, rfl, hrow, hb⟩
  have H1 := Lib.hid (And.intro hrow.holds hb)
  clear hrow hb
  go_wp2_with fail
  refine (max_any zs N HL.out ao1 c1 w1 H1.out.1 (by omega) (by omega)).mono ?_
  rintro e w2 ⟨rfl, rfl⟩
  rw [HG.out]
  have hmk := run_mkI0 (P := Try.prog) w1 22 2 N Try.underlying22 (by kernel_rfl) (by omega)
  have HO := Lib.hid (World.ownsRow_made (base := w1.heap.size) (e := 2) (size := 1) w1 (Array.replicate N (.int .i64 0)) N (Nat.le_refl _) (by unfold maxLen; omega) (by simp))
  go_wp2_with fail
  clear hmk
  go_loopw [10, 35] (fun v i w5 => ∃ k : Nat, k ≤ N ∧ i = .int .i64 (k : Int) ∧ w5.ownsRow w1.heap.size 2 1 v k (il (fnL k (fun i => g - zs[i]?.getD 0))) ∧ Below w1.heap.size w1 w5) (fun _ i _ => N - (intOf i).toNat)
  case atStart => exact ⟨0, Nat.zero_le _, rfl, by simpa [fnL, il] using HO.out, (by repeat (first | with_reducible exact Below.refl _ _ | with_reducible exact HBL | with_reducible refine Below.drew ?_ | with_reducible refine Bel_drewN ?_ _ | with_reducible refine Below.alloc ?_ (by first | omega | (simp; done) | (simp; omega)) _ | with_reducible refine Below.setCell ?_ (by first | omega | (simp; done) | (simp; omega)) _))⟩
  case round =>
    obtain ⟨k, hk, rfl, hown, hb5⟩ := hrel
    have H5 := Lib.hid (And.intro hown hb5)
    have hz5 := hb5.size
    by_cases hlk : k < N
    · have hlk' : (k : Int) < N := by omega
      obtain ⟨b, o, e, hc⟩ := (H1.out.1.below hb5) k (by rw [il_len, HL.out]; exact hlk)
      rw [il_get _ _ (by rw [HL.out]; exact hlk)] at hc
      have hx2 := HA.out k
      obtain ⟨x, hxx⟩ : ∃ x, zs[k]?.getD 0 = x := ⟨_, rfl⟩
      rw [hxx] at hc hx2
      have HD := Lib.hid hxx
      subst e
      clear hown hb5 hxx
      go_wp2_with (at_builtin; refine wpList_app1 rfl _ _ 22 rfl w1.heap.size 2 (.int .i64 0) 8 Try.underlying22 (by kernel_rfl) rfl _ k _ rfl (H5.out.1.alloc _) _ _ (.int .i64 (g - x)) rfl ?_ rfl ⟨by omega, by omega⟩ ?_ ?_)
      · simp
      · simp; omega
      · intro v' w' hown' hgr'
        have hb7 : Below w1.heap.size w1 w' := by
          have HBL := H5.out.2
          have h1 : Below w1.heap.size w1 _ := Below.alloc HBL (by omega) (.cells #[.int .i64 (g - x)] 2)
          exact h1.grown hgr' (by simp; omega) (own_ge H5.out.1)
        have ho7 : w'.ownsRow w1.heap.size 2 1 v' (k + 1) (il (fnL (k + 1) (fun i => g - zs[i]?.getD 0))) := by rw [fnL_next, il, List.map_append, HD.out]; exact hown'
        have H7 := Lib.hid (And.intro ho7 hb7)
        clear hown' hgr' hb7 ho7
        go_wp2_with fail
        go_roundw
        case rel => exact ⟨k + 1, by omega, by go_num, H7.out⟩
        case measure => simp [intOf]; omega
    · have e : N = k := by omega
      subst e
      rw [← HLK.out] at hown
      obtain ⟨ao2, c2, rfl, hc2⟩ := own_cap hown (by omega)
      have H7 := Lib.hid (And.intro (Row.of_own hown).holds (Bel_next H1.out.2 hb5))
      have HLL : Hid (lk.length = N) := Lib.hid (by rw [HLK.out, fnL_len])
      have HS0 := HP.out.sum xs.length (by rw [HLL.out]; exact hxN)
      obtain ⟨m, hm⟩ : ∃ m : Nat, sumK lk xs.length = (m : Int) := ⟨_, (Int.toNat_of_nonneg HS0).symm⟩
      have HM := Lib.hid hm
      clear hown hb5 hm HS0
      go_wp2_with fail
      refine (choiceTail_any lk N xs.length m HLL.out HM.out (by omega) ao2 _ (by omega) _ H7.out.1 HP.out (by omega)).mono ?_
      rintro e w3 ⟨rfl, hb⟩
      have H3 := Lib.hid (Bel_next H7.out.2 hb)
      clear hb
      rw [show wyS lk m xs.length = P by rw [HSP.out, HM.out, Int.toNat_natCast]]
      go_wp2_with fail
      go_ret3
      exact ⟨rfl, H3.out⟩
theorem implSumTail_yes (xs ys : List Int) (ao bo : Option Addr) (ca cb : Nat) (w : World) (hv : sumC xs ys) (hx : Holds w ao (il xs)) (hy : Holds w bo (il ys)) :
    Calls Try.prog 19 #[.slice ao xs.length ca, .slice bo ys.length cb] w (RetB (.tuple #[.int .i64 (stP xs ys), .int .i64 (bin (xs.length + ys.length) xs.length), .bool true]) w) :=
  implSumTail_N xs ys _ rfl ao bo ca cb w hv hx hy
theorem implSumTail_no (xs ys : List Int) (ao bo : Option Addr) (ca cb : Nat) (w : World) (hv : ¬ sumC xs ys) (hx : Holds w ao (il xs)) (hy : Holds w bo (il ys)) (hl1 : xs.length ≤ 1048576) (hl2 : ys.length ≤ 1048576) :
    Calls Try.prog 19 #[.slice ao xs.length ca, .slice bo ys.length cb] w (RetB (.tuple #[.int .i64 0, .int .i64 0, .bool false]) w) := by
  have HX := Lib.hid (And.intro hx hy)
  by_cases hp : poolC xs ys
  · have h12 : 12 < xs.length + ys.length := by
      by_cases h : xs.length + ys.length ≤ 12
      · exact absurd ⟨hp, h⟩ hv
      · omega
    have h12' : (12 : Int) < (xs.length : Int) + ys.length := by omega
    have HP := Lib.hid hp
    clear hx hy hv hp
    go_enter Try.func19, Try.ntmps19
    go_wp2_with fail
    refine (poolOf_yes xs ys _ _ _ _ _ HP.out HX.out.1 HX.out.2).mono ?_
    rintro e w1 ⟨ao1, c1, rfl, hrow, hb⟩
    have H1 := Lib.hid hb
    clear hb hrow
    go_wp2_with fail
    go_ret3
    exact ⟨rfl, H1.out⟩
  · have HP := Lib.hid hp
    clear hx hy hv hp
    go_enter Try.func19, Try.ntmps19
    go_wp2_with fail
    refine (poolOf_no xs ys _ _ _ _ _ HP.out HX.out.1 HX.out.2 hl1 hl2).mono ?_
    rintro e w1 ⟨rfl, hb⟩
    have H1 := Lib.hid hb
    clear hb
    go_wp2_with fail
    go_ret3
    exact ⟨rfl, H1.out⟩
/-- The sum of the numbers chosen by the bits of m. -/
def sM (zs : List Int) (m : Nat) : Nat → Int
  | 0 => 0
  | i + 1 => sM zs m i + (if bt m i = 1 then zs[i]?.getD 0 else 0)
theorem sM_abs {b : Nat} {zs : List Int} (h : absLe b zs) (m : Nat) : ∀ i : Nat, -((b * i : Nat) : Int) ≤ sM zs m i ∧ sM zs m i ≤ ((b * i : Nat) : Int) := by
  intro i
  induction i with
  | zero => exact ⟨by show -_ ≤ (0 : Int); omega, by show (0 : Int) ≤ _; omega⟩
  | succ i ih =>
    show _ ≤ sM zs m i + _ ∧ sM zs m i + _ ≤ _
    have := h i
    rw [Nat.mul_succ]
    split <;> omega
theorem sM_lack {g : Int} {zs : List Int} (hp : ∀ i : Nat, i < zs.length → zs[i]?.getD 0 ≤ g) (m : Nat) : ∀ i : Nat, i ≤ zs.length → sM zs m i = g * (cM m i : Nat) - (lM (rN (lkL g zs)) m i : Nat) := by
  intro i
  induction i with
  | zero => intro _; show (0 : Int) = g * ((0 : Nat) : Int) - ((0 : Nat) : Int); simp
  | succ i ih =>
    intro hi
    have h1 := hp i (by omega)
    have e : ((rN (lkL g zs) i : Nat) : Int) = g - zs[i]?.getD 0 := by unfold rN; rw [lkL_get _ _ _ (by omega)]; omega
    show sM zs m i + _ = g * ((cM m i + bt m i : Nat) : Int) - ((lM (rN (lkL g zs)) m i + bt m i * rN (lkL g zs) i : Nat) : Int)
    rw [ih (by omega)]
    have h2 := bt_le m i
    by_cases h3 : bt m i = 1
    · rw [if_pos h3, h3, Nat.one_mul, show ((cM m i + 1 : Nat) : Int) = (cM m i : Int) + 1 by omega, Int.mul_add, Int.mul_one]
      omega
    · rw [if_neg h3, show bt m i = 0 by omega, Nat.zero_mul, Nat.add_zero, Nat.add_zero]
      omega
def pS (zs : List Int) (N k : Nat) (own : Int) (m : Nat) : Nat := if cM m N = k ∧ own ≤ sM zs m N then 1 else 0
def aS (N k : Nat) (m : Nat) : Nat := if cM m N = k then 1 else 0
theorem aS_all (N k : Nat) : sq (aS N k) (2 ^ N) = bin N k := tot_bin (fun _ => 0) N k
theorem pS_all {xs ys : List Int} (h : poolC xs ys) : sq (pS (xs ++ ys) (xs.length + ys.length) xs.length (sumK xs xs.length)) (2 ^ (xs.length + ys.length)) = stP xs ys := by
  have hl : (xs ++ ys).length = xs.length + ys.length := by simp
  have hp : ∀ i : Nat, i < (xs ++ ys).length → (xs ++ ys)[i]?.getD 0 ≤ stG xs ys := fun i hi => mxK_ge _ _ i (by rw [← hl]; exact hi)
  have hs : sumK (xs ++ ys) xs.length = sumK xs xs.length := by
    have := sumK_take (xs ++ ys) xs.length xs.length (Nat.le_refl _)
    rw [List.take_left] at this
    exact this.symm
  have hm := lkL_sum (stG xs ys) (xs ++ ys) xs.length (by omega)
  rw [hs] at hm
  have h0 := (stLk_pos h).sum xs.length (by rw [stLk, lkL_len]; omega)
  rw [stLk] at h0
  obtain ⟨t, ht⟩ : ∃ t : Nat, sumK (lkL (stG xs ys) (xs ++ ys)) xs.length = (t : Int) := ⟨_, (Int.toNat_of_nonneg h0).symm⟩
  unfold stP wyS stLk
  rw [ht, Int.toNat_natCast, lkL_len, hl, ← tot_part]
  refine sq_ext (fun m _ => ?_)
  show pS _ _ _ _ m = if cM m (xs.length + ys.length) = xs.length ∧ lM (rN (lkL (stG xs ys) (xs ++ ys))) m (xs.length + ys.length) ≤ t then 1 else 0
  unfold pS
  by_cases hc : cM m (xs.length + ys.length) = xs.length
  · have e := sM_lack hp m (xs.length + ys.length) (by omega)
    rw [hc] at e
    by_cases h3 : lM (rN (lkL (stG xs ys) (xs ++ ys))) m (xs.length + ys.length) ≤ t
    · rw [if_pos ⟨hc, by omega⟩, if_pos ⟨hc, h3⟩]
    · rw [if_neg (fun h => h3 (by have := h.2; omega)), if_neg (fun h => h3 h.2)]
  · rw [if_neg (fun h => hc h.1), if_neg (fun h => hc h.1)]
theorem bit_andN (x s : Nat) (hx : x < 4294967296) : (bits .and .i64 ((x : Int) / 2 ^ s) 1 == 1) = ((x : Int).toNat / 2 ^ s % 2 == 1) := by
  have hm : x / 2 ^ s < 4294967296 := Nat.lt_of_le_of_lt (Nat.div_le_self _ _) hx
  rw [show ((x : Int) / 2 ^ s) = ((x / 2 ^ s : Nat) : Int) by simp, Int.toNat_natCast]
  generalize x / 2 ^ s = m at hm
  have e : bits .and .i64 (m : Int) 1 = ((m % 2 : Nat) : Int) := by
    show IntKind.i64.wrap ((BitVec.ofInt 64 (m : Int) &&& BitVec.ofInt 64 ((1 : Nat) : Int)).toNat : Int) = _
    rw [BitVec.toNat_and, BitVec.ofInt_natCast, BitVec.ofInt_natCast, BitVec.toNat_ofNat, BitVec.toNat_ofNat, Nat.mod_eq_of_lt (by omega), Nat.mod_eq_of_lt (by omega), Nat.and_one_is_mod, IntKind.wrap_i64]
    omega
  rw [e, Bool.eq_iff_iff]; simp; omega
theorem bt_and (m j : Nat) (h : m < 4294967296) : (bits .and .i64 ((m : Int) / 2 ^ j) 1 == 1) = decide (bt m j = 1) := by
  rw [bit_andN m j h, Int.toNat_natCast, Bool.eq_iff_iff]; simp only [bt, beq_iff_eq]; exact ⟨fun h => decide_eq_true h, fun h => of_decide_eq_true h⟩
set_option maxRecDepth 100000 in
set_option maxHeartbeats 8000000 in
theorem specSumTail_N (xs ys : List Int) (N : Nat) (hN : xs.length + ys.length = N) (ao bo : Option Addr) (ca cb : Nat) (w : World) (hv : sumC xs ys) (hx : Holds w ao (il xs)) (hy : Holds w bo (il ys)) :
    Calls Try.prog 18 #[.slice ao xs.length ca, .slice bo ys.length cb] w (RetB (.tuple #[.int .i64 (stP xs ys), .int .i64 (bin N xs.length), .bool true]) w) := by
  have HX := Lib.hid (And.intro hx hy)
  have HV := Lib.hid hv
  have hN12 : N ≤ 12 := by rw [← hN]; exact hv.2
  have hN12' : (xs.length : Int) + ys.length ≤ 12 := by omega
  have hxN : xs.length ≤ N := by omega
  have hx1 : 1 ≤ xs.length := hv.1.1.1.1
  have hy1 : 1 ≤ ys.length := hv.1.2.1.1.1
  have HL : Hid ((xs ++ ys).length = N) := Lib.hid (by rw [← hN]; simp)
  have HJ : Hid (∀ (w : World), Holds w ao (il xs) → Holds w bo (il ys) → Calls Try.prog 39 #[.slice ao xs.length ca, .slice bo ys.length cb] w (RetL N (il (xs ++ ys)) (fun s => s) w)) := Lib.hid (fun w hx hy => hN ▸ l06Joined_any xs ys _ _ rfl rfl _ _ _ _ _ hx hy hx1 hy1 (by omega))
  have HA : Hid (absLe 1000 (xs ++ ys)) := Lib.hid (fun i => by
    rw [List.getElem?_append]
    by_cases h1 : i < xs.length
    · rw [if_pos h1]; exact poolC_abs hv.1.1 i
    · rw [if_neg h1]; exact poolC_abs hv.1.2.1 _)
  have HE : Hid (sq (pS (xs ++ ys) N xs.length (sumK xs xs.length)) (2 ^ N) = stP xs ys ∧ sq (aS N xs.length) (2 ^ N) = bin N xs.length) := Lib.hid ⟨hN ▸ pS_all hv.1, aS_all _ _⟩
  have HW : Hid (wrap64 ((2 : Int) ^ N) = ((2 ^ N : Nat) : Int)) := Lib.hid (by
    have h : 2 ^ N ≤ 2 ^ 12 := Nat.pow_le_pow_right (by omega) hN12
    rw [show ((2 : Int) ^ N) = ((2 ^ N : Nat) : Int) by simp]
    generalize 2 ^ N = M at h
    unfold wrap64
    omega)
  generalize xs ++ ys = zs at *
  clear hx hy hv hN
  go_enter Try.func18, Try.ntmps18
  go_wp2_with (first | (go_at_call 52; refine (l06Both_yes xs ys _ _ _ _ _ HV.out.1 HX.out.1 HX.out.2).mono ?_; rintro e w1 ⟨rfl, rfl⟩))
  refine (HJ.out _ HX.out.1 HX.out.2).mono ?_
  rintro e w2 ⟨ao1, c1, rfl, hrow, hb⟩
  have H1 := Lib.hid (And.intro hrow.holds hb)
  clear hrow hb
  go_wp2_with fail
  refine (l06First_any xs 1000 xs.length (Nat.le_refl _) ao xs.length _ rfl _ (HX.out.1.below H1.out.2) (poolC_abs HV.out.1.1) (by omega) (by omega)).mono ?_
  rintro e w4 ⟨rfl, rfl⟩
  have hob := sumK_le (poolC_abs HV.out.1.1) xs.length
  generalize sumK xs xs.length = own at HE hob ⊢
  go_wp2_with fail
  go_loop [9, 10, 11] (fun p a i => ∃ m : Nat, m ≤ 2 ^ N ∧ i = .int .i64 (m : Int) ∧ p = .int .i64 ((sq (pS zs N xs.length own) m : Nat) : Int) ∧ a = .int .i64 ((sq (aS N xs.length) m : Nat) : Int)) (fun _ _ i => 2 ^ N - (intOf i).toNat)
  case atStart => exact ⟨0, Nat.zero_le _, rfl, rfl, rfl⟩
  case round =>
    obtain ⟨m, hm, rfl, rfl, rfl⟩ := hrel
    by_cases hlm : m < 2 ^ N
    · have hlm' : (m : Int) < wrap64 (2 ^ N) := by rw [HW.out]; omega
      have hm4 : m < 4096 := Nat.lt_of_lt_of_le hlm (Nat.pow_le_pow_right (by omega) hN12 : 2 ^ N ≤ 2 ^ 12)
      go_wp2_with fail
      go_loop [12, 13, 14] (fun c t i => ∃ j : Nat, j ≤ N ∧ i = .int .i64 (j : Int) ∧ c = .int .i64 ((cM m j : Nat) : Int) ∧ t = .int .i64 (sM zs m j)) (fun _ _ i => N - (intOf i).toNat)
      case atStart => exact ⟨0, Nat.zero_le _, rfl, rfl, rfl⟩
      case round =>
        obtain ⟨j, hj, rfl, rfl, rfl⟩ := hrel
        by_cases hlj : j < N
        · have hlj' : (j : Int) < N := by omega
          have hcb := cM_le m j
          have hsb := sM_abs HA.out m j
          have HN : Hid (cM m (j + 1) = cM m j + bt m j ∧ sM zs m (j + 1) = sM zs m j + (if bt m j = 1 then zs[j]?.getD 0 else 0)) := Lib.hid ⟨rfl, rfl⟩
          have hbit := bt_and m j (by omega)
          have hxa := HA.out j
          obtain ⟨b, o, e, hc⟩ := H1.out.1 j (by rw [il_len, HL.out]; exact hlj)
          rw [il_get _ _ (by rw [HL.out]; exact hlj)] at hc
          by_cases hb : bt m j = 1
          · rw [decide_eq_true hb] at hbit
            rw [if_pos hb, hb] at HN
            generalize zs[j]?.getD 0 = x at hc hxa HN
            generalize cM m j = c at hcb HN ⊢
            generalize sM zs m j = t at hsb HN ⊢
            subst e
            go_wp2_with fail
            go_round
            case rel => exact ⟨j + 1, by omega, by go_num, by rw [HN.out.1]; go_num, by rw [HN.out.2]⟩
            case measure => simp [intOf]; omega
          · rw [decide_eq_false hb] at hbit
            rw [if_neg hb, show bt m j = 0 by have := bt_le m j; omega] at HN
            clear hc
            generalize cM m j = c at hcb HN ⊢
            generalize sM zs m j = t at hsb HN ⊢
            go_wp2_with fail
            go_round
            case rel => exact ⟨j + 1, by omega, by go_num, by rw [HN.out.1]; rfl, by rw [HN.out.2]; simp⟩
            case measure => simp [intOf]; omega
        · have e : N = j := by omega
          subst e
          have HN : Hid (sq (pS zs N xs.length own) (m + 1) = sq (pS zs N xs.length own) m + (if cM m N = xs.length ∧ own ≤ sM zs m N then 1 else 0) ∧ sq (aS N xs.length) (m + 1) = sq (aS N xs.length) m + (if cM m N = xs.length then 1 else 0)) := Lib.hid ⟨rfl, rfl⟩
          have hpb := sq_le (f := pS zs N xs.length own) (b := 1) (fun i => by unfold pS; split <;> omega) m
          have hab := sq_le (f := aS N xs.length) (b := 1) (fun i => by unfold aS; split <;> omega) m
          generalize sq (pS zs N xs.length own) m = p at HN hpb ⊢
          generalize sq (aS N xs.length) m = a at HN hab ⊢
          generalize cM m N = c at HN ⊢
          generalize sM zs m N = t at HN ⊢
          by_cases h1 : c = xs.length
          · subst h1
            by_cases h2 : own ≤ t
            · rw [if_pos ⟨rfl, h2⟩, if_pos rfl] at HN
              go_wp2_with fail
              go_round
              case rel => exact ⟨m + 1, by omega, by go_num, by rw [HN.out.1]; go_num, by rw [HN.out.2]; go_num⟩
              case measure => simp [intOf]; omega
            · rw [if_neg (fun h => h2 h.2), if_pos rfl] at HN
              go_wp2_with fail
              go_round
              case rel => exact ⟨m + 1, by omega, by go_num, by rw [HN.out.1]; rfl, by rw [HN.out.2]; go_num⟩
              case measure => simp [intOf]; omega
          · have h1' : ¬ (c : Int) = xs.length := by omega
            rw [if_neg (fun h => h1 h.1), if_neg h1] at HN
            go_wp2_with fail
            go_round
            case rel => exact ⟨m + 1, by omega, by go_num, by rw [HN.out.1]; rfl, by rw [HN.out.2]; rfl⟩
            case measure => simp [intOf]; omega
    · have hlm' : ¬ ((m : Int) < wrap64 (2 ^ N)) := by rw [HW.out]; omega
      have e : m = 2 ^ N := by omega
      subst e
      rw [HE.out.1, HE.out.2]
      go_wp2_with fail
      go_ret3
      exact ⟨rfl, H1.out.2⟩
theorem specSumTail_yes (xs ys : List Int) (ao bo : Option Addr) (ca cb : Nat) (w : World) (hv : sumC xs ys) (hx : Holds w ao (il xs)) (hy : Holds w bo (il ys)) :
    Calls Try.prog 18 #[.slice ao xs.length ca, .slice bo ys.length cb] w (RetB (.tuple #[.int .i64 (stP xs ys), .int .i64 (bin (xs.length + ys.length) xs.length), .bool true]) w) :=
  specSumTail_N xs ys _ rfl ao bo ca cb w hv hx hy
theorem specSumTail_no (xs ys : List Int) (ao bo : Option Addr) (ca cb : Nat) (w : World) (hv : ¬ sumC xs ys) (hx : Holds w ao (il xs)) (hy : Holds w bo (il ys)) (hl1 : xs.length ≤ 1048576) (hl2 : ys.length ≤ 1048576) :
    Calls Try.prog 18 #[.slice ao xs.length ca, .slice bo ys.length cb] w (RetB (.tuple #[.int .i64 0, .int .i64 0, .bool false]) w) := by
  have HX := Lib.hid (And.intro hx hy)
  by_cases hp : poolC xs ys
  · have h12 : 12 < xs.length + ys.length := by
      by_cases h : xs.length + ys.length ≤ 12
      · exact absurd ⟨hp, h⟩ hv
      · omega
    have h12' : (12 : Int) < (xs.length : Int) + ys.length := by omega
    have HP := Lib.hid hp
    clear hx hy hv hp
    go_enter Try.func18, Try.ntmps18
    go_wp2_with (first | (go_at_call 52; refine (l06Both_yes xs ys _ _ _ _ _ HP.out HX.out.1 HX.out.2).mono ?_; rintro e w1 ⟨rfl, rfl⟩))
    go_ret3
    exact ⟨rfl, (by repeat (first | with_reducible exact Below.refl _ _ | with_reducible exact HBL | with_reducible refine Below.drew ?_ | with_reducible refine Bel_drewN ?_ _ | with_reducible refine Below.alloc ?_ (by first | omega | (simp; done) | (simp; omega)) _ | with_reducible refine Below.setCell ?_ (by first | omega | (simp; done) | (simp; omega)) _))⟩
  · have HP := Lib.hid hp
    clear hx hy hv hp
    go_enter Try.func18, Try.ntmps18
    go_wp2_with (first | (go_at_call 52; refine (l06Both_no xs ys _ _ _ _ _ HP.out HX.out.1 HX.out.2 hl1 hl2).mono ?_; rintro e w1 ⟨rfl, rfl⟩))
    go_ret3
    exact ⟨rfl, (by repeat (first | with_reducible exact Below.refl _ _ | with_reducible exact HBL | with_reducible refine Below.drew ?_ | with_reducible refine Bel_drewN ?_ _ | with_reducible refine Below.alloc ?_ (by first | omega | (simp; done) | (simp; omega)) _ | with_reducible refine Below.setCell ?_ (by first | omega | (simp; done) | (simp; omega)) _))⟩
end Go.Proofs.Ytbjcomjokkhaeaa
