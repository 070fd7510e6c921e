/- Ranks of rows of bits: what exclusive sums reach, and that two lists with different greatest bits that reach the same are equally long. -/
import Derived.Below
namespace Go.Proofs.Yticmnkgcolgpaaa
open Go Go.RowKit
set_option linter.unusedVariables false
/-- What exclusive sums of the first n numbers reach. -/
inductive Spf (n : Nat) (f : Nat → Nat) : Nat → Prop
  | zero : Spf n f 0
  | add {v i : Nat} : Spf n f v → i < n → Spf n f (v ^^^ f i)
theorem Spf.one {n : Nat} {f : Nat → Nat} {i : Nat} (h : i < n) : Spf n f (f i) := by
  have := Spf.add (f := f) Spf.zero h
  rwa [Nat.zero_xor] at this
theorem Spf.xor {n : Nat} {f : Nat → Nat} {v u : Nat} (hv : Spf n f v) (hu : Spf n f u) : Spf n f (v ^^^ u) := by
  induction hu with
  | zero => rw [Nat.xor_zero]; exact hv
  | add _ hi ih => rw [← Nat.xor_assoc]; exact ih.add hi
theorem Spf.sub {n m : Nat} {f g : Nat → Nat} {v : Nat} (h : ∀ i, i < n → Spf m g (f i)) (hv : Spf n f v) : Spf m g v := by
  induction hv with
  | zero => exact .zero
  | add _ hi ih => exact ih.xor (h _ hi)
theorem Spf.last {n : Nat} {f : Nat → Nat} {v : Nat} (h : Spf (n + 1) f v) : Spf n f v ∨ Spf n f (v ^^^ f n) := by
  induction h with
  | zero => exact .inl .zero
  | @add v i _ hi ih =>
    by_cases e : i = n
    · subst e
      rcases ih with ih | ih
      · right; rw [Nat.xor_assoc, Nat.xor_self, Nat.xor_zero]; exact ih
      · exact .inl ih
    · rcases ih with ih | ih
      · exact .inl (ih.add (by omega))
      · right
        rw [Nat.xor_assoc, Nat.xor_comm (f i), ← Nat.xor_assoc]
        exact ih.add (by omega)
theorem top_bit {v : Nat} (h : v ≠ 0) : v.testBit v.log2 = true := by
  have h1 := Nat.log2_self_le h
  have h2 := Nat.lt_log2_self (n := v)
  rw [Nat.testBit_eq_decide_div_mod_eq]
  have h3 : v / 2 ^ v.log2 = 1 := by
    rw [Nat.pow_succ] at h2
    exact Nat.div_eq_of_lt_le (by omega) (by omega)
  rw [h3]; rfl
theorem top_over {v i : Nat} (h : v.log2 < i) : v.testBit i = false := by
  refine Nat.testBit_lt_two_pow (Nat.lt_of_lt_of_le (Nat.lt_log2_self (n := v)) (Nat.pow_le_pow_right (by omega) h))
theorem log_of_top {v i : Nat} (h1 : v.testBit i = true) (h2 : ∀ j, i < j → v.testBit j = false) : v.log2 = i := by
  have h0 : v ≠ 0 := by intro e; subst e; rw [Nat.zero_testBit] at h1; cases h1
  rcases Nat.lt_trichotomy v.log2 i with h | h | h
  · rw [top_over h] at h1; cases h1
  · exact h
  · have := top_bit h0; rw [h2 _ h] at this; cases this
theorem xor_top {a b : Nat} (hb : b ≠ 0) (h : a.log2 < b.log2) : (a ^^^ b).log2 = b.log2 := by
  refine log_of_top ?_ fun j hj => ?_
  · rw [Nat.testBit_xor, top_over h, top_bit hb]; rfl
  · rw [Nat.testBit_xor, top_over (by omega), top_over hj]; rfl
theorem xor_top2 {a b : Nat} (ha : a ≠ 0) (h : b.log2 < a.log2) : (a ^^^ b).log2 = a.log2 := by rw [Nat.xor_comm]; exact xor_top ha h
/-- Numbers that are not 0, with different greatest bits. -/
structure Dis (n : Nat) (f : Nat → Nat) : Prop where
  pos : ∀ i, i < n → f i ≠ 0
  dif : ∀ i j, i < j → j < n → (f i).log2 ≠ (f j).log2
theorem Dis.less {n : Nat} {f : Nat → Nat} (h : Dis (n + 1) f) : Dis n f := ⟨fun i hi => h.pos i (by omega), fun i j hij hj => h.dif i j hij (by omega)⟩
theorem Dis.top {n : Nat} {f : Nat → Nat} (h : Dis n f) {v : Nat} (hv : Spf n f v) (h0 : v ≠ 0) : ∃ i, i < n ∧ v.log2 = (f i).log2 := by
  induction n generalizing v with
  | zero =>
    exfalso
    cases hv with
    | zero => exact h0 rfl
    | add _ hi => exact absurd hi (Nat.not_lt_zero _)
  | succ n ih =>
    rcases hv.last with hv | hv
    · obtain ⟨i, hi, e⟩ := ih h.less hv h0
      exact ⟨i, by omega, e⟩
    · by_cases e : v ^^^ f n = 0
      · refine ⟨n, by omega, ?_⟩
        have : v = f n := by
          have h1 : v ^^^ f n ^^^ f n = v := by rw [Nat.xor_assoc, Nat.xor_self, Nat.xor_zero]
          rw [e, Nat.zero_xor] at h1
          exact h1.symm
        rw [this]
      · obtain ⟨i, hi, e2⟩ := ih h.less hv e
        have hne := h.dif i n hi (by omega)
        have hfn := h.pos n (by omega)
        have hvv : v = (v ^^^ f n) ^^^ f n := by rw [Nat.xor_assoc, Nat.xor_self, Nat.xor_zero]
        rcases Nat.lt_or_gt_of_ne (show (v ^^^ f n).log2 ≠ (f n).log2 by rw [e2]; exact hne) with h1 | h1
        · exact ⟨n, by omega, by rw [hvv, xor_top hfn h1]⟩
        · exact ⟨i, by omega, by rw [hvv, xor_top2 e h1, e2]⟩
theorem nodup_le {l1 l2 : List Nat} (h : l1.Nodup) (hs : ∀ x, x ∈ l1 → x ∈ l2) : l1.length ≤ l2.length := by
  induction l1 generalizing l2 with
  | nil => exact Nat.zero_le _
  | cons a l ih =>
    have ha := hs a (by simp)
    rw [List.nodup_cons] at h
    have h1 := ih (l2 := l2.erase a) h.2 fun x hx => (List.mem_erase_of_ne (fun (e : x = a) => h.1 (e ▸ hx))).2 (hs x (by simp [hx]))
    rw [List.length_erase_of_mem ha] at h1
    have : 0 < l2.length := List.length_pos_of_mem ha
    simp only [List.length_cons]
    omega
theorem Dis.le {n m : Nat} {f g : Nat → Nat} (hf : Dis n f) (hg : Dis m g) (h : ∀ i, i < n → Spf m g (f i)) : n ≤ m := by
  have h1 : ((List.range n).map fun i => (f i).log2).Nodup := by
    unfold List.Nodup
    rw [List.pairwise_map]
    refine List.Pairwise.imp_of_mem (fun ha hb hab => ?_) List.pairwise_lt_range
    exact hf.dif _ _ hab (by simpa using hb)
  have h2 := nodup_le (l2 := (List.range m).map fun i => (g i).log2) h1 fun x hx => by
    simp only [List.mem_map, List.mem_range] at hx ⊢
    obtain ⟨i, hi, rfl⟩ := hx
    obtain ⟨j, hj, e⟩ := hg.top (h i hi) (hf.pos i hi)
    exact ⟨j, hj, e.symm⟩
  simpa using h2
theorem Dis.eq {n m : Nat} {f g : Nat → Nat} (hf : Dis n f) (hg : Dis m g) (h1 : ∀ i, i < n → Spf m g (f i)) (h2 : ∀ i, i < m → Spf n f (g i)) : n = m := Nat.le_antisymm (hf.le hg h1) (hg.le hf h2)
/-- The numbers of a list. -/
def at0 (L : List Nat) (i : Nat) : Nat := L[i]?.getD 0
theorem at0_app {L : List Nat} {x i : Nat} (h : i < L.length) : at0 (L ++ [x]) i = at0 L i := by unfold at0; rw [List.getElem?_append_left h]
theorem at0_end {L : List Nat} {x : Nat} : at0 (L ++ [x]) L.length = x := by unfold at0; simp
/-- A word lessened by the first rows. -/
def redW (R : List Nat) (w : Nat) : Nat → Nat
  | 0 => w
  | k + 1 => min (redW R w k) (redW R w k ^^^ at0 R k)
/-- Rows each of which lacks the greatest bits of those before. -/
structure Ech (R : List Nat) : Prop where
  pos : ∀ i, i < R.length → at0 R i ≠ 0
  off : ∀ i j, i < j → j < R.length → (at0 R j).testBit (at0 R i).log2 = false
theorem Ech.dis {R : List Nat} (h : Ech R) : Dis R.length (at0 R) := ⟨h.pos, fun i j hij hj e => by
  have h1 := h.off i j hij hj
  rw [e, top_bit (h.pos j hj)] at h1
  cases h1⟩
theorem Ech.nil : Ech [] := ⟨fun i hi => absurd hi (Nat.not_lt_zero _), fun i j _ hj => absurd hj (Nat.not_lt_zero _)⟩
theorem less_by_bit {x y : Nat} (i : Nat) (hx : x.testBit i = false) (hy : y.testBit i = true) (h : ∀ j, i < j → x.testBit j = y.testBit j) : x < y := by
  have e : ∀ z j : Nat, (z / 2 ^ i).testBit j = z.testBit (i + j) := fun z j => by rw [Nat.testBit_div_two_pow, Nat.add_comm]
  have h1 : x / 2 ^ i / 2 = y / 2 ^ i / 2 := Nat.eq_of_testBit_eq fun j => by
    rw [← Nat.testBit_succ, ← Nat.testBit_succ, e, e]
    exact h _ (by omega)
  have hx0 := e x 0
  have hy0 := e y 0
  rw [Nat.add_zero, hx, Nat.testBit_zero] at hx0
  rw [Nat.add_zero, hy, Nat.testBit_zero] at hy0
  have hx1 : ¬ x / 2 ^ i % 2 = 1 := by simpa using hx0
  have hy1 : y / 2 ^ i % 2 = 1 := by simpa using hy0
  rcases Nat.lt_or_ge x y with h2 | h2
  · exact h2
  · have := Nat.div_le_div_right (c := 2 ^ i) h2
    omega
theorem xor_less {u r : Nat} (hr : r ≠ 0) (h : u.testBit r.log2 = true) : u ^^^ r < u := by
  refine less_by_bit r.log2 ?_ h fun j hj => ?_
  · rw [Nat.testBit_xor, h, top_bit hr]; rfl
  · rw [Nat.testBit_xor, top_over hj]; simp
theorem xor_more {u r : Nat} (hr : r ≠ 0) (h : u.testBit r.log2 = false) : u < u ^^^ r := by
  refine less_by_bit r.log2 h ?_ fun j hj => ?_
  · rw [Nat.testBit_xor, h, top_bit hr]; rfl
  · rw [Nat.testBit_xor, top_over hj]; simp
theorem redW_off {R : List Nat} (h : Ech R) (w : Nat) : ∀ {k : Nat}, k ≤ R.length → ∀ i, i < k → (redW R w k).testBit (at0 R i).log2 = false
  | 0, _, i, hi => absurd hi (Nat.not_lt_zero _)
  | k + 1, hk, i, hi => by
    show Nat.testBit (min (redW R w k) (redW R w k ^^^ at0 R k)) _ = false
    have hr := h.pos k (by omega)
    cases hb : (redW R w k).testBit (at0 R k).log2 with
    | true =>
      rw [Nat.min_eq_right (Nat.le_of_lt (xor_less hr hb)), Nat.testBit_xor]
      by_cases e : i = k
      · subst e; rw [hb, top_bit hr]; rfl
      · rw [redW_off h w (k := k) (by omega) i (by omega), h.off i k (by omega) (by omega)]; rfl
    | false =>
      rw [Nat.min_eq_left (Nat.le_of_lt (xor_more hr hb))]
      by_cases e : i = k
      · subst e; exact hb
      · exact redW_off h w (k := k) (by omega) i (by omega)
theorem redW_span (R : List Nat) (w : Nat) : ∀ {k : Nat}, k ≤ R.length → Spf R.length (at0 R) (redW R w k ^^^ w)
  | 0, _ => by show Spf _ _ (w ^^^ w); rw [Nat.xor_self]; exact .zero
  | k + 1, hk => by
    have ih := redW_span R w (k := k) (by omega)
    show Spf _ _ (min _ _ ^^^ w)
    rcases Nat.le_total (redW R w k) (redW R w k ^^^ at0 R k) with e | e
    · rw [Nat.min_eq_left e]; exact ih
    · rw [Nat.min_eq_right e, Nat.xor_assoc, Nat.xor_comm (at0 R k), ← Nat.xor_assoc]
      exact ih.add (by omega)
theorem redW_lt {R : List Nat} {w B : Nat} (hw : w < 2 ^ B) : ∀ k, redW R w k < 2 ^ B
  | 0 => hw
  | k + 1 => Nat.lt_of_le_of_lt (Nat.min_le_left _ _) (redW_lt hw k)
/-- The rows of the first words. -/
def rowsR (W : List Nat) : Nat → List Nat
  | 0 => []
  | k + 1 => if redW (rowsR W k) (at0 W k) (rowsR W k).length = 0 then rowsR W k else rowsR W k ++ [redW (rowsR W k) (at0 W k) (rowsR W k).length]
theorem Ech.more {R : List Nat} (h : Ech R) {w : Nat} (h0 : redW R w R.length ≠ 0) : Ech (R ++ [redW R w R.length]) := by
  refine ⟨fun i hi => ?_, fun i j hij hj => ?_⟩
  · rw [List.length_append] at hi
    by_cases e : i = R.length
    · subst e; rw [at0_end]; exact h0
    · rw [at0_app (by simp at hi; omega)]; exact h.pos i (by simp at hi; omega)
  · rw [List.length_append] at hj
    simp only [List.length_singleton] at hj
    rw [at0_app (show i < R.length by omega)]
    by_cases e : j = R.length
    · subst e; rw [at0_end]; exact redW_off h w (Nat.le_refl _) i hij
    · rw [at0_app (by omega)]; exact h.off i j hij (by omega)
theorem rowsR_ech (W : List Nat) : ∀ k, Ech (rowsR W k)
  | 0 => Ech.nil
  | k + 1 => by
    show Ech (if _ then _ else _)
    split
    · exact rowsR_ech W k
    · rename_i h; exact (rowsR_ech W k).more h
theorem Spf.grow {R : List Nat} {x v : Nat} (h : Spf R.length (at0 R) v) : Spf (R ++ [x]).length (at0 (R ++ [x])) v :=
  h.sub fun i hi => by
    have h1 := Spf.one (n := (R ++ [x]).length) (f := at0 (R ++ [x])) (i := i) (by rw [List.length_append]; omega)
    rwa [at0_app hi] at h1
/-- The rows reach the words, and are reached by them. -/
theorem rowsR_span (W : List Nat) : ∀ {k : Nat}, k ≤ W.length → (∀ i, i < (rowsR W k).length → Spf W.length (at0 W) (at0 (rowsR W k) i)) ∧ (∀ i, i < k → Spf (rowsR W k).length (at0 (rowsR W k)) (at0 W i))
  | 0, _ => ⟨fun i hi => absurd hi (Nat.not_lt_zero _), fun i hi => absurd hi (Nat.not_lt_zero _)⟩
  | k + 1, hk => by
    obtain ⟨h1, h2⟩ := rowsR_span W (k := k) (by omega)
    have h3 := redW_span (rowsR W k) (at0 W k) (Nat.le_refl _)
    have h4 : Spf W.length (at0 W) (redW (rowsR W k) (at0 W k) (rowsR W k).length) := by
      have h5 := (h3.sub h1).add (show k < W.length by omega)
      rwa [Nat.xor_assoc, Nat.xor_self, Nat.xor_zero] at h5
    have e0 : rowsR W (k + 1) = if redW (rowsR W k) (at0 W k) (rowsR W k).length = 0 then rowsR W k else rowsR W k ++ [redW (rowsR W k) (at0 W k) (rowsR W k).length] := rfl
    rw [e0]
    clear e0
    split
    · rename_i h0
      refine ⟨h1, fun i hi => ?_⟩
      by_cases e : i = k
      · subst e; rw [h0, Nat.zero_xor] at h3; exact h3
      · exact h2 i (by omega)
    · rename_i h0
      refine ⟨fun i hi => ?_, fun i hi => ?_⟩
      · by_cases e : i = (rowsR W k).length
        · subst e; rw [at0_end]; exact h4
        · have hi2 : i < (rowsR W k).length := by rw [List.length_append] at hi; simp at hi; omega
          rw [at0_app hi2]; exact h1 i hi2
      · by_cases e : i = k
        · subst e
          have h6 := (h3.grow (x := redW (rowsR W i) (at0 W i) (rowsR W i).length)).add (i := (rowsR W i).length) (by simp)
          rw [at0_end, Nat.xor_comm, ← Nat.xor_assoc, Nat.xor_self, Nat.zero_xor] at h6
          exact h6
        · exact (h2 i (by omega)).grow
def rankN (W : List Nat) : Nat := (rowsR W W.length).length
/-- Whatever numbers with different greatest bits reach the same, there are as many. -/
theorem rank_is {W : List Nat} {r : Nat} {f : Nat → Nat} (hf : Dis r f) (h1 : ∀ i, i < r → Spf W.length (at0 W) (f i)) (h2 : ∀ i, i < W.length → Spf r f (at0 W i)) : r = rankN W := by
  obtain ⟨h3, h4⟩ := rowsR_span W (Nat.le_refl _)
  exact hf.eq (rowsR_ech W _).dis (fun i hi => (h1 i hi).sub h4) (fun i hi => (h3 i hi).sub h2)
/-- Rows being cleared bit by bit: r rows are found, the others are less than 2 to the power of b. -/
structure Elim (W : List Nat) (b r : Nat) (L : List Nat) : Prop where
  len : L.length = W.length
  rle : r ≤ L.length
  top : ∀ i, i < r → at0 L i ≠ 0 ∧ b ≤ (at0 L i).log2
  dif : ∀ i j, i < j → j < r → (at0 L i).log2 ≠ (at0 L j).log2
  low : ∀ i, r ≤ i → i < L.length → at0 L i < 2 ^ b
  there : ∀ i, i < L.length → Spf W.length (at0 W) (at0 L i)
  back : ∀ i, i < W.length → Spf L.length (at0 L) (at0 W i)
theorem Elim.start {W : List Nat} {b : Nat} (h : ∀ i, i < W.length → at0 W i < 2 ^ b) : Elim W b 0 W :=
  ⟨rfl, Nat.zero_le _, fun i hi => absurd hi (Nat.not_lt_zero _), fun i j _ hj => absurd hj (Nat.not_lt_zero _), fun i _ hi => h i hi, fun i hi => Spf.one hi, fun i hi => Spf.one hi⟩
theorem low_bit {x b : Nat} (h : x < 2 ^ (b + 1)) (hb : x.testBit b = false) : x < 2 ^ b := by
  rcases Nat.lt_or_ge x (2 ^ b) with h1 | h1
  · exact h1
  · exfalso
    rw [Nat.testBit_eq_decide_div_mod_eq] at hb
    rw [Nat.pow_succ] at h
    have h3 : x / 2 ^ b = 1 := Nat.div_eq_of_lt_le (by omega) (by omega)
    rw [h3] at hb
    cases hb
theorem Elim.skip {W L : List Nat} {b r : Nat} (h : Elim W (b + 1) r L) (hb : ∀ i, r ≤ i → i < L.length → (at0 L i).testBit b = false) : Elim W b r L :=
  ⟨h.len, h.rle, fun i hi => ⟨(h.top i hi).1, by have := (h.top i hi).2; omega⟩, h.dif, fun i h1 h2 => low_bit (h.low i h1 h2) (hb i h1 h2), h.there, h.back⟩
def swapL (L : List Nat) (a r : Nat) : List Nat := (L.set a (at0 L r)).set r (at0 L a)
theorem at0_set {L : List Nat} {i x j : Nat} (hi : i < L.length) : at0 (L.set i x) j = if j = i then x else at0 L j := by
  unfold at0
  by_cases e : j = i
  · subst e; rw [if_pos rfl, List.getElem?_set_self hi]; rfl
  · rw [if_neg e, List.getElem?_set_ne (fun h => e h.symm)]
theorem at0_swap {L : List Nat} {a r j : Nat} (ha : a < L.length) (hr : r < L.length) : at0 (swapL L a r) j = if j = r then at0 L a else if j = a then at0 L r else at0 L j := by
  unfold swapL
  rw [at0_set (by rw [List.length_set]; exact hr), at0_set ha]
theorem swapL_len (L : List Nat) (a r : Nat) : (swapL L a r).length = L.length := by simp [swapL]
theorem Elim.swap {W L : List Nat} {b r a : Nat} (h : Elim W b r L) (hra : r ≤ a) (ha : a < L.length) : Elim W b r (swapL L a r) := by
  have hr : r < L.length := by omega
  have hs : ∀ j, j < r → at0 (swapL L a r) j = at0 L j := fun j hj => by rw [at0_swap ha hr, if_neg (by omega), if_neg (by omega)]
  have hall : ∀ j, j < L.length → ∃ k, k < L.length ∧ (r ≤ j → r ≤ k) ∧ at0 (swapL L a r) j = at0 L k := fun j hj => by
    rw [at0_swap ha hr]
    by_cases e1 : j = r
    · exact ⟨a, ha, fun _ => hra, if_pos e1⟩
    · by_cases e2 : j = a
      · exact ⟨r, hr, fun _ => Nat.le_refl _, by rw [if_neg e1, if_pos e2]⟩
      · exact ⟨j, hj, fun h => h, by rw [if_neg e1, if_neg e2]⟩
  refine ⟨by rw [swapL_len, h.len], by rw [swapL_len]; exact h.rle, fun i hi => by rw [hs i hi]; exact h.top i hi, fun i j hij hj => by rw [hs i (by omega), hs j hj]; exact h.dif i j hij hj, fun i h1 h2 => ?_, fun i hi => ?_, fun i hi => ?_⟩
  · obtain ⟨k, k1, k2, k3⟩ := hall i (by rwa [swapL_len] at h2)
    rw [k3]; exact h.low k (k2 h1) k1
  · obtain ⟨k, k1, _, k3⟩ := hall i (by rwa [swapL_len] at hi)
    rw [k3]; exact h.there k k1
  · refine (h.back i hi).sub fun j hj => ?_
    rw [swapL_len]
    by_cases e1 : j = r
    · have := Spf.one (f := at0 (swapL L a r)) (n := L.length) ha
      rw [at0_swap ha hr] at this
      by_cases e2 : a = r
      · rw [if_pos e2] at this; have e3 : at0 L r = at0 L a := by rw [e2]
        rw [e1, e3]; exact this
      · rw [if_neg e2, if_pos rfl] at this; rw [e1]; exact this
    · by_cases e2 : j = a
      · have := Spf.one (f := at0 (swapL L a r)) (n := L.length) hr
        rw [at0_swap ha hr, if_pos rfl] at this
        rw [e2]; exact this
      · have := Spf.one (f := at0 (swapL L a r)) (n := L.length) hj
        rw [at0_swap ha hr, if_neg e1, if_neg e2] at this
        exact this
/-- While the rows behind the one that is found are cleared. -/
structure Clr (W : List Nat) (b r i row : Nat) (L : List Nat) : Prop where
  eli : Elim W (b + 1) r L
  lt : r < L.length
  own : at0 L r = row
  bit : row.testBit b = true
  done : ∀ j, r < j → j < i → j < L.length → at0 L j < 2 ^ b
theorem Clr.keep {W L : List Nat} {b r i row : Nat} (h : Clr W b r i row L) (hi : r < i) (hil : i < L.length) (hb : (at0 L i).testBit b = false) : Clr W b r (i + 1) row L :=
  ⟨h.eli, h.lt, h.own, h.bit, fun j h1 h2 h3 => by
    by_cases e : j = i
    · subst e; exact low_bit (h.eli.low j (by omega) h3) hb
    · exact h.done j h1 (by omega) h3⟩
theorem Clr.put {W L : List Nat} {b r i row : Nat} (h : Clr W b r i row L) (hi : r < i) (hil : i < L.length) (hb : (at0 L i).testBit b = true) : Clr W b r (i + 1) row (L.set i (at0 L i ^^^ row)) := by
  have ho : at0 (L.set i (at0 L i ^^^ row)) r = row := by rw [at0_set hil, if_neg (by omega)]; exact h.own
  have hrow : row < 2 ^ (b + 1) := by rw [← h.own]; exact h.eli.low r (Nat.le_refl _) h.lt
  have hx : at0 L i ^^^ row < 2 ^ (b + 1) := Nat.xor_lt_two_pow (h.eli.low i (by omega) hil) hrow
  refine ⟨⟨by rw [List.length_set, h.eli.len], by rw [List.length_set]; exact h.eli.rle, fun j hj => ?_, fun j k hjk hk => ?_, fun j h1 h2 => ?_, fun j hj => ?_, fun j hj => ?_⟩, by rw [List.length_set]; exact h.lt, ho, h.bit, fun j h1 h2 h3 => ?_⟩
  · rw [at0_set hil, if_neg (by omega)]; exact h.eli.top j hj
  · rw [at0_set hil, if_neg (by omega), at0_set hil, if_neg (by omega)]; exact h.eli.dif j k hjk hk
  · rw [at0_set hil]
    split
    · exact hx
    · exact h.eli.low j h1 (by rwa [List.length_set] at h2)
  · rw [at0_set hil]
    split
    · refine (h.eli.there i hil).xor ?_
      rw [← h.own]; exact h.eli.there r h.lt
    · exact h.eli.there j (by rwa [List.length_set] at hj)
  · refine (h.eli.back j hj).sub fun k hk => ?_
    rw [List.length_set]
    by_cases e : k = i
    · have h1 := (Spf.one (f := at0 (L.set i (at0 L i ^^^ row))) (n := L.length) hil).add h.lt
      rw [ho, at0_set hil, if_pos rfl, Nat.xor_assoc, Nat.xor_self, Nat.xor_zero] at h1
      rw [e]; exact h1
    · have h1 := Spf.one (f := at0 (L.set i (at0 L i ^^^ row))) (n := L.length) hk
      rwa [at0_set hil, if_neg e] at h1
  · rw [List.length_set] at h3
    rw [at0_set hil]
    split
    · refine low_bit hx ?_
      rw [Nat.testBit_xor, hb, h.bit]; rfl
    · exact h.done j h1 (by omega) h3
theorem Clr.full {W L : List Nat} {b r row : Nat} (h : Clr W b r L.length row L) : Elim W b (r + 1) L := by
  have hrow : row < 2 ^ (b + 1) := by rw [← h.own]; exact h.eli.low r (Nat.le_refl _) h.lt
  have h0 : row ≠ 0 := by intro e; have := h.bit; rw [e, Nat.zero_testBit] at this; cases this
  have hl : row.log2 = b := log_of_top h.bit fun j hj => Nat.testBit_lt_two_pow (Nat.lt_of_lt_of_le hrow (Nat.pow_le_pow_right (by omega) hj))
  refine ⟨h.eli.len, h.lt, fun i hi => ?_, fun i j hij hj => ?_, fun i h1 h2 => h.done i (by omega) h2 h2, h.eli.there, h.eli.back⟩
  · by_cases e : i = r
    · subst e; rw [h.own]; exact ⟨h0, by omega⟩
    · have := h.eli.top i (by omega); exact ⟨this.1, by omega⟩
  · by_cases e : j = r
    · subst e
      have := h.eli.top i hij
      rw [h.own, hl]; omega
    · exact h.eli.dif i j hij (by omega)
theorem Elim.rank {W L : List Nat} {r : Nat} (h : Elim W 0 r L) : r = rankN W := by
  refine rank_is (f := at0 L) ⟨fun i hi => (h.top i hi).1, h.dif⟩ (fun i hi => h.there i (by have := h.rle; omega)) fun i hi => (h.back i hi).sub fun j hj => ?_
  by_cases e : j < r
  · exact Spf.one e
  · have := h.low j (by omega) hj
    have h0 : at0 L j = 0 := by omega
    rw [h0]; exact .zero
end Go.Proofs.Yticmnkgcolgpaaa
