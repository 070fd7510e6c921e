/- Trees of sums: their weights led back. Plain facts. -/
import Derived.Test.YthalameadedbmaaTp
namespace Go.Proofs.Ythalameadedbmaa
open Go
set_option linter.unusedVariables false

def isLeafs (ws : List Int) : Prop := 1 ≤ ws.length ∧ ws.length ≤ 64 ∧ leafs ws
/-- How many sums below a, that are parts of it at once, have the weight x; those of up to m. -/
def chN (a x : Nat) : Nat → Nat
  | 0 => 0
  | c + 1 => chN a x c + if Nat.beq (c + 1 + lowN (c + 1)) a && covB (c + 1) x then 1 else 0
def chkCh : Bool := (List.range 65).all fun a => (List.range 64).all fun x => !(ltb 0 a) || Nat.beq (chN a x (a - 1)) (if covB a x && !(Nat.beq (x + 1) a) then 1 else 0)
theorem chkCh_ok : chkCh = true := by decide +kernel
theorem chN_is {a x : Nat} (ha : 1 ≤ a) (ha2 : a ≤ 64) (hx : x < 64) : chN a x (a - 1) = if covB a x = true ∧ x + 1 ≠ a then 1 else 0 := by
  have h := chkCh_ok
  unfold chkCh at h
  rw [List.all_eq_true] at h
  have h := h a (by simp; omega)
  rw [List.all_eq_true] at h
  have h := h x (by simpa using hx)
  have e1 : ltb 0 a = true := ltb_t (by omega)
  rw [e1] at h
  simp only [Bool.not_true, Bool.false_or] at h
  have h := Nat.eq_of_beq_eq_true h
  rw [h]
  by_cases hc : covB a x = true
  · by_cases e : x + 1 = a
    · simp [hc, e]
    · have : Nat.beq (x + 1) a = false := by
        cases hb : Nat.beq (x + 1) a with
        | false => rfl
        | true => exact absurd (Nat.eq_of_beq_eq_true hb) e
      simp [hc, this, e]
  · have hc' : covB a x = false := by simpa using hc
    simp [hc']
/-- The sum of f over the parts of a, of those up to m. -/
def chS (f : Nat → Int) (a : Nat) : Nat → Int
  | 0 => 0
  | c + 1 => chS f a c + if c + 1 + lowN (c + 1) = a then f (c + 1) else 0
theorem chS_step (f : Nat → Int) (a c : Nat) : chS f a (c + 1) = chS f a c + if c + 1 + lowN (c + 1) = a then f (c + 1) else 0 := rfl
theorem chS_congr {f g : Nat → Int} (a m : Nat) (h : ∀ c, 1 ≤ c → c ≤ m → f c = g c) : chS f a m = chS g a m := by
  induction m with
  | zero => rfl
  | succ m ih =>
    unfold chS
    rw [ih (fun c h1 h2 => h c h1 (by omega)), h (m + 1) (by omega) (by omega)]
theorem chS_next (ws : List Int) (i a m : Nat) : chS (fun c => treeV ws (i + 1) c) a m = chS (fun c => treeV ws i c) a m + (chN a i m : Int) * ws[i]?.getD 0 := by
  induction m with
  | zero => simp [chS, chN]
  | succ m ih =>
    unfold chS chN
    rw [ih]
    by_cases e : m + 1 + lowN (m + 1) = a
    · have eb : Nat.beq (m + 1 + lowN (m + 1)) a = true := by rw [e]; exact Nat.beq_refl _
      rw [if_pos e, if_pos e, eb, Bool.true_and, treeV_next]
      by_cases hc : covB (m + 1) i = true
      · rw [if_pos hc, if_pos hc, Int.natCast_add, Int.add_mul]; simp; omega
      · rw [if_neg hc, if_neg hc]; simp; omega
    · have eb : Nat.beq (m + 1 + lowN (m + 1)) a = false := by
        cases hb : Nat.beq (m + 1 + lowN (m + 1)) a with
        | false => rfl
        | true => exact absurd (Nat.eq_of_beq_eq_true hb) e
      rw [if_neg e, if_neg e, eb]; simp
theorem treeV_parts_i (ws : List Int) (a : Nat) (ha : 1 ≤ a) (h64 : a ≤ 64) : ∀ i, i ≤ 64 → treeV ws i a = chS (fun c => treeV ws i c) a (a - 1) + if a - 1 < i then ws[a - 1]?.getD 0 else 0 := by
  intro i
  induction i with
  | zero =>
    intro _
    have : ∀ m, chS (fun c => treeV ws 0 c) a m = 0 := by
      intro m
      induction m with
      | zero => rfl
      | succ m ih => unfold chS; rw [ih]; split <;> rfl
    rw [this, if_neg (by omega)]; rfl
  | succ i ih =>
    intro hi
    rw [treeV_next, ih (by omega), chS_next, chN_is ha h64 (by omega)]
    by_cases e : i + 1 = a
    · subst e
      have c1 := cov_self i
      have n1 : ¬(i + 1 - 1 < i) := by omega
      have n2 : ¬(covB (i + 1) i = true ∧ i + 1 ≠ i + 1) := fun h => h.2 rfl
      have p1 : i + 1 - 1 < i + 1 := by omega
      rw [if_pos c1, if_neg n1, if_neg n2, if_pos p1, Nat.add_sub_cancel]
      simp
    · by_cases hc : covB a i = true
      · have := (cov_iff a i).1 hc
        have p1 : covB a i = true ∧ i + 1 ≠ a := ⟨hc, e⟩
        have n1 : ¬(a - 1 < i) := by omega
        have n2 : ¬(a - 1 < i + 1) := by omega
        rw [if_pos hc, if_pos p1, if_neg n1, if_neg n2]; simp
      · have n0 : ¬(covB a i = true ∧ i + 1 ≠ a) := fun h => hc h.1
        rw [if_neg hc, if_neg n0]
        by_cases h2 : a - 1 < i
        · have p2 : a - 1 < i + 1 := by omega
          rw [if_pos h2, if_pos p2]; simp
        · have n2 : ¬(a - 1 < i + 1) := by omega
          rw [if_neg h2, if_neg n2]; simp
theorem treeV_parts (ws : List Int) (a n : Nat) (ha : 1 ≤ a) (han : a ≤ n) (h64 : n ≤ 64) : treeV ws n a = chS (fun c => treeV ws n c) a (a - 1) + ws[a - 1]?.getD 0 := by
  rw [treeV_parts_i ws a ha (by omega) n h64, if_pos (by omega)]

/-- The weights that are found: what the sums are without their parts. -/
def tg (ts : List Int) (c : Nat) : Int := ts[c - 1]?.getD 0
def ledW (ts : List Int) : List Int := (List.range ts.length).map fun j => IntKind.i64.wrap (tg ts (j + 1) - chS (tg ts) (j + 1) j)
theorem wrap_small {x : Int} (h1 : -9223372036854775808 ≤ x) (h2 : x ≤ 9223372036854775807) : IntKind.i64.wrap x = x := by rw [IntKind.wrap_i64]; omega
theorem tg_tree (ws : List Int) (c : Nat) (h1 : 1 ≤ c) (h2 : c ≤ ws.length) : tg (treeL ws) c = treeV ws ws.length c := by
  unfold tg; rw [treeL_get ws (c - 1) (by omega), Nat.sub_add_cancel h1]
theorem led_tree (ws : List Int) (h : isLeafs ws) : ledW (treeL ws) = ws := by
  apply List.ext_getElem
  · simp [ledW, treeL_len]
  · intro j h1 h2
    simp only [ledW, List.getElem_map, List.getElem_range]
    rw [tg_tree ws (j + 1) (by omega) (by omega), chS_congr (j + 1) j (g := fun c => treeV ws ws.length c) (fun c c1 c2 => tg_tree ws c c1 (by omega)), treeV_parts ws (j + 1) ws.length (by omega) (by omega) h.2.1, Nat.add_sub_cancel]
    have := h.2.2 j
    rw [List.getElem?_eq_getElem h2] at this ⊢
    simp only [Option.getD_some] at this ⊢
    rw [wrap_small (by omega) (by omega)]; omega
theorem tree_of_led (ts : List Int) (hr : ∀ x ∈ ts, -9223372036854775808 ≤ x ∧ x ≤ 9223372036854775807) (h : isLeafs (ledW ts)) : ts = treeL (ledW ts) := by
  have hl : (ledW ts).length = ts.length := by simp [ledW]
  have key : ∀ a, 1 ≤ a → a ≤ ts.length → tg ts a = treeV (ledW ts) ts.length a := by
    intro a
    induction a using Nat.strongRecOn with
    | ind a ih =>
      intro h1 h2
      have e := treeV_parts (ledW ts) a ts.length h1 h2 (by rw [← hl]; exact h.2.1)
      rw [← chS_congr a (a - 1) (f := tg ts) (fun c c1 c2 => ih c (by omega) c1 (by omega))] at e
      have hw : (ledW ts)[a - 1]?.getD 0 = IntKind.i64.wrap (tg ts a - chS (tg ts) a (a - 1)) := by
        simp only [ledW, List.getElem?_map]
        rw [List.getElem?_range (by omega)]
        simp only [Option.map_some, Option.getD_some]
        rw [Nat.sub_add_cancel h1]
      have hb := sumP_bd h.2.2 (covB a) ts.length
      have hb' : 0 ≤ treeV (ledW ts) ts.length a ∧ treeV (ledW ts) ts.length a ≤ 1000000 * (ts.length : Int) := hb
      have hlen := h.2.1
      have hrng : -9223372036854775808 ≤ tg ts a ∧ tg ts a ≤ 9223372036854775807 := by
        unfold tg
        rw [List.getElem?_eq_getElem (by omega)]
        exact hr _ (List.getElem_mem _)
      rw [hw, IntKind.wrap_i64] at e
      omega
  apply List.ext_getElem
  · rw [treeL_len, hl]
  · intro j h1 h2
    have e1 := key (j + 1) (by omega) (by omega)
    have e2 := treeL_get (ledW ts) j (by omega)
    rw [List.getElem?_eq_getElem h2] at e2
    unfold tg at e1
    rw [Nat.add_sub_cancel, List.getElem?_eq_getElem h1] at e1
    rw [hl] at e2
    simp only [Option.getD_some] at e1 e2
    rw [e1, e2]
/-- The list while the sums above i are taken out of those that have them as parts. -/
def ledM (ts : List Int) (i : Nat) : List Int := (List.range ts.length).map fun j => IntKind.i64.wrap (tg ts (j + 1) - (chS (tg ts) (j + 1) j - chS (tg ts) (j + 1) (min i j)))
theorem ledM_len (ts : List Int) (i : Nat) : (ledM ts i).length = ts.length := by simp [ledM]
theorem ledM_start (ts : List Int) (hr : ∀ x ∈ ts, -9223372036854775808 ≤ x ∧ x ≤ 9223372036854775807) : ledM ts ts.length = ts := by
  apply List.ext_getElem
  · simp [ledM]
  · intro j h1 h2
    simp only [ledM, List.getElem_map, List.getElem_range]
    rw [show min ts.length j = j by omega]
    have := hr _ (List.getElem_mem h2)
    unfold tg
    rw [Nat.add_sub_cancel, List.getElem?_eq_getElem h2]
    simp only [Option.getD_some]
    rw [wrap_small (by omega) (by omega)]; omega
theorem ledM_end (ts : List Int) : ledM ts 0 = ledW ts := by
  unfold ledM ledW
  apply List.map_congr_left
  intro j _
  rw [Nat.zero_min, show chS (tg ts) (j + 1) 0 = 0 from rfl, Int.sub_zero]
theorem ledM_get (ts : List Int) (i a : Nat) (h1 : 1 ≤ a) (h2 : a ≤ ts.length) : (ledM ts i)[a - 1]?.getD 0 = IntKind.i64.wrap (tg ts a - (chS (tg ts) a (a - 1) - chS (tg ts) a (min i (a - 1)))) := by
  simp only [ledM, List.getElem?_map]
  rw [List.getElem?_range (by omega)]
  simp only [Option.map_some, Option.getD_some]
  rw [Nat.sub_add_cancel h1]
theorem ledM_self (ts : List Int) (hr : ∀ x ∈ ts, -9223372036854775808 ≤ x ∧ x ≤ 9223372036854775807) (i : Nat) (h1 : 1 ≤ i) (h2 : i ≤ ts.length) : (ledM ts i)[i - 1]?.getD 0 = tg ts i := by
  rw [ledM_get ts i i h1 h2, show min i (i - 1) = i - 1 by omega]
  have hx : tg ts i = ts[i - 1] := by unfold tg; rw [List.getElem?_eq_getElem (by omega)]; rfl
  have := hr ts[i - 1] (List.getElem_mem _)
  rw [wrap_small (by omega) (by omega)]; omega
theorem ledM_next_out (ts : List Int) (i : Nat) (h : ts.length < i + 1 + lowN (i + 1)) : ledM ts (i + 1) = ledM ts i := by
  unfold ledM
  apply List.map_congr_left
  intro j hj
  have hj' : j < ts.length := by simpa using hj
  congr 2
  by_cases hi : j ≤ i
  · rw [show min (i + 1) j = min i j by omega]
  · rw [show min (i + 1) j = i + 1 by omega, show min i j = i by omega]
    congr 1
    rw [chS_step, if_neg (by omega)]; omega
theorem ledM_next_in (ts : List Int) (hr : ∀ x ∈ ts, -9223372036854775808 ≤ x ∧ x ≤ 9223372036854775807) (i : Nat) (h2 : i + 1 ≤ ts.length) (h : i + 1 + lowN (i + 1) ≤ ts.length) :
    (ledM ts (i + 1)).set (i + 1 + lowN (i + 1) - 1) (IntKind.i64.wrap ((ledM ts (i + 1))[i + 1 + lowN (i + 1) - 1]?.getD 0 - (ledM ts (i + 1))[i]?.getD 0)) = ledM ts i := by
  have hs := ledM_self ts hr (i + 1) (by omega) h2
  rw [Nat.add_sub_cancel] at hs
  rw [hs, ledM_get ts (i + 1) _ (by omega) h]
  have hl := low_pos (i + 1)
  apply List.ext_getElem
  · simp [ledM]
  · intro j h3 h4
    have hj : j < ts.length := by simpa [ledM] using h4
    rw [List.getElem_set]
    simp only [ledM, List.getElem_map, List.getElem_range]
    by_cases e : i + 1 + lowN (i + 1) - 1 = j
    · rw [if_pos e]
      have ej : j + 1 = i + 1 + lowN (i + 1) := by omega
      rw [← ej, Nat.add_sub_cancel, show min (i + 1) j = i + 1 by omega, show min i j = i by omega]
      have : chS (tg ts) (j + 1) (i + 1) = chS (tg ts) (j + 1) i + tg ts (i + 1) := by
        rw [chS_step, if_pos ej.symm]
      rw [this, IntKind.wrap_i64, IntKind.wrap_i64, IntKind.wrap_i64]
      omega
    · rw [if_neg e]
      congr 2
      by_cases hi : j ≤ i
      · rw [show min (i + 1) j = min i j by omega]
      · rw [show min (i + 1) j = i + 1 by omega, show min i j = i by omega]
        congr 1
        rw [chS_step, if_neg (by omega)]; omega
end Go.Proofs.Ythalameadedbmaa
