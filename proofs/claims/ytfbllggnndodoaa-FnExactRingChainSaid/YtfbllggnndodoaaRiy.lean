/- RingChain of the model. -/
import Derived.Test.YtfbllggnndodoaaRin
import Derived.Test.YtfbllggnndodoaaSrw
namespace Go.Proofs.Ytfbllggnndodoaa
open Go Go.RowKit Fl Vag
set_option linter.unusedVariables false
theorem rin_cols : ∀ n : Fin 13, ∀ a : Fin 13, ∀ k : Fin 13, 3 ≤ n.val → a.val < n.val → k.val < n.val →
    ((k.val = a.val ↔ (n.val + k.val - a.val) % n.val = 0) ∧ (k.val = (a.val + 1) % n.val ↔ (n.val + k.val - a.val) % n.val = 1) ∧ (k.val = (a.val + n.val - 1) % n.val ↔ (n.val + k.val - a.val) % n.val = n.val - 1)) := by decide +kernel
theorem rin_col {n a k : Nat} (hn3 : 3 ≤ n) (hn : n ≤ 12) (ha : a < n) (hk : k < n) : (k = a ↔ rinD n a k = 0) ∧ (k = (a + 1) % n ↔ rinD n a k = 1) ∧ (k = (a + n - 1) % n ↔ rinD n a k = n - 1) :=
  rin_cols ⟨n, by omega⟩ ⟨a, by omega⟩ ⟨k, by omega⟩ hn3 ha hk
/-- The numbers of a ring, as bits. -/
def rinB (n st ri l d : Nat) : Nat := if d = 0 then st else if d = 1 then ri else if d = n - 1 then l else 0
theorem rinB_av {n st ri l d : Nat} (hl : av .f32 l = lefV st ri) : av .f32 (rinB n st ri l d) = rinP n st ri d := by
  unfold rinB rinP
  split
  · rfl
  · split
    · rfl
    · split
      · exact hl
      · exact av_zero .f32
/-- The first a rows are made. -/
def rinTo (n st ri l a : Nat) (cs : List Nat) : Prop := cs.length = n * n ∧ ∀ i k, i < n → k < n → cs[i * n + k]?.getD 0 = if i < a then rinB n st ri l (rinD n i k) else 0
theorem rinTo_zero (n st ri l : Nat) : rinTo n st ri l 0 (List.replicate (n * n) 0) := ⟨by simp, fun i k _ _ => by rw [List.getElem?_replicate]; split <;> simp⟩
theorem at_same {n a x i k : Nat} (hx : x < n) (hk : k < n) : a * n + x = i * n + k ↔ a = i ∧ x = k := by
  constructor
  · intro h
    obtain ⟨h1, h2⟩ := div_at (i := a) hx
    obtain ⟨h3, h4⟩ := div_at (i := i) hk
    rw [h] at h1 h2
    exact ⟨by omega, by omega⟩
  · rintro ⟨rfl, rfl⟩; rfl
theorem set_at {cs : List Nat} {p j v : Nat} (hp : p < cs.length) : (cs.set p v)[j]?.getD 0 = if p = j then v else cs[j]?.getD 0 := by
  rw [List.getElem?_set]
  split
  · rename_i h; subst h; first | rfl | (rw [if_pos hp]; rfl)
  · rfl
theorem rinTo_next {n st ri l a : Nat} {cs : List Nat} (h : rinTo n st ri l a cs) (hn3 : 3 ≤ n) (hn : n ≤ 12) (ha : a < n) :
    rinTo n st ri l (a + 1) (((cs.set (a * n + a) st).set (a * n + (a + 1) % n) ri).set (a * n + (a + n - 1) % n) l) := by
  have hin := row_in ha
  have m1 : (a + 1) % n < n := Nat.mod_lt _ (by omega)
  have m2 : (a + n - 1) % n < n := Nat.mod_lt _ (by omega)
  have hl := h.1
  refine ⟨by simp [hl], fun i k hi hk => ?_⟩
  rw [set_at (by simp; omega), set_at (by simp; omega), set_at (by omega), h.2 i k hi hk]
  simp only [at_same m2 hk, at_same m1 hk, at_same ha hk]
  by_cases e : a = i
  · subst e
    obtain ⟨c0, c1, c2⟩ := rin_col hn3 hn ha hk
    rw [if_pos (show a < a + 1 by omega), if_neg (show ¬ a < a by omega)]
    unfold rinB
    by_cases k2 : (a + n - 1) % n = k
    · have := c2.1 k2.symm
      rw [if_pos ⟨rfl, k2⟩, if_neg (by omega), if_neg (by omega), if_pos this]
    · rw [if_neg (fun h => k2 h.2)]
      have n2 : ¬ rinD n a k = n - 1 := fun h => k2 (c2.2 h).symm
      by_cases k1 : (a + 1) % n = k
      · have := c1.1 k1.symm
        rw [if_pos ⟨rfl, k1⟩, if_neg (by omega), if_pos this]
      · rw [if_neg (fun h => k1 h.2)]
        have n1 : ¬ rinD n a k = 1 := fun h => k1 (c1.2 h).symm
        by_cases k0 : a = k
        · rw [if_pos ⟨rfl, k0⟩, if_pos (c0.1 k0.symm)]
        · have n0 : ¬ rinD n a k = 0 := fun h => k0 (c0.2 h).symm
          rw [if_neg (fun h => k0 h.2), if_neg n0, if_neg n1, if_neg n2]
  · rw [if_neg (fun h => e h.1), if_neg (fun h => e h.1), if_neg (fun h => e h.1)]
    by_cases h1 : i < a
    · rw [if_pos h1, if_pos (by omega)]
    · rw [if_neg h1, if_neg (by omega)]
theorem rinTo_G {n st ri l : Nat} {cs : List Nat} (h : rinTo n st ri l n cs) (hn3 : 3 ≤ n) (hl : av .f32 l = lefV st ri) : ∀ j, j < n * n → av .f32 (cs[j]?.getD 0) = rinG n st ri j := fun j hj => by
  obtain ⟨i, k, hi, hk, rfl⟩ := at_div (n := n) (by omega) hj
  obtain ⟨d1, d2⟩ := div_at (i := i) hk
  rw [h.2 i k hi hk, if_pos hi, rinB_av hl]
  unfold rinG; rw [d1, d2]
theorem part_getD {u : Option Nat} (hu : ∀ b, u = some b → av .f32 b = some b) (h : partB (u.getD 2143289344) = true) : ∃ b, u = some b ∧ partB b = true := by
  cases u with
  | none => exact absurd h (by decide +kernel)
  | some b => exact ⟨b, rfl, h⟩
theorem can_av7 (x : Nat) : ∀ b, av .f32 x = some b → av .f32 b = some b := fun b h => by have := av_of_is h; subst this; exact h
theorem rin_needs {n st ri : Nat} (hn3 : 3 ≤ n) (h : isChain n (canL (n * n) (rinG n st ri))) : partB st = true ∧ partB ri = true ∧ ∃ l, lefV st ri = some l ∧ partB l = true := by
  have key : ∀ k, k < n → partB ((rinP n st ri (rinD n 0 k)).getD 2143289344) = true := fun k hk => by
    have hlt : 0 * n + k < n * n := sq_pos (by omega) hk
    have h1 := h.num (j := 0 * n + k) (by rw [canL_len]; exact hlt)
    rw [canL_get hlt] at h1
    obtain ⟨d1, d2⟩ := div_at (i := 0) hk
    unfold rinG at h1
    rw [d1, d2] at h1
    exact h1
  have k0 := key 0 (by omega)
  have k1 := key 1 (by omega)
  have k2 := key (n - 1) (by omega)
  have e0 : rinD n 0 0 = 0 := by unfold rinD; simp
  have e1 : rinD n 0 1 = 1 := by unfold rinD; rw [Nat.sub_zero, Nat.add_mod_left, Nat.mod_eq_of_lt (by omega)]
  have e2 : rinD n 0 (n - 1) = n - 1 := by unfold rinD; rw [Nat.sub_zero, Nat.add_mod_left, Nat.mod_eq_of_lt (by omega)]
  rw [e0] at k0
  rw [e1] at k1
  rw [e2] at k2
  have p0 : rinP n st ri 0 = av .f32 st := rfl
  have p1 : rinP n st ri 1 = av .f32 ri := rfl
  have p2 : rinP n st ri (n - 1) = lefV st ri := by unfold rinP; rw [if_neg (by omega), if_neg (by omega), if_pos rfl]
  rw [p0] at k0
  rw [p1] at k1
  rw [p2] at k2
  obtain ⟨b0, h0, q0⟩ := part_getD (can_av7 st) k0
  obtain ⟨b1, h1, q1⟩ := part_getD (can_av7 ri) k1
  refine ⟨by rw [av_of_is h0]; exact q0, by rw [av_of_is h1]; exact q1, ?_⟩
  cases hl : lefV st ri with
  | none => rw [hl] at k2; exact absurd k2 (by decide +kernel)
  | some l => rw [hl] at k2; exact ⟨l, rfl, k2⟩
/-- A float's operation whose result is a number, as the walk meets it. -/
theorem run_num {P : Program} {op : BinOp} {t : TypeId} {k : FloatKind} {x y r : Nat} (hop : isArith op = true) (h : bop op k x y = some r) (w : World) : (binOp op t (.float k x) (.float k y)).run P w = .ok (.float k r) w := by
  have hb : binOp op t (.float k x) (.float k y) = Op.floatArith op k x y := by
    cases op <;> simp [isArith] at hop <;> simp [binOp]
  rw [hb]
  unfold bop at h
  cases op <;> simp only [isArith] at hop h <;> first | (cases hop; done) | skip
  all_goals simp [Op.floatArith, h]
theorem lef_parts {st ri l : Nat} (h : lefV st ri = some l) : ∃ r, bop .sub .f32 1065353216 st = some r ∧ bop .sub .f32 r ri = some l := by
  unfold lefV at h
  cases h1 : aop .sub .f32 (some 1065353216) (av .f32 st) with
  | none => rw [h1] at h; cases h
  | some r =>
    have e : bop .sub .f32 1065353216 st = some r := by rw [← aop_bop, av_one32]; exact h1
    refine ⟨r, e, ?_⟩
    rw [← aop_bop, av_some (k := .f32) (bop_notNaN e), ← h1]; exact h
end Go.Proofs.Ytfbllggnndodoaa
