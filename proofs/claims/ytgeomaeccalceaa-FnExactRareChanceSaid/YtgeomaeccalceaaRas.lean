/- Rare chances: what both sides reckon. -/
import Derived.Test.YtgeomaeccalceaaRar
import Derived.Test.YtgeomaeccalceaaMew
namespace Go.Proofs.Ytgeomaeccalceaa
open Go Go.RowKit Fl Vag
set_option linter.unusedVariables false

section
variable (n : Nat) (ss : List Nat) (k : Int)
open Classical in
/-- Behind how many more shares a walk ends, at most f, j of which have been. -/
noncomputable def rTf (a b x : Nat) (lev : Int) : Nat → Nat → Nat
  | 0, j => j
  | f + 1, j => if doneR (walkAt n ss k a b x j : Int) lev j then j else rTf a b x lev f (j + 1)
noncomputable def rT (a b x : Nat) (lev : Int) : Nat := rTf n ss k a b x lev 64 0
/-- One more walk: the seed, and the states in which walks came to the level. -/
noncomputable def midS (lev : Int) (x : Nat) (st : Nat × Nat × List Nat) : Nat × Nat × List Nat :=
  ((sdK k st.1 st.2.1 (rT n ss k st.1 st.2.1 x lev)).1, (sdK k st.1 st.2.1 (rT n ss k st.1 st.2.1 x lev)).2, if lev ≤ (walkAt n ss k st.1 st.2.1 x (rT n ss k st.1 st.2.1 x lev) : Int) then st.2.2 ++ [walkAt n ss k st.1 st.2.1 x (rT n ss k st.1 st.2.1 x lev)] else st.2.2)
noncomputable def midF (lev : Int) (fs : List Nat) (a b : Nat) : Nat → Nat × Nat × List Nat
  | 0 => (a, b, [])
  | j + 1 => midS n ss k lev (fs[j % fs.length]?.getD 0) (midF lev fs a b j)
/-- The chance behind a level. -/
def pNext (p : Option Nat) (h : Nat) (q : Nat) : Option Nat := aop .quo .f32 (aop .mul .f32 p (av .f32 (floatOfInt .f32 (h : Int)))) (av .f32 (floatOfInt .f32 (q : Int)))
noncomputable def outF (q : Nat) : List Int → Nat → Nat → List Nat → Option Nat → Nat × Nat × Option Nat
  | [], a, b, _, p => (a, b, p)
  | lev :: rest, a, b, fs, p =>
    if (midF n ss k lev fs a b q).2.2 = [] then ((midF n ss k lev fs a b q).1, (midF n ss k lev fs a b q).2.1, pNext p 0 q)
    else outF q rest (midF n ss k lev fs a b q).1 (midF n ss k lev fs a b q).2.1 (midF n ss k lev fs a b q).2.2 (pNext p (midF n ss k lev fs a b q).2.2.length q)
end
theorem rTf_all {n : Nat} {ss : List Nat} {k : Int} {a b x : Nat} {lev : Int} : ∀ f j, (∀ i, j ≤ i → i < rTf n ss k a b x lev f j → ¬doneR (walkAt n ss k a b x i : Int) lev i) ∧ (doneR (walkAt n ss k a b x (rTf n ss k a b x lev f j) : Int) lev (rTf n ss k a b x lev f j) ∨ rTf n ss k a b x lev f j = j + f) ∧ j ≤ rTf n ss k a b x lev f j ∧ rTf n ss k a b x lev f j ≤ j + f
  | 0, j => ⟨fun i h1 h2 => absurd (show i < j from h2) (by omega), .inr rfl, Nat.le_refl _, Nat.le_refl _⟩
  | f + 1, j => by
    unfold rTf
    split
    · rename_i h
      exact ⟨fun i h1 h2 => absurd h2 (by omega), .inl h, Nat.le_refl _, by omega⟩
    · rename_i h
      obtain ⟨h1, h2, h3, h4⟩ := rTf_all (n := n) (ss := ss) (k := k) (a := a) (b := b) (x := x) (lev := lev) f (j + 1)
      refine ⟨fun i hi hl => ?_, ?_, by omega, by omega⟩
      · by_cases e : i = j
        · subst e; exact h
        · exact h1 i (by omega) hl
      · rcases h2 with h2 | h2
        · exact .inl h2
        · exact .inr (by omega)
theorem rT_is {n : Nat} {ss : List Nat} {k : Int} {a b x : Nat} {lev : Int} {T : Nat} (hT : T ≤ 64) (h1 : ∀ i, i < T → ¬doneR (walkAt n ss k a b x i : Int) lev i) (h2 : doneR (walkAt n ss k a b x T : Int) lev T ∨ T = 64) : T = rT n ss k a b x lev := by
  obtain ⟨k1, k2, k3, k4⟩ := rTf_all (n := n) (ss := ss) (k := k) (a := a) (b := b) (x := x) (lev := lev) 64 0
  have e : rTf n ss k a b x lev 64 0 = rT n ss k a b x lev := rfl
  rw [e] at k1 k2 k3 k4
  rcases Nat.lt_trichotomy T (rT n ss k a b x lev) with h | h | h
  · rcases h2 with h2 | h2
    · exact absurd h2 (k1 T (Nat.zero_le _) h)
    · omega
  · exact h
  · rcases k2 with k2 | k2
    · exact absurd k2 (h1 _ h)
    · omega
theorem at_one (n : Nat) (ss : List Nat) (k : Int) (a b x : Nat) : ∀ j, atL n ss k a b [(x : Int)] j = [(walkAt n ss k a b x j : Int)]
  | 0 => rfl
  | j + 1 => by
    show goL _ _ _ (atL n ss k a b [(x : Int)] j) = _
    rw [at_one n ss k a b x j]; rfl
/-- All of them are states. -/
def allSt (n : Nat) (fs : List Nat) : Prop := ∀ x ∈ fs, x < n
theorem allSt.at {n : Nat} {fs : List Nat} (h : allSt n fs) {i : Nat} (hi : i < fs.length) : fs[i]?.getD 0 < n := by
  rw [List.getElem?_eq_getElem hi]; exact h _ (List.getElem_mem hi)
theorem midF_all {n : Nat} {ss : List Nat} {k : Int} {lev : Int} {fs : List Nat} {a b : Nat} (hs : sOk k a b) (hf : allSt n fs) (h0 : 0 < fs.length) : ∀ j, sOk k (midF n ss k lev fs a b j).1 (midF n ss k lev fs a b j).2.1 ∧ allSt n (midF n ss k lev fs a b j).2.2 ∧ (midF n ss k lev fs a b j).2.2.length ≤ j
  | 0 => ⟨hs, fun x hx => (by cases hx), Nat.le_refl _⟩
  | j + 1 => by
    obtain ⟨h1, h2, h3⟩ := midF_all (ss := ss) (lev := lev) hs hf h0 j
    have hx := hf.at (Nat.mod_lt j h0)
    have e : midF n ss k lev fs a b (j + 1) = midS n ss k lev (fs[j % fs.length]?.getD 0) (midF n ss k lev fs a b j) := rfl
    rw [e]
    unfold midS
    refine ⟨h1.sdK _, ?_, ?_⟩
    · show allSt n (if _ then _ else _)
      split
      · intro y hy
        rcases List.mem_append.1 hy with h | h
        · exact h2 y h
        · rw [List.mem_singleton.1 h]; exact walkAt_lt hx _
      · exact h2
    · show (if _ then _ else _ : List Nat).length ≤ j + 1
      split
      · rw [List.length_append]; simp; omega
      · omega
theorem own_duo {w w' : World} {base : Nat} {e : TypeId} {v : Value} {n g h : Nat} {xs : List Value} (x : w.ownsRow base e 1 v n xs) (d : Duo g h w w') (h1 : some g ≠ v.ownBlock) (h2 : some h ≠ v.ownBlock) : w'.ownsRow base e 1 v n xs := by
  refine ⟨x.1, ?_⟩
  rcases x.2 with hn | ⟨q, cap, cur, rfl, hb, hgg, rest⟩
  · exact .inl hn
  · refine .inr ⟨q, cap, cur, rfl, hb, ?_, rest⟩
    rw [d.block q (Array.getElem?_eq_some_iff.1 hgg).1 (fun e => h1 (by rw [e]; rfl)) (fun e => h2 (by rw [e]; rfl))]
    exact hgg
def nl (xs : List Nat) : List Int := xs.map fun (x : Nat) => ((x : Nat) : Int)
theorem own_low {w : World} {base base2 : Nat} {e : TypeId} {v : Value} {n : Nat} {xs : List Value} (h : w.ownsRow base e 1 v n xs) (hb : base2 ≤ base) : w.ownsRow base2 e 1 v n xs := by
  refine ⟨h.1, ?_⟩
  rcases h.2 with hn | ⟨q, cap, cur, rfl, h1, rest⟩
  · exact .inl hn
  · exact .inr ⟨q, cap, cur, rfl, by omega, rest⟩
theorem nl_len (xs : List Nat) : (nl xs).length = xs.length := by simp [nl]
theorem nl_get {xs : List Nat} {i : Nat} (h : i < xs.length) : (nl xs)[i]?.getD 0 = ((xs[i]?.getD 0 : Nat) : Int) := by
  unfold nl; rw [List.getElem?_map, List.getElem?_eq_getElem h]; rfl
theorem own_at {w : World} {base : Nat} {e : TypeId} {v : Value} {n : Nat} {xs : List Value} (h : w.ownsRow base e 1 v n xs) (h0 : 0 < n) : ∃ g c, v = .slice (some ⟨g, 0, none⟩) n c ∧ n ≤ c ∧ ∀ j u, xs[j]? = some u → w.cell? ⟨g, j, none⟩ = some u := by
  rcases h.2 with ⟨_, h1⟩ | ⟨q, cap, cur, rfl, hb, hgg, hcap, rest⟩
  · omega
  · refine ⟨q, cap, rfl, hcap, fun j u hu => ?_⟩
    have := h.cells (g := q) rfl j u hu
    have hadd : (⟨q, 0, none⟩ : Addr).add j = ⟨q, j, none⟩ := by unfold Addr.add; split <;> simp_all
    rwa [hadd] at this
end Go.Proofs.Ytgeomaeccalceaa
