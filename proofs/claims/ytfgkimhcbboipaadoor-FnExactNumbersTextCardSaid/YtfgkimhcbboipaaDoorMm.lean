/- Slices in memory: what they hold, rows of the call's own, copies. -/
import Derived.Test.YtfgkimhcbboipaaDoorU
import Derived.Laws.OwnMore
namespace Go.Proofs.YtfgkimhcbboipaaDoor
open Go Go.RowKit
set_option linter.unusedVariables false

/-- In 'w' the slice value with this address holds these values. -/
def Holds (w : World) (ao : Option Addr) (xs : List Value) : Prop := ∀ i, i < xs.length → ∃ b o, ao = some ⟨b, o, none⟩ ∧ w.cell? ⟨b, o + i, none⟩ = some (xs.getD i undef)
theorem Holds.below {w w' : World} {ao : Option Addr} {xs : List Value} (h : Holds w ao xs) (hb : Below w.heap.size w w') : Holds w' ao xs := fun i hi => by
  obtain ⟨b, o, e, hc⟩ := h i hi
  exact ⟨b, o, e, by rw [hb.cell (World.block_lt_of_cell? _ _ hc)]; exact hc⟩
theorem Holds.drewN {w : World} {ao : Option Addr} {xs : List Value} (h : Holds w ao xs) (n : Nat) : Holds (w.drewN n) ao xs := h

theorem Holds.drop {w : World} {b o : Nat} {xs : List Value} (h : Holds w (some ⟨b, o, none⟩) xs) (k : Nat) : Holds w (some ⟨b, o + k, none⟩) (xs.drop k) := fun i hi => by
  have hi' : k + i < xs.length := by simp at hi; omega
  obtain ⟨b', o', e, hc⟩ := h (k + i) hi'
  cases e
  refine ⟨b, o + k, rfl, ?_⟩
  rw [Nat.add_assoc, hc]
  simp [List.getD, hi', List.getElem?_drop]
theorem Holds.nil (w : World) (ao : Option Addr) : Holds w ao [] := fun i hi => absurd hi (Nat.not_lt_zero _)

/-- What a copy being made holds after k rounds. -/
def fillA (xs : List Value) (z : Value) (k : Nat) : Array Value := (xs.take k ++ List.replicate (xs.length - k) z).toArray
theorem fillA_zero (xs : List Value) (z : Value) : fillA xs z 0 = Array.replicate xs.length z := by simp [fillA]
theorem fillA_all (xs : List Value) (z : Value) (k : Nat) (h : xs.length ≤ k) : fillA xs z k = xs.toArray := by
  unfold fillA; rw [List.take_of_length_le h, show xs.length - k = 0 by omega]; simp
theorem fillA_set (xs : List Value) (z : Value) (k : Nat) (h : k < xs.length) : (fillA xs z k).setIfInBounds k (xs.getD k undef) = fillA xs z (k + 1) := by
  have e : xs.length - k = xs.length - (k + 1) + 1 := by omega
  have hl : (xs.take k).length = k := by simp; omega
  unfold fillA
  rw [e, List.replicate_succ, List.setIfInBounds_toArray, List.set_append_right k (xs.getD k undef) (by omega), hl, Nat.sub_self, List.set_cons_zero, List.take_succ_eq_append_getElem h]
  simp [List.getD, h, -List.take_append_getElem]
theorem fillA_size (xs : List Value) (z : Value) (k : Nat) (h : k ≤ xs.length) : (fillA xs z k).size = xs.length := by simp [fillA]; omega
theorem holds_new (w : World) (xs : List Value) (t : TypeId) : Holds (w.alloc (.cells xs.toArray t)) (some ⟨w.heap.size, 0, none⟩) xs := fun i hi =>
  ⟨_, _, rfl, by rw [World.cell?_alloc_at _ _ _ _ rfl]; simp [List.getD, hi]⟩

theorem run_mk {P : Program} (w : World) (t e : TypeId) (z : Value) (bytes n : Nat) (ht : P.underlying t = some (.slice e)) (hi : (P.info? e).map (fun i => (i.zero, i.size, i.bytes)) = some (some z, 1, bytes)) (hz : z.cells = #[z])
    (hb : bytes * n ≤ 281474976710656) (hn : n ≤ 1048577) :
    (Instr.makeSlice t (.int .i64 n) (.int .i64 n)).run P w = .ok (.slice (some ⟨w.heap.size, 0, none⟩) n n) (w.alloc (.cells (Array.replicate n z) e)) := by
  obtain ⟨i, hi, h1, h2, h3⟩ := info_parts hi
  have hb' : (i.bytes : Int) * (n : Int) ≤ 281474976710656 := by
    rw [h3]
    have h : ((bytes * n : Nat) : Int) ≤ 281474976710656 := by omega
    rwa [Int.natCast_mul] at h
  rw [run_make w t e i z ht hi h1 .i64 .i64 n n (by omega) (Int.le_refl _) hb' (by omega)]
  have : madeCells z.cells ((n : Int).toNat * i.size) = Array.replicate n z := by
    rw [hz, h2, Int.toNat_natCast, Nat.mul_one]
    unfold madeCells
    apply Array.ext
    · simp
    · intro j h1 h2
      simp [Nat.mod_one]
  rw [this]; simp

/-! ### Rows of the call's own -/
/-- The slice's values lie at the head of a block from lo to hi (hi out), known whole; or there are none. -/
def Row (w : World) (lo hi : Nat) (ao : Option Addr) (vs : List Value) : Prop :=
  vs = [] ∨ ∃ g cs t, ao = some ⟨g, 0, none⟩ ∧ lo ≤ g ∧ g < hi ∧ Whole w g t cs ∧ ∀ i, i < vs.length → cs[i]? = some (vs.getD i undef)
/-- Only blocks from lo to hi (hi out) may have been turned, of those that were there. -/
structure But (lo hi : Nat) (w w' : World) : Prop where
  os : w'.os = w.os
  tape : w'.tape = w.tape
  output : w'.output = w.output
  size : w.heap.size ≤ w'.heap.size
  block : ∀ k, k < w.heap.size → ¬(lo ≤ k ∧ k < hi) → w'.heap[k]? = w.heap[k]?
section
variable {w w' : World} {lo hi lo' hi' : Nat} {ao : Option Addr} {vs : List Value}
theorem Row.holds (h : Row w lo hi ao vs) : Holds w ao vs := fun i hi' => by
  rcases h with rfl | ⟨g, cs, t, rfl, _, _, hw, hc⟩
  · simp at hi'
  · exact ⟨g, 0, rfl, by rw [Nat.zero_add, hw.cell]; exact hc i hi'⟩
theorem Row.below (h : Row w lo hi ao vs) (hb : Below w.heap.size w w') : Row w' lo hi ao vs := by
  rcases h with rfl | ⟨g, cs, t, e, h1, h2, hw, hc⟩
  · exact .inl rfl
  · exact .inr ⟨g, cs, t, e, h1, h2, hw.below hb, hc⟩
theorem Row.far (h : Row w lo hi ao vs) {p : Addr} (hd : p.block < lo ∨ hi ≤ p.block) (u : Value) : Row (w.setCell p u) lo hi ao vs := by
  rcases h with rfl | ⟨g, cs, t, e, h1, h2, hw, hc⟩
  · exact .inl rfl
  · exact .inr ⟨g, cs, t, e, h1, h2, hw.far (by omega) u, hc⟩
theorem Row.alloc (h : Row w lo hi ao vs) (o : Obj) : Row (w.alloc o) lo hi ao vs := by
  rcases h with rfl | ⟨g, cs, t, e, h1, h2, hw, hc⟩
  · exact .inl rfl
  · exact .inr ⟨g, cs, t, e, h1, h2, hw.alloc o, hc⟩
theorem Row.drewN (h : Row w lo hi ao vs) (n : Nat) : Row (w.drewN n) lo hi ao vs := h
theorem Row.wide (h : Row w lo hi ao vs) (h1 : lo' ≤ lo) (h2 : hi ≤ hi') : Row w lo' hi' ao vs := by
  rcases h with rfl | ⟨g, cs, t, e, l1, l2, hw, hc⟩
  · exact .inl rfl
  · exact .inr ⟨g, cs, t, e, by omega, by omega, hw, hc⟩
theorem Row.but (h : Row w lo hi ao vs) (hb : But lo' hi' w w') (hd : hi ≤ lo' ∨ hi' ≤ lo) : Row w' lo hi ao vs := by
  rcases h with rfl | ⟨g, cs, t, e, l1, l2, hw, hc⟩
  · exact .inl rfl
  · exact .inr ⟨g, cs, t, e, l1, l2, (hb.block g hw.lt (by omega)).trans hw, hc⟩
theorem But.refl (lo hi : Nat) (w : World) : But lo hi w w := ⟨rfl, rfl, rfl, Nat.le_refl _, fun _ _ _ => rfl⟩
theorem But.grown {g : Nat} (h : w.grownBy w' (some g)) (h1 : lo ≤ g) (h2 : g < hi) : But lo hi w w' := ⟨h.os, h.tape, h.output, h.size, fun k hk hn => h.block k hk (fun e => hn (by cases e; omega))⟩
theorem But.bel {W : World} (h : But lo hi w w') (hb : Below W.heap.size W w) (hl : W.heap.size ≤ lo) : Below W.heap.size W w' :=
  hb.trans ⟨h.os, h.tape, h.output, h.size, fun k hk => by
    by_cases hk' : k < w.heap.size
    · exact h.block k hk' (by omega)
    · exact absurd (Nat.lt_of_lt_of_le hk hb.size) hk'⟩
theorem Holds.kept {W : World} (h : Holds W ao vs) (hb : Below W.heap.size W w) : Holds w ao vs := h.below hb
theorem Row.of_own {base : Nat} {e : TypeId} {c n : Nat} (h : w.ownsRow base e 1 (.slice ao n c) n vs) : Row w base w.heap.size ao vs := by
  obtain ⟨hl, h⟩ := h
  rcases h with ⟨_, h0⟩ | ⟨g, cap, cur, hv, hg, hh, hn, _, hsz, ht⟩
  · left; exact List.eq_nil_of_length_eq_zero (by omega)
  · right
    injection hv with hv
    refine ⟨g, cur, e, hv, hg, ?_, hh, fun i hi => ?_⟩
    · exact Whole.lt (w := w) (g := g) (t := e) (cs := cur) hh
    · have hc : i < cur.size := by omega
      have : vs.getD i undef = cur[i] := by
        rw [← ht]
        have hi2 : i < n * 1 := by omega
        simp [List.getD, hc, show i < n by omega]
      rw [this]; exact Array.getElem?_eq_getElem hc
end
theorem Whole.buts {w w' : World} {lo hi g : Nat} {t : TypeId} {cs : Array Value} (h : Whole w g t cs) (hb : But lo hi w w') (hd : g < lo ∨ hi ≤ g) : Whole w' g t cs := (hb.block g h.lt (by omega)).trans h
/-- Two seeds of three cells each that lie in memory, and all that was there when the call began. -/
theorem Kept2 {W v v' : World} {p1 p2 p3 p4 p5 p6 : Addr} {u1 u2 u3 u4 u5 u6 : Value}
    (h : v.cell? p1 = some u1 ∧ v.cell? p2 = some u2 ∧ v.cell? p3 = some u3 ∧ v.cell? p4 = some u4 ∧ v.cell? p5 = some u5 ∧ v.cell? p6 = some u6 ∧ Below W.heap.size W v) (hb : Below v.heap.size v v') :
    v'.cell? p1 = some u1 ∧ v'.cell? p2 = some u2 ∧ v'.cell? p3 = some u3 ∧ v'.cell? p4 = some u4 ∧ v'.cell? p5 = some u5 ∧ v'.cell? p6 = some u6 ∧ Below W.heap.size W v' := by
  have k : ∀ {p : Addr} {u : Value}, v.cell? p = some u → v'.cell? p = some u := fun h => by rw [hb.cell (World.block_lt_of_cell? _ _ h)]; exact h
  obtain ⟨h1, h2, h3, h4, h5, h6, h7⟩ := h
  exact ⟨k h1, k h2, k h3, k h4, k h5, k h6, Bel_next h7 hb⟩
theorem Kept2.buts {W v v' : World} {lo hi : Nat} {p1 p2 p3 p4 p5 p6 : Addr} {u1 u2 u3 u4 u5 u6 : Value}
    (h : v.cell? p1 = some u1 ∧ v.cell? p2 = some u2 ∧ v.cell? p3 = some u3 ∧ v.cell? p4 = some u4 ∧ v.cell? p5 = some u5 ∧ v.cell? p6 = some u6 ∧ Below W.heap.size W v) (hb : But lo hi v v')
    (hd : W.heap.size ≤ lo ∧ p1.block < lo ∧ p2.block < lo ∧ p3.block < lo ∧ p4.block < lo ∧ p5.block < lo ∧ p6.block < lo) :
    v'.cell? p1 = some u1 ∧ v'.cell? p2 = some u2 ∧ v'.cell? p3 = some u3 ∧ v'.cell? p4 = some u4 ∧ v'.cell? p5 = some u5 ∧ v'.cell? p6 = some u6 ∧ Below W.heap.size W v' := by
  have k : ∀ {p : Addr} {u : Value}, p.block < lo → v.cell? p = some u → v'.cell? p = some u := fun hp h => by
    rw [World.cell?_of_block (w := v) (hb.block _ (World.block_lt_of_cell? _ _ h) (by omega))]; exact h
  obtain ⟨h1, h2, h3, h4, h5, h6, h7⟩ := h
  exact ⟨k hd.2.1 h1, k hd.2.2.1 h2, k hd.2.2.2.1 h3, k hd.2.2.2.2.1 h4, k hd.2.2.2.2.2.1 h5, k hd.2.2.2.2.2.2 h6, hb.bel h7 hd.1⟩
theorem Kept2.drew {W v : World} {p1 p2 p3 p4 p5 p6 : Addr} {u1 u2 u3 u4 u5 u6 : Value}
    (h : v.cell? p1 = some u1 ∧ v.cell? p2 = some u2 ∧ v.cell? p3 = some u3 ∧ v.cell? p4 = some u4 ∧ v.cell? p5 = some u5 ∧ v.cell? p6 = some u6 ∧ Below W.heap.size W v) :
    v.drew.cell? p1 = some u1 ∧ v.drew.cell? p2 = some u2 ∧ v.drew.cell? p3 = some u3 ∧ v.drew.cell? p4 = some u4 ∧ v.drew.cell? p5 = some u5 ∧ v.drew.cell? p6 = some u6 ∧ Below W.heap.size W v.drew := ⟨h.1, h.2.1, h.2.2.1, h.2.2.2.1, h.2.2.2.2.1, h.2.2.2.2.2.1, h.2.2.2.2.2.2.drew⟩
/-- A copy in new memory. -/
def Copied (n : Nat) (vs : List Value) (w : World) (e : Ending) (w' : World) : Prop :=
  ∃ ao, e = .returned (.slice ao n n) ∧ Row w' w.heap.size w'.heap.size ao vs ∧ Below w.heap.size w w'
/-- It returns v, and has turned only memory of its own. -/
def RetB (v : Value) (w : World) (e : Ending) (w' : World) : Prop := e = .returned v ∧ Below w.heap.size w w'
/-- It returns a list in memory of its own, among other results (f), and has turned only memory of its own. -/
def RetL (n : Nat) (vs : List Value) (f : Value → Value) (w : World) (e : Ending) (w' : World) : Prop :=
  ∃ ao c, e = .returned (f (.slice ao n c)) ∧ Row w' w.heap.size w'.heap.size ao vs ∧ Below w.heap.size w w'
end Go.Proofs.YtfgkimhcbboipaaDoor
