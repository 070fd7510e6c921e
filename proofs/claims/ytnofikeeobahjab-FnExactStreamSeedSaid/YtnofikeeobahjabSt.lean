/- What is kept of a stream: what the code and its model return. -/
import Derived.Test.YtnofikeeobahjabCd
import Derived.Test.YtnofikeeobahjabBr
namespace Go.Proofs.Ytnofikeeobahjab
open Go Go.RowKit
set_option linter.unusedVariables false

theorem own_put {w : World} {base : Nat} {e : TypeId} {v : Value} {n : Nat} {cs : List Int} (h : w.ownsRow base e 1 v n (il cs)) (p : Nat) (hp : p < n) :
    ∃ g c, v = .slice (some ⟨g, 0, none⟩) n c ∧ base ≤ g ∧ g < w.heap.size ∧ w.cell? ⟨g, p, none⟩ = some (.int .i64 (cs[p]?.getD 0)) ∧ (∀ i, w.frozen? ⟨g, i, none⟩ = false) ∧ ∀ x, (w.setCell ⟨g, p, none⟩ (.int .i64 x)).ownsRow base e 1 v n (il (cs.set p x)) := by
  obtain ⟨hl, h⟩ := h
  rcases h with ⟨_, h0⟩ | ⟨g, cap, cur, hv, hg, hh, hn, hm, hsz, ht⟩
  · omega
  · have hW : Whole w g e cur := hh
    have hil : (il cs).length = cs.length := il_len cs
    have hpc : p < cur.size := by omega
    refine ⟨g, cap, hv, hg, hW.lt, ?_, hW.frozen, fun x => ⟨by simp [il] at hl ⊢; omega, .inr ⟨g, cap, cur.setIfInBounds p (.int .i64 x), hv, hg, hW.put p _, hn, hm, by simpa using hsz, ?_⟩⟩⟩
    · rw [hW.cell, Array.getElem?_eq_getElem hpc]
      have e1 : (il cs)[p]? = some cur[p] := by rw [← ht, List.getElem?_take_of_lt (by omega), Array.getElem?_toList, Array.getElem?_eq_getElem hpc]
      rw [← e1]
      have : p < cs.length := by omega
      simp [il, this]
    · rw [Array.toList_setIfInBounds, List.take_set, ht]
      simp [il, List.map_set]

noncomputable def stStep (k : Int) (K : Nat) (xs : List Int) (i : Nat) (s : Nat × Nat × List Int) : Option (Nat × Nat × List Int) :=
  if i < K then some (s.1, s.2.1, s.2.2 ++ [xs[i]?.getD 0])
  else match belowO k s.1 s.2.1 (i + 1) with
    | some (A, B, x) => some (A, B, if x < K then s.2.2.set x (xs[i]?.getD 0) else s.2.2)
    | none => none
noncomputable def stK (k : Int) (a b K : Nat) (xs : List Int) (i : Nat) : Option (Nat × Nat × List Int) := chainO (stStep k K xs) (a, b, []) i
open Classical in
noncomputable def streamF (k : Int) (a b : Nat) (xs : List Int) (m : Int) : Option (Nat × Nat × List Int) := if vSeed k a b = true ∧ xs.length ≤ 256 ∧ 1 ≤ m ∧ m ≤ 64 then stK k a b m.toNat xs xs.length else none
theorem stK_inv {k : Int} {a b K : Nat} {xs : List Int} (hs : sOk k a b) {i A B : Nat} {cs : List Int} (h : stK k a b K xs i = some (A, B, cs)) : sOk k A B ∧ cs.length = min i K := by
  refine chainO_inv (fun i s => sOk k s.1 s.2.1 ∧ s.2.2.length = min i K) ⟨hs, by simp⟩ i ?_ i (A, B, cs) (Nat.le_refl _) h
  rintro i ⟨A, B, cs⟩ ⟨A', B', cs'⟩ _ ⟨h1, h2⟩ h3
  simp only at h1 h2
  unfold stStep at h3
  split at h3
  · cases h3
    refine ⟨h1, ?_⟩
    simp only [List.length_append, h2, List.length_cons, List.length_nil]
    omega
  · simp only at h3
    split at h3
    · rename_i he
      cases h3
      refine ⟨(belowO_ok he h1 (by omega)).1, ?_⟩
      simp only
      split <;> simp [h2] <;> omega
    · cases h3
theorem streamF_len {k : Int} {a b A B : Nat} {xs : List Int} {m : Int} {cs : List Int} (h : streamF k a b xs m = some (A, B, cs)) : cs.length ≤ 256 := by
  unfold streamF at h
  split at h
  · rename_i hc
    have : ∀ i s, i ≤ xs.length → chainO (stStep k m.toNat xs) (a, b, []) i = some s → s.2.2.length ≤ i := by
      intro i s hi hs
      refine chainO_inv (fun i s => s.2.2.length ≤ i) (Nat.le_refl _) xs.length ?_ i s hi hs
      rintro i ⟨A, B, cs⟩ ⟨A', B', cs'⟩ _ h2 h3
      simp only at h2
      unfold stStep at h3
      split at h3
      · cases h3; simp; omega
      · simp only at h3
        split at h3
        · cases h3; simp only; split
          · simp; omega
          · omega
        · cases h3
    have := this _ _ (Nat.le_refl _) h
    simp only at this
    omega
  · cases h
theorem stK_take {k : Int} {a b K : Nat} {xs : List Int} {i A B : Nat} {cs : List Int} (h : stK k a b K xs i = some (A, B, cs)) (hi : i < K) : stK k a b K xs (i + 1) = some (A, B, cs ++ [xs[i]?.getD 0]) := by
  unfold stK at *
  rw [chainO_next h]
  unfold stStep
  rw [if_pos hi]
theorem stK_draw {k : Int} {a b K : Nat} {xs : List Int} {i A B A' B' x : Nat} {cs : List Int} (h : stK k a b K xs i = some (A, B, cs)) (hi : ¬ i < K) (hb : belowO k A B (i + 1) = some (A', B', x)) :
    stK k a b K xs (i + 1) = some (A', B', if x < K then cs.set x (xs[i]?.getD 0) else cs) := by
  unfold stK at *
  rw [chainO_next h]
  unfold stStep
  rw [if_neg hi]
  simp only [hb]
theorem stK_stop {k : Int} {a b K : Nat} {xs : List Int} {i A B m : Nat} {cs : List Int} (h : stK k a b K xs i = some (A, B, cs)) (hi : ¬ i < K) (hb : belowO k A B (i + 1) = none) (hm : i < m) : stK k a b K xs m = none := by
  refine chainO_none (j := i + 1) ?_ hm
  unfold stK at h
  rw [chainO_next h]
  unfold stStep
  rw [if_neg hi]
  simp only [hb]
theorem streamF_yes {k : Int} {a b m : Nat} {xs : List Int} (hv : vSeed k a b = true) (h1 : xs.length ≤ 256) (h2 : 1 ≤ m) (h3 : m ≤ 64) : streamF k a b xs m = stK k a b m xs xs.length := by
  unfold streamF; rw [if_pos ⟨hv, h1, by omega, by omega⟩]; simp
theorem streamF_not {k : Int} {a b : Nat} {xs : List Int} {m : Int} (h : ¬(vSeed k a b = true ∧ xs.length ≤ 256 ∧ 1 ≤ m ∧ m ≤ 64)) : streamF k a b xs m = none := by unfold streamF; rw [if_neg h]

set_option maxRecDepth 100000 in
set_option maxHeartbeats 4000000 in
theorem implStream_in (k : Int) (a b : Nat) (xs : List Int) (m : Nat) (ao : Option Addr) (c : Nat) (w : World) (hs : sOk k a b) (hl : xs.length ≤ 256) (hm : 1 ≤ m ∧ m ≤ 64) (hx : Holds w ao (il xs)) :
    Calls Try.prog 28 #[sd k a b, .slice ao xs.length c, .int .i64 m] w (SeedL k (streamF k a b xs m) w) := by
  have HD : Hid (decide ((1 : Int) ≤ m ∧ (m : Int) ≤ 64) = true) := Lib.hid (by simp; omega)
  have HS := Lib.hid hs
  have HX := Lib.hid hx
  have hmk0 : ∀ w : World, (Instr.makeSlice 26 (.int .i64 0) (.int .i64 (m : Int))).run Try.prog w = .ok (.slice (some ⟨w.heap.size, 0, none⟩) 0 m) (w.alloc (.cells (Array.replicate m (.int .i64 0)) 2)) := fun w => run_mk0 w 26 2 m (by omega) Try.underlying26 (by kernel_rfl)
  have hl' : (xs.length : Int) ≤ 256 := by omega
  have hm1 : (1 : Int) ≤ m := by omega
  have hm2 : (m : Int) ≤ 64 := by omega
  clear hs hx
  go_enter Try.func28, Try.ntmps28
  go_wp2_with fail
  refine (ValidSeed_any _ _ _ _).mono ?_
  rintro e w1 ⟨rfl, rfl⟩
  rw [HS.out.1]
  go_wp2_with fail
  refine (isPickCount_any _ _).mono ?_
  rintro e w1 ⟨rfl, rfl⟩
  rw [HD.out]
  generalize hW : World.alloc (World.alloc (World.alloc _ _) _) _ = w0
  have hH : Below w.heap.size w w0 ∧ Whole w0 w.heap.size 25 (sdC k a b) ∧ Whole w0 (w.heap.size + 1) 25 (sdC 0 0 0) := by
    rw [← hW]
    exact ⟨(by repeat (first | with_reducible exact Below.refl _ _ | with_reducible exact HBL | with_reducible refine Below.drew ?_ | with_reducible refine Bel_drewN ?_ _ | with_reducible refine Below.alloc ?_ (by first | omega | (simp; done) | (simp; omega)) _ | with_reducible refine Below.setCell ?_ (by first | omega | (simp; done) | (simp; omega)) _)), ((Whole.made _ _ _).alloc _).alloc _, (Whole.made2 _ _ _ _).alloc _⟩
  have H0 := Lib.hid hH
  have hz0 : w.heap.size + 1 < w0.heap.size := hH.2.2.lt
  clear hH hW HD
  go_wp2_with fail
  clear hmk0
  go_loopw [9, 32] (fun v c wr => ∃ (i A B : Nat) (cs : List Int), i ≤ xs.length ∧ c = .int .i64 (i : Int) ∧ stK k a b m xs i = some (A, B, cs) ∧ wr.ownsRow w0.heap.size 2 1 v cs.length (il cs) ∧ Below w.heap.size w wr ∧ Whole wr w.heap.size 25 (sdC k A B) ∧ Whole wr (w.heap.size + 1) 25 (sdC 0 0 0) ∧ w0.heap.size ≤ wr.heap.size) (fun _ c _ => xs.length - (intOf c).toNat)
  case atStart =>
    obtain ⟨HBL, q0, q1⟩ := H0.out
    have := HBL.size
    exact ⟨0, a, b, [], Nat.zero_le _, rfl, rfl, World.ownsRow_made _ _ _ (Nat.le_refl _) (by unfold maxLen; omega) (by simp), (by repeat (first | with_reducible exact Below.refl _ _ | with_reducible exact HBL | with_reducible refine Below.drew ?_ | with_reducible refine Bel_drewN ?_ _ | with_reducible refine Below.alloc ?_ (by first | omega | (simp; done) | (simp; omega)) _ | with_reducible refine Below.setCell ?_ (by first | omega | (simp; done) | (simp; omega)) _)), q0.alloc _, q1.alloc _, by simp⟩
  case round =>
    obtain ⟨i, A, B, cs, hi, rfl, hK, hown, hbel, q0, q1, hzw⟩ := hrel
    clear H0
    have HI := Lib.hid (stK_inv HS.out hK)
    have H := Lib.hid (And.intro hown (And.intro hbel (And.intro q0 q1)))
    have HK := Lib.hid hK
    have hcl : cs.length ≤ 64 := by have := HI.out.2; omega
    by_cases hlt : i < xs.length
    · obtain ⟨bx, ox, rfl, hcx⟩ := (HX.out.below hbel) i (by simpa [il] using hlt)
      rw [il_get _ _ hlt] at hcx
      obtain ⟨y, hy⟩ : ∃ y, y = xs[i]?.getD 0 := ⟨_, rfl⟩
      rw [← hy] at hcx
      have HY := Lib.hid hy
      obtain ⟨hc0, hf0⟩ := q0.facts
      have hz0' := q0.lt
      clear hown hbel q0 q1 hK hy
      by_cases hik : i < m
      · have hik' : (i : Int) < m := by omega
        clear hc0 hf0
        go_wp2_with (at_builtin; refine wpList_app1 rfl _ _ 26 rfl w0.heap.size 2 (.int .i64 0) 8 Try.underlying26 (by kernel_rfl) rfl _ cs.length _ rfl (H.out.1.alloc _) _ _ (.int .i64 y) rfl ?_ rfl ⟨by omega, by omega⟩ ?_ ?_)
        · simp
        · simp; omega
        · intro v' w' hown' hgr'
          have hb3 : Below w.heap.size w w' := Below.grown (H.out.2.1.alloc H.out.2.1.size _) hgr' (by first | omega | (simp; done) | (simp; omega)) (fun i hi => by have := own_ge H.out.1 i hi; omega)
          have ho3 : w'.ownsRow w0.heap.size 2 1 v' (cs ++ [y]).length (il (cs ++ [y])) := by rw [il, List.map_append, List.length_append]; exact hown'
          have q0 := (H.out.2.2.1.alloc (.cells #[.int .i64 y] 2)).grown hgr' (own_ne' H.out.1 (by omega))
          have q1 := (H.out.2.2.2.alloc (.cells #[.int .i64 y] 2)).grown hgr' (own_ne' H.out.1 (by omega))
          have hz3 : w0.heap.size ≤ w'.heap.size := Nat.le_trans hzw (Nat.le_trans (by simp) hgr'.size)
          have H3 := Lib.hid (And.intro ho3 (And.intro hb3 (And.intro q0 (And.intro q1 hz3))))
          clear hown' hgr' hb3 ho3 H q0 q1 hz3
          go_wp2
          go_roundw
          case rel => exact ⟨i + 1, A, B, _, by omega, by go_num, by rw [HY.out] at H3 ⊢; exact stK_take HK.out hik, H3.out⟩
          case measure => simp [intOf]; omega
      · have hik' : (m : Int) ≤ i := by omega
        have hlm : m ≤ cs.length := by have := HI.out.2; omega
        have hlm2 : cs.length ≤ m := by have := HI.out.2; omega
        go_wp2_with fail
        cases hbo : belowO k A B (i + 1) with
        | some r =>
          obtain ⟨A', B', x⟩ := r
          have HB := Lib.hid hbo
          clear hbo hc0 hf0
          refine (implBelow_some1 k A B i A' B' x _ HI.out.1 (by omega) HB.out).mono ?_
          rintro e w3 ⟨rfl, hb3⟩
          have hz3 := hb3.size
          have r0 := H.out.2.2.1.below hb3
          obtain ⟨hc0, hf0⟩ := r0.facts
          have hz30 : w.heap.size < w3.heap.size := by omega
          have ro := H.out.1.kept (grown_below (row := some w.heap.size) hb3) (own_ne H.out.1 (by omega))
          have HB3 := Lib.hid (And.intro hb3 ro)
          clear hb3 r0 ro
          have hgs : w3.grownBy (((w3.setCell ⟨w.heap.size, 0, none⟩ (.int .i64 k)).setCell ⟨w.heap.size, 1, none⟩ (.int .u64 A')).setCell ⟨w.heap.size, 2, none⟩ (.int .u64 B')) (some w.heap.size) := grown_put (grown_put (grown_set _ _ _ _) _ _) _ _
          have ro4 := HB3.out.2.kept hgs (own_ne HB3.out.2 (by omega))
          have HO4 := Lib.hid ro4
          clear hgs
          by_cases hxm : x < m
          · have hxm' : (x : Int) < m := by omega
            obtain ⟨g, c', rfl, hg, hgl, hcg, hfg, _⟩ := own_put HB3.out.2 x (by omega)
            have hxl : (x : Int) < (cs.length : Int) := by omega
            generalize cs[x]?.getD 0 = vx at hcg
            clear ro4
            go_wp2_with fail
            go_roundw
            case rel =>
              obtain ⟨hown, hbel, q0, q1⟩ := H.out
              have HBL := Bel_next hbel HB3.out.1
              obtain ⟨g', c'', ev, _, _, _, _, hset⟩ := own_put HO4.out x (by omega)
              cases ev
              refine ⟨i + 1, A', B', cs.set x y, by omega, by go_num, ?_, by rw [List.length_set]; exact hset y, (by repeat (first | with_reducible exact Below.refl _ _ | with_reducible exact HBL | with_reducible refine Below.drew ?_ | with_reducible refine Bel_drewN ?_ _ | with_reducible refine Below.alloc ?_ (by first | omega | (simp; done) | (simp; omega)) _ | with_reducible refine Below.setCell ?_ (by first | omega | (simp; done) | (simp; omega)) _)), ((((q0.below HB3.out.1).put 0 _).put 1 _).put 2 _).far (by first | omega | (simp; done) | (simp; omega)) _, ((((q1.below HB3.out.1).far (by first | omega | (simp; done) | (simp; omega)) _).far (by first | omega | (simp; done) | (simp; omega)) _).far (by first | omega | (simp; done) | (simp; omega)) _).far (by first | omega | (simp; done) | (simp; omega)) _, by simp; omega⟩
              have := stK_draw HK.out hik HB.out
              rw [if_pos hxm, ← HY.out] at this
              exact this
            case measure => simp [intOf]; omega
          · have hxm' : (m : Int) ≤ x := by omega
            clear ro4
            go_wp2_with fail
            go_roundw
            case rel =>
              obtain ⟨hown, hbel, q0, q1⟩ := H.out
              have HBL := Bel_next hbel HB3.out.1
              refine ⟨i + 1, A', B', cs, by omega, by go_num, ?_, HO4.out, (by repeat (first | with_reducible exact Below.refl _ _ | with_reducible exact HBL | with_reducible refine Below.drew ?_ | with_reducible refine Bel_drewN ?_ _ | with_reducible refine Below.alloc ?_ (by first | omega | (simp; done) | (simp; omega)) _ | with_reducible refine Below.setCell ?_ (by first | omega | (simp; done) | (simp; omega)) _)), (((q0.below HB3.out.1).put 0 _).put 1 _).put 2 _, (((q1.below HB3.out.1).far (by first | omega | (simp; done) | (simp; omega)) _).far (by first | omega | (simp; done) | (simp; omega)) _).far (by first | omega | (simp; done) | (simp; omega)) _, by simp; omega⟩
              have := stK_draw HK.out hik HB.out
              rw [if_neg hxm] at this
              exact this
            case measure => simp [intOf]; omega
        | none =>
          have HB := Lib.hid hbo
          clear hbo hc0 hf0
          refine (implBelow_nil1 k A B i _ HI.out.1 (by omega) HB.out).mono ?_
          rintro e w3 ⟨rfl, hb3⟩
          have hz3 := hb3.size
          have r0 := H.out.2.2.1.below hb3
          have r1 := H.out.2.2.2.below hb3
          obtain ⟨hc0, hf0⟩ := r0.facts
          obtain ⟨hc1, hf1⟩ := r1.facts
          have hz30 : w.heap.size < w3.heap.size := by omega
          have hz31 := r1.lt
          have HB3 := Lib.hid hb3
          have HN : Hid (streamF k a b xs m = none) := Lib.hid (by rw [streamF_yes HS.out.1 hl hm.1 hm.2]; exact stK_stop HK.out hik HB.out hlt)
          clear hb3 r0 r1
          go_wp2_with fail
          have HBL := Bel_next H.out.2.1 HB3.out
          exact bodyPost_ret (v := .tuple #[sd 0 0 0, .slice none 0 0, .bool false]) (by simp [results, Try.results28, go_sem, hc1]) rfl (SeedL.no HN.out ⟨rfl, (by repeat (first | with_reducible exact Below.refl _ _ | with_reducible exact HBL | with_reducible refine Below.drew ?_ | with_reducible refine Bel_drewN ?_ _ | with_reducible refine Below.alloc ?_ (by first | omega | (simp; done) | (simp; omega)) _ | with_reducible refine Below.setCell ?_ (by first | omega | (simp; done) | (simp; omega)) _))⟩)
    · have hi' : i = xs.length := by omega
      have HR : Hid (streamF k a b xs m = some (A, B, cs)) := Lib.hid (by rw [streamF_yes HS.out.1 hl hm.1 hm.2, ← hi']; exact hK)
      subst hi'
      obtain ⟨hc0, hf0⟩ := q0.facts
      obtain ⟨hc1, hf1⟩ := q1.facts
      have hw0 := q0.lt
      have hw1 := q1.lt
      obtain ⟨ao', c', rfl⟩ := own_form hown
      have hrow := Lib.hid (Row.of_own hown)
      clear hK hown hbel q0 q1 hlt hi HK
      go_wp2_with fail
      obtain ⟨_, HBL, q0, q1⟩ := H.out
      refine bodyPost_ret (v := .tuple #[sd k A B, .slice ao' cs.length c', .bool true]) (by simp [results, Try.results28, go_sem, hc1]) rfl (SeedL.yes HR.out ⟨_, _, rfl, ?_, (by repeat (first | with_reducible exact Below.refl _ _ | with_reducible exact HBL | with_reducible refine Below.drew ?_ | with_reducible refine Bel_drewN ?_ _ | with_reducible refine Below.alloc ?_ (by first | omega | (simp; done) | (simp; omega)) _ | with_reducible refine Below.setCell ?_ (by first | omega | (simp; done) | (simp; omega)) _))⟩)
      refine Row.wide (lo := w0.heap.size) (hi := wr.heap.size) ?_ (by omega) (by first | omega | (simp; done) | (simp; omega))
      exact ((hrow.out.far (by first | omega | (simp; done) | (simp; omega)) _).far (by first | omega | (simp; done) | (simp; omega)) _).far (by first | omega | (simp; done) | (simp; omega)) _
theorem implStream_any (k : Int) (a b : Nat) (xs : List Int) (m : Int) (ao : Option Addr) (c : Nat) (w : World) (ha : a < 18446744073709551616) (hb : b < 18446744073709551616) (hn : xs.length ≤ 1048576) (hx : Holds w ao (il xs)) :
    Calls Try.prog 28 #[sd k a b, .slice ao xs.length c, .int .i64 m] w (SeedL k (streamF k a b xs m) w) := by
  by_cases h : vSeed k a b = true ∧ xs.length ≤ 256 ∧ 1 ≤ m ∧ m ≤ 64
  · obtain ⟨m, rfl⟩ : ∃ x : Nat, m = x := ⟨m.toNat, by omega⟩
    exact implStream_in k a b xs m ao c w ⟨h.1, ha, hb⟩ h.2.1 (by omega) hx
  · have HF : Hid (streamF k a b xs m = none) := Lib.hid (streamF_not h)
    cases hv : vSeed k a b with
    | false =>
      clear h hx
      go_enter Try.func28, Try.ntmps28
      go_wp2_with fail
      refine (ValidSeed_any _ _ _ _).mono ?_
      rintro e w1 ⟨rfl, rfl⟩
      rw [hv]
      go_wp2_with fail
      exact bodyPost_ret (v := .tuple #[sd 0 0 0, .slice none 0 0, .bool false]) (by simp [results, Try.results28, go_sem]) rfl (SeedL.no HF.out ⟨rfl, (by repeat (first | with_reducible exact Below.refl _ _ | with_reducible exact HBL | with_reducible refine Below.drew ?_ | with_reducible refine Bel_drewN ?_ _ | with_reducible refine Below.alloc ?_ (by first | omega | (simp; done) | (simp; omega)) _ | with_reducible refine Below.setCell ?_ (by first | omega | (simp; done) | (simp; omega)) _))⟩)
    | true =>
      by_cases hl : xs.length ≤ 256
      · have HD : Hid (decide (1 ≤ m ∧ m ≤ 64) = false) := Lib.hid (by rw [hv] at h; simp at h; simp; omega)
        have hl' : (xs.length : Int) ≤ 256 := by omega
        clear h hx hl
        go_enter Try.func28, Try.ntmps28
        go_wp2_with fail
        refine (ValidSeed_any _ _ _ _).mono ?_
        rintro e w1 ⟨rfl, rfl⟩
        rw [hv]
        go_wp2_with fail
        refine (isPickCount_any _ _).mono ?_
        rintro e w1 ⟨rfl, rfl⟩
        rw [HD.out]
        go_wp2_with fail
        exact bodyPost_ret (v := .tuple #[sd 0 0 0, .slice none 0 0, .bool false]) (by simp [results, Try.results28, go_sem]) rfl (SeedL.no HF.out ⟨rfl, (by repeat (first | with_reducible exact Below.refl _ _ | with_reducible exact HBL | with_reducible refine Below.drew ?_ | with_reducible refine Bel_drewN ?_ _ | with_reducible refine Below.alloc ?_ (by first | omega | (simp; done) | (simp; omega)) _ | with_reducible refine Below.setCell ?_ (by first | omega | (simp; done) | (simp; omega)) _))⟩)
      · have hl' : (256 : Int) < xs.length := by omega
        have hl2 : (xs.length : Int) ≤ 1048576 := by omega
        clear h hx hl
        go_enter Try.func28, Try.ntmps28
        go_wp2_with fail
        refine (ValidSeed_any _ _ _ _).mono ?_
        rintro e w1 ⟨rfl, rfl⟩
        rw [hv]
        go_wp2_with fail
        exact bodyPost_ret (v := .tuple #[sd 0 0 0, .slice none 0 0, .bool false]) (by simp [results, Try.results28, go_sem]) rfl (SeedL.no HF.out ⟨rfl, (by repeat (first | with_reducible exact Below.refl _ _ | with_reducible exact HBL | with_reducible refine Below.drew ?_ | with_reducible refine Bel_drewN ?_ _ | with_reducible refine Below.alloc ?_ (by first | omega | (simp; done) | (simp; omega)) _ | with_reducible refine Below.setCell ?_ (by first | omega | (simp; done) | (simp; omega)) _))⟩)
set_option maxRecDepth 100000 in
set_option maxHeartbeats 4000000 in
theorem specStream_in (k : Int) (a b : Nat) (xs : List Int) (m : Nat) (ao : Option Addr) (c : Nat) (w : World) (hs : sOk k a b) (hl : xs.length ≤ 256) (hm : 1 ≤ m ∧ m ≤ 64) (hx : Holds w ao (il xs)) :
    Calls Try.prog 26 #[sd k a b, .slice ao xs.length c, .int .i64 m] w (SeedL k (streamF k a b xs m) w) := by
  have HD : Hid (decide ((1 : Int) ≤ m ∧ (m : Int) ≤ 64) = true) := Lib.hid (by simp; omega)
  have HS := Lib.hid hs
  have HX := Lib.hid hx
  have hl' : (xs.length : Int) ≤ 256 := by omega
  have hm1 : (1 : Int) ≤ m := by omega
  have hm2 : (m : Int) ≤ 64 := by omega
  clear hs hx
  have p0 := Lib.hid ((Whole.made w 25 (sdC k a b)).alloc (.cells (sdC 0 0 0) 25))
  go_enter Try.func26, Try.ntmps26
  go_wp2_with fail
  refine (l02Is_any _ _ _ _ _ p0.out).mono ?_
  rintro e w1 ⟨rfl, rfl⟩
  rw [HS.out.1]
  go_wp2_with fail
  refine (l03Items_any _ _).mono ?_
  rintro e w1 ⟨rfl, rfl⟩
  rw [HD.out]
  generalize hW : World.alloc (World.alloc _ _) _ = w0
  have hH : Below w.heap.size w w0 ∧ Whole w0 w.heap.size 25 (sdC k a b) ∧ Whole w0 (w.heap.size + 1) 25 (sdC 0 0 0) := by
    rw [← hW]
    exact ⟨(by repeat (first | with_reducible exact Below.refl _ _ | with_reducible exact HBL | with_reducible refine Below.drew ?_ | with_reducible refine Bel_drewN ?_ _ | with_reducible refine Below.alloc ?_ (by first | omega | (simp; done) | (simp; omega)) _ | with_reducible refine Below.setCell ?_ (by first | omega | (simp; done) | (simp; omega)) _)), p0.out, Whole.made2 _ _ _ _⟩
  have H0 := Lib.hid hH
  have hz0 : w.heap.size + 1 < w0.heap.size := hH.2.2.lt
  clear hH hW p0 HD
  go_wp2_with fail
  go_loopw [9, 29] (fun v c wr => ∃ (i A B : Nat) (cs : List Int), i ≤ xs.length ∧ c = .int .i64 (i : Int) ∧ stK k a b m xs i = some (A, B, cs) ∧ wr.ownsRow w0.heap.size 2 1 v cs.length (il cs) ∧ Below w.heap.size w wr ∧ Whole wr w.heap.size 25 (sdC k A B) ∧ Whole wr (w.heap.size + 1) 25 (sdC 0 0 0) ∧ w0.heap.size ≤ wr.heap.size) (fun _ c _ => xs.length - (intOf c).toNat)
  case atStart =>
    obtain ⟨HBL, q0, q1⟩ := H0.out
    have := HBL.size
    exact ⟨0, a, b, [], Nat.zero_le _, rfl, rfl, World.ownsRow_made _ _ _ (Nat.le_refl _) (Nat.zero_le _) rfl, (by repeat (first | with_reducible exact Below.refl _ _ | with_reducible exact HBL | with_reducible refine Below.drew ?_ | with_reducible refine Bel_drewN ?_ _ | with_reducible refine Below.alloc ?_ (by first | omega | (simp; done) | (simp; omega)) _ | with_reducible refine Below.setCell ?_ (by first | omega | (simp; done) | (simp; omega)) _)), q0.alloc _, q1.alloc _, by simp⟩
  case round =>
    obtain ⟨i, A, B, cs, hi, rfl, hK, hown, hbel, q0, q1, hzw⟩ := hrel
    clear H0
    have HI := Lib.hid (stK_inv HS.out hK)
    have H := Lib.hid (And.intro hown (And.intro hbel (And.intro q0 q1)))
    have HK := Lib.hid hK
    have hcl : cs.length ≤ 64 := by have := HI.out.2; omega
    by_cases hlt : i < xs.length
    · have HXr := Lib.hid (HX.out.below hbel)
      obtain ⟨bx, ox, hao, hcx⟩ := HXr.out i (by simpa [il] using hlt)
      subst hao
      rw [il_get _ _ hlt] at hcx
      obtain ⟨y, hy⟩ : ∃ y, y = xs[i]?.getD 0 := ⟨_, rfl⟩
      rw [← hy] at hcx
      have HY := Lib.hid hy
      have hbx := World.block_lt_of_cell? _ _ hcx
      clear hown hbel q0 q1 hK hy
      by_cases hik : i < m
      · have hik' : (i : Int) < m := by omega
        go_wp2_with (at_builtin; refine wpList_app1 rfl _ _ 26 rfl w0.heap.size 2 (.int .i64 0) 8 Try.underlying26 (by kernel_rfl) rfl _ cs.length _ rfl (H.out.1.alloc _) _ _ (.int .i64 y) rfl ?_ rfl ⟨by omega, by omega⟩ ?_ ?_)
        · omega
        · intro v' w' hown' hgr'
          have hb3 : Below w.heap.size w w' := Below.grown (H.out.2.1.alloc H.out.2.1.size _) hgr' (by first | omega | (simp; done) | (simp; omega)) (fun i hi => by have := own_ge H.out.1 i hi; omega)
          have ho3 : w'.ownsRow w0.heap.size 2 1 v' (cs ++ [y]).length (il (cs ++ [y])) := by rw [il, List.map_append, List.length_append]; exact hown'
          have q0 := (H.out.2.2.1.alloc (.cells #[.int .i64 y] 2)).grown hgr' (own_ne' H.out.1 (by omega))
          have q1 := (H.out.2.2.2.alloc (.cells #[.int .i64 y] 2)).grown hgr' (own_ne' H.out.1 (by omega))
          have hz3 : w0.heap.size ≤ w'.heap.size := Nat.le_trans hzw (Nat.le_trans (by simp) hgr'.size)
          have H3 := Lib.hid (And.intro ho3 (And.intro hb3 (And.intro q0 (And.intro q1 hz3))))
          clear hown' hgr' hb3 ho3 H q0 q1 hz3
          go_wp2
          go_roundw
          case rel => exact ⟨i + 1, A, B, _, by omega, by go_num, by rw [HY.out] at H3 ⊢; exact stK_take HK.out hik, H3.out⟩
          case measure => simp [intOf]; omega
      · have hik' : (m : Int) ≤ i := by omega
        have hlm : m ≤ cs.length := by have := HI.out.2; omega
        have hlm2 : cs.length ≤ m := by have := HI.out.2; omega
        clear hcx
        go_wp2_with fail
        cases hbo : belowO k A B (i + 1) with
        | some r =>
          obtain ⟨A', B', x⟩ := r
          have HB := Lib.hid hbo
          clear hbo
          refine (l02Tried_some1 _ k A B i A' B' x _ HI.out.1 (by omega) HB.out H.out.2.2.1).mono ?_
          rintro e w3 ⟨rfl, r0, hg3⟩
          have hz3 := hg3.size
          have ro := H.out.1.kept hg3 (own_ne H.out.1 (by omega))
          have r1 := H.out.2.2.2.grown hg3 (by simp)
          have HBL : Below w.heap.size w w3 := Below.grown H.out.2.1 hg3 H.out.2.1.size (by simp)
          obtain ⟨bx', ox', ho, hcx⟩ := (HX.out.below HBL) i (by simpa [il] using hlt)
          cases ho
          rw [il_get _ _ hlt, ← HY.out] at hcx
          have H3 := Lib.hid (And.intro HBL (And.intro r0 (And.intro r1 ro)))
          clear r0 r1 hg3 HBL
          by_cases hxm : x < m
          · have hxm' : (x : Int) < m := by omega
            obtain ⟨g, c', rfl, hg, hgl, hcg, hfg, hset⟩ := own_put ro x (by omega)
            have HSET := Lib.hid hset
            have hxl : (x : Int) < (cs.length : Int) := by omega
            generalize cs[x]?.getD 0 = vx at hcg
            clear ro hset
            go_wp2_with fail
            go_roundw
            case rel =>
              obtain ⟨HBL, q0, q1, qo⟩ := H3.out
              refine ⟨i + 1, A', B', cs.set x y, by omega, by go_num, ?_, by rw [List.length_set]; exact HSET.out y, (by repeat (first | with_reducible exact Below.refl _ _ | with_reducible exact HBL | with_reducible refine Below.drew ?_ | with_reducible refine Bel_drewN ?_ _ | with_reducible refine Below.alloc ?_ (by first | omega | (simp; done) | (simp; omega)) _ | with_reducible refine Below.setCell ?_ (by first | omega | (simp; done) | (simp; omega)) _)), q0.far (by first | omega | (simp; done) | (simp; omega)) _, q1.far (by first | omega | (simp; done) | (simp; omega)) _, by simp; omega⟩
              have := stK_draw HK.out hik HB.out
              rw [if_pos hxm, ← HY.out] at this
              exact this
            case measure => simp [intOf]; omega
          · have hxm' : (m : Int) ≤ x := by omega
            clear ro
            go_wp2_with fail
            go_roundw
            case rel =>
              obtain ⟨HBL, q0, q1, qo⟩ := H3.out
              refine ⟨i + 1, A', B', cs, by omega, by go_num, ?_, qo, HBL, q0, q1, by omega⟩
              have := stK_draw HK.out hik HB.out
              rw [if_neg hxm] at this
              exact this
            case measure => simp [intOf]; omega
        | none =>
          have HB := Lib.hid hbo
          clear hbo
          refine (l02Tried_nil1 _ k A B i _ HI.out.1 (by omega) HB.out H.out.2.2.1).mono ?_
          rintro e w3 ⟨rfl, hg3⟩
          have r1 := H.out.2.2.2.grown hg3 (by simp)
          have HBL : Below w.heap.size w w3 := Below.grown H.out.2.1 hg3 H.out.2.1.size (by simp)
          obtain ⟨hc1, hf1⟩ := r1.facts
          have hz31 := r1.lt
          have H3 := Lib.hid HBL
          have HN : Hid (streamF k a b xs m = none) := Lib.hid (by rw [streamF_yes HS.out.1 hl hm.1 hm.2]; exact stK_stop HK.out hik HB.out hlt)
          clear r1 HBL hg3
          go_wp2_with fail
          have HBL := H3.out
          exact bodyPost_ret (v := .tuple #[sd 0 0 0, .slice none 0 0, .bool false]) (by simp [results, Try.results26, go_sem, hc1]) rfl (SeedL.no HN.out ⟨rfl, (by repeat (first | with_reducible exact Below.refl _ _ | with_reducible exact HBL | with_reducible refine Below.drew ?_ | with_reducible refine Bel_drewN ?_ _ | with_reducible refine Below.alloc ?_ (by first | omega | (simp; done) | (simp; omega)) _ | with_reducible refine Below.setCell ?_ (by first | omega | (simp; done) | (simp; omega)) _))⟩)
    · have hi' : i = xs.length := by omega
      have HR : Hid (streamF k a b xs m = some (A, B, cs)) := Lib.hid (by rw [streamF_yes HS.out.1 hl hm.1 hm.2, ← hi']; exact hK)
      subst hi'
      obtain ⟨hc0, hf0⟩ := q0.facts
      obtain ⟨hc1, hf1⟩ := q1.facts
      have hw0 := q0.lt
      have hw1 := q1.lt
      obtain ⟨ao', c', rfl⟩ := own_form hown
      have hrow := Lib.hid (Row.of_own hown)
      clear hK hown hbel q0 q1 hlt hi HK
      go_wp2_with fail
      obtain ⟨_, HBL, q0, q1⟩ := H.out
      refine bodyPost_ret (v := .tuple #[sd k A B, .slice ao' cs.length c', .bool true]) (by simp [results, Try.results26, go_sem, hc1]) rfl (SeedL.yes HR.out ⟨_, _, rfl, ?_, (by repeat (first | with_reducible exact Below.refl _ _ | with_reducible exact HBL | with_reducible refine Below.drew ?_ | with_reducible refine Bel_drewN ?_ _ | with_reducible refine Below.alloc ?_ (by first | omega | (simp; done) | (simp; omega)) _ | with_reducible refine Below.setCell ?_ (by first | omega | (simp; done) | (simp; omega)) _))⟩)
      refine Row.wide (lo := w0.heap.size) (hi := wr.heap.size) ?_ (by omega) (by first | omega | (simp; done) | (simp; omega))
      exact ((hrow.out.far (by first | omega | (simp; done) | (simp; omega)) _).far (by first | omega | (simp; done) | (simp; omega)) _).far (by first | omega | (simp; done) | (simp; omega)) _
theorem specStream_any (k : Int) (a b : Nat) (xs : List Int) (m : Int) (ao : Option Addr) (c : Nat) (w : World) (ha : a < 18446744073709551616) (hb : b < 18446744073709551616) (hn : xs.length ≤ 1048576) (hx : Holds w ao (il xs)) :
    Calls Try.prog 26 #[sd k a b, .slice ao xs.length c, .int .i64 m] w (SeedL k (streamF k a b xs m) w) := by
  by_cases h : vSeed k a b = true ∧ xs.length ≤ 256 ∧ 1 ≤ m ∧ m ≤ 64
  · obtain ⟨m, rfl⟩ : ∃ x : Nat, m = x := ⟨m.toNat, by omega⟩
    exact specStream_in k a b xs m ao c w ⟨h.1, ha, hb⟩ h.2.1 (by omega) hx
  · have HF : Hid (streamF k a b xs m = none) := Lib.hid (streamF_not h)
    have p0 := Lib.hid ((Whole.made w 25 (sdC k a b)).alloc (.cells (sdC 0 0 0) 25))
    cases hv : vSeed k a b with
    | false =>
      clear h hx
      go_enter Try.func26, Try.ntmps26
      go_wp2_with fail
      refine (l02Is_any _ _ _ _ _ p0.out).mono ?_
      rintro e w1 ⟨rfl, rfl⟩
      rw [hv]
      go_wp2_with fail
      exact bodyPost_ret (v := .tuple #[sd 0 0 0, .slice none 0 0, .bool false]) (by simp [results, Try.results26, go_sem]) rfl (SeedL.no HF.out ⟨rfl, (by repeat (first | with_reducible exact Below.refl _ _ | with_reducible exact HBL | with_reducible refine Below.drew ?_ | with_reducible refine Bel_drewN ?_ _ | with_reducible refine Below.alloc ?_ (by first | omega | (simp; done) | (simp; omega)) _ | with_reducible refine Below.setCell ?_ (by first | omega | (simp; done) | (simp; omega)) _))⟩)
    | true =>
      by_cases hl : xs.length ≤ 256
      · have HD : Hid (decide (1 ≤ m ∧ m ≤ 64) = false) := Lib.hid (by rw [hv] at h; simp at h; simp; omega)
        have hl' : (xs.length : Int) ≤ 256 := by omega
        clear h hx hl
        go_enter Try.func26, Try.ntmps26
        go_wp2_with fail
        refine (l02Is_any _ _ _ _ _ p0.out).mono ?_
        rintro e w1 ⟨rfl, rfl⟩
        rw [hv]
        go_wp2_with fail
        refine (l03Items_any _ _).mono ?_
        rintro e w1 ⟨rfl, rfl⟩
        rw [HD.out]
        go_wp2_with fail
        exact bodyPost_ret (v := .tuple #[sd 0 0 0, .slice none 0 0, .bool false]) (by simp [results, Try.results26, go_sem]) rfl (SeedL.no HF.out ⟨rfl, (by repeat (first | with_reducible exact Below.refl _ _ | with_reducible exact HBL | with_reducible refine Below.drew ?_ | with_reducible refine Bel_drewN ?_ _ | with_reducible refine Below.alloc ?_ (by first | omega | (simp; done) | (simp; omega)) _ | with_reducible refine Below.setCell ?_ (by first | omega | (simp; done) | (simp; omega)) _))⟩)
      · have hl' : (256 : Int) < xs.length := by omega
        have hl2 : (xs.length : Int) ≤ 1048576 := by omega
        clear h hx hl
        go_enter Try.func26, Try.ntmps26
        go_wp2_with fail
        refine (l02Is_any _ _ _ _ _ p0.out).mono ?_
        rintro e w1 ⟨rfl, rfl⟩
        rw [hv]
        go_wp2_with fail
        exact bodyPost_ret (v := .tuple #[sd 0 0 0, .slice none 0 0, .bool false]) (by simp [results, Try.results26, go_sem]) rfl (SeedL.no HF.out ⟨rfl, (by repeat (first | with_reducible exact Below.refl _ _ | with_reducible exact HBL | with_reducible refine Below.drew ?_ | with_reducible refine Bel_drewN ?_ _ | with_reducible refine Below.alloc ?_ (by first | omega | (simp; done) | (simp; omega)) _ | with_reducible refine Below.setCell ?_ (by first | omega | (simp; done) | (simp; omega)) _))⟩)
end Go.Proofs.Ytnofikeeobahjab
