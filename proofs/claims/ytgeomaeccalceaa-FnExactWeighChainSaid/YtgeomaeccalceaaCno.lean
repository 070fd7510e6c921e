/- Chains that are told number by number: what they are, and when they are valid; l07Give of the model. -/
import Derived.Test.YtgeomaeccalceaaChv
import Derived.Test.YtgeomaeccalceaaTl
namespace Go.Proofs.Ytgeomaeccalceaa
open Go Go.RowKit Fl Vag
set_option linter.unusedVariables false

theorem av_of_is {d b : Nat} (h : av .f32 d = some b) : d = b := by
  unfold av at h
  split at h
  · cases h
  · injection h
theorem partB_av {x y : Nat} (h : av .f32 x = av .f32 y) : partB x = partB y := by
  cases hx : av .f32 x with
  | none =>
    rw [hx] at h
    unfold partB
    rw [(nan_ord hx).1, (nan_ord h.symm).1]; rfl
  | some b =>
    rw [hx] at h
    rw [av_of_is hx, av_of_is h.symm]
theorem part_num {x : Nat} (h : partB x = true) : av .f32 x = some x := by
  rcases av_self_or x with h' | h'
  · exact h'
  · unfold partB at h; rw [(nan_ord h').1] at h; cases h
/-- The same numbers, but for not-a-numbers' bits. -/
def alikeL (xs ys : List Nat) : Prop := xs.length = ys.length ∧ ∀ j, j < xs.length → av .f32 (xs[j]?.getD 0) = av .f32 (ys[j]?.getD 0)
theorem alikeL.symm {xs ys : List Nat} (h : alikeL xs ys) : alikeL ys xs := ⟨h.1.symm, fun j hj => (h.2 j (by rw [h.1]; exact hj)).symm⟩
theorem alikeL.map {xs ys : List Nat} (h : alikeL xs ys) : xs.map (av .f32) = ys.map (av .f32) := by
  apply List.ext_getElem
  · simp [h.1]
  · intro i h1 h2
    have h1' : i < xs.length := by simpa using h1
    have h2' : i < ys.length := by simpa using h2
    have := h.2 i h1'
    simpa [h1', h2'] using this
theorem sumA_map (xs : List Nat) : sumA .f32 xs = (xs.map (av .f32)).foldl (fun s x => aop .add .f32 s x) (some 0) := by unfold sumA; rw [List.foldl_map]
theorem alikeL.sum {xs ys : List Nat} (h : alikeL xs ys) : sumA .f32 xs = sumA .f32 ys := by rw [sumA_map, sumA_map, h.map]
theorem alikeL.row {xs ys : List Nat} (h : alikeL xs ys) (n i : Nat) (hl : i * n + n ≤ xs.length) : alikeL (rowA n i xs) (rowA n i ys) := by
  have hl2 : i * n + n ≤ ys.length := by rw [← h.1]; exact hl
  refine ⟨by rw [rowA_len hl, rowA_len hl2], fun j hj => ?_⟩
  rw [rowA_len hl] at hj
  rw [rowA_get hj, rowA_get hj]
  exact h.2 _ (by omega)
theorem alikeL.ok {xs ys : List Nat} (h : alikeL xs ys) (k : okRow xs) : okRow ys :=
  ⟨fun i hi => by rw [← partB_av (h.2 i (by rw [h.1]; exact hi))]; exact k.1 i (by rw [h.1]; exact hi), by rw [← h.sum]; exact k.2⟩
theorem alikeL.chain {s : Int} {xs ys : List Nat} (h : alikeL xs ys) (k : isChain s xs) : isChain s ys := by
  obtain ⟨n, rfl, h1, h2, h3, h4⟩ := k.nat
  exact isChain.of h1 h2 (by rw [← h.1]; exact h3) (fun i hi => (h.row n i (by rw [h3]; exact row_in hi)).ok (h4 i hi))
theorem isChain.num {s : Int} {xs : List Nat} (k : isChain s xs) {j : Nat} (hj : j < xs.length) : partB (xs[j]?.getD 0) = true := by
  obtain ⟨n, rfl, h1, h2, h3, h4⟩ := k.nat
  have hn : 0 < n := h1
  have h5 : j / n < n := Nat.div_lt_of_lt_mul (by rw [← h3]; exact hj)
  have h6 : j % n < n := Nat.mod_lt _ hn
  have h7 := (h4 (j / n) h5).1 (j % n) (by rw [rowA_len (by rw [h3]; exact row_in h5)]; exact h6)
  rw [rowA_get h6] at h7
  have h8 : j / n * n + j % n = j := by rw [Nat.mul_comm]; exact Nat.div_add_mod j n
  rw [h8] at h7
  exact h7
theorem alikeL.eq {s : Int} {xs ys : List Nat} (h : alikeL xs ys) (k : isChain s xs) : xs = ys := by
  apply List.ext_getElem
  · exact h.1
  · intro i h1 h2
    have h3 := part_num (k.num h1)
    have h4 := h.2 i h1
    rw [h3] at h4
    have := av_of_is h4.symm
    have h5 : xs[i]?.getD 0 = ys[i]?.getD 0 := this.symm
    simpa [h1, h2] using h5
/-- Numbers told by a function, not-a-numbers by one of them. -/
def canL (m : Nat) (G : Nat → Option Nat) : List Nat := (List.range m).map fun j => (G j).getD 2143289344
theorem canL_len (m : Nat) (G : Nat → Option Nat) : (canL m G).length = m := by simp [canL]
theorem canL_get {m j : Nat} {G : Nat → Option Nat} (hj : j < m) : (canL m G)[j]?.getD 0 = (G j).getD 2143289344 := by simp [canL, hj]
theorem av_nan7 : av .f32 2143289344 = none := by decide +kernel
theorem canL_of {m : Nat} {G : Nat → Option Nat} {ds : List Nat} (hl : ds.length = m) (hd : ∀ j, j < m → av .f32 (ds[j]?.getD 0) = G j) : alikeL ds (canL m G) := by
  refine ⟨by rw [hl, canL_len], fun j hj => ?_⟩
  rw [canL_get (by omega), hd j (by omega)]
  cases hg : G j with
  | none => exact av_nan7.symm
  | some b =>
    have h := hd j (by omega)
    rw [hg] at h
    have := av_of_is h
    rw [this] at h
    exact h.symm
/-- The chain is returned if it is valid. -/
def ChR (n m : Nat) (G : Nat → Option Nat) (w : World) (e : Ending) (w' : World) : Prop :=
  (isChain n (canL m G) ∧ RetL m (fl .f32 (canL m G)) (fun s => .tuple #[.agg #[.int .i64 n, s], .bool true]) w e w') ∨
  (¬isChain n (canL m G) ∧ RetB (.tuple #[.agg #[.int .i64 0, .slice none 0 0], .bool false]) w e w')
theorem ChR.yes {n m : Nat} {G : Nat → Option Nat} {w w' : World} {e : Ending} (hf : isChain n (canL m G)) (hr : ChR n m G w e w') : RetL m (fl .f32 (canL m G)) (fun s => .tuple #[.agg #[.int .i64 n, s], .bool true]) w e w' := by
  rcases hr with ⟨_, h⟩ | ⟨h, _⟩
  · exact h
  · exact absurd hf h
theorem ChR.no {n m : Nat} {G : Nat → Option Nat} {w w' : World} {e : Ending} (hf : ¬isChain n (canL m G)) (hr : ChR n m G w e w') : RetB (.tuple #[.agg #[.int .i64 0, .slice none 0 0], .bool false]) w e w' := by
  rcases hr with ⟨h, _⟩ | ⟨_, h⟩
  · exact absurd h hf
  · exact h
theorem ChR.wide {n m : Nat} {G : Nat → Option Nat} {w w1 w' : World} {e : Ending} (hb : Below w.heap.size w w1) (h : ChR n m G w1 e w') : ChR n m G w e w' := by
  rcases h with ⟨hf, ao, c, he, hr, hw⟩ | ⟨hf, he, hw⟩
  · exact .inl ⟨hf, ao, c, he, hr.wide hb.size (Nat.le_refl _), Bel_next hb hw⟩
  · exact .inr ⟨hf, he, Bel_next hb hw⟩
theorem own_cap {w : World} {base : Nat} {e : TypeId} {ao : Option Addr} {n c : Nat} {xs : List Value} (h : w.ownsRow base e 1 (.slice ao n c) n xs) : n ≤ c := by
  obtain ⟨_, h⟩ := h
  rcases h with ⟨hv, h0⟩ | ⟨g, cap, cur, hv, hg, hh, hn, _⟩
  · omega
  · injection hv with _ _ hc; omega
set_option maxRecDepth 100000 in
set_option maxHeartbeats 1000000 in
theorem l07Give_any (s : Int) (ss : List Nat) (m lo : Nat) (hm : ss.length = m) (ao : Option Addr) (c : Nat) (w : World) (hr : Row w lo w.heap.size ao (fl .f32 ss)) (hlen : m ≤ 1048576) :
    Calls Try.prog 94 #[.agg #[.int .i64 s, .slice ao m c]] w (fun e w' => Below w.heap.size w w' ∧ ((isChain s ss ∧ e = .returned (.tuple #[.agg #[.int .i64 s, .slice ao m c], .bool true])) ∨ (¬isChain s ss ∧ e = .returned (.tuple #[.agg #[.int .i64 0, .slice none 0 0], .bool false])))) := by
  have HX := Lib.hid (And.intro hr hm)
  clear hr hm
  go_enter Try.func94, Try.ntmps94
  go_wp2_with (first | (go_at_call 75; fail))
  generalize hW : World.alloc (World.alloc _ _) _ = w0
  have H0 : Hid (Whole w0 w.heap.size 34 #[.int .i64 s, .slice ao m c] ∧ Whole w0 (w.heap.size + 1) 34 #[.int .i64 0, .slice none 0 0] ∧ Below w.heap.size w w0) := Lib.hid (by rw [← hW]; exact ⟨(Whole.made _ _ _).alloc _, Whole.made2 _ _ _ _, (by repeat (first | with_reducible exact Below.refl _ _ | with_reducible exact HBL | with_reducible refine Below.drew ?_ | with_reducible refine Bel_drewN ?_ _ | with_reducible refine Below.alloc ?_ (by first | omega | (simp; done) | (simp; omega)) _ | with_reducible refine Below.setCell ?_ (by first | omega | (simp; done) | (simp; omega)) _))⟩)
  clear hW
  refine (l07Is_any s ss m HX.out.2 ao c _ _ H0.out.1 (HX.out.1.holds.below H0.out.2.2) hlen).mono ?_
  rintro e w1 ⟨b, q, rfl, hb, rfl⟩
  have HB := Lib.hid hb
  have q0 := H0.out.1.drewN q
  have q1 := H0.out.2.1.drewN q
  obtain ⟨hc0, hf0⟩ := q0.facts
  obtain ⟨hc1, hf1⟩ := q1.facts
  have HBL := H0.out.2.2
  clear hb q0 q1
  cases b with
  | true =>
    go_wp2_with fail
    exact bodyPost_ret (v := .tuple #[.agg #[.int .i64 s, .slice ao m c], .bool true]) (by simp [results, Try.results94, go_sem, hc1]) rfl ⟨(by repeat (first | with_reducible exact Below.refl _ _ | with_reducible exact HBL | with_reducible refine Below.drew ?_ | with_reducible refine Bel_drewN ?_ _ | with_reducible refine Below.alloc ?_ (by first | omega | (simp; done) | (simp; omega)) _ | with_reducible refine Below.setCell ?_ (by first | omega | (simp; done) | (simp; omega)) _)), .inl ⟨HB.out.1 trivial, rfl⟩⟩
  | false =>
    go_wp2_with fail
    exact bodyPost_ret (v := .tuple #[.agg #[.int .i64 0, .slice none 0 0], .bool false]) (by simp [results, Try.results94, go_sem, hc1]) rfl ⟨(by repeat (first | with_reducible exact Below.refl _ _ | with_reducible exact HBL | with_reducible refine Below.drew ?_ | with_reducible refine Bel_drewN ?_ _ | with_reducible refine Below.alloc ?_ (by first | omega | (simp; done) | (simp; omega)) _ | with_reducible refine Below.setCell ?_ (by first | omega | (simp; done) | (simp; omega)) _)), .inr ⟨(fun h => by have := HB.out.2 h; cases this), rfl⟩⟩
end Go.Proofs.Ytgeomaeccalceaa
