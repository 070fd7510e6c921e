/- The words of streams: both sides. -/
import Derived.Test.YtdnelmmbiccjcaaLl
import Derived.Test.YtdnelmmbiccjcaaSq
import Derived.Test.YtdnelmmbiccjcaaWo
namespace Go.Proofs.Ytdnelmmbiccjcaa
open Go Go.RowKit
set_option linter.unusedVariables false

def strmL (k : Int) (a b n : Nat) (i : Nat) : List Int := wordsL k (splA a b i) (splB k a b i) n
def strmLL (k : Int) (a b m n : Nat) : List (List Int) := (List.range m).map (strmL k a b n)
theorem strmL_len (k : Int) (a b n i : Nat) : (strmL k a b n i).length = n := wordsL_len _ _ _ _
theorem strmLL_len (k : Int) (a b m n : Nat) : (strmLL k a b m n).length = m := by simp [strmLL]
theorem strmLL_nth (k : Int) (a b m n i : Nat) (h : i < m) : nthL (strmLL k a b m n) i = strmL k a b n i := by simp [nthL, strmLL, h]
theorem strmLL_pre (k : Int) (a b m n i : Nat) (h : i ≤ m) : preL (strmLL k a b m n) i = i * n := by
  induction i with
  | zero => simp [preL]
  | succ i ih => rw [preL, ih (by omega), strmLL_nth _ _ _ _ _ _ (by omega), strmL_len, Nat.add_mul]; simp
theorem strmLL_tot (k : Int) (a b m n : Nat) : totL (strmLL k a b m n) = m * n := by unfold totL; rw [strmLL_len]; exact strmLL_pre _ _ _ _ _ _ (Nat.le_refl _)
/-- The arguments with which there are streams. -/
def strmC (k : Int) (a b : Nat) (m n : Int) : Prop := vSeed k a b = true ∧ (0 ≤ m ∧ m ≤ 16) ∧ 0 ≤ n ∧ n ≤ 256

theorem Row.grownX {w w' : World} {lo hi : Nat} {ao : Option Addr} {vs : List Value} {row : Option Nat} (h : Row w lo hi ao vs) (hg : w.grownBy w' row) (hn : vs = [] ∨ ∀ g, lo ≤ g → g < hi → some g ≠ row) : Row w' lo hi ao vs := by
  rcases h with rfl | ⟨g, cs, t, e, h1, h2, hw, hc⟩
  · exact .inl rfl
  · rcases hn with rfl | hn
    · exact .inl rfl
    · exact .inr ⟨g, cs, t, e, h1, h2, hw.grown hg (hn g h1 h2), hc⟩
/-- One block alone holds the row. -/
theorem Row.single {w : World} {lo hi : Nat} {ao : Option Addr} {vs : List Value} (h : Row w lo hi ao vs) : vs = [] ∨ ∃ g, lo ≤ g ∧ g < hi ∧ g < w.heap.size ∧ Row w g (g + 1) ao vs := by
  rcases h with rfl | ⟨g, cs, t, e, h1, h2, hw, hc⟩
  · exact .inl rfl
  · exact .inr ⟨g, h1, h2, hw.lt, .inr ⟨g, cs, t, e, Nat.le_refl _, Nat.lt_succ_self _, hw, hc⟩⟩
/-- Rows of the lists W 0, .., each in a block of its own (none of them gO; all of a type, where one is told). -/
def SRows (w : World) (lo gO : Nat) (T : Option TypeId) (W : Nat → List Int) (k : Nat) (A : Nat → Option Addr) (G : Nat → Nat) : Prop :=
  ∀ i, i < k → Row w (G i) (G i + 1) (A i) (il (W i)) ∧ (W i = [] ∨ (lo ≤ G i ∧ G i < w.heap.size ∧ G i ≠ gO ∧ (∀ t, T = some t → ∃ cs, Whole w (G i) t cs) ∧ ∀ j, j < i → W j = [] ∨ G j ≠ G i))
theorem SRows.grown {w w' : World} {lo gO k : Nat} {T : Option TypeId} {W : Nat → List Int} {A : Nat → Option Addr} {G : Nat → Nat} {row : Option Nat} (h : SRows w lo gO T W k A G) (hg : w.grownBy w' row) (hr : ∀ i, i < k → W i = [] ∨ some (G i) ≠ row) : SRows w' lo gO T W k A G := fun i hi => by
  obtain ⟨h1, h2⟩ := h i hi
  refine ⟨h1.grownX hg ((hr i hi).imp (fun e => by rw [e]; rfl) (fun hn g a b => by rwa [show g = G i by omega])), ?_⟩
  by_cases he : W i = []
  · exact .inl he
  · obtain ⟨a1, a2, a3, a4, a5⟩ := h2.resolve_left he
    exact .inr ⟨a1, Nat.lt_of_lt_of_le a2 hg.size, a3, fun t ht => by obtain ⟨cs, hw⟩ := a4 t ht; exact ⟨cs, hw.grown hg ((hr i hi).resolve_left he)⟩, a5⟩
theorem SRows.add {w : World} {lo gO k : Nat} {T : Option TypeId} {W : Nat → List Int} {A : Nat → Option Addr} {G : Nat → Nat} {ao : Option Addr} (h : SRows w lo gO T W k A G)
    (hr : W k = [] ∨ ∃ g, lo ≤ g ∧ g < w.heap.size ∧ g ≠ gO ∧ Row w g (g + 1) ao (il (W k)) ∧ (∀ t, T = some t → ∃ cs, Whole w g t cs) ∧ ∀ i, i < k → W i = [] ∨ G i ≠ g) :
    ∃ G', SRows w lo gO T W (k + 1) (fun i => if i = k then ao else A i) G' := by
  have hx : ∃ g, Row w g (g + 1) ao (il (W k)) ∧ (W k = [] ∨ (lo ≤ g ∧ g < w.heap.size ∧ g ≠ gO ∧ (∀ t, T = some t → ∃ cs, Whole w g t cs) ∧ ∀ i, i < k → W i = [] ∨ G i ≠ g)) := by
    rcases hr with he | ⟨g, a1, a2, a3, a4, a5, a6⟩
    · exact ⟨0, by rw [he]; exact .inl rfl, .inl he⟩
    · exact ⟨g, a4, .inr ⟨a1, a2, a3, a5, a6⟩⟩
  obtain ⟨g, hrow, hcond⟩ := hx
  refine ⟨fun i => if i = k then g else G i, fun i hi => ?_⟩
  by_cases e : i = k
  · subst e
    simp only [if_true]
    refine ⟨hrow, hcond.imp id fun ⟨a1, a2, a3, a4, a5⟩ => ⟨a1, a2, a3, a4, fun j hj => ?_⟩⟩
    have hne : ¬ j = i := by omega
    simp only [hne, if_false]
    exact a5 j hj
  · have hik : i < k := by omega
    simp only [e, if_false]
    obtain ⟨h1, h2⟩ := h i hik
    refine ⟨h1, h2.imp id fun ⟨a1, a2, a3, a4, a5⟩ => ⟨a1, a2, a3, a4, fun j hj => ?_⟩⟩
    have hne : ¬ j = k := by omega
    simp only [hne, if_false]
    exact a5 j hj
theorem SRows.rows2 {w : World} {lo gO m n gO' : Nat} {T : Option TypeId} {k : Int} {a b : Nat} {A : Nat → Option Addr} {G C : Nat → Nat} {cur : Array Value} {t : TypeId} (h : SRows w lo gO T (strmL k a b n) m A G)
    (hw : Whole w gO' t cur) (hc : ∀ i, i < m → cur[i]? = some (.slice (A i) n (C i))) (hl : lo ≤ gO') (hd : ∀ i, i < m → strmL k a b n i = [] ∨ G i ≠ gO') :
    Rows2 w lo w.heap.size (some ⟨gO', 0, none⟩) (strmLL k a b m n) := by
  refine .inr ⟨gO', cur, t, G, A, C, rfl, ⟨hl, hw.lt⟩, hw, fun i hi => ?_, fun i hi => ?_, fun i hi => ?_⟩
  · rw [strmLL_len] at hi
    rw [strmLL_nth _ _ _ _ _ _ hi]
    by_cases he : strmL k a b n i = []
    · exact .inl he
    · obtain ⟨a1, a2, a3, a4, a5⟩ := (h i hi).2.resolve_left he
      refine .inr ⟨a1, a2, (hd i hi).resolve_left he, fun j hj => ?_⟩
      rw [strmLL_nth _ _ _ _ _ _ (show j < m by omega)]
      exact a5 j hj
  · rw [strmLL_len] at hi
    rw [strmLL_nth _ _ _ _ _ _ hi, strmL_len]; exact hc i hi
  · rw [strmLL_len] at hi
    rw [strmLL_nth _ _ _ _ _ _ hi]; exact (h i hi).1
/-- Lists of lists among the results. -/
def RetLL (css : List (List Int)) (f : Value → Value) (w : World) (e : Ending) (w' : World) : Prop :=
  ∃ ao c, e = .returned (f (.slice ao css.length c)) ∧ Rows2 w' w.heap.size w'.heap.size ao css ∧ Below w.heap.size w w'
theorem run_mkN {P : Program} (w : World) (t e : TypeId) (n : Nat) (hn : n ≤ 1048577) (ht : P.underlying t = some (.slice e)) (hi : (P.info? e).map (fun i => (i.zero, i.size, i.bytes)) = some (some (.slice none 0 0), 1, 24)) :
    (Instr.makeSlice t (.int .i64 (n : Int)) (.int .i64 (n : Int))).run P w = .ok (.slice (some ⟨w.heap.size, 0, none⟩) n n) (w.alloc (.cells (Array.replicate n (.slice none 0 0)) e)) :=
  run_mk w t e (.slice none 0 0) 24 n ht hi rfl (by omega) hn
theorem areStreams_yes (k : Int) (a b m n : Nat) (w : World) (hv : vSeed k a b = true) (hm : m ≤ 16) (hn : n ≤ 256) :
    Calls Try.prog 63 #[sd k a b, .int .i64 m, .int .i64 n] w (RetB (.bool true) w) := by
  have HV := Lib.hid hv
  have hm1 : (0 : Int) ≤ m := by omega
  have hm2 : (m : Int) ≤ 16 := by omega
  have HD : Hid (decide ((0 : Int) ≤ n ∧ (n : Int) ≤ 256) = true) := Lib.hid (by simp; omega)
  clear hv
  go_enter Try.func63, Try.ntmps63
  go_wp2_with fail
  refine (ValidSeed_any _ _ _ _).mono ?_
  rintro e w1 ⟨rfl, rfl⟩
  rw [HV.out]
  go_wp2_with fail
  refine (isWordCount_any _ _).mono ?_
  rintro e w1 ⟨rfl, rfl⟩
  rw [HD.out]
  go_wp2
  go_ret
  exact ⟨rfl, (by repeat (first | with_reducible exact Below.refl _ _ | with_reducible exact HBL | with_reducible refine Below.drew ?_ | with_reducible refine Bel_drewN ?_ _ | with_reducible refine Below.alloc ?_ (by first | omega | (simp; done) | (simp; omega)) _ | with_reducible refine Below.setCell ?_ (by first | omega | (simp; done) | (simp; omega)) _))⟩
theorem areStreams_no (k : Int) (a b : Nat) (m n : Int) (w : World) (hv : ¬ strmC k a b m n) :
    Calls Try.prog 63 #[sd k a b, .int .i64 m, .int .i64 n] w (RetB (.bool false) w) := by
  cases h1 : vSeed k a b with
  | false =>
    have HV := Lib.hid h1
    clear hv h1
    go_enter Try.func63, Try.ntmps63
    go_wp2_with fail
    refine (ValidSeed_any _ _ _ _).mono ?_
    rintro e w1 ⟨rfl, rfl⟩
    rw [HV.out]
    go_wp2
    go_ret
    exact ⟨rfl, (by repeat (first | with_reducible exact Below.refl _ _ | with_reducible exact HBL | with_reducible refine Below.drew ?_ | with_reducible refine Bel_drewN ?_ _ | with_reducible refine Below.alloc ?_ (by first | omega | (simp; done) | (simp; omega)) _ | with_reducible refine Below.setCell ?_ (by first | omega | (simp; done) | (simp; omega)) _))⟩
  | true =>
    have HV := Lib.hid h1
    by_cases h2 : m < 0
    · clear hv h1
      go_enter Try.func63, Try.ntmps63
      go_wp2_with fail
      refine (ValidSeed_any _ _ _ _).mono ?_
      rintro e w1 ⟨rfl, rfl⟩
      rw [HV.out]
      go_wp2
      go_ret
      exact ⟨rfl, (by repeat (first | with_reducible exact Below.refl _ _ | with_reducible exact HBL | with_reducible refine Below.drew ?_ | with_reducible refine Bel_drewN ?_ _ | with_reducible refine Below.alloc ?_ (by first | omega | (simp; done) | (simp; omega)) _ | with_reducible refine Below.setCell ?_ (by first | omega | (simp; done) | (simp; omega)) _))⟩
    · have h2' : 0 ≤ m := by omega
      by_cases h3 : 16 < m
      · clear hv h1 h2
        go_enter Try.func63, Try.ntmps63
        go_wp2_with fail
        refine (ValidSeed_any _ _ _ _).mono ?_
        rintro e w1 ⟨rfl, rfl⟩
        rw [HV.out]
        go_wp2
        go_ret
        exact ⟨rfl, (by repeat (first | with_reducible exact Below.refl _ _ | with_reducible exact HBL | with_reducible refine Below.drew ?_ | with_reducible refine Bel_drewN ?_ _ | with_reducible refine Below.alloc ?_ (by first | omega | (simp; done) | (simp; omega)) _ | with_reducible refine Below.setCell ?_ (by first | omega | (simp; done) | (simp; omega)) _))⟩
      · have h3' : m ≤ 16 := by omega
        have HD : Hid (decide (0 ≤ n ∧ n ≤ 256) = false) := Lib.hid (decide_eq_false (fun h4 => hv ⟨h1, ⟨h2', h3'⟩, h4⟩))
        clear hv h1 h2 h3
        go_enter Try.func63, Try.ntmps63
        go_wp2_with fail
        refine (ValidSeed_any _ _ _ _).mono ?_
        rintro e w1 ⟨rfl, rfl⟩
        rw [HV.out]
        go_wp2_with fail
        refine (isWordCount_any _ _).mono ?_
        rintro e w1 ⟨rfl, rfl⟩
        rw [HD.out]
        go_wp2
        go_ret
        exact ⟨rfl, (by repeat (first | with_reducible exact Below.refl _ _ | with_reducible exact HBL | with_reducible refine Below.drew ?_ | with_reducible refine Bel_drewN ?_ _ | with_reducible refine Below.alloc ?_ (by first | omega | (simp; done) | (simp; omega)) _ | with_reducible refine Below.setCell ?_ (by first | omega | (simp; done) | (simp; omega)) _))⟩
set_option maxRecDepth 100000 in
set_option maxHeartbeats 2000000 in
theorem implStreams_in (k : Int) (a b m n : Nat) (w : World) (hv : vSeed k a b = true) (hm : m ≤ 16) (hn : n ≤ 256) (ha : a < 18446744073709551616) (hb : b < 18446744073709551616) :
    Calls Try.prog 17 #[sd k a b, .int .i64 m, .int .i64 n] w (RetLL (strmLL k a b m n) (fun s => .tuple #[s, .bool true]) w) := by
  have HV := Lib.hid hv
  have HK := Lib.hid (vSeed_kind hv)
  have hmk : ∀ w : World, _ := fun w => run_mkN (P := Try.prog) w 25 33 m (by omega) Try.underlying25 (by kernel_rfl)
  have p0 := Lib.hid (Whole.made w 28 (sdC k a b))
  have HB0 : Hid (Below w.heap.size w (w.alloc (.cells (sdC k a b) 28))) := Lib.hid ((Below.refl _ _).alloc (Nat.le_refl _) _)
  clear hv
  go_enter Try.func17, Try.ntmps17
  go_wp2_with fail
  refine (areStreams_yes k a b m n _ HV.out hm hn).mono ?_
  rintro e w1 ⟨rfl, hb1⟩
  have HB1 := Lib.hid (Bel_next HB0.out hb1)
  have p1 := Lib.hid (p0.out.below hb1)
  have hz1 := p1.out.lt
  clear hb1 p0 HB0
  go_wp2_with fail
  clear hmk
  go_loopw [18] (fun iv wr => ∃ (j : Nat) (A : Nat → Option Addr) (G C : Nat → Nat) (cur : Array Value), j ≤ m ∧ iv = .int .i64 j ∧ SRows wr w1.heap.size w1.heap.size none (strmL k a b n) j A G ∧ Whole wr w1.heap.size 33 cur ∧ cur.size = m ∧ (∀ i, i < j → cur[i]? = some (.slice (A i) n (C i))) ∧ Whole wr w.heap.size 28 (sdC k a b) ∧ Below w.heap.size w wr) (fun iv _ => m - (intOf iv).toNat)
  case atStart => exact ⟨0, fun _ => none, fun _ => 0, fun _ => 0, _, Nat.zero_le _, rfl, fun i hi => absurd hi (Nat.not_lt_zero _), Whole.made _ _ _, by simp, fun i hi => absurd hi (Nat.not_lt_zero _), p1.out.alloc _, HB1.out.alloc HB1.out.size _⟩
  case round =>
    obtain ⟨j, A, G, C, cur, hj, rfl, hrows, hcur, hcs, hcells, hseed, hbel⟩ := hrel
    have H := Lib.hid (And.intro hrows (And.intro hcur (And.intro hcs (And.intro hcells (And.intro hseed hbel)))))
    have hzo := hcur.lt
    have hzs := hseed.lt
    by_cases hlt : j < m
    · have hlt' : (j : Int) < m := by omega
      have hlt0 : j < cur.size := by omega
      have hcb := hseed.cell 0
      have hcb1 := hseed.cell 1
      have hcb2 := hseed.cell 2
      simp [sdC] at hcb hcb1 hcb2
      clear hrows hcur hcs hcells hseed hbel
      go_wp2_with fail
      refine (streamSeed_any k a b j _ (by omega) ha hb).mono ?_
      rintro e w2 ⟨rfl, hb2⟩
      have HB2 := Lib.hid hb2
      have hz2 := hb2.size
      clear hb2 hcb hcb1 hcb2
      go_wp2_with fail
      refine (wordsFrom_any k (splA a b j) (splB k a b j) n _ HK.out (splA_lt _ _ _) (splB_lt _ _ _ _) hn).mono ?_
      rintro e w3 ⟨ao, c, rfl, hrow, hb3⟩
      have HB3 := Lib.hid (Bel_next HB2.out hb3)
      have hz3 := hb3.size
      have HR := Lib.hid hrow.single
      clear hb3 hrow
      have hcw : Whole w3 w1.heap.size 33 cur := H.out.2.1.below HB3.out
      obtain ⟨old, hold⟩ : ∃ old, w3.cell? ⟨w1.heap.size, j, none⟩ = some old := ⟨cur[j], by rw [hcw.cell]; exact Array.getElem?_eq_getElem hlt0⟩
      have hfr := hcw.frozen j
      have HCW := Lib.hid hcw
      clear hcw
      go_wp2
      go_roundw
      case rel =>
        obtain ⟨h1, h2, h3, h4, h5, h6⟩ := H.out
        have hgs := grown_set w3 w1.heap.size j (.slice ao n c)
        have r1 : SRows w3 w1.heap.size w1.heap.size none (strmL k a b n) j A G := h1.grown (grown_below (row := none) HB3.out) (fun i hi => .inr (by simp))
        have r2 : SRows (w3.setCell ⟨w1.heap.size, j, none⟩ (.slice ao n c)) w1.heap.size w1.heap.size none (strmL k a b n) j A G := r1.grown hgs (fun i hi => (r1 i hi).2.imp id (fun h => by simp; exact h.2.2.1))
        obtain ⟨G', r3⟩ := r2.add (ao := ao) (by
          rcases HR.out with he | ⟨g, g1, g2, g3, g4⟩
          · left
            have : (il (wordsL k (splA a b j) (splB k a b j) n)).length = 0 := by rw [he]; rfl
            rw [il_len] at this
            exact List.eq_nil_of_length_eq_zero this
          · refine .inr ⟨g, by omega, by simpa [World.setCell] using g3, by omega, g4.grownX hgs (.inr fun x x1 x2 => by simp; omega), (fun t ht => by simp at ht), fun i hi => ?_⟩
            refine (h1 i hi).2.imp id (fun h => ?_)
            have := h.2.1
            omega)
        refine ⟨j + 1, _, G', fun i => if i = j then c else C i, cur.setIfInBounds j (.slice ao n c), by omega, by go_num, r3, HCW.out.put j _, by simpa using h3, fun i hi => ?_, (h5.below HB3.out).far (by simp; omega) _, (Bel_next h6 HB3.out).setCell (by simp; omega) _⟩
        by_cases e : i = j
        · subst e; rw [Array.getElem?_setIfInBounds_self_of_lt hlt0]; simp
        · rw [Array.getElem?_setIfInBounds_ne (by omega)]
          simp only [e, if_false]
          exact h4 i (by omega)
      case measure => simp [intOf]; omega
    · have hjm : j = m := by omega
      subst hjm
      clear hrows hcur hcs hcells hseed hbel
      go_wp2
      go_ret2
      obtain ⟨h1, h2, h3, h4, h5, h6⟩ := H.out
      refine ⟨_, _, by rw [strmLL_len]; rfl, (h1.rows2 h2 h4 (Nat.le_refl _) (fun i hi => (h1 i hi).2.imp id (fun h => h.2.2.1))).wide (Nat.le_of_lt hz1 |> fun h => by omega) (Nat.le_refl _), h6⟩
theorem implStreams_no (k : Int) (a b : Nat) (m n : Int) (w : World) (hv : ¬ strmC k a b m n) :
    Calls Try.prog 17 #[sd k a b, .int .i64 m, .int .i64 n] w (RetB (.tuple #[.slice none 0 0, .bool false]) w) := by
  have HV := Lib.hid hv
  have HB0 : Hid (Below w.heap.size w (w.alloc (.cells (sdC k a b) 28))) := Lib.hid ((Below.refl _ _).alloc (Nat.le_refl _) _)
  clear hv
  go_enter Try.func17, Try.ntmps17
  go_wp2_with fail
  refine (areStreams_no k a b m n _ HV.out).mono ?_
  rintro e w1 ⟨rfl, hb1⟩
  have HB1 := Lib.hid (Bel_next HB0.out hb1)
  clear hb1
  go_wp2
  go_ret2
  exact ⟨rfl, HB1.out⟩
/-- One block alone, of a type that is told, holds the row. -/
def RowT (w : World) (lo : Nat) (t : TypeId) (ao : Option Addr) (vs : List Value) : Prop := vs = [] ∨ ∃ g, lo ≤ g ∧ g < w.heap.size ∧ Row w g (g + 1) ao vs ∧ ∃ cs, Whole w g t cs
theorem own_rowT {w : World} {base n c : Nat} {t : TypeId} {ao : Option Addr} {vs : List Value} (h : w.ownsRow base t 1 (.slice ao n c) n vs) : RowT w base t ao vs := by
  have hr := Row.of_own h
  rcases h.2 with ⟨_, h0⟩ | ⟨g, cap, cur, hv, hg, hh, _⟩
  · left; exact List.eq_nil_of_length_eq_zero (by rw [h.1]; omega)
  · injection hv with hv _ _
    subst hv
    have hl : g < w.heap.size := Whole.lt (w := w) (g := g) (t := t) (cs := cur) hh
    rcases hr with he | ⟨g', cs, t', e, h1, h2, hw, hc⟩
    · exact .inl he
    · simp at e
      subst e
      exact .inr ⟨g, hg, hl, .inr ⟨g, cs, t', rfl, Nat.le_refl _, Nat.lt_succ_self _, hw, hc⟩, cur, hh⟩
theorem own_typeW {w : World} {base n g : Nat} {e t : TypeId} {v : Value} {xs : List Value} {cs : Array Value} (h : w.ownsRow base e 1 v n xs) (hr : Whole w g t cs) (ht : t ≠ e) : some g ≠ v.ownBlock := by
  intro hg
  rcases h.2 with ⟨rfl, h0⟩ | ⟨g', cap, cur, rfl, _, hgg, _⟩
  · simp [Value.ownBlock] at hg
  · simp [Value.ownBlock] at hg
    subst hg
    unfold Whole at hr
    rw [hr] at hgg
    injection hgg with hgg
    injection hgg with _ h2
    exact ht h2
def cellsS (A : Nat → Option Addr) (C : Nat → Nat) (n j : Nat) : List Value := (List.range j).map fun i => .slice (A i) n (C i)
theorem cellsS_next (A : Nat → Option Addr) (C : Nat → Nat) (n j : Nat) (ao : Option Addr) (c : Nat) : cellsS (fun i => if i = j then ao else A i) (fun i => if i = j then c else C i) n (j + 1) = cellsS A C n j ++ [.slice ao n c] := by
  unfold cellsS
  rw [List.range_succ, List.map_append]
  congr 1
  · apply List.map_congr_left
    intro i hi
    have : i < j := by simpa using hi
    have hne : ¬ i = j := by omega
    simp only [hne, if_false]
  · simp
theorem cell_made (w : World) (x : Value) (t : TypeId) {g : Nat} (hg : g = w.heap.size) : (w.alloc (.cells #[x] t)).cell? ⟨g, 0, none⟩ = some x := by
  subst hg; exact (Whole.made w t #[x]).cell 0
set_option maxHeartbeats 1000000 in
theorem l02WordsO_any (g : Nat) (k : Int) (a b n : Nat) (w : World) (hk : 0 ≤ k ∧ k ≤ 3) (ha : a < 18446744073709551616) (hb : b < 18446744073709551616) (hn : n ≤ 256) (hw : Whole w g 28 (sdC k a b)) :
    Calls Try.prog 62 #[.pointer (some ⟨g, 0, none⟩), .int .i64 n] w (fun e w' => ∃ ao c, e = .returned (.slice ao n c) ∧ RowT w' w.heap.size 2 ao (il (wordsL k a b n)) ∧ w.grownBy w' (some g)) := by
  have HK := Lib.hid hk
  have HW := Lib.hid hw
  have hg := hw.lt
  clear hw
  go_enter Try.func62, Try.ntmps62
  go_wp2
  go_loopw [5, 6] (fun v i wr => ∃ j : Nat, j ≤ n ∧ i = .int .i64 j ∧ wr.ownsRow w.heap.size 2 1 v j (il (wordsL k a b j)) ∧ w.grownBy wr (some g) ∧ Whole wr g 28 (sdC k (sdK k a b j).1 (sdK k a b j).2)) (fun _ i _ => n - (intOf i).toNat)
  case atStart => exact ⟨0, Nat.zero_le _, rfl, World.ownsRow_made _ _ _ (Nat.le_refl _) (Nat.zero_le _) rfl, World.grownBy_alloc _ _ _, HW.out.alloc _⟩
  case round =>
    obtain ⟨j, hj, rfl, hown, hgr, hwh⟩ := hrel
    have H := Lib.hid (And.intro hown (And.intro hgr hwh))
    have hs := Lib.hid (sdK_lt k a b j HK.out ha hb)
    have hl : (nxW k (sdK k a b j).1 (sdK k a b j).2 : Int) < 4294967296 := by have := wdK_lt k a b j HK.out; unfold wdK at this; omega
    by_cases hlt : j < n
    · clear hown hgr hwh
      go_wp2_with fail
      refine (l02Next_any _ _ _ _ _ HK.out hs.out.1 hs.out.2 H.out.2.2).mono ?_
      rintro e w2 ⟨rfl, q0, hg2⟩
      have hown2 := H.out.1.kept hg2 (own_ne H.out.1 hg)
      have hgr2 := grown_trans H.out.2.1 hg2
      have H2 := Lib.hid (And.intro hown2 (And.intro hgr2 q0))
      change Hid (_ ∧ _) at H2
      clear hown2 hgr2 q0 hg2 H
      have hz2 : w.heap.size ≤ w2.heap.size := H2.out.2.1.size
      go_wp2_with (at_builtin; refine wpList_app1 rfl _ _ 33 rfl w.heap.size 2 (.int .i64 0) 8 Try.underlying33 (by kernel_rfl) rfl _ j _ rfl (H2.out.1.alloc _) _ _ (.int .i64 (nxW k (sdK k a b j).1 (sdK k a b j).2 : Int)) rfl ?_ rfl ⟨by omega, by omega⟩ ?_ ?_)
      · simp
      · simp; omega
      · intro v' w' hown' hgr'
        have hw3 : Whole w' g 28 (sdC k (sdK k a b (j + 1)).1 (sdK k a b (j + 1)).2) := (H2.out.2.2.alloc _).grown hgr' (own_ne' H2.out.1 hg)
        have hg3 : w.grownBy w' (some g) := grown_more (grown_more H2.out.2.1 (World.grownBy_alloc _ _ none) (fun i hi => by cases hi)) hgr' (own_ge H2.out.1)
        have ho3 : w'.ownsRow w.heap.size 2 1 v' (j + 1) (il (wordsL k a b (j + 1))) := by rw [wordsL_next, il, List.map_append]; exact hown'
        have H3 := Lib.hid (And.intro ho3 (And.intro hg3 hw3))
        clear hown' hgr' hw3 hg3 ho3 H2
        go_wp2
        go_roundw
        case rel => exact ⟨j + 1, by omega, by go_num, H3.out⟩
        case measure => simp [intOf]; omega
    · have E : Hid (j = n) := Lib.hid (by omega)
      clear hown hgr hwh
      go_wp2
      go_ret
      obtain ⟨hown, hgr, hwh⟩ := H.out
      have e' := E.out
      subst e'
      obtain ⟨ao, c, rfl⟩ := own_form hown
      exact ⟨_, _, rfl, own_rowT hown, hgr⟩
set_option maxRecDepth 100000 in
set_option maxHeartbeats 2000000 in
theorem specStreams_in (k : Int) (a b m n : Nat) (w : World) (hv : vSeed k a b = true) (hm : m ≤ 16) (hn : n ≤ 256) (ha : a < 18446744073709551616) (hb : b < 18446744073709551616) :
    Calls Try.prog 15 #[sd k a b, .int .i64 m, .int .i64 n] w (RetLL (strmLL k a b m n) (fun s => .tuple #[s, .bool true]) w) := by
  have HV := Lib.hid hv
  have HK := Lib.hid (vSeed_kind hv)
  have p0 := Lib.hid (Whole.made w 28 (sdC k a b))
  have HD : Hid ((vSeed k a b && decide ((0 : Int) ≤ n ∧ (n : Int) ≤ 256)) = true) := Lib.hid (by rw [hv]; simp; omega)
  have hm0 : (0 : Int) ≤ m := by omega
  have hm1 : (m : Int) ≤ 16 := by omega
  clear hv
  go_enter Try.func15, Try.ntmps15
  go_wp2_with fail
  refine (l02Can_any _ k a b n _ p0.out).mono ?_
  rintro e w1 ⟨rfl, rfl⟩
  rw [HD.out]
  go_wp2_with fail
  refine (l00In_yes _ _ _ hm0 hm1 _).mono ?_
  rintro e w1 ⟨rfl, rfl⟩
  have hHH : Below w.heap.size w (w.alloc (.cells (sdC k a b) 28)) ∧ (w.alloc (.cells (sdC k a b) 28)).heap.size = w.heap.size + 1 := ⟨(Below.refl _ _).alloc (Nat.le_refl _) _, by simp⟩
  have HHH := Lib.hid hHH
  clear hHH HD
  generalize w.alloc (.cells (sdC k a b) 28) = w0 at HHH p0 ⊢
  go_wp2
  go_loopw [8, 9] (fun v iv wr => ∃ (j : Nat) (A : Nat → Option Addr) (G C : Nat → Nat), j ≤ m ∧ iv = .int .i64 j ∧ SRows wr w0.heap.size w.heap.size (some 2) (strmL k a b n) j A G ∧ wr.ownsRow w0.heap.size 33 1 v j (cellsS A C n j) ∧ Whole wr w.heap.size 28 (sdC k a b) ∧ Below w.heap.size w wr ∧ w0.heap.size ≤ wr.heap.size) (fun _ iv _ => m - (intOf iv).toNat)
  case atStart => exact ⟨0, fun _ => none, fun _ => 0, fun _ => 0, Nat.zero_le _, rfl, fun i hi => absurd hi (Nat.not_lt_zero _), World.ownsRow_made _ _ _ (Nat.le_refl _) (Nat.zero_le _) rfl, p0.out.alloc _, HHH.out.1.alloc HHH.out.1.size _, by simp⟩
  case round =>
    obtain ⟨j, A, G, C, hj, rfl, hrows, hown, hseed, hbel, hzw⟩ := hrel
    have H := Lib.hid (And.intro hrows (And.intro hown (And.intro hseed (And.intro hbel hzw))))
    have hzs := hseed.lt
    by_cases hlt : j < m
    · have hlt' : (j : Int) < m := by omega
      clear hrows hown hseed hbel hzw
      go_wp2_with fail
      refine (l02Split_any _ k a b j _ (by omega) ha hb H.out.2.2.1).mono ?_
      rintro e w2 ⟨rfl, hb2⟩
      have HB2 := Lib.hid hb2
      have hz2 := hb2.size
      clear hb2
      go_wp2_with fail
      refine (l02WordsO_any _ k (splA a b j) (splB k a b j) n _ HK.out (splA_lt _ _ _) (splB_lt _ _ _ _) hn (Whole.made w2 28 (sdC k (splA a b j) (splB k a b j)))).mono ?_
      rintro e w3 ⟨ao, c, rfl, hrow, hgr⟩
      have hb3 : Below wr.heap.size wr w3 := Below.grown (HB2.out.alloc hz2 _) hgr (by simp; omega) (by intro i hi; cases hi; exact hz2)
      have HB3 := Lib.hid hb3
      have hz3 := hb3.size
      have HR : Hid (RowT w3 w2.heap.size 2 ao (il (strmL k a b n j))) := Lib.hid (hrow.imp id fun ⟨g, g1, g2⟩ => ⟨g, by simp at g1; omega, g2⟩)
      have ho3 : w3.ownsRow w0.heap.size 33 1 u8 j (cellsS A C n j) := H.out.2.1.kept (grown_below (row := none) hb3) (by cases u8.ownBlock <;> simp)
      have HO3 := Lib.hid ho3
      have hzw := H.out.2.2.2.2
      clear hgr hrow hb3 ho3
      go_wp2_with (at_builtin; refine wpList_app1 rfl _ _ 25 rfl w0.heap.size 33 (.slice none 0 0) 24 Try.underlying25 (by kernel_rfl) rfl _ j _ rfl (HO3.out.alloc _) _ _ (.slice ao n c) rfl ?_ rfl ⟨by omega, by omega⟩ ?_ ?_)
      · exact cell_made _ _ _ rfl
      · simp; omega
      · intro v' w' hown' hgr'
        obtain ⟨h1, h2, h3, h4, h5⟩ := H.out
        have hw0 := HHH.out.2
        have r1 : SRows w3 w0.heap.size w.heap.size (some 2) (strmL k a b n) j A G := h1.grown (grown_below (row := none) HB3.out) (fun i hi => .inr (by simp))
        obtain ⟨G', r2⟩ := r1.add (ao := ao) (by
          rcases HR.out with he | ⟨g, g1, g2, g3, g4⟩
          · left
            have : (il (strmL k a b n j)).length = 0 := by rw [he]; rfl
            rw [il_len] at this
            exact List.eq_nil_of_length_eq_zero this
          · refine .inr ⟨g, by omega, g2, by omega, g3, (fun t ht => by cases ht; exact g4), fun i hi => ?_⟩
            refine (h1 i hi).2.imp id (fun h => ?_)
            have := h.2.1
            omega)
        have r3 := r2.grown (World.grownBy_alloc w3 (.cells #[.slice ao n c] 33) none) (fun i hi => .inr (by simp))
        have r4 := r3.grown hgr' (fun i hi => (r2 i hi).2.imp id (fun h => by
          obtain ⟨cs, hw⟩ := h.2.2.2.1 _ rfl
          exact own_typeW HO3.out hw (by decide)))
        have H4 : Hid (SRows w' w0.heap.size w.heap.size (some 2) (strmL k a b n) (j + 1) (fun i => if i = j then ao else A i) G' ∧ w'.ownsRow w0.heap.size 33 1 v' (j + 1) (cellsS (fun i => if i = j then ao else A i) (fun i => if i = j then c else C i) n (j + 1)) ∧ Whole w' w.heap.size 28 (sdC k a b) ∧ Below w.heap.size w w' ∧ w0.heap.size ≤ w'.heap.size) := Lib.hid (by
          refine ⟨r4, by rw [cellsS_next]; exact hown', ((h3.below HB3.out).alloc _).grown hgr' (fun e => ?_), Below.grown ((Bel_next h4 HB3.out).alloc (by omega) _) hgr' (by simp; omega) (fun i hi => by have := own_ge HO3.out i hi; omega), ?_⟩
          · have := own_ge HO3.out _ e.symm; omega
          · have := hgr'.size; simp at this; omega)
        clear hown' hgr' r1 r2 r3 r4 h1 h2 h3 h4 h5 H HO3 HR
        go_wp2
        go_roundw
        case rel => exact ⟨j + 1, _, G', _, by omega, by go_num, H4.out⟩
        case measure => simp [intOf]; omega
    · have hjm : j = m := by omega
      subst hjm
      obtain ⟨ao8, c8, rfl⟩ := own_form hown
      clear hrows hown hseed hbel hzw
      go_wp2
      go_ret2
      obtain ⟨h1, h2, h3, h4, h5⟩ := H.out
      have hw0 := HHH.out.2
      refine ⟨_, _, by rw [strmLL_len]; rfl, ?_, h4⟩
      rcases h2.2 with ⟨he, h0⟩ | ⟨g', cap, cur, hv, hbg, hgg, hn', hcm, hsz, htk⟩
      · refine .inl ?_
        exact List.eq_nil_of_length_eq_zero (by rw [strmLL_len]; exact h0)
      · injection hv with hv _ _
        subst hv
        refine (h1.rows2 (C := C) (gO' := g') (cur := cur) (t := 33) hgg (fun i hi => ?_) hbg (fun i hi => (h1 i hi).2.imp id (fun h => ?_))).wide (by omega) (Nat.le_refl _)
        · have hc : i < cur.size := by omega
          have hin : i < j * 1 := by omega
          have e : (cellsS A C n j)[i]? = some cur[i] := by rw [← htk, List.getElem?_take_of_lt hin, Array.getElem?_toList, Array.getElem?_eq_getElem hc]
          rw [show cur[i]? = some cur[i] from Array.getElem?_eq_getElem hc, ← e]
          simp [cellsS, hi]
        · obtain ⟨cs, hw⟩ := h.2.2.2.1 _ rfl
          have := own_typeW h2 hw (by decide)
          simp [Value.ownBlock] at this
          exact this
theorem specStreams_no (k : Int) (a b : Nat) (m n : Int) (w : World) (hv : ¬ strmC k a b m n) :
    Calls Try.prog 15 #[sd k a b, .int .i64 m, .int .i64 n] w (RetB (.tuple #[.slice none 0 0, .bool false]) w) := by
  have p0 := Lib.hid (Whole.made w 28 (sdC k a b))
  by_cases h1 : (vSeed k a b && decide ((0 : Int) ≤ n ∧ n ≤ 256)) = true
  · have h2 : ¬ (0 ≤ m ∧ m ≤ 16) := fun h2 => hv (by simp at h1; exact ⟨h1.1, h2, h1.2⟩)
    have HD := Lib.hid h1
    have H2 : Hid (m < 0 ∨ 16 < m) := Lib.hid (by omega)
    clear hv h1 h2
    go_enter Try.func15, Try.ntmps15
    go_wp2_with fail
    refine (l02Can_any _ k a b n _ p0.out).mono ?_
    rintro e w1 ⟨rfl, rfl⟩
    rw [HD.out]
    go_wp2_with fail
    refine (l00In_no _ _ _ H2.out _).mono ?_
    rintro e w1 ⟨rfl, rfl⟩
    go_wp2
    go_ret2
    exact ⟨rfl, (by repeat (first | with_reducible exact Below.refl _ _ | with_reducible exact HBL | with_reducible refine Below.drew ?_ | with_reducible refine Bel_drewN ?_ _ | with_reducible refine Below.alloc ?_ (by first | omega | (simp; done) | (simp; omega)) _ | with_reducible refine Below.setCell ?_ (by first | omega | (simp; done) | (simp; omega)) _))⟩
  · have HD : Hid ((vSeed k a b && decide ((0 : Int) ≤ n ∧ n ≤ 256)) = false) := Lib.hid (by simpa using h1)
    clear hv h1
    go_enter Try.func15, Try.ntmps15
    go_wp2_with fail
    refine (l02Can_any _ k a b n _ p0.out).mono ?_
    rintro e w1 ⟨rfl, rfl⟩
    rw [HD.out]
    go_wp2
    go_ret2
    exact ⟨rfl, (by repeat (first | with_reducible exact Below.refl _ _ | with_reducible exact HBL | with_reducible refine Below.drew ?_ | with_reducible refine Bel_drewN ?_ _ | with_reducible refine Below.alloc ?_ (by first | omega | (simp; done) | (simp; omega)) _ | with_reducible refine Below.setCell ?_ (by first | omega | (simp; done) | (simp; omega)) _))⟩
end Go.Proofs.Ytdnelmmbiccjcaa
