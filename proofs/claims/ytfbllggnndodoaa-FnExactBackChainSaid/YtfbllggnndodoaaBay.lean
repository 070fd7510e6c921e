/- BackChain of the model. -/
import Derived.Test.YtfbllggnndodoaaBac
import Derived.Test.YtfbllggnndodoaaSry
import Derived.Deep.Cut
import Derived.Deep.RegionLaw
import Derived.Deep.RegionHeld3
import Derived.StillTail
namespace Go.Proofs.Ytfbllggnndodoaa
open Go Go.RowKit Fl Vag
set_option linter.unusedVariables false
set_option linter.unusedSimpArgs false
/- XSnk's laws (a copy: a claim has at most 60 texts). -/
section
variable {P : Program} {ops : Array Oper} {Q : Exit → Act → World → Prop} {md : Region.Mode} {S : World → Prop} {n : Nat}
/-- Whatever order is picked from here on, and S holds behind all that is carried out but for the last one, number n. -/
def AnyS (P : Program) (md : Region.Mode) (ops : Array Oper) (Q : Exit → Act → World → Prop) (S : World → Prop) (n : Nat) : Nat → Array Bool → Act → World → Prop
  | 0, listed, a, w => Region.ready md ops listed = [] ∧ Q .normal a w
  | f + 1, listed, a, w => (Region.ready md ops listed = [] → Q .normal a w) ∧
    ∀ i ∈ Region.ready md ops listed, wpOp P ops Q i (fun a' w' => (i < n → S w') ∧ AnyS P md ops Q S n f (listed.setIfInBounds i true) a' w') a w
theorem wpAny_of_AnyS : ∀ (f : Nat) (listed : Array Bool) (a : Act) (w : World), AnyS P md ops Q S n f listed a w → wpAny P md ops Q f listed a w
  | 0, _, _, _, h => h
  | f + 1, _, _, _, h => ⟨h.1, fun i hi => wpOp_mono (fun a' w' h' => wpAny_of_AnyS f _ a' w' h'.2) (h.2 i hi)⟩
theorem AnyS.done {f : Nat} {listed : Array Bool} {a : Act} {w : World} (hr : Region.ready md ops listed = []) (h : Q .normal a w) : AnyS P md ops Q S n f listed a w := by
  cases f with
  | zero => exact ⟨hr, h⟩
  | succ f => exact ⟨fun _ => h, fun i hi => by rw [hr] at hi; cases hi⟩
theorem AnyS.first {i : Nat} {oi : Oper} {v : Value} (hi : ops[i]? = some oi) (hsel : ∀ (j : Nat) (o : Oper) cs b, ops[j]? = some o → o.op ≠ .select cs b)
    (hQ : ∀ c a w, Q (.panic c) (a.put oi.dst v) w → Q (.panic c) a w) (hs : Region.sinkB md ops n = true) (hc : Region.chainB md ops n = true) (hn : n < ops.size) (hin : i < n) :
    ∀ (f : Nat) (listed : Array Bool) (a : Act) (w : World), HeadInv md ops n listed →
      (∀ j oj, ops[j]? = some oj → j ≠ i → listed.getD j true = false → (∀ e ∈ oj.after, Region.binds md e = true → e.on ≠ i) → oi.apart ops oj = true) →
      i ∈ Region.ready md ops listed → YieldsIf P ops S oi v a → S w →
      AnyS P md ops Q S n f (listed.setIfInBounds i true) (a.put oi.dst v) w → AnyS P md ops Q S n (f + 1) listed a w := by
  intro f
  induction f with
  | zero =>
    intro listed a w inv _ hr hy hS H
    have hun := (mem_ready.1 hr).1
    refine ⟨fun h => (by rw [h] at hr; cases hr), fun j hj => ?_⟩
    by_cases hji : j = i
    · subst hji; exact hy.wpOp hi hS ⟨fun _ => hS, H⟩
    · have h2 := ready_mono hj hji
      rw [H.1] at h2
      cases h2
  | succ f ih =>
    intro listed a w inv hfree hr hy hS H
    have hun := (mem_ready.1 hr).1
    refine ⟨fun h => (by rw [h] at hr; cases hr), fun j hj => ?_⟩
    by_cases hji : j = i
    · subst hji; exact hy.wpOp hi hS ⟨fun _ => hS, H⟩
    · have hjn : j < n := by
        rcases Nat.lt_or_ge j n with h | h
        · exact h
        · exact absurd hj (tail_waits hs hc hn inv _ i rfl hin hun j h)
      have h1 := H.2 j (ready_mono hj hji)
      obtain ⟨hjun, oj, hoj, hall⟩ := mem_ready.1 hj
      have hnot : ∀ e ∈ oj.after, Region.binds md e = true → e.on ≠ i := fun e he hb heq => by
        have h1 := hall e he hb
        rw [heq, getD_both hun] at h1
        cases h1
      have h2 := wpOp_putIf hoj (hfree j oj hoj hji hjun hnot) (fun cs b => hsel i oi cs b hi) (fun cs b => hsel j oj cs b hoj) hQ hy h1
      have hfree' : ∀ k ok, ops[k]? = some ok → k ≠ i → (listed.setIfInBounds j true).getD k true = false →
          (∀ e ∈ ok.after, Region.binds md e = true → e.on ≠ i) → oi.apart ops ok = true := fun k ok hk hki hun hno => by
        refine hfree k ok hk hki ?_ hno
        by_cases hjk : j = k
        · subst hjk; exact hjun
        · rw [getD_set_ne true hjk] at hun; exact hun
      refine wpOp_mono (fun a' w' h3 => ⟨h3.2.1, ih (listed.setIfInBounds j true) a' w' (inv.set hj hjn) hfree' (ready_mono hr (Ne.symm hji)) h3.1 (h3.2.1 hjn) ?_⟩) h2
      rw [Array.setIfInBounds_comm _ _ hji]
      exact h3.2.2
/-- The same, under what is kept of the operations that have come up. -/
def AnyI (P : Program) (md : Region.Mode) (ops : Array Oper) (Q : Exit → Act → World → Prop) (S : World → Prop) (n f : Nat) (listed : Array Bool) (a : Act) (w : World) : Prop :=
  HeadInv md ops n listed → AnyS P md ops Q S n f listed a w
/-- What the region's listing must meet. -/
def sinkAll (md : Region.Mode) (ops : Array Oper) (n : Nat) : Bool := Region.noSelect ops && Region.sinkB md ops n && Region.chainB md ops n && decide (n < ops.size)
theorem sinkAll_spec (h : sinkAll md ops n = true) : Region.noSelect ops = true ∧ Region.sinkB md ops n = true ∧ Region.chainB md ops n = true ∧ n < ops.size := by
  unfold sinkAll at h; simp only [Bool.and_eq_true, decide_eq_true_eq] at h; exact ⟨h.1.1.1, h.1.1.2, h.1.2, h.2⟩
/-- Take number i first: it yields v in every world that meets S. -/
theorem AnyI.take {i : Nat} {oi : Oper} {v : Value} {f : Nat} {listed : Array Bool} {a : Act} {w : World} (hB : sinkAll md ops n = true) (hi : ops[i]? = some oi)
    (hf : Region.free md ops listed i = true) (hr : ((Region.ready md ops listed).contains i && decide (i < n)) = true)
    (hQ : ∀ c a w, Q (.panic c) (a.put oi.dst v) w → Q (.panic c) a w) (hy : YieldsIf P ops S oi v a) (hS : S w)
    (h : AnyI P md ops Q S n f (listed.setIfInBounds i true) (a.put oi.dst v) w) : AnyI P md ops Q S n (f + 1) listed a w := fun inv => by
  obtain ⟨b1, b2, b3, b4⟩ := sinkAll_spec hB
  simp only [Bool.and_eq_true, decide_eq_true_eq] at hr
  have hr1 : i ∈ Region.ready md ops listed := by simpa using hr.1
  exact AnyS.first hi (Region.noSelect_spec b1) hQ b2 b3 b4 hr.2 f listed a w inv (Region.free_spec hi hf) hr1 hy hS (h (inv.set hr1 hr.2))
/-- Number i alone may come up: behind it S is to be shown. -/
theorem AnyI.one {i : Nat} {o : Oper} {f : Nat} {listed : Array Bool} {a : Act} {w : World} (hr : Region.ready md ops listed = [i]) (hin : i < n) (ho : ops[i]? = some o)
    (h : ∀ K' : Act → World → Prop, Shut (∀ a w, S w → (S w → AnyI P md ops Q S n f (listed.setIfInBounds i true) a w) → K' a w) → if Region.wanted o (yielded ops a.tmps) = true then Oper.wp P o a w K' Q else K' (a.put o.dst undef) w) :
    AnyI P md ops Q S n (f + 1) listed a w := fun inv => by
  refine ⟨fun h0 => (by rw [hr] at h0; cases h0), fun j hj => ?_⟩
  have hji : j = i := by rw [hr] at hj; simpa using hj
  subst hji
  exact wpOp_step ho (fun K' hK => h K' (fun a w hS hW => hK a w ⟨fun _ => hS, hW hS (inv.set hj hin)⟩))
/-- The last one comes up. -/
theorem AnyI.last {o : Oper} {f : Nat} {listed : Array Bool} {a : Act} {w : World} (hr : Region.ready md ops listed = [n]) (hr2 : Region.ready md ops (listed.setIfInBounds n true) = []) (ho : ops[n]? = some o)
    (h : ∀ K' : Act → World → Prop, Shut (∀ a w, Q .normal a w → K' a w) → if Region.wanted o (yielded ops a.tmps) = true then Oper.wp P o a w K' Q else K' (a.put o.dst undef) w) :
    AnyI P md ops Q S n (f + 1) listed a w := fun inv => by
  refine ⟨fun h0 => (by rw [hr] at h0; cases h0), fun j hj => ?_⟩
  have hji : j = n := by rw [hr] at hj; simpa using hj
  subst hji
  exact wpOp_step ho (fun K' hK => h K' (fun a w hq => hK a w ⟨fun h0 => absurd h0 (Nat.lt_irrefl _), AnyS.done hr2 hq⟩))
/-- The beginning: S is shown of the world behind the draw. -/
theorem wp_region_sink {id : Nat} {a : Act} {w : World} (n : Nat) (hm : P.follows .mixedOrders = true) (hS : S w.drew)
    (h : S w.drew → AnyI P .any ops Q S n ops.size (Array.replicate ops.size false) a w.drew) : (Code.region id ops true).wp P Q a w := by
  refine wp_region_any hm (wpAny_of_AnyS (S := S) (n := n) _ _ _ _ (h hS ⟨by simp, fun j oj _ hl => (by rw [getD_replicate_false] at hl; cases hl), fun t _ ht => getD_in (by simpa using ht) (getD_replicate_false _ _)⟩))
end
theorem av_one32 : av .f32 1065353216 = some 1065353216 := by decide +kernel
theorem run_num {P : Program} {op : BinOp} {t : TypeId} {k : FloatKind} {x y r : Nat} (hop : isArith op = true) (h : bop op k x y = some r) (w : World) : (binOp op t (.float k x) (.float k y)).run P w = .ok (.float k r) w := by
  have hb : binOp op t (.float k x) (.float k y) = Op.floatArith op k x y := by
    cases op <;> simp [isArith] at hop <;> simp [binOp]
  rw [hb]
  unfold bop at h
  cases op <;> simp only [isArith] at hop h <;> first | (cases hop; done) | skip
  all_goals simp [Op.floatArith, h]
/-- A number that is finite, and one that is. -/
theorem part_fin {z : Nat} (h : partB z = true) : finA .f32 (av .f32 z) = true := by
  have ha := part_num h
  have h2 : leB z 1065353216 = true := by unfold partB at h; simp only [Bool.and_eq_true] at h; exact h.2
  rw [ha]
  show (!(Ieee.single.read z).isInfinity) = true
  rcases read_all z with ⟨s, m, i, e, _⟩ | ⟨s, e⟩ | ⟨s, f, e⟩
  · rw [e]; rfl
  · exfalso
    have hg := part_ge h
    cases s with
    | true =>
      rw [geB_K ha av_zero32] at hg
      have e1 : fK z = -big := by unfold fK; rw [e]; rfl
      have e2 : ¬ (fK 0 ≤ -big) := by decide +kernel
      rw [e1] at hg
      exact e2 (of_decide_eq_true hg)
    | false =>
      rw [leB_K ha av_one32] at h2
      have e1 : fK z = big := by unfold fK; rw [e]; rfl
      have e2 : ¬ (big ≤ fK 1065353216) := by decide +kernel
      rw [e1] at h2
      exact e2 (of_decide_eq_true h2)
  · rw [e]; rfl
theorem num_read {x : Nat} (h : finA .f32 (av .f32 x) = true) : ∃ s m i, Ieee.single.read x = .number s m i := fin_read h
theorem gt_read {y : Nat} (hf : finA .f32 (av .f32 y) = true) (h : gtB y 0 = true) : ∃ s m i, Ieee.single.read y = .number s m i ∧ m ≠ 0 := by
  obtain ⟨s, m, i, e⟩ := fin_read hf
  refine ⟨s, m, i, e, fun h0 => ?_⟩
  unfold gtB at h
  rw [ord0_num e, if_pos h0] at h
  cases h
/-- A product of finite numbers, divided by one that is not 0, is a number. -/
theorem bac_num {x z y : Nat} (hx : finA .f32 (av .f32 x) = true) (hz : finA .f32 (av .f32 z) = true) (hy : finA .f32 (av .f32 y) = true) (hg : gtB y 0 = true) :
    ∃ p q, bop .mul .f32 x z = some p ∧ bop .quo .f32 p y = some q ∧ bacP x z y = some q := by
  obtain ⟨s, m, i, ex⟩ := fin_read hx
  obtain ⟨s', m', i', ez⟩ := fin_read hz
  obtain ⟨t, n, j, ey, hn⟩ := gt_read hy hg
  have hm : bop .mul .f32 x z = some (Ieee.single.write (.number (s ^^ s') (m * m') (i + i'))) := by
    show ((Ieee.single.read x).product (Ieee.single.read z)).map Ieee.single.write = _
    rw [ex, ez]; rfl
  refine ⟨Ieee.single.write (.number (s ^^ s') (m * m') (i + i')), ?_⟩
  have hp : ∃ q, bop .quo .f32 (Ieee.single.write (.number (s ^^ s') (m * m') (i + i'))) y = some q := by
    show ∃ q, ((Ieee.single.read _).quotient (Ieee.single.fractionBits + 2) (Ieee.single.read y)).map Ieee.single.write = some q
    rw [ey]
    have hnn := read_write Ieee.single (.number (s ^^ s') (m * m') (i + i')) rfl
    cases hr : Ieee.single.read (Ieee.single.write (.number (s ^^ s') (m * m') (i + i'))) with
    | nan _ _ => rw [hr] at hnn; cases hnn
    | infinity u => exact ⟨_, rfl⟩
    | number u k l =>
      simp only [Ieee.Datum.quotient]
      rw [if_neg hn]
      exact ⟨_, rfl⟩
  obtain ⟨q, hq⟩ := hp
  refine ⟨q, hm, hq, ?_⟩
  unfold bacP
  rw [aop_bop, hm, ← av_some (k := .f32) (bop_notNaN hm), aop_bop]; exact hq
set_option maxRecDepth 100000 in
set_option maxHeartbeats 4000000 in
theorem specBac_yes (s : Int) (ss xs : List Nat) (m k : Nat) (hm : ss.length = m) (hk : xs.length = k) (ao bo : Option Addr) (c d : Nat) (w : World) (hs : Holds w ao (fl .f32 ss)) (hx : Holds w bo (fl .f32 xs)) (hlen : m ≤ 1048576) (hlk : k ≤ 1048576) (hC : weighed s ss xs) :
    ∃ n : Nat, s = n ∧ m = n * n ∧ Calls Try.prog 45 #[.agg #[.int .i64 s, .slice ao m c], .slice bo k d] w (ChR n (n * n) (bacG n ss xs) w) := by
  obtain ⟨n, rfl, n1, n2, n3, n4, n5, n6⟩ := hC.1.nat
  obtain rfl : k = n := by omega
  obtain ⟨b, o, rfl⟩ := hs.at (by rw [fl_len32, n3]; exact Nat.mul_pos n1 n1)
  obtain ⟨b', o', rfl⟩ := hx.at (by rw [fl_len32]; omega)
  refine ⟨k, rfl, by rw [← hm]; exact n3, ?_⟩
  have HX := Lib.hid (And.intro hs (And.intro hx (And.intro hm (And.intro hk (And.intro n3 hC)))))
  have HN := Lib.hid (And.intro (show ∀ i, i < k → finA .f32 (av .f32 (xs[i]?.getD 0)) = true ∧ gtB (xs[i]?.getD 0) 0 = true from fun i hi => ⟨least_fins hC.1.2.1.2 i (by omega), hC.2 i (by omega)⟩) (show ∀ j, j < m → finA .f32 (av .f32 (ss[j]?.getD 0)) = true from fun j hj => part_fin (hC.1.1.num (by omega))))
  have hn12 : (k : Int) ≤ 12 := by omega
  have hm144 : m ≤ 144 := by have := sq_le n2; omega
  obtain ⟨i8, hi8, hi1, hi2, hi3⟩ := info_parts (show (Try.prog.info? 32).map (fun i => (i.zero, i.size, i.bytes)) = some (some (.float .f32 0), 1, 4) by kernel_rfl)
  have HI := Lib.hid (And.intro hi8 (And.intro hi1 (And.intro hi2 hi3)))
  clear hi8 hi1 hi2 hi3 hs hx hm hk n3 n4 n5 n6 hC
  go_enter Try.func45, Try.ntmps45
  go_wp2_with (first | (go_at_call 64; fail))
  generalize hW : World.alloc (World.alloc _ _) _ = w0
  have H0 : Hid (Whole w0 w.heap.size 27 #[.int .i64 k, .slice (some ⟨b, o, none⟩) m c] ∧ Whole w0 (w.heap.size + 1) 27 #[.int .i64 0, .slice none 0 0] ∧ Below w.heap.size w w0 ∧ w0.heap.size = w.heap.size + 2) := Lib.hid (by rw [← hW]; exact ⟨(Whole.made _ _ _).alloc _, Whole.made2 _ _ _ _, (by repeat (first | with_reducible exact Below.refl _ _ | with_reducible exact HBL | with_reducible refine Below.drew ?_ | with_reducible refine Bel_drewN ?_ _ | with_reducible refine Below.alloc ?_ (by first | omega | (simp; done) | (simp; omega)) _ | with_reducible refine Below.setCell ?_ (by first | omega | (simp; done) | (simp; omega)) _)), by simp⟩)
  clear hW
  refine ((l07Fits_any k ss xs m k HX.out.2.2.1 HX.out.2.2.2.1 _ _ c d _ _ H0.out.1 (HX.out.1.below H0.out.2.2.1) (HX.out.2.1.below H0.out.2.2.1) hlen hlk).mono fun e w1 h => BoD.yes HX.out.2.2.2.2.2.1 h).mono ?_
  rintro e w1 ⟨q, rfl, rfl⟩
  go_wp2_with (first | (go_at_call 81; fail))
  refine (l07Above_any xs k HX.out.2.2.2.1 _ d _ (HX.out.2.1.below (Bel_drewN H0.out.2.2.1 q)) hlk).mono ?_
  rintro e w' ⟨b2, rfl, hb2, rfl⟩
  obtain rfl : b2 = true := hb2.2 HX.out.2.2.2.2.2.2
  clear hb2
  obtain ⟨wq, hwq⟩ : ∃ wq, wq = w0.drewN q := ⟨_, rfl⟩
  have H1 := Lib.hid (show Whole wq w.heap.size 27 #[.int .i64 k, .slice (some ⟨b, o, none⟩) m c] ∧ Whole wq (w.heap.size + 1) 27 #[.int .i64 0, .slice none 0 0] ∧ Below w.heap.size w wq ∧ wq.heap.size = w.heap.size + 2 from by rw [hwq]; exact ⟨H0.out.1.drewN q, H0.out.2.1.drewN q, Bel_drewN H0.out.2.2.1 q, H0.out.2.2.2⟩)
  rw [← hwq]
  obtain ⟨hc0, hf0⟩ := H1.out.1.facts
  have hz1 := H1.out.2.1.lt
  clear hwq H0
  go_wp2_with fail
  clear hc0 hf0 hz1
  have hsz := H1.out.2.2.2
  rw [hsz]
  clear hsz
  generalize hW : World.alloc _ _ = w5
  have H5 : Hid (Whole w5 w.heap.size 27 #[.int .i64 k, .slice (some ⟨b, o, none⟩) m c] ∧ Whole w5 (w.heap.size + 1) 27 #[.int .i64 0, .slice none 0 0] ∧ Whole w5 (w.heap.size + 2) 27 #[.int .i64 k, .slice none 0 0] ∧ Below w.heap.size w w5) := Lib.hid (by
    rw [← hW]
    have h := Whole.made wq 27 #[.int .i64 k, .slice none 0 0]
    rw [H1.out.2.2.2] at h
    exact ⟨H1.out.1.alloc _, H1.out.2.1.alloc _, h, H1.out.2.2.1.alloc (by have := H1.out.2.2.2; omega) _⟩)
  clear hW H1
  go_loopw [23] (fun i wr => ∃ (a : Nat) (v : Value) (ds : List Nat), a ≤ k ∧ i = .int .i64 a ∧ ds.length = a * k ∧ (∀ t, t < a * k → av .f32 (ds[t]?.getD 0) = bacG k ss xs t) ∧ wr.ownsRow (w.heap.size + 3) 32 1 v (a * k) (fl .f32 ds) ∧ Whole wr w.heap.size 27 #[.int .i64 k, .slice (some ⟨b, o, none⟩) m c] ∧ Whole wr (w.heap.size + 1) 27 #[.int .i64 0, .slice none 0 0] ∧ Whole wr (w.heap.size + 2) 27 #[.int .i64 k, v] ∧ Below w.heap.size w wr) (fun i _ => k - (intOf i).toNat)
  case atStart => exact ⟨0, _, [], Nat.zero_le _, rfl, by simp, fun j hj => absurd hj (by simp), by rw [Nat.zero_mul]; exact World.ownsRow_nil _ _ _ _, H5.out⟩
  case round =>
    obtain ⟨a, v, ds, ha, rfl, hdl, hds, hown, hrest⟩ := hrel
    have H := Lib.hid (And.intro hdl (And.intro hds (And.intro hown hrest)))
    have han : (a : Int) ≤ k := by omega
    clear hdl hds hown hrest H5
    by_cases hlt : a < k
    · have hlt' : (a : Int) < k := by omega
      go_wp2_with fail
      rename World => wa
      go_loopw [28] (fun x wr => ∃ (e : Nat) (v : Value) (ds : List Nat), e ≤ k ∧ x = .int .i64 e ∧ ds.length = a * k + e ∧ (∀ t, t < a * k + e → av .f32 (ds[t]?.getD 0) = bacG k ss xs t) ∧ wr.ownsRow (w.heap.size + 3) 32 1 v (a * k + e) (fl .f32 ds) ∧ Whole wr w.heap.size 27 #[.int .i64 k, .slice (some ⟨b, o, none⟩) m c] ∧ Whole wr (w.heap.size + 1) 27 #[.int .i64 0, .slice none 0 0] ∧ Whole wr (w.heap.size + 2) 27 #[.int .i64 k, v] ∧ Below w.heap.size w wr) (fun x _ => k - (intOf x).toNat)
      case atStart => exact ⟨0, v, ds, Nat.zero_le _, rfl, H.out⟩
      case round =>
        obtain ⟨e, v2, es, he, rfl, hdl, hds, hown, q0, q1, q2, hbel⟩ := hrel
        have H2 := Lib.hid (And.intro hdl (And.intro hds (And.intro hown (And.intro q0 (And.intro q1 (And.intro q2 hbel))))))
        have hen : (e : Int) ≤ k := by omega
        clear hdl hds hown H
        by_cases hlt2 : e < k
        · have hlt2' : (e : Int) < k := by omega
          obtain ⟨d1, d2⟩ := div_at (i := a) hlt2
          have hin2 := row_in hlt2
          obtain ⟨ek, hek⟩ : ∃ z, e * k = z := ⟨_, rfl⟩
          obtain ⟨f, hf⟩ : ∃ f, ek + a = f := ⟨_, rfl⟩
          have hkk : m = k * k := by rw [← HX.out.2.2.1]; exact HX.out.2.2.2.2.1
          have hfm : f < m := by omega
          have HG : Hid (bacG k ss xs (a * k + e) = bacP (xs[e]?.getD 0) (ss[f]?.getD 0) (xs[a]?.getD 0)) := Lib.hid (by unfold bacG; rw [d1, d2, hek, hf])
          have hw1 : IntKind.i64.wrap ((e : Int) * (k : Int)) = (ek : Int) := by rw [← Int.natCast_mul, hek, IntKind.wrap_i64]; omega
          have hw2 : IntKind.i64.wrap ((ek : Int) + (a : Int)) = (f : Int) := by rw [IntKind.wrap_i64]; omega
          have g1 : (f : Int) < (m : Int) := by omega
          obtain ⟨b2, o2, e', hcs⟩ := (HX.out.1.below hbel) f (by rw [fl_len32, HX.out.2.2.1]; exact hfm)
          cases e'
          rw [fl_get _ _ _ (by rw [HX.out.2.2.1]; exact hfm)] at hcs
          obtain ⟨b2, o2, e', hce⟩ := (HX.out.2.1.below hbel) e (by rw [fl_len32, HX.out.2.2.2.1]; exact hlt2)
          cases e'
          rw [fl_get _ _ _ (by rw [HX.out.2.2.2.1]; exact hlt2)] at hce
          obtain ⟨b2, o2, e', hca⟩ := (HX.out.2.1.below hbel) a (by rw [fl_len32, HX.out.2.2.2.1]; exact hlt)
          cases e'
          rw [fl_get _ _ _ (by rw [HX.out.2.2.2.1]; exact hlt)] at hca
          obtain ⟨p, r, hp, hr, hpr⟩ := bac_num (HN.out.1 e hlt2).1 (HN.out.2 f hfm) (HN.out.1 a hlt).1 (HN.out.1 a hlt).2
          have HV : Hid (av .f32 r = bacG k ss xs (a * k + e)) := Lib.hid (by rw [HG.out, hpr]; exact av_some (k := .f32) (bop_notNaN hr))
          clear hpr HG
          generalize ss[f]?.getD 0 = z at hcs hp
          generalize xs[e]?.getD 0 = x at hce hp
          generalize xs[a]?.getD 0 = y at hca hr
          have m1 : ∀ w, (binOp .mul 32 (.float .f32 x) (.float .f32 z)).run Try.prog w = .ok (.float .f32 p) w := fun w => run_num rfl hp w
          have m2 : ∀ w, (binOp .quo 32 (.float .f32 p) (.float .f32 y)).run Try.prog w = .ok (.float .f32 r) w := fun w => run_num rfl hr w
          have hc0 := q0.cell 0
          have hc1 := q0.cell 1
          have hc2 := q2.cell 1
          have hf2 := q2.frozen 1
          have hz2 := q2.lt
          have HA : Hid ((wr.drew.alloc (.cells #[.float .f32 r] 32)).ownsRow (w.heap.size + 3) 32 1 v2 (a * k + e) (fl .f32 es) ∧ (∀ (j : Nat) (u : Value), [Value.float .f32 r][j]? = some u → (wr.drew.alloc (.cells #[.float .f32 r] 32)).cell? ((⟨wr.heap.size, 0, none⟩ : Addr).add j) = some u) ∧ (∀ u ∈ [Value.float .f32 r], u.oneCell' = true) ∧ w.heap.size + 3 ≤ (wr.drew.alloc (.cells #[.float .f32 r] 32)).heap.size ∧ (wr.drew.alloc (.cells #[.float .f32 r] 32)).heap.size = wr.heap.size + 1) := Lib.hid ⟨H2.out.2.2.1.drew.alloc _, World.news_of_block (Whole.made wr.drew 32 #[.float .f32 r]), (by intro u hu; rw [List.mem_singleton] at hu; subst hu; rfl), (by have := q2.lt; simp; omega), (by simp)⟩
          have hkj : a * k + e < 144 := by have h1 := sq_pos hlt hlt2; have h2 := sq_le n2; omega
          obtain ⟨qq, hqq⟩ : ∃ q, q = a * k + e := ⟨_, rfl⟩
          rw [← hqq] at HA hkj HV
          have HQ := Lib.hid hqq
          have hq1 : qq + 1 ≤ maxLen := by unfold maxLen; omega
          have hq2 : (qq + 1) * 4 ≤ 140737488355328 := by omega
          have HB := Lib.hid (And.intro q0 (And.intro q1 q2))
          have ag0 : v2.ownBlock ≠ some (w.heap.size + 2) := fun h => own_ne' H2.out.2.2.1 (by omega) h.symm
          have ag1 : v2.ownBlock ≠ some w.heap.size := fun h => own_ne' H2.out.2.2.1 (by omega) h.symm
          have hbs : b < w.heap.size := by
            obtain ⟨b2, o2, e2, hh⟩ := HX.out.1 f (by rw [fl_len32, HX.out.2.2.1]; exact hfm)
            cases e2; exact World.block_lt_of_cell? _ _ hh
          have hbx : b' < w.heap.size := by
            obtain ⟨b2, o2, e2, hh⟩ := HX.out.2.1 a (by rw [fl_len32, HX.out.2.2.2.1]; exact hlt)
            cases e2; exact World.block_lt_of_cell? _ _ hh
          have ag2 : v2.ownBlock ≠ some b := fun h => own_ne' H2.out.2.2.1 (by omega) h.symm
          have ag3 : v2.ownBlock ≠ some b' := fun h => own_ne' H2.out.2.2.1 (by omega) h.symm
          have hbel3 := hbel.size
          clear hqq d1 d2 hin2 hek hf hkk hfm hp hr hbel q0 q1 q2
          go_wp2_with fail
          refine wp_region_sink (S := (fun v => v.cell? ⟨w.heap.size, 0, none⟩ = some (.int .i64 k) ∧ v.cell? ⟨w.heap.size, 1, none⟩ = some (.slice (some ⟨b, o, none⟩) m c) ∧ v.cell? ⟨w.heap.size + 2, 1, none⟩ = some v2 ∧ v.cell? ⟨b, o + f, none⟩ = some (.float .f32 z) ∧ v.cell? ⟨b', o' + e, none⟩ = some (.float .f32 x) ∧ v.cell? ⟨b', o' + a, none⟩ = some (.float .f32 y))) 25 (by kernel_rfl) ⟨hc0, hc1, hc2, hcs, hce, hca⟩ (fun hHeld => ?_)
          refine AnyI.take (i := 0) (v := ?snkv0) (by kernel_rfl) rfl (by kernel_rfl) (by kernel_rfl) (fun _ _ _ h => h) (Or.inl ⟨by rfl, ?snky0⟩) (by assumption) ?snkr0
          case snky0 => (intro w hSw; (try dsimp only at hSw); go_simp; (try with_reducible rfl))
          try simp only [Act.put, List.setIfInBounds_toArray, List.set_cons_zero, List.set_cons_succ]
          refine AnyI.take (i := 1) (v := ?snkv1) (by kernel_rfl) rfl (by kernel_rfl) (by kernel_rfl) (fun _ _ _ h => h) (Or.inl ⟨by rfl, ?snky1⟩) (by assumption) ?snkr1
          case snky1 => (intro w hSw; (try dsimp only at hSw); go_simp; (try with_reducible rfl))
          try simp only [Act.put, List.setIfInBounds_toArray, List.set_cons_zero, List.set_cons_succ]
          refine AnyI.take (i := 2) (v := ?snkv2) (by kernel_rfl) rfl (by kernel_rfl) (by kernel_rfl) (fun _ _ _ h => h) (Or.inl ⟨by rfl, ?snky2⟩) (by assumption) ?snkr2
          case snky2 => (intro w hSw; (try dsimp only at hSw); go_simp; (try with_reducible rfl))
          try simp only [Act.put, List.setIfInBounds_toArray, List.set_cons_zero, List.set_cons_succ]
          refine AnyI.take (i := 3) (v := ?snkv3) (by kernel_rfl) rfl (by kernel_rfl) (by kernel_rfl) (fun _ _ _ h => h) (Or.inl ⟨by rfl, ?snky3⟩) (by assumption) ?snkr3
          case snky3 => (intro w hSw; (try dsimp only at hSw); go_simp; (try with_reducible rfl))
          try simp only [Act.put, List.setIfInBounds_toArray, List.set_cons_zero, List.set_cons_succ]
          refine AnyI.take (i := 4) (v := ?snkv4) (by kernel_rfl) rfl (by kernel_rfl) (by kernel_rfl) (fun _ _ _ h => h) (Or.inl ⟨by rfl, ?snky4⟩) (by assumption) ?snkr4
          case snky4 => (intro w hSw; (try dsimp only at hSw); go_simp; (try with_reducible rfl))
          try simp only [Act.put, List.setIfInBounds_toArray, List.set_cons_zero, List.set_cons_succ]
          refine AnyI.take (i := 5) (v := ?snkv5) (by kernel_rfl) rfl (by kernel_rfl) (by kernel_rfl) (fun _ _ _ h => h) (Or.inl ⟨by rfl, ?snky5⟩) (by assumption) ?snkr5
          case snky5 => (intro w hSw; (try dsimp only at hSw); go_simp; (try with_reducible rfl))
          try simp only [Act.put, List.setIfInBounds_toArray, List.set_cons_zero, List.set_cons_succ]
          refine AnyI.take (i := 6) (v := ?snkv6) (by kernel_rfl) rfl (by kernel_rfl) (by kernel_rfl) (fun _ _ _ h => h) (Or.inl ⟨by rfl, ?snky6⟩) (by assumption) ?snkr6
          case snky6 => (intro w hSw; (try dsimp only at hSw); go_simp; (try with_reducible rfl))
          try simp only [Act.put, List.setIfInBounds_toArray, List.set_cons_zero, List.set_cons_succ]
          refine AnyI.take (i := 7) (v := ?snkv7) (by kernel_rfl) rfl (by kernel_rfl) (by kernel_rfl) (fun _ _ _ h => h) (Or.inl ⟨by rfl, ?snky7⟩) (by assumption) ?snkr7
          case snky7 => (intro w hSw; (try dsimp only at hSw); go_simp; (try with_reducible rfl))
          try simp only [Act.put, List.setIfInBounds_toArray, List.set_cons_zero, List.set_cons_succ]
          refine AnyI.take (i := 8) (v := ?snkv8) (by kernel_rfl) rfl (by kernel_rfl) (by kernel_rfl) (fun _ _ _ h => h) (Or.inl ⟨by rfl, ?snky8⟩) (by assumption) ?snkr8
          case snky8 => (intro w hSw; (try dsimp only at hSw); go_simp; (try with_reducible rfl))
          try simp only [Act.put, List.setIfInBounds_toArray, List.set_cons_zero, List.set_cons_succ]
          refine AnyI.take (i := 9) (v := ?snkv9) (by kernel_rfl) rfl (by kernel_rfl) (by kernel_rfl) (fun _ _ _ h => h) (Or.inl ⟨by rfl, ?snky9⟩) (by assumption) ?snkr9
          case snky9 => (intro w hSw; (try dsimp only at hSw); go_simp; (try with_reducible rfl))
          try simp only [Act.put, List.setIfInBounds_toArray, List.set_cons_zero, List.set_cons_succ]
          refine AnyI.take (i := 10) (v := ?snkv10) (by kernel_rfl) rfl (by kernel_rfl) (by kernel_rfl) (fun _ _ _ h => h) (Or.inl ⟨by rfl, ?snky10⟩) (by assumption) ?snkr10
          case snky10 => (intro w hSw; (try dsimp only at hSw); go_simp; (try with_reducible rfl))
          try simp only [Act.put, List.setIfInBounds_toArray, List.set_cons_zero, List.set_cons_succ]
          refine AnyI.take (i := 11) (v := ?snkv11) (by kernel_rfl) rfl (by kernel_rfl) (by kernel_rfl) (fun _ _ _ h => h) (Or.inl ⟨by rfl, ?snky11⟩) (by assumption) ?snkr11
          case snky11 => (intro w hSw; (try dsimp only at hSw); go_simp; (try with_reducible rfl))
          try simp only [Act.put, List.setIfInBounds_toArray, List.set_cons_zero, List.set_cons_succ]
          refine AnyI.take (i := 12) (v := ?snkv12) (by kernel_rfl) rfl (by kernel_rfl) (by kernel_rfl) (fun _ _ _ h => h) (Or.inl ⟨by rfl, ?snky12⟩) (by assumption) ?snkr12
          case snky12 => (intro w hSw; (try dsimp only at hSw); go_simp; (try with_reducible rfl))
          try simp only [Act.put, List.setIfInBounds_toArray, List.set_cons_zero, List.set_cons_succ]
          refine AnyI.take (i := 13) (v := ?snkv13) (by kernel_rfl) rfl (by kernel_rfl) (by kernel_rfl) (fun _ _ _ h => h) (Or.inl ⟨by rfl, ?snky13⟩) (by assumption) ?snkr13
          case snky13 => (intro w hSw; (try dsimp only at hSw); go_simp; (try with_reducible rfl))
          try simp only [Act.put, List.setIfInBounds_toArray, List.set_cons_zero, List.set_cons_succ]
          refine AnyI.take (i := 14) (v := ?snkv14) (by kernel_rfl) rfl (by kernel_rfl) (by kernel_rfl) (fun _ _ _ h => h) (Or.inl ⟨by rfl, ?snky14⟩) (by assumption) ?snkr14
          case snky14 => (intro w hSw; (try dsimp only at hSw); go_simp; (try with_reducible rfl))
          try simp only [Act.put, List.setIfInBounds_toArray, List.set_cons_zero, List.set_cons_succ]
          refine AnyI.take (i := 15) (v := ?snkv15) (by kernel_rfl) rfl (by kernel_rfl) (by kernel_rfl) (fun _ _ _ h => h) (Or.inl ⟨by rfl, ?snky15⟩) (by assumption) ?snkr15
          case snky15 => (intro w hSw; (try dsimp only at hSw); go_simp; (try with_reducible rfl))
          try simp only [Act.put, List.setIfInBounds_toArray, List.set_cons_zero, List.set_cons_succ]
          refine AnyI.take (i := 16) (v := ?snkv16) (by kernel_rfl) rfl (by kernel_rfl) (by kernel_rfl) (fun _ _ _ h => h) (Or.inl ⟨by rfl, ?snky16⟩) (by assumption) ?snkr16
          case snky16 => (intro w hSw; (try dsimp only at hSw); go_simp; (try with_reducible rfl))
          try simp only [Act.put, List.setIfInBounds_toArray, List.set_cons_zero, List.set_cons_succ]
          refine AnyI.take (i := 17) (v := ?snkv17) (by kernel_rfl) rfl (by kernel_rfl) (by kernel_rfl) (fun _ _ _ h => h) (Or.inl ⟨by rfl, ?snky17⟩) (by assumption) ?snkr17
          case snky17 => (intro w hSw; (try dsimp only at hSw); go_simp; (try with_reducible rfl))
          try simp only [Act.put, List.setIfInBounds_toArray, List.set_cons_zero, List.set_cons_succ]
          refine AnyI.take (i := 18) (v := ?snkv18) (by kernel_rfl) rfl (by kernel_rfl) (by kernel_rfl) (fun _ _ _ h => h) (Or.inl ⟨by rfl, ?snky18⟩) (by assumption) ?snkr18
          case snky18 => (intro w hSw; (try dsimp only at hSw); go_simp; (try with_reducible rfl))
          try simp only [Act.put, List.setIfInBounds_toArray, List.set_cons_zero, List.set_cons_succ]
          refine AnyI.take (i := 19) (v := ?snkv19) (by kernel_rfl) rfl (by kernel_rfl) (by kernel_rfl) (fun _ _ _ h => h) (Or.inl ⟨by rfl, ?snky19⟩) (by assumption) ?snkr19
          case snky19 => (intro w hSw; (try dsimp only at hSw); go_simp; (try with_reducible rfl))
          try simp only [Act.put, List.setIfInBounds_toArray, List.set_cons_zero, List.set_cons_succ]
          refine AnyI.take (i := 20) (v := ?snkv20) (by kernel_rfl) rfl (by kernel_rfl) (by kernel_rfl) (fun _ _ _ h => h) (Or.inl ⟨by rfl, ?snky20⟩) (by assumption) ?snkr20
          case snky20 => (intro w hSw; (try dsimp only at hSw); go_simp; (try with_reducible rfl))
          try simp only [Act.put, List.setIfInBounds_toArray, List.set_cons_zero, List.set_cons_succ]
          refine AnyI.take (i := 21) (v := ?snkv21) (by kernel_rfl) rfl (by kernel_rfl) (by kernel_rfl) (fun _ _ _ h => h) (Or.inl ⟨by rfl, ?snky21⟩) (by assumption) ?snkr21
          case snky21 => (intro w hSw; (try dsimp only at hSw); go_simp; (try with_reducible rfl))
          try simp only [Act.put, List.setIfInBounds_toArray, List.set_cons_zero, List.set_cons_succ]
          refine AnyI.one (i := 22) (by kernel_rfl) (by decide) rfl (fun K hK => ?_)
          go_simp
          refine hK.out _ _ ?_ (fun hHeld2 => ?_)
          · (go_split_ands; (try dsimp only); refine ⟨?_, ?_, ?_, ?_, ?_, ?_⟩ <;> (first | assumption | go_keep))
          clear hK K
          try simp only [Act.put, List.setIfInBounds_toArray, List.set_cons_zero, List.set_cons_succ]
          refine AnyI.one (i := 23) (by kernel_rfl) (by decide) rfl (fun K hK => ?_)
          refine step_append_lies (wr.drew.alloc (.cells #[.float .f32 r] 32)) rfl (.tmp 32) (.tmp 53) 22 rfl (w.heap.size + 3) 32 i8 (.float .f32 0) 1 4 Try.underlying22 HI.out.1 HI.out.2.1 HI.out.2.2.1 HI.out.2.2.2 rfl (by decide) v2 qq (fl .f32 es) (by simp [Act.eval]) HA.out.1 ⟨wr.heap.size, 0, none⟩ 1 1 [.float .f32 r] (by simp [Act.eval]) rfl HA.out.2.1 HA.out.2.2.1 (by decide) hq1 hq2 HA.out.2.2.2.1 (wr.heap.size + 1) HA.out.2.2.2.2 ?_
          intro g cap w' hown' hgr' hv' hlt'
          refine hK.out _ _ ?_ (fun hHeld3 => ?_)
          · (go_split_ands; (try dsimp only); refine ⟨?_, ?_, ?_, ?_, ?_, ?_⟩ <;> (rw [hgr'.cell_far _ (by simp; omega) (by first | exact Ne.symm ag0 | exact Ne.symm ag1 | exact Ne.symm ag2 | exact Ne.symm ag3)]; (first | assumption | go_keep)))
          clear hK K
          try simp only [Act.put, List.setIfInBounds_toArray, List.set_cons_zero, List.set_cons_succ]
          refine AnyI.take (i := 24) (v := ?snkv24) (by kernel_rfl) rfl (by kernel_rfl) (by kernel_rfl) (fun _ _ _ h => h) (Or.inl ⟨by rfl, ?snky24⟩) (by assumption) ?snkr24
          case snky24 => (intro w hSw; (try dsimp only at hSw); go_simp; (try with_reducible rfl))
          try simp only [Act.put, List.setIfInBounds_toArray, List.set_cons_zero, List.set_cons_succ]
          have hne : ∀ g, g < w.heap.size + 3 → some g ≠ v2.ownBlock := fun g hg => own_ne' H2.out.2.2.1 hg
          have p0 := (HB.out.1.drew.alloc (.cells #[.float .f32 r] 32)).grown hgr' (hne _ (by omega))
          have p1 := (HB.out.2.1.drew.alloc (.cells #[.float .f32 r] 32)).grown hgr' (hne _ (by omega))
          have p2 := (HB.out.2.2.drew.alloc (.cells #[.float .f32 r] 32)).grown hgr' (hne _ (by omega))
          have pb : Below w.heap.size w w' := by
            have h1 : Below w.heap.size w (wr.drew.alloc (.cells #[.float .f32 r] 32)) := (Below.drew H2.out.2.2.2.2.2.2).alloc (by show w.heap.size ≤ wr.heap.size; exact hbel3) _
            exact h1.grown hgr' (by simp; omega) (fun i hi => by have := own_ge H2.out.2.2.1 i hi; omega)
          have ho3 : w'.ownsRow (w.heap.size + 3) 32 1 (.slice (some ⟨g, 0, none⟩) (qq + 1) cap) (qq + 1) (fl .f32 (es ++ [r])) := by rw [fl, List.map_append]; exact hown'
          have ho4 := ho3.kept (grown_set w' (w.heap.size + 2) 1 (.slice (some ⟨g, 0, none⟩) (qq + 1) cap)) (own_ne ho3 (by omega))
          have H3 := Lib.hid (And.intro ho4 (And.intro (p0.far (p := ⟨w.heap.size + 2, 1, none⟩) (by simp) (.slice (some ⟨g, 0, none⟩) (qq + 1) cap)) (And.intro (p1.far (p := ⟨w.heap.size + 2, 1, none⟩) (by simp) (.slice (some ⟨g, 0, none⟩) (qq + 1) cap)) (And.intro (p2.put 1 (.slice (some ⟨g, 0, none⟩) (qq + 1) cap)) (pb.setCell (p := ⟨w.heap.size + 2, 1, none⟩) (by simp) (.slice (some ⟨g, 0, none⟩) (qq + 1) cap))))))
          obtain ⟨hc7, hf7⟩ := p2.facts
          have hz7 := p2.lt
          clear hown' hgr' p0 p1 p2 pb ho3 ho4 hne hHeld hHeld2 hv' hlt'
          refine AnyI.last (by kernel_rfl) (by kernel_rfl) rfl (fun K hK => ?_)
          go_simp
          refine hK.out _ _ ?_
          clear hK K hHeld3 hc0 hc1 hc2 hcs hce hca hf2 hz2
          go_wp2_with fail
          go_roundw
          case rel =>
            have hq' : a * k + (e + 1) = qq + 1 := by rw [HQ.out]; rfl
            refine ⟨e + 1, (.slice (some ⟨g, 0, none⟩) (qq + 1) cap), es ++ [r], by omega, by go_num, by rw [List.length_append, H2.out.1]; rfl, fun t ht => ?_, by rw [hq']; exact H3.out.1, H3.out.2⟩
            by_cases e2 : t = a * k + e
            · rw [e2, List.getElem?_append_right (by rw [H2.out.1]; exact Nat.le_refl _), H2.out.1, Nat.sub_self, ← HQ.out]
              exact HV.out
            · rw [List.getElem?_append_left (by rw [H2.out.1]; omega)]
              exact H2.out.2.1 t (by omega)
          case measure => simp [intOf]; omega
        · have HE := Lib.hid (show es.length = (a + 1) * k ∧ (∀ t, t < (a + 1) * k → av .f32 (es[t]?.getD 0) = bacG k ss xs t) ∧ wr.ownsRow (w.heap.size + 3) 32 1 v2 ((a + 1) * k) (fl .f32 es) ∧ Whole wr w.heap.size 27 #[.int .i64 k, .slice (some ⟨b, o, none⟩) m c] ∧ Whole wr (w.heap.size + 1) 27 #[.int .i64 0, .slice none 0 0] ∧ Whole wr (w.heap.size + 2) 27 #[.int .i64 k, v2] ∧ Below w.heap.size w wr from by
            have he' : e = k := by omega
            have h := H2.out
            rw [he', ← Nat.succ_mul] at h
            exact h)
          have hge : ¬ ((e : Int) < k) := by omega
          clear q0 q1 q2 hbel
          go_wp2_with fail
          go_roundw
          case rel => exact ⟨a + 1, v2, es, by omega, by go_num, HE.out⟩
          case measure => simp [intOf]; omega
    · have hak : a = k := by omega
      have HA := Lib.hid hak
      obtain ⟨z, hz⟩ : ∃ z, z = k * k := ⟨_, rfl⟩
      obtain ⟨hdl, hds, hown, q0, q1, q2, hbel⟩ := H.out
      rw [hak, ← hz] at hdl hds hown
      have hzl : z ≤ 1048576 := by have := sq_le n2; omega
      obtain ⟨ao', cc', rfl⟩ := own_form hown
      have HR := Lib.hid (And.intro (canL_of hdl hds) (And.intro (Row.of_own hown) hdl))
      obtain ⟨hc4, hf4⟩ := q2.facts
      have Q := Lib.hid (And.intro q1 hbel)
      have HM := Lib.hid hz
      have hge : ¬ ((a : Int) < k) := by omega
      rw [← hz]
      clear hdl hds hown q0 q1 q2 hbel H hz hak
      go_wp2_with (first | (go_at_call 59; fail))
      refine (l07Give_any k ds z (w.heap.size + 3) HR.out.2.2 ao' cc' _ HR.out.2.1 hzl).mono ?_
      rintro e w6 ⟨hw6, hd⟩
      have r1 := Q.out.1.below hw6
      obtain ⟨hc6, hf6⟩ := r1.facts
      have HBL := Bel_next Q.out.2 hw6
      have HRW := Lib.hid (HR.out.2.1.below hw6)
      have hz6 := r1.lt
      have hz5 := hw6.size
      clear hc4 hf4 r1 hw6
      rcases hd with ⟨hk, rfl⟩ | ⟨hk, rfl⟩
      · have HE := Lib.hid (And.intro (HR.out.1.chain hk) (HR.out.1.eq hk))
        clear hk
        go_wp2_with fail
        obtain rfl := HM.out
        refine bodyPost_ret (v := .tuple #[.agg #[.int .i64 k, .slice ao' (k * k) cc'], .bool true]) (by simp [results, Try.results45, go_sem, hc6]) rfl (.inl ⟨HE.out.1, ao', cc', rfl, ?_, (by repeat (first | with_reducible exact Below.refl _ _ | with_reducible exact HBL | with_reducible refine Below.drew ?_ | with_reducible refine Bel_drewN ?_ _ | with_reducible refine Below.alloc ?_ (by first | omega | (simp; done) | (simp; omega)) _ | with_reducible refine Below.setCell ?_ (by first | omega | (simp; done) | (simp; omega)) _))⟩)
        rw [← HE.out.2]
        exact ((((HRW.out.far (.inl (by simp)) _).far (.inl (by simp)) _)).wide (by omega) (by simp; omega))
      · have HE := Lib.hid (show ¬ isChain k (canL z (bacG k ss xs)) from fun h => hk (HR.out.1.symm.chain h))
        clear hk
        go_wp2_with fail
        obtain rfl := HM.out
        exact bodyPost_ret (v := .tuple #[.agg #[.int .i64 0, .slice none 0 0], .bool false]) (by simp [results, Try.results45, go_sem, hc6]) rfl (.inr ⟨HE.out, rfl, (by repeat (first | with_reducible exact Below.refl _ _ | with_reducible exact HBL | with_reducible refine Below.drew ?_ | with_reducible refine Bel_drewN ?_ _ | with_reducible refine Below.alloc ?_ (by first | omega | (simp; done) | (simp; omega)) _ | with_reducible refine Below.setCell ?_ (by first | omega | (simp; done) | (simp; omega)) _))⟩)
set_option maxRecDepth 100000 in
set_option maxHeartbeats 1000000 in
theorem specBac_no (s : Int) (ss xs : List Nat) (m k : Nat) (hm : ss.length = m) (hk : xs.length = k) (ao bo : Option Addr) (c d : Nat) (w : World) (hs : Holds w ao (fl .f32 ss)) (hx : Holds w bo (fl .f32 xs)) (hlen : m ≤ 1048576) (hlk : k ≤ 1048576) (hC : ¬ weighed s ss xs) :
    Calls Try.prog 45 #[.agg #[.int .i64 s, .slice ao m c], .slice bo k d] w (RetB (.tuple #[.agg #[.int .i64 0, .slice none 0 0], .bool false]) w) := by
  have HX := Lib.hid (And.intro hs (And.intro hx (And.intro hm (And.intro hk hC))))
  clear hs hx hm hk hC
  go_enter Try.func45, Try.ntmps45
  go_wp2_with (first | (go_at_call 64; fail))
  generalize hW : World.alloc (World.alloc _ _) _ = w0
  have H0 : Hid (Whole w0 w.heap.size 27 #[.int .i64 s, .slice ao m c] ∧ Whole w0 (w.heap.size + 1) 27 #[.int .i64 0, .slice none 0 0] ∧ Below w.heap.size w w0) := Lib.hid (by rw [← hW]; exact ⟨(Whole.made _ _ _).alloc _, Whole.made2 _ _ _ _, (by repeat (first | with_reducible exact Below.refl _ _ | with_reducible exact HBL | with_reducible refine Below.drew ?_ | with_reducible refine Bel_drewN ?_ _ | with_reducible refine Below.alloc ?_ (by first | omega | (simp; done) | (simp; omega)) _ | with_reducible refine Below.setCell ?_ (by first | omega | (simp; done) | (simp; omega)) _))⟩)
  clear hW
  refine (l07Fits_any s ss xs m k HX.out.2.2.1 HX.out.2.2.2.1 _ bo c d _ _ H0.out.1 (HX.out.1.below H0.out.2.2) (HX.out.2.1.below H0.out.2.2) hlen hlk).mono ?_
  rintro e w1 ⟨bf, q, rfl, hbf, rfl⟩
  have HB := Lib.hid hbf
  have r1 := H0.out.2.1.drewN q
  obtain ⟨hc2, hf2⟩ := r1.facts
  have HBL := Bel_drewN H0.out.2.2 q
  clear hbf r1
  cases bf with
  | false =>
    go_wp2_with (first | (go_at_call 81; fail))
    exact bodyPost_ret (v := .tuple #[.agg #[.int .i64 0, .slice none 0 0], .bool false]) (by simp [results, Try.results45, go_sem, hc2]) rfl ⟨rfl, (by repeat (first | with_reducible exact Below.refl _ _ | with_reducible exact HBL | with_reducible refine Below.drew ?_ | with_reducible refine Bel_drewN ?_ _ | with_reducible refine Below.alloc ?_ (by first | omega | (simp; done) | (simp; omega)) _ | with_reducible refine Below.setCell ?_ (by first | omega | (simp; done) | (simp; omega)) _))⟩
  | true =>
    go_wp2_with (first | (go_at_call 81; fail))
    refine (l07Above_any xs k HX.out.2.2.2.1 bo d _ (HX.out.2.1.below HBL) hlk).mono ?_
    rintro e w' ⟨b2, rfl, hb2, rfl⟩
    have hb3 : b2 = false := by
      cases b2 with
      | false => rfl
      | true => exact absurd ⟨HB.out.1 (by simp), hb2.1 rfl⟩ HX.out.2.2.2.2
    subst hb3
    clear hb2
    go_wp2_with fail
    exact bodyPost_ret (v := .tuple #[.agg #[.int .i64 0, .slice none 0 0], .bool false]) (by simp [results, Try.results45, go_sem, hc2]) rfl ⟨rfl, (by repeat (first | with_reducible exact Below.refl _ _ | with_reducible exact HBL | with_reducible refine Below.drew ?_ | with_reducible refine Bel_drewN ?_ _ | with_reducible refine Below.alloc ?_ (by first | omega | (simp; done) | (simp; omega)) _ | with_reducible refine Below.setCell ?_ (by first | omega | (simp; done) | (simp; omega)) _))⟩
theorem specBac_is (s : Int) (ss xs : List Nat) (m k : Nat) (hm : ss.length = m) (hk : xs.length = k) (ao bo : Option Addr) (c d : Nat) (w : World) (hs : Holds w ao (fl .f32 ss)) (hx : Holds w bo (fl .f32 xs)) (hlen : m ≤ 1048576) (hlk : k ≤ 1048576) (hF : weighed s ss xs ∧ isChain s (canL m (bacG s.toNat ss xs))) :
    Calls Try.prog 45 #[.agg #[.int .i64 s, .slice ao m c], .slice bo k d] w (RetL m (fl .f32 (canL m (bacG s.toNat ss xs))) (fun x => .tuple #[.agg #[.int .i64 s, x], .bool true]) w) := by
  obtain ⟨n, rfl, hmn, h⟩ := specBac_yes s ss xs m k hm hk ao bo c d w hs hx hlen hlk hF.1
  have h2 := hF.2
  simp only [Int.toNat_natCast] at h2 ⊢
  rw [hmn] at h2 ⊢
  rw [hmn] at h
  exact h.mono fun e w1 hh => ChR.yes h2 hh
theorem specBac_not (s : Int) (ss xs : List Nat) (m k : Nat) (hm : ss.length = m) (hk : xs.length = k) (ao bo : Option Addr) (c d : Nat) (w : World) (hs : Holds w ao (fl .f32 ss)) (hx : Holds w bo (fl .f32 xs)) (hlen : m ≤ 1048576) (hlk : k ≤ 1048576) (hN : ¬(weighed s ss xs ∧ isChain s (canL m (bacG s.toNat ss xs)))) :
    Calls Try.prog 45 #[.agg #[.int .i64 s, .slice ao m c], .slice bo k d] w (RetB (.tuple #[.agg #[.int .i64 0, .slice none 0 0], .bool false]) w) := by
  by_cases hC : weighed s ss xs
  · obtain ⟨n, rfl, hmn, h⟩ := specBac_yes s ss xs m k hm hk ao bo c d w hs hx hlen hlk hC
    have h2 : ¬ isChain n (canL (n * n) (bacG n ss xs)) := fun k => hN ⟨hC, by simp only [Int.toNat_natCast]; rw [hmn]; exact k⟩
    exact h.mono fun e w1 hh => ChR.no h2 hh
  · exact specBac_no s ss xs m k hm hk ao bo c d w hs hx hlen hlk hC
theorem implBac_is (s : Int) (ss xs : List Nat) (m k : Nat) (hm : ss.length = m) (hk : xs.length = k) (ao bo : Option Addr) (c d : Nat) (w : World) (hs : Holds w ao (fl .f32 ss)) (hx : Holds w bo (fl .f32 xs)) (hlen : m ≤ 1048576) (hlk : k ≤ 1048576) (hc : m ≤ c) (hF : weighed s ss xs ∧ isChain s (canL m (bacG s.toNat ss xs))) :
    Calls Try.prog 46 #[.agg #[.int .i64 s, .slice ao m c], .slice bo k d] w (RetL m (fl .f32 (canL m (bacG s.toNat ss xs))) (fun x => .tuple #[.agg #[.int .i64 s, x], .bool true]) w) := by
  obtain ⟨n, rfl, hmn, h⟩ := implBac_yes s ss xs m k hm hk ao bo c d w hs hx hlen hlk hc hF.1
  have h2 := hF.2
  simp only [Int.toNat_natCast] at h2 ⊢
  rw [hmn] at h2 ⊢
  rw [hmn] at h
  exact h.mono fun e w1 hh => ChR.yes h2 hh
theorem implBac_not (s : Int) (ss xs : List Nat) (m k : Nat) (hm : ss.length = m) (hk : xs.length = k) (ao bo : Option Addr) (c d : Nat) (w : World) (hs : Holds w ao (fl .f32 ss)) (hx : Holds w bo (fl .f32 xs)) (hlen : m ≤ 1048576) (hlk : k ≤ 1048576) (hc : m ≤ c) (hN : ¬(weighed s ss xs ∧ isChain s (canL m (bacG s.toNat ss xs)))) :
    Calls Try.prog 46 #[.agg #[.int .i64 s, .slice ao m c], .slice bo k d] w (RetB (.tuple #[.agg #[.int .i64 0, .slice none 0 0], .bool false]) w) := by
  by_cases hC : weighed s ss xs
  · obtain ⟨n, rfl, hmn, h⟩ := implBac_yes s ss xs m k hm hk ao bo c d w hs hx hlen hlk hc hC
    have h2 : ¬ isChain n (canL (n * n) (bacG n ss xs)) := fun k => hN ⟨hC, by simp only [Int.toNat_natCast]; rw [hmn]; exact k⟩
    exact h.mono fun e w1 hh => ChR.no h2 hh
  · exact implBac_no s ss xs m k hm hk ao bo c d w hs hx hlen hlk hc hC
end Go.Proofs.Ytfbllggnndodoaa
