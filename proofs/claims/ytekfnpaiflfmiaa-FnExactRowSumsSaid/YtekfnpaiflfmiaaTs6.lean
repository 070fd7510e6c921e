/- Sums of rows and of columns: both sides. -/
import Derived.Test.YtekfnpaiflfmiaaTab
namespace Go.Proofs.Ytekfnpaiflfmiaa
open Go Go.RowKit
set_option linter.unusedVariables false

/-- What has been added behind k numbers, where number i goes to the place f i. -/
def accF (f : Nat → Nat) (xs : List Int) : Nat → Nat → Int
  | 0 => fun _ => 0
  | k + 1 => fun t => if t = f k then accF f xs k t + xs[k]?.getD 0 else accF f xs k t
def sumsL (f : Nat → Nat) (n : Nat) (xs : List Int) : List Int := fnL n (accF f xs xs.length)
theorem sumsL_len (f : Nat → Nat) (n : Nat) (xs : List Int) : (sumsL f n xs).length = n := fnL_len _ _
theorem accF_le {f : Nat → Nat} {xs : List Int} (h : cntOk xs xs.length) (k t : Nat) (hk : k ≤ xs.length) : 0 ≤ accF f xs k t ∧ accF f xs k t ≤ ((60 * k : Nat) : Int) := by
  induction k with
  | zero => simp [accF]
  | succ k ih =>
    have h1 := h k (by omega)
    have h2 := ih (by omega)
    simp only [accF]
    split <;> omega
theorem accF_put (f : Nat → Nat) (xs : List Int) (k t : Nat) (v : Int) (h : v = accF f xs k (f k) + xs[k]?.getD 0) : (if t = f k then v else accF f xs k t) = accF f xs (k + 1) t := by
  show _ = if t = f k then accF f xs k t + xs[k]?.getD 0 else accF f xs k t
  by_cases e : t = f k
  · rw [if_pos e, if_pos e, h, e]
  · rw [if_neg e, if_neg e]
set_option maxRecDepth 100000 in
set_option maxHeartbeats 1000000 in
theorem sumsOf_row (B : Addr) (f : Nat → Nat) (n : Nat) (xs : List Int) (ao : Option Addr) (ca : Nat) (w : World) (hx : Holds w ao (il xs)) (hc : cntOk xs xs.length) (hn : n ≤ 4) (hl : xs.length ≤ 16)
    (hF : ∀ k, k < xs.length → f k < n ∧ ∀ w', Below w.heap.size w w' → Calls Try.prog 84 #[.int .i64 (k : Int), .pointer (some B)] w' (fun e w'' => e = .returned (.int .i64 (f k : Int)) ∧ w' = w'')) :
    Calls Try.prog 83 #[.slice ao xs.length ca, .int .i64 n, .func (.func 84) #[] #[.pointer (some B)]] w (RetL n (il (sumsL f n xs)) (fun s => s) w) := by
  have HX := Lib.hid hx
  have HC := Lib.hid hc
  have HF := Lib.hid hF
  clear hx hc hF
  have hmk := run_mk16 (P := Try.prog) w 22 2 n (by omega) Try.underlying22 (by kernel_rfl)
  have HN := Lib.hid (FRow.new w n 2)
  go_enter Try.func83, Try.ntmps83
  go_wp2_with fail
  clear hmk
  go_loopw [14] (fun i wr => ∃ k : Nat, k ≤ xs.length ∧ i = .int .i64 (k : Int) ∧ Below w.heap.size w wr ∧ FRow wr w.heap.size 2 n (accF f xs k)) (fun i _ => xs.length - (intOf i).toNat)
  case atStart => exact ⟨0, Nat.zero_le _, rfl, (by repeat (first | with_reducible exact Below.refl _ _ | with_reducible exact HBL | with_reducible refine Below.drew ?_ | with_reducible refine Bel_drewN ?_ _ | with_reducible refine Below.alloc ?_ (by first | omega | (simp; done) | (simp; omega)) _ | with_reducible refine Below.setCell ?_ (by first | omega | (simp; done) | (simp; omega)) _)), HN.out⟩
  case round =>
    obtain ⟨k, hk, rfl, hbel, hrow⟩ := hrel
    have H := Lib.hid (And.intro hbel hrow)
    by_cases hlt : k < xs.length
    · obtain ⟨b, o, rfl, hc⟩ := (Holds.below HX.out hbel) k (by simpa [il] using hlt)
      rw [il_get _ _ hlt] at hc
      have hlt' : (k : Int) < xs.length := by omega
      obtain ⟨hf, hcall⟩ := HF.out k hlt
      have HCA := Lib.hid (hcall _ hbel)
      have hcq := hrow.cell (f k) hf
      have hfq := hrow.frozen (f k)
      have hz := hrow.lt
      have b1 := accF_le (f := f) HC.out k (f k) hk
      have b2 := HC.out k hlt
      obtain ⟨x, hx⟩ : ∃ x, xs[k]?.getD 0 = x := ⟨_, rfl⟩
      obtain ⟨y, hy⟩ : ∃ y, accF f xs k (f k) = y := ⟨_, rfl⟩
      rw [hx] at hc b2
      rw [hy] at hcq b1
      have HP : Hid (∀ t, (if t = f k then y + x else accF f xs k t) = accF f xs (k + 1) t) := Lib.hid (fun t => accF_put f xs k t _ (by rw [hx, hy]))
      obtain ⟨q, hq⟩ : ∃ q, f k = q := ⟨_, rfl⟩
      rw [hq] at hf hcq hfq HP HCA
      obtain ⟨b1, b1'⟩ := b1
      obtain ⟨b2, b2'⟩ := b2
      have b3 : y ≤ 960 := by omega
      clear hx hy hbel hrow hcall b1' hq
      go_wp2_with fail
      refine HCA.out.mono ?_
      rintro e w1 ⟨rfl, rfl⟩
      go_wp2_with fail
      go_roundw
      case rel =>
        obtain ⟨HBL, hrow⟩ := H.out
        exact ⟨k + 1, by omega, by go_num, (by repeat (first | with_reducible exact Below.refl _ _ | with_reducible exact HBL | with_reducible refine Below.drew ?_ | with_reducible refine Bel_drewN ?_ _ | with_reducible refine Below.alloc ?_ (by first | omega | (simp; done) | (simp; omega)) _ | with_reducible refine Below.setCell ?_ (by first | omega | (simp; done) | (simp; omega)) _)), (hrow.put q _).to (fun t ht => HP.out t)⟩
      case measure => simp [intOf]; omega
    · have e : k = xs.length := by omega
      clear hbel hrow
      go_wp2_with fail
      go_ret
      exact ⟨_, _, rfl, by
        have h := H.out.2
        rw [e] at h
        exact h.row (Nat.le_refl _) h.lt, H.out.1⟩
set_option maxRecDepth 100000 in
set_option maxHeartbeats 1000000 in
theorem sumsOf_col (B : Addr) (f : Nat → Nat) (n : Nat) (xs : List Int) (ao : Option Addr) (ca : Nat) (w : World) (hx : Holds w ao (il xs)) (hc : cntOk xs xs.length) (hn : n ≤ 4) (hl : xs.length ≤ 16)
    (hF : ∀ k, k < xs.length → f k < n ∧ ∀ w', Below w.heap.size w w' → Calls Try.prog 85 #[.int .i64 (k : Int), .pointer (some B)] w' (fun e w'' => e = .returned (.int .i64 (f k : Int)) ∧ w' = w'')) :
    Calls Try.prog 83 #[.slice ao xs.length ca, .int .i64 n, .func (.func 85) #[] #[.pointer (some B)]] w (RetL n (il (sumsL f n xs)) (fun s => s) w) := by
  have HX := Lib.hid hx
  have HC := Lib.hid hc
  have HF := Lib.hid hF
  clear hx hc hF
  have hmk := run_mk16 (P := Try.prog) w 22 2 n (by omega) Try.underlying22 (by kernel_rfl)
  have HN := Lib.hid (FRow.new w n 2)
  go_enter Try.func83, Try.ntmps83
  go_wp2_with fail
  clear hmk
  go_loopw [14] (fun i wr => ∃ k : Nat, k ≤ xs.length ∧ i = .int .i64 (k : Int) ∧ Below w.heap.size w wr ∧ FRow wr w.heap.size 2 n (accF f xs k)) (fun i _ => xs.length - (intOf i).toNat)
  case atStart => exact ⟨0, Nat.zero_le _, rfl, (by repeat (first | with_reducible exact Below.refl _ _ | with_reducible exact HBL | with_reducible refine Below.drew ?_ | with_reducible refine Bel_drewN ?_ _ | with_reducible refine Below.alloc ?_ (by first | omega | (simp; done) | (simp; omega)) _ | with_reducible refine Below.setCell ?_ (by first | omega | (simp; done) | (simp; omega)) _)), HN.out⟩
  case round =>
    obtain ⟨k, hk, rfl, hbel, hrow⟩ := hrel
    have H := Lib.hid (And.intro hbel hrow)
    by_cases hlt : k < xs.length
    · obtain ⟨b, o, rfl, hc⟩ := (Holds.below HX.out hbel) k (by simpa [il] using hlt)
      rw [il_get _ _ hlt] at hc
      have hlt' : (k : Int) < xs.length := by omega
      obtain ⟨hf, hcall⟩ := HF.out k hlt
      have HCA := Lib.hid (hcall _ hbel)
      have hcq := hrow.cell (f k) hf
      have hfq := hrow.frozen (f k)
      have hz := hrow.lt
      have b1 := accF_le (f := f) HC.out k (f k) hk
      have b2 := HC.out k hlt
      obtain ⟨x, hx⟩ : ∃ x, xs[k]?.getD 0 = x := ⟨_, rfl⟩
      obtain ⟨y, hy⟩ : ∃ y, accF f xs k (f k) = y := ⟨_, rfl⟩
      rw [hx] at hc b2
      rw [hy] at hcq b1
      have HP : Hid (∀ t, (if t = f k then y + x else accF f xs k t) = accF f xs (k + 1) t) := Lib.hid (fun t => accF_put f xs k t _ (by rw [hx, hy]))
      obtain ⟨q, hq⟩ : ∃ q, f k = q := ⟨_, rfl⟩
      rw [hq] at hf hcq hfq HP HCA
      obtain ⟨b1, b1'⟩ := b1
      obtain ⟨b2, b2'⟩ := b2
      have b3 : y ≤ 960 := by omega
      clear hx hy hbel hrow hcall b1' hq
      go_wp2_with fail
      refine HCA.out.mono ?_
      rintro e w1 ⟨rfl, rfl⟩
      go_wp2_with fail
      go_roundw
      case rel =>
        obtain ⟨HBL, hrow⟩ := H.out
        exact ⟨k + 1, by omega, by go_num, (by repeat (first | with_reducible exact Below.refl _ _ | with_reducible exact HBL | with_reducible refine Below.drew ?_ | with_reducible refine Bel_drewN ?_ _ | with_reducible refine Below.alloc ?_ (by first | omega | (simp; done) | (simp; omega)) _ | with_reducible refine Below.setCell ?_ (by first | omega | (simp; done) | (simp; omega)) _)), (hrow.put q _).to (fun t ht => HP.out t)⟩
      case measure => simp [intOf]; omega
    · have e : k = xs.length := by omega
      clear hbel hrow
      go_wp2_with fail
      go_ret
      exact ⟨_, _, rfl, by
        have h := H.out.2
        rw [e] at h
        exact h.row (Nat.le_refl _) h.lt, H.out.1⟩
theorem clo_row (k c : Nat) (r : Int) (xs : List Int) (ao : Option Addr) (ca g : Nat) (hc : 0 < c) (hk : k ≤ 100) (hcl : c ≤ 100) (w : World) (hW : Whole w g 27 #[.int .i64 r, .int .i64 c, .slice ao xs.length ca]) :
    Calls Try.prog 84 #[.int .i64 (k : Int), .pointer (some ⟨g, 0, none⟩)] w (fun e w' => e = .returned (.int .i64 ((k / c : Nat) : Int)) ∧ w = w') := by
  obtain ⟨hc0, hf0⟩ := hW.facts
  clear hW
  have hc1 : (0 : Int) < c := by omega
  have hd : (k : Int) / (c : Int) = ((k / c : Nat) : Int) := by omega
  have hle : k / c ≤ k := Nat.div_le_self k c
  obtain ⟨q, hq⟩ : ∃ q, k / c = q := ⟨_, rfl⟩
  rw [hq] at hd hle ⊢
  clear hq
  go_enter Try.func84, Try.ntmps84
  go_wp2
  go_ret
  exact ⟨rfl, rfl⟩
set_option maxHeartbeats 1000000 in
theorem rowSums_any (r c : Nat) (xs : List Int) (n : Nat) (hn : xs.length = n) (ao : Option Addr) (ca : Nat) (w : World) (hv : isTab r c xs) (hx : Holds w ao (il xs)) :
    Calls Try.prog 54 #[.agg #[.int .i64 r, .int .i64 c, .slice ao n ca]] w (RetL r (il (sumsL (fun k => k / c) r xs)) (fun s => s) w) := by
  subst hn
  have h1 := hv.rows
  have h2 := hv.columns
  have h16 : xs.length ≤ 16 := by have := mul_side h1 h2; have := hv.len; omega
  have HX := Lib.hid hx
  have HV := Lib.hid hv
  have HW := Lib.hid (Whole.made w 27 #[.int .i64 r, .int .i64 c, .slice ao xs.length ca])
  have HB : Hid (Below w.heap.size w (w.alloc (.cells #[.int .i64 r, .int .i64 c, .slice ao xs.length ca] 27))) := Lib.hid (by repeat (first | with_reducible exact Below.refl _ _ | with_reducible exact HBL | with_reducible refine Below.drew ?_ | with_reducible refine Bel_drewN ?_ _ | with_reducible refine Below.alloc ?_ (by first | omega | (simp; done) | (simp; omega)) _ | with_reducible refine Below.setCell ?_ (by first | omega | (simp; done) | (simp; omega)) _))
  have HL : Hid (xs.length = r * c) := Lib.hid (by have := hv.len; omega)
  clear hx hv
  go_enter Try.func54, Try.ntmps54
  go_wp2_with fail
  refine (sumsOf_row ⟨w.heap.size, 0, none⟩ (fun k => k / c) r xs ao ca _ (HX.out.below HB.out) HV.out.counts (by omega) h16 (fun k hk => ⟨?_, fun w' hb => clo_row k c r xs ao ca w.heap.size (by omega) (by omega) (by omega) w' (HW.out.below (hb.mono (Nat.le_refl _)))⟩)).mono ?_
  · have := HL.out; exact (Nat.div_lt_iff_lt_mul (by omega)).2 (by omega)
  · rintro e w1 ⟨ao1, c1, rfl, hrow, hb⟩
    have H := Lib.hid (And.intro (hrow.wide HB.out.size (Nat.le_refl _)) (Bel_next HB.out hb))
    clear hrow hb
    go_wp2_with fail
    go_ret
    exact ⟨_, _, rfl, H.out⟩
theorem clo_col (k c : Nat) (r : Int) (xs : List Int) (ao : Option Addr) (ca g : Nat) (hc : 0 < c) (hk : k ≤ 100) (hcl : c ≤ 100) (w : World) (hW : Whole w g 27 #[.int .i64 r, .int .i64 c, .slice ao xs.length ca]) :
    Calls Try.prog 85 #[.int .i64 (k : Int), .pointer (some ⟨g, 0, none⟩)] w (fun e w' => e = .returned (.int .i64 ((k % c : Nat) : Int)) ∧ w = w') := by
  obtain ⟨hc0, hf0⟩ := hW.facts
  clear hW
  have hc1 : (0 : Int) < c := by omega
  go_enter Try.func85, Try.ntmps85
  go_wp2
  go_ret
  exact ⟨rfl, rfl⟩
set_option maxHeartbeats 1000000 in
theorem columnSums_any (r c : Nat) (xs : List Int) (n : Nat) (hn : xs.length = n) (ao : Option Addr) (ca : Nat) (w : World) (hv : isTab r c xs) (hx : Holds w ao (il xs)) :
    Calls Try.prog 55 #[.agg #[.int .i64 r, .int .i64 c, .slice ao n ca]] w (RetL c (il (sumsL (fun k => k % c) c xs)) (fun s => s) w) := by
  subst hn
  have h1 := hv.rows
  have h2 := hv.columns
  have h16 : xs.length ≤ 16 := by have := mul_side h1 h2; have := hv.len; omega
  have HX := Lib.hid hx
  have HV := Lib.hid hv
  have HW := Lib.hid (Whole.made w 27 #[.int .i64 r, .int .i64 c, .slice ao xs.length ca])
  have HB : Hid (Below w.heap.size w (w.alloc (.cells #[.int .i64 r, .int .i64 c, .slice ao xs.length ca] 27))) := Lib.hid (by repeat (first | with_reducible exact Below.refl _ _ | with_reducible exact HBL | with_reducible refine Below.drew ?_ | with_reducible refine Bel_drewN ?_ _ | with_reducible refine Below.alloc ?_ (by first | omega | (simp; done) | (simp; omega)) _ | with_reducible refine Below.setCell ?_ (by first | omega | (simp; done) | (simp; omega)) _))
  have HL : Hid (xs.length = r * c) := Lib.hid (by have := hv.len; omega)
  clear hx hv
  go_enter Try.func55, Try.ntmps55
  go_wp2_with fail
  refine (sumsOf_col ⟨w.heap.size, 0, none⟩ (fun k => k % c) c xs ao ca _ (HX.out.below HB.out) HV.out.counts (by omega) h16 (fun k hk => ⟨?_, fun w' hb => clo_col k c r xs ao ca w.heap.size (by omega) (by omega) (by omega) w' (HW.out.below (hb.mono (Nat.le_refl _)))⟩)).mono ?_
  · exact Nat.mod_lt _ (by omega)
  · rintro e w1 ⟨ao1, c1, rfl, hrow, hb⟩
    have H := Lib.hid (And.intro (hrow.wide HB.out.size (Nat.le_refl _)) (Bel_next HB.out hb))
    clear hrow hb
    go_wp2_with fail
    go_ret
    exact ⟨_, _, rfl, H.out⟩
/-- The sums of rows and of columns, each in new memory. -/
def TwoSums (r c : Nat) (xs : List Int) (w : World) (e : Ending) (w' : World) : Prop :=
  ∃ g1 g2, e = .returned (.tuple #[.slice (some ⟨g1, 0, none⟩) r r, .slice (some ⟨g2, 0, none⟩) c c]) ∧ w.heap.size ≤ g1 ∧ g1 < g2 ∧
    FRow w' g1 2 r (accF (fun k => k / c) xs xs.length) ∧ FRow w' g2 2 c (accF (fun k => k % c) xs xs.length) ∧ Below w.heap.size w w'
set_option maxRecDepth 100000 in
set_option maxHeartbeats 2000000 in
theorem l06Sums_any (r c : Nat) (xs : List Int) (n : Nat) (hn : xs.length = n) (ao : Option Addr) (ca g : Nat) (T : TypeId) (w : World) (hv : isTab r c xs) (hW : Whole w g T #[.int .i64 r, .int .i64 c, .slice ao n ca]) (hx : Holds w ao (il xs)) :
    Calls Try.prog 53 #[.pointer (some ⟨g, 0, none⟩)] w (TwoSums r c xs w) := by
  subst hn
  have h1 := hv.rows
  have h2 := hv.columns
  have h16 : xs.length ≤ 16 := by have := mul_side h1 h2; have := hv.len; omega
  have HX := Lib.hid (And.intro hx hW)
  have HV := Lib.hid hv
  have HL : Hid (xs.length = r * c) := Lib.hid (by have := hv.len; omega)
  have hmul : (r : Int) * (c : Int) = (xs.length : Int) := hv.len.symm
  obtain ⟨h1, h1'⟩ := h1
  obtain ⟨h2, h2'⟩ := h2
  have hc0 := hW.facts.1
  have hmk1 := run_mk16 (P := Try.prog) w 22 2 r (by omega) Try.underlying22 (by kernel_rfl)
  have hmk2 := run_mk16 (P := Try.prog) (w.alloc (.cells (Array.replicate r (.int .i64 0)) 2)) 22 2 c (by omega) Try.underlying22 (by kernel_rfl)
  have HN1 := Lib.hid ((FRow.new w r 2).alloc (.cells (Array.replicate c (.int .i64 0)) 2))
  have HN2 := Lib.hid (show FRow ((w.alloc (.cells (Array.replicate r (.int .i64 0)) 2)).alloc (.cells (Array.replicate c (.int .i64 0)) 2)) (w.heap.size + 1) 2 c (fun _ => 0) by simpa using FRow.new (w.alloc (.cells (Array.replicate r (.int .i64 0)) 2)) c 2)
  have hgl := hW.lt
  clear hv hW hx
  go_enter Try.func53, Try.ntmps53
  go_wp2_with fail
  clear hmk1 hmk2 hc0
  go_loopw [6] (fun i wr => ∃ k : Nat, k ≤ xs.length ∧ i = .int .i64 (k : Int) ∧ Below w.heap.size w wr ∧ FRow wr w.heap.size 2 r (accF (fun k => k / c) xs k) ∧ FRow wr (w.heap.size + 1) 2 c (accF (fun k => k % c) xs k)) (fun i _ => xs.length - (intOf i).toNat)
  case atStart => exact ⟨0, Nat.zero_le _, rfl, (by repeat (first | with_reducible exact Below.refl _ _ | with_reducible exact HBL | with_reducible refine Below.drew ?_ | with_reducible refine Bel_drewN ?_ _ | with_reducible refine Below.alloc ?_ (by first | omega | (simp; done) | (simp; omega)) _ | with_reducible refine Below.setCell ?_ (by first | omega | (simp; done) | (simp; omega)) _)), HN1.out, HN2.out⟩
  case round =>
    obtain ⟨k, hk, rfl, hbel, hr1, hr2⟩ := hrel
    have H := Lib.hid (And.intro hbel (And.intro hr1 hr2))
    have hgf := (HX.out.2.below hbel).facts
    obtain ⟨hgc, hgz⟩ := hgf
    have hg0 := hgc 0
    have hg1 := hgc 1
    have hg2 := hgc 2
    clear hgc hgz
    by_cases hlt : k < xs.length
    · obtain ⟨b, o, rfl, hcw⟩ := HX.out.1 k (by simpa [il] using hlt)
      rw [il_get _ _ hlt] at hcw
      have hbl : b < w.heap.size := World.block_lt_of_cell? _ _ hcw
      have hc := ((cells_kept hbel).1 b (o + k) hbl).trans hcw
      clear hcw
      have hlt' : (k : Int) < xs.length := by omega
      have hdl : k / c < r := by have := HL.out; exact (Nat.div_lt_iff_lt_mul (by omega)).2 (by omega)
      have hml : k % c < c := Nat.mod_lt _ (by omega)
      have hcq := hr1.cell (k / c) hdl
      have hfq := hr1.frozen (k / c)
      have hcm := hr2.cell (k % c) hml
      have hfm := hr2.frozen (k % c)
      have hz1 := hr1.lt
      have hz2 := hr2.lt
      have b1 := accF_le (f := fun k => k / c) HV.out.counts k (k / c) hk
      have b3 := accF_le (f := fun k => k % c) HV.out.counts k (k % c) hk
      have b2 := HV.out.counts k hlt
      obtain ⟨x, hx⟩ : ∃ x, xs[k]?.getD 0 = x := ⟨_, rfl⟩
      obtain ⟨y, hy⟩ : ∃ y, accF (fun k => k / c) xs k (k / c) = y := ⟨_, rfl⟩
      obtain ⟨z, hz⟩ : ∃ z, accF (fun k => k % c) xs k (k % c) = z := ⟨_, rfl⟩
      rw [hx] at hc b2
      rw [hy] at hcq b1
      rw [hz] at hcm b3
      have HP1 : Hid (∀ t, (if t = k / c then y + x else accF (fun k => k / c) xs k t) = accF (fun k => k / c) xs (k + 1) t) := Lib.hid (fun t => accF_put (fun k => k / c) xs k t _ (by rw [hx, hy]))
      have HP2 : Hid (∀ t, (if t = k % c then z + x else accF (fun k => k % c) xs k t) = accF (fun k => k % c) xs (k + 1) t) := Lib.hid (fun t => accF_put (fun k => k % c) xs k t _ (by rw [hx, hz]))
      have hd : (k : Int) / (c : Int) = ((k / c : Nat) : Int) := by omega
      have hm : (k : Int) % (c : Int) = ((k % c : Nat) : Int) := by omega
      obtain ⟨q, hq⟩ : ∃ q, k / c = q := ⟨_, rfl⟩
      obtain ⟨m, hm2⟩ : ∃ m, k % c = m := ⟨_, rfl⟩
      rw [hq] at hdl hcq hfq HP1 hd
      rw [hm2] at hml hcm hfm HP2 hm
      obtain ⟨b1, b1'⟩ := b1
      obtain ⟨b2, b2'⟩ := b2
      obtain ⟨b3, b3'⟩ := b3
      have b4 : y ≤ 960 := by omega
      have b5 : z ≤ 960 := by omega
      clear hx hy hz hbel hr1 hr2 b1' b3' hq hm2
      go_wp2_with fail
      go_quiet (fail)
      go_wp2_with fail
      go_region
      go_wp2_with fail
      go_region
      go_wp2_with fail
      go_roundw
      case rel =>
        obtain ⟨HBL, hr1, hr2⟩ := H.out
        refine ⟨k + 1, by omega, by go_num, (by repeat (first | with_reducible exact Below.refl _ _ | with_reducible exact HBL | with_reducible refine Below.drew ?_ | with_reducible refine Bel_drewN ?_ _ | with_reducible refine Below.alloc ?_ (by first | omega | (simp; done) | (simp; omega)) _ | with_reducible refine Below.setCell ?_ (by first | omega | (simp; done) | (simp; omega)) _)), ?_, ?_⟩
        · exact (((hr1.put q _).far (by first | omega | (simp; done) | (simp; omega)) _)).to (fun t ht => HP1.out t)
        · exact (((hr2.far (by first | omega | (simp; done) | (simp; omega)) _).put m _)).to (fun t ht => HP2.out t)
      case measure => simp [intOf]; omega
    · have e : k = xs.length := by omega
      have he : decide ((k : Int) < xs.length) = false := by simp; omega
      clear hbel hr1 hr2
      go_wp2_with fail
      go_quiet (fail)
      go_wp2_with fail
      go_ret2
      exact ⟨_, _, rfl, Nat.le_refl _, Nat.lt_succ_self _, by have := H.out.2.1; rwa [e] at this, by have := H.out.2.2; rwa [e] at this, (by have HBL := H.out.1; exact (by repeat (first | with_reducible exact Below.refl _ _ | with_reducible exact HBL | with_reducible refine Below.drew ?_ | with_reducible refine Bel_drewN ?_ _ | with_reducible refine Below.alloc ?_ (by first | omega | (simp; done) | (simp; omega)) _ | with_reducible refine Below.setCell ?_ (by first | omega | (simp; done) | (simp; omega)) _)))⟩
set_option maxHeartbeats 1000000 in
theorem implRowSums_yes (r c : Nat) (xs : List Int) (n : Nat) (hn : xs.length = n) (ao : Option Addr) (ca : Nat) (w : World) (hv : isTab r c xs) (hx : Holds w ao (il xs)) (hl : n ≤ 1048576) :
    Calls Try.prog 23 #[.agg #[.int .i64 r, .int .i64 c, .slice ao n ca]] w (RetL r (il (sumsL (fun k => k / c) r xs)) (fun s => .tuple #[s, .bool true]) w) := by
  have HX := Lib.hid (And.intro hx hn)
  have HV := Lib.hid hv
  have HW := Lib.hid (Whole.made w 27 #[.int .i64 r, .int .i64 c, .slice ao n ca])
  have HB : Hid (Below w.heap.size w (w.alloc (.cells #[.int .i64 r, .int .i64 c, .slice ao n ca] 27))) := Lib.hid (by repeat (first | with_reducible exact Below.refl _ _ | with_reducible exact HBL | with_reducible refine Below.drew ?_ | with_reducible refine Bel_drewN ?_ _ | with_reducible refine Below.alloc ?_ (by first | omega | (simp; done) | (simp; omega)) _ | with_reducible refine Below.setCell ?_ (by first | omega | (simp; done) | (simp; omega)) _))
  clear hx hv hn
  go_enter Try.func23, Try.ntmps23
  go_wp2_with fail
  refine (implValidTable_yes r c xs n HX.out.2 ao ca _ HV.out (HX.out.1.below HB.out) hl).mono ?_
  rintro e w1 ⟨rfl, hb⟩
  have HB1 := Lib.hid (Bel_next HB.out hb)
  have HW1 := Lib.hid (HW.out.below hb)
  obtain ⟨hc0, hf0⟩ := HW1.out.facts
  have hz := HW1.out.lt
  clear hb
  go_wp2_with fail
  refine (rowSums_any r c xs n HX.out.2 ao ca _ HV.out (HX.out.1.below HB1.out)).mono ?_
  rintro e w2 ⟨ao2, c2, rfl, hrow, hb⟩
  have H := Lib.hid (And.intro (hrow.wide HB1.out.size (Nat.le_refl _)) (Bel_next HB1.out hb))
  clear hrow hb hc0 hf0
  go_wp2_with fail
  go_ret2
  exact ⟨_, _, rfl, H.out⟩
theorem implRowSums_no (r c : Int) (xs : List Int) (n : Nat) (hn : xs.length = n) (ao : Option Addr) (ca : Nat) (w : World) (hv : ¬isTab r c xs) (hx : Holds w ao (il xs)) (hl : n ≤ 1048576) :
    Calls Try.prog 23 #[.agg #[.int .i64 r, .int .i64 c, .slice ao n ca]] w (RetB (.tuple #[.slice none 0 0, .bool false]) w) := by
  have HX := Lib.hid (And.intro hx hn)
  have HV := Lib.hid hv
  have HB : Hid (Below w.heap.size w (w.alloc (.cells #[.int .i64 r, .int .i64 c, .slice ao n ca] 27))) := Lib.hid (by repeat (first | with_reducible exact Below.refl _ _ | with_reducible exact HBL | with_reducible refine Below.drew ?_ | with_reducible refine Bel_drewN ?_ _ | with_reducible refine Below.alloc ?_ (by first | omega | (simp; done) | (simp; omega)) _ | with_reducible refine Below.setCell ?_ (by first | omega | (simp; done) | (simp; omega)) _))
  clear hx hv hn
  go_enter Try.func23, Try.ntmps23
  go_wp2_with fail
  refine (implValidTable_no r c xs n HX.out.2 ao ca _ HV.out (HX.out.1.below HB.out) hl).mono ?_
  rintro e w1 ⟨rfl, hb⟩
  have HB1 := Lib.hid (Bel_next HB.out hb)
  clear hb
  go_wp2_with fail
  go_ret2
  exact ⟨rfl, HB1.out⟩
set_option maxHeartbeats 1000000 in
theorem specRowSums_yes (r c : Nat) (xs : List Int) (n : Nat) (hn : xs.length = n) (ao : Option Addr) (ca : Nat) (w : World) (hv : isTab r c xs) (hx : Holds w ao (il xs)) (hl : n ≤ 1048576) :
    Calls Try.prog 22 #[.agg #[.int .i64 r, .int .i64 c, .slice ao n ca]] w (RetL r (il (sumsL (fun k => k / c) r xs)) (fun s => .tuple #[s, .bool true]) w) := by
  have HX := Lib.hid (And.intro hx hn)
  have HV := Lib.hid hv
  have HW := Lib.hid (Whole.made w 27 #[.int .i64 r, .int .i64 c, .slice ao n ca])
  have HB : Hid (Below w.heap.size w (w.alloc (.cells #[.int .i64 r, .int .i64 c, .slice ao n ca] 27))) := Lib.hid (by repeat (first | with_reducible exact Below.refl _ _ | with_reducible exact HBL | with_reducible refine Below.drew ?_ | with_reducible refine Bel_drewN ?_ _ | with_reducible refine Below.alloc ?_ (by first | omega | (simp; done) | (simp; omega)) _ | with_reducible refine Below.setCell ?_ (by first | omega | (simp; done) | (simp; omega)) _))
  clear hx hv hn
  go_enter Try.func22, Try.ntmps22
  go_wp2_with fail
  refine (l06Is_any r c xs n HX.out.2 ao ca _ _ _ HW.out (HX.out.1.below HB.out) hl).mono ?_
  rintro e w1 ⟨rfl, hb⟩
  rw [tabB_yes HV.out]
  have HB1 := Lib.hid (Bel_next HB.out hb)
  have HW1 := Lib.hid (HW.out.below hb)
  clear hb
  go_wp2_with fail
  refine (l06Sums_any r c xs n HX.out.2 ao ca _ _ _ HV.out HW1.out (HX.out.1.below HB1.out)).mono ?_
  rintro e w2 ⟨g1, g2, rfl, hg1, hg2, hr1, hr2, hb⟩
  have H : Hid (Row w2 w.heap.size w2.heap.size (some ⟨g1, 0, none⟩) (il (sumsL (fun k => k / c) r xs)) ∧ Below w.heap.size w w2) := Lib.hid ⟨hr1.row (by have := HB1.out.size; omega) hr1.lt, Bel_next HB1.out hb⟩
  clear hr1 hr2 hb hg1 hg2
  go_wp2_with fail
  go_ret2
  exact ⟨_, _, rfl, H.out⟩
theorem specRowSums_no (r c : Int) (xs : List Int) (n : Nat) (hn : xs.length = n) (ao : Option Addr) (ca : Nat) (w : World) (hv : ¬isTab r c xs) (hx : Holds w ao (il xs)) (hl : n ≤ 1048576) :
    Calls Try.prog 22 #[.agg #[.int .i64 r, .int .i64 c, .slice ao n ca]] w (RetB (.tuple #[.slice none 0 0, .bool false]) w) := by
  have HX := Lib.hid (And.intro hx hn)
  have HV := Lib.hid hv
  have HW := Lib.hid (Whole.made w 27 #[.int .i64 r, .int .i64 c, .slice ao n ca])
  have HB : Hid (Below w.heap.size w (w.alloc (.cells #[.int .i64 r, .int .i64 c, .slice ao n ca] 27))) := Lib.hid (by repeat (first | with_reducible exact Below.refl _ _ | with_reducible exact HBL | with_reducible refine Below.drew ?_ | with_reducible refine Bel_drewN ?_ _ | with_reducible refine Below.alloc ?_ (by first | omega | (simp; done) | (simp; omega)) _ | with_reducible refine Below.setCell ?_ (by first | omega | (simp; done) | (simp; omega)) _))
  clear hx hv hn
  go_enter Try.func22, Try.ntmps22
  go_wp2_with fail
  refine (l06Is_any r c xs n HX.out.2 ao ca _ _ _ HW.out (HX.out.1.below HB.out) hl).mono ?_
  rintro e w1 ⟨rfl, hb⟩
  rw [tabB_no HV.out]
  have HB1 := Lib.hid (Bel_next HB.out hb)
  clear hb
  go_wp2_with fail
  go_ret2
  exact ⟨rfl, HB1.out⟩
set_option maxHeartbeats 1000000 in
theorem implColumnSums_yes (r c : Nat) (xs : List Int) (n : Nat) (hn : xs.length = n) (ao : Option Addr) (ca : Nat) (w : World) (hv : isTab r c xs) (hx : Holds w ao (il xs)) (hl : n ≤ 1048576) :
    Calls Try.prog 29 #[.agg #[.int .i64 r, .int .i64 c, .slice ao n ca]] w (RetL c (il (sumsL (fun k => k % c) c xs)) (fun s => .tuple #[s, .bool true]) w) := by
  have HX := Lib.hid (And.intro hx hn)
  have HV := Lib.hid hv
  have HW := Lib.hid (Whole.made w 27 #[.int .i64 r, .int .i64 c, .slice ao n ca])
  have HB : Hid (Below w.heap.size w (w.alloc (.cells #[.int .i64 r, .int .i64 c, .slice ao n ca] 27))) := Lib.hid (by repeat (first | with_reducible exact Below.refl _ _ | with_reducible exact HBL | with_reducible refine Below.drew ?_ | with_reducible refine Bel_drewN ?_ _ | with_reducible refine Below.alloc ?_ (by first | omega | (simp; done) | (simp; omega)) _ | with_reducible refine Below.setCell ?_ (by first | omega | (simp; done) | (simp; omega)) _))
  clear hx hv hn
  go_enter Try.func29, Try.ntmps29
  go_wp2_with fail
  refine (implValidTable_yes r c xs n HX.out.2 ao ca _ HV.out (HX.out.1.below HB.out) hl).mono ?_
  rintro e w1 ⟨rfl, hb⟩
  have HB1 := Lib.hid (Bel_next HB.out hb)
  have HW1 := Lib.hid (HW.out.below hb)
  obtain ⟨hc0, hf0⟩ := HW1.out.facts
  have hz := HW1.out.lt
  clear hb
  go_wp2_with fail
  refine (columnSums_any r c xs n HX.out.2 ao ca _ HV.out (HX.out.1.below HB1.out)).mono ?_
  rintro e w2 ⟨ao2, c2, rfl, hrow, hb⟩
  have H := Lib.hid (And.intro (hrow.wide HB1.out.size (Nat.le_refl _)) (Bel_next HB1.out hb))
  clear hrow hb hc0 hf0
  go_wp2_with fail
  go_ret2
  exact ⟨_, _, rfl, H.out⟩
theorem implColumnSums_no (r c : Int) (xs : List Int) (n : Nat) (hn : xs.length = n) (ao : Option Addr) (ca : Nat) (w : World) (hv : ¬isTab r c xs) (hx : Holds w ao (il xs)) (hl : n ≤ 1048576) :
    Calls Try.prog 29 #[.agg #[.int .i64 r, .int .i64 c, .slice ao n ca]] w (RetB (.tuple #[.slice none 0 0, .bool false]) w) := by
  have HX := Lib.hid (And.intro hx hn)
  have HV := Lib.hid hv
  have HB : Hid (Below w.heap.size w (w.alloc (.cells #[.int .i64 r, .int .i64 c, .slice ao n ca] 27))) := Lib.hid (by repeat (first | with_reducible exact Below.refl _ _ | with_reducible exact HBL | with_reducible refine Below.drew ?_ | with_reducible refine Bel_drewN ?_ _ | with_reducible refine Below.alloc ?_ (by first | omega | (simp; done) | (simp; omega)) _ | with_reducible refine Below.setCell ?_ (by first | omega | (simp; done) | (simp; omega)) _))
  clear hx hv hn
  go_enter Try.func29, Try.ntmps29
  go_wp2_with fail
  refine (implValidTable_no r c xs n HX.out.2 ao ca _ HV.out (HX.out.1.below HB.out) hl).mono ?_
  rintro e w1 ⟨rfl, hb⟩
  have HB1 := Lib.hid (Bel_next HB.out hb)
  clear hb
  go_wp2_with fail
  go_ret2
  exact ⟨rfl, HB1.out⟩
set_option maxHeartbeats 1000000 in
theorem specColumnSums_yes (r c : Nat) (xs : List Int) (n : Nat) (hn : xs.length = n) (ao : Option Addr) (ca : Nat) (w : World) (hv : isTab r c xs) (hx : Holds w ao (il xs)) (hl : n ≤ 1048576) :
    Calls Try.prog 28 #[.agg #[.int .i64 r, .int .i64 c, .slice ao n ca]] w (RetL c (il (sumsL (fun k => k % c) c xs)) (fun s => .tuple #[s, .bool true]) w) := by
  have HX := Lib.hid (And.intro hx hn)
  have HV := Lib.hid hv
  have HW := Lib.hid (Whole.made w 27 #[.int .i64 r, .int .i64 c, .slice ao n ca])
  have HB : Hid (Below w.heap.size w (w.alloc (.cells #[.int .i64 r, .int .i64 c, .slice ao n ca] 27))) := Lib.hid (by repeat (first | with_reducible exact Below.refl _ _ | with_reducible exact HBL | with_reducible refine Below.drew ?_ | with_reducible refine Bel_drewN ?_ _ | with_reducible refine Below.alloc ?_ (by first | omega | (simp; done) | (simp; omega)) _ | with_reducible refine Below.setCell ?_ (by first | omega | (simp; done) | (simp; omega)) _))
  clear hx hv hn
  go_enter Try.func28, Try.ntmps28
  go_wp2_with fail
  refine (l06Is_any r c xs n HX.out.2 ao ca _ _ _ HW.out (HX.out.1.below HB.out) hl).mono ?_
  rintro e w1 ⟨rfl, hb⟩
  rw [tabB_yes HV.out]
  have HB1 := Lib.hid (Bel_next HB.out hb)
  have HW1 := Lib.hid (HW.out.below hb)
  clear hb
  go_wp2_with fail
  refine (l06Sums_any r c xs n HX.out.2 ao ca _ _ _ HV.out HW1.out (HX.out.1.below HB1.out)).mono ?_
  rintro e w2 ⟨g1, g2, rfl, hg1, hg2, hr1, hr2, hb⟩
  have H : Hid (Row w2 w.heap.size w2.heap.size (some ⟨g2, 0, none⟩) (il (sumsL (fun k => k % c) c xs)) ∧ Below w.heap.size w w2) := Lib.hid ⟨hr2.row (by have := HB1.out.size; omega) hr2.lt, Bel_next HB1.out hb⟩
  clear hr1 hr2 hb hg1 hg2
  go_wp2_with fail
  go_ret2
  exact ⟨_, _, rfl, H.out⟩
theorem specColumnSums_no (r c : Int) (xs : List Int) (n : Nat) (hn : xs.length = n) (ao : Option Addr) (ca : Nat) (w : World) (hv : ¬isTab r c xs) (hx : Holds w ao (il xs)) (hl : n ≤ 1048576) :
    Calls Try.prog 28 #[.agg #[.int .i64 r, .int .i64 c, .slice ao n ca]] w (RetB (.tuple #[.slice none 0 0, .bool false]) w) := by
  have HX := Lib.hid (And.intro hx hn)
  have HV := Lib.hid hv
  have HW := Lib.hid (Whole.made w 27 #[.int .i64 r, .int .i64 c, .slice ao n ca])
  have HB : Hid (Below w.heap.size w (w.alloc (.cells #[.int .i64 r, .int .i64 c, .slice ao n ca] 27))) := Lib.hid (by repeat (first | with_reducible exact Below.refl _ _ | with_reducible exact HBL | with_reducible refine Below.drew ?_ | with_reducible refine Bel_drewN ?_ _ | with_reducible refine Below.alloc ?_ (by first | omega | (simp; done) | (simp; omega)) _ | with_reducible refine Below.setCell ?_ (by first | omega | (simp; done) | (simp; omega)) _))
  clear hx hv hn
  go_enter Try.func28, Try.ntmps28
  go_wp2_with fail
  refine (l06Is_any r c xs n HX.out.2 ao ca _ _ _ HW.out (HX.out.1.below HB.out) hl).mono ?_
  rintro e w1 ⟨rfl, hb⟩
  rw [tabB_no HV.out]
  have HB1 := Lib.hid (Bel_next HB.out hb)
  clear hb
  go_wp2_with fail
  go_ret2
  exact ⟨rfl, HB1.out⟩
end Go.Proofs.Ytekfnpaiflfmiaa
