/- Lists of float32: the law's helpers, and what is summed. -/
import Derived.Test.YtgkkimocmpgfkadVag
import Derived.Test.YtgkkimocmpgfkadNum
import Derived.LoopTactic
namespace Go.Proofs.Ytgkkimocmpgfkad
open Go Go.RowKit Fl Vag

theorem Bel_drewN {B : Nat} {W w' : World} (h : Below B W w') (n : Nat) : Below B W (w'.drewN n) := ⟨h.os, h.tape, h.output, h.size, h.block⟩
theorem Bel_next {W w w' : World} (h : Below W.heap.size W w) (k : Below w.heap.size w w') : Below W.heap.size W w' := h.trans (k.mono h.size)

/-- In 'w' the slice value with this address holds these values. -/
def Holds (w : World) (ao : Option Addr) (xs : List Value) : Prop := ∀ i, i < xs.length → ∃ b o, ao = some ⟨b, o, none⟩ ∧ w.cell? ⟨b, o + i, none⟩ = some (xs.getD i undef)

theorem Holds.below {w w' : World} {ao : Option Addr} {xs : List Value} (h : Holds w ao xs) (hb : Below w.heap.size w w') : Holds w' ao xs := fun i hi => by
  obtain ⟨b, o, e, hc⟩ := h i hi
  exact ⟨b, o, e, by rw [hb.cell (World.block_lt_of_cell? _ _ hc)]; exact hc⟩
theorem Holds.drewN {w : World} {ao : Option Addr} {xs : List Value} (h : Holds w ao xs) (n : Nat) : Holds (w.drewN n) ao xs := h

/-- What a copy being made holds after k rounds. -/
def fillA (xs : List Value) (z : Value) (k : Nat) : Array Value := (xs.take k ++ List.replicate (xs.length - k) z).toArray
theorem fillA_zero (xs : List Value) (z : Value) : fillA xs z 0 = Array.replicate xs.length z := by simp [fillA]
theorem fillA_all (xs : List Value) (z : Value) (k : Nat) (h : xs.length ≤ k) : fillA xs z k = xs.toArray := by
  unfold fillA; rw [List.take_of_length_le h, show xs.length - k = 0 by omega]; simp
theorem fillA_set (xs : List Value) (z : Value) (k : Nat) (h : k < xs.length) : (fillA xs z k).setIfInBounds k (xs.getD k undef) = fillA xs z (k + 1) := by
  have e : xs.length - k = xs.length - (k + 1) + 1 := by omega
  have hl : (xs.take k).length = k := by simp; omega
  unfold fillA
  rw [e, List.replicate_succ, List.setIfInBounds_toArray, List.set_append_right k (xs.getD k undef) (by omega), hl, Nat.sub_self, List.set_cons_zero, List.take_succ_eq_append_getElem h]
  simp [List.getD, h, -List.take_append_getElem]
theorem fillA_size (xs : List Value) (z : Value) (k : Nat) (h : k ≤ xs.length) : (fillA xs z k).size = xs.length := by simp [fillA]; omega
theorem holds_new (w : World) (xs : List Value) (t : TypeId) : Holds (w.alloc (.cells xs.toArray t)) (some ⟨w.heap.size, 0, none⟩) xs := fun i hi =>
  ⟨_, _, rfl, by rw [World.cell?_alloc_at _ _ _ _ rfl]; simp [List.getD, hi]⟩

def fl (k : FloatKind) (xs : List Nat) : List Value := xs.map (Value.float k)
theorem fl_get (k : FloatKind) (xs : List Nat) (i : Nat) (h : i < xs.length) : (fl k xs).getD i undef = .float k (xs[i]?.getD 0) := by
  simp [fl, List.getD, h]

/-- Two lists of numbers that are the same, one after another, but for not-a-numbers' bits. -/
def Alike (k : FloatKind) (xs ys : List Nat) : Prop := xs.length = ys.length ∧ ∀ i, i < xs.length → av k (xs[i]?.getD 0) = av k (ys[i]?.getD 0)

set_option maxHeartbeats 400000 in
theorem eqFloat32S_yes (xs ys : List Nat) (hA : Alike .f32 xs ys) (ao bo : Option Addr) (ca cb : Nat) (w : World) (hx : Holds w ao (fl .f32 xs)) (hy : Holds w bo (fl .f32 ys)) (hlen : xs.length ≤ 1048576) :
    Calls Try.prog 20 #[.slice ao xs.length ca, .slice bo xs.length cb] w (Ret (.bool true) w) := by
  have HX := Lib.hid hx
  have HY := Lib.hid hy
  have HA := Lib.hid hA
  clear hx hy hA
  go_enter Try.func20, Try.ntmps20
  go_wp2
  go_loopw [5] (fun i wr => ∃ k : Nat, k ≤ xs.length ∧ i = .int .i64 k ∧ ∃ n, wr = w.drewN n) (fun i _ => xs.length - (intOf i).toNat)
  case atStart => exact ⟨0, Nat.zero_le _, rfl, 0, rfl⟩
  case round =>
    obtain ⟨k, hk, rfl, n, rfl⟩ := hrel
    by_cases hlt : k < xs.length
    · obtain ⟨b, o, rfl, hc⟩ := HX.out k (by simpa [fl] using hlt)
      obtain ⟨b', o', rfl, hc'⟩ := HY.out k (by have := HA.out.1; simp [fl]; omega)
      rw [fl_get _ _ _ hlt] at hc
      rw [fl_get _ _ _ (by have := HA.out.1; omega)] at hc'
      have hk' := HA.out.2 k hlt
      generalize xs[k]?.getD 0 = x at hc hk'
      generalize ys[k]?.getD 0 = y at hc' hk'
      have HAk := Lib.hid hk'
      clear hk'
      go_wp2
      refine wp_region_lex (C := Cw (w.drewN n)) (by kernel_rfl) (by kernel_rfl) ⟨1, rfl⟩ ?_
      repeat (first
        | (apply lex_move rfl (.inl rfl); (focus (simp [go_sem]; rfl)))
        | (apply lex_widen _ _ _ _ rfl Try.underlying22 Try.underlying25; (focus (intro r; simp [go_sem]; rfl)); intro r hr)
        | (apply lex_fn (.bool true); (focus kernel_rfl); (focus (intro m; go_simp; rfl)); (focus (intro m; refine Calls.mono (sameFloat_any _ _ (widen (av .f32 x)) ?_ ?_ _) ?_; (focus assumption); (focus (rw [HAk.out]; assumption)); rintro e w' ⟨q, rfl, rfl⟩; exact ⟨rfl, m + q, by simp [Nat.add_assoc]⟩)); (focus (simp [go_sem]; rfl)))
        | (apply lex_pure rfl; (focus (intro m; go_simp; rfl)); (focus (simp [go_sem]; rfl))))
      refine lex_nil ?_
      rintro _ ⟨m, rfl⟩
      go_wp2
      go_roundw
      case rel => exact ⟨k + 1, by omega, by go_num, _, rfl⟩
      case measure => simp [intOf]; omega
    · go_wp2
      go_ret
      exact ⟨_, rfl, rfl⟩

/-- A copy in new memory. -/
def Copied (n : Nat) (xs : List Value) (w : World) (e : Ending) (w' : World) : Prop :=
  ∃ B, e = .returned (.slice (some ⟨B, 0, none⟩) n n) ∧ Holds w' (some ⟨B, 0, none⟩) xs ∧ Below w.heap.size w w' ∧ w.heap.size ≤ B

theorem run_mk {P : Program} (w : World) (t e : TypeId) (z : Value) (bytes n : Nat) (ht : P.underlying t = some (.slice e)) (hi : (P.info? e).map (fun i => (i.zero, i.size, i.bytes)) = some (some z, 1, bytes)) (hz : z.cells = #[z])
    (hb : bytes * n ≤ 281474976710656) (hn : n ≤ 1048577) :
    (Instr.makeSlice t (.int .i64 n) (.int .i64 n)).run P w = .ok (.slice (some ⟨w.heap.size, 0, none⟩) n n) (w.alloc (.cells (Array.replicate n z) e)) := by
  obtain ⟨i, hi, h1, h2, h3⟩ := info_parts hi
  have hb' : (i.bytes : Int) * (n : Int) ≤ 281474976710656 := by
    rw [h3]
    have h : ((bytes * n : Nat) : Int) ≤ 281474976710656 := by omega
    rwa [Int.natCast_mul] at h
  rw [run_make w t e i z ht hi h1 .i64 .i64 n n (by omega) (Int.le_refl _) hb' (by omega)]
  have : madeCells z.cells ((n : Int).toNat * i.size) = Array.replicate n z := by
    rw [hz, h2, Int.toNat_natCast, Nat.mul_one]
    unfold madeCells
    apply Array.ext
    · simp
    · intro j h1 h2
      simp [Nat.mod_one]
  rw [this]; simp

theorem cell_old (w : World) (o : Obj) {a : Addr} {v : Value} (h : w.cell? a = some v) : (w.alloc o).cell? a = some v := by
  rw [World.cell?_alloc_lt _ _ _ (World.block_lt_of_cell? _ _ h)]; exact h

@[go_sem] theorem run_store_float {P : Program} (w : World) (a : Addr) (k : FloatKind) (b : Nat) (m : Mode) : (store a (.float k b) m).run P w = stored P w a (.float k b) m := run_store P w a _ m rfl

set_option maxHeartbeats 400000 in
theorem toFloat32S_any (xs : List Nat) (ao : Option Addr) (c : Nat) (w : World) (hx : Holds w ao (fl .f32 xs)) (hlen : xs.length ≤ 1048576) :
    Calls Try.prog 18 #[.slice ao xs.length c] w (Copied xs.length (fl .f32 xs) w) := by
  have HX := Lib.hid hx
  clear hx
  have hmk := run_mk (P := Try.prog) w 29 22 (.float .f32 0) 4 xs.length Try.underlying29 (by kernel_rfl) rfl (by omega) (by omega)
  go_enter Try.func18, Try.ntmps18
  go_wp2
  go_loopw [4] (fun i wr => ∃ k : Nat, k ≤ xs.length ∧ i = .int .i64 k ∧ wr = w.alloc (.cells (fillA (fl .f32 xs) (.float .f32 0) k) 22)) (fun i _ => xs.length - (intOf i).toNat)
  case atStart => exact ⟨0, Nat.zero_le _, rfl, by rw [fillA_zero]; simp [fl]⟩
  case round =>
    obtain ⟨k, hk, rfl, rfl⟩ := hrel
    by_cases hlt : k < xs.length
    · obtain ⟨b, o, rfl, hc⟩ := HX.out k (by simpa [fl] using hlt)
      have HF := Lib.hid (fillA_set (fl .f32 xs) (.float .f32 0) k (by simpa [fl] using hlt))
      rw [fl_get _ _ _ hlt] at hc
      have hg := fl_get .f32 xs k hlt
      have hb := World.block_lt_of_cell? _ _ hc
      have hsz : k < (fillA (fl .f32 xs) (.float .f32 0) k).size := by rw [fillA_size _ _ _ (by simp [fl]; omega)]; simpa [fl] using hlt
      generalize hx : xs[k]?.getD 0 = x at hc hg
      have HG := Lib.hid hg
      have HC := Lib.hid (cell_old w (.cells (fillA (fl .f32 xs) (.float .f32 0) k) 22) hc)
      clear hx hg
      generalize hA : fillA (fl .f32 xs) (.float .f32 0) k = A at *
      have HA := Lib.hid hA
      clear hA
      have hcA := HC.out
      go_wp2
      go_roundw
      case rel => exact ⟨k + 1, by omega, by go_num, by rw [← HF.out, HG.out]⟩
      case measure => simp [intOf]; omega
    · have HE := Lib.hid (fillA_all (fl .f32 xs) (.float .f32 0) k (by simp [fl]; omega))
      go_wp2
      go_ret
      refine ⟨w.heap.size, rfl, ?_, (Below.refl _ _).alloc (Nat.le_refl _) _, Nat.le_refl _⟩
      rw [HE.out]
      exact holds_new _ _ _

/-! ### Sums -/
/-- The sum from left to right, beginning with +0. -/
def sumA (k : FloatKind) (xs : List Nat) : Option Nat := xs.foldl (fun s x => aop .add k s (av k x)) (some 0)
theorem sumA_snoc (k : FloatKind) (xs : List Nat) (x : Nat) : sumA k (xs ++ [x]) = aop .add k (sumA k xs) (av k x) := by simp [sumA]
theorem take_next (xs : List Nat) (k : Nat) (h : k < xs.length) : xs.take (k + 1) = xs.take k ++ [xs[k]?.getD 0] := by
  rw [List.take_succ_eq_append_getElem h]; simp [h]
theorem take_whole (xs : List Nat) (k : Nat) (h : xs.length ≤ k) : xs.take k = xs := List.take_of_length_le h
theorem Fv_zero (k : FloatKind) : Fv k (some 0) 0 := ⟨Nat.two_pow_pos _, av_zero k⟩
theorem Fv.of_eq {k : FloatKind} {u v : Option Nat} {r : Nat} (h : Fv k u r) (e : u = v) : Fv k v r := e ▸ h

/-- Two results, the first known but for a not-a-number's bits. -/
def Two (k : FloatKind) (v : Option Nat) (w : World) (e : Ending) (w' : World) : Prop := ∃ r n, e = .returned (.tuple #[.float k r, .bool true]) ∧ Fv k v r ∧ w' = w.drewN n
def Num (k : FloatKind) (v : Option Nat) (w : World) (e : Ending) (w' : World) : Prop := ∃ r n, e = .returned (.float k r) ∧ Fv k v r ∧ w' = w.drewN n

set_option maxHeartbeats 400000 in
theorem implSum_in (xs : List Nat) (ao : Option Addr) (c : Nat) (w : World) (hx : Holds w ao (fl .f32 xs)) (hlen : xs.length ≤ 256) :
    Calls Try.prog 19 #[.slice ao xs.length c] w (Two .f32 (sumA .f32 xs) w) := by
  have HX := Lib.hid hx
  clear hx
  have hl' : (xs.length : Int) ≤ 256 := by omega
  go_enter Try.func19, Try.ntmps19
  go_wp2
  go_loopw [4, 12] (fun s i wr => ∃ k : Nat, k ≤ xs.length ∧ i = .int .i64 k ∧ ∃ r n, s = .float .f32 r ∧ Fv .f32 (sumA .f32 (xs.take k)) r ∧ wr = w.drewN n) (fun _ i _ => xs.length - (intOf i).toNat)
  case atStart => exact ⟨0, Nat.zero_le _, rfl, 0, 0, rfl, Fv_zero _, rfl⟩
  case round =>
    obtain ⟨k, hk, rfl, r, n, rfl, hr, rfl⟩ := hrel
    have HR := Lib.hid hr
    clear hr
    by_cases hlt : k < xs.length
    · obtain ⟨b, o, rfl, hc⟩ := HX.out k (by simpa [fl] using hlt)
      rw [fl_get _ _ _ hlt] at hc
      have HT := Lib.hid (take_next xs k hlt)
      generalize xs[k]?.getD 0 = x at hc HT
      go_wp2_with (refine wpList_farith _ _ _ _ _ .f32 _ _ rfl rfl rfl ?_; intro r' n' hr')
      go_roundw
      case rel => exact ⟨k + 1, by omega, by go_num, r', n + n', rfl, by rw [HT.out, sumA_snoc, ← HR.out.2]; exact hr', rfl⟩
      case measure => simp [intOf]; omega
    · have HE := Lib.hid (take_whole xs k (by omega))
      go_wp2
      go_ret2
      exact ⟨r, n, rfl, by rw [← HE.out]; exact HR.out, rfl⟩
theorem implSum_out (xs : List Nat) (ao : Option Addr) (c : Nat) (w : World) (hlen : ¬ xs.length ≤ 256) :
    Calls Try.prog 19 #[.slice ao xs.length c] w (fun e w' => e = .returned (.tuple #[.float .f32 0, .bool false]) ∧ w = w') := by
  have hl' : (256 : Int) < (xs.length : Int) := by omega
  clear hlen
  go_enter Try.func19, Try.ntmps19
  go_wp2
  go_ret2
  exact ⟨rfl, rfl⟩
theorem l01Few_any (n : Nat) (ao : Option Addr) (c : Nat) (w : World) :
    Calls Try.prog 38 #[.slice ao n c] w (fun e w' => e = .returned (.bool (decide ((n : Int) ≤ 256))) ∧ w = w') := by
  go_enter Try.func38, Try.ntmps38
  go_wp2
  go_ret
  exact ⟨rfl, rfl⟩
set_option maxHeartbeats 400000 in
theorem l01Sum_any (xs : List Nat) (ao : Option Addr) (c : Nat) (w : World) (hx : Holds w ao (fl .f32 xs)) (hlen : xs.length ≤ 1048576) :
    Calls Try.prog 39 #[.slice ao xs.length c] w (Num .f32 (sumA .f32 xs) w) := by
  have HX := Lib.hid hx
  clear hx
  go_enter Try.func39, Try.ntmps39
  go_wp2
  go_loopw [3, 4] (fun s i wr => ∃ k : Nat, k ≤ xs.length ∧ i = .int .i64 k ∧ ∃ r n, s = .float .f32 r ∧ Fv .f32 (sumA .f32 (xs.take k)) r ∧ wr = w.drewN n) (fun _ i _ => xs.length - (intOf i).toNat)
  case atStart => exact ⟨0, Nat.zero_le _, rfl, 0, 0, rfl, Fv_zero _, rfl⟩
  case round =>
    obtain ⟨k, hk, rfl, r, n, rfl, hr, rfl⟩ := hrel
    have HR := Lib.hid hr
    clear hr
    by_cases hlt : k < xs.length
    · obtain ⟨b, o, rfl, hc⟩ := HX.out k (by simpa [fl] using hlt)
      rw [fl_get _ _ _ hlt] at hc
      have HT := Lib.hid (take_next xs k hlt)
      generalize xs[k]?.getD 0 = x at hc HT
      go_wp2_with (refine wpList_farith _ _ _ _ _ .f32 _ _ rfl rfl rfl ?_; intro r' n' hr')
      go_roundw
      case rel => exact ⟨k + 1, by omega, by go_num, r', n + n', rfl, by rw [HT.out, sumA_snoc, ← HR.out.2]; exact hr', rfl⟩
      case measure => simp [intOf]; omega
    · have HE := Lib.hid (take_whole xs k (by omega))
      go_wp2
      go_ret
      exact ⟨r, n, rfl, by rw [← HE.out]; exact HR.out, rfl⟩
theorem specSum_in (xs : List Nat) (ao : Option Addr) (c : Nat) (w : World) (hx : Holds w ao (fl .f32 xs)) (hlen : xs.length ≤ 256) :
    Calls Try.prog 17 #[.slice ao xs.length c] w (Two .f32 (sumA .f32 xs) w) := by
  have HX := Lib.hid hx
  clear hx
  have hl' : decide ((xs.length : Int) ≤ 256) = true := by simp; omega
  go_enter Try.func17, Try.ntmps17
  go_wp2_with (first | (go_at_call 38; refine (l01Few_any _ _ _ _).mono ?_; rintro e w' ⟨rfl, rfl⟩) | (go_at_call 39; refine (l01Sum_any xs _ _ _ HX.out (by omega)).mono ?_; rintro e w' ⟨r, n, rfl, hr, rfl⟩))
  go_ret2
  exact ⟨r, n, rfl, hr, rfl⟩
theorem specSum_out (xs : List Nat) (ao : Option Addr) (c : Nat) (w : World) (hlen : ¬ xs.length ≤ 256) :
    Calls Try.prog 17 #[.slice ao xs.length c] w (fun e w' => e = .returned (.tuple #[.float .f32 0, .bool false]) ∧ w = w') := by
  have hl' : decide ((xs.length : Int) ≤ 256) = false := by simp; omega
  clear hlen
  go_enter Try.func17, Try.ntmps17
  go_wp2_with (first | (go_at_call 38; refine (l01Few_any _ _ _ _).mono ?_; rintro e w' ⟨rfl, rfl⟩))
  go_ret2
  exact ⟨rfl, rfl⟩
theorem alike_self (k : FloatKind) (xs : List Nat) : Alike k xs xs := ⟨rfl, fun _ _ => rfl⟩
set_option maxHeartbeats 400000 in
theorem FnExactSumNumbers_walk (xs : List Nat) (ao : Option Addr) (c : Nat) (w : World) (hx : Holds w ao (fl .f32 xs)) :
    Calls Try.prog 6 #[.slice ao xs.length c] w fun e w' => e = .returned (.bool true) ∧ Below w.heap.size w w' := by
  by_cases hlong : 1048576 < xs.length
  · have hlong' : (1048576 : Int) < (xs.length : Int) := by omega
    clear hx
    go_enter Try.func6, Try.ntmps6
    go_wp2
    go_ret
    exact ⟨rfl, Below.refl _ _⟩
  · have hshort : (xs.length : Int) ≤ 1048576 := by omega
    have hl : xs.length ≤ 1048576 := by omega
    have HX := Lib.hid hx
    clear hx hlong
    by_cases hlen : xs.length ≤ 256
    · go_enter Try.func6, Try.ntmps6
      go_wp2_with fail
      refine (toFloat32S_any xs _ _ _ HX.out hl).mono ?_
      rintro e w1 ⟨B1, rfl, hB1, bel1, le1⟩
      have HB1 := Lib.hid hB1
      have HX1 := Lib.hid (HX.out.below bel1)
      clear hB1
      go_wp2_with fail
      refine (specSum_in xs _ _ _ HB1.out hlen).mono ?_
      rintro e w' ⟨r1, n1, rfl, hr1, rfl⟩
      go_wp2_with fail
      refine (toFloat32S_any xs _ _ _ (HX1.out.drewN n1) hl).mono ?_
      rintro e w2 ⟨B2, rfl, hB2, bel2, le2⟩
      have HB2 := Lib.hid hB2
      have HX2 := Lib.hid ((HX1.out.drewN n1).below bel2)
      clear hB2
      go_wp2_with fail
      refine (implSum_in xs _ _ _ HB2.out hlen).mono ?_
      rintro e w' ⟨r2, n2, rfl, hr2, rfl⟩
      go_wp2_with (first | (refine wpList_widen _ _ _ _ rfl Try.underlying22 Try.underlying25 ?_; intro r n hr) | (go_at_call 12; fail))
      refine (sameFloat_any _ _ (widen (sumA .f32 xs)) (by rw [← hr2.2]; assumption) (by rw [← hr1.2]; assumption) _).mono ?_
      rintro e w' ⟨n3, rfl, rfl⟩
      go_wp2_with fail
      refine (toFloat32S_any xs _ _ _ (HX2.out.drewN _) hl).mono ?_
      rintro e w3 ⟨B3, rfl, hB3, bel3, le3⟩
      have HB3 := Lib.hid hB3
      have HB2' := Lib.hid ((HB2.out.drewN _).below bel3)
      clear hB3
      go_wp2_with fail
      refine (eqFloat32S_yes xs xs (alike_self _ _) _ _ _ _ _ HB2'.out HB3.out hl).mono ?_
      rintro e w' ⟨n4, rfl, rfl⟩
      go_wp2_with fail
      go_ret
      exact ⟨rfl, Bel_drewN (Bel_next (Bel_drewN (Bel_next (Bel_drewN bel1 n1) bel2) _) bel3) n4⟩
    · clear hshort
      have hshort : (xs.length : Int) ≤ 1048576 := by omega
      go_enter Try.func6, Try.ntmps6
      go_wp2_with fail
      refine (toFloat32S_any xs _ _ _ HX.out hl).mono ?_
      rintro e w1 ⟨B1, rfl, hB1, bel1, le1⟩
      have HX1 := Lib.hid (HX.out.below bel1)
      clear hB1
      go_wp2_with fail
      refine (specSum_out xs _ _ _ hlen).mono ?_
      rintro e w' ⟨rfl, rfl⟩
      go_wp2_with fail
      refine (toFloat32S_any xs _ _ _ HX1.out hl).mono ?_
      rintro e w2 ⟨B2, rfl, hB2, bel2, le2⟩
      have HB2 := Lib.hid hB2
      have HX2 := Lib.hid (HX1.out.below bel2)
      clear hB2
      go_wp2_with fail
      refine (implSum_out xs _ _ _ hlen).mono ?_
      rintro e w' ⟨rfl, rfl⟩
      go_wp2_with (first | (refine wpList_widen _ _ _ _ rfl Try.underlying22 Try.underlying25 ?_; intro r n hr) | (go_at_call 12; fail))
      refine (sameFloat_any _ _ (widen (av .f32 0)) (by assumption) (by assumption) _).mono ?_
      rintro e w' ⟨n3, rfl, rfl⟩
      go_wp2_with fail
      refine (toFloat32S_any xs _ _ _ (HX2.out.drewN _) hl).mono ?_
      rintro e w3 ⟨B3, rfl, hB3, bel3, le3⟩
      have HB3 := Lib.hid hB3
      have HB2' := Lib.hid ((HB2.out.drewN _).below bel3)
      clear hB3
      go_wp2_with fail
      refine (eqFloat32S_yes xs xs (alike_self _ _) _ _ _ _ _ HB2'.out HB3.out hl).mono ?_
      rintro e w' ⟨n4, rfl, rfl⟩
      go_wp2_with fail
      go_ret
      exact ⟨rfl, Bel_drewN (Bel_next (Bel_drewN (Bel_next bel1 bel2) _) bel3) n4⟩
end Go.Proofs.Ytgkkimocmpgfkad
