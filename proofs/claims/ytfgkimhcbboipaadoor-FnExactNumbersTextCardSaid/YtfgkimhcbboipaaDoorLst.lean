/- Lists of float32: the law's helpers, and what is summed. -/
import Derived.Test.YtfgkimhcbboipaaDoorVag
import Derived.Test.YtfgkimhcbboipaaDoorNum
import Derived.Test.YtfgkimhcbboipaaDoorMm
import Derived.LoopTactic
namespace Go.Proofs.YtfgkimhcbboipaaDoor
open Go Go.RowKit Fl Vag

def fl (k : FloatKind) (xs : List Nat) : List Value := xs.map (Value.float k)
theorem fl_get (k : FloatKind) (xs : List Nat) (i : Nat) (h : i < xs.length) : (fl k xs).getD i undef = .float k (xs[i]?.getD 0) := by
  simp [fl, List.getD, h]

/-- Two lists of numbers that are the same, one after another, but for not-a-numbers' bits. -/
def Alike (k : FloatKind) (xs ys : List Nat) : Prop := xs.length = ys.length ∧ ∀ i, i < xs.length → av k (xs[i]?.getD 0) = av k (ys[i]?.getD 0)

set_option maxRecDepth 100000 in
set_option maxHeartbeats 400000 in
theorem eqFloat32S_yes (xs ys : List Nat) (hA : Alike .f32 xs ys) (ao bo : Option Addr) (ca cb : Nat) (w : World) (hx : Holds w ao (fl .f32 xs)) (hy : Holds w bo (fl .f32 ys)) (hlen : xs.length ≤ 1048576) :
    Calls Tryd.prog 30 #[.slice ao xs.length ca, .slice bo xs.length cb] w (Ret (.bool true) w) := by
  have HX := Lib.hid hx
  have HY := Lib.hid hy
  have HA := Lib.hid hA
  clear hx hy hA
  go_enter Tryd.func30, Tryd.ntmps30
  go_wp2
  go_loopw [5] (fun i wr => ∃ k : Nat, k ≤ xs.length ∧ i = .int .i64 k ∧ ∃ n, wr = w.drewN n) (fun i _ => xs.length - (intOf i).toNat)
  case atStart => exact ⟨0, Nat.zero_le _, rfl, 0, rfl⟩
  case round =>
    obtain ⟨k, hk, rfl, n, rfl⟩ := hrel
    by_cases hlt : k < xs.length
    · obtain ⟨b, o, rfl, hc⟩ := HX.out k (by simpa [fl] using hlt)
      obtain ⟨b', o', rfl, hc'⟩ := HY.out k (by have := HA.out.1; simp [fl]; omega)
      rw [fl_get _ _ _ hlt] at hc
      rw [fl_get _ _ _ (by have := HA.out.1; omega)] at hc'
      have hk' := HA.out.2 k hlt
      generalize xs[k]?.getD 0 = x at hc hk'
      generalize ys[k]?.getD 0 = y at hc' hk'
      have HAk := Lib.hid hk'
      clear hk'
      go_wp2
      refine wp_region_lex (C := Cw (w.drewN n)) (by kernel_rfl) (by kernel_rfl) ⟨1, rfl⟩ ?_
      repeat (first
        | (apply lex_move rfl (.inl rfl); (focus (simp [go_sem]; rfl)))
        | (apply lex_widen _ _ _ _ rfl Tryd.underlying81 Tryd.underlying84; (focus (intro r; simp [go_sem]; rfl)); intro r hr)
        | (apply lex_fn (.bool true); (focus kernel_rfl); (focus (intro m; go_simp; rfl)); (focus (intro m; refine Calls.mono (sameFloat_any _ _ (widen (av .f32 x)) ?_ ?_ _) ?_; (focus assumption); (focus (rw [HAk.out]; assumption)); rintro e w' ⟨q, rfl, rfl⟩; exact ⟨rfl, m + q, by simp [Nat.add_assoc]⟩)); (focus (simp [go_sem]; rfl)))
        | (apply lex_pure rfl; (focus (intro m; go_simp; rfl)); (focus (simp [go_sem]; rfl))))
      refine lex_nil ?_
      rintro _ ⟨m, rfl⟩
      go_wp2
      go_roundw
      case rel => exact ⟨k + 1, by omega, by go_num, _, rfl⟩
      case measure => simp [intOf]; omega
    · go_wp2
      go_ret
      exact ⟨_, rfl, rfl⟩

/-- A copy in new memory. -/
def CopiedF (n : Nat) (xs : List Value) (w : World) (e : Ending) (w' : World) : Prop :=
  ∃ B, e = .returned (.slice (some ⟨B, 0, none⟩) n n) ∧ Holds w' (some ⟨B, 0, none⟩) xs ∧ Below w.heap.size w w' ∧ w.heap.size ≤ B

@[go_sem] theorem run_store_float {P : Program} (w : World) (a : Addr) (k : FloatKind) (b : Nat) (m : Mode) : (store a (.float k b) m).run P w = stored P w a (.float k b) m := run_store P w a _ m rfl

set_option maxRecDepth 100000 in
set_option maxHeartbeats 400000 in
theorem toFloat32S_any (xs : List Nat) (ao : Option Addr) (c : Nat) (w : World) (hx : Holds w ao (fl .f32 xs)) (hlen : xs.length ≤ 1048576) :
    Calls Tryd.prog 28 #[.slice ao xs.length c] w (CopiedF xs.length (fl .f32 xs) w) := by
  have HX := Lib.hid hx
  clear hx
  have hmk := run_mk (P := Tryd.prog) w 36 81 (.float .f32 0) 4 xs.length Tryd.underlying36 (by kernel_rfl) rfl (by omega) (by omega)
  go_enter Tryd.func28, Tryd.ntmps28
  go_wp2
  go_loopw [4] (fun i wr => ∃ k : Nat, k ≤ xs.length ∧ i = .int .i64 k ∧ wr = w.alloc (.cells (fillA (fl .f32 xs) (.float .f32 0) k) 81)) (fun i _ => xs.length - (intOf i).toNat)
  case atStart => exact ⟨0, Nat.zero_le _, rfl, by rw [fillA_zero]; simp [fl]⟩
  case round =>
    obtain ⟨k, hk, rfl, rfl⟩ := hrel
    by_cases hlt : k < xs.length
    · obtain ⟨b, o, rfl, hc⟩ := HX.out k (by simpa [fl] using hlt)
      have HF := Lib.hid (fillA_set (fl .f32 xs) (.float .f32 0) k (by simpa [fl] using hlt))
      rw [fl_get _ _ _ hlt] at hc
      have hg := fl_get .f32 xs k hlt
      have hb := World.block_lt_of_cell? _ _ hc
      have hsz : k < (fillA (fl .f32 xs) (.float .f32 0) k).size := by rw [fillA_size _ _ _ (by simp [fl]; omega)]; simpa [fl] using hlt
      generalize hx : xs[k]?.getD 0 = x at hc hg
      have HG := Lib.hid hg
      have HC := Lib.hid (cell_old w (.cells (fillA (fl .f32 xs) (.float .f32 0) k) 81) hc)
      clear hx hg
      generalize hA : fillA (fl .f32 xs) (.float .f32 0) k = A at *
      have HA := Lib.hid hA
      clear hA
      have hcA := HC.out
      go_wp2
      go_roundw
      case rel => exact ⟨k + 1, by omega, by go_num, by rw [← HF.out, HG.out]⟩
      case measure => simp [intOf]; omega
    · have HE := Lib.hid (fillA_all (fl .f32 xs) (.float .f32 0) k (by simp [fl]; omega))
      go_wp2
      go_ret
      refine ⟨w.heap.size, rfl, ?_, (Below.refl _ _).alloc (Nat.le_refl _) _, Nat.le_refl _⟩
      rw [HE.out]
      exact holds_new _ _ _

/-! ### Sums -/
/-- The sum from left to right, beginning with +0. -/
def sumA (k : FloatKind) (xs : List Nat) : Option Nat := xs.foldl (fun s x => aop .add k s (av k x)) (some 0)
theorem sumA_snoc (k : FloatKind) (xs : List Nat) (x : Nat) : sumA k (xs ++ [x]) = aop .add k (sumA k xs) (av k x) := by simp [sumA]
theorem take_next (xs : List Nat) (k : Nat) (h : k < xs.length) : xs.take (k + 1) = xs.take k ++ [xs[k]?.getD 0] := by
  rw [List.take_succ_eq_append_getElem h]; simp [h]
theorem take_whole (xs : List Nat) (k : Nat) (h : xs.length ≤ k) : xs.take k = xs := List.take_of_length_le h
theorem Fv_zero (k : FloatKind) : Fv k (some 0) 0 := ⟨Nat.two_pow_pos _, av_zero k⟩
theorem Fv.of_eq {k : FloatKind} {u v : Option Nat} {r : Nat} (h : Fv k u r) (e : u = v) : Fv k v r := e ▸ h

/-- Two results, the first known but for a not-a-number's bits. -/
def Two (k : FloatKind) (v : Option Nat) (w : World) (e : Ending) (w' : World) : Prop := ∃ r n, e = .returned (.tuple #[.float k r, .bool true]) ∧ Fv k v r ∧ w' = w.drewN n
def Num (k : FloatKind) (v : Option Nat) (w : World) (e : Ending) (w' : World) : Prop := ∃ r n, e = .returned (.float k r) ∧ Fv k v r ∧ w' = w.drewN n

theorem l01Few_any (n : Nat) (ao : Option Addr) (c : Nat) (w : World) :
    Calls Tryd.prog 67 #[.slice ao n c] w (fun e w' => e = .returned (.bool (decide ((n : Int) ≤ 256))) ∧ w = w') := by
  go_enter Tryd.func67, Tryd.ntmps67
  go_wp2
  go_ret
  exact ⟨rfl, rfl⟩
end Go.Proofs.YtfgkimhcbboipaaDoor
