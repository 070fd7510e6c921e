/- l07Step of the model. -/
import Derived.Test.YtgeomaeccalceaaSrw
namespace Go.Proofs.Ytgeomaeccalceaa
open Go Go.RowKit Fl Vag
set_option linter.unusedVariables false
theorem own_heap7 {w w' : World} {base : Nat} {e : TypeId} {size : Nat} {v : Value} {n : Nat} {xs : List Value} (h : w.ownsRow base e size v n xs) (hh : w'.heap = w.heap) : w'.ownsRow base e size v n xs := by
  unfold World.ownsRow at h ⊢
  rw [hh]; exact h
set_option maxRecDepth 100000 in
set_option maxHeartbeats 4000000 in
theorem l07Step_any (ss xs : List Nat) (vs : Nat → Option Nat) (n g b o m c ca : Nat) (ao : Option Addr) (w : World) (hw : Whole w g 34 #[.int .i64 n, .slice (some ⟨b, o, none⟩) m c]) (hs : Holds w (some ⟨b, o, none⟩) (fl .f32 ss)) (hx : Holds w ao (fl .f32 xs)) (hn1 : 1 ≤ n) (hn : n ≤ 12) (hm : m = n * n) (hl : ss.length = m) (hxl : xs.length = n) (hv : ∀ i, i < n → av .f32 (xs[i]?.getD 0) = vs i) :
    Calls Try.prog 88 #[.pointer (some ⟨g, 0, none⟩), .slice ao n ca] w (RetFz n (fun k => accV n ss vs k n) w) := by
  have HX := Lib.hid (And.intro hs (And.intro hx hw))
  have HN := Lib.hid (And.intro hm (And.intro hl (And.intro hxl hv)))
  have hn12 : (n : Int) ≤ 12 := by omega
  have hm144 : (m : Int) ≤ 144 := by have := sq_le hn; omega
  clear hs hx hm hl hxl hv hw
  go_enter Try.func88, Try.ntmps88
  go_wp2_with fail
  go_loopw [5, 6] (fun v i wr => ∃ (k : Nat) (ds : List Nat), k ≤ n ∧ i = .int .i64 k ∧ ds.length = k ∧ (∀ j, j < k → av .f32 (ds[j]?.getD 0) = accV n ss vs j n) ∧ wr.ownsRow w.heap.size 47 1 v k (fl .f32 ds) ∧ Below w.heap.size w wr) (fun _ i _ => n - (intOf i).toNat)
  case atStart => exact ⟨0, [], Nat.zero_le _, rfl, rfl, fun j hj => absurd hj (Nat.not_lt_zero _), World.ownsRow_made _ _ _ (Nat.le_refl _) (Nat.zero_le _) rfl, (by repeat (first | with_reducible exact Below.refl _ _ | with_reducible exact HBL | with_reducible refine Below.drew ?_ | with_reducible refine Bel_drewN ?_ _ | with_reducible refine Below.alloc ?_ (by first | omega | (simp; done) | (simp; omega)) _ | with_reducible refine Below.setCell ?_ (by first | omega | (simp; done) | (simp; omega)) _))⟩
  case round =>
    obtain ⟨k, ds, hk, rfl, hdl, hds, hown, hbel⟩ := hrel
    have H := Lib.hid (And.intro hown hbel)
    have HD := Lib.hid (And.intro hdl hds)
    have hcg := (HX.out.2.2.below hbel).cell
    have hzr := hbel.size
    have hkn : (k : Int) ≤ n := by omega
    clear hdl hds hown hbel
    by_cases hlt : k < n
    · have hlt' : (k : Int) < n := by omega
      go_wp2_with fail
      rename World => wa
      go_loopw [7, 20] (fun s i wr => ∃ (j r q : Nat), j ≤ n ∧ i = .int .i64 j ∧ s = .float .f32 r ∧ av .f32 r = accV n ss vs k j ∧ wr = wa.drewN q) (fun _ i _ => n - (intOf i).toNat)
      case atStart => exact ⟨0, 0, 0, Nat.zero_le _, rfl, rfl, av_zero .f32, rfl⟩
      case round =>
        obtain ⟨j, r, q, hj, rfl, rfl, hr, rfl⟩ := hrel
        have HR := Lib.hid hr
        clear hr
        have hjn : (j : Int) ≤ n := by omega
        by_cases hlt2 : j < n
        · have hlt2' : (j : Int) < n := by omega
          have hin := row_in hlt2
          obtain ⟨jn, hjn2⟩ : ∃ jn, j * n = jn := ⟨_, rfl⟩
          obtain ⟨f, hf⟩ : ∃ f, jn + k = f := ⟨_, rfl⟩
          have hfm : f < m := by rw [HN.out.1]; omega
          have hw1 : IntKind.i64.wrap ((j : Int) * (n : Int)) = (jn : Int) := by rw [← Int.natCast_mul, hjn2, IntKind.wrap_i64]; omega
          have hw2 : IntKind.i64.wrap ((jn : Int) + (k : Int)) = (f : Int) := by rw [IntKind.wrap_i64]; omega
          obtain ⟨b', o', e', hcs⟩ := (HX.out.1.below H.out.2) f (by rw [fl_len32, HN.out.2.1]; exact hfm)
          cases e'
          rw [fl_get _ _ _ (by rw [HN.out.2.1]; exact hfm)] at hcs
          obtain ⟨b2, o2, rfl, hcx⟩ := (HX.out.2.1.below H.out.2) j (by rw [fl_len32, HN.out.2.2.1]; exact hlt2)
          rw [fl_get _ _ _ (by rw [HN.out.2.2.1]; exact hlt2)] at hcx
          have HV := Lib.hid (HN.out.2.2.2 j hlt2)
          have HC : Hid (accV n ss vs k (j + 1) = aop .add .f32 (accV n ss vs k j) (aop .mul .f32 (vs j) (av .f32 (ss[f]?.getD 0)))) := Lib.hid (by rw [← hf, ← hjn2]; rfl)
          generalize xs[j]?.getD 0 = x at hcx HV
          generalize ss[f]?.getD 0 = z at hcs HC
          have hf0 : (0 : Int) ≤ (f : Int) := by omega
          have hfl : (f : Int) < (m : Int) := by omega
          clear hin hjn2 hf hfm
          go_wp2_with fail
          refine wp_region_lex (C := Cw (wa.drewN q)) (by kernel_rfl) (by kernel_rfl) ⟨1, rfl⟩ ?_
          repeat (first
            | (apply lex_move rfl (.inl rfl); (focus (simp [go_sem]; rfl)))
            | (apply lex_move rfl (.inr rfl); (focus (simp [go_sem]; rfl)))
            | (apply lex_farith .mul _ _ _ _ .f32 _ _ rfl rfl rfl; (focus (intro r; simp [go_sem]; rfl)); intro r1 hr1)
            | (apply lex_farith .add _ _ _ _ .f32 _ _ rfl rfl rfl; (focus (intro r; simp [go_sem]; rfl)); intro r2 hr2)
            | (apply lex_pure rfl; (focus (intro m; go_simp; rfl)); (focus (simp [go_sem]; rfl))))
          refine lex_nil ?_
          rintro _ ⟨m2, rfl⟩
          have HV2 : Hid (av .f32 r2 = accV n ss vs k (j + 1)) := Lib.hid (by rw [HC.out, ← HR.out, ← HV.out, ← hr1.2]; exact hr2.2)
          clear hr1 hr2 hcx hcs HV HC hw1 hw2 hf0 hfl
          go_wp2
          go_roundw
          case rel => exact ⟨j + 1, r2, _, by omega, by go_num, rfl, HV2.out, rfl⟩
          case measure => simp [intOf]; omega
        · obtain rfl : j = n := by omega
          obtain ⟨wq, hwq⟩ : ∃ wq, wq = wa.drewN q := ⟨_, rfl⟩
          have H2 := Lib.hid (show Below w.heap.size w wq ∧ wq.ownsRow w.heap.size 47 1 u5 k (fl .f32 ds) from by rw [hwq]; exact ⟨Bel_drewN H.out.2 _, own_heap7 H.out.1 rfl⟩)
          have hzq := H2.out.1.size
          rw [← hwq]
          clear hwq hcg hzr H
          go_wp2_with (at_builtin; refine wpList_app1 rfl _ _ 25 rfl w.heap.size 47 (.float .f32 0) 4 Try.underlying25 (by kernel_rfl) rfl _ k _ rfl (H2.out.2.alloc _) _ _ (.float .f32 r) rfl ?_ rfl ⟨by omega, by omega⟩ ?_ ?_)
          · exact (Whole.made wq 47 #[.float .f32 r]).cell 0
          · simp; omega
          · intro v' w' hown' hgr'
            have hb2 : Below w.heap.size w w' := by
              have h1 : Below w.heap.size w (wq.alloc (.cells #[.float .f32 r] 47)) := by have HBL := H2.out.1; exact (by repeat (first | with_reducible exact Below.refl _ _ | with_reducible exact HBL | with_reducible refine Below.drew ?_ | with_reducible refine Bel_drewN ?_ _ | with_reducible refine Below.alloc ?_ (by first | omega | (simp; done) | (simp; omega)) _ | with_reducible refine Below.setCell ?_ (by first | omega | (simp; done) | (simp; omega)) _))
              exact h1.grown hgr' (by simp; omega) (own_ge H2.out.2)
            have ho3 : w'.ownsRow w.heap.size 47 1 v' (k + 1) (fl .f32 (ds ++ [r])) := by rw [fl, List.map_append]; exact hown'
            have H3 := Lib.hid (And.intro ho3 hb2)
            clear hown' hgr' hb2 ho3
            go_wp2_with fail
            go_roundw
            case rel =>
              refine ⟨k + 1, ds ++ [r], by omega, by go_num, by rw [List.length_append, HD.out.1]; rfl, fun t ht => ?_, H3.out⟩
              by_cases e : t = k
              · subst e
                rw [List.getElem?_append_right (by rw [HD.out.1]; exact Nat.le_refl _), HD.out.1, Nat.sub_self]
                exact HR.out
              · rw [List.getElem?_append_left (by rw [HD.out.1]; omega)]
                exact HD.out.2 t (by omega)
            case measure => simp [intOf]; omega
    · obtain rfl : k = n := by omega
      obtain ⟨ao', cc', rfl⟩ := own_form H.out.1
      have HR := Lib.hid ((Row.of_own H.out.1).wide (lo' := w.heap.size) (hi' := wr.heap.size) (by omega) (Nat.le_refl _))
      go_wp2
      go_ret
      exact ⟨ds, ao', cc', rfl, HD.out.1, HD.out.2, HR.out, H.out.2⟩
end Go.Proofs.Ytgeomaeccalceaa
