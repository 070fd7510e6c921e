/- stepRow of the code. -/
import Derived.Test.YtgeomaeccalceaaSrw
import Derived.Deep.RegionHeld3
namespace Go.Proofs.Ytgeomaeccalceaa
open Go Go.RowKit Fl Vag
set_option linter.unusedVariables false
/-- A float's operation within a region that draws its order: an arm for go_region_with. -/
theorem upon_farith {P : Program} {o : Oper} {a : Act} {w : World} {K : Act → World → Prop} {Q : Exit → Act → World → Prop} (op : BinOp) (hop : isArith op = true) (t : TypeId) (k : FloatKind) (x y : Nat)
    (h : ∀ r n, Fv k (aop op k (av k x) (av k y)) r → K (a.put o.dst (.float k r)) (w.drewN n)) :
    Oper.upon P o a K Q (((binOp op t (.float k x) (.float k y)).run P w).andThen fun u w' => .ok (.value u) w') := by
  obtain ⟨r, n, hrun, hr⟩ := run_farith (P := P) op k x y w hop
  have hb : binOp op t (.float k x) (.float k y) = Op.floatArith op k x y := by
    cases op <;> simp [isArith] at hop <;> simp [binOp]
  rw [hb, hrun]
  exact h r n hr
set_option maxRecDepth 100000 in
set_option maxHeartbeats 4000000 in
theorem stepRow_any (ss xs : List Nat) (vs : Nat → Option Nat) (n b o m c ca : Nat) (ao : Option Addr) (w : World) (hs : Holds w (some ⟨b, o, none⟩) (fl .f32 ss)) (hx : Holds w ao (fl .f32 xs)) (hn1 : 1 ≤ n) (hn : n ≤ 12) (hm : m = n * n) (hl : ss.length = m) (hxl : xs.length = n) (hv : ∀ i, i < n → av .f32 (xs[i]?.getD 0) = vs i) :
    Calls Try.prog 91 #[.agg #[.int .i64 n, .slice (some ⟨b, o, none⟩) m c], .slice ao n ca] w (RetFz n (fun k => accV n ss vs k n) w) := by
  have HX := Lib.hid (And.intro hs hx)
  have HN := Lib.hid (And.intro hm (And.intro hl (And.intro hxl hv)))
  have hn12 : (n : Int) ≤ 12 := by omega
  clear hs hx hm hl hxl hv
  have hmk := run_mk (P := Try.prog) (w.alloc (.cells #[.int .i64 n, .slice (some ⟨b, o, none⟩) m c] 34)) 25 47 (.float .f32 0) 4 n Try.underlying25 (by kernel_rfl) rfl (by omega) (by omega)
  go_enter Try.func91, Try.ntmps91
  go_wp2
  clear hmk
  generalize hW : World.alloc (World.alloc _ _) _ = w0
  have H0 : Hid (ChBox w w0 n (some ⟨b, o, none⟩) m c ∧ Whole w0 (w.heap.size + 1) 47 (fl .f32 (List.replicate n 0)).toArray) := Lib.hid (by
    rw [← hW]
    refine ⟨⟨(Whole.made _ _ _).alloc _, (by repeat (first | with_reducible exact Below.refl _ _ | with_reducible exact HBL | with_reducible refine Below.drew ?_ | with_reducible refine Bel_drewN ?_ _ | with_reducible refine Below.alloc ?_ (by first | omega | (simp; done) | (simp; omega)) _ | with_reducible refine Below.setCell ?_ (by first | omega | (simp; done) | (simp; omega)) _))⟩, ?_⟩
    have h := Whole.made2 w (.cells #[.int .i64 n, .slice (some ⟨b, o, none⟩) m c] 34) 47 (Array.replicate n (.float .f32 0))
    rwa [show (fl .f32 (List.replicate n 0)).toArray = Array.replicate n (Value.float .f32 0) by simp [fl]])
  clear hW
  go_loopw [14] (fun i wr => ∃ (k : Nat) (ds : List Nat), k ≤ n ∧ i = .int .i64 k ∧ Made n (accV n ss vs) k 0 ds ∧ ChBox w wr n (some ⟨b, o, none⟩) m c ∧ Whole wr (w.heap.size + 1) 47 (fl .f32 ds).toArray) (fun i _ => n - (intOf i).toNat)
  case atStart => exact ⟨0, _, Nat.zero_le _, rfl, Made.start _ _ (fun _ => rfl), H0.out⟩
  case round =>
    obtain ⟨k, ds, hk, rfl, hmade, hbox, hrow⟩ := hrel
    have H := Lib.hid (And.intro hmade (And.intro hbox hrow))
    clear hmade hbox hrow H0
    have hkn : (k : Int) ≤ n := by omega
    by_cases hlt : k < n
    · have hlt' : (k : Int) < n := by omega
      go_wp2_with fail
      rename World => wa
      go_loopw [19] (fun i wr => ∃ (j : Nat) (es : List Nat), j ≤ n ∧ i = .int .i64 j ∧ Made n (accV n ss vs) k j es ∧ ChBox w wr n (some ⟨b, o, none⟩) m c ∧ Whole wr (w.heap.size + 1) 47 (fl .f32 es).toArray) (fun i _ => n - (intOf i).toNat)
      case atStart => exact ⟨0, ds, Nat.zero_le _, rfl, H.out⟩
      case round =>
        obtain ⟨j, es, hj, rfl, hmade, hbox, hrow⟩ := hrel
        have H2 := Lib.hid (And.intro hmade (And.intro hbox hrow))
        have hz := hbox.1.lt
        have hz2 := hrow.lt
        have hjn : (j : Int) ≤ n := by omega
        by_cases hlt2 : j < n
        · have hlt2' : (j : Int) < n := by omega
          obtain ⟨hcb, hfb⟩ := hbox.1.facts
          obtain ⟨b', o', rfl, hcx⟩ := (HX.out.2.below hbox.2) j (by rw [fl_len32, HN.out.2.2.1]; exact hlt2)
          rw [fl_get _ _ _ (by rw [HN.out.2.2.1]; exact hlt2)] at hcx
          have hcr := fl_cell hrow k (by rw [hmade.len]; exact hlt)
          have hfr := hrow.frozen k
          have HST : Hid (∀ v, Below w.heap.size w v → Calls Try.prog 86 #[.agg #[.int .i64 n, .slice (some ⟨b, o, none⟩) m c], .int .i64 j, .int .i64 k] v (fun e w' => e = .returned (.float .f32 (ss[j * n + k]?.getD 0)) ∧ w' = v.alloc (.cells #[.int .i64 n, .slice (some ⟨b, o, none⟩) m c] 34))) := Lib.hid (fun v hv => step_any ss n j k b o m c v (HX.out.1.below hv) hlt2 hlt hn HN.out.1 HN.out.2.1)
          have HV := Lib.hid (HN.out.2.2.2 j hlt2)
          have HB := Lib.hid hbox.2
          generalize xs[j]?.getD 0 = x at hcx HV
          have HE := Lib.hid (show av .f32 (es[k]?.getD 0) = accV n ss vs k j from hmade.here hlt)
          generalize es[k]?.getD 0 = y at hcr HE
          have HC : Hid (accV n ss vs k (j + 1) = aop .add .f32 (accV n ss vs k j) (aop .mul .f32 (vs j) (av .f32 (ss[j * n + k]?.getD 0)))) := Lib.hid rfl
          generalize ss[j * n + k]?.getD 0 = z at HST HC
          clear hmade hbox hrow
          go_wp2_with fail
          have HBL := HB.out
          go_region_with (first | (go_at_call 86; refine (HST.out _ (by repeat (first | with_reducible exact Below.refl _ _ | with_reducible exact HBL | with_reducible refine Below.drew ?_ | with_reducible refine Bel_drewN ?_ _ | with_reducible refine Below.alloc ?_ (by first | omega | (simp; done) | (simp; omega)) _ | with_reducible refine Below.setCell ?_ (by first | omega | (simp; done) | (simp; omega)) _))).mono ?_; rintro e w1 ⟨rfl, rfl⟩) | (refine upon_farith .mul rfl _ .f32 _ _ ?_; intro r1 n1 hr1) | (refine upon_farith .add rfl _ .f32 _ _ ?_; intro r2 n2 hr2))
          all_goals
            have HV2 : Hid (av .f32 r2 = accV n ss vs k (j + 1)) := Lib.hid (by rw [HC.out, ← HE.out, ← HV.out, ← hr1.2]; exact hr2.2)
            clear hr1 hr2 hcx hcr hfr hcb hfb HST HV HE HC
            go_wp2_with fail
            go_roundw
            case rel =>
              obtain ⟨hm, hb, hr⟩ := H2.out
              refine ⟨j + 1, es.set k r2, by omega, by go_num, hm.step hlt r2 HV2.out, ⟨?_, ?_⟩, ?_⟩
              · exact ((hb.1.alloc _).drewN _).far (by first | omega | (simp; done) | (simp; omega)) _
              · exact (by repeat (first | with_reducible exact Below.refl _ _ | with_reducible exact HBL | with_reducible refine Below.drew ?_ | with_reducible refine Bel_drewN ?_ _ | with_reducible refine Below.alloc ?_ (by first | omega | (simp; done) | (simp; omega)) _ | with_reducible refine Below.setCell ?_ (by first | omega | (simp; done) | (simp; omega)) _))
              · exact fl_put ((hr.alloc _).drewN _) k r2
            case measure => simp [intOf]; omega
        · obtain rfl : j = n := by omega
          clear hmade hbox hrow
          go_wp2_with fail
          go_roundw
          case rel => exact ⟨k + 1, es, by omega, by go_num, H2.out.1.next hlt (fun _ => rfl), H2.out.2⟩
          case measure => simp [intOf]; omega
    · obtain rfl : k = n := by omega
      go_wp2_with fail
      go_ret
      obtain ⟨hm, hb, hr⟩ := H.out
      exact ⟨ds, some ⟨w.heap.size + 1, 0, none⟩, k, rfl, hm.len, fun i hi => hm.front i hi, fl_row hr (by omega) hr.lt, hb.2⟩
end Go.Proofs.Ytgeomaeccalceaa
