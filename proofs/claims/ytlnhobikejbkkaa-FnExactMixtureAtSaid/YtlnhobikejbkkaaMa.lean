/- How dense mixtures are. -/
import Derived.Test.YtlnhobikejbkkaaMx
import Derived.Test.YtlnhobikejbkkaaEz
import Derived.Test.YtlnhobikejbkkaaTl
import Derived.Test.YtlnhobikejbkkaaMo
import Derived.Test.YtlnhobikejbkkaaBn
namespace Go.Proofs.Ytlnhobikejbkkaa
open Go Go.RowKit Fl Vag
set_option linter.unusedVariables false

def uV (x m s : Nat) : Option Nat := aop .quo .f32 (aop .sub .f32 (av .f32 x) (av .f32 m)) (av .f32 s)
def yV (u : Option Nat) : Option Nat := aop .mul .f32 (aop .mul .f32 (av .f32 3204448256) u) u
def yB (x m s : Nat) : Nat := (yV (uV x m s)).getD 0
/-- How dense a part is. -/
def denV (w m s x : Nat) : Option Nat := aop .quo .f32 (aop .mul .f32 (av .f32 w) (av .f32 (expB (yB x m s)))) (aop .mul .f32 (av .f32 1075866777) (av .f32 s))
def denA (ws ms ss : List Nat) (x i : Nat) : Option Nat := denV (ws[i]?.getD 0) (ms[i]?.getD 0) (ss[i]?.getD 0) x
def mixA (ws ms ss : List Nat) (x : Nat) : Nat → Option Nat
  | 0 => some 0
  | k + 1 => aop .add .f32 (mixA ws ms ss x k) (denA ws ms ss x k)
theorem read_fin {x : Nat} (h : finA .f32 (av .f32 x) = true) : ∃ s m i, Ieee.single.read x = .number s m i := fin_read h
theorem read_above {s : Nat} (h : aboveB s = true) : ∃ n j, Ieee.single.read s = .number false n j ∧ n ≠ 0 := by
  unfold aboveB at h
  simp only [Bool.and_eq_true] at h
  obtain ⟨t, n, j, e⟩ := fin_read h.1
  have h2 := h.2
  unfold gtB at h2
  rw [ord0_num e] at h2
  by_cases h0 : n = 0
  · rw [if_pos h0] at h2; cases h2
  · rw [if_neg h0] at h2
    cases t with
    | true => cases h2
    | false => exact ⟨n, j, e, h0⟩
theorem wr_num (s : Bool) (m : Nat) (i : Int) : ∃ r, Ieee.single.write (.number s m i) = r ∧ av .f32 r = some r ∧ ((∃ m' i', Ieee.single.read r = .number s m' i' ∧ (m = 0 → m' = 0)) ∨ (Ieee.single.read r = .infinity s ∧ m ≠ 0)) := by
  refine ⟨_, rfl, ?_, ?_⟩
  · exact av_some (k := .f32) (read_write Ieee.single _ rfl)
  · rcases read_sgn Ieee.single s m i with h | h
    · exact .inl h
    · refine .inr ⟨h, fun h0 => ?_⟩
      subst h0
      have e : Ieee.single.write (.number s 0 i) = Ieee.single.word s 0 := by simp [Ieee.Format.write, Ieee.Format.nearest]
      rw [e] at h
      cases s <;> revert h <;> decide
theorem wr_inf (s : Bool) : Ieee.single.read (Ieee.single.write (.infinity s)) = .infinity s ∧ av .f32 (Ieee.single.write (.infinity s)) = some (Ieee.single.write (.infinity s)) := by cases s <;> decide +kernel
theorem uV_num {x m s : Nat} (hx : finA .f32 (av .f32 x) = true) (hm : finA .f32 (av .f32 m) = true) (hs : aboveB s = true) : ∃ u, uV x m s = some u ∧ av .f32 u = some u := by
  obtain ⟨a, b, i, ex⟩ := fin_read hx
  obtain ⟨c, d, j, em⟩ := fin_read hm
  obtain ⟨n, k, es, hn⟩ := read_above hs
  unfold uV
  rw [av_num ex, av_num em, av_num es]
  have e1 : aop .sub .f32 (some x) (some m) = ((Ieee.single.read x).sum (Ieee.single.read m).opposite).map Ieee.single.write := rfl
  rw [e1, ex, em]
  have e2 : (Ieee.Datum.number a b i).sum (Ieee.Datum.number c d j).opposite = some (.number (if Ieee.signed a b (i - min i j).toNat + Ieee.signed (!c) d (j - min i j).toNat = 0 then a && !c else decide (Ieee.signed a b (i - min i j).toNat + Ieee.signed (!c) d (j - min i j).toNat < 0)) (Ieee.signed a b (i - min i j).toNat + Ieee.signed (!c) d (j - min i j).toNat).natAbs (min i j)) := rfl
  rw [e2]
  obtain ⟨r, hr, har, hrr⟩ := wr_num (if Ieee.signed a b (i - min i j).toNat + Ieee.signed (!c) d (j - min i j).toNat = 0 then a && !c else decide (Ieee.signed a b (i - min i j).toNat + Ieee.signed (!c) d (j - min i j).toNat < 0)) (Ieee.signed a b (i - min i j).toNat + Ieee.signed (!c) d (j - min i j).toNat).natAbs (min i j)
  simp only [Option.map_some]
  rw [hr]
  have e3 : aop .quo .f32 (some r) (some s) = ((Ieee.single.read r).quotient (Ieee.single.fractionBits + 2) (Ieee.single.read s)).map Ieee.single.write := rfl
  rw [e3, es]
  rcases hrr with ⟨m', i', h, _⟩ | ⟨h, _⟩
  · rw [h]
    simp only [Ieee.Datum.quotient]
    rw [if_neg hn]
    exact ⟨_, rfl, av_some (k := .f32) (read_write Ieee.single _ rfl)⟩
  · rw [h]
    exact ⟨_, rfl, (wr_inf _).2⟩
theorem read_half : Ieee.single.read 3204448256 = .number true 8388608 (-24) := by decide +kernel
theorem av_half : av .f32 3204448256 = some 3204448256 := by decide +kernel
theorem yV_np {u : Nat} (hu : av .f32 u = some u) : ∃ y, yV (some u) = some y ∧ NonPos y := by
  have hn := num_of hu
  unfold yV
  rw [av_half]
  have e1 : aop .mul .f32 (some 3204448256) (some u) = ((Ieee.single.read 3204448256).product (Ieee.single.read u)).map Ieee.single.write := rfl
  rw [e1, read_half]
  rcases read_all u with ⟨s, m, i, e, _⟩ | ⟨s, e⟩ | ⟨s, f, e⟩
  · rw [e]
    have e2 : (Ieee.Datum.number true 8388608 (-24)).product (.number s m i) = some (.number (true ^^ s) (8388608 * m) (-24 + i)) := rfl
    rw [e2]
    obtain ⟨r, hr, har, hrr⟩ := wr_num (true ^^ s) (8388608 * m) (-24 + i)
    simp only [Option.map_some]
    rw [hr]
    have e3 : aop .mul .f32 (some r) (some u) = ((Ieee.single.read r).product (Ieee.single.read u)).map Ieee.single.write := rfl
    rw [e3, e]
    rcases hrr with ⟨m', i', h, _⟩ | ⟨h, h0⟩
    · rw [h]
      have e4 : (Ieee.Datum.number (true ^^ s) m' i').product (.number s m i) = some (.number ((true ^^ s) ^^ s) (m' * m) (i' + i)) := rfl
      rw [e4, show ((true ^^ s) ^^ s) = true by cases s <;> rfl]
      obtain ⟨q, hq, haq, hqq⟩ := wr_num true (m' * m) (i' + i)
      simp only [Option.map_some]
      rw [hq]
      refine ⟨q, rfl, ?_⟩
      rcases hqq with ⟨m2, i2, h2, _⟩ | ⟨h2, _⟩
      · exact .inl ⟨_, _, _, h2, .inl rfl⟩
      · exact .inr h2
    · rw [h]
      have hm0 : m ≠ 0 := fun h' => h0 (by rw [h'])
      have e4 : (Ieee.Datum.infinity (true ^^ s)).product (.number s m i) = some (.infinity ((true ^^ s) ^^ s)) := by simp [Ieee.Datum.product, hm0]
      rw [e4, show ((true ^^ s) ^^ s) = true by cases s <;> rfl]
      exact ⟨_, rfl, .inr (wr_inf true).1⟩
  · rw [e]
    have e2 : (Ieee.Datum.number true 8388608 (-24)).product (.infinity s) = some (.infinity (s ^^ true)) := rfl
    rw [e2]
    simp only [Option.map_some]
    have e3 : aop .mul .f32 (some (Ieee.single.write (.infinity (s ^^ true)))) (some u) = ((Ieee.single.read (Ieee.single.write (.infinity (s ^^ true)))).product (Ieee.single.read u)).map Ieee.single.write := rfl
    rw [e3, e, (wr_inf _).1]
    have e4 : (Ieee.Datum.infinity (s ^^ true)).product (.infinity s) = some (.infinity ((s ^^ true) ^^ s)) := rfl
    rw [e4, show ((s ^^ true) ^^ s) = true by cases s <;> rfl]
    exact ⟨_, rfl, .inr (wr_inf true).1⟩
  · rw [e] at hn; simp [Ieee.Datum.isNaN] at hn
theorem yB_np {x m s : Nat} (hx : finA .f32 (av .f32 x) = true) (hm : finA .f32 (av .f32 m) = true) (hs : aboveB s = true) : yV (uV x m s) = some (yB x m s) ∧ NonPos (yB x m s) := by
  obtain ⟨u, hu, hau⟩ := uV_num hx hm hs
  obtain ⟨y, hy, hny⟩ := yV_np hau
  unfold yB
  rw [hu, hy]
  exact ⟨rfl, hny⟩
/-- What comes as an argument of the exponential function. -/
theorem y_of {x m s d1 d2 d3 d4 : Nat} (hx : finA .f32 (av .f32 x) = true) (hm : finA .f32 (av .f32 m) = true) (hs : aboveB s = true)
    (h1 : av .f32 d1 = aop .sub .f32 (av .f32 x) (av .f32 m)) (h2 : av .f32 d2 = aop .quo .f32 (av .f32 d1) (av .f32 s)) (h3 : av .f32 d3 = aop .mul .f32 (av .f32 3204448256) (av .f32 d2)) (h4 : av .f32 d4 = aop .mul .f32 (av .f32 d3) (av .f32 d2)) : d4 = yB x m s := by
  have e := (yB_np hx hm hs).1
  have : av .f32 d4 = some (yB x m s) := by
    rw [h4, h3, h2, h1]; exact e
  exact av_eq this
theorem sum_mix {ws ms ss ds : List Nat} {x : Nat} (h : ∀ i, i < ds.length → av .f32 (ds[i]?.getD 0) = denA ws ms ss x i) : ∀ k, k ≤ ds.length → sumA .f32 (ds.take k) = mixA ws ms ss x k
  | 0, _ => by simp [sumA, mixA]
  | k + 1, hk => by
    rw [take_next ds k (by omega), sumA_snoc, sum_mix h k (by omega), h k (by omega)]
    rfl
theorem run_mkF {P : Program} (w : World) (t e : TypeId) (n : Nat) (ht : P.underlying t = some (.slice e)) (hi : (P.info? e).map (fun i => (i.zero, i.size, i.bytes)) = some (some (.float .f32 0), 1, 4)) (hn : n ≤ 1048577) :
    (Instr.makeSlice t (.int .i64 0) (.int .i64 (n : Int))).run P w = .ok (.slice (some ⟨w.heap.size, 0, none⟩) 0 n) (w.alloc (.cells (Array.replicate n (.float .f32 0)) e)) := by
  obtain ⟨i, hi, h1, h2, h3⟩ := info_parts hi
  have hb' : (i.bytes : Int) * (n : Int) ≤ 281474976710656 := by rw [h3]; omega
  rw [run_make w t e i (.float .f32 0) ht hi h1 .i64 .i64 0 n (by omega) (by omega) hb' (by omega)]
  have : madeCells (Value.float .f32 0).cells ((n : Int).toNat * i.size) = Array.replicate n (.float .f32 0) := by
    rw [show (Value.float FloatKind.f32 0).cells = #[.float .f32 0] from rfl, h2, Int.toNat_natCast, Nat.mul_one]
    unfold madeCells
    apply Array.ext
    · simp
    · intro j h1 h2
      simp [Nat.mod_one]
  rw [this]; simp
/-- The mixture in the box of a call's own. -/
def MixBox (w v : World) (ao bo eo : Option Addr) (n c d f : Nat) : Prop := Whole v w.heap.size 60 #[.slice ao n c, .slice bo n d, .slice eo n f] ∧ Below w.heap.size w v
theorem MixBox.below {w v v' : World} {ao bo eo : Option Addr} {n c d f : Nat} (h : MixBox w v ao bo eo n c d f) (hb : Below v.heap.size v v') : MixBox w v' ao bo eo n c d f := ⟨h.1.below hb, Bel_next h.2 hb⟩
theorem MixBox.drewN {w v : World} {ao bo eo : Option Addr} {n c d f : Nat} (h : MixBox w v ao bo eo n c d f) (k : Nat) : MixBox w (v.drewN k) ao bo eo n c d f := ⟨h.1.drewN k, Bel_drewN h.2 k⟩
/-- A list in memory of its own, whose numbers are known but for not-a-numbers' bits. -/
def RetFs (n : Nat) (f : Nat → Option Nat) (w : World) (e : Ending) (w' : World) : Prop :=
  ∃ ds ao c, e = .returned (.slice ao n c) ∧ ds.length = n ∧ (∀ i, i < n → av .f32 (ds[i]?.getD 0) = f i) ∧ Row w' w.heap.size w'.heap.size ao (fl .f32 ds) ∧ Below w.heap.size w w'
/-- How dense each part is, and the sum of them, if this is finite. -/
def BellsR (ws ms ss : List Nat) (x : Nat) (w : World) (e : Ending) (w' : World) : Prop :=
  (finA .f32 (mixA ws ms ss x ws.length) = true ∧ ∃ ds ao c r, e = .returned (.tuple #[.slice ao ws.length c, .float .f32 r, .bool true]) ∧ ds.length = ws.length ∧ (∀ i, i < ws.length → av .f32 (ds[i]?.getD 0) = denA ws ms ss x i) ∧ Fv .f32 (mixA ws ms ss x ws.length) r ∧ Row w' w.heap.size w'.heap.size ao (fl .f32 ds) ∧ Below w.heap.size w w') ∨
  (finA .f32 (mixA ws ms ss x ws.length) = false ∧ e = .returned (.tuple #[.slice none 0 0, .float .f32 0, .bool false]) ∧ Below w.heap.size w w')
set_option maxRecDepth 100000 in
set_option maxHeartbeats 4000000 in
theorem bellsAt_any (ws ms ss : List Nat) (x : Nat) (ao bo eo : Option Addr) (c d f : Nat) (w : World) (hx : Holds w ao (fl .f32 ws)) (hy : Holds w bo (fl .f32 ms)) (hz : Holds w eo (fl .f32 ss)) (hM : isMix ws ms ss) (hxf : finA .f32 (av .f32 x) = true) :
    Calls Try.prog 90 #[.agg #[.slice ao ws.length c, .slice bo ws.length d, .slice eo ws.length f], .float .f32 x] w (BellsR ws ms ss x w) := by
  have HX := Lib.hid (And.intro hx (And.intro hy hz))
  have HM := Lib.hid (And.intro hM hxf)
  have h8 : ws.length ≤ 8 := hM.1
  have hmk : ∀ w : World, (Instr.makeSlice 22 (.int .i64 0) (.int .i64 (ws.length : Int))).run Try.prog w = .ok (.slice (some ⟨w.heap.size, 0, none⟩) 0 ws.length) (w.alloc (.cells (Array.replicate ws.length (.float .f32 0)) 23)) := fun w => run_mkF (P := Try.prog) w 22 23 ws.length Try.underlying22 (by kernel_rfl) (by omega)
  clear hx hy hz hM hxf
  go_enter Try.func90, Try.ntmps90
  go_wp2
  clear hmk
  go_loopw [7, 21] (fun v i wr => ∃ (k : Nat) (ds : List Nat), k ≤ ws.length ∧ i = .int .i64 k ∧ ds.length = k ∧ (∀ j, j < k → av .f32 (ds[j]?.getD 0) = denA ws ms ss x j) ∧ wr.ownsRow (w.heap.size + 1) 23 1 v k (fl .f32 ds) ∧ MixBox w wr ao bo eo ws.length c d f) (fun _ i _ => ws.length - (intOf i).toNat)
  case atStart =>
    refine ⟨0, [], Nat.zero_le _, rfl, rfl, fun j hj => absurd hj (Nat.not_lt_zero _), ?_, (Whole.made _ _ _).alloc _, (by repeat (first | with_reducible exact Below.refl _ _ | with_reducible exact HBL | with_reducible refine Below.drew ?_ | with_reducible refine Bel_drewN ?_ _ | with_reducible refine Below.alloc ?_ (by first | omega | (simp; done) | (simp; omega)) _ | with_reducible refine Below.setCell ?_ (by first | omega | (simp; done) | (simp; omega)) _))⟩
    have h := World.ownsRow_made (base := w.heap.size + 1) (e := 23) (size := 1) (w.alloc (.cells #[.slice ao ws.length c, .slice bo ws.length d, .slice eo ws.length f] 60)) (Array.replicate ws.length (.float .f32 0)) ws.length (by simp) (by unfold maxLen; omega) (by simp)
    simpa [fl] using h
  case round =>
    obtain ⟨k, ds, hk, rfl, hdl, hds, hown, hbox⟩ := hrel
    have H := Lib.hid (And.intro hown hbox)
    have HD := Lib.hid (And.intro hdl hds)
    have hz0 := hbox.1.lt
    by_cases hlt : k < ws.length
    · have hl2 : k < ms.length := by have := HM.out.1.2.1; omega
      have hl3 : k < ss.length := by have := HM.out.1.2.2.1; omega
      obtain ⟨b1, o1, rfl, hc1⟩ := (HX.out.1.below hbox.2) k (by simpa [fl] using hlt)
      obtain ⟨b2, o2, rfl, hc2⟩ := (HX.out.2.1.below hbox.2) k (by simpa [fl] using hl2)
      obtain ⟨b3, o3, rfl, hc3⟩ := (HX.out.2.2.below hbox.2) k (by simpa [fl] using hl3)
      rw [fl_get _ _ _ hlt] at hc1
      rw [fl_get _ _ _ hl2] at hc2
      rw [fl_get _ _ _ hl3] at hc3
      obtain ⟨hcb, hfb⟩ := hbox.1.facts
      have HF := Lib.hid (And.intro (HM.out.1.2.2.2.1 k hl2) (HM.out.1.2.2.2.2.1 k hl3))
      have HE : Hid (denA ws ms ss x k = denV (ws[k]?.getD 0) (ms[k]?.getD 0) (ss[k]?.getD 0) x) := Lib.hid rfl
      generalize ws[k]?.getD 0 = a1 at hc1 HE
      generalize ms[k]?.getD 0 = a2 at hc2 HE HF
      generalize ss[k]?.getD 0 = a3 at hc3 HE HF
      clear hown hbox hdl hds hl2 hl3 hk
      go_wp2
      refine wp_region_lex (C := Cw wr) (by kernel_rfl) (by kernel_rfl) ⟨1, rfl⟩ ?_
      repeat (first
        | (apply lex_move rfl (.inl rfl); (focus (simp [go_sem]; rfl)))
        | (apply lex_move rfl (.inr rfl); (focus (simp [go_sem]; rfl)))
        | (apply lex_farith (dst := some 32) _ _ _ _ _ .f32 _ _ rfl rfl rfl; (focus (intro r; simp [go_sem]; rfl)); intro d1 hd1)
        | (apply lex_farith (dst := some 38) _ _ _ _ _ .f32 _ _ rfl rfl rfl; (focus (intro r; simp [go_sem]; rfl)); intro d2 hd2)
        | (apply lex_pure rfl; (focus (intro m; go_simp; rfl)); (focus (simp [go_sem]; rfl))))
      refine lex_nil ?_
      rintro _ ⟨q, rfl⟩
      go_wp2_with (first | (refine wpList_farith (dst := some 41) _ _ _ _ _ .f32 _ _ rfl rfl rfl ?_; intro d3 n3 hd3) | (refine wpList_farith (dst := some 43) _ _ _ _ _ .f32 _ _ rfl rfl rfl ?_; intro d4 n4 hd4) | (go_at_call 120; fail))
      obtain rfl := y_of HM.out.2 HF.out.1 HF.out.2 hd1.2 hd2.2 hd3.2 hd4.2
      clear hd1 hd2 hd3 hd4
      refine (implExp_neg _ (yB_np HM.out.2 HF.out.1 HF.out.2).2 _).mono ?_
      rintro e w' ⟨n5, rfl, rfl⟩
      go_wp2_with (first | (refine wpList_farith (dst := some 45) _ _ _ _ _ .f32 _ _ rfl rfl rfl ?_; intro d5 n6 hd5) | (refine wpList_farith (dst := some 53) _ _ _ _ _ .f32 _ _ rfl rfl rfl ?_; intro d6 n7 hd6) | (refine wpList_farith (dst := some 54) _ _ _ _ _ .f32 _ _ rfl rfl rfl ?_; intro d7 n8 hd7) | (at_builtin; refine wpList_app1 rfl _ _ 22 rfl (w.heap.size + 1) 23 (.float .f32 0) 4 Try.underlying22 (by kernel_rfl) rfl _ k _ rfl (H.out.1.alloc _) _ _ (.float .f32 d7) rfl ?_ rfl ⟨by omega, by omega⟩ ?_ ?_))
      · obtain ⟨wq, hwq⟩ : ∃ wq, wq = wr.drewN (q + n3 + n4 + n5 + n6 + n7 + n8) := ⟨_, rfl⟩
        have hsz : wr.heap.size = wq.heap.size := by rw [hwq]; rfl
        rw [← hwq, hsz, World.cell?_alloc_at _ _ _ _ rfl]; rfl
      · simp; omega
      · intro v' w' hown' hgr'
        have B4 : MixBox w w' (some ⟨b1, o1, none⟩) (some ⟨b2, o2, none⟩) (some ⟨b3, o3, none⟩) ws.length c d f := ⟨((H.out.2.1.drewN _).alloc _).grown hgr' (own_ne' H.out.1 (by omega)), Below.grown ((Bel_drewN H.out.2.2 _).alloc (by simp; omega) _) hgr' (by simp; omega) (fun i hi => by have := own_ge H.out.1 i hi; omega)⟩
        have o4 : w'.ownsRow (w.heap.size + 1) 23 1 v' (k + 1) (fl .f32 (ds ++ [d7])) := by rw [fl, List.map_append]; exact hown'
        have e7 : av .f32 d7 = denA ws ms ss x k := by rw [HE.out]; unfold denV; rw [hd7.2, hd5.2, hd6.2]
        have H4 := Lib.hid (And.intro o4 (And.intro B4 e7))
        clear hown' hgr' B4 o4 H hcb hfb hc1 hc2 hc3 hd5 hd6 hd7 e7
        go_wp2
        go_roundw
        case rel =>
          refine ⟨k + 1, ds ++ [d7], by omega, by go_num, by rw [List.length_append, HD.out.1]; rfl, fun j hj => ?_, H4.out.1, H4.out.2.1⟩
          by_cases e : j = k
          · subst e
            rw [List.getElem?_append_right (by rw [HD.out.1]; exact Nat.le_refl _), HD.out.1, Nat.sub_self]
            exact H4.out.2.2
          · rw [List.getElem?_append_left (by rw [HD.out.1]; omega)]
            exact HD.out.2 j (by omega)
        case measure => simp [intOf]; omega
    · obtain rfl : k = ws.length := by omega
      obtain ⟨ao', cc', rfl⟩ := own_form hown
      have HR := Lib.hid ((Row.of_own hown).wide (lo' := w.heap.size) (hi' := wr.heap.size) (by omega) (Nat.le_refl _))
      clear hown hbox hdl hds
      go_wp2_with (first | (go_at_call 121; fail))
      refine (implSum_len ds _ HD.out.1 _ _ _ HR.out.holds (by omega)).mono ?_
      rintro e w' ⟨r, n3, rfl, hr, rfl⟩
      have HS : Hid (Fv .f32 (mixA ws ms ss x ws.length) r) := Lib.hid (by
        have e := sum_mix (ws := ws) (ms := ms) (ss := ss) (ds := ds) (x := x) (fun i hi => HD.out.2 i (by rw [← HD.out.1]; exact hi)) ds.length (Nat.le_refl _)
        rw [List.take_length] at e
        rw [← HD.out.1, ← e]; exact hr)
      clear hr
      go_wp2_with (first | (go_at_call 74; fail))
      refine (IsFinite_any _ _).mono ?_
      rintro e w' ⟨n4, rfl, rfl⟩
      rw [Fv_fin HS.out]
      cases hf : finA .f32 (mixA ws ms ss x ws.length) with
      | true =>
        have HF := Lib.hid hf
        clear hf
        go_wp2_with fail
        go_ret3
        exact .inl ⟨HF.out, ds, ao', cc', r, rfl, HD.out.1, HD.out.2, HS.out, HR.out.drewN _, Bel_drewN H.out.2.2 _⟩
      | false =>
        have HF := Lib.hid hf
        clear hf
        go_wp2_with fail
        go_ret3
        exact .inr ⟨HF.out, rfl, Bel_drewN H.out.2.2 _⟩
set_option maxRecDepth 100000 in
set_option maxHeartbeats 2000000 in
theorem implMixAt_in (ws ms ss : List Nat) (n2 n3 : Nat) (h2 : ms.length = n2) (h3 : ss.length = n3) (ao bo eo : Option Addr) (c d f x : Nat) (w : World) (hx : Holds w ao (fl .f32 ws)) (hy : Holds w bo (fl .f32 ms)) (hz : Holds w eo (fl .f32 ss)) (hM : isMix ws ms ss) (hxf : finA .f32 (av .f32 x) = true) :
    Calls Try.prog 46 #[.agg #[.slice ao ws.length c, .slice bo n2 d, .slice eo n3 f], .float .f32 x] w (Given (mixA ws ms ss x ws.length) w) := by
  have HX := Lib.hid (And.intro hx (And.intro hy hz))
  obtain rfl : n2 = ws.length := by have := hM.2.1; omega
  obtain rfl : n3 = ws.length := by have := hM.2.2.1; omega
  have HN := Lib.hid (And.intro h2 h3)
  have h8 : ws.length ≤ 8 := hM.1
  have HM := Lib.hid (And.intro hM hxf)
  clear hx hy hz h2 h3 hM hxf
  go_enter Try.func46, Try.ntmps46
  go_wp2_with (first | (go_at_call 89; fail))
  generalize hW : World.alloc _ _ = w0
  have H0 : Hid (MixBox w w0 ao bo eo ws.length c d f) := Lib.hid (by rw [← hW]; exact ⟨Whole.made _ _ _, (by repeat (first | with_reducible exact Below.refl _ _ | with_reducible exact HBL | with_reducible refine Below.drew ?_ | with_reducible refine Bel_drewN ?_ _ | with_reducible refine Below.alloc ?_ (by first | omega | (simp; done) | (simp; omega)) _ | with_reducible refine Below.setCell ?_ (by first | omega | (simp; done) | (simp; omega)) _))⟩)
  clear hW
  refine ((implValidMix_any ws ms ss _ _ HN.out.1 HN.out.2 ao bo eo c d f _ (HX.out.1.below H0.out.2) (HX.out.2.1.below H0.out.2) (HX.out.2.2.below H0.out.2) (by omega) (by omega) (by omega)).mono fun e w1 h => Bo.yes HM.out.1 h).mono ?_
  rintro e w1 ⟨rfl, hb⟩
  have H1 := Lib.hid (H0.out.below hb)
  clear hb H0
  go_wp2_with (first | (go_at_call 74; fail))
  refine (IsFinite_any _ _).mono ?_
  rintro e w' ⟨n, rfl, rfl⟩
  rw [HM.out.2]
  obtain ⟨hc0, hf0⟩ := H1.out.1.facts
  go_wp2_with (first | (go_at_call 90; fail))
  clear hc0 hf0
  refine (bellsAt_any ws ms ss x ao bo eo c d f _ ((HX.out.1.below H1.out.2).drewN n) ((HX.out.2.1.below H1.out.2).drewN n) ((HX.out.2.2.below H1.out.2).drewN n) HM.out.1 HM.out.2).mono ?_
  rintro e w2 hres
  rcases hres with ⟨hf, ds, ao2, c2, r, rfl, hdl, hds, hr, hrow, hb⟩ | ⟨hf, rfl, hb⟩
  · have H2 := Lib.hid (And.intro hf (And.intro hr (Bel_next (Bel_drewN H1.out.2 n) hb)))
    clear hf hdl hds hr hrow hb
    go_wp2_with fail
    go_ret2
    exact .inl ⟨H2.out.1, r, rfl, H2.out.2.1, H2.out.2.2⟩
  · have H2 := Lib.hid (And.intro hf (Bel_next (Bel_drewN H1.out.2 n) hb))
    clear hf hb
    go_wp2_with fail
    go_ret2
    exact .inr ⟨H2.out.1, rfl, H2.out.2⟩
set_option maxRecDepth 100000 in
set_option maxHeartbeats 1000000 in
theorem implMixAt_no (ws ms ss : List Nat) (n2 n3 : Nat) (h2 : ms.length = n2) (h3 : ss.length = n3) (ao bo eo : Option Addr) (c d f x : Nat) (w : World) (hx : Holds w ao (fl .f32 ws)) (hy : Holds w bo (fl .f32 ms)) (hz : Holds w eo (fl .f32 ss)) (hlen : ws.length ≤ 1048576) (hl2 : n2 ≤ 1048576) (hl3 : n3 ≤ 1048576) (hN : ¬ (isMix ws ms ss ∧ finA .f32 (av .f32 x) = true)) :
    Calls Try.prog 46 #[.agg #[.slice ao ws.length c, .slice bo n2 d, .slice eo n3 f], .float .f32 x] w (RetB (.tuple #[.float .f32 0, .bool false]) w) := by
  have HX := Lib.hid (And.intro hx (And.intro hy hz))
  have HN := Lib.hid (And.intro h2 h3)
  clear hx hy hz h2 h3
  by_cases hS : isMix ws ms ss
  · have hp : finA .f32 (av .f32 x) = false := by
      cases h : finA .f32 (av .f32 x) with
      | false => rfl
      | true => exact absurd ⟨hS, h⟩ hN
    have HS := Lib.hid (And.intro hS hp)
    clear hS hN hp
    go_enter Try.func46, Try.ntmps46
    go_wp2_with (first | (go_at_call 89; fail))
    generalize hW : World.alloc _ _ = w0
    have H0 : Hid (Below w.heap.size w w0) := Lib.hid (by rw [← hW]; exact (by repeat (first | with_reducible exact Below.refl _ _ | with_reducible exact HBL | with_reducible refine Below.drew ?_ | with_reducible refine Bel_drewN ?_ _ | with_reducible refine Below.alloc ?_ (by first | omega | (simp; done) | (simp; omega)) _ | with_reducible refine Below.setCell ?_ (by first | omega | (simp; done) | (simp; omega)) _)))
    clear hW
    refine ((implValidMix_any ws ms ss _ _ HN.out.1 HN.out.2 ao bo eo c d f _ (HX.out.1.below H0.out) (HX.out.2.1.below H0.out) (HX.out.2.2.below H0.out) (by omega) (by omega) (by omega)).mono fun e w1 h => Bo.yes HS.out.1 h).mono ?_
    rintro e w1 ⟨rfl, hb⟩
    have H1 := Lib.hid (Bel_next H0.out hb)
    clear hb H0
    go_wp2_with (first | (go_at_call 74; fail))
    refine (IsFinite_any _ _).mono ?_
    rintro e w' ⟨n, rfl, rfl⟩
    rw [HS.out.2]
    go_wp2
    go_ret2
    exact ⟨rfl, Bel_drewN H1.out _⟩
  · have HS := Lib.hid hS
    clear hS hN
    go_enter Try.func46, Try.ntmps46
    go_wp2_with (first | (go_at_call 89; fail))
    generalize hW : World.alloc _ _ = w0
    have H0 : Hid (Below w.heap.size w w0) := Lib.hid (by rw [← hW]; exact (by repeat (first | with_reducible exact Below.refl _ _ | with_reducible exact HBL | with_reducible refine Below.drew ?_ | with_reducible refine Bel_drewN ?_ _ | with_reducible refine Below.alloc ?_ (by first | omega | (simp; done) | (simp; omega)) _ | with_reducible refine Below.setCell ?_ (by first | omega | (simp; done) | (simp; omega)) _)))
    clear hW
    refine ((implValidMix_any ws ms ss _ _ HN.out.1 HN.out.2 ao bo eo c d f _ (HX.out.1.below H0.out) (HX.out.2.1.below H0.out) (HX.out.2.2.below H0.out) (by omega) (by omega) (by omega)).mono fun e w1 h => Bo.no HS.out h).mono ?_
    rintro e w1 ⟨rfl, hb⟩
    have H1 := Lib.hid (Bel_next H0.out hb)
    clear hb H0
    go_wp2
    go_ret2
    exact ⟨rfl, H1.out⟩
set_option maxRecDepth 100000 in
set_option maxHeartbeats 4000000 in
theorem l05Dense_any (ws ms ss : List Nat) (x k : Nat) (ao bo eo : Option Addr) (c d f g : Nat) (w : World) (hw : Whole w g 60 #[.slice ao ws.length c, .slice bo ws.length d, .slice eo ws.length f]) (hx : Holds w ao (fl .f32 ws)) (hy : Holds w bo (fl .f32 ms)) (hz : Holds w eo (fl .f32 ss)) (hM : isMix ws ms ss) (hxf : finA .f32 (av .f32 x) = true) (hlt : k < ws.length) :
    Calls Try.prog 118 #[.pointer (some ⟨g, 0, none⟩), .int .i64 k, .float .f32 x] w (Num .f32 (denA ws ms ss x k) w) := by
  have h8 : ws.length ≤ 8 := hM.1
  have hl2 : k < ms.length := by have := hM.2.1; omega
  have hl3 : k < ss.length := by have := hM.2.2.1; omega
  obtain ⟨b1, o1, rfl, hc1⟩ := hx k (by simpa [fl] using hlt)
  obtain ⟨b2, o2, rfl, hc2⟩ := hy k (by simpa [fl] using hl2)
  obtain ⟨b3, o3, rfl, hc3⟩ := hz k (by simpa [fl] using hl3)
  rw [fl_get _ _ _ hlt] at hc1
  rw [fl_get _ _ _ hl2] at hc2
  rw [fl_get _ _ _ hl3] at hc3
  obtain ⟨hcb, hfb⟩ := hw.facts
  have HF := Lib.hid (And.intro hxf (And.intro (hM.2.2.2.1 k hl2) (hM.2.2.2.2.1 k hl3)))
  have HE : Hid (denA ws ms ss x k = denV (ws[k]?.getD 0) (ms[k]?.getD 0) (ss[k]?.getD 0) x) := Lib.hid rfl
  generalize ws[k]?.getD 0 = a1 at hc1 HE
  generalize ms[k]?.getD 0 = a2 at hc2 HE HF
  generalize ss[k]?.getD 0 = a3 at hc3 HE HF
  clear hx hy hz hM hxf hl2 hl3 hw
  go_enter Try.func118, Try.ntmps118
  go_wp2
  refine wp_region_lex (C := Cw w) (by kernel_rfl) (by kernel_rfl) ⟨1, rfl⟩ ?_
  repeat (first
    | (apply lex_move rfl (.inl rfl); (focus (simp [go_sem]; rfl)))
    | (apply lex_move rfl (.inr rfl); (focus (simp [go_sem]; rfl)))
    | (apply lex_farith (dst := some 17) _ _ _ _ _ .f32 _ _ rfl rfl rfl; (focus (intro r; simp [go_sem]; rfl)); intro d1 hd1)
    | (apply lex_farith (dst := some 25) _ _ _ _ _ .f32 _ _ rfl rfl rfl; (focus (intro r; simp [go_sem]; rfl)); intro d2 hd2)
    | (apply lex_pure rfl; (focus (intro m; go_simp; rfl)); (focus (simp [go_sem]; rfl))))
  refine lex_nil ?_
  rintro _ ⟨q, rfl⟩
  go_wp2_with (first | (refine wpList_farith (dst := some 27) _ _ _ _ _ .f32 _ _ rfl rfl rfl ?_; intro d3 n3 hd3) | (refine wpList_farith (dst := some 29) _ _ _ _ _ .f32 _ _ rfl rfl rfl ?_; intro d4 n4 hd4) | (go_at_call 134; fail))
  obtain rfl := y_of HF.out.1 HF.out.2.1 HF.out.2.2 hd1.2 hd2.2 hd3.2 hd4.2
  clear hd1 hd2 hd3 hd4
  refine (l01Exp_neg _ (yB_np HF.out.1 HF.out.2.1 HF.out.2.2).2 _).mono ?_
  rintro e w' ⟨n5, rfl, rfl⟩
  generalize hE : expB (yB x a2 a3) = E at *
  have HEE := Lib.hid hE
  clear hE
  go_wp2
  generalize hq : q + n3 + n4 + n5 = Q
  refine wp_region_lex (C := Cw (w.drewN Q)) (by kernel_rfl) (by kernel_rfl) ⟨1, rfl⟩ ?_
  repeat (first
    | (apply lex_move rfl (.inl rfl); (focus (simp [go_sem]; rfl)))
    | (apply lex_move rfl (.inr rfl); (focus (simp [go_sem]; rfl)))
    | (apply lex_farith (dst := some 39) _ _ _ _ _ .f32 _ _ rfl rfl rfl; (focus (intro r; simp [go_sem]; rfl)); intro d5 hd5)
    | (apply lex_farith (dst := some 47) _ _ _ _ _ .f32 _ _ rfl rfl rfl; (focus (intro r; simp [go_sem]; rfl)); intro d6 hd6)
    | (apply lex_farith (dst := some 48) _ _ _ _ _ .f32 _ _ rfl rfl rfl; (focus (intro r; simp [go_sem]; rfl)); intro d7 hd7)
    | (apply lex_pure rfl; (focus (intro m; go_simp; rfl)); (focus (simp [go_sem]; rfl))))
  refine lex_nil ?_
  rintro _ ⟨q2, rfl⟩
  go_wp2
  go_ret
  exact ⟨d7, _, rfl, ⟨hd7.1, by rw [HE.out]; unfold denV; rw [HEE.out, ← hd5.2, ← hd6.2]; exact hd7.2⟩, by rw [World.drewN_drewN]⟩
set_option maxRecDepth 100000 in
set_option maxHeartbeats 2000000 in
theorem l05At_any (ws ms ss : List Nat) (x : Nat) (ao bo eo : Option Addr) (c d f g : Nat) (w : World) (hw : Whole w g 60 #[.slice ao ws.length c, .slice bo ws.length d, .slice eo ws.length f]) (hx : Holds w ao (fl .f32 ws)) (hy : Holds w bo (fl .f32 ms)) (hz : Holds w eo (fl .f32 ss)) (hM : isMix ws ms ss) (hxf : finA .f32 (av .f32 x) = true) :
    Calls Try.prog 88 #[.pointer (some ⟨g, 0, none⟩), .float .f32 x] w (Num .f32 (mixA ws ms ss x ws.length) w) := by
  have HX := Lib.hid (And.intro hw (And.intro hx (And.intro hy hz)))
  have h8 : ws.length ≤ 8 := hM.1
  have HM := Lib.hid (And.intro hM hxf)
  obtain ⟨hcb, hfb⟩ := hw.facts
  clear hx hy hz hM hxf hw
  go_enter Try.func88, Try.ntmps88
  go_wp2
  go_loopw [5, 12] (fun s i wr => ∃ k : Nat, k ≤ ws.length ∧ i = .int .i64 k ∧ ∃ r n, s = .float .f32 r ∧ Fv .f32 (mixA ws ms ss x k) r ∧ wr = w.drewN n) (fun _ i _ => ws.length - (intOf i).toNat)
  case atStart => exact ⟨0, Nat.zero_le _, rfl, 0, 0, rfl, Fv_zero _, rfl⟩
  case round =>
    obtain ⟨k, hk, rfl, r, n, rfl, hr, rfl⟩ := hrel
    have HR := Lib.hid hr
    clear hr
    by_cases hlt : k < ws.length
    · have HT : Hid (mixA ws ms ss x (k + 1) = aop .add .f32 (mixA ws ms ss x k) (denA ws ms ss x k)) := Lib.hid rfl
      go_wp2_with (first | (go_at_call 118; fail))
      refine (l05Dense_any ws ms ss x k _ _ _ _ _ _ g _ (HX.out.1.drewN n) (HX.out.2.1.drewN n) (HX.out.2.2.1.drewN n) (HX.out.2.2.2.drewN n) HM.out.1 HM.out.2 hlt).mono ?_
      rintro e w' ⟨r2, n2, rfl, hr2, rfl⟩
      have HR2 := Lib.hid hr2
      clear hr2
      go_wp2_with (refine wpList_farith _ _ _ _ _ .f32 _ _ rfl rfl rfl ?_; intro r3 n3 hr3)
      go_roundw
      case rel => exact ⟨k + 1, by omega, by go_num, r3, _, rfl, by rw [HT.out, ← HR.out.2, ← HR2.out.2]; exact hr3, rfl⟩
      case measure => simp [intOf]; omega
    · obtain rfl : k = ws.length := by omega
      go_wp2
      go_ret
      exact ⟨r, n, rfl, HR.out, rfl⟩
set_option maxRecDepth 100000 in
set_option maxHeartbeats 2000000 in
theorem specMixAt_in (ws ms ss : List Nat) (n2 n3 : Nat) (h2 : ms.length = n2) (h3 : ss.length = n3) (ao bo eo : Option Addr) (c d f x : Nat) (w : World) (hx : Holds w ao (fl .f32 ws)) (hy : Holds w bo (fl .f32 ms)) (hz : Holds w eo (fl .f32 ss)) (hM : isMix ws ms ss) (hxf : finA .f32 (av .f32 x) = true) :
    Calls Try.prog 44 #[.agg #[.slice ao ws.length c, .slice bo n2 d, .slice eo n3 f], .float .f32 x] w (Given (mixA ws ms ss x ws.length) w) := by
  have HX := Lib.hid (And.intro hx (And.intro hy hz))
  obtain rfl : n2 = ws.length := by have := hM.2.1; omega
  obtain rfl : n3 = ws.length := by have := hM.2.2.1; omega
  have HN := Lib.hid (And.intro h2 h3)
  have h8 : ws.length ≤ 8 := hM.1
  have HM := Lib.hid (And.intro hM hxf)
  clear hx hy hz h2 h3 hM hxf
  go_enter Try.func44, Try.ntmps44
  go_wp2_with (first | (go_at_call 86; fail))
  generalize hW : World.alloc _ _ = w0
  have H0 : Hid (MixBox w w0 ao bo eo ws.length c d f) := Lib.hid (by rw [← hW]; exact ⟨Whole.made _ _ _, (by repeat (first | with_reducible exact Below.refl _ _ | with_reducible exact HBL | with_reducible refine Below.drew ?_ | with_reducible refine Bel_drewN ?_ _ | with_reducible refine Below.alloc ?_ (by first | omega | (simp; done) | (simp; omega)) _ | with_reducible refine Below.setCell ?_ (by first | omega | (simp; done) | (simp; omega)) _))⟩)
  clear hW
  refine ((l05Mixture_any ws ms ss _ _ HN.out.1 HN.out.2 ao bo eo c d f _ _ H0.out.1 (HX.out.1.below H0.out.2) (HX.out.2.1.below H0.out.2) (HX.out.2.2.below H0.out.2) (by omega) (by omega) (by omega)).mono fun e w1 h => BoD.yes HM.out.1 h).mono ?_
  rintro e w1 ⟨n, rfl, rfl⟩
  go_wp2_with (first | (go_at_call 73; fail))
  refine (l01Fin_is _ _ HM.out.2 _).mono ?_
  rintro e w' ⟨n2, rfl, rfl⟩
  have H1 := Lib.hid (H0.out.drewN (n + n2))
  go_wp2_with (first | (go_at_call 88; fail))
  refine (l05At_any ws ms ss x ao bo eo c d f _ _ H1.out.1 (HX.out.1.below H1.out.2) (HX.out.2.1.below H1.out.2) (HX.out.2.2.below H1.out.2) HM.out.1 HM.out.2).mono ?_
  rintro e w' ⟨r, n3, rfl, hr, rfl⟩
  have HR := Lib.hid hr
  clear hr
  go_wp2_with (first | (go_at_call 87; fail))
  refine (l02Number_any HR.out _).mono ?_
  rintro e w' ⟨n4, rfl, hg⟩
  rcases hg with ⟨hf, rfl⟩ | ⟨hf, rfl⟩
  · have HF := Lib.hid hf
    clear hf
    go_wp2
    go_ret2
    exact .inl ⟨HF.out, r, rfl, HR.out, Bel_drewN H0.out.2 _⟩
  · have HF := Lib.hid hf
    clear hf
    go_wp2
    go_ret2
    exact .inr ⟨HF.out, rfl, Bel_drewN H0.out.2 _⟩
set_option maxRecDepth 100000 in
set_option maxHeartbeats 1000000 in
theorem specMixAt_no (ws ms ss : List Nat) (n2 n3 : Nat) (h2 : ms.length = n2) (h3 : ss.length = n3) (ao bo eo : Option Addr) (c d f x : Nat) (w : World) (hx : Holds w ao (fl .f32 ws)) (hy : Holds w bo (fl .f32 ms)) (hz : Holds w eo (fl .f32 ss)) (hlen : ws.length ≤ 1048576) (hl2 : n2 ≤ 1048576) (hl3 : n3 ≤ 1048576) (hN : ¬ (isMix ws ms ss ∧ finA .f32 (av .f32 x) = true)) :
    Calls Try.prog 44 #[.agg #[.slice ao ws.length c, .slice bo n2 d, .slice eo n3 f], .float .f32 x] w (RetB (.tuple #[.float .f32 0, .bool false]) w) := by
  have HX := Lib.hid (And.intro hx (And.intro hy hz))
  have HN := Lib.hid (And.intro h2 h3)
  clear hx hy hz h2 h3
  by_cases hS : isMix ws ms ss
  · have hp : finA .f32 (av .f32 x) = false := by
      cases h : finA .f32 (av .f32 x) with
      | false => rfl
      | true => exact absurd ⟨hS, h⟩ hN
    have HS := Lib.hid (And.intro hS hp)
    clear hS hN hp
    go_enter Try.func44, Try.ntmps44
    go_wp2_with (first | (go_at_call 86; fail))
    generalize hW : World.alloc _ _ = w0
    have H0 : Hid (Whole w0 w.heap.size 60 #[.slice ao ws.length c, .slice bo n2 d, .slice eo n3 f] ∧ Below w.heap.size w w0) := Lib.hid (by rw [← hW]; exact ⟨Whole.made _ _ _, (by repeat (first | with_reducible exact Below.refl _ _ | with_reducible exact HBL | with_reducible refine Below.drew ?_ | with_reducible refine Bel_drewN ?_ _ | with_reducible refine Below.alloc ?_ (by first | omega | (simp; done) | (simp; omega)) _ | with_reducible refine Below.setCell ?_ (by first | omega | (simp; done) | (simp; omega)) _))⟩)
    clear hW
    refine ((l05Mixture_any ws ms ss _ _ HN.out.1 HN.out.2 ao bo eo c d f _ _ H0.out.1 (HX.out.1.below H0.out.2) (HX.out.2.1.below H0.out.2) (HX.out.2.2.below H0.out.2) (by omega) (by omega) (by omega)).mono fun e w1 h => BoD.yes HS.out.1 h).mono ?_
    rintro e w1 ⟨n, rfl, rfl⟩
    go_wp2_with (first | (go_at_call 73; fail))
    refine (l01Fin_is _ _ HS.out.2 _).mono ?_
    rintro e w' ⟨n2, rfl, rfl⟩
    go_wp2
    go_ret2
    exact ⟨rfl, Bel_drewN H0.out.2 _⟩
  · have HS := Lib.hid hS
    clear hS hN
    go_enter Try.func44, Try.ntmps44
    go_wp2_with (first | (go_at_call 86; fail))
    generalize hW : World.alloc _ _ = w0
    have H0 : Hid (Whole w0 w.heap.size 60 #[.slice ao ws.length c, .slice bo n2 d, .slice eo n3 f] ∧ Below w.heap.size w w0) := Lib.hid (by rw [← hW]; exact ⟨Whole.made _ _ _, (by repeat (first | with_reducible exact Below.refl _ _ | with_reducible exact HBL | with_reducible refine Below.drew ?_ | with_reducible refine Bel_drewN ?_ _ | with_reducible refine Below.alloc ?_ (by first | omega | (simp; done) | (simp; omega)) _ | with_reducible refine Below.setCell ?_ (by first | omega | (simp; done) | (simp; omega)) _))⟩)
    clear hW
    refine ((l05Mixture_any ws ms ss _ _ HN.out.1 HN.out.2 ao bo eo c d f _ _ H0.out.1 (HX.out.1.below H0.out.2) (HX.out.2.1.below H0.out.2) (HX.out.2.2.below H0.out.2) (by omega) (by omega) (by omega)).mono fun e w1 h => BoD.no HS.out h).mono ?_
    rintro e w1 ⟨n, rfl, rfl⟩
    go_wp2
    go_ret2
    exact ⟨rfl, Bel_drewN H0.out.2 _⟩
def mixC (ws ms ss : List Nat) (x : Nat) : Prop := (isMix ws ms ss ∧ finA .f32 (av .f32 x) = true) ∧ finA .f32 (mixA ws ms ss x ws.length) = true

theorem implMixAt_yes (ws ms ss : List Nat) (n2 n3 : Nat) (h2 : ms.length = n2) (h3 : ss.length = n3) (ao bo eo : Option Addr) (c d f x : Nat) (w : World) (hx : Holds w ao (fl .f32 ws)) (hy : Holds w bo (fl .f32 ms)) (hz : Holds w eo (fl .f32 ss)) (h : mixC ws ms ss x) :
    Calls Try.prog 46 #[.agg #[.slice ao ws.length c, .slice bo n2 d, .slice eo n3 f], .float .f32 x] w (RetF (fun r => .tuple #[.float .f32 r, .bool true]) (mixA ws ms ss x ws.length) w) :=
  (implMixAt_in ws ms ss n2 n3 h2 h3 ao bo eo c d f x w hx hy hz h.1.1 h.1.2).mono fun e w' hg => hg.yes h.2
theorem implMixAt_not (ws ms ss : List Nat) (n2 n3 : Nat) (h2 : ms.length = n2) (h3 : ss.length = n3) (ao bo eo : Option Addr) (c d f x : Nat) (w : World) (hx : Holds w ao (fl .f32 ws)) (hy : Holds w bo (fl .f32 ms)) (hz : Holds w eo (fl .f32 ss)) (hlen : ws.length ≤ 1048576) (hl2 : n2 ≤ 1048576) (hl3 : n3 ≤ 1048576) (h : ¬ mixC ws ms ss x) :
    Calls Try.prog 46 #[.agg #[.slice ao ws.length c, .slice bo n2 d, .slice eo n3 f], .float .f32 x] w (RetF (fun r => .tuple #[.float .f32 r, .bool false]) (av .f32 0) w) := by
  by_cases h1 : isMix ws ms ss ∧ finA .f32 (av .f32 x) = true
  · refine (implMixAt_in ws ms ss n2 n3 h2 h3 ao bo eo c d f x w hx hy hz h1.1 h1.2).mono fun e w' hg => RetF.zero (f := fun r => .tuple #[.float .f32 r, .bool false]) (hg.no ?_)
    cases hf : finA .f32 (mixA ws ms ss x ws.length) with
    | false => rfl
    | true => exact absurd ⟨h1, hf⟩ h
  · exact (implMixAt_no ws ms ss n2 n3 h2 h3 ao bo eo c d f x w hx hy hz hlen hl2 hl3 h1).mono fun e w' hg => RetF.zero (f := fun r => .tuple #[.float .f32 r, .bool false]) hg
theorem specMixAt_yes (ws ms ss : List Nat) (n2 n3 : Nat) (h2 : ms.length = n2) (h3 : ss.length = n3) (ao bo eo : Option Addr) (c d f x : Nat) (w : World) (hx : Holds w ao (fl .f32 ws)) (hy : Holds w bo (fl .f32 ms)) (hz : Holds w eo (fl .f32 ss)) (h : mixC ws ms ss x) :
    Calls Try.prog 44 #[.agg #[.slice ao ws.length c, .slice bo n2 d, .slice eo n3 f], .float .f32 x] w (RetF (fun r => .tuple #[.float .f32 r, .bool true]) (mixA ws ms ss x ws.length) w) :=
  (specMixAt_in ws ms ss n2 n3 h2 h3 ao bo eo c d f x w hx hy hz h.1.1 h.1.2).mono fun e w' hg => hg.yes h.2
theorem specMixAt_not (ws ms ss : List Nat) (n2 n3 : Nat) (h2 : ms.length = n2) (h3 : ss.length = n3) (ao bo eo : Option Addr) (c d f x : Nat) (w : World) (hx : Holds w ao (fl .f32 ws)) (hy : Holds w bo (fl .f32 ms)) (hz : Holds w eo (fl .f32 ss)) (hlen : ws.length ≤ 1048576) (hl2 : n2 ≤ 1048576) (hl3 : n3 ≤ 1048576) (h : ¬ mixC ws ms ss x) :
    Calls Try.prog 44 #[.agg #[.slice ao ws.length c, .slice bo n2 d, .slice eo n3 f], .float .f32 x] w (RetF (fun r => .tuple #[.float .f32 r, .bool false]) (av .f32 0) w) := by
  by_cases h1 : isMix ws ms ss ∧ finA .f32 (av .f32 x) = true
  · refine (specMixAt_in ws ms ss n2 n3 h2 h3 ao bo eo c d f x w hx hy hz h1.1 h1.2).mono fun e w' hg => RetF.zero (f := fun r => .tuple #[.float .f32 r, .bool false]) (hg.no ?_)
    cases hf : finA .f32 (mixA ws ms ss x ws.length) with
    | false => rfl
    | true => exact absurd ⟨h1, hf⟩ h
  · exact (specMixAt_no ws ms ss n2 n3 h2 h3 ao bo eo c d f x w hx hy hz hlen hl2 hl3 h1).mono fun e w' hg => RetF.zero (f := fun r => .tuple #[.float .f32 r, .bool false]) hg
end Go.Proofs.Ytlnhobikejbkkaa
