/- Texts of seeds: both sides. -/
import Derived.Test.YtfgkimhcbboipaaDoorHy
import Derived.Test.YtfgkimhcbboipaaDoorSd
import Derived.Test.YtfgkimhcbboipaaDoorLexc
namespace Go.Proofs.YtfgkimhcbboipaaDoor
open Go Go.RowKit Lexc
set_option linter.unusedVariables false
/-- Both tables that numbers' texts lean on. -/
def Tabs (w : World) : Prop := Pow10 w ∧ DeB w
theorem Tabs.below {w w' : World} (h : Tabs w) (hb : Below w.heap.size w w') : Tabs w' := ⟨h.1.below hb, h.2.below hb⟩
/-- The text of a seed. -/
def txtS (k : Int) (a b : Nat) : List UInt8 := (((Lib.itoa k ++ [59]) ++ hexP 16 a) ++ [59]) ++ hexP 16 b
theorem vSeed_in {k : Int} {a b : Nat} (h : vSeed k a b = true) : 0 ≤ k ∧ k ≤ 3 := by
  unfold vSeed at h
  split at h
  · omega
  · split at h
    · omega
    · split at h
      · omega
      · split at h
        · omega
        · cases h
theorem lt_16 {a : Nat} (h : a < 18446744073709551616) : a < 16 ^ 16 := by rw [show (16 : Nat) ^ 16 = 18446744073709551616 by decide]; exact h
theorem hexDigits16 (n : Nat) (hn : n < 18446744073709551616) (w : World) (hD : DeB w) :
    Calls Tryd.prog 78 #[.int .u64 (n : Int), .int .i64 16] w (RetB (.string ⟨(hexP 16 n).toArray⟩) w) := hexDigits_any n 16 (lt_16 hn) (by omega) hn w hD
theorem txt_adds (k : Int) (a b : Nat) (h0 : 0 ≤ k) (h1 : k ≤ 3) :
    ∃ T0 Ta Tb S2 S3 S4 S : ByteArray, (T0 = ⟨(Lib.itoa k).toArray⟩ ∧ Ta = ⟨(hexP 16 a).toArray⟩ ∧ Tb = ⟨(hexP 16 b).toArray⟩ ∧ (⟨(txtS k a b).toArray⟩ : ByteArray) = S) ∧
    (∀ w, (Op.stringOp .add T0 ⟨#[59]⟩).run Tryd.prog w = .ok (.string S2) w) ∧ (∀ w, (Op.stringOp .add S2 Ta).run Tryd.prog w = .ok (.string S3) w) ∧ (∀ w, (Op.stringOp .add S3 ⟨#[59]⟩).run Tryd.prog w = .ok (.string S4) w) ∧ (∀ w, (Op.stringOp .add S4 Tb).run Tryd.prog w = .ok (.string S) w) := by
  have hk := Lib.itoa_length_le k (by omega) (by omega)
  have ha := hexP_len 16 a
  have hb := hexP_len 16 b
  unfold txtS
  generalize hexP 16 a = xa at *
  generalize hexP 16 b = xb at *
  generalize Lib.itoa k = x0 at *
  exact ⟨_, _, _, _, _, _, _, ⟨rfl, rfl, rfl, rfl⟩, fun w => add_run x0 [59] (by simp; omega) w, fun w => add_run (x0 ++ [59]) xa (by simp [ha]; omega) w, fun w => add_run ((x0 ++ [59]) ++ xa) [59] (by simp [ha]; omega) w, fun w => add_run (((x0 ++ [59]) ++ xa) ++ [59]) xb (by simp [ha, hb]; omega) w⟩
set_option maxRecDepth 100000 in
set_option maxHeartbeats 1000000 in
theorem implSeedText_yes (k : Int) (a b : Nat) (ha : a < 18446744073709551616) (hb : b < 18446744073709551616) (w : World) (hv : vSeed k a b = true) (hT : Tabs w) :
    Calls Tryd.prog 42 #[sd k a b] w (RetB (.tuple #[.string ⟨(txtS k a b).toArray⟩, .bool true]) w) := by
  obtain ⟨h0, h1⟩ := vSeed_in hv
  obtain ⟨T0, Ta, Tb, S2, S3, S4, S, hN, ha1, ha2, ha3, ha4⟩ := txt_adds k a b h0 h1
  rw [hN.2.2.2]
  have HN := Lib.hid hN
  clear hN
  have HT := Lib.hid hT
  have HV := Lib.hid (And.intro hv (And.intro ha hb))
  clear hv hT ha hb
  go_enter Tryd.func42, Tryd.ntmps42
  go_wp2_with (first | (go_at_call 77; fail))
  refine (ValidSeed_any _ _ _ _).mono ?_
  rintro e w1 ⟨rfl, rfl⟩
  rw [HV.out.1]
  go_wp2_with fail
  generalize hW : World.alloc (World.alloc w _) _ = w0
  have hR : w0.cell? ⟨w.heap.size, 0, none⟩ = some (.int .i64 k) ∧ w0.cell? ⟨w.heap.size, 1, none⟩ = some (.int .u64 a) ∧ w0.cell? ⟨w.heap.size, 2, none⟩ = some (.int .u64 b) ∧ Pow10 w0 ∧ DeB w0 ∧ Below w.heap.size w w0 := by
    have q0 := (Whole.made w 53 (sdC k a b)).alloc (.cells (sdC k a b) 53)
    have hB : Below w.heap.size w w0 := by rw [← hW]; exact (by repeat (first | with_reducible exact Below.refl _ _ | with_reducible exact HBL | with_reducible refine Below.drew ?_ | with_reducible refine Bel_drewN ?_ _ | with_reducible refine Below.alloc ?_ (by first | omega | (simp; done) | (simp; omega)) _ | with_reducible refine Below.setCell ?_ (by first | omega | (simp; done) | (simp; omega)) _))
    rw [hW] at q0
    exact ⟨q0.cell 0, q0.cell 1, q0.cell 2, HT.out.1.below hB, HT.out.2.below hB, hB⟩
  clear hW
  have HK : Hid (∀ v v' : World, (v.cell? ⟨w.heap.size, 0, none⟩ = some (.int .i64 k) ∧ v.cell? ⟨w.heap.size, 1, none⟩ = some (.int .u64 a) ∧ v.cell? ⟨w.heap.size, 2, none⟩ = some (.int .u64 b) ∧ Pow10 v ∧ DeB v ∧ Below w.heap.size w v) → Below v.heap.size v v' → (v'.cell? ⟨w.heap.size, 0, none⟩ = some (.int .i64 k) ∧ v'.cell? ⟨w.heap.size, 1, none⟩ = some (.int .u64 a) ∧ v'.cell? ⟨w.heap.size, 2, none⟩ = some (.int .u64 b) ∧ Pow10 v' ∧ DeB v' ∧ Below w.heap.size w v')) := Lib.hid (fun v v' h hb => ⟨by rw [Below.cell hb (World.block_lt_of_cell? _ _ h.1)]; exact h.1, by rw [Below.cell hb (World.block_lt_of_cell? _ _ h.2.1)]; exact h.2.1, by rw [Below.cell hb (World.block_lt_of_cell? _ _ h.2.2.1)]; exact h.2.2.1, h.2.2.2.1.below hb, h.2.2.2.2.1.below hb, Bel_next h.2.2.2.2.2 hb⟩)
  refine wp_region_lex (C := fun v => v.cell? ⟨w.heap.size, 0, none⟩ = some (.int .i64 k) ∧ v.cell? ⟨w.heap.size, 1, none⟩ = some (.int .u64 a) ∧ v.cell? ⟨w.heap.size, 2, none⟩ = some (.int .u64 b) ∧ Pow10 v ∧ DeB v ∧ Below w.heap.size w v) (by kernel_rfl) (by kernel_rfl) (HK.out _ _ hR ((Below.refl _ _).drew)) ?_
  repeat (first
    | (apply lexC_move rfl (.inl rfl); (focus (simp [go_sem]; rfl)))
    | (apply lexC_move rfl (.inr rfl); (focus (simp [go_sem]; rfl)))
    | (apply lexC_fn (dst := some 9) (.string T0); (focus kernel_rfl); (focus (intro v; go_simp; rfl)); (focus (intro v hv; refine Calls.mono (implDecimal_any k (by omega) (by omega) _ hv.2.2.2.1) ?_; rintro e v' ⟨rfl, hb⟩; exact ⟨by rw [HN.out.1], HK.out _ _ hv hb⟩)); (focus (simp [go_sem]; rfl)))
    | (apply lexC_fn (dst := some 13) (.string Ta); (focus kernel_rfl); (focus (intro v; go_simp; rfl)); (focus (intro v hv; refine Calls.mono (hexDigits16 a HV.out.2.1 _ hv.2.2.2.2.1) ?_; rintro e v' ⟨rfl, hb⟩; exact ⟨by rw [HN.out.2.1], HK.out _ _ hv hb⟩)); (focus (simp [go_sem]; rfl)))
    | (apply lexC_fn (dst := some 18) (.string Tb); (focus kernel_rfl); (focus (intro v; go_simp; rfl)); (focus (intro v hv; refine Calls.mono (hexDigits16 b HV.out.2.2 _ hv.2.2.2.2.1) ?_; rintro e v' ⟨rfl, hb⟩; exact ⟨by rw [HN.out.2.2.1], HK.out _ _ hv hb⟩)); (focus (simp [go_sem]; rfl)))
    | (apply lexC_pure rfl; (focus (intro v hv; obtain ⟨c0, c1, c2, _⟩ := hv; go_simp; rfl)); (focus (simp [go_sem]; rfl))))
  refine lexC_nil ?_
  rintro wz hz
  have HBL := hz.2.2.2.2.2
  go_wp2_with fail
  go_ret2
  exact ⟨rfl, (by repeat (first | with_reducible exact Below.refl _ _ | with_reducible exact HBL | with_reducible refine Below.drew ?_ | with_reducible refine Bel_drewN ?_ _ | with_reducible refine Below.alloc ?_ (by first | omega | (simp; done) | (simp; omega)) _ | with_reducible refine Below.setCell ?_ (by first | omega | (simp; done) | (simp; omega)) _))⟩
theorem implSeedText_no (k : Int) (a b : Nat) (w : World) (hv : vSeed k a b = false) :
    Calls Tryd.prog 42 #[sd k a b] w (RetB (.tuple #[.string ⟨#[]⟩, .bool false]) w) := by
  go_enter Tryd.func42, Tryd.ntmps42
  go_wp2_with (first | (go_at_call 77; fail))
  refine (ValidSeed_any _ _ _ _).mono ?_
  rintro e w1 ⟨rfl, rfl⟩
  rw [hv]
  go_wp2_with fail
  go_ret2
  exact ⟨rfl, (by repeat (first | with_reducible exact Below.refl _ _ | with_reducible exact HBL | with_reducible refine Below.drew ?_ | with_reducible refine Bel_drewN ?_ _ | with_reducible refine Below.alloc ?_ (by first | omega | (simp; done) | (simp; omega)) _ | with_reducible refine Below.setCell ?_ (by first | omega | (simp; done) | (simp; omega)) _))⟩
set_option maxRecDepth 100000 in
set_option maxHeartbeats 1000000 in
theorem l08Seed_any (k : Int) (a b : Nat) (ha : a < 18446744073709551616) (hb : b < 18446744073709551616) (h0 : 0 ≤ k) (h1 : k ≤ 3) (g : Nat) (w : World) (hw : Whole w g 53 (sdC k a b)) :
    Calls Tryd.prog 76 #[.pointer (some ⟨g, 0, none⟩)] w (RetB (.string ⟨(txtS k a b).toArray⟩) w) := by
  obtain ⟨T0, Ta, Tb, S2, S3, S4, S, hN, ha1, ha2, ha3, ha4⟩ := txt_adds k a b h0 h1
  rw [hN.2.2.2]
  have HN := Lib.hid hN
  clear hN
  have HV := Lib.hid (And.intro ha hb)
  have hR : w.cell? ⟨g, 0, none⟩ = some (.int .i64 k) ∧ w.cell? ⟨g, 1, none⟩ = some (.int .u64 a) ∧ w.cell? ⟨g, 2, none⟩ = some (.int .u64 b) ∧ Below w.heap.size w w := ⟨hw.cell 0, hw.cell 1, hw.cell 2, Below.refl _ _⟩
  clear ha hb hw
  have HK : Hid (∀ v v' : World, (v.cell? ⟨g, 0, none⟩ = some (.int .i64 k) ∧ v.cell? ⟨g, 1, none⟩ = some (.int .u64 a) ∧ v.cell? ⟨g, 2, none⟩ = some (.int .u64 b) ∧ Below w.heap.size w v) → Below v.heap.size v v' → (v'.cell? ⟨g, 0, none⟩ = some (.int .i64 k) ∧ v'.cell? ⟨g, 1, none⟩ = some (.int .u64 a) ∧ v'.cell? ⟨g, 2, none⟩ = some (.int .u64 b) ∧ Below w.heap.size w v')) := Lib.hid (fun v v' h hb => ⟨by rw [Below.cell hb (World.block_lt_of_cell? _ _ h.1)]; exact h.1, by rw [Below.cell hb (World.block_lt_of_cell? _ _ h.2.1)]; exact h.2.1, by rw [Below.cell hb (World.block_lt_of_cell? _ _ h.2.2.1)]; exact h.2.2.1, Bel_next h.2.2.2 hb⟩)
  go_enter Tryd.func76, Tryd.ntmps76
  go_wp2_with fail
  refine wp_region_lex (C := fun v => v.cell? ⟨g, 0, none⟩ = some (.int .i64 k) ∧ v.cell? ⟨g, 1, none⟩ = some (.int .u64 a) ∧ v.cell? ⟨g, 2, none⟩ = some (.int .u64 b) ∧ Below w.heap.size w v) (by kernel_rfl) (by kernel_rfl) (HK.out _ _ hR ((Below.refl _ _).drew)) ?_
  repeat (first
    | (apply lexC_move rfl (.inl rfl); (focus (simp [go_sem]; rfl)))
    | (apply lexC_move rfl (.inr rfl); (focus (simp [go_sem]; rfl)))
    | (apply lexC_fn (dst := some 7) (.string T0); (focus kernel_rfl); (focus (intro v; go_simp; rfl)); (focus (intro v hv; refine Calls.mono (l01Dec_any k (by omega) (by omega) _) ?_; rintro e v' ⟨rfl, hb⟩; exact ⟨by rw [HN.out.1], HK.out _ _ hv hb⟩)); (focus (simp [go_sem]; rfl)))
    | (apply lexC_fn (dst := some 13) (.string Ta); (focus kernel_rfl); (focus (intro v; go_simp; rfl)); (focus (intro v hv; refine Calls.mono (l08Hex_any a HV.out.1 _) ?_; rintro e v' ⟨rfl, hb⟩; exact ⟨by rw [HN.out.2.1], HK.out _ _ hv hb⟩)); (focus (simp [go_sem]; rfl)))
    | (apply lexC_fn (dst := some 20) (.string Tb); (focus kernel_rfl); (focus (intro v; go_simp; rfl)); (focus (intro v hv; refine Calls.mono (l08Hex_any b HV.out.2 _) ?_; rintro e v' ⟨rfl, hb⟩; exact ⟨by rw [HN.out.2.2.1], HK.out _ _ hv hb⟩)); (focus (simp [go_sem]; rfl)))
    | (apply lexC_pure rfl; (focus (intro v hv; obtain ⟨c0, c1, c2, _⟩ := hv; go_simp; rfl)); (focus (simp [go_sem]; rfl))))
  refine lexC_nil ?_
  rintro wz hz
  have HBL := hz.2.2.2
  go_wp2_with fail
  go_ret
  exact ⟨rfl, (by repeat (first | with_reducible exact Below.refl _ _ | with_reducible exact HBL | with_reducible refine Below.drew ?_ | with_reducible refine Bel_drewN ?_ _ | with_reducible refine Below.alloc ?_ (by first | omega | (simp; done) | (simp; omega)) _ | with_reducible refine Below.setCell ?_ (by first | omega | (simp; done) | (simp; omega)) _))⟩
theorem specSeedText_yes (k : Int) (a b : Nat) (ha : a < 18446744073709551616) (hb : b < 18446744073709551616) (w : World) (hv : vSeed k a b = true) :
    Calls Tryd.prog 40 #[sd k a b] w (RetB (.tuple #[.string ⟨(txtS k a b).toArray⟩, .bool true]) w) := by
  obtain ⟨h0, h1⟩ := vSeed_in hv
  have HV := Lib.hid (And.intro hv (And.intro ha hb))
  have p0 := Lib.hid (Whole.made w 53 (sdC k a b))
  clear hv ha hb
  go_enter Tryd.func40, Tryd.ntmps40
  go_wp2_with (first | (go_at_call 75; fail))
  refine (l02Is_any _ _ _ _ _ p0.out).mono ?_
  rintro e w1 ⟨rfl, rfl⟩
  rw [HV.out.1]
  go_wp2_with (first | (go_at_call 76; fail))
  refine (l08Seed_any k a b HV.out.2.1 HV.out.2.2 h0 h1 _ _ p0.out).mono ?_
  rintro e w2 ⟨rfl, hb⟩
  have HB : Hid (Below w.heap.size w w2) := Lib.hid (Bel_next ((by repeat (first | with_reducible exact Below.refl _ _ | with_reducible exact HBL | with_reducible refine Below.drew ?_ | with_reducible refine Bel_drewN ?_ _ | with_reducible refine Below.alloc ?_ (by first | omega | (simp; done) | (simp; omega)) _ | with_reducible refine Below.setCell ?_ (by first | omega | (simp; done) | (simp; omega)) _))) hb)
  clear hb
  go_wp2_with fail
  go_ret2
  exact ⟨rfl, HB.out⟩
theorem specSeedText_no (k : Int) (a b : Nat) (w : World) (hv : vSeed k a b = false) :
    Calls Tryd.prog 40 #[sd k a b] w (RetB (.tuple #[.string ⟨#[]⟩, .bool false]) w) := by
  have p0 := Lib.hid (Whole.made w 53 (sdC k a b))
  go_enter Tryd.func40, Tryd.ntmps40
  go_wp2_with (first | (go_at_call 75; fail))
  refine (l02Is_any _ _ _ _ _ p0.out).mono ?_
  rintro e w1 ⟨rfl, rfl⟩
  rw [hv]
  go_wp2_with fail
  go_ret2
  exact ⟨rfl, (by repeat (first | with_reducible exact Below.refl _ _ | with_reducible exact HBL | with_reducible refine Below.drew ?_ | with_reducible refine Bel_drewN ?_ _ | with_reducible refine Below.alloc ?_ (by first | omega | (simp; done) | (simp; omega)) _ | with_reducible refine Below.setCell ?_ (by first | omega | (simp; done) | (simp; omega)) _))⟩
end Go.Proofs.YtfgkimhcbboipaaDoor
