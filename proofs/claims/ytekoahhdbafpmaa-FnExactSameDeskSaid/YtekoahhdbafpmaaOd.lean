/- How an argument that is a desk is opened. -/
import Derived.Test.YtekoahhdbafpmaaOi
import Derived.Test.YtekoahhdbafpmaaOs
namespace Go.Proofs.Ytekoahhdbafpmaa
open Go Go.RowKit Go.ChangeShapes Go.WideShapes Go.ChangeAt Go.Deep Go.Joins
set_option linter.unusedVariables false

theorem array8 {α : Type} {cs : Array α} (h : cs.size = 8) : ∃ c0 c1 c2 c3 c4 c5 c6 c7, cs = #[c0, c1, c2, c3, c4, c5, c6, c7] := by
  obtain ⟨l⟩ := cs
  match l, h with
  | [c0, c1, c2, c3, c4, c5, c6, c7], _ => exact ⟨c0, c1, c2, c3, c4, c5, c6, c7, rfl⟩
section
variable {H : Type} {enc : TypeId × Value → H} {P : Program} {W : World} {base : Nat} {spare : Nat → Bool} {held : Bool}
theorem u64_of {t : TypeId} {v : Value} {n : Nat} {y : DataW H × List MemPlace} (ht : P.underlying t = some (.int .u64)) (h : DataW.trod enc P W base spare held n t [v] = some y) :
    ∃ x : Nat, v = .int .u64 (x : Int) ∧ x < 18446744073709551616 := by
  obtain ⟨x, q, _, wx⟩ := DataW.trod_int ht h
  simp at q
  obtain ⟨a, rfl, ha⟩ := wf_u64 wx
  exact ⟨a, q, ha⟩
theorem open_desk {r : Reach} {b0 : Nat} {t ti tu tI tF te : TypeId} {f0 f1 f2 f3 g0 g1 g2 h0 h1 h2 : Field} {v : Value} {d : DataW H} {p : List MemPlace} (hs : P.underlying t = some (.struct #[f0, f1, f2, f3])) (hsS : P.underlying f0.type = some (.struct #[g0, g1, g2])) (hsT : P.underlying f1.type = some (.struct #[h0, h1, h2]))
    (hi : P.underlying ti = some (.int .i64)) (hu : P.underlying tu = some (.int .u64)) (hI : P.underlying tI = some (.slice ti)) (hF : P.underlying tF = some (.slice te)) (he : P.underlying te = some (.float .f32)) (hci : P.cellsOf ti = 1) (hce : P.cellsOf te = 1)
    (hb : (P.cellsOf t == 8 && f0.offset == 0 && P.cellsOf f0.type == 3 && f1.offset == 3 && P.cellsOf f1.type == 3 && f2.offset == 6 && P.cellsOf f2.type == 1 && f3.offset == 7 && P.cellsOf f3.type == 1 && f2.type == tI && f3.type == tF && g0.offset == 0 && P.cellsOf g0.type == 1 && g1.offset == 1 && P.cellsOf g1.type == 1 && g2.offset == 2 && P.cellsOf g2.type == 1 && g0.type == ti && g1.type == tu && g2.type == tu && h0.offset == 0 && P.cellsOf h0.type == 1 && h1.offset == 1 && P.cellsOf h1.type == 1 && h2.offset == 2 && P.cellsOf h2.type == 1 && h0.type == ti && h1.type == ti && h2.type == tI) = true)
    (hval : Value.okWide P W r b0 t v) (hd : DataW.Trod enc P W base spare held t v d p) :
    ∃ (k : Int) (a b : Nat) (rr cc : Int) (ax : Option Addr) (cx : Nat) (xs : List Int) (ay : Option Addr) (cy : Nat) (ys : List Int) (az : Option Addr) (cz : Nat) (zs : List Nat), v = .agg #[.int .i64 k, .int .u64 (a : Int), .int .u64 (b : Int), .int .i64 rr, .int .i64 cc, .slice ax xs.length cx, .slice ay ys.length cy, .slice az zs.length cz] ∧
      (Lit.int .i64 k).wf = true ∧ a < 18446744073709551616 ∧ b < 18446744073709551616 ∧ (Lit.int .i64 rr).wf = true ∧ (Lit.int .i64 cc).wf = true ∧
      (Holds W ax (xs.map (Value.int .i64)) ∧ (∀ x ∈ xs, -9223372036854775808 ≤ x ∧ x ≤ 9223372036854775807) ∧ xs.length ≤ 9223372036854775807) ∧
      (Holds W ay (ys.map (Value.int .i64)) ∧ (∀ x ∈ ys, -9223372036854775808 ≤ x ∧ x ≤ 9223372036854775807) ∧ ys.length ≤ 9223372036854775807) ∧
      (Holds W az (zs.map (Value.float .f32)) ∧ (∀ x ∈ zs, (Lit.float .f32 x).wf = true) ∧ zs.length ≤ 9223372036854775807) := by
  simp only [Bool.and_eq_true, beq_iff_eq] at hb
  obtain ⟨⟨⟨⟨⟨⟨⟨⟨⟨⟨⟨⟨⟨⟨⟨⟨⟨⟨⟨⟨⟨⟨⟨⟨⟨⟨⟨⟨e1, e2⟩, e3⟩, e4⟩, e5⟩, e6⟩, e7⟩, e8⟩, e9⟩, e10⟩, e11⟩, e12⟩, e13⟩, e14⟩, e15⟩, e16⟩, e17⟩, e18⟩, e19⟩, e20⟩, e21⟩, e22⟩, e23⟩, e24⟩, e25⟩, e26⟩, e27⟩, e28⟩, e29⟩ := hb
  obtain ⟨cs, rfl, hsz⟩ := okWide_struct hs hval
  obtain ⟨c0, c1, c2, c3, c4, c5, c6, c7, rfl⟩ := array8 (hsz.trans e1)
  obtain ⟨fuel, hf⟩ := hd
  obtain ⟨y0, y1, y2, y3, n, _, _, k0, k1, k2, k3⟩ := trod_struct4 hs hf
  rw [e2, e3] at k0; rw [e4, e5] at k1; rw [e6, e7, e10] at k2; rw [e8, e9, e11] at k3
  simp only [Value.cells, List.drop, List.take] at k0 k1 k2 k3
  obtain ⟨u0, u1, u2, n', _, _, j0, j1, j2⟩ := trod_struct3 hsS k0
  rw [e12, e13, e18] at j0; rw [e14, e15, e19] at j1; rw [e16, e17, e20] at j2
  obtain ⟨w0, w1, w2, n'', _, _, i0, i1, i2⟩ := trod_struct3 hsT k1
  rw [e21, e22, e27] at i0; rw [e23, e24, e28] at i1; rw [e25, e26, e29] at i2
  simp only [List.drop, List.take] at j0 j1 j2 i0 i1 i2
  obtain ⟨k, rfl, wk⟩ := int_of hi j0
  obtain ⟨a, rfl, wa⟩ := u64_of hu j1
  obtain ⟨b, rfl, wb⟩ := u64_of hu j2
  obtain ⟨rr, rfl, wr⟩ := int_of hi i0
  obtain ⟨cc, rfl, wc⟩ := int_of hi i1
  obtain ⟨ax, cx, xs, rfl, hx, wx, mx⟩ := ints_of hI hi hci i2
  obtain ⟨ay, cy, ys, rfl, hy, wy, my⟩ := ints_of hI hi hci k2
  obtain ⟨az, cz, zs, rfl, hz, wz, mz⟩ := floats_of hF he hce k3
  exact ⟨k, a, b, rr, cc, ax, cx, xs, ay, cy, ys, az, cz, zs, rfl, wk, wa, wb, wr, wc, ⟨hx, wx, mx⟩, ⟨hy, wy, my⟩, ⟨hz, wz, mz⟩⟩
end
end Go.Proofs.Ytekoahhdbafpmaa
