/- Memory of the call's own; numbers of 64 bits without a sign, as the walk writes them. -/
import Derived.WalkKit
import Derived.Deep.Draws
import Derived.Laws.Bits64b
import Derived.Laws.BitsAllLaws
import Derived.KernelRfl
import Derived.Lib.Hide
import Derived.Below
namespace Go.Proofs.YtfgkimhcbboipaaDoor
open Go Go.RowKit
set_option linter.unusedVariables false

/-! ### A block that is known whole -/
def Whole (w : World) (g : Nat) (t : TypeId) (cs : Array Value) : Prop := w.heap[g]? = some (.cells cs t (0, 0))
section
variable {w w' : World} {g : Nat} {t : TypeId} {cs : Array Value}
theorem Whole.lt (h : Whole w g t cs) : g < w.heap.size := by
  rcases Nat.lt_or_ge g w.heap.size with hlt | hge
  · exact hlt
  · unfold Whole at h; rw [Array.getElem?_eq_none hge] at h; cases h
theorem Whole.cell (h : Whole w g t cs) (i : Nat) : w.cell? ⟨g, i, none⟩ = cs[i]? := cell_of_row w g i cs t (0, 0) h
theorem Whole.frozen (h : Whole w g t cs) (i : Nat) : w.frozen? ⟨g, i, none⟩ = false := by
  unfold Whole at h
  simp [World.frozen?, h]
theorem Whole.facts (h : Whole w g t cs) : (∀ o, w.cell? ⟨g, o, none⟩ = cs[o]?) ∧ (∀ o, w.frozen? ⟨g, o, none⟩ = false) := ⟨h.cell, h.frozen⟩
theorem Whole.made (w : World) (t : TypeId) (cs : Array Value) : Whole (w.alloc (.cells cs t)) w.heap.size t cs := heap_alloc_new w _
theorem Whole.made2 (w : World) (o : Obj) (t : TypeId) (cs : Array Value) : Whole ((w.alloc o).alloc (.cells cs t)) (w.heap.size + 1) t cs := by simpa using Whole.made (w.alloc o) t cs
theorem Whole.drew (h : Whole w g t cs) : Whole w.drew g t cs := h
theorem Whole.drewN (h : Whole w g t cs) (n : Nat) : Whole (w.drewN n) g t cs := h
theorem Whole.alloc (h : Whole w g t cs) (o : Obj) : Whole (w.alloc o) g t cs := (Below.heap_alloc w o g h.lt).trans h
theorem Whole.put (h : Whole w g t cs) (i : Nat) (u : Value) : Whole (w.setCell ⟨g, i, none⟩ u) g t (cs.setIfInBounds i u) := by
  unfold Whole at h ⊢
  simp [World.setCell, Array.getElem?_modify, h]
theorem Whole.far (h : Whole w g t cs) {p : Addr} (hp : g ≠ p.block) (u : Value) : Whole (w.setCell p u) g t cs := (Below.heap_setCell w p u g hp).trans h
theorem Whole.below (h : Whole w g t cs) (hb : Below w.heap.size w w') : Whole w' g t cs := (hb.block g h.lt).trans h
theorem Whole.grown {row : Option Nat} (h : Whole w g t cs) (hb : w.grownBy w' row) (hg : some g ≠ row) : Whole w' g t cs := (hb.block g h.lt hg).trans h
end

theorem grown_set (w : World) (g i : Nat) (u : Value) : w.grownBy (w.setCell ⟨g, i, none⟩ u) (some g) :=
  ⟨rfl, rfl, rfl, by simp [World.setCell], fun k hk hne => Below.heap_setCell _ _ _ _ (fun e => hne (by rw [e]))⟩
theorem grown_drew {w w' : World} {row : Option Nat} (h : w.grownBy w' row) : w.grownBy w'.drew row := ⟨h.os, h.tape, h.output, h.size, h.block⟩
theorem grown_refl (w : World) (row : Option Nat) : w.grownBy w row := ⟨rfl, rfl, rfl, Nat.le_refl _, fun _ _ _ => rfl⟩
theorem grown_put {w w' : World} {g : Nat} (h : w.grownBy w' (some g)) (i : Nat) (u : Value) : w.grownBy (w'.setCell ⟨g, i, none⟩ u) (some g) :=
  ⟨h.os, h.tape, h.output, by simpa [World.setCell] using h.size, fun k hk hne => (Below.heap_setCell _ _ _ _ (fun e => hne (by rw [e]))).trans (h.block k hk hne)⟩
theorem grown_drewN (w : World) (n : Nat) (row : Option Nat) : w.grownBy (w.drewN n) row := ⟨rfl, rfl, rfl, Nat.le_refl _, fun _ _ _ => rfl⟩
theorem grown_trans {a b c : World} {row : Option Nat} (h : a.grownBy b row) (k : b.grownBy c row) : a.grownBy c row :=
  ⟨k.os.trans h.os, k.tape.trans h.tape, k.output.trans h.output, Nat.le_trans h.size k.size, fun i hi hne => (k.block i (Nat.lt_of_lt_of_le hi h.size) hne).trans (h.block i hi hne)⟩
theorem grown_below {a b : World} {row : Option Nat} (h : Below a.heap.size a b) : a.grownBy b row := ⟨h.os, h.tape, h.output, h.size, fun i hi _ => h.block i hi⟩
theorem Bel_drewN {B : Nat} {W w' : World} (h : Below B W w') (n : Nat) : Below B W (w'.drewN n) := ⟨h.os, h.tape, h.output, h.size, h.block⟩
theorem Bel_next {W w w' : World} (h : Below W.heap.size W w) (k : Below w.heap.size w w') : Below W.heap.size W w' := h.trans (k.mono h.size)

theorem cells_kept {W w1 : World} (hb : Below W.heap.size W w1) :
    (∀ b o, b < W.heap.size → w1.cell? ⟨b, o, none⟩ = W.cell? ⟨b, o, none⟩) ∧ (∀ b o, b < W.heap.size → w1.frozen? ⟨b, o, none⟩ = W.frozen? ⟨b, o, none⟩) :=
  ⟨fun b o h => hb.cell (p := ⟨b, o, none⟩) h, fun b o h => hb.frozen (p := ⟨b, o, none⟩) h⟩

theorem cell_old (w : World) (o : Obj) {a : Addr} {v : Value} (h : w.cell? a = some v) : (w.alloc o).cell? a = some v := by
  rw [World.cell?_alloc_lt _ _ _ (World.block_lt_of_cell? _ _ h)]; exact h
theorem cell_drew (w : World) {a : Addr} {v : Value} (h : w.cell? a = some v) : w.drew.cell? a = some v := h

/-! ### 64 bits -/
def mixN (x : Nat) : Nat :=
  let y := (x ^^^ x / 1073741824) * 13787848793156543929 % 18446744073709551616
  let z := (y ^^^ y / 134217728) * 10723151780598845931 % 18446744073709551616
  z ^^^ z / 2147483648
theorem xor_lt {x y : Nat} (hx : x < 18446744073709551616) (hy : y < 18446744073709551616) : x ^^^ y < 18446744073709551616 := Nat.xor_lt_two_pow (n := 64) hx hy
theorem div_lt {x : Nat} (hx : x < 18446744073709551616) (s : Nat) : x / s < 18446744073709551616 := Nat.lt_of_le_of_lt (Nat.div_le_self _ _) hx
theorem mixN_lt (x : Nat) : mixN x < 18446744073709551616 := by
  unfold mixN; exact xor_lt (Nat.mod_lt _ (by decide)) (div_lt (Nat.mod_lt _ (by decide)) _)
theorem mix_walk (x : Nat) (hx : x < 18446744073709551616) :
    bits .xor .u64 (IntKind.u64.wrap (bits .xor .u64 (IntKind.u64.wrap (bits .xor .u64 (↑x) (↑x / 1073741824) * 13787848793156543929)) (IntKind.u64.wrap (bits .xor .u64 (↑x) (↑x / 1073741824) * 13787848793156543929) / 134217728) * 10723151780598845931))
      (IntKind.u64.wrap (bits .xor .u64 (IntKind.u64.wrap (bits .xor .u64 (↑x) (↑x / 1073741824) * 13787848793156543929)) (IntKind.u64.wrap (bits .xor .u64 (↑x) (↑x / 1073741824) * 13787848793156543929) / 134217728) * 10723151780598845931) / 2147483648) = ((mixN x : Nat) : Int) := by
  have h1 : IntKind.u64.wrap (bits .xor .u64 (↑x) ((x : Int) / 1073741824) * 13787848793156543929) = _ := mixStep_u64 x 1073741824 13787848793156543929 hx
  rw [h1]
  generalize hy : (x ^^^ x / 1073741824) * 13787848793156543929 % 18446744073709551616 = y
  have hyl : y < 18446744073709551616 := by rw [← hy]; exact Nat.mod_lt _ (by decide)
  have h2 : IntKind.u64.wrap (bits .xor .u64 (↑y) ((y : Int) / 134217728) * 10723151780598845931) = _ := mixStep_u64 y 134217728 10723151780598845931 hyl
  rw [h2]
  generalize hz : (y ^^^ y / 134217728) * 10723151780598845931 % 18446744073709551616 = z
  have hzl : z < 18446744073709551616 := by rw [← hz]; exact Nat.mod_lt _ (by decide)
  have h3 : bits .xor .u64 (↑z) ((z : Int) / 2147483648) = _ := xorShift_u64 z 2147483648 hzl
  rw [h3]
  unfold mixN
  simp only [hy, hz]
theorem wadd (x y : Nat) : IntKind.u64.wrap ((x : Int) + y) = (((x + y) % 18446744073709551616 : Nat) : Int) := by rw [IntKind.wrap_u64]; omega
theorem wmul (x y : Nat) : IntKind.u64.wrap ((x : Int) * y) = (((x * y) % 18446744073709551616 : Nat) : Int) := by rw [IntKind.wrap_u64, ← Int.natCast_mul]; omega
theorem natdiv (x y : Nat) : (x : Int) / (y : Int) = ((x / y : Nat) : Int) := rfl
theorem mod_lt64 (x : Nat) : x % 18446744073709551616 < 18446744073709551616 := Nat.mod_lt _ (by decide)
/-- What a shift of 64 bits brings on: x joined with it shifted, three times. -/
def sh1 (a : Nat) : Nat :=
  let x := a ^^^ a * 8192 % 18446744073709551616
  let y := x ^^^ x / 128
  y ^^^ y * 131072 % 18446744073709551616
theorem sh1_lt (a : Nat) (ha : a < 18446744073709551616) : sh1 a < 18446744073709551616 := by
  unfold sh1
  have h1 : a ^^^ a * 8192 % 18446744073709551616 < 18446744073709551616 := xor_lt ha (mod_lt64 _)
  exact xor_lt (xor_lt h1 (div_lt h1 _)) (mod_lt64 _)
theorem sh1_a (a : Nat) (ha : a < 18446744073709551616) : bits .xor .u64 (↑a) (IntKind.u64.wrap (↑a * 8192)) = ((a ^^^ a * 8192 % 18446744073709551616 : Nat) : Int) := by
  have e : IntKind.u64.wrap ((a : Int) * 8192) = _ := wmul a 8192
  rw [e, bits_xor_u64_nat _ _ ha (mod_lt64 _)]
theorem sh1_b (x : Nat) (hx : x < 18446744073709551616) : bits .xor .u64 (↑x) (↑x / 128) = ((x ^^^ x / 128 : Nat) : Int) := xorShift_u64 x 128 hx
theorem sh1_c (y : Nat) (hy : y < 18446744073709551616) : bits .xor .u64 (↑y) (IntKind.u64.wrap (↑y * 131072)) = ((y ^^^ y * 131072 % 18446744073709551616 : Nat) : Int) := by
  have e : IntKind.u64.wrap ((y : Int) * 131072) = _ := wmul y 131072
  rw [e, bits_xor_u64_nat _ _ hy (mod_lt64 _)]
def rotN (x s t : Nat) : Nat := x * s % 18446744073709551616 ||| x / t
theorem rotN_lt (x s t : Nat) (hx : x < 18446744073709551616) : rotN x s t < 18446744073709551616 := Nat.or_lt_two_pow (n := 64) (mod_lt64 _) (div_lt hx _)
theorem rot_a (x s t : Nat) (hx : x < 18446744073709551616) : bits .or .u64 (IntKind.u64.wrap (↑x * (s : Int))) (↑x / (t : Int)) = (rotN x s t : Int) := by
  rw [wmul, natdiv, bits_or_u64_nat _ _ (mod_lt64 _) (div_lt hx _)]; rfl
theorem pair_b (x : Nat) (y : Nat) (hx : x < 18446744073709551616) (hy : y < 18446744073709551616) : bits .xor .u64 (bits .xor .u64 (↑y) (↑x)) (IntKind.u64.wrap (↑x * 65536)) = ((y ^^^ x ^^^ x * 65536 % 18446744073709551616 : Nat) : Int) := by
  have e : IntKind.u64.wrap ((x : Int) * 65536) = _ := wmul x 65536
  rw [e, bits_xor_u64_nat _ _ hy hx, bits_xor_u64_nat _ _ (xor_lt hy hx) (mod_lt64 _)]
theorem top_word (x : Nat) (hx : x < 18446744073709551616) : (0 : Int) ≤ ((x / 4294967296 : Nat) : Int) ∧ ((x / 4294967296 : Nat) : Int) < 4294967296 := by omega
end Go.Proofs.YtfgkimhcbboipaaDoor
