/- Shares of seeds. -/
import Derived.Test.YticmnkgcolgpaaaSe
import Derived.Test.YticmnkgcolgpaaaSv
import Derived.Test.YticmnkgcolgpaaaFs
import Derived.Test.YticmnkgcolgpaaaSf
import Derived.Test.YticmnkgcolgpaaaGd
import Derived.Laws.FloatArith
namespace Go.Proofs.Yticmnkgcolgpaaa
open Go Go.RowKit Fl
set_option linter.unusedVariables false

/-- The bits of the share that is drawn. -/
def shK (k : Int) (a b : Nat) : Nat := shF (nxW k a b / 256)
theorem shK_lt {k : Int} {a b : Nat} (hk : 0 ≤ k ∧ k ≤ 3) : nxW k a b / 256 < 16777216 := by have := nxW_lt k a b hk; omega
theorem ofInt_nat (x : Nat) : floatOfInt .f32 (x : Int) = Ieee.single.nearest false x 0 := by
  show Ieee.single.write (.number (decide ((x : Int) < 0)) (x : Int).natAbs 0) = _
  rw [decide_eq_false (by omega), Int.natAbs_natCast]; rfl
theorem mul_share (x : Nat) (hx : x < 16777216) : floatBits .mul .f32 (floatOfInt .f32 (x : Int)) 864026624 = some (shF x) := by
  rw [ofInt_nat]; exact share_mul x hx
theorem quo_share (x : Nat) (hx : x < 16777216) : floatBits .quo .f32 (floatOfInt .f32 (x : Int)) 1266679808 = some (shF x) := by
  rw [ofInt_nat]; exact share_div x hx

set_option maxHeartbeats 400000 in
theorem implShare_yes (k : Int) (a b : Nat) (w : World) (hs : sOk k a b) :
    Calls Try.prog 98 #[sd k a b] w (RetB (.tuple #[sd k (nxA k a b) (nxB k a b), .float .f32 (shK k a b), .bool true]) w) := by
  have hk := Lib.hid hs.kind
  have HS := Lib.hid hs
  have hx := shK_lt (a := a) (b := b) hs.kind
  have hq : (nxW k a b : Int) / 256 = ((nxW k a b / 256 : Nat) : Int) := rfl
  have hm := mul_share _ hx
  have HE : Hid (shF (nxW k a b / 256) = shK k a b) := Lib.hid rfl
  generalize nxW k a b / 256 = x at *
  have hm' : ∀ (t : TypeId) (w : World), (binOp .mul t (.float .f32 (floatOfInt .f32 (x : Int))) (.float .f32 864026624)).run Try.prog w = .ok (.float .f32 (shF x)) w := fun t w => run_float_arith w _ _ _ _ _ _ hm
  have hl := nxW_lt k a b hs.kind
  have hl' : (nxW k a b : Int) < 4294967296 := by omega
  have hx' : (x : Int) < 16777216 := by omega
  clear hm hs hl hx
  go_enter Try.func98, Try.ntmps98
  go_wp2_with fail
  refine (ValidSeed_any _ _ _ _).mono ?_
  rintro e w1 ⟨rfl, rfl⟩
  rw [HS.out.1]
  go_wp2_with fail
  refine (stepSeed_any _ _ _ _ hk.out HS.out.2.1 HS.out.2.2).mono ?_
  rintro e w2 ⟨rfl, rfl⟩
  go_wp2_with fail
  rw [HE.out]
  exact bodyPost_ret (v := .tuple #[sd k (nxA k a b) (nxB k a b), .float .f32 (shK k a b), .bool true]) (by simp [results, Try.results98, go_sem]) rfl ⟨rfl, (by repeat (first | with_reducible exact Below.refl _ _ | with_reducible exact HBL | with_reducible refine Below.drew ?_ | with_reducible refine Bel_drewN ?_ _ | with_reducible refine Below.alloc ?_ (by first | omega | (simp; done) | (simp; omega)) _ | with_reducible refine Below.setCell ?_ (by first | omega | (simp; done) | (simp; omega)) _))⟩
theorem implShare_no (k : Int) (a b : Nat) (w : World) (hv : vSeed k a b = false) :
    Calls Try.prog 98 #[sd k a b] w (RetB (.tuple #[sd 0 0 0, .float .f32 0, .bool false]) w) := by
  go_enter Try.func98, Try.ntmps98
  go_wp2_with fail
  refine (ValidSeed_any _ _ _ _).mono ?_
  rintro e w1 ⟨rfl, rfl⟩
  go_wp2_with fail
  exact bodyPost_ret (v := .tuple #[sd 0 0 0, .float .f32 0, .bool false]) (by simp [results, Try.results98, go_sem]) rfl ⟨rfl, (by repeat (first | with_reducible exact Below.refl _ _ | with_reducible exact HBL | with_reducible refine Below.drew ?_ | with_reducible refine Bel_drewN ?_ _ | with_reducible refine Below.alloc ?_ (by first | omega | (simp; done) | (simp; omega)) _ | with_reducible refine Below.setCell ?_ (by first | omega | (simp; done) | (simp; omega)) _))⟩
theorem drawShare_any (k : Int) (a b : Nat) (w : World) (hs : sOk k a b) :
    Calls Try.prog 59 #[sd k a b] w (RetB (.tuple #[sd k (nxA k a b) (nxB k a b), .float .f32 (shK k a b)]) w) := by
  have HS := Lib.hid hs
  clear hs
  go_enter Try.func59, Try.ntmps59
  go_wp2_with fail
  refine (implShare_yes _ _ _ _ HS.out).mono ?_
  rintro e w1 ⟨rfl, hb⟩
  have HBL : Below w.heap.size w w1 := Bel_next (by repeat (first | with_reducible exact Below.refl _ _ | with_reducible exact HBL | with_reducible refine Below.drew ?_ | with_reducible refine Bel_drewN ?_ _ | with_reducible refine Below.alloc ?_ (by first | omega | (simp; done) | (simp; omega)) _ | with_reducible refine Below.setCell ?_ (by first | omega | (simp; done) | (simp; omega)) _)) hb
  have q1 := (Whole.made2 w (.cells (sdC k a b) 31) 31 (sdC 0 0 0)).below hb
  have hz1 := q1.lt
  obtain ⟨hc1, hf1⟩ := q1.facts
  have H := Lib.hid HBL
  clear hb HBL q1
  go_wp2_with fail
  have HBL := H.out
  exact bodyPost_ret (v := .tuple #[sd k (nxA k a b) (nxB k a b), .float .f32 (shK k a b)]) (by simp [results, Try.results59, go_sem, hc1, hz1]) rfl ⟨rfl, (by repeat (first | with_reducible exact Below.refl _ _ | with_reducible exact HBL | with_reducible refine Below.drew ?_ | with_reducible refine Bel_drewN ?_ _ | with_reducible refine Below.alloc ?_ (by first | omega | (simp; done) | (simp; omega)) _ | with_reducible refine Below.setCell ?_ (by first | omega | (simp; done) | (simp; omega)) _))⟩
/-- A float, and the seed behind a pointer turned to the next one. -/
def SharedP (g : Nat) (k : Int) (a b : Nat) (w : World) (e : Ending) (w' : World) : Prop :=
  e = .returned (.float .f32 (shK k a b)) ∧ Whole w' g 31 (sdC k (nxA k a b) (nxB k a b)) ∧ w.grownBy w' (some g)
set_option maxHeartbeats 400000 in
theorem l02Share_any (g : Nat) (k : Int) (a b : Nat) (w : World) (hs : sOk k a b) (hw : Whole w g 31 (sdC k a b)) :
    Calls Try.prog 57 #[.pointer (some ⟨g, 0, none⟩)] w (SharedP g k a b w) := by
  have hk := Lib.hid hs.kind
  have HS := Lib.hid hs
  have HW := Lib.hid hw
  have hx := shK_lt (a := a) (b := b) hs.kind
  have hq : (nxW k a b : Int) / 256 = ((nxW k a b / 256 : Nat) : Int) := rfl
  have hm := quo_share _ hx
  have HE : Hid (shF (nxW k a b / 256) = shK k a b) := Lib.hid rfl
  generalize nxW k a b / 256 = x at *
  have hm' : ∀ (t : TypeId) (w : World), (binOp .quo t (.float .f32 (floatOfInt .f32 (x : Int))) (.float .f32 1266679808)).run Try.prog w = .ok (.float .f32 (shF x)) w := fun t w => run_float_arith w _ _ _ _ _ _ hm
  have hl := nxW_lt k a b hs.kind
  have hl' : (nxW k a b : Int) < 4294967296 := by omega
  have hx' : (x : Int) < 16777216 := by omega
  clear hm hs hl hx hw
  go_enter Try.func57, Try.ntmps57
  go_wp2_with fail
  refine (l02Next_any _ _ _ _ _ hk.out HS.out.2.1 HS.out.2.2 HW.out).mono ?_
  rintro e w2 ⟨rfl, q0, hg⟩
  have H := Lib.hid (And.intro q0 hg)
  clear q0 hg
  go_wp2_with fail
  go_ret
  exact ⟨by rw [← HE.out]; rfl, H.out.1, H.out.2⟩
/-- It returns a number among other results, known but for a not-a-number's bits, and has turned only memory of its own. -/
def RetF (f : Nat → Value) (v : Option Nat) (w : World) (e : Ending) (w' : World) : Prop := ∃ r, e = .returned (f r) ∧ Fv .f32 v r ∧ Below w.heap.size w w'
theorem RetB.toF {P : Program} {F : FuncId} {args : Array Value} {w : World} {f : Nat → Value} {r : Nat} (h : Calls P F args w (RetB (f r) w)) (hr : r < 4294967296) : Calls P F args w (RetF f (av .f32 r) w) :=
  h.mono fun e w' ⟨he, hb⟩ => ⟨r, he, ⟨hr, rfl⟩, hb⟩
theorem shK_w {k : Int} {a b : Nat} (hs : sOk k a b) : shK k a b < 4294967296 := (shF_lt _ (shK_lt hs.kind)).1
theorem implShare_F (k : Int) (a b : Nat) (w : World) (hs : sOk k a b) :
    Calls Try.prog 98 #[sd k a b] w (RetF (fun r => .tuple #[sd k (nxA k a b) (nxB k a b), .float .f32 r, .bool true]) (av .f32 (shK k a b)) w) := RetB.toF (implShare_yes k a b w hs) (shK_w hs)
theorem implShare_nF (k : Int) (a b : Nat) (w : World) (hv : vSeed k a b = false) :
    Calls Try.prog 98 #[sd k a b] w (RetF (fun r => .tuple #[sd 0 0 0, .float .f32 r, .bool false]) (av .f32 0) w) := RetB.toF (implShare_no k a b w hv) (by decide)
end Go.Proofs.Yticmnkgcolgpaaa
