/- The walk of the law FnExactDecimal. -/
import Derived.Test.YtfgkimhcbboipaaDoorDec
namespace Go.Proofs.YtfgkimhcbboipaaDoor
open Go Go.RowKit
set_option linter.unusedVariables false
theorem wf64 {n : Int} (h : (Lit.int .i64 n).wf = true) : -9223372036854775808 ≤ n ∧ n ≤ 9223372036854775807 := by
  simpa [Lit.wf, IntKind.min, IntKind.max, IntKind.signed, IntKind.bits] using h
theorem FnExactDecimal_walk (n : Int) (h_n : (Lit.int .i64 n).wf = true) (w : World) (hT : Pow10 w) :
    Calls Tryd.prog 3 #[.int .i64 n] w fun e w' => e = .returned (.bool true) ∧ Below w.heap.size w w' := by
  obtain ⟨h0, h1⟩ := wf64 h_n
  have HT := Lib.hid hT
  clear hT h_n
  go_enter Tryd.func3, Tryd.ntmps3
  go_wp2_with (first
    | (go_at_call 15; go_in)
    | (go_at_call 57; fail))
  refine (l01Dec_any n h0 h1 _).mono ?_
  rintro e w1 ⟨rfl, hb1⟩
  have H1 := Lib.hid (And.intro hb1 (HT.out.below hb1))
  clear hb1
  go_wp2_with (first | (go_at_call 16; fail))
  refine (implDecimal_any n h0 h1 _ H1.out.2).mono ?_
  rintro e w2 ⟨rfl, hb2⟩
  have H2 := Lib.hid (Bel_next H1.out.1 hb2)
  clear hb2
  go_wp2_with fail
  go_ret
  exact ⟨rfl, H2.out⟩
end Go.Proofs.YtfgkimhcbboipaaDoor
