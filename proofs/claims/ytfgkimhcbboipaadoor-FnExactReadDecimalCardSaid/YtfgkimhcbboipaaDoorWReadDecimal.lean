/- The walk of the law FnExactReadDecimal. -/
import Derived.Test.YtfgkimhcbboipaaDoorRdc
namespace Go.Proofs.YtfgkimhcbboipaaDoor
open Go Go.RowKit
set_option linter.unusedVariables false
set_option maxRecDepth 100000 in
theorem FnExactReadDecimal_walk (s : ByteArray) (h_s : s.size ≤ maxLen) (w : World) (hT : Pow10 w) (hE : ErrV w) :
    Calls Tryd.prog 4 #[.string s] w fun e w' => e = .returned (.bool true) ∧ Below w.heap.size w w' := by
  have HT := Lib.hid (And.intro hT hE)
  have hmx : s.size ≤ 9223372036854775807 := by unfold maxLen at h_s; exact h_s
  clear hT hE h_s
  by_cases hbig : 1048576 < s.size
  · have hbig' : (1048576 : Int) < (s.size : Int) := by omega
    clear hbig
    go_enter Tryd.func4, Tryd.ntmps4
    go_wp2_with fail
    go_ret
    exact ⟨rfl, Below.refl _ _⟩
  · have hs : s.size ≤ 1048576 := by omega
    have hs' : (s.size : Int) ≤ 1048576 := by omega
    clear hbig
    go_enter Tryd.func4, Tryd.ntmps4
    go_wp2_with (first | (go_at_call 17; fail))
    refine (specReadDecimal_any s hs _).mono ?_
    rintro e w1 ⟨hor, hb⟩
    have HB := Lib.hid hb
    clear hb
    rcases hor with ⟨n, hn, rfl⟩ | ⟨hn, rfl⟩
    · have HN := Lib.hid hn
      clear hn
      go_wp2_with (first | (go_at_call 18; fail))
      refine (implReadDecimal_any s hs _ (HT.out.1.below HB.out) (HT.out.2.below HB.out)).mono ?_
      rintro e w2 ⟨hor, hb⟩
      have HB2 := Lib.hid (Bel_next HB.out hb)
      clear hb
      rcases hor with ⟨m, hm, rfl⟩ | ⟨hm, rfl⟩
      · obtain rfl := HN.out.one hm
        clear hm
        go_wp2_with fail
        go_ret
        exact ⟨rfl, HB2.out⟩
      · exact absurd ⟨_, HN.out⟩ hm
    · have HN := Lib.hid hn
      clear hn
      go_wp2_with (first | (go_at_call 18; fail))
      refine (implReadDecimal_any s hs _ (HT.out.1.below HB.out) (HT.out.2.below HB.out)).mono ?_
      rintro e w2 ⟨hor, hb⟩
      have HB2 := Lib.hid (Bel_next HB.out hb)
      clear hb
      rcases hor with ⟨m, hm, rfl⟩ | ⟨hm, rfl⟩
      · exact absurd ⟨_, hm⟩ HN.out
      · clear hm
        go_wp2_with fail
        go_ret
        exact ⟨rfl, HB2.out⟩
end Go.Proofs.YtfgkimhcbboipaaDoor
