/- Orders out of cycles: as the walk of the law calls both sides. -/
import Derived.Test.YtdnelmmbiccjcaaOa
namespace Go.Proofs.Ytdnelmmbiccjcaa
open Go Go.RowKit
set_option linter.unusedVariables false

theorem szLaw_no (xss : List (List Int)) (c : Nat) (ao : Option Addr) (w : World) (hx : Lists w ao xss) (hw : xss.length ≤ 9223372036854775807 ∧ ∀ i, i < xss.length → (nthL xss i).length ≤ 9223372036854775807) (h : ¬ xss.length + totL xss ≤ 1048576) :
    Calls Try.prog 21 #[.slice ao xss.length c, .int .i64 1048576] w (fun e w' => e = .returned (.int .i64 (-1)) ∧ w = w') := by
  have h1 := szInt64SS_any xss c 1048576 ao w hx (Nat.le_refl _) hw.1 hw.2
  rw [szR_no h] at h1
  exact h1
theorem szLaw_yes (xss : List (List Int)) (c : Nat) (ao : Option Addr) (w : World) (hx : Lists w ao xss) (hw : xss.length ≤ 9223372036854775807 ∧ ∀ i, i < xss.length → (nthL xss i).length ≤ 9223372036854775807) (h : xss.length + totL xss ≤ 1048576) :
    Calls Try.prog 21 #[.slice ao xss.length c, .int .i64 1048576] w (fun e w' => ∃ r : Nat, e = .returned (.int .i64 (r : Int)) ∧ (0 : Int) ≤ r ∧ w = w') := by
  have h1 := szInt64SS_any xss c 1048576 ao w hx (Nat.le_refl _) hw.1 hw.2
  rw [szR_yes ⟨h, rfl⟩] at h1
  exact h1.mono fun e w' ⟨a, b⟩ => ⟨_, a, by omega, b⟩
theorem toInt64SS_lim (xss : List (List Int)) (ao : Option Addr) (c : Nat) (w : World) (hx : Lists w ao xss) (h : xss.length ≤ 1048576 ∧ totL xss ≤ 1048576) :
    Calls Try.prog 23 #[.slice ao xss.length c] w (RetLL xss (fun s => s) w) := toInt64SS_any xss ao c w hx h.1 h.2
theorem OcP.some {P : Program} {F : FuncId} {args : Array Value} {w : World} {xss : List (List Int)} {n : Int} (h : ocC xss n) (hc : Calls P F args w (OcP xss n w)) :
    Calls P F args w (RetL (ocL xss).length (il (ocL xss)) (fun s => .tuple #[s, .bool true]) w) := hc.mono fun e w' H => H.1 h
theorem OcP.none {P : Program} {F : FuncId} {args : Array Value} {w : World} {xss : List (List Int)} {n : Int} (h : ¬ ocC xss n) (hc : Calls P F args w (OcP xss n w)) :
    Calls P F args w (RetB (.tuple #[.slice none 0 0, .bool false]) w) := hc.mono fun e w' H => H.2 h
end Go.Proofs.Ytdnelmmbiccjcaa
