/- BalanceMiss, as its law asks it. -/
import Derived.Test.YtgeomaeccalceaaBms
namespace Go.Proofs.Ytgeomaeccalceaa
open Go Go.RowKit Fl Vag
set_option linter.unusedVariables false
theorem balW_lt {n : Nat} {ss xs : List Nat} (h : balOk n ss xs) : balW n ss xs < 4294967296 := by
  have h1 : upA n (magD n ss xs) n ≤ Ieee.single.infRung := upA_le.2 h.magD_le
  have hi : Ieee.single.infRung = 2139095040 := by decide
  unfold balW Ieee.Format.word
  simp
  omega
theorem implBal_is (s : Int) (ss xs : List Nat) (m c d : Nat) (ao bo : Option Addr) (w : World) (hm : ss.length = m) (hc : m ≤ c) (hlen : m ≤ 1048576) (hs : Holds w ao (fl .f32 ss)) (hx : Holds w bo (fl .f32 xs)) (h : fits s ss xs) :
    Calls Try.prog 36 #[.agg #[.int .i64 s, .slice ao m c], .slice bo xs.length d] w (RetF (fun r => .tuple #[.float .f32 r, .bool true]) (av .f32 (balW xs.length ss xs)) w) := by
  obtain ⟨n, hn⟩ : ∃ n, xs.length = n := ⟨_, rfl⟩
  obtain rfl : s = (n : Int) := by rw [← hn]; exact h.2.2.symm
  rw [hn]
  exact RetB.toF (f := fun r => .tuple #[.float .f32 r, .bool true]) (implBal_yes n ss xs m hm ao bo c d w hs hx hlen hc h) (balW_lt h.bal.1)
theorem implBal_not (s : Int) (ss xs : List Nat) (m c d : Nat) (ao bo : Option Addr) (w : World) (hm : ss.length = m) (hc : m ≤ c) (hlen : m ≤ 1048576) (hs : Holds w ao (fl .f32 ss)) (hx : Holds w bo (fl .f32 xs)) (hlk : xs.length ≤ 1048576) (h : ¬fits s ss xs) :
    Calls Try.prog 36 #[.agg #[.int .i64 s, .slice ao m c], .slice bo xs.length d] w (RetF (fun r => .tuple #[.float .f32 r, .bool false]) (av .f32 0) w) :=
  RetB.toF (f := fun r => .tuple #[.float .f32 r, .bool false]) (implBal_no s ss xs m _ hm rfl ao bo c d w hs hx hlen hlk hc h) (by decide)
theorem specBal_is (s : Int) (ss xs : List Nat) (m c d : Nat) (ao bo : Option Addr) (w : World) (hm : ss.length = m) (hlen : m ≤ 1048576) (hs : Holds w ao (fl .f32 ss)) (hx : Holds w bo (fl .f32 xs)) (h : fits s ss xs) :
    Calls Try.prog 34 #[.agg #[.int .i64 s, .slice ao m c], .slice bo xs.length d] w (RetF (fun r => .tuple #[.float .f32 r, .bool true]) (av .f32 (balW xs.length ss xs)) w) := by
  obtain ⟨n, hn⟩ : ∃ n, xs.length = n := ⟨_, rfl⟩
  obtain rfl : s = (n : Int) := by rw [← hn]; exact h.2.2.symm
  rw [hn]
  exact RetB.toF (f := fun r => .tuple #[.float .f32 r, .bool true]) (specBal_yes n ss xs m hm ao bo c d w hs hx hlen h) (balW_lt h.bal.1)
theorem specBal_not (s : Int) (ss xs : List Nat) (m c d : Nat) (ao bo : Option Addr) (w : World) (hm : ss.length = m) (hlen : m ≤ 1048576) (hs : Holds w ao (fl .f32 ss)) (hx : Holds w bo (fl .f32 xs)) (hlk : xs.length ≤ 1048576) (h : ¬fits s ss xs) :
    Calls Try.prog 34 #[.agg #[.int .i64 s, .slice ao m c], .slice bo xs.length d] w (RetF (fun r => .tuple #[.float .f32 r, .bool false]) (av .f32 0) w) :=
  RetB.toF (f := fun r => .tuple #[.float .f32 r, .bool false]) (specBal_no s ss xs m _ hm rfl ao bo c d w hs hx hlen hlk h) (by decide)
end Go.Proofs.Ytgeomaeccalceaa
