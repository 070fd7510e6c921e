/- The check number of a text: what the code and its model return. -/
import Derived.Test.YtgeomaeccalceaaNum
import Derived.LoopTactic
namespace Go.Proofs.Ytgeomaeccalceaa
open Go Go.RowKit Fl

/-- The check number behind some bytes. -/
def chk (l : List UInt8) (c : Int) : Int := l.foldl (fun c b => (883 * c + (b.toNat : Int) + 167) % 65003) c
theorem chk_range (l : List UInt8) (c : Int) (h0 : 0 ≤ c) (h1 : c < 65003) : 0 ≤ chk l c ∧ chk l c < 65003 := by
  induction l generalizing c with
  | nil => exact ⟨h0, h1⟩
  | cons b l ih => exact ih ((883 * c + (b.toNat : Int) + 167) % 65003) (by omega) (by omega)
theorem chk_snoc (l : List UInt8) (b : UInt8) (c : Int) : chk (l ++ [b]) c = (883 * chk l c + (b.toNat : Int) + 167) % 65003 := by
  simp [chk]
theorem take_snoc (s : ByteArray) (k : Nat) (h : k < s.size) : s.data.toList.take (k + 1) = s.data.toList.take k ++ [s[k]] := by
  rw [List.take_succ_eq_append_getElem (by simpa using h)]; rfl

theorem take_all (s : ByteArray) (k : Nat) (h : s.size ≤ k) : s.data.toList.take k = s.data.toList := List.take_of_length_le (by simpa using h)

end Go.Proofs.Ytgeomaeccalceaa
