/- The check number of a text: what the code and its model return. -/
import Derived.Test.YtgkkimocmpgfkacNum
import Derived.LoopTactic
namespace Go.Proofs.Ytgkkimocmpgfkac
open Go Go.RowKit Fl

/-- The check number behind some bytes. -/
def chk (l : List UInt8) (c : Int) : Int := l.foldl (fun c b => (883 * c + (b.toNat : Int) + 167) % 65003) c
theorem chk_range (l : List UInt8) (c : Int) (h0 : 0 ≤ c) (h1 : c < 65003) : 0 ≤ chk l c ∧ chk l c < 65003 := by
  induction l generalizing c with
  | nil => exact ⟨h0, h1⟩
  | cons b l ih => exact ih ((883 * c + (b.toNat : Int) + 167) % 65003) (by omega) (by omega)
theorem chk_snoc (l : List UInt8) (b : UInt8) (c : Int) : chk (l ++ [b]) c = (883 * chk l c + (b.toNat : Int) + 167) % 65003 := by
  simp [chk]
theorem take_snoc (s : ByteArray) (k : Nat) (h : k < s.size) : s.data.toList.take (k + 1) = s.data.toList.take k ++ [s[k]] := by
  rw [List.take_succ_eq_append_getElem (by simpa using h)]; rfl

theorem take_all (s : ByteArray) (k : Nat) (h : s.size ≤ k) : s.data.toList.take k = s.data.toList := List.take_of_length_le (by simpa using h)

set_option maxHeartbeats 400000 in
theorem l01Check_any (c : Int) (s : ByteArray) (h0 : 0 ≤ c) (h1 : c < 65003) (hs : s.size ≤ maxLen) (w : World) :
    Calls Try.prog 17 #[.int .i64 c, .string s] w (fun e w' => e = .returned (.int .i64 (chk s.data.toList c)) ∧ w = w') := by
  unfold maxLen at hs
  go_enter Try.func17, Try.ntmps17
  go_wp2
  go_loop [0, 5] (fun v i => ∃ k : Nat, k ≤ s.size ∧ i = .int .i64 k ∧ v = .int .i64 (chk (s.data.toList.take k) c)) (fun _ i => s.size - (intOf i).toNat)
  case atStart => exact ⟨0, Nat.zero_le _, rfl, rfl⟩
  case round =>
    obtain ⟨k, hk, rfl, rfl⟩ := hrel
    obtain ⟨r0, r1⟩ := chk_range (s.data.toList.take k) c h0 h1
    by_cases hlt : k < s.size
    · have HS := Lib.hid (chk_snoc (s.data.toList.take k) s[k] c)
      have HT := Lib.hid (take_snoc s k hlt)
      have hb : (s[k].toNat : Int) < 256 := by have := s[k].toNat_lt; omega
      go_wp2
      go_round
      case rel => exact ⟨k + 1, by omega, by go_num, by rw [HT.out, HS.out]⟩
      case measure => simp [intOf]; omega
    · have HE := Lib.hid (take_all s k (by omega))
      go_wp2
      go_ret
      exact ⟨by rw [HE.out]; rfl, rfl⟩
set_option maxHeartbeats 400000 in
theorem implCheckOf_in (c : Int) (s : ByteArray) (h0 : 0 ≤ c) (h1 : c < 65003) (hs : s.size ≤ maxLen) (w : World) :
    Calls Try.prog 10 #[.int .i64 c, .string s] w (fun e w' => e = .returned (.tuple #[.int .i64 (chk s.data.toList c), .bool true]) ∧ w = w') := by
  unfold maxLen at hs
  have hg : decide (65003 ≤ c) = false := by simp; omega
  go_enter Try.func10, Try.ntmps10
  go_wp2
  go_loop [6, 17] (fun v i => ∃ k : Nat, k ≤ s.size ∧ i = .int .i64 k ∧ v = .int .i64 (chk (s.data.toList.take k) c)) (fun _ i => s.size - (intOf i).toNat)
  case atStart => exact ⟨0, Nat.zero_le _, rfl, rfl⟩
  case round =>
    obtain ⟨k, hk, rfl, rfl⟩ := hrel
    obtain ⟨r0, r1⟩ := chk_range (s.data.toList.take k) c h0 h1
    by_cases hlt : k < s.size
    · have HS := Lib.hid (chk_snoc (s.data.toList.take k) s[k] c)
      have HT := Lib.hid (take_snoc s k hlt)
      have hb : (s[k].toNat : Int) < 256 := by have := s[k].toNat_lt; omega
      go_wp2
      go_round
      case rel => exact ⟨k + 1, by omega, by go_num, by rw [HT.out, HS.out]⟩
      case measure => simp [intOf]; omega
    · have HE := Lib.hid (take_all s k (by omega))
      go_wp2
      go_ret2
      exact ⟨by rw [HE.out]; rfl, rfl⟩
theorem implCheckOf_out (c : Int) (s : ByteArray) (h : c < 0 ∨ 65003 ≤ c) (w : World) :
    Calls Try.prog 10 #[.int .i64 c, .string s] w (fun e w' => e = .returned (.tuple #[.int .i64 0, .bool false]) ∧ w = w') := by
  rcases h with h | h
  all_goals
    go_enter Try.func10, Try.ntmps10
    go_wp2
    go_ret2
    exact ⟨rfl, rfl⟩
theorem specCheckOf_in (c : Int) (s : ByteArray) (h0 : 0 ≤ c) (h1 : c < 65003) (hs : s.size ≤ maxLen) (w : World) :
    Calls Try.prog 9 #[.int .i64 c, .string s] w (fun e w' => e = .returned (.tuple #[.int .i64 (chk s.data.toList c), .bool true]) ∧ w = w') := by
  go_enter Try.func9, Try.ntmps9
  go_wp2_with (first | (go_at_call 16; refine (l00In_yes _ _ _ (by omega) (by omega) _).mono ?_; rintro e w' ⟨rfl, rfl⟩) | (go_at_call 17; refine (l01Check_any _ _ h0 h1 hs _).mono ?_; rintro e w' ⟨rfl, rfl⟩))
  go_ret2
  exact ⟨rfl, rfl⟩
theorem specCheckOf_out (c : Int) (s : ByteArray) (h : c < 0 ∨ 65003 ≤ c) (w : World) :
    Calls Try.prog 9 #[.int .i64 c, .string s] w (fun e w' => e = .returned (.tuple #[.int .i64 0, .bool false]) ∧ w = w') := by
  go_enter Try.func9, Try.ntmps9
  go_wp2_with (first | (go_at_call 16; refine (l00In_no _ _ _ (by omega) _).mono ?_; rintro e w' ⟨rfl, rfl⟩))
  go_ret2
  exact ⟨rfl, rfl⟩
end Go.Proofs.Ytgkkimocmpgfkac
