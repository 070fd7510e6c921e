/- Lists of int64 in laws: how long they are; boxes made one behind the other. -/
import Derived.Test.YtfgkimhcbboipaaDoorIl
namespace Go.Proofs.YtfgkimhcbboipaaDoor
open Go Go.RowKit
set_option linter.unusedVariables false
theorem Whole.made3 (w : World) (o1 o2 : Obj) (t : TypeId) (cs : Array Value) : Whole (((w.alloc o1).alloc o2).alloc (.cells cs t)) (w.heap.size + 1 + 1) t cs := by simpa using Whole.made2 (w.alloc o1) o2 t cs
theorem Whole.made4 (w : World) (o1 o2 o3 : Obj) (t : TypeId) (cs : Array Value) : Whole ((((w.alloc o1).alloc o2).alloc o3).alloc (.cells cs t)) (w.heap.size + 1 + 1 + 1) t cs := by simpa using Whole.made3 (w.alloc o1) o2 o3 t cs
theorem szInt64S_yes (n c l : Nat) (ao : Option Addr) (q : Nat) (w : World) (h : l = n + q) (hl : l ≤ 1048576) :
    Calls Tryd.prog 85 #[.slice ao n c, .int .i64 l] w (fun e w' => e = .returned (.int .i64 q) ∧ w = w') := by
  have hs : (l : Int) - (n : Int) = (q : Int) := by omega
  have hq : (0 : Int) ≤ q := by omega
  have hl' : (l : Int) ≤ 1048576 := by omega
  have hn' : (n : Int) ≤ 1048576 := by omega
  clear h hl
  go_enter Tryd.func85, Tryd.ntmps85
  go_wp2
  go_ret
  exact ⟨rfl, rfl⟩
theorem szInt64S_no (n c l : Nat) (ao : Option Addr) (w : World) (h : l < n) (hl : l ≤ 1048576) (hn : n ≤ 9223372036854775807) :
    Calls Tryd.prog 85 #[.slice ao n c, .int .i64 l] w (fun e w' => e = .returned (.int .i64 (-1)) ∧ w = w') := by
  have hs : IntKind.i64.wrap ((l : Int) - (n : Int)) = (l : Int) - n := by rw [IntKind.wrap_i64]; omega
  have hq : (l : Int) - (n : Int) < 0 := by omega
  have hq2 : (l : Int) < (n : Int) := by omega
  clear h hl hn
  go_enter Tryd.func85, Tryd.ntmps85
  go_wp2
  go_ret
  exact ⟨rfl, rfl⟩
end Go.Proofs.YtfgkimhcbboipaaDoor
