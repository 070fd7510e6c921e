/- Lists of int64 in laws: how long they are; boxes made one behind the other. -/
import Derived.Test.YticmnkgcolgpaaaIl
namespace Go.Proofs.Yticmnkgcolgpaaa
open Go Go.RowKit
set_option linter.unusedVariables false
theorem Whole.made3 (w : World) (o1 o2 : Obj) (t : TypeId) (cs : Array Value) : Whole (((w.alloc o1).alloc o2).alloc (.cells cs t)) (w.heap.size + 1 + 1) t cs := by simpa using Whole.made2 (w.alloc o1) o2 t cs
theorem Whole.made4 (w : World) (o1 o2 o3 : Obj) (t : TypeId) (cs : Array Value) : Whole ((((w.alloc o1).alloc o2).alloc o3).alloc (.cells cs t)) (w.heap.size + 1 + 1 + 1) t cs := by simpa using Whole.made3 (w.alloc o1) o2 o3 t cs
end Go.Proofs.Yticmnkgcolgpaaa
