import Derived.Test.YtolfeellcdoopaaDoorVN
import Derived.Deep.Cut
namespace Go.Proofs.YtolfeellcdoopaaDoor
open Go.ChangeShapes Go.WideShapes Go.ChangeAt Go.RowKit Oct By Reg Val

theorem HeldV.at (w : World) (B : Nat) (k n : Int) (s : ByteArray) (T : TypeId) (h : B = w.heap.size) : HeldV (w.alloc (.cells #[.int .i64 k, .int .i64 n, .string s] T)) B k n s := by
  subst h; exact HeldV.new w k n s T
end Go.Proofs.YtolfeellcdoopaaDoor
