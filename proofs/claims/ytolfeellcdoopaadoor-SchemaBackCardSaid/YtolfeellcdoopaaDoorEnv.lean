/-
  What the walks need of the library's variables: the table of powers of ten, and the two errors of package strconv; both last where the world only grows.
-/
import Derived.Test.YtolfeellcdoopaaDoorShelf
import Derived.Test.YtolfeellcdoopaaDoorL1
import Derived.Stop.LaidErr
import Derived.Lib.LaidTab
import Derived.Lib.AppendIntMem
namespace Go.Proofs.YtolfeellcdoopaaDoor
open Go.ChangeShapes Go.WideShapes Go.ChangeAt Go.RowKit Oct By Reg

theorem var?_rb {P : Program} {w w' : World} {n : String} {cs : Array Value} (hb : Rb w w') (h : w.var? P n = some cs) : w'.var? P n = some cs := by
  unfold World.var? at h ⊢
  cases hg : P.globalNamed n with
  | none => simp [hg] at h
  | some g =>
    simp only [hg, Option.bind_some] at h ⊢
    have hlt : g < w.heap.size := by
      rcases Nat.lt_or_ge g w.heap.size with h' | h'
      · exact h'
      · simp [Array.getElem?_eq_none h'] at h
    rw [hb.block g hlt]
    exact h

/-- the table of powers of ten holds what its initialiser lays -/
def Tab (w : World) : Prop := Lib.TabIs Tryd.prog w "internal/strconv.uint64pow10" .u64 Lib.pow10Tab
theorem Tab.rb {w w' : World} (h : Tab w) (hb : Rb w w') : Tab w' := var?_rb hb h
/-- the two errors of strconv are there -/
def Errs (w : World) : Prop := (∃ tp p, w.var? Tryd.prog "strconv.ErrSyntax" = some #[.iface tp p]) ∧ ∃ tp p, w.var? Tryd.prog "strconv.ErrRange" = some #[.iface tp p]
theorem Errs.rb {w w' : World} (h : Errs w) (hb : Rb w w') : Errs w' := by
  obtain ⟨⟨t1, p1, h1⟩, t2, p2, h2⟩ := h
  exact ⟨⟨t1, p1, var?_rb hb h1⟩, t2, p2, var?_rb hb h2⟩
end Go.Proofs.YtolfeellcdoopaaDoor
