/-
  Layer 2: the mathematics of the order; small laws.
-/
import Derived.Test.YtolfeellcdoopaaDoorVK
import Derived.Test.YtolfeellcdoopaaDoorL1
namespace Go.Proofs.YtolfeellcdoopaaDoor
open Go.ChangeShapes Go.WideShapes Go.ChangeAt Go.RowKit Oct By Reg Val
theorem ok_bslice {ops : Array Oper} {o : Oper} {a : Act} {w w' : World} {T : World → Value → Prop} (T0 : TypeId) (n : Nat) (parts : Array (Nat × Operand)) (vs : Array (Nat × Value)) {v : Value} (ho : o.op = .buildSlice T0 n parts) (hw : Region.wanted o (yielded ops a.tmps) = true) (hp : (parts.map fun (i, x) => (i, a.eval x)) = vs)
    (hr : (Instr.buildSlice T0 n vs).run Tryd.prog w = .ok v w') (h : T w' v) : okAt Tryd.prog ops o a w T := by
  refine ok_value (w' := w') hw ?_ h
  simp only [execOp, ho, hp, Sem.run_bind, hr]
  simp [Result.andThen]
theorem ok_neg {P : Program} {ops : Array Oper} {o : Oper} {a : Act} {w : World} {T : World → Value → Prop} (xT : TypeId) (x : Operand) (n : Int) (hb : -9223372036854775807 ≤ n ∧ n ≤ 9223372036854775807) (ho : o.op = .unOp .neg xT x) (hw : Region.wanted o (yielded ops a.tmps) = true) (hx : a.eval x = .int .i64 n) (h : T w (.int .i64 (-n))) : okAt P ops o a w T := by
  refine ok_value (w' := w) hw ?_ h
  have e : IntKind.i64.wrap (-n) = -n := IntWalk.i64_in _ ⟨by omega, by omega⟩
  simp [execOp, ho, hx, Op.unary, Op.intArith, e]
end Go.Proofs.YtolfeellcdoopaaDoor
