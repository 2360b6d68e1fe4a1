/-
  Layer 3: the walk of DiskSlots.
-/
import Derived.Test.YtbdgdmieggpmhaaK13
namespace Go.Proofs.Ytbdgdmieggpmhaa.L3
open Go.ChangeShapes Go.WideShapes Go.ChangeAt Go.RowKit By Reg
set_option linter.unusedVariables false

section
variable {m : Mem} {D : Dk} {w : World} {b : Nat}
theorem sure_at (hb : m.b = b) (h : HeldK w m D) : Calls Try.prog 33 #[.pointer (some ⟨b, 0, none⟩)] w fun e w' => e = .returned (.int .i64 D.sure.length) ∧ w = w' := by subst hb; exact sure_any m D w h
theorem log_at (hb : m.b = b) (h : HeldK w m D) : Calls Try.prog 31 #[.pointer (some ⟨b, 0, none⟩)] w (Put w 5 D.log) := by subst hb; exact log_any m D w h
theorem slot0_at (hb : m.b = b) (h : HeldK w m D) : Calls Try.prog 73 #[.pointer (some ⟨b, 0, none⟩), .int .i64 0] w (Put w 5 D.n0) := by subst hb; exact slot_0 m D w h
theorem slot1_at (hb : m.b = b) (h : HeldK w m D) : Calls Try.prog 73 #[.pointer (some ⟨b, 0, none⟩), .int .i64 1] w (Put w 5 D.n1) := by subst hb; exact slot_1 m D w h
theorem sync_at (hb : m.b = b) (h : HeldK w m D) : Calls Try.prog 44 #[.pointer (some ⟨b, 0, none⟩)] w fun e w' => e = .returned (.tuple #[]) ∧ Turned w m D.sync w' := by subst hb; exact sync_any m D w h
theorem crash_at (k : Int) (hb : m.b = b) (h : HeldK w m D) : Calls Try.prog 37 #[.pointer (some ⟨b, 0, none⟩), .int .i64 k] w fun e w' => e = .returned (.tuple #[]) ∧ Turned w m (D.crash k.toNat) w' := by subst hb; exact crash_any m D w k h
theorem write0_at {v : Value} {xs : List UInt8} (hb : m.b = b) (h : HeldK w m D) (hv : Bs w v xs) (hl : xs.length ≤ 1000) : Calls Try.prog 63 #[.pointer (some ⟨b, 0, none⟩), .int .i64 0, v] w fun e w' => e = .returned (.int .i64 0) ∧ Turned w m (D.write0 xs) w' := by subst hb; exact write_0 m D w v xs h hv hl
theorem write1_at {v : Value} {xs : List UInt8} (hb : m.b = b) (h : HeldK w m D) (hv : Bs w v xs) (hl : xs.length ≤ 1000) : Calls Try.prog 63 #[.pointer (some ⟨b, 0, none⟩), .int .i64 1, v] w fun e w' => e = .returned (.int .i64 0) ∧ Turned w m (D.write1 xs) w' := by subst hb; exact write_1 m D w v xs h hv hl
theorem clone_at (hb : m.b = b) (h : HeldK w m D) : Calls Try.prog 38 #[.pointer (some ⟨b, 0, none⟩)] w (CloneK w m D) := by subst hb; exact clone_any m D w h
theorem same_at {n : Mem} {c : Nat} (hb : m.b = b) (hc : n.b = c) (h1 : HeldK w m D) (h2 : HeldK w n D) : Calls Try.prog 39 #[.pointer (some ⟨b, 0, none⟩), .pointer (some ⟨c, 0, none⟩)] w fun e w' => e = .returned (.bool true) ∧ Rb w w' := by subst hb hc; exact same_any m n D w h1 h2
end
section
variable {ops : Array Oper} {o : Oper} {a : Act} {w : World} {T : World → Value → Prop}
theorem ok_minI (x y : Operand) (n m : Int) (ho : o.op = .call { callee := .builtin .min, args := #[x, y], argTypes := #[3, 3] }) (hw : Region.wanted o (yielded ops a.tmps) = true) (hx : a.eval x = .int .i64 n) (hy : a.eval y = .int .i64 m) (h : T w (.int .i64 (min n m))) : okAt Try.prog ops o a w T := by
  refine ok_value (w' := w) (v := .int .i64 (min n m)) hw ?_ h
  simp only [execOp, ho, resolve, invoke, Sem.run_bind, Sem.run_pure, Result.andThen_ok, List.map_toArray, List.map_cons, List.map_nil, hx, hy]
  simp [go_sem]
  omega
theorem ok_sliceH (x hi : Operand) {ao : Option Addr} {n cap h : Nat} (ho : o.op = .slice 23 x none (some hi) none) (hw : Region.wanted o (yielded ops a.tmps) = true) (hx : a.eval x = .slice ao n cap) (hh : a.eval hi = .int .i64 (h : Int)) (hc : h ≤ cap) (hT : T w (.slice ao h cap)) : okAt Try.prog ops o a w T := by
  have p1 : (h : Int) ≤ (cap : Int) := by omega
  have p2 : (0 : Int) ≤ (h : Int) := by omega
  refine ok_value (w' := w) (v := .slice ao h cap) hw ?_ hT
  simp only [execOp, ho, hx, hh, Option.map_none, Option.map_some]
  simp [go_sem, p1, p2, Result.andThen]
end
end Go.Proofs.Ytbdgdmieggpmhaa.L3
