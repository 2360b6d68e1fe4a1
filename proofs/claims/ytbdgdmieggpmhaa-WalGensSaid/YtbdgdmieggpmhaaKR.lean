/-
  Layer 3: single operations of a region: loads and addresses in blocks known whole, calls that leave bytes.
-/
import Derived.Test.YtbdgdmieggpmhaaK8
import Derived.Test.YtbdgdmieggpmhaaRegP
namespace Go.Proofs.Ytbdgdmieggpmhaa.L3
open Go.ChangeShapes Go.WideShapes Go.ChangeAt Go.RowKit By Reg
set_option linter.unusedVariables false

theorem put_call {f : FuncId} {vs : Array Value} {w : World} {E : TypeId} {xs : List UInt8} (h : Calls Try.prog f vs w (Put w E xs)) :
    Calls Try.prog f vs w fun e w'' => ∃ v, e = .returned v ∧ Rb w w'' ∧ (bsSpec xs).V w'' v :=
  h.mono fun _ _ ⟨_, _, he, ho, hb⟩ => ⟨_, he, hb, Bs.of_owns ho⟩
theorem val_call {f : FuncId} {vs : Array Value} {w : World} {v : Value} (h : Calls Try.prog f vs w fun e w' => e = .returned v ∧ w = w') :
    Calls Try.prog f vs w fun e w'' => ∃ u, e = .returned u ∧ Rb w w'' ∧ (Spec.eq (R := Rb) v).V w'' u :=
  h.mono fun _ _ ⟨he, hw⟩ => ⟨_, he, hw ▸ Rb.refl _, rfl⟩
theorem val_call_rb {f : FuncId} {vs : Array Value} {w : World} {v : Value} (h : Calls Try.prog f vs w fun e w' => e = .returned v ∧ Rb w w') :
    Calls Try.prog f vs w fun e w'' => ∃ u, e = .returned u ∧ Rb w w'' ∧ (Spec.eq (R := Rb) v).V w'' u :=
  h.mono fun _ _ ⟨he, hw⟩ => ⟨_, he, hw, rfl⟩
theorem cell_rb {w w' : World} {a : Addr} {v : Value} (hb : Rb w w') (h : w.cell? a = some v) : w'.cell? a = some v := by
  rw [Below.cell hb (World.block_lt_of_cell? w _ h)]; exact h

section
variable {w : World} {a : Addr} {v : Value}
theorem load_int (h : w.cell? a = some v) : (Instr.loadAt 3 (.pointer (some a))).run Try.prog w = .ok v w := by simp [Instr.loadAt, go_sem, h]
theorem load_string (h : w.cell? a = some v) : (Instr.loadAt 9 (.pointer (some a))).run Try.prog w = .ok v w := by simp [Instr.loadAt, go_sem, h]
theorem load_bytes (h : w.cell? a = some v) : (Instr.loadAt 23 (.pointer (some a))).run Try.prog w = .ok v w := by simp [Instr.loadAt, go_sem, h]
theorem load_strs (h : w.cell? a = some v) : (Instr.loadAt 37 (.pointer (some a))).run Try.prog w = .ok v w := by simp [Instr.loadAt, go_sem, h]
theorem load_ref {B : Nat} {a0 a1 a2 a3 a4 : Value} (h : Blk w B 50 [a0, a1, a2, a3, a4]) : (Instr.loadAt 50 (.pointer (some ⟨B, 0, none⟩))).run Try.prog w = .ok (.agg #[a0, a1, a2, a3, a4]) w := by
  obtain ⟨z0, z1, z2, z3, z4⟩ := h.cells5
  simp [Instr.loadAt, go_sem, z0, z1, z2, z3, z4]
theorem load_slots {B : Nat} {a0 a1 : Value} (o : Nat) (h0 : w.cell? ⟨B, o, none⟩ = some a0) (h1 : w.cell? ⟨B, o + 1, none⟩ = some a1) : (Instr.loadAt 91 (.pointer (some ⟨B, o, none⟩))).run Try.prog w = .ok (.agg #[a0, a1]) w := by
  simp [Instr.loadAt, go_sem, h0, h1]
end
section
variable {ops : Array Oper} {o : Oper} {a : Act} {w : World} {T : World → Value → Prop}
theorem ok_fieldR {B : Nat} (x : Operand) (i : Nat) (hi : i < 5) (ho : o.op = .fieldAddr 50 x i) (hw : Region.wanted o (yielded ops a.tmps) = true) (hx : a.eval x = .pointer (some ⟨B, 0, none⟩))
    (h : T w (.pointer (some ⟨B, i, none⟩))) : okAt Try.prog ops o a w T := by
  refine ok_value (w' := w) (v := .pointer (some ⟨B, i, none⟩)) hw ?_ h
  simp only [execOp, ho, hx]
  have hi' : i = 0 ∨ i = 1 ∨ i = 2 ∨ i = 3 ∨ i = 4 := by omega
  rcases hi' with rfl | rfl | rfl | rfl | rfl <;> simp [go_sem]
theorem ok_fieldK {B : Nat} (x : Operand) (i : Nat) (j : Nat) (hi : i = 0 ∧ j = 0 ∨ i = 1 ∧ j = 1 ∨ i = 2 ∧ j = 2 ∨ i = 3 ∧ j = 3 ∨ i = 4 ∧ j = 5) (ho : o.op = .fieldAddr 93 x i) (hw : Region.wanted o (yielded ops a.tmps) = true) (hx : a.eval x = .pointer (some ⟨B, 0, none⟩))
    (h : T w (.pointer (some ⟨B, j, none⟩))) : okAt Try.prog ops o a w T := by
  refine ok_value (w' := w) (v := .pointer (some ⟨B, j, none⟩)) hw ?_ h
  simp only [execOp, ho, hx]
  rcases hi with ⟨rfl, rfl⟩ | ⟨rfl, rfl⟩ | ⟨rfl, rfl⟩ | ⟨rfl, rfl⟩ | ⟨rfl, rfl⟩ <;> simp [go_sem]
theorem ok_nilCheck {p : Addr} (x : Operand) (ho : o.op = .nilCheck x) (hw : Region.wanted o (yielded ops a.tmps) = true) (hx : a.eval x = .pointer (some p)) (h : T w (.pointer (some p))) : okAt Try.prog ops o a w T := by
  refine ok_value (w' := w) hw ?_ h
  simp [execOp, ho, hx]
theorem ok_len_str (x : Operand) (t : TypeId) (s : ByteArray) (ht : Try.prog.underlying t = some .string) (ho : o.op = .call { callee := .builtin .len, args := #[x], argTypes := #[t] }) (hw : Region.wanted o (yielded ops a.tmps) = true) (hx : a.eval x = .string s) (h : T w (.int .i64 s.size)) : okAt Try.prog ops o a w T := by
  refine ok_value (w' := w) (v := .int .i64 s.size) hw ?_ h
  have hg : goInt (s.size : Int) = .int .i64 s.size := rfl
  simp only [execOp, ho, resolve, invoke, Sem.run_bind, Sem.run_pure, Result.andThen_ok, List.map_toArray, List.map_cons, List.map_nil, hx]
  simp [builtin, Builtin.len_, run_underlying ht, Result.andThen, hg]
theorem run_gtr_int (t : TypeId) (x y : Operand) (k : IntKind) (n m : Int) : (binSem .gtr t x y (.int k n) (.int k m)).run Try.prog w = .ok (.bool (decide (n > m))) w := by
  simp [binSem, go_sem]
theorem run_geq_int (t : TypeId) (x y : Operand) (k : IntKind) (n m : Int) : (binSem .geq t x y (.int k n) (.int k m)).run Try.prog w = .ok (.bool (decide (n ≥ m))) w := by
  simp [binSem, go_sem]
theorem run_sub_i64 (t : TypeId) (x y : Operand) (n m : Int) (h0 : -9223372036854775808 ≤ n - m) (h1 : n - m ≤ 9223372036854775807) : (binSem .sub t x y (.int .i64 n) (.int .i64 m)).run Try.prog w = .ok (.int .i64 (n - m)) w := by
  simp [binSem, go_sem]
  exact IntWalk.i64_in _ ⟨h0, h1⟩
theorem run_eql_S (t : TypeId) (x y : Operand) (s s' : ByteArray) : (binSem .eql t x y (.string s) (.string s')).run Try.prog w = .ok (.bool (s.toList == s'.toList)) w := by
  simp [binSem, go_sem]
theorem sizeOf9 (w : World) : (sizeOf 9).run Try.prog w = .ok 1 w := by simp [go_sem]
theorem sizeOf8 (w : World) : (sizeOf 5).run Try.prog w = .ok 1 w := by simp [go_sem]
theorem str_beq (X : List UInt8) (s : ByteArray) : ((str X).toList == s.toList) = (X == s.data.toList) := by
  have h : (str X).toList = X := Lib.toList_data _
  rw [h, Lib.toList_data]
end
end Go.Proofs.Ytbdgdmieggpmhaa.L3
