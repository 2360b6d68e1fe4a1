/-
  Structs of three and of two fields in a region: what a block holds, loads, builds, '=='.
-/
import Derived.Test.YtolfeellcdoopaaDoorVA
namespace Go.Proofs.YtolfeellcdoopaaDoor
open Go.ChangeShapes Go.WideShapes Go.ChangeAt Go.RowKit Oct By Reg Val

abbrev tv (k m : Int) : Value := .agg #[.int .i64 k, .int .i64 m]
def HeldV (w : World) (B : Nat) (k n : Int) (s : ByteArray) : Prop :=
  w.cell? ⟨B, 0, none⟩ = some (.int .i64 k) ∧ w.cell? ⟨B, 1, none⟩ = some (.int .i64 n) ∧ w.cell? ⟨B, 2, none⟩ = some (.string s)
def HeldT (w : World) (B : Nat) (k m : Int) : Prop :=
  w.cell? ⟨B, 0, none⟩ = some (.int .i64 k) ∧ w.cell? ⟨B, 1, none⟩ = some (.int .i64 m)
theorem cell_rb {w w' : World} {a : Addr} {v : Value} (hb : Rb w w') (h : w.cell? a = some v) : w'.cell? a = some v := by
  rw [Below.cell hb (World.block_lt_of_cell? w _ h)]; exact h
theorem HeldV.rb {w w' : World} {B : Nat} {k n : Int} {s : ByteArray} (h : HeldV w B k n s) (hb : Rb w w') : HeldV w' B k n s :=
  ⟨cell_rb hb h.1, cell_rb hb h.2.1, cell_rb hb h.2.2⟩
theorem HeldT.rb {w w' : World} {B : Nat} {k m : Int} (h : HeldT w B k m) (hb : Rb w w') : HeldT w' B k m :=
  ⟨cell_rb hb h.1, cell_rb hb h.2⟩
theorem HeldV.new (w : World) (k n : Int) (s : ByteArray) (T : TypeId) : HeldV (w.alloc (.cells #[.int .i64 k, .int .i64 n, .string s] T)) w.heap.size k n s := by
  refine ⟨?_, ?_, ?_⟩ <;> simp
theorem HeldT.new (w : World) (k m : Int) (T : TypeId) : HeldT (w.alloc (.cells #[.int .i64 k, .int .i64 m] T)) w.heap.size k m := by
  refine ⟨?_, ?_⟩ <;> simp
theorem HeldV.load {w : World} {B : Nat} {k n : Int} {s : ByteArray} (h : HeldV w B k n s) : (Instr.loadAt 70 (.pointer (some ⟨B, 0, none⟩))).run Tryd.prog w = .ok (vv k n s) w := by
  obtain ⟨h0, h1, h2⟩ := h
  simp [Instr.loadAt, go_sem, h0, h1, h2]
theorem HeldT.load {w : World} {B : Nat} {k m : Int} (h : HeldT w B k m) : (Instr.loadAt 55 (.pointer (some ⟨B, 0, none⟩))).run Tryd.prog w = .ok (tv k m) w := by
  obtain ⟨h0, h1⟩ := h
  simp [Instr.loadAt, go_sem, h0, h1]

def eqVB (k n : Int) (s : ByteArray) (k' n' : Int) (s' : ByteArray) : Bool := (k == k') && ((n == n') && (s.toList == s'.toList))
def eqTB (k m k' m' : Int) : Bool := (k == k') && (m == m')

section
variable {ops : Array Oper} {o : Oper} {a : Act} {w : World} {T : World → Value → Prop}
theorem run_eqlV (x y : Operand) (k n k' n' : Int) (s s' : ByteArray) : (binSem .eql 70 x y (vv k n s) (vv k' n' s')).run Tryd.prog w = .ok (.bool (eqVB k n s k' n' s')) w := by
  unfold eqVB
  by_cases h1 : k = k' <;> by_cases h2 : n = n' <;> by_cases h3 : s.toList = s'.toList <;> simp [binSem, go_sem, h1, h2, h3]
theorem run_eqlT (x y : Operand) (k m k' m' : Int) : (binSem .eql 55 x y (tv k m) (tv k' m')).run Tryd.prog w = .ok (.bool (eqTB k m k' m')) w := by
  unfold eqTB
  by_cases h1 : k = k' <;> by_cases h2 : m = m' <;> simp [binSem, go_sem, h1, h2]
theorem run_neqV (x y : Operand) (k n k' n' : Int) (s s' : ByteArray) : (binSem .neq 70 x y (vv k n s) (vv k' n' s')).run Tryd.prog w = .ok (.bool (!(eqVB k n s k' n' s'))) w := by
  unfold eqVB
  by_cases h1 : k = k' <;> by_cases h2 : n = n' <;> by_cases h3 : s.toList = s'.toList <;> simp [binSem, go_sem, h1, h2, h3]
theorem ok_field {B : Nat} (T0 : TypeId) (i : Nat) (x : Operand) (hT : T0 = 70 ∧ i < 3 ∨ T0 = 55 ∧ i < 2) (ho : o.op = .fieldAddr T0 x i) (hw : Region.wanted o (yielded ops a.tmps) = true) (hx : a.eval x = .pointer (some ⟨B, 0, none⟩))
    (h : T w (.pointer (some ⟨B, i, none⟩))) : okAt Tryd.prog ops o a w T := by
  refine ok_value (w' := w) (v := .pointer (some ⟨B, i, none⟩)) hw ?_ h
  simp only [execOp, ho, hx]
  rcases hT with ⟨rfl, hi⟩ | ⟨rfl, hi⟩
  · have hi' : i = 0 ∨ i = 1 ∨ i = 2 := by omega
    rcases hi' with rfl | rfl | rfl <;> simp [go_sem]
  · have hi' : i = 0 ∨ i = 1 := by omega
    rcases hi' with rfl | rfl <;> simp [go_sem]
theorem HeldV.f0 {B : Nat} {k n : Int} {s : ByteArray} (h : HeldV w B k n s) : (Instr.loadAt 3 (.pointer (some ⟨B, 0, none⟩))).run Tryd.prog w = .ok (.int .i64 k) w := by
  simp [Instr.loadAt, go_sem, h.1]
theorem HeldV.f1 {B : Nat} {k n : Int} {s : ByteArray} (h : HeldV w B k n s) : (Instr.loadAt 2 (.pointer (some ⟨B, 1, none⟩))).run Tryd.prog w = .ok (.int .i64 n) w := by
  simp [Instr.loadAt, go_sem, h.2.1]
theorem HeldV.f2 {B : Nat} {k n : Int} {s : ByteArray} (h : HeldV w B k n s) : (Instr.loadAt 9 (.pointer (some ⟨B, 2, none⟩))).run Tryd.prog w = .ok (.string s) w := by
  simp [Instr.loadAt, go_sem, h.2.2]
theorem HeldT.f0 {B : Nat} {k m : Int} (h : HeldT w B k m) : (Instr.loadAt 3 (.pointer (some ⟨B, 0, none⟩))).run Tryd.prog w = .ok (.int .i64 k) w := by
  simp [Instr.loadAt, go_sem, h.1]
theorem HeldT.f1 {B : Nat} {k m : Int} (h : HeldT w B k m) : (Instr.loadAt 3 (.pointer (some ⟨B, 1, none⟩))).run Tryd.prog w = .ok (.int .i64 m) w := by
  simp [Instr.loadAt, go_sem, h.2]
theorem run_build1 (n : Int) (c : Int) : (Instr.build 70 #[(0, .int .i64 c), (1, .int .i64 n)]).run Tryd.prog w = .ok (vv c n ⟨#[]⟩) w := by
  simp [go_sem]
theorem run_build2 (s : ByteArray) (c : Int) : (Instr.build 70 #[(0, .int .i64 c), (2, .string s)]).run Tryd.prog w = .ok (vv c 0 s) w := by
  simp [go_sem]
theorem run_build0 (c : Int) : (Instr.build 70 #[(0, .int .i64 c)]).run Tryd.prog w = .ok (vv c 0 ⟨#[]⟩) w := by
  simp [go_sem]
theorem run_buildN : (Instr.build 70 #[]).run Tryd.prog w = .ok (vv 0 0 ⟨#[]⟩) w := by
  simp [go_sem]
theorem ok_build (T0 : TypeId) (parts : Array (Nat × Operand)) (vs : Array (Nat × Value)) {v : Value} (ho : o.op = .build T0 parts) (hw : Region.wanted o (yielded ops a.tmps) = true) (hp : (parts.map fun (i, x) => (i, a.eval x)) = vs)
    (hr : (Instr.build T0 vs).run Tryd.prog w = .ok v w) (h : T w v) : okAt Tryd.prog ops o a w T := by
  refine ok_value (w' := w) hw ?_ h
  simp only [execOp, ho, hp, Sem.run_bind, hr]
  simp [Result.andThen]
theorem ok_len_str (x : Operand) (t : TypeId) (s : ByteArray) (ht : Tryd.prog.underlying t = some .string) (ho : o.op = .call { callee := .builtin .len, args := #[x], argTypes := #[t] }) (hw : Region.wanted o (yielded ops a.tmps) = true) (hx : a.eval x = .string s) (h : T w (.int .i64 s.size)) : okAt Tryd.prog ops o a w T := by
  refine ok_value (w' := w) (v := .int .i64 s.size) hw ?_ h
  have hg : goInt (s.size : Int) = .int .i64 s.size := rfl
  simp only [execOp, ho, resolve, invoke, Sem.run_bind, Sem.run_pure, Result.andThen_ok, List.map_toArray, List.map_cons, List.map_nil, hx]
  simp [builtin, Builtin.len_, run_underlying ht, Result.andThen, hg]
theorem run_gtr_int (t : TypeId) (x y : Operand) (k : IntKind) (n m : Int) : (binSem .gtr t x y (.int k n) (.int k m)).run Tryd.prog w = .ok (.bool (decide (n > m))) w := by
  simp [binSem, go_sem]
theorem run_leq_int (t : TypeId) (x y : Operand) (k : IntKind) (n m : Int) : (binSem .leq t x y (.int k n) (.int k m)).run Tryd.prog w = .ok (.bool (decide (n ≤ m))) w := by
  simp [binSem, go_sem]
theorem run_eql_S (t : TypeId) (x y : Operand) (s s' : ByteArray) : (binSem .eql t x y (.string s) (.string s')).run Tryd.prog w = .ok (.bool (s.toList == s'.toList)) w := by
  simp [binSem, go_sem]
end
end Go.Proofs.YtolfeellcdoopaaDoor
