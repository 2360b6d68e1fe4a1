/-
  Layer 6: small laws for the regions of the laws: tables, rows, max, '>='.
-/
import Derived.Test.YtolfeellcdoopaaDoorS14
import Derived.Test.YtolfeellcdoopaaDoorS16
import Derived.Test.YtolfeellcdoopaaDoorS17
import Derived.Test.YtolfeellcdoopaaDoorS12
namespace Go.Proofs.YtolfeellcdoopaaDoor.L6
open Go.ChangeShapes Go.WideShapes Go.ChangeAt Go.RowKit Oct By Reg Val
set_option linter.unusedVariables false
set_option linter.unusedSimpArgs false

/-- a table's block -/
def HeldTab (w : World) (B : Nat) (nm : ByteArray) (r : Int) (ao : Option Addr) (n c : Nat) : Prop :=
  w.cell? ⟨B, 0, none⟩ = some (.string nm) ∧ w.cell? ⟨B, 1, none⟩ = some (.int .i64 r) ∧ w.cell? ⟨B, 2, none⟩ = some (.slice ao n c)
theorem HeldTab.rb {w w' : World} {B : Nat} {nm : ByteArray} {r : Int} {ao : Option Addr} {n c : Nat} (h : HeldTab w B nm r ao n c) (hb : Rb w w') : HeldTab w' B nm r ao n c :=
  ⟨cell_rb hb h.1, cell_rb hb h.2.1, cell_rb hb h.2.2⟩
theorem HeldTab.load {w : World} {B : Nat} {nm : ByteArray} {r : Int} {ao : Option Addr} {n c : Nat} (h : HeldTab w B nm r ao n c) : (Instr.loadAt 25 (.pointer (some ⟨B, 0, none⟩))).run Tryd.prog w = .ok (.agg #[.string nm, .int .i64 r, .slice ao n c]) w := by
  obtain ⟨h0, h1, h2⟩ := h
  simp [Instr.loadAt, go_sem, h0, h1, h2]

/-- a value that reads as a row -/
def rowSpec (X : List ValD) : Reg.Spec Rb := ⟨fun w v => Vals w v X, fun _ _ _ h k => Row3.rb k h⟩
theorem row_call {P : Program} {f : FuncId} {vs : Array Value} {w : World} {X : List ValD} (h : Calls P f vs w fun e w' => ∃ v, e = .returned v ∧ Vals w' v X ∧ Rb w w') : Calls P f vs w fun e w'' => ∃ v, e = .returned v ∧ Rb w w'' ∧ (rowSpec X).V w'' v :=
  h.mono fun _ _ ⟨v, he, hv, hb⟩ => ⟨v, he, hb, hv⟩
theorem rb_call {P : Program} {f : FuncId} {vs : Array Value} {w : World} {v : Value} (h : Calls P f vs w fun e w' => e = .returned v ∧ Rb w w') : Calls P f vs w fun e w'' => ∃ u, e = .returned u ∧ Rb w w'' ∧ (Spec.eq (R := Rb) v).V w'' u :=
  h.mono fun _ _ ⟨he, hb⟩ => ⟨_, he, hb, rfl⟩
theorem eqS_refl (a : ByteArray) : eqS a a = true := eqS_iff.2 rfl
theorem sameL_refl {α : Type} {eq : α → α → Bool} (h : ∀ a, eq a a = true) : ∀ l : List α, sameL eq l l = true
  | [] => rfl
  | a :: l => by rw [sameL, h, sameL_refl h l]; rfl
theorem sameV_refl (l : List ValD) : sameL eqVal l l = true := sameL_refl (fun a => by unfold eqVal; rw [eqS_refl]; simp) l
theorem sameC_refl (l : List ColD) : sameL eqCol l l = true := sameL_refl (fun a => by unfold eqCol; rw [eqS_refl]; simp) l
theorem sameTab_refl (t : TabD) : sameTab t t = true := by unfold sameTab; rw [eqS_refl, show sameC t.cols t.cols = true from sameC_refl _]; simp
theorem refsame_refl {w : World} {v u : Value} {X : List ValD} (h1 : Vals w v X) (h2 : Vals w u X) : Calls Tryd.prog 19 #[v, u] w fun e w' => e = .returned (.bool true) ∧ Rb w w' := by
  have := refsame_any X X v u w h1 h2
  rwa [sameV_refl] at this

section
variable {ops : Array Oper} {o : Oper} {a : Act} {w : World} {T : World → Value → Prop}
theorem ok_max (x y : Operand) (n m : Int) (ho : o.op = .call { callee := .builtin .max, args := #[x, y], argTypes := #[3, 3] }) (hw : Region.wanted o (yielded ops a.tmps) = true) (hx : a.eval x = .int .i64 n) (hy : a.eval y = .int .i64 m) (h : T w (.int .i64 (max n m))) : okAt Tryd.prog ops o a w T := by
  refine ok_value (w' := w) (v := .int .i64 (max n m)) hw ?_ h
  simp only [execOp, ho, resolve, invoke, Sem.run_bind, Sem.run_pure, Result.andThen_ok, List.map_toArray, List.map_cons, List.map_nil, hx, hy]
  simp [go_sem]
  try omega
theorem run_geq_int (t : TypeId) (x y : Operand) (k : IntKind) (n m : Int) : (binSem .geq t x y (.int k n) (.int k m)).run Tryd.prog w = .ok (.bool (decide (n ≥ m))) w := by
  simp [binSem, go_sem]
end
end Go.Proofs.YtolfeellcdoopaaDoor.L6
