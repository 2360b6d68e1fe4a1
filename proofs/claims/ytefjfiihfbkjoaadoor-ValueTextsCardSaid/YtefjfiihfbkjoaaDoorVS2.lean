/-
  Layer 2: a region in which a struct is stored: what it keeps.
-/
import Derived.Test.YtefjfiihfbkjoaaDoorVP2
import Derived.Test.YtefjfiihfbkjoaaDoorVB2
import Derived.Test.YtefjfiihfbkjoaaDoorRegT
namespace Go.Proofs.YtefjfiihfbkjoaaDoor
open Go.ChangeShapes Go.WideShapes Go.ChangeAt Go.RowKit Oct By Reg Val

/-- the result's block: it has its cells, and is not frozen -/
def ResB (B : Nat) (w : World) : Prop := (∃ k n s, HeldV w B k n s) ∧ ∀ o, w.frozen? ⟨B, o, none⟩ = false
def RT (N B C : Nat) (k n : Int) (t : ByteArray) (w w' : World) : Prop :=
  Below N w w' ∧ (HeldV w C k n t → HeldV w' C k n t) ∧ (HeldV w B k n t → HeldV w' B k n t) ∧ (ResB B w → ResB B w')
section
variable {N B C : Nat} {k n : Int} {t : ByteArray} {w w' : World}
theorem RT.trans (a b c : World) (h : RT N B C k n t a b) (h' : RT N B C k n t b c) : RT N B C k n t a c :=
  ⟨Below.trans h.1 h'.1, fun x => h'.2.1 (h.2.1 x), fun x => h'.2.2.1 (h.2.2.1 x), fun x => h'.2.2.2 (h.2.2.2 x)⟩
theorem RT.refl (w : World) : RT N B C k n t w w := ⟨Below.refl _ _, id, id, id⟩
theorem RT.of_rb (hN : N ≤ w.heap.size) (hb : Rb w w') : RT N B C k n t w w' :=
  ⟨Below.mono hb hN, fun h => h.rb hb, fun h => h.rb hb, fun ⟨⟨k, n, s, h⟩, hf⟩ => ⟨⟨k, n, s, h.rb hb⟩, fun o => fz_rb hb h.1 (hf o)⟩⟩
theorem RT.drew (w : World) : RT N B C k n t w w.drew := ⟨(Below.refl _ _).drew, id, id, id⟩
theorem held_lt (h : HeldV w C k n t) : C < w.heap.size := by
  exact World.block_lt_of_cell? w _ h.1


theorem rt_call {P : Program} {f : FuncId} {vs : Array Value} {v : Value} {N' : Nat} (hN : N' < w.heap.size) (h : Calls P f vs w fun e w' => e = .returned v ∧ Below w.heap.size w w') (hN' : N ≤ N' := by omega) :
    Calls P f vs w fun e w'' => ∃ u, e = .returned u ∧ RT N B C k n t w w'' ∧ (Spec.eq (R := RT N B C k n t) v).V w'' u :=
  h.mono fun _ _ ⟨he, hw⟩ => ⟨_, he, RT.of_rb (by omega) hw, rfl⟩
def put3 (w : World) (B : Nat) (k n : Int) (t : ByteArray) : World := ((w.setCell ⟨B, 0, none⟩ (.int .i64 k)).setCell ⟨B, 1, none⟩ (.int .i64 n)).setCell ⟨B, 2, none⟩ (.string t)
theorem put3_held (h : ResB B w) : HeldV (put3 w B k n t) B k n t := by
  obtain ⟨⟨k0, n0, s0, h⟩, -⟩ := h
  have z0 := h.1
  have z1 := h.2.1
  have z2 := h.2.2
  refine ⟨?_, ?_, ?_⟩ <;> simp [put3, go_sem, z0, z1, z2]
theorem RT.put3 (h : ResB B w) (hN : N ≤ B) (hne : B ≠ C) : RT N B C k n t w (put3 w B k n t) := by
  refine ⟨((Below.setCell ((Below.setCell ((Below.setCell (Below.refl _ _) hN _)) hN _)) hN _)), fun x => setx_held (setx_held (setx_held x hne) hne) hne, fun _ => put3_held h, fun x => ⟨⟨_, _, _, put3_held h⟩, fun o => ?_⟩⟩
  simp [Proofs.YtefjfiihfbkjoaaDoor.put3, go_sem, x.2 o]
theorem ok_store3 {T : World → Value → Prop} {ops : Array Oper} {o : Oper} {a : Act} (x y : Operand) (ho : o.op = .store 23 x y) (hw : Region.wanted o (yielded ops a.tmps) = true)
    (hx : a.eval x = .pointer (some ⟨B, 0, none⟩)) (hy : a.eval y = vv k n t) (hr : ResB B w) (h : ∀ v, T (put3 w B k n t) v) : okAt Tryd.prog ops o a w T := by
  obtain ⟨⟨k0, n0, s0, h0⟩, hf⟩ := hr
  have z0 := h0.1
  have z1 := h0.2.1
  have z2 := h0.2.2
  have hy' : a.eval y = .agg #[.int .i64 k, .int .i64 n, .string t] := hy
  unfold okAt yieldsTo
  rw [if_pos hw]
  simp only [execOp, ho, hx, hy']
  go_simp
  exact h _
end
end Go.Proofs.YtefjfiihfbkjoaaDoor
