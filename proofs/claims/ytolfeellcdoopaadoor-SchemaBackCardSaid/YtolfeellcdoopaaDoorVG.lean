/-
  Layer 2: a text in quotes.
-/
import Derived.Test.YtolfeellcdoopaaDoorVF
namespace Go.Proofs.YtolfeellcdoopaaDoor
open Go.ChangeShapes Go.WideShapes Go.ChangeAt Go.RowKit Oct By Reg Val

theorem esc_append (l m : List UInt8) : esc (l ++ m) = esc l ++ esc m := by
  induction l with
  | nil => rfl
  | cons c l ih =>
    simp only [List.cons_append, esc]
    split <;> simp [ih]
theorem esc_len (l : List UInt8) : (esc l).length ≤ 2 * l.length := by
  induction l with
  | nil => simp [esc]
  | cons c l ih =>
    simp only [esc]
    split <;> simp <;> omega
theorem esc_take (l : List UInt8) (k : Nat) (h : k < l.length) : esc (l.take (k + 1)) = esc (l.take k) ++ (if l.getD k 0 = 34 ∨ l.getD k 0 = 92 then [92, l.getD k 0] else [l.getD k 0]) := by
  rw [List.take_succ_eq_append_getElem h, esc_append, List.getD_eq_getElem?_getD, List.getElem?_eq_getElem h, Option.getD_some]
  congr 1

/-- a row of the call's own that holds the bytes xs -/
def Own (B : Nat) (w : World) (v : Value) (xs : List UInt8) : Prop := w.ownsRow B 5 1 v xs.length (xs.map c8)
theorem Own.full {B : Nat} {w : World} {v : Value} {xs : List UInt8} (h : Own B w v xs) (o : Obj) : Full (w.alloc o) B 5 1 v xs.length (xs.map c8) := (Full.own h).alloc o
theorem Own.mk {B : Nat} {w : World} {v : Value} {xs ys : List UInt8} (h : w.ownsRow B 5 1 v (xs.length + ys.length) (xs.map c8 ++ ys.map c8)) : Own B w v (xs ++ ys) := by
  unfold Own
  rw [List.map_append, List.length_append]
  exact h

end Go.Proofs.YtolfeellcdoopaaDoor
