/-
  Plain mathematics for layer 2: which values are right, their bytes, their texts. No program here.
-/
import Derived.Test.YtolfeellcdoopaaDoorL1
import Derived.Lib.ItoaNum
import Derived.Lib.ParseIntB
import Derived.Lib.Small
namespace Go.Proofs.YtolfeellcdoopaaDoor.Val
open Go Oct

def okB (c : UInt8) : Bool := decide (32 ≤ c.toNat) && decide (c.toNat ≤ 126)
def rightTextB (l : List UInt8) : Bool := decide (l.length ≤ 32) && l.all okB
def rightB (k n : Int) (l : List UInt8) : Bool :=
  if k = 1 then l.isEmpty else if k = 2 then (l.isEmpty && decide (0 ≤ n ∧ n ≤ 1)) else if k = 3 then (decide (n = 0) && rightTextB l) else false
def rightTypeB (k m : Int) : Bool := if k = 1 ∨ k = 2 then decide (m = 0) else if k = 3 then decide (1 ≤ m ∧ m ≤ 32) else false
def fitsB (k n : Int) (l : List UInt8) (t m : Int) : Bool := rightB k n l && rightTypeB t m && decide (k = t) && (decide (t ≠ 3) || decide ((l.length : Int) ≤ m))

theorem all_take_succ {l : List UInt8} {k : Nat} (h : k < l.length) : (l.take (k + 1)).all okB = ((l.take k).all okB && okB (l.getD k 0)) := by
  rw [List.take_succ_eq_append_getElem h, List.all_append, List.getD_eq_getElem?_getD, List.getElem?_eq_getElem h]
  simp
theorem all_false_of {l : List UInt8} {k : Nat} (h : k < l.length) (hb : okB (l.getD k 0) = false) : l.all okB = false := by
  rw [Bool.eq_false_iff]
  intro ha
  have := List.all_eq_true.1 ha (l.getD k 0) (by rw [List.getD_eq_getElem?_getD, List.getElem?_eq_getElem h]; exact List.getElem_mem h)
  rw [hb] at this; cases this

/-- the bytes of a value that is right -/
def bytesV (k n : Int) (l : List UInt8) : List UInt8 := if k = 1 then 1 :: intB n else if k = 2 then [2, UInt8.ofNat n.toNat] else 3 :: textB l
def bytesR (k n : Int) (l : List UInt8) : List UInt8 := if rightB k n l = true then bytesV k n l else []

/-- a text in quotes -/
def esc : List UInt8 → List UInt8
  | [] => []
  | c :: l => if c = 34 ∨ c = 92 then 92 :: c :: esc l else c :: esc l
def quoteB (l : List UInt8) : List UInt8 := 34 :: (esc l ++ [34])
def textV (k n : Int) (l : List UInt8) : List UInt8 := if k = 1 then Lib.itoa n else if k = 2 then Lib.formatBool (decide (n = 1)) else quoteB l
def printV (k n : Int) (l : List UInt8) : List UInt8 := if rightB k n l = true then textV k n l else []
end Go.Proofs.YtolfeellcdoopaaDoor.Val
