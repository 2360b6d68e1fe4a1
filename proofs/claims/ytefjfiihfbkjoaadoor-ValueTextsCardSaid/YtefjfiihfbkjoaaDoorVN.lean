/-
  Layer 2: the mathematics of the order; small laws.
-/
import Derived.Test.YtefjfiihfbkjoaaDoorVM
import Derived.Test.YtefjfiihfbkjoaaDoorRegP
namespace Go.Proofs.YtefjfiihfbkjoaaDoor
open Go.ChangeShapes Go.WideShapes Go.ChangeAt Go.RowKit Oct By Reg Val

def Tr (x y z : Int) : Prop := (x ≤ 0 → y ≤ 0 → z ≤ 0) ∧ (x = 0 → y = 0 → z = 0) ∧ (x < 0 → y ≤ 0 → z < 0) ∧ (x ≤ 0 → y < 0 → z < 0)
theorem Tr.orN {x y z p q r : Int} (h : Tr x y z) (k : Tr p q r) : Tr (orN x p) (orN y q) (orN z r) := by
  obtain ⟨h1, h2, h3, h4⟩ := h
  obtain ⟨k1, k2, k3, k4⟩ := k
  unfold Go.Proofs.YtefjfiihfbkjoaaDoor.orN
  by_cases hx : x = 0 <;> by_cases hy : y = 0 <;> by_cases hz : z = 0 <;> simp only [hx, hy, hz, ne_eq, not_true_eq_false, not_false_eq_true, if_true, if_false] <;> unfold Tr <;> refine ⟨fun a b => ?_, fun a b => ?_, fun a b => ?_, fun a b => ?_⟩ <;> omega
theorem tr_int (a b c : Int) : Tr (Lib.compareInt a b) (Lib.compareInt b c) (Lib.compareInt a c) := by
  unfold Lib.compareInt Tr
  refine ⟨fun h k => ?_, fun h k => ?_, fun h k => ?_, fun h k => ?_⟩ <;> (split at h <;> split at k <;> try split at h) <;> (try split at k) <;> (split <;> try split) <;> omega
theorem tr_bytes : ∀ (a b c : List UInt8), Tr (Lib.compareBytes a b) (Lib.compareBytes b c) (Lib.compareBytes a c)
  | [], [], [] => by unfold Tr; simp [Lib.compareBytes]
  | [], [], _ :: _ => by unfold Tr; simp [Lib.compareBytes]
  | [], _ :: _, [] => by unfold Tr; simp [Lib.compareBytes]
  | [], _ :: _, _ :: _ => by unfold Tr; simp [Lib.compareBytes]
  | _ :: _, [], [] => by unfold Tr; simp [Lib.compareBytes]
  | _ :: _, [], _ :: _ => by unfold Tr; simp [Lib.compareBytes]
  | _ :: _, _ :: _, [] => by unfold Tr; simp [Lib.compareBytes]
  | x :: a, y :: b, z :: c => by
    have ih := tr_bytes a b c
    obtain ⟨h1, h2, h3, h4⟩ := ih
    unfold Tr
    simp only [Lib.compareBytes, UInt8.lt_iff_toNat_lt]
    refine ⟨fun h k => ?_, fun h k => ?_, fun h k => ?_, fun h k => ?_⟩ <;> (by_cases e1 : x.toNat < y.toNat <;> by_cases e2 : y.toNat < x.toNat <;> by_cases e3 : y.toNat < z.toNat <;> by_cases e4 : z.toNat < y.toNat <;> simp only [e1, e2, e3, e4, if_true, if_false] at h k <;> by_cases e5 : x.toNat < z.toNat <;> by_cases e6 : z.toNat < x.toNat <;> simp only [e5, e6, if_true, if_false] <;> omega)
theorem cmp_trans (k n : Int) (a : List UInt8) (k1 n1 : Int) (b : List UInt8) (k2 n2 : Int) (c : List UInt8) (h : cmpV k n a k1 n1 b ≤ 0) (h2 : cmpV k1 n1 b k2 n2 c ≤ 0) : cmpV k n a k2 n2 c ≤ 0 :=
  ((tr_int k k1 k2).orN ((tr_int n n1 n2).orN (tr_bytes a b c))).1 h h2
theorem anti_int (a b : Int) : Lib.compareInt b a = -Lib.compareInt a b := by
  unfold Lib.compareInt; split <;> split <;> (try split) <;> (try split) <;> omega
theorem anti_bytes : ∀ (a b : List UInt8), Lib.compareBytes b a = -Lib.compareBytes a b
  | [], [] => rfl
  | [], _ :: _ => rfl
  | _ :: _, [] => rfl
  | x :: a, y :: b => by
    have ih := anti_bytes a b
    simp only [Lib.compareBytes, UInt8.lt_iff_toNat_lt]
    by_cases e1 : x.toNat < y.toNat <;> by_cases e2 : y.toNat < x.toNat <;> simp only [e1, e2, if_true, if_false] <;> omega
theorem orN_neg (a b : Int) : orN (-a) (-b) = -orN a b := by
  unfold orN
  by_cases h : a = 0
  · simp [h]
  · rw [if_pos (by omega), if_pos h]
theorem cmp_anti (k n : Int) (a : List UInt8) (k1 n1 : Int) (b : List UInt8) : cmpV k1 n1 b k n a = -cmpV k n a k1 n1 b := by
  unfold cmpV
  rw [anti_int k k1, anti_int n n1, anti_bytes a b, orN_neg, orN_neg]
theorem zero_int (a b : Int) : Lib.compareInt a b = 0 ↔ a = b := by
  unfold Lib.compareInt; split
  · omega
  · split <;> omega
theorem zero_bytes : ∀ (a b : List UInt8), Lib.compareBytes a b = 0 ↔ a = b
  | [], [] => by simp [Lib.compareBytes]
  | [], _ :: _ => by simp [Lib.compareBytes]
  | _ :: _, [] => by simp [Lib.compareBytes]
  | x :: a, y :: b => by
    have ih := zero_bytes a b
    simp only [Lib.compareBytes, UInt8.lt_iff_toNat_lt]
    by_cases e1 : x.toNat < y.toNat
    · rw [if_pos e1]; constructor
      · intro h; omega
      · intro h; have := (List.cons.inj h).1; subst this; omega
    · rw [if_neg e1]
      by_cases e2 : y.toNat < x.toNat
      · rw [if_pos e2]; constructor
        · intro h; omega
        · intro h; have := (List.cons.inj h).1; subst this; omega
      · rw [if_neg e2, ih]
        have : x = y := UInt8.toNat_inj.1 (by omega)
        subst this
        simp
theorem orN_zero (a b : Int) : orN a b = 0 ↔ a = 0 ∧ b = 0 := by
  unfold orN
  by_cases h : a = 0 <;> simp [h]
theorem cmp_zero (k n : Int) (s : ByteArray) (k1 n1 : Int) (s1 : ByteArray) : (cmpV k n s.data.toList k1 n1 s1.data.toList == 0) = eqVB k n s k1 n1 s1 := by
  have h : cmpV k n s.data.toList k1 n1 s1.data.toList = 0 ↔ k = k1 ∧ n = n1 ∧ s.data.toList = s1.data.toList := by
    unfold cmpV
    rw [orN_zero, orN_zero, zero_int, zero_int, zero_bytes]
  unfold eqVB
  rw [ByteArray.toList_eq, ByteArray.toList_eq, Bool.eq_iff_iff]
  simp only [beq_iff_eq, Bool.and_eq_true, h]
theorem bd_int (a b : Int) : -1 ≤ Lib.compareInt a b ∧ Lib.compareInt a b ≤ 1 := by
  unfold Lib.compareInt; split
  · omega
  · split <;> omega
theorem bd_bytes : ∀ (a b : List UInt8), -1 ≤ Lib.compareBytes a b ∧ Lib.compareBytes a b ≤ 1
  | [], [] => by simp [Lib.compareBytes]
  | [], _ :: _ => by simp [Lib.compareBytes]
  | _ :: _, [] => by simp [Lib.compareBytes]
  | x :: a, y :: b => by
    have ih := bd_bytes a b
    simp only [Lib.compareBytes]
    split
    · omega
    · split
      · omega
      · exact ih
theorem cmp_bd (k n : Int) (a : List UInt8) (k1 n1 : Int) (b : List UInt8) : -1 ≤ cmpV k n a k1 n1 b ∧ cmpV k n a k1 n1 b ≤ 1 := by
  unfold cmpV orN
  have := bd_int k k1
  have := bd_int n n1
  have := bd_bytes a b
  split
  · omega
  · split <;> omega
theorem ok_neg {P : Program} {ops : Array Oper} {o : Oper} {a : Act} {w : World} {T : World → Value → Prop} (xT : TypeId) (x : Operand) (n : Int) (hb : -9223372036854775807 ≤ n ∧ n ≤ 9223372036854775807) (ho : o.op = .unOp .neg xT x) (hw : Region.wanted o (yielded ops a.tmps) = true) (hx : a.eval x = .int .i64 n) (h : T w (.int .i64 (-n))) : okAt P ops o a w T := by
  refine ok_value (w' := w) hw ?_ h
  have e : IntKind.i64.wrap (-n) = -n := IntWalk.i64_in _ ⟨by omega, by omega⟩
  simp [execOp, ho, hx, Op.unary, Op.intArith, e]
theorem light_yes (k n : Int) (s : ByteArray) (w : World) (hs : s.size ≤ maxLen) (h : s.size ≤ 100) :
    Calls Tryd.prog 9 #[vv k n s] w fun e w' => e = .returned (.bool true) ∧ Below w.heap.size w w' := by
  have c := light_any k n s w hs
  rw [decide_eq_true h] at c
  exact c
theorem light_no (k n : Int) (s : ByteArray) (w : World) (hs : s.size ≤ maxLen) (h : ¬ s.size ≤ 100) :
    Calls Tryd.prog 9 #[vv k n s] w fun e w' => e = .returned (.bool false) ∧ Below w.heap.size w w' := by
  have c := light_any k n s w hs
  rw [decide_eq_false h] at c
  exact c
end Go.Proofs.YtefjfiihfbkjoaaDoor
