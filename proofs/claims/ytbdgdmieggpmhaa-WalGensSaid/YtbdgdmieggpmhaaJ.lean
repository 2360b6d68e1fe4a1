import Derived.Test.YtbdgdmieggpmhaaI
namespace Go.Proofs.Ytbdgdmieggpmhaa
open Go.ChangeShapes Go.WideShapes Go.ChangeAt Go.RowKit Oct By Reg

theorem refget_any (v : Value) (xs : List UInt8) (i : Int) (w : World) (hb : Bs w v xs) (hx : xs.length ≤ 100000000) :
    Calls Try.prog 78 #[v, .int .i64 i] w fun e w' => e = .returned (tupR (gu xs i)) ∧ Below w.heap.size w w' := by
  by_cases h : 0 ≤ i ∧ i ≤ xs.length
  · unfold gu
    rw [if_pos h]
    obtain ⟨k, rfl⟩ := Int.eq_ofNat_of_zero_le h.1
    rw [Int.toNat_natCast]
    exact refget_in v xs k w hb hx (by omega)
  · unfold gu
    rw [if_neg h]
    exact refget_out v xs i w hb h

def unzig (u : Nat) : Int := if u % 2 = 1 then -((u / 2 : Nat) : Int) - 1 else ((u / 2 : Nat) : Int)
def tupI (r : Option (Nat × Nat)) (i : Int) : Value := match r with
  | none => .tuple #[.int .i64 0, .int .i64 0, .bool false]
  | some (n, k) => .tuple #[.int .i64 (unzig n), .int .i64 (i + k), .bool true]
def tupRI (r : Option (Nat × Nat)) : Value := match r with
  | none => .tuple #[.int .i64 0, .int .i64 0]
  | some (n, k) => .tuple #[.int .i64 (unzig n), .int .i64 k]

theorem gu_lt {xs : List UInt8} {i : Int} {n k : Nat} (h : gu xs i = some (n, k)) : n < 18446744073709551616 ∧ 1 ≤ k ∧ k ≤ 10 ∧ 0 ≤ i ∧ i + k ≤ xs.length ∧ (xs.drop i.toNat).take k = uintB n := by
  unfold gu at h
  split at h
  · rename_i hi
    obtain ⟨h1, h2, h3, h4, h5⟩ := getU_spec h
    rw [List.length_drop] at h4
    exact ⟨h1, h2, h3, hi.1, by omega, h5⟩
  · cases h

theorem xor_comm_i64 (x y : Int) : bits BinOp.xor IntKind.i64 x y = bits BinOp.xor IntKind.i64 y x := by
  show IntKind.i64.wrap ((BitVec.ofInt 64 x ^^^ BitVec.ofInt 64 y).toNat : Int) = IntKind.i64.wrap ((BitVec.ofInt 64 y ^^^ BitVec.ofInt 64 x).toNat : Int)
  rw [BitVec.xor_comm]
theorem xor_zero_i64 (x : Nat) (h : x < 9223372036854775808) : bits BinOp.xor IntKind.i64 (x : Int) 0 = x := by
  show IntKind.i64.wrap ((BitVec.ofInt 64 (x : Int) ^^^ BitVec.ofInt 64 0).toNat : Int) = _
  rw [show BitVec.ofInt 64 0 = 0#64 from rfl, BitVec.xor_zero, BitVec.ofInt_natCast, BitVec.toNat_ofNat, IntKind.wrap_i64]
  omega
theorem unzig_bits (n : Nat) (h : n < 18446744073709551616) : bits BinOp.xor IntKind.i64 ((n : Int) / 2) (wrap64 (-wrap64 (bits BinOp.and IntKind.u64 (n : Int) 1))) = unzig n := by
  rw [Lib.u64_and1 _ (by omega) (by omega)]
  have e : (n : Int) / 2 = ((n / 2 : Nat) : Int) := by omega
  unfold unzig
  by_cases h2 : n % 2 = 1
  · rw [if_pos h2, show (n : Int) % 2 = 1 by omega, show wrap64 (-wrap64 1) = -1 by rw [IntWalk.wrap64_in 1 ⟨by omega, by omega⟩, IntWalk.wrap64_in (-1) ⟨by omega, by omega⟩], xor_comm_i64, e, Lib.i64_not _ (by omega)]
  · rw [if_neg h2, show (n : Int) % 2 = 0 by omega, show wrap64 (-wrap64 0) = 0 by rw [IntWalk.wrap64_in 0 ⟨by omega, by omega⟩, IntWalk.wrap64_in (-0) ⟨by omega, by omega⟩]; rfl, e, xor_zero_i64 _ (by omega)]

end Go.Proofs.Ytbdgdmieggpmhaa
