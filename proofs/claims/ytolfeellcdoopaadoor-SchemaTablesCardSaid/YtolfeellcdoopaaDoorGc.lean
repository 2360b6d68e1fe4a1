import Derived.Test.YtolfeellcdoopaaDoorDv
import Derived.Test.YtolfeellcdoopaaDoorRegTools
namespace Go.Proofs.YtolfeellcdoopaaDoor
open Go.ChangeShapes Go.WideShapes Go.ChangeAt Go.RowKit Oct By Reg

theorem put_call {P : Program} {f : FuncId} {vs : Array Value} {w : World} {E : TypeId} {bs : List UInt8} (h : Calls P f vs w (Put w E bs)) : Calls P f vs w fun e w'' => ∃ v, e = .returned v ∧ Rb w w'' ∧ (bsSpec bs).V w'' v :=
  h.mono fun _ _ ⟨_, _, he, ho, hb⟩ => ⟨_, he, hb, Bs.of_owns ho⟩
theorem val_call {P : Program} {f : FuncId} {vs : Array Value} {w : World} {v : Value} (h : Calls P f vs w fun e w' => e = .returned v ∧ w = w') : Calls P f vs w fun e w'' => ∃ u, e = .returned u ∧ Rb w w'' ∧ (Spec.eq (R := Rb) v).V w'' u :=
  h.mono fun _ _ ⟨he, hw⟩ => ⟨_, he, by rw [← hw]; exact Rb.refl _, rfl⟩
theorem val_call_below {P : Program} {f : FuncId} {vs : Array Value} {w : World} {v : Value} (h : Calls P f vs w fun e w' => e = .returned v ∧ Below w.heap.size w w') : Calls P f vs w fun e w'' => ∃ u, e = .returned u ∧ Rb w w'' ∧ (Spec.eq (R := Rb) v).V w'' u :=
  h.mono fun _ _ ⟨he, hw⟩ => ⟨_, he, hw, rfl⟩

theorem size_int (n : Int) (w : World) (h0 : 0 ≤ n) (h1 : n.toNat < U64) : Calls Tryd.prog 112 #[.int .u64 n] w fun e w' => e = .returned (.int .i64 (sizeN n.toNat : Int)) ∧ w = w' := by
  obtain ⟨n, rfl⟩ := Int.eq_ofNat_of_zero_le h0
  exact size_any n w h1
theorem intB_len {m : Int} (h0 : -9223372036854775808 ≤ m) (h1 : m ≤ 9223372036854775807) : (intB m).length ≤ 10 := sizeN_le10 (zig_lt h0 h1)
theorem textB_len (xs : List UInt8) (h : xs.length ≤ 300) : (textB xs).length ≤ 310 := by
  rw [textB, List.length_append, uintB_length]; have := sizeN_le10 (n := xs.length) (by omega); omega
end Go.Proofs.YtolfeellcdoopaaDoor
