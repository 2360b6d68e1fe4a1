/-
  Layer 3: Same, and what the law holds of both.
-/
import Derived.Test.YtbdgdmieggpmhaaK12
namespace Go.Proofs.Ytbdgdmieggpmhaa.L3
open Go.ChangeShapes Go.WideShapes Go.ChangeAt Go.RowKit By Reg
set_option linter.unusedVariables false

set_option maxRecDepth 100000 in
theorem same_any (m n : Mem) (D : Dk) (w0 : World) (h1 : HeldK w0 m D) (h2 : HeldK w0 n D) : Calls Try.prog 39 #[.pointer (some ⟨m.b, 0, none⟩), .pointer (some ⟨n.b, 0, none⟩)] w0 fun e w' => e = .returned (.bool true) ∧ Rb w0 w' := by
  have HM := Lib.hid h1.blk
  have HN := Lib.hid h2.blk
  have GM := Lib.hid (Bs.of_owns h1.own)
  have GN := Lib.hid (Bs.of_owns h2.own)
  have H1 := Lib.hid h1
  have H2 := Lib.hid h2
  clear h1 h2
  go_enter Try.func39, Try.ntmps39
  go_upto_region 3 with (fail)
  refine wp_region_specs (R := Rb) (S := [Spec.eq (.pointer (some ⟨m.b, 0, none⟩)), Spec.eq (.pointer (some ⟨m.b, 0, none⟩)), Spec.eq (.pointer (some ⟨m.b, 0, none⟩)), Spec.eq (.int .i64 (D.room)), Spec.eq (.pointer (some ⟨n.b, 0, none⟩)), Spec.eq (.pointer (some ⟨n.b, 0, none⟩)), Spec.eq (.pointer (some ⟨n.b, 0, none⟩)), Spec.eq (.int .i64 (D.room)), Spec.eq (.bool true), Spec.eq (.bool true), Spec.eq (.pointer (some ⟨m.b, 0, none⟩)), Spec.eq (.pointer (some ⟨m.b, 0, none⟩)), Spec.eq (.pointer (some ⟨m.b, 2, none⟩)), Spec.eq (.int .i64 (D.sure.length)), Spec.eq (.pointer (some ⟨n.b, 0, none⟩)), Spec.eq (.pointer (some ⟨n.b, 0, none⟩)), Spec.eq (.pointer (some ⟨n.b, 2, none⟩)), Spec.eq (.int .i64 (D.sure.length)), Spec.eq (.bool true), Spec.eq (.bool true), Spec.eq (.bool true), Spec.eq (.pointer (some ⟨m.b, 0, none⟩)), Spec.eq (.pointer (some ⟨m.b, 0, none⟩)), Spec.eq (.pointer (some ⟨m.b, 1, none⟩)), Spec.eq (m.lv), Spec.eq (.pointer (some ⟨n.b, 0, none⟩)), Spec.eq (.pointer (some ⟨n.b, 0, none⟩)), Spec.eq (.pointer (some ⟨n.b, 1, none⟩)), Spec.eq (n.lv), Spec.eq (.bool true), Spec.eq (.bool true), Spec.eq (.bool true), Spec.eq (.pointer (some ⟨m.b, 0, none⟩)), Spec.eq (.pointer (some ⟨m.b, 0, none⟩)), Spec.eq (.pointer (some ⟨m.b, 3, none⟩)), Spec.eq (.agg #[m.v0, m.v1]), Spec.eq (.pointer (some ⟨n.b, 0, none⟩)), Spec.eq (.pointer (some ⟨n.b, 0, none⟩)), Spec.eq (.pointer (some ⟨n.b, 3, none⟩)), Spec.eq (.agg #[n.v0, n.v1]), Spec.eq (.bool true), Spec.eq (.bool true), Spec.eq (.bool true), Spec.eq (.pointer (some ⟨m.b, 0, none⟩)), Spec.eq (.pointer (some ⟨m.b, 0, none⟩)), Spec.eq (.pointer (some ⟨m.b, 5, none⟩)), Spec.eq (.agg #[m.u0, m.u1]), Spec.eq (.pointer (some ⟨n.b, 0, none⟩)), Spec.eq (.pointer (some ⟨n.b, 0, none⟩)), Spec.eq (.pointer (some ⟨n.b, 5, none⟩)), Spec.eq (.agg #[n.u0, n.u1]), Spec.eq (.bool true), Spec.eq (.bool true), Spec.eq (.bool true)]) (n := 1) (size := 67) (by kernel_rfl) Rb.trans (Rb.drew _) rfl (by kernel_rfl) ?owed ?fin
  case owed =>
    refine Owed.cons ?_ ?_
    · -- 0: slot 14 := Op.move (Operand.tmp 0)
      intro a w hR F
      have e0 : a.eval (.tmp 0) = .pointer (some ⟨m.b, 0, none⟩) := F.old 0 (by kernel_rfl)
      exact ok_move _ rfl (wanted_none rfl) ⟨Rb.refl _, e0⟩
    refine Owed.cons ?_ ?_
    · -- 1: slot 15 := Op.nilCheck (Operand.tmp 14)
      intro a w hR F
      have e14 : a.eval (.tmp 14) = .pointer (some ⟨m.b, 0, none⟩) := F.new 0 14 (by kernel_rfl)
      exact ok_nilCheck _ rfl (wanted_none rfl) e14 ⟨Rb.refl _, rfl⟩
    refine Owed.cons ?_ ?_
    · -- 2: slot 16 := Op.fieldAddr 93 (Operand.tmp 15) 0
      intro a w hR F
      have e15 : a.eval (.tmp 15) = .pointer (some ⟨m.b, 0, none⟩) := F.new 1 15 (by kernel_rfl)
      exact ok_fieldK _ 0 0 (by decide) rfl (wanted_none rfl) e15 ⟨Rb.refl _, rfl⟩
    refine Owed.cons ?_ ?_
    · -- 3: slot 17 := Op.load 3 (Operand.tmp 16)
      intro a w hR F
      have e16 : a.eval (.tmp 16) = .pointer (some ⟨m.b, 0, none⟩) := F.new 2 16 (by kernel_rfl)
      exact ok_load _ _ rfl (wanted_none rfl) e16 (load_int ((HM.out.rb hR).cell 0)) ⟨Rb.refl _, rfl⟩
    refine Owed.cons ?_ ?_
    · -- 4: slot 18 := Op.move (Operand.tmp 1)
      intro a w hR F
      have e1 : a.eval (.tmp 1) = .pointer (some ⟨n.b, 0, none⟩) := F.old 1 (by kernel_rfl)
      exact ok_move _ rfl (wanted_none rfl) ⟨Rb.refl _, e1⟩
    refine Owed.cons ?_ ?_
    · -- 5: slot 19 := Op.nilCheck (Operand.tmp 18)
      intro a w hR F
      have e18 : a.eval (.tmp 18) = .pointer (some ⟨n.b, 0, none⟩) := F.new 4 18 (by kernel_rfl)
      exact ok_nilCheck _ rfl (wanted_none rfl) e18 ⟨Rb.refl _, rfl⟩
    refine Owed.cons ?_ ?_
    · -- 6: slot 20 := Op.fieldAddr 93 (Operand.tmp 19) 0
      intro a w hR F
      have e19 : a.eval (.tmp 19) = .pointer (some ⟨n.b, 0, none⟩) := F.new 5 19 (by kernel_rfl)
      exact ok_fieldK _ 0 0 (by decide) rfl (wanted_none rfl) e19 ⟨Rb.refl _, rfl⟩
    refine Owed.cons ?_ ?_
    · -- 7: slot 21 := Op.load 3 (Operand.tmp 20)
      intro a w hR F
      have e20 : a.eval (.tmp 20) = .pointer (some ⟨n.b, 0, none⟩) := F.new 6 20 (by kernel_rfl)
      exact ok_load _ _ rfl (wanted_none rfl) e20 (load_int ((HN.out.rb hR).cell 0)) ⟨Rb.refl _, rfl⟩
    refine Owed.cons ?_ ?_
    · -- 8: slot 22 := Op.binOp BinOp.eql 3 (Operand.tmp 17) (Operand.tmp 21) 3
      intro a w hR F
      have e17 : a.eval (.tmp 17) = .int .i64 (D.room) := F.new 3 17 (by kernel_rfl)
      have e21 : a.eval (.tmp 21) = .int .i64 (D.room) := F.new 7 21 (by kernel_rfl)
      refine ok_bin _ _ _ _ _ rfl (wanted_none rfl) e17 e21 (run_eql_int _ _ _ _ _ _) ⟨Rb.refl _, ?_⟩
      exact congrArg Value.bool (by simp)
    refine Owed.cons ?_ ?_
    · -- 9: slot 23 := Op.move (Operand.tmp 22)
      intro a w hR F
      have e22 : a.eval (.tmp 22) = .bool true := F.new 8 22 (by kernel_rfl)
      exact ok_move _ rfl (wanted_none rfl) ⟨Rb.refl _, e22⟩
    refine Owed.cons ?_ ?_
    · -- 10: slot 24 := Op.move (Operand.tmp 0)
      intro a w hR F
      have e23 : a.eval (.tmp 23) = .bool true := F.new 9 23 (by kernel_rfl)
      have e0 : a.eval (.tmp 0) = .pointer (some ⟨m.b, 0, none⟩) := F.old 0 (by kernel_rfl)
      exact ok_move _ rfl (wanted_true (j := 9) (d := 23) rfl (by kernel_rfl) e23) ⟨Rb.refl _, e0⟩
    refine Owed.cons ?_ ?_
    · -- 11: slot 25 := Op.nilCheck (Operand.tmp 24)
      intro a w hR F
      have e23 : a.eval (.tmp 23) = .bool true := F.new 9 23 (by kernel_rfl)
      have e24 : a.eval (.tmp 24) = .pointer (some ⟨m.b, 0, none⟩) := F.new 10 24 (by kernel_rfl)
      exact ok_nilCheck _ rfl (wanted_true (j := 9) (d := 23) rfl (by kernel_rfl) e23) e24 ⟨Rb.refl _, rfl⟩
    refine Owed.cons ?_ ?_
    · -- 12: slot 26 := Op.fieldAddr 93 (Operand.tmp 25) 2
      intro a w hR F
      have e23 : a.eval (.tmp 23) = .bool true := F.new 9 23 (by kernel_rfl)
      have e25 : a.eval (.tmp 25) = .pointer (some ⟨m.b, 0, none⟩) := F.new 11 25 (by kernel_rfl)
      exact ok_fieldK _ 2 2 (by decide) rfl (wanted_true (j := 9) (d := 23) rfl (by kernel_rfl) e23) e25 ⟨Rb.refl _, rfl⟩
    refine Owed.cons ?_ ?_
    · -- 13: slot 27 := Op.load 3 (Operand.tmp 26)
      intro a w hR F
      have e23 : a.eval (.tmp 23) = .bool true := F.new 9 23 (by kernel_rfl)
      have e26 : a.eval (.tmp 26) = .pointer (some ⟨m.b, 2, none⟩) := F.new 12 26 (by kernel_rfl)
      exact ok_load _ _ rfl (wanted_true (j := 9) (d := 23) rfl (by kernel_rfl) e23) e26 (load_int ((HM.out.rb hR).cell 2)) ⟨Rb.refl _, rfl⟩
    refine Owed.cons ?_ ?_
    · -- 14: slot 28 := Op.move (Operand.tmp 1)
      intro a w hR F
      have e23 : a.eval (.tmp 23) = .bool true := F.new 9 23 (by kernel_rfl)
      have e1 : a.eval (.tmp 1) = .pointer (some ⟨n.b, 0, none⟩) := F.old 1 (by kernel_rfl)
      exact ok_move _ rfl (wanted_true (j := 9) (d := 23) rfl (by kernel_rfl) e23) ⟨Rb.refl _, e1⟩
    refine Owed.cons ?_ ?_
    · -- 15: slot 29 := Op.nilCheck (Operand.tmp 28)
      intro a w hR F
      have e23 : a.eval (.tmp 23) = .bool true := F.new 9 23 (by kernel_rfl)
      have e28 : a.eval (.tmp 28) = .pointer (some ⟨n.b, 0, none⟩) := F.new 14 28 (by kernel_rfl)
      exact ok_nilCheck _ rfl (wanted_true (j := 9) (d := 23) rfl (by kernel_rfl) e23) e28 ⟨Rb.refl _, rfl⟩
    refine Owed.cons ?_ ?_
    · -- 16: slot 30 := Op.fieldAddr 93 (Operand.tmp 29) 2
      intro a w hR F
      have e23 : a.eval (.tmp 23) = .bool true := F.new 9 23 (by kernel_rfl)
      have e29 : a.eval (.tmp 29) = .pointer (some ⟨n.b, 0, none⟩) := F.new 15 29 (by kernel_rfl)
      exact ok_fieldK _ 2 2 (by decide) rfl (wanted_true (j := 9) (d := 23) rfl (by kernel_rfl) e23) e29 ⟨Rb.refl _, rfl⟩
    refine Owed.cons ?_ ?_
    · -- 17: slot 31 := Op.load 3 (Operand.tmp 30)
      intro a w hR F
      have e23 : a.eval (.tmp 23) = .bool true := F.new 9 23 (by kernel_rfl)
      have e30 : a.eval (.tmp 30) = .pointer (some ⟨n.b, 2, none⟩) := F.new 16 30 (by kernel_rfl)
      exact ok_load _ _ rfl (wanted_true (j := 9) (d := 23) rfl (by kernel_rfl) e23) e30 (load_int ((HN.out.rb hR).cell 2)) ⟨Rb.refl _, rfl⟩
    refine Owed.cons ?_ ?_
    · -- 18: slot 32 := Op.binOp BinOp.eql 3 (Operand.tmp 27) (Operand.tmp 31) 3
      intro a w hR F
      have e23 : a.eval (.tmp 23) = .bool true := F.new 9 23 (by kernel_rfl)
      have e27 : a.eval (.tmp 27) = .int .i64 (D.sure.length) := F.new 13 27 (by kernel_rfl)
      have e31 : a.eval (.tmp 31) = .int .i64 (D.sure.length) := F.new 17 31 (by kernel_rfl)
      refine ok_bin _ _ _ _ _ rfl (wanted_true (j := 9) (d := 23) rfl (by kernel_rfl) e23) e27 e31 (run_eql_int _ _ _ _ _ _) ⟨Rb.refl _, ?_⟩
      exact congrArg Value.bool (by simp)
    refine Owed.cons ?_ ?_
    · -- 19: slot 33 := Op.pick (Operand.tmp 23) (Operand.tmp 32) (Operand.const (Value.bool false))
      intro a w hR F
      have e23 : a.eval (.tmp 23) = .bool true := F.new 9 23 (by kernel_rfl)
      have e32 : a.eval (.tmp 32) = .bool true := F.new 18 32 (by kernel_rfl)
      exact ok_pick _ _ _ true rfl (wanted_none rfl) e23 ⟨Rb.refl _, e32⟩
    refine Owed.cons ?_ ?_
    · -- 20: slot 34 := Op.move (Operand.tmp 33)
      intro a w hR F
      have e33 : a.eval (.tmp 33) = .bool true := F.new 19 33 (by kernel_rfl)
      exact ok_move _ rfl (wanted_none rfl) ⟨Rb.refl _, e33⟩
    refine Owed.cons ?_ ?_
    · -- 21: slot 35 := Op.move (Operand.tmp 0)
      intro a w hR F
      have e34 : a.eval (.tmp 34) = .bool true := F.new 20 34 (by kernel_rfl)
      have e0 : a.eval (.tmp 0) = .pointer (some ⟨m.b, 0, none⟩) := F.old 0 (by kernel_rfl)
      exact ok_move _ rfl (wanted_true (j := 20) (d := 34) rfl (by kernel_rfl) e34) ⟨Rb.refl _, e0⟩
    refine Owed.cons ?_ ?_
    · -- 22: slot 36 := Op.nilCheck (Operand.tmp 35)
      intro a w hR F
      have e34 : a.eval (.tmp 34) = .bool true := F.new 20 34 (by kernel_rfl)
      have e35 : a.eval (.tmp 35) = .pointer (some ⟨m.b, 0, none⟩) := F.new 21 35 (by kernel_rfl)
      exact ok_nilCheck _ rfl (wanted_true (j := 20) (d := 34) rfl (by kernel_rfl) e34) e35 ⟨Rb.refl _, rfl⟩
    refine Owed.cons ?_ ?_
    · -- 23: slot 37 := Op.fieldAddr 93 (Operand.tmp 36) 1
      intro a w hR F
      have e34 : a.eval (.tmp 34) = .bool true := F.new 20 34 (by kernel_rfl)
      have e36 : a.eval (.tmp 36) = .pointer (some ⟨m.b, 0, none⟩) := F.new 22 36 (by kernel_rfl)
      exact ok_fieldK _ 1 1 (by decide) rfl (wanted_true (j := 20) (d := 34) rfl (by kernel_rfl) e34) e36 ⟨Rb.refl _, rfl⟩
    refine Owed.cons ?_ ?_
    · -- 24: slot 38 := Op.load 23 (Operand.tmp 37)
      intro a w hR F
      have e34 : a.eval (.tmp 34) = .bool true := F.new 20 34 (by kernel_rfl)
      have e37 : a.eval (.tmp 37) = .pointer (some ⟨m.b, 1, none⟩) := F.new 23 37 (by kernel_rfl)
      exact ok_load _ _ rfl (wanted_true (j := 20) (d := 34) rfl (by kernel_rfl) e34) e37 (load_bytes ((HM.out.rb hR).cell 1)) ⟨Rb.refl _, rfl⟩
    refine Owed.cons ?_ ?_
    · -- 25: slot 39 := Op.move (Operand.tmp 1)
      intro a w hR F
      have e34 : a.eval (.tmp 34) = .bool true := F.new 20 34 (by kernel_rfl)
      have e1 : a.eval (.tmp 1) = .pointer (some ⟨n.b, 0, none⟩) := F.old 1 (by kernel_rfl)
      exact ok_move _ rfl (wanted_true (j := 20) (d := 34) rfl (by kernel_rfl) e34) ⟨Rb.refl _, e1⟩
    refine Owed.cons ?_ ?_
    · -- 26: slot 40 := Op.nilCheck (Operand.tmp 39)
      intro a w hR F
      have e34 : a.eval (.tmp 34) = .bool true := F.new 20 34 (by kernel_rfl)
      have e39 : a.eval (.tmp 39) = .pointer (some ⟨n.b, 0, none⟩) := F.new 25 39 (by kernel_rfl)
      exact ok_nilCheck _ rfl (wanted_true (j := 20) (d := 34) rfl (by kernel_rfl) e34) e39 ⟨Rb.refl _, rfl⟩
    refine Owed.cons ?_ ?_
    · -- 27: slot 41 := Op.fieldAddr 93 (Operand.tmp 40) 1
      intro a w hR F
      have e34 : a.eval (.tmp 34) = .bool true := F.new 20 34 (by kernel_rfl)
      have e40 : a.eval (.tmp 40) = .pointer (some ⟨n.b, 0, none⟩) := F.new 26 40 (by kernel_rfl)
      exact ok_fieldK _ 1 1 (by decide) rfl (wanted_true (j := 20) (d := 34) rfl (by kernel_rfl) e34) e40 ⟨Rb.refl _, rfl⟩
    refine Owed.cons ?_ ?_
    · -- 28: slot 42 := Op.load 23 (Operand.tmp 41)
      intro a w hR F
      have e34 : a.eval (.tmp 34) = .bool true := F.new 20 34 (by kernel_rfl)
      have e41 : a.eval (.tmp 41) = .pointer (some ⟨n.b, 1, none⟩) := F.new 27 41 (by kernel_rfl)
      exact ok_load _ _ rfl (wanted_true (j := 20) (d := 34) rfl (by kernel_rfl) e34) e41 (load_bytes ((HN.out.rb hR).cell 1)) ⟨Rb.refl _, rfl⟩
    refine Owed.cons ?_ ?_
    · -- 29: slot 43 := Op.call { callee := Callee.value (Operand.func 64), args := #[Operand.tmp 38, Operand.tmp 42], argTy
      intro a w hR F
      have e34 : a.eval (.tmp 34) = .bool true := F.new 20 34 (by kernel_rfl)
      have e38 : a.eval (.tmp 38) = m.lv := F.new 24 38 (by kernel_rfl)
      have e42 : a.eval (.tmp 42) = n.lv := F.new 28 42 (by kernel_rfl)
      refine ok_call 64 _ _ #[m.lv, n.lv] rfl (wanted_true (j := 20) (d := 34) rfl (by kernel_rfl) e34) (by simp [e38, e42]) (Try.call64 _ _) ?_
      exact val_call_rb (equal_any m.lv n.lv D.log w (GM.out.below hR) (GN.out.below hR))
    refine Owed.cons ?_ ?_
    · -- 30: slot 44 := Op.pick (Operand.tmp 34) (Operand.tmp 43) (Operand.const (Value.bool false))
      intro a w hR F
      have e34 : a.eval (.tmp 34) = .bool true := F.new 20 34 (by kernel_rfl)
      have e43 : a.eval (.tmp 43) = .bool true := F.new 29 43 (by kernel_rfl)
      exact ok_pick _ _ _ true rfl (wanted_none rfl) e34 ⟨Rb.refl _, e43⟩
    refine Owed.cons ?_ ?_
    · -- 31: slot 45 := Op.move (Operand.tmp 44)
      intro a w hR F
      have e44 : a.eval (.tmp 44) = .bool true := F.new 30 44 (by kernel_rfl)
      exact ok_move _ rfl (wanted_none rfl) ⟨Rb.refl _, e44⟩
    refine Owed.cons ?_ ?_
    · -- 32: slot 46 := Op.move (Operand.tmp 0)
      intro a w hR F
      have e45 : a.eval (.tmp 45) = .bool true := F.new 31 45 (by kernel_rfl)
      have e0 : a.eval (.tmp 0) = .pointer (some ⟨m.b, 0, none⟩) := F.old 0 (by kernel_rfl)
      exact ok_move _ rfl (wanted_true (j := 31) (d := 45) rfl (by kernel_rfl) e45) ⟨Rb.refl _, e0⟩
    refine Owed.cons ?_ ?_
    · -- 33: slot 47 := Op.nilCheck (Operand.tmp 46)
      intro a w hR F
      have e45 : a.eval (.tmp 45) = .bool true := F.new 31 45 (by kernel_rfl)
      have e46 : a.eval (.tmp 46) = .pointer (some ⟨m.b, 0, none⟩) := F.new 32 46 (by kernel_rfl)
      exact ok_nilCheck _ rfl (wanted_true (j := 31) (d := 45) rfl (by kernel_rfl) e45) e46 ⟨Rb.refl _, rfl⟩
    refine Owed.cons ?_ ?_
    · -- 34: slot 48 := Op.fieldAddr 93 (Operand.tmp 47) 3
      intro a w hR F
      have e45 : a.eval (.tmp 45) = .bool true := F.new 31 45 (by kernel_rfl)
      have e47 : a.eval (.tmp 47) = .pointer (some ⟨m.b, 0, none⟩) := F.new 33 47 (by kernel_rfl)
      exact ok_fieldK _ 3 3 (by decide) rfl (wanted_true (j := 31) (d := 45) rfl (by kernel_rfl) e45) e47 ⟨Rb.refl _, rfl⟩
    refine Owed.cons ?_ ?_
    · -- 35: slot 49 := Op.load 91 (Operand.tmp 48)
      intro a w hR F
      have e45 : a.eval (.tmp 45) = .bool true := F.new 31 45 (by kernel_rfl)
      have e48 : a.eval (.tmp 48) = .pointer (some ⟨m.b, 3, none⟩) := F.new 34 48 (by kernel_rfl)
      exact ok_load _ _ rfl (wanted_true (j := 31) (d := 45) rfl (by kernel_rfl) e45) e48 (load_slots 3 ((HM.out.rb hR).cell 3) ((HM.out.rb hR).cell 4)) ⟨Rb.refl _, rfl⟩
    refine Owed.cons ?_ ?_
    · -- 36: slot 50 := Op.move (Operand.tmp 1)
      intro a w hR F
      have e45 : a.eval (.tmp 45) = .bool true := F.new 31 45 (by kernel_rfl)
      have e1 : a.eval (.tmp 1) = .pointer (some ⟨n.b, 0, none⟩) := F.old 1 (by kernel_rfl)
      exact ok_move _ rfl (wanted_true (j := 31) (d := 45) rfl (by kernel_rfl) e45) ⟨Rb.refl _, e1⟩
    refine Owed.cons ?_ ?_
    · -- 37: slot 51 := Op.nilCheck (Operand.tmp 50)
      intro a w hR F
      have e45 : a.eval (.tmp 45) = .bool true := F.new 31 45 (by kernel_rfl)
      have e50 : a.eval (.tmp 50) = .pointer (some ⟨n.b, 0, none⟩) := F.new 36 50 (by kernel_rfl)
      exact ok_nilCheck _ rfl (wanted_true (j := 31) (d := 45) rfl (by kernel_rfl) e45) e50 ⟨Rb.refl _, rfl⟩
    refine Owed.cons ?_ ?_
    · -- 38: slot 52 := Op.fieldAddr 93 (Operand.tmp 51) 3
      intro a w hR F
      have e45 : a.eval (.tmp 45) = .bool true := F.new 31 45 (by kernel_rfl)
      have e51 : a.eval (.tmp 51) = .pointer (some ⟨n.b, 0, none⟩) := F.new 37 51 (by kernel_rfl)
      exact ok_fieldK _ 3 3 (by decide) rfl (wanted_true (j := 31) (d := 45) rfl (by kernel_rfl) e45) e51 ⟨Rb.refl _, rfl⟩
    refine Owed.cons ?_ ?_
    · -- 39: slot 53 := Op.load 91 (Operand.tmp 52)
      intro a w hR F
      have e45 : a.eval (.tmp 45) = .bool true := F.new 31 45 (by kernel_rfl)
      have e52 : a.eval (.tmp 52) = .pointer (some ⟨n.b, 3, none⟩) := F.new 38 52 (by kernel_rfl)
      exact ok_load _ _ rfl (wanted_true (j := 31) (d := 45) rfl (by kernel_rfl) e45) e52 (load_slots 3 ((HN.out.rb hR).cell 3) ((HN.out.rb hR).cell 4)) ⟨Rb.refl _, rfl⟩
    refine Owed.cons ?_ ?_
    · -- 40: slot 54 := Op.call { callee := Callee.value (Operand.func 65), args := #[Operand.tmp 49, Operand.tmp 53], argTy
      intro a w hR F
      have e45 : a.eval (.tmp 45) = .bool true := F.new 31 45 (by kernel_rfl)
      have e49 : a.eval (.tmp 49) = .agg #[m.v0, m.v1] := F.new 35 49 (by kernel_rfl)
      have e53 : a.eval (.tmp 53) = .agg #[n.v0, n.v1] := F.new 39 53 (by kernel_rfl)
      refine ok_call 65 _ _ #[.agg #[m.v0, m.v1], .agg #[n.v0, n.v1]] rfl (wanted_true (j := 31) (d := 45) rfl (by kernel_rfl) e45) (by simp [e49, e53]) (Try.call65 _ _) ?_
      exact val_call_rb (sameslots_any _ _ _ _ _ _ w (H1.out.b0.below hR) (H2.out.b0.below hR) (H1.out.b1.below hR) (H2.out.b1.below hR))
    refine Owed.cons ?_ ?_
    · -- 41: slot 55 := Op.pick (Operand.tmp 45) (Operand.tmp 54) (Operand.const (Value.bool false))
      intro a w hR F
      have e45 : a.eval (.tmp 45) = .bool true := F.new 31 45 (by kernel_rfl)
      have e54 : a.eval (.tmp 54) = .bool true := F.new 40 54 (by kernel_rfl)
      exact ok_pick _ _ _ true rfl (wanted_none rfl) e45 ⟨Rb.refl _, e54⟩
    refine Owed.cons ?_ ?_
    · -- 42: slot 56 := Op.move (Operand.tmp 55)
      intro a w hR F
      have e55 : a.eval (.tmp 55) = .bool true := F.new 41 55 (by kernel_rfl)
      exact ok_move _ rfl (wanted_none rfl) ⟨Rb.refl _, e55⟩
    refine Owed.cons ?_ ?_
    · -- 43: slot 57 := Op.move (Operand.tmp 0)
      intro a w hR F
      have e56 : a.eval (.tmp 56) = .bool true := F.new 42 56 (by kernel_rfl)
      have e0 : a.eval (.tmp 0) = .pointer (some ⟨m.b, 0, none⟩) := F.old 0 (by kernel_rfl)
      exact ok_move _ rfl (wanted_true (j := 42) (d := 56) rfl (by kernel_rfl) e56) ⟨Rb.refl _, e0⟩
    refine Owed.cons ?_ ?_
    · -- 44: slot 58 := Op.nilCheck (Operand.tmp 57)
      intro a w hR F
      have e56 : a.eval (.tmp 56) = .bool true := F.new 42 56 (by kernel_rfl)
      have e57 : a.eval (.tmp 57) = .pointer (some ⟨m.b, 0, none⟩) := F.new 43 57 (by kernel_rfl)
      exact ok_nilCheck _ rfl (wanted_true (j := 42) (d := 56) rfl (by kernel_rfl) e56) e57 ⟨Rb.refl _, rfl⟩
    refine Owed.cons ?_ ?_
    · -- 45: slot 59 := Op.fieldAddr 93 (Operand.tmp 58) 4
      intro a w hR F
      have e56 : a.eval (.tmp 56) = .bool true := F.new 42 56 (by kernel_rfl)
      have e58 : a.eval (.tmp 58) = .pointer (some ⟨m.b, 0, none⟩) := F.new 44 58 (by kernel_rfl)
      exact ok_fieldK _ 4 5 (by decide) rfl (wanted_true (j := 42) (d := 56) rfl (by kernel_rfl) e56) e58 ⟨Rb.refl _, rfl⟩
    refine Owed.cons ?_ ?_
    · -- 46: slot 60 := Op.load 91 (Operand.tmp 59)
      intro a w hR F
      have e56 : a.eval (.tmp 56) = .bool true := F.new 42 56 (by kernel_rfl)
      have e59 : a.eval (.tmp 59) = .pointer (some ⟨m.b, 5, none⟩) := F.new 45 59 (by kernel_rfl)
      exact ok_load _ _ rfl (wanted_true (j := 42) (d := 56) rfl (by kernel_rfl) e56) e59 (load_slots 5 ((HM.out.rb hR).cell 5) ((HM.out.rb hR).cell 6)) ⟨Rb.refl _, rfl⟩
    refine Owed.cons ?_ ?_
    · -- 47: slot 61 := Op.move (Operand.tmp 1)
      intro a w hR F
      have e56 : a.eval (.tmp 56) = .bool true := F.new 42 56 (by kernel_rfl)
      have e1 : a.eval (.tmp 1) = .pointer (some ⟨n.b, 0, none⟩) := F.old 1 (by kernel_rfl)
      exact ok_move _ rfl (wanted_true (j := 42) (d := 56) rfl (by kernel_rfl) e56) ⟨Rb.refl _, e1⟩
    refine Owed.cons ?_ ?_
    · -- 48: slot 62 := Op.nilCheck (Operand.tmp 61)
      intro a w hR F
      have e56 : a.eval (.tmp 56) = .bool true := F.new 42 56 (by kernel_rfl)
      have e61 : a.eval (.tmp 61) = .pointer (some ⟨n.b, 0, none⟩) := F.new 47 61 (by kernel_rfl)
      exact ok_nilCheck _ rfl (wanted_true (j := 42) (d := 56) rfl (by kernel_rfl) e56) e61 ⟨Rb.refl _, rfl⟩
    refine Owed.cons ?_ ?_
    · -- 49: slot 63 := Op.fieldAddr 93 (Operand.tmp 62) 4
      intro a w hR F
      have e56 : a.eval (.tmp 56) = .bool true := F.new 42 56 (by kernel_rfl)
      have e62 : a.eval (.tmp 62) = .pointer (some ⟨n.b, 0, none⟩) := F.new 48 62 (by kernel_rfl)
      exact ok_fieldK _ 4 5 (by decide) rfl (wanted_true (j := 42) (d := 56) rfl (by kernel_rfl) e56) e62 ⟨Rb.refl _, rfl⟩
    refine Owed.cons ?_ ?_
    · -- 50: slot 64 := Op.load 91 (Operand.tmp 63)
      intro a w hR F
      have e56 : a.eval (.tmp 56) = .bool true := F.new 42 56 (by kernel_rfl)
      have e63 : a.eval (.tmp 63) = .pointer (some ⟨n.b, 5, none⟩) := F.new 49 63 (by kernel_rfl)
      exact ok_load _ _ rfl (wanted_true (j := 42) (d := 56) rfl (by kernel_rfl) e56) e63 (load_slots 5 ((HN.out.rb hR).cell 5) ((HN.out.rb hR).cell 6)) ⟨Rb.refl _, rfl⟩
    refine Owed.cons ?_ ?_
    · -- 51: slot 65 := Op.call { callee := Callee.value (Operand.func 65), args := #[Operand.tmp 60, Operand.tmp 64], argTy
      intro a w hR F
      have e56 : a.eval (.tmp 56) = .bool true := F.new 42 56 (by kernel_rfl)
      have e60 : a.eval (.tmp 60) = .agg #[m.u0, m.u1] := F.new 46 60 (by kernel_rfl)
      have e64 : a.eval (.tmp 64) = .agg #[n.u0, n.u1] := F.new 50 64 (by kernel_rfl)
      refine ok_call 65 _ _ #[.agg #[m.u0, m.u1], .agg #[n.u0, n.u1]] rfl (wanted_true (j := 42) (d := 56) rfl (by kernel_rfl) e56) (by simp [e60, e64]) (Try.call65 _ _) ?_
      exact val_call_rb (sameslots_any _ _ _ _ _ _ w (H1.out.c0.below hR) (H2.out.c0.below hR) (H1.out.c1.below hR) (H2.out.c1.below hR))
    refine Owed.cons ?_ ?_
    · -- 52: slot 66 := Op.pick (Operand.tmp 56) (Operand.tmp 65) (Operand.const (Value.bool false))
      intro a w hR F
      have e56 : a.eval (.tmp 56) = .bool true := F.new 42 56 (by kernel_rfl)
      have e65 : a.eval (.tmp 65) = .bool true := F.new 51 65 (by kernel_rfl)
      exact ok_pick _ _ _ true rfl (wanted_none rfl) e56 ⟨Rb.refl _, e65⟩
    refine Owed.cons ?_ ?_
    · -- 53: slot 4 := Op.assign (Operand.tmp 66)
      intro a w hR F
      have e66 : a.eval (.tmp 66) = .bool true := F.new 52 66 (by kernel_rfl)
      exact ok_assign _ rfl (wanted_none rfl) ⟨Rb.refl _, e66⟩
    exact Owed.nil
  case fin =>
    intro y w2 hR hy
    have e53 : y 53 = .bool true := hy 53 _ rfl
    have HR := Lib.hid hR
    clear hy hR
    simp only [putAll, Act.put, List.setIfInBounds_toArray, List.set_cons_zero, List.set_cons_succ]
    rw [e53]
    clear e53
    go_wp2
    go_ret
    exact ⟨rfl, HR.out⟩
set_option maxRecDepth 100000 in
theorem same_nils (w : World) : Calls Try.prog 39 #[.pointer none, .pointer none] w fun e w' => e = .returned (.bool true) ∧ w = w' := by
  go_enter Try.func39, Try.ntmps39
  go_wp2
  go_ret
  exact ⟨rfl, rfl⟩
theorem equalIn_nil (d : Nat) (b : Nat) (w : World) : (Op.equalIn (d + 1) 43 (.pointer none) (.pointer (some ⟨b, 0, none⟩))).run Try.prog w = .ok false w := by
  simp [Op.equalIn, run_underlying Try.underlying43]
theorem eql_nil (b : Nat) (w : World) : (binOp .eql 43 (.pointer none) (.pointer (some ⟨b, 0, none⟩))).run Try.prog w = .ok (.bool false) w := by
  have h : (Op.equal 43 (.pointer none) (.pointer (some ⟨b, 0, none⟩))).run Try.prog w = .ok false w := by
    exact equalIn_nil 9999 b w
  simp only [binOp]
  simp [h]
set_option maxRecDepth 100000 in
theorem same_nil (b : Nat) (w : World) : Calls Try.prog 39 #[.pointer none, .pointer (some ⟨b, 0, none⟩)] w fun e w' => e = .returned (.bool false) ∧ w = w' := by
  have hp := eql_nil b
  go_enter Try.func39, Try.ntmps39
  go_wp2
  go_ret
  exact ⟨rfl, rfl⟩
end Go.Proofs.Ytbdgdmieggpmhaa.L3
