import Derived.Test.YtefjfiihfbkjoaaDoorVN
import Derived.Deep.Cut
namespace Go.Proofs.YtefjfiihfbkjoaaDoor
open Go.ChangeShapes Go.WideShapes Go.ChangeAt Go.RowKit Oct By Reg Val

theorem HeldV.at (w : World) (B : Nat) (k n : Int) (s : ByteArray) (T : TypeId) (h : B = w.heap.size) : HeldV (w.alloc (.cells #[.int .i64 k, .int .i64 n, .string s] T)) B k n s := by
  subst h; exact HeldV.new w k n s T
set_option maxRecDepth 100000 in
theorem order_walk (k n : Int) (s : ByteArray) (k1 n1 : Int) (s1 : ByteArray) (k2 n2 : Int) (s2 : ByteArray) (w0 : World) (hs : s.size ≤ maxLen) (hs1 : s1.size ≤ maxLen) (hs2 : s2.size ≤ maxLen) (htab : Tab w0) :
    Calls Tryd.prog 4 #[vv k n s, vv k1 n1 s1, vv k2 n2 s2] w0 fun e w' => e = .returned (.bool true) ∧ Below w0.heap.size w0 w' := by
  have HT := Lib.hid htab; clear htab
  have g := fun (w : World) (o : Obj) => (show Rb w (w.alloc o) from (Below.refl _ _).alloc (Nat.le_refl _) _)
  have HA := Lib.hid ((((HeldV.at w0 w0.heap.size k n s 23 rfl).rb (g _ (.cells #[.int .i64 k1, .int .i64 n1, .string s1] 23))).rb (g _ (.cells #[.int .i64 k2, .int .i64 n2, .string s2] 23))))
  have HC1 := Lib.hid ((HeldV.at (w0.alloc (.cells #[.int .i64 k, .int .i64 n, .string s] 23)) (w0.heap.size + 1) k1 n1 s1 23 (by simp)).rb (g _ (.cells #[.int .i64 k2, .int .i64 n2, .string s2] 23)))
  have HC2 := Lib.hid (HeldV.at ((w0.alloc (.cells #[.int .i64 k, .int .i64 n, .string s] 23)).alloc (.cells #[.int .i64 k1, .int .i64 n1, .string s1] 23)) (w0.heap.size + 1 + 1) k2 n2 s2 23 (by simp))
  clear g
  have HB := Lib.hid (show Rb w0 (((w0.alloc (.cells #[.int .i64 k, .int .i64 n, .string s] 23)).alloc (.cells #[.int .i64 k1, .int .i64 n1, .string s1] 23)).alloc (.cells #[.int .i64 k2, .int .i64 n2, .string s2] 23)) from (((Below.refl w0.heap.size w0).alloc (Nat.le_refl _) _).alloc (by simp) _).alloc (by simp; omega) _)
  by_cases ha : s.size ≤ 100
  · by_cases hb : s1.size ≤ 100
    · by_cases hc : s2.size ≤ 100
      · go_enter Tryd.func4, Tryd.ntmps4
        go_upto_region 1 with (fail)
        refine wp_region_plain_specs (R := Rb) (S := [Spec.eq (vv (k) (n) (s)), Spec.eq (.bool true), Spec.eq (.bool false), Spec.eq (.bool false), Spec.eq (vv (k1) (n1) (s1)), Spec.eq (.bool true), Spec.eq (.bool false), Spec.eq (.bool false), Spec.eq (.bool false), Spec.eq (vv (k2) (n2) (s2)), Spec.eq (.bool true), Spec.eq (.bool false), Spec.eq (.bool false)]) (n := 1) (size := 63) Rb.trans (Rb.refl _) rfl (by kernel_rfl) ?owed ?fin
        case owed =>
          refine Owed.cons ?_ ?_
          · -- 0: slot 8 := Op.load 23 (Operand.tmp 3)
            intro a w hR F
            have e3 : a.eval (.tmp 3) = .pointer (some ⟨w0.heap.size, 0, none⟩) := F.old 3 (by kernel_rfl)
            exact ok_load _ _ rfl (wanted_none rfl) e3 (HA.out.rb hR).load ⟨Rb.refl _, rfl⟩
          refine Owed.cons ?_ ?_
          · -- 1: slot 9 := Op.call { callee := Callee.value (Operand.func 9), args := #[Operand.tmp 8], argTypes := #[23] }
            intro a w hR F
            have e8 : a.eval (.tmp 8) = vv (k) (n) (s) := F.new 0 8 (by kernel_rfl)
            refine ok_call 9 _ _ #[vv (k) (n) (s)] rfl (wanted_none rfl) (by simp [e8]) (Tryd.call9 _ _) ?_
            exact val_call_below (light_yes k n s w hs ha)
          refine Owed.cons ?_ ?_
          · -- 2: slot 10 := Op.unOp UnOp.not 4 (Operand.tmp 9)
            intro a w hR F
            have e9 : a.eval (.tmp 9) = .bool true := F.new 1 9 (by kernel_rfl)
            exact ok_not _ _ true rfl (wanted_none rfl) e9 ⟨Rb.refl _, rfl⟩
          refine Owed.cons ?_ ?_
          · -- 3: slot 11 := Op.move (Operand.tmp 10)
            intro a w hR F
            have e10 : a.eval (.tmp 10) = .bool false := F.new 2 10 (by kernel_rfl)
            exact ok_move _ rfl (wanted_none rfl) ⟨Rb.refl _, e10⟩
          refine Owed.cons ?_ ?_
          · -- 4: slot 12 := Op.load 23 (Operand.tmp 4)
            intro a w hR F
            have e11 : a.eval (.tmp 11) = .bool false := F.new 3 11 (by kernel_rfl)
            have e4 : a.eval (.tmp 4) = .pointer (some ⟨w0.heap.size + 1, 0, none⟩) := F.old 4 (by kernel_rfl)
            exact ok_load _ _ rfl (wanted_true (j := 3) (d := 11) rfl (by kernel_rfl) e11) e4 (HC1.out.rb hR).load ⟨Rb.refl _, rfl⟩
          refine Owed.cons ?_ ?_
          · -- 5: slot 13 := Op.call { callee := Callee.value (Operand.func 9), args := #[Operand.tmp 12], argTypes := #[23] }
            intro a w hR F
            have e11 : a.eval (.tmp 11) = .bool false := F.new 3 11 (by kernel_rfl)
            have e12 : a.eval (.tmp 12) = vv (k1) (n1) (s1) := F.new 4 12 (by kernel_rfl)
            refine ok_call 9 _ _ #[vv (k1) (n1) (s1)] rfl (wanted_true (j := 3) (d := 11) rfl (by kernel_rfl) e11) (by simp [e12]) (Tryd.call9 _ _) ?_
            exact val_call_below (light_yes k1 n1 s1 w hs1 hb)
          refine Owed.cons ?_ ?_
          · -- 6: slot 14 := Op.unOp UnOp.not 4 (Operand.tmp 13)
            intro a w hR F
            have e11 : a.eval (.tmp 11) = .bool false := F.new 3 11 (by kernel_rfl)
            have e13 : a.eval (.tmp 13) = .bool true := F.new 5 13 (by kernel_rfl)
            exact ok_not _ _ true rfl (wanted_true (j := 3) (d := 11) rfl (by kernel_rfl) e11) e13 ⟨Rb.refl _, rfl⟩
          refine Owed.cons ?_ ?_
          · -- 7: slot 15 := Op.pick (Operand.tmp 11) (Operand.const (Value.bool true)) (Operand.tmp 14)
            intro a w hR F
            have e11 : a.eval (.tmp 11) = .bool false := F.new 3 11 (by kernel_rfl)
            have e14 : a.eval (.tmp 14) = .bool false := F.new 6 14 (by kernel_rfl)
            exact ok_pick _ _ _ false rfl (wanted_none rfl) e11 ⟨Rb.refl _, e14⟩
          refine Owed.cons ?_ ?_
          · -- 8: slot 16 := Op.move (Operand.tmp 15)
            intro a w hR F
            have e15 : a.eval (.tmp 15) = .bool false := F.new 7 15 (by kernel_rfl)
            exact ok_move _ rfl (wanted_none rfl) ⟨Rb.refl _, e15⟩
          refine Owed.cons ?_ ?_
          · -- 9: slot 17 := Op.load 23 (Operand.tmp 5)
            intro a w hR F
            have e16 : a.eval (.tmp 16) = .bool false := F.new 8 16 (by kernel_rfl)
            have e5 : a.eval (.tmp 5) = .pointer (some ⟨w0.heap.size + 1 + 1, 0, none⟩) := F.old 5 (by kernel_rfl)
            exact ok_load _ _ rfl (wanted_true (j := 8) (d := 16) rfl (by kernel_rfl) e16) e5 (HC2.out.rb hR).load ⟨Rb.refl _, rfl⟩
          refine Owed.cons ?_ ?_
          · -- 10: slot 18 := Op.call { callee := Callee.value (Operand.func 9), args := #[Operand.tmp 17], argTypes := #[23] }
            intro a w hR F
            have e16 : a.eval (.tmp 16) = .bool false := F.new 8 16 (by kernel_rfl)
            have e17 : a.eval (.tmp 17) = vv (k2) (n2) (s2) := F.new 9 17 (by kernel_rfl)
            refine ok_call 9 _ _ #[vv (k2) (n2) (s2)] rfl (wanted_true (j := 8) (d := 16) rfl (by kernel_rfl) e16) (by simp [e17]) (Tryd.call9 _ _) ?_
            exact val_call_below (light_yes k2 n2 s2 w hs2 hc)
          refine Owed.cons ?_ ?_
          · -- 11: slot 19 := Op.unOp UnOp.not 4 (Operand.tmp 18)
            intro a w hR F
            have e16 : a.eval (.tmp 16) = .bool false := F.new 8 16 (by kernel_rfl)
            have e18 : a.eval (.tmp 18) = .bool true := F.new 10 18 (by kernel_rfl)
            exact ok_not _ _ true rfl (wanted_true (j := 8) (d := 16) rfl (by kernel_rfl) e16) e18 ⟨Rb.refl _, rfl⟩
          refine Owed.cons ?_ ?_
          · -- 12: slot 20 := Op.pick (Operand.tmp 16) (Operand.const (Value.bool true)) (Operand.tmp 19)
            intro a w hR F
            have e16 : a.eval (.tmp 16) = .bool false := F.new 8 16 (by kernel_rfl)
            have e19 : a.eval (.tmp 19) = .bool false := F.new 11 19 (by kernel_rfl)
            exact ok_pick _ _ _ false rfl (wanted_none rfl) e16 ⟨Rb.refl _, e19⟩
          exact Owed.nil
        case fin =>
          intro y w hR hy
          have e12 : y 12 = .bool false := hy 12 _ rfl
          have HA := Lib.hid (HA.out.rb hR)
          have HC1 := Lib.hid (HC1.out.rb hR)
          have HC2 := Lib.hid (HC2.out.rb hR)
          have HB := Lib.hid (Rb.trans _ _ _ HB.out hR)
          clear hy hR
          simp only [putAll, Act.put, List.setIfInBounds_toArray, List.set_cons_zero, List.set_cons_succ]
          rw [e12]
          clear e12
          go_upto_region 3 with (fail)
          refine wp_region_plain_specs (R := Rb) (S := [Spec.eq (vv (k) (n) (s)), Spec.eq (vv (k1) (n1) (s1)), Spec.eq (.int .i64 (cmpV k n s.data.toList k1 n1 s1.data.toList)), Spec.eq (.int .i64 (cmpV k n s.data.toList k1 n1 s1.data.toList))]) (n := 1) (size := 63) Rb.trans (Rb.refl _) rfl (by kernel_rfl) ?owed ?fin
          case owed =>
            refine Owed.cons ?_ ?_
            · -- 0: slot 22 := Op.load 23 (Operand.tmp 3)
              intro a w hR F
              have e3 : a.eval (.tmp 3) = .pointer (some ⟨w0.heap.size, 0, none⟩) := F.old 3 (by kernel_rfl)
              exact ok_load _ _ rfl (wanted_none rfl) e3 (HA.out.rb hR).load ⟨Rb.refl _, rfl⟩
            refine Owed.cons ?_ ?_
            · -- 1: slot 23 := Op.load 23 (Operand.tmp 4)
              intro a w hR F
              have e4 : a.eval (.tmp 4) = .pointer (some ⟨w0.heap.size + 1, 0, none⟩) := F.old 4 (by kernel_rfl)
              exact ok_load _ _ rfl (wanted_none rfl) e4 (HC1.out.rb hR).load ⟨Rb.refl _, rfl⟩
            refine Owed.cons ?_ ?_
            · -- 2: slot 24 := Op.call { callee := Callee.value (Operand.func 24), args := #[Operand.tmp 22, Operand.tmp 23], argTy
              intro a w hR F
              have e22 : a.eval (.tmp 22) = vv (k) (n) (s) := F.new 0 22 (by kernel_rfl)
              have e23 : a.eval (.tmp 23) = vv (k1) (n1) (s1) := F.new 1 23 (by kernel_rfl)
              refine ok_call 24 _ _ #[vv (k) (n) (s), vv (k1) (n1) (s1)] rfl (wanted_none rfl) (by simp [e22, e23]) (Tryd.call24 _ _) ?_
              exact val_call_below (compare_any k n s k1 n1 s1 w)
            refine Owed.cons ?_ ?_
            · -- 3: slot 7 := Op.assign (Operand.tmp 24)
              intro a w hR F
              have e24 : a.eval (.tmp 24) = .int .i64 (cmpV k n s.data.toList k1 n1 s1.data.toList) := F.new 2 24 (by kernel_rfl)
              exact ok_assign _ rfl (wanted_none rfl) ⟨Rb.refl _, e24⟩
            exact Owed.nil
          case fin =>
            intro y w hR hy
            have e3 : y 3 = .int .i64 (cmpV k n s.data.toList k1 n1 s1.data.toList) := hy 3 _ rfl
            have HA := Lib.hid (HA.out.rb hR)
            have HC1 := Lib.hid (HC1.out.rb hR)
            have HC2 := Lib.hid (HC2.out.rb hR)
            have HB := Lib.hid (Rb.trans _ _ _ HB.out hR)
            clear hy hR
            simp only [putAll, Act.put, List.setIfInBounds_toArray, List.set_cons_zero, List.set_cons_succ]
            rw [e3]
            clear e3
            go_upto_region 4 with (fail)
            refine wp_region_plain_specs (R := Rb) (S := [Spec.eq (.int .i64 (cmpV k n s.data.toList k1 n1 s1.data.toList)), Spec.eq (vv (k) (n) (s)), Spec.eq (vv (k1) (n1) (s1)), Spec.eq (.int .i64 (cmpV k n s.data.toList k1 n1 s1.data.toList)), Spec.eq (.bool false), Spec.eq (.bool false), Spec.eq (vv (k1) (n1) (s1)), Spec.eq (vv (k) (n) (s)), Spec.eq (.int .i64 (cmpV k1 n1 s1.data.toList k n s.data.toList)), Spec.eq (.int .i64 (cmpV k n s.data.toList k1 n1 s1.data.toList)), Spec.eq (.int .i64 (-(cmpV k n s.data.toList k1 n1 s1.data.toList))), Spec.eq (.bool false), Spec.eq (.bool false), Spec.eq (.bool false), Spec.eq (.int .i64 (cmpV k n s.data.toList k1 n1 s1.data.toList)), Spec.eq (.bool ((cmpV k n s.data.toList k1 n1 s1.data.toList) == 0)), Spec.eq (vv (k) (n) (s)), Spec.eq (vv (k1) (n1) (s1)), Spec.eq (.bool (eqVB (k) (n) (s) (k1) (n1) (s1))), Spec.eq (.bool false), Spec.eq (.bool false)]) (n := 1) (size := 63) Rb.trans (Rb.refl _) rfl (by kernel_rfl) ?owed ?fin
            case owed =>
              refine Owed.cons ?_ ?_
              · -- 0: slot 25 := Op.move (Operand.tmp 7)
                intro a w hR F
                have e7 : a.eval (.tmp 7) = .int .i64 (cmpV k n s.data.toList k1 n1 s1.data.toList) := F.old 7 (by kernel_rfl)
                exact ok_move _ rfl (wanted_none rfl) ⟨Rb.refl _, e7⟩
              refine Owed.cons ?_ ?_
              · -- 1: slot 26 := Op.load 23 (Operand.tmp 3)
                intro a w hR F
                have e3 : a.eval (.tmp 3) = .pointer (some ⟨w0.heap.size, 0, none⟩) := F.old 3 (by kernel_rfl)
                exact ok_load _ _ rfl (wanted_none rfl) e3 (HA.out.rb hR).load ⟨Rb.refl _, rfl⟩
              refine Owed.cons ?_ ?_
              · -- 2: slot 27 := Op.load 23 (Operand.tmp 4)
                intro a w hR F
                have e4 : a.eval (.tmp 4) = .pointer (some ⟨w0.heap.size + 1, 0, none⟩) := F.old 4 (by kernel_rfl)
                exact ok_load _ _ rfl (wanted_none rfl) e4 (HC1.out.rb hR).load ⟨Rb.refl _, rfl⟩
              refine Owed.cons ?_ ?_
              · -- 3: slot 28 := Op.call { callee := Callee.value (Operand.func 25), args := #[Operand.tmp 26, Operand.tmp 27], argTy
                intro a w hR F
                have e26 : a.eval (.tmp 26) = vv (k) (n) (s) := F.new 1 26 (by kernel_rfl)
                have e27 : a.eval (.tmp 27) = vv (k1) (n1) (s1) := F.new 2 27 (by kernel_rfl)
                refine ok_call 25 _ _ #[vv (k) (n) (s), vv (k1) (n1) (s1)] rfl (wanted_none rfl) (by simp [e26, e27]) (Tryd.call25 _ _) ?_
                exact val_call_below (refcompare_any k n s k1 n1 s1 w hs hs1)
              refine Owed.cons ?_ ?_
              · -- 4: slot 29 := Op.binOp BinOp.neq 3 (Operand.tmp 25) (Operand.tmp 28) 3
                intro a w hR F
                have e25 : a.eval (.tmp 25) = .int .i64 (cmpV k n s.data.toList k1 n1 s1.data.toList) := F.new 0 25 (by kernel_rfl)
                have e28 : a.eval (.tmp 28) = .int .i64 (cmpV k n s.data.toList k1 n1 s1.data.toList) := F.new 3 28 (by kernel_rfl)
                refine ok_bin _ _ _ _ _ rfl (wanted_none rfl) e25 e28 (run_neq_int _ _ _ _ _ _) ⟨Rb.refl _, ?_⟩
                exact congrArg Value.bool (by simp)
              refine Owed.cons ?_ ?_
              · -- 5: slot 30 := Op.move (Operand.tmp 29)
                intro a w hR F
                have e29 : a.eval (.tmp 29) = .bool false := F.new 4 29 (by kernel_rfl)
                exact ok_move _ rfl (wanted_none rfl) ⟨Rb.refl _, e29⟩
              refine Owed.cons ?_ ?_
              · -- 6: slot 31 := Op.load 23 (Operand.tmp 4)
                intro a w hR F
                have e30 : a.eval (.tmp 30) = .bool false := F.new 5 30 (by kernel_rfl)
                have e4 : a.eval (.tmp 4) = .pointer (some ⟨w0.heap.size + 1, 0, none⟩) := F.old 4 (by kernel_rfl)
                exact ok_load _ _ rfl (wanted_true (j := 5) (d := 30) rfl (by kernel_rfl) e30) e4 (HC1.out.rb hR).load ⟨Rb.refl _, rfl⟩
              refine Owed.cons ?_ ?_
              · -- 7: slot 32 := Op.load 23 (Operand.tmp 3)
                intro a w hR F
                have e30 : a.eval (.tmp 30) = .bool false := F.new 5 30 (by kernel_rfl)
                have e3 : a.eval (.tmp 3) = .pointer (some ⟨w0.heap.size, 0, none⟩) := F.old 3 (by kernel_rfl)
                exact ok_load _ _ rfl (wanted_true (j := 5) (d := 30) rfl (by kernel_rfl) e30) e3 (HA.out.rb hR).load ⟨Rb.refl _, rfl⟩
              refine Owed.cons ?_ ?_
              · -- 8: slot 33 := Op.call { callee := Callee.value (Operand.func 24), args := #[Operand.tmp 31, Operand.tmp 32], argTy
                intro a w hR F
                have e30 : a.eval (.tmp 30) = .bool false := F.new 5 30 (by kernel_rfl)
                have e31 : a.eval (.tmp 31) = vv (k1) (n1) (s1) := F.new 6 31 (by kernel_rfl)
                have e32 : a.eval (.tmp 32) = vv (k) (n) (s) := F.new 7 32 (by kernel_rfl)
                refine ok_call 24 _ _ #[vv (k1) (n1) (s1), vv (k) (n) (s)] rfl (wanted_true (j := 5) (d := 30) rfl (by kernel_rfl) e30) (by simp [e31, e32]) (Tryd.call24 _ _) ?_
                exact val_call_below (compare_any k1 n1 s1 k n s w)
              refine Owed.cons ?_ ?_
              · -- 9: slot 34 := Op.move (Operand.tmp 7)
                intro a w hR F
                have e30 : a.eval (.tmp 30) = .bool false := F.new 5 30 (by kernel_rfl)
                have e7 : a.eval (.tmp 7) = .int .i64 (cmpV k n s.data.toList k1 n1 s1.data.toList) := F.old 7 (by kernel_rfl)
                exact ok_move _ rfl (wanted_true (j := 5) (d := 30) rfl (by kernel_rfl) e30) ⟨Rb.refl _, e7⟩
              refine Owed.cons ?_ ?_
              · -- 10: slot 35 := Op.unOp UnOp.neg 3 (Operand.tmp 34)
                intro a w hR F
                have e30 : a.eval (.tmp 30) = .bool false := F.new 5 30 (by kernel_rfl)
                have e34 : a.eval (.tmp 34) = .int .i64 (cmpV k n s.data.toList k1 n1 s1.data.toList) := F.new 9 34 (by kernel_rfl)
                exact ok_neg _ _ _ (by have := cmp_bd k n s.data.toList k1 n1 s1.data.toList; omega) rfl (wanted_true (j := 5) (d := 30) rfl (by kernel_rfl) e30) e34 ⟨Rb.refl _, rfl⟩
              refine Owed.cons ?_ ?_
              · -- 11: slot 36 := Op.binOp BinOp.neq 3 (Operand.tmp 33) (Operand.tmp 35) 3
                intro a w hR F
                have e30 : a.eval (.tmp 30) = .bool false := F.new 5 30 (by kernel_rfl)
                have e33 : a.eval (.tmp 33) = .int .i64 (cmpV k1 n1 s1.data.toList k n s.data.toList) := F.new 8 33 (by kernel_rfl)
                have e35 : a.eval (.tmp 35) = .int .i64 (-(cmpV k n s.data.toList k1 n1 s1.data.toList)) := F.new 10 35 (by kernel_rfl)
                refine ok_bin _ _ _ _ _ rfl (wanted_true (j := 5) (d := 30) rfl (by kernel_rfl) e30) e33 e35 (run_neq_int _ _ _ _ _ _) ⟨Rb.refl _, ?_⟩
                exact congrArg Value.bool (by rw [cmp_anti]; simp)
              refine Owed.cons ?_ ?_
              · -- 12: slot 37 := Op.pick (Operand.tmp 30) (Operand.const (Value.bool true)) (Operand.tmp 36)
                intro a w hR F
                have e30 : a.eval (.tmp 30) = .bool false := F.new 5 30 (by kernel_rfl)
                have e36 : a.eval (.tmp 36) = .bool false := F.new 11 36 (by kernel_rfl)
                exact ok_pick _ _ _ false rfl (wanted_none rfl) e30 ⟨Rb.refl _, e36⟩
              refine Owed.cons ?_ ?_
              · -- 13: slot 38 := Op.move (Operand.tmp 37)
                intro a w hR F
                have e37 : a.eval (.tmp 37) = .bool false := F.new 12 37 (by kernel_rfl)
                exact ok_move _ rfl (wanted_none rfl) ⟨Rb.refl _, e37⟩
              refine Owed.cons ?_ ?_
              · -- 14: slot 39 := Op.move (Operand.tmp 7)
                intro a w hR F
                have e38 : a.eval (.tmp 38) = .bool false := F.new 13 38 (by kernel_rfl)
                have e7 : a.eval (.tmp 7) = .int .i64 (cmpV k n s.data.toList k1 n1 s1.data.toList) := F.old 7 (by kernel_rfl)
                exact ok_move _ rfl (wanted_true (j := 13) (d := 38) rfl (by kernel_rfl) e38) ⟨Rb.refl _, e7⟩
              refine Owed.cons ?_ ?_
              · -- 15: slot 40 := Op.binOp BinOp.eql 3 (Operand.tmp 39) (Operand.const (Value.int IntKind.i64 0)) 3
                intro a w hR F
                have e38 : a.eval (.tmp 38) = .bool false := F.new 13 38 (by kernel_rfl)
                have e39 : a.eval (.tmp 39) = .int .i64 (cmpV k n s.data.toList k1 n1 s1.data.toList) := F.new 14 39 (by kernel_rfl)
                exact ok_bin _ _ _ _ _ rfl (wanted_true (j := 13) (d := 38) rfl (by kernel_rfl) e38) e39 rfl (run_eql_int _ _ _ _ _ _) ⟨Rb.refl _, rfl⟩
              refine Owed.cons ?_ ?_
              · -- 16: slot 41 := Op.load 23 (Operand.tmp 3)
                intro a w hR F
                have e38 : a.eval (.tmp 38) = .bool false := F.new 13 38 (by kernel_rfl)
                have e3 : a.eval (.tmp 3) = .pointer (some ⟨w0.heap.size, 0, none⟩) := F.old 3 (by kernel_rfl)
                exact ok_load _ _ rfl (wanted_true (j := 13) (d := 38) rfl (by kernel_rfl) e38) e3 (HA.out.rb hR).load ⟨Rb.refl _, rfl⟩
              refine Owed.cons ?_ ?_
              · -- 17: slot 42 := Op.load 23 (Operand.tmp 4)
                intro a w hR F
                have e38 : a.eval (.tmp 38) = .bool false := F.new 13 38 (by kernel_rfl)
                have e4 : a.eval (.tmp 4) = .pointer (some ⟨w0.heap.size + 1, 0, none⟩) := F.old 4 (by kernel_rfl)
                exact ok_load _ _ rfl (wanted_true (j := 13) (d := 38) rfl (by kernel_rfl) e38) e4 (HC1.out.rb hR).load ⟨Rb.refl _, rfl⟩
              refine Owed.cons ?_ ?_
              · -- 18: slot 43 := Op.binOp BinOp.eql 23 (Operand.tmp 41) (Operand.tmp 42) 23
                intro a w hR F
                have e38 : a.eval (.tmp 38) = .bool false := F.new 13 38 (by kernel_rfl)
                have e41 : a.eval (.tmp 41) = vv (k) (n) (s) := F.new 16 41 (by kernel_rfl)
                have e42 : a.eval (.tmp 42) = vv (k1) (n1) (s1) := F.new 17 42 (by kernel_rfl)
                exact ok_bin _ _ _ _ _ rfl (wanted_true (j := 13) (d := 38) rfl (by kernel_rfl) e38) e41 e42 (run_eqlV _ _ _ _ _ _ _ _) ⟨Rb.refl _, rfl⟩
              refine Owed.cons ?_ ?_
              · -- 19: slot 44 := Op.binOp BinOp.neq 4 (Operand.tmp 40) (Operand.tmp 43) 4
                intro a w hR F
                have e38 : a.eval (.tmp 38) = .bool false := F.new 13 38 (by kernel_rfl)
                have e40 : a.eval (.tmp 40) = .bool ((cmpV k n s.data.toList k1 n1 s1.data.toList) == 0) := F.new 15 40 (by kernel_rfl)
                have e43 : a.eval (.tmp 43) = .bool (eqVB (k) (n) (s) (k1) (n1) (s1)) := F.new 18 43 (by kernel_rfl)
                refine ok_bin _ _ _ _ _ rfl (wanted_true (j := 13) (d := 38) rfl (by kernel_rfl) e38) e40 e43 (run_neq_boolB _ _ _ _ _ Tryd.underlying4) ⟨Rb.refl _, ?_⟩
                exact congrArg Value.bool (by rw [cmp_zero]; simp)
              refine Owed.cons ?_ ?_
              · -- 20: slot 45 := Op.pick (Operand.tmp 38) (Operand.const (Value.bool true)) (Operand.tmp 44)
                intro a w hR F
                have e38 : a.eval (.tmp 38) = .bool false := F.new 13 38 (by kernel_rfl)
                have e44 : a.eval (.tmp 44) = .bool false := F.new 19 44 (by kernel_rfl)
                exact ok_pick _ _ _ false rfl (wanted_none rfl) e38 ⟨Rb.refl _, e44⟩
              exact Owed.nil
            case fin =>
              intro y w hR hy
              have e20 : y 20 = .bool false := hy 20 _ rfl
              have HA := Lib.hid (HA.out.rb hR)
              have HC1 := Lib.hid (HC1.out.rb hR)
              have HC2 := Lib.hid (HC2.out.rb hR)
              have HB := Lib.hid (Rb.trans _ _ _ HB.out hR)
              clear hy hR
              simp only [putAll, Act.put, List.setIfInBounds_toArray, List.set_cons_zero, List.set_cons_succ]
              rw [e20]
              clear e20
              go_upto_region 6 with (fail)
              by_cases h1 : cmpV k n s.data.toList k1 n1 s1.data.toList > 0
              · have H1 := Lib.hid h1
                refine wp_region_plain_specs (R := Rb) (S := [Spec.eq (.int .i64 (cmpV k n s.data.toList k1 n1 s1.data.toList)), Spec.eq (.bool true), Spec.eq (.bool true), Spec.eq (undef), Spec.eq (undef), Spec.eq (undef), Spec.eq (undef), Spec.eq (.bool true), Spec.eq (.bool true), Spec.eq (undef), Spec.eq (undef), Spec.eq (undef), Spec.eq (undef), Spec.eq (.bool true), Spec.eq (.bool true), Spec.eq (.bool true), Spec.eq (.bool true), Spec.eq (.bool true)]) (n := 1) (size := 63) Rb.trans (Rb.refl _) rfl (by kernel_rfl) ?owed ?fin
                case owed =>
                  refine Owed.cons ?_ ?_
                  · -- 0: slot 46 := Op.move (Operand.tmp 7)
                    intro a w hR F
                    have e7 : a.eval (.tmp 7) = .int .i64 (cmpV k n s.data.toList k1 n1 s1.data.toList) := F.old 7 (by kernel_rfl)
                    exact ok_move _ rfl (wanted_none rfl) ⟨Rb.refl _, e7⟩
                  refine Owed.cons ?_ ?_
                  · -- 1: slot 47 := Op.binOp BinOp.gtr 3 (Operand.tmp 46) (Operand.const (Value.int IntKind.i64 0)) 3
                    intro a w hR F
                    have e46 : a.eval (.tmp 46) = .int .i64 (cmpV k n s.data.toList k1 n1 s1.data.toList) := F.new 0 46 (by kernel_rfl)
                    refine ok_bin _ _ _ _ _ rfl (wanted_none rfl) e46 rfl (run_gtr_int _ _ _ _ _ _) ⟨Rb.refl _, ?_⟩
                    exact congrArg Value.bool (decide_eq_true h1)
                  refine Owed.cons ?_ ?_
                  · -- 2: slot 48 := Op.move (Operand.tmp 47)
                    intro a w hR F
                    have e47 : a.eval (.tmp 47) = .bool true := F.new 1 47 (by kernel_rfl)
                    exact ok_move _ rfl (wanted_none rfl) ⟨Rb.refl _, e47⟩
                  refine Owed.cons ?_ ?_
                  · -- 3: slot 49 := Op.load 23 (Operand.tmp 4)
                    intro a w hR F
                    have e48 : a.eval (.tmp 48) = .bool true := F.new 2 48 (by kernel_rfl)
                    exact ok_skip (wanted_false (j := 2) (d := 48) rfl (by kernel_rfl) e48) ⟨Rb.refl _, rfl⟩
                  refine Owed.cons ?_ ?_
                  · -- 4: slot 50 := Op.load 23 (Operand.tmp 5)
                    intro a w hR F
                    have e48 : a.eval (.tmp 48) = .bool true := F.new 2 48 (by kernel_rfl)
                    exact ok_skip (wanted_false (j := 2) (d := 48) rfl (by kernel_rfl) e48) ⟨Rb.refl _, rfl⟩
                  refine Owed.cons ?_ ?_
                  · -- 5: slot 51 := Op.call { callee := Callee.value (Operand.func 24), args := #[Operand.tmp 49, Operand.tmp 50], argTy
                    intro a w hR F
                    have e48 : a.eval (.tmp 48) = .bool true := F.new 2 48 (by kernel_rfl)
                    exact ok_skip (wanted_false (j := 2) (d := 48) rfl (by kernel_rfl) e48) ⟨Rb.refl _, rfl⟩
                  refine Owed.cons ?_ ?_
                  · -- 6: slot 52 := Op.binOp BinOp.gtr 3 (Operand.tmp 51) (Operand.const (Value.int IntKind.i64 0)) 3
                    intro a w hR F
                    have e48 : a.eval (.tmp 48) = .bool true := F.new 2 48 (by kernel_rfl)
                    exact ok_skip (wanted_false (j := 2) (d := 48) rfl (by kernel_rfl) e48) ⟨Rb.refl _, rfl⟩
                  refine Owed.cons ?_ ?_
                  · -- 7: slot 53 := Op.pick (Operand.tmp 48) (Operand.const (Value.bool true)) (Operand.tmp 52)
                    intro a w hR F
                    have e48 : a.eval (.tmp 48) = .bool true := F.new 2 48 (by kernel_rfl)
                    exact ok_pick _ _ _ true rfl (wanted_none rfl) e48 ⟨Rb.refl _, rfl⟩
                  refine Owed.cons ?_ ?_
                  · -- 8: slot 54 := Op.move (Operand.tmp 53)
                    intro a w hR F
                    have e53 : a.eval (.tmp 53) = .bool true := F.new 7 53 (by kernel_rfl)
                    exact ok_move _ rfl (wanted_none rfl) ⟨Rb.refl _, e53⟩
                  refine Owed.cons ?_ ?_
                  · -- 9: slot 55 := Op.load 23 (Operand.tmp 3)
                    intro a w hR F
                    have e54 : a.eval (.tmp 54) = .bool true := F.new 8 54 (by kernel_rfl)
                    exact ok_skip (wanted_false (j := 8) (d := 54) rfl (by kernel_rfl) e54) ⟨Rb.refl _, rfl⟩
                  refine Owed.cons ?_ ?_
                  · -- 10: slot 56 := Op.load 23 (Operand.tmp 5)
                    intro a w hR F
                    have e54 : a.eval (.tmp 54) = .bool true := F.new 8 54 (by kernel_rfl)
                    exact ok_skip (wanted_false (j := 8) (d := 54) rfl (by kernel_rfl) e54) ⟨Rb.refl _, rfl⟩
                  refine Owed.cons ?_ ?_
                  · -- 11: slot 57 := Op.call { callee := Callee.value (Operand.func 24), args := #[Operand.tmp 55, Operand.tmp 56], argTy
                    intro a w hR F
                    have e54 : a.eval (.tmp 54) = .bool true := F.new 8 54 (by kernel_rfl)
                    exact ok_skip (wanted_false (j := 8) (d := 54) rfl (by kernel_rfl) e54) ⟨Rb.refl _, rfl⟩
                  refine Owed.cons ?_ ?_
                  · -- 12: slot 58 := Op.binOp BinOp.leq 3 (Operand.tmp 57) (Operand.const (Value.int IntKind.i64 0)) 3
                    intro a w hR F
                    have e54 : a.eval (.tmp 54) = .bool true := F.new 8 54 (by kernel_rfl)
                    exact ok_skip (wanted_false (j := 8) (d := 54) rfl (by kernel_rfl) e54) ⟨Rb.refl _, rfl⟩
                  refine Owed.cons ?_ ?_
                  · -- 13: slot 59 := Op.pick (Operand.tmp 54) (Operand.const (Value.bool true)) (Operand.tmp 58)
                    intro a w hR F
                    have e54 : a.eval (.tmp 54) = .bool true := F.new 8 54 (by kernel_rfl)
                    exact ok_pick _ _ _ true rfl (wanted_none rfl) e54 ⟨Rb.refl _, rfl⟩
                  refine Owed.cons ?_ ?_
                  · -- 14: slot 60 := Op.move (Operand.tmp 59)
                    intro a w hR F
                    have e59 : a.eval (.tmp 59) = .bool true := F.new 13 59 (by kernel_rfl)
                    exact ok_move _ rfl (wanted_none rfl) ⟨Rb.refl _, e59⟩
                  refine Owed.cons ?_ ?_
                  · -- 15: slot 61 := Op.call { callee := Callee.value (Operand.func 10), args := #[], argTypes := #[] }
                    intro a w hR F
                    have e60 : a.eval (.tmp 60) = .bool true := F.new 14 60 (by kernel_rfl)
                    refine ok_call 10 _ _ #[] rfl (wanted_true (j := 14) (d := 60) rfl (by kernel_rfl) e60) (by simp) (Tryd.call10 _ _) ?_
                    exact val_call_below (lives_any w (HT.out.rb (Rb.trans _ _ _ HB.out hR)))
                  refine Owed.cons ?_ ?_
                  · -- 16: slot 62 := Op.pick (Operand.tmp 60) (Operand.tmp 61) (Operand.const (Value.bool false))
                    intro a w hR F
                    have e60 : a.eval (.tmp 60) = .bool true := F.new 14 60 (by kernel_rfl)
                    have e61 : a.eval (.tmp 61) = .bool true := F.new 15 61 (by kernel_rfl)
                    exact ok_pick _ _ _ true rfl (wanted_none rfl) e60 ⟨Rb.refl _, e61⟩
                  refine Owed.cons ?_ ?_
                  · -- 17: slot 6 := Op.assign (Operand.tmp 62)
                    intro a w hR F
                    have e62 : a.eval (.tmp 62) = .bool true := F.new 16 62 (by kernel_rfl)
                    exact ok_assign _ rfl (wanted_none rfl) ⟨Rb.refl _, e62⟩
                  exact Owed.nil
                case fin =>
                  intro y w hR hy
                  have e17 : y 17 = .bool true := hy 17 _ rfl
                  have HB := Lib.hid (Rb.trans _ _ _ HB.out hR)
                  clear hy hR
                  simp only [putAll, Act.put, List.setIfInBounds_toArray, List.set_cons_zero, List.set_cons_succ]
                  rw [e17]
                  clear e17
                  go_wp2
                  go_ret
                  exact ⟨rfl, HB.out⟩
              · by_cases h2 : cmpV k1 n1 s1.data.toList k2 n2 s2.data.toList > 0
                · have H1 := Lib.hid h1
                  refine wp_region_plain_specs (R := Rb) (S := [Spec.eq (.int .i64 (cmpV k n s.data.toList k1 n1 s1.data.toList)), Spec.eq (.bool false), Spec.eq (.bool false), Spec.eq (vv (k1) (n1) (s1)), Spec.eq (vv (k2) (n2) (s2)), Spec.eq (.int .i64 (cmpV k1 n1 s1.data.toList k2 n2 s2.data.toList)), Spec.eq (.bool true), Spec.eq (.bool true), Spec.eq (.bool true), Spec.eq (undef), Spec.eq (undef), Spec.eq (undef), Spec.eq (undef), Spec.eq (.bool true), Spec.eq (.bool true), Spec.eq (.bool true), Spec.eq (.bool true), Spec.eq (.bool true)]) (n := 1) (size := 63) Rb.trans (Rb.refl _) rfl (by kernel_rfl) ?owed ?fin
                  case owed =>
                    refine Owed.cons ?_ ?_
                    · -- 0: slot 46 := Op.move (Operand.tmp 7)
                      intro a w hR F
                      have e7 : a.eval (.tmp 7) = .int .i64 (cmpV k n s.data.toList k1 n1 s1.data.toList) := F.old 7 (by kernel_rfl)
                      exact ok_move _ rfl (wanted_none rfl) ⟨Rb.refl _, e7⟩
                    refine Owed.cons ?_ ?_
                    · -- 1: slot 47 := Op.binOp BinOp.gtr 3 (Operand.tmp 46) (Operand.const (Value.int IntKind.i64 0)) 3
                      intro a w hR F
                      have e46 : a.eval (.tmp 46) = .int .i64 (cmpV k n s.data.toList k1 n1 s1.data.toList) := F.new 0 46 (by kernel_rfl)
                      refine ok_bin _ _ _ _ _ rfl (wanted_none rfl) e46 rfl (run_gtr_int _ _ _ _ _ _) ⟨Rb.refl _, ?_⟩
                      exact congrArg Value.bool (decide_eq_false h1)
                    refine Owed.cons ?_ ?_
                    · -- 2: slot 48 := Op.move (Operand.tmp 47)
                      intro a w hR F
                      have e47 : a.eval (.tmp 47) = .bool false := F.new 1 47 (by kernel_rfl)
                      exact ok_move _ rfl (wanted_none rfl) ⟨Rb.refl _, e47⟩
                    refine Owed.cons ?_ ?_
                    · -- 3: slot 49 := Op.load 23 (Operand.tmp 4)
                      intro a w hR F
                      have e48 : a.eval (.tmp 48) = .bool false := F.new 2 48 (by kernel_rfl)
                      have e4 : a.eval (.tmp 4) = .pointer (some ⟨w0.heap.size + 1, 0, none⟩) := F.old 4 (by kernel_rfl)
                      exact ok_load _ _ rfl (wanted_true (j := 2) (d := 48) rfl (by kernel_rfl) e48) e4 (HC1.out.rb hR).load ⟨Rb.refl _, rfl⟩
                    refine Owed.cons ?_ ?_
                    · -- 4: slot 50 := Op.load 23 (Operand.tmp 5)
                      intro a w hR F
                      have e48 : a.eval (.tmp 48) = .bool false := F.new 2 48 (by kernel_rfl)
                      have e5 : a.eval (.tmp 5) = .pointer (some ⟨w0.heap.size + 1 + 1, 0, none⟩) := F.old 5 (by kernel_rfl)
                      exact ok_load _ _ rfl (wanted_true (j := 2) (d := 48) rfl (by kernel_rfl) e48) e5 (HC2.out.rb hR).load ⟨Rb.refl _, rfl⟩
                    refine Owed.cons ?_ ?_
                    · -- 5: slot 51 := Op.call { callee := Callee.value (Operand.func 24), args := #[Operand.tmp 49, Operand.tmp 50], argTy
                      intro a w hR F
                      have e48 : a.eval (.tmp 48) = .bool false := F.new 2 48 (by kernel_rfl)
                      have e49 : a.eval (.tmp 49) = vv (k1) (n1) (s1) := F.new 3 49 (by kernel_rfl)
                      have e50 : a.eval (.tmp 50) = vv (k2) (n2) (s2) := F.new 4 50 (by kernel_rfl)
                      refine ok_call 24 _ _ #[vv (k1) (n1) (s1), vv (k2) (n2) (s2)] rfl (wanted_true (j := 2) (d := 48) rfl (by kernel_rfl) e48) (by simp [e49, e50]) (Tryd.call24 _ _) ?_
                      exact val_call_below (compare_any k1 n1 s1 k2 n2 s2 w)
                    refine Owed.cons ?_ ?_
                    · -- 6: slot 52 := Op.binOp BinOp.gtr 3 (Operand.tmp 51) (Operand.const (Value.int IntKind.i64 0)) 3
                      intro a w hR F
                      have e48 : a.eval (.tmp 48) = .bool false := F.new 2 48 (by kernel_rfl)
                      have e51 : a.eval (.tmp 51) = .int .i64 (cmpV k1 n1 s1.data.toList k2 n2 s2.data.toList) := F.new 5 51 (by kernel_rfl)
                      refine ok_bin _ _ _ _ _ rfl (wanted_true (j := 2) (d := 48) rfl (by kernel_rfl) e48) e51 rfl (run_gtr_int _ _ _ _ _ _) ⟨Rb.refl _, ?_⟩
                      exact congrArg Value.bool (decide_eq_true h2)
                    refine Owed.cons ?_ ?_
                    · -- 7: slot 53 := Op.pick (Operand.tmp 48) (Operand.const (Value.bool true)) (Operand.tmp 52)
                      intro a w hR F
                      have e48 : a.eval (.tmp 48) = .bool false := F.new 2 48 (by kernel_rfl)
                      have e52 : a.eval (.tmp 52) = .bool true := F.new 6 52 (by kernel_rfl)
                      exact ok_pick _ _ _ false rfl (wanted_none rfl) e48 ⟨Rb.refl _, e52⟩
                    refine Owed.cons ?_ ?_
                    · -- 8: slot 54 := Op.move (Operand.tmp 53)
                      intro a w hR F
                      have e53 : a.eval (.tmp 53) = .bool true := F.new 7 53 (by kernel_rfl)
                      exact ok_move _ rfl (wanted_none rfl) ⟨Rb.refl _, e53⟩
                    refine Owed.cons ?_ ?_
                    · -- 9: slot 55 := Op.load 23 (Operand.tmp 3)
                      intro a w hR F
                      have e54 : a.eval (.tmp 54) = .bool true := F.new 8 54 (by kernel_rfl)
                      exact ok_skip (wanted_false (j := 8) (d := 54) rfl (by kernel_rfl) e54) ⟨Rb.refl _, rfl⟩
                    refine Owed.cons ?_ ?_
                    · -- 10: slot 56 := Op.load 23 (Operand.tmp 5)
                      intro a w hR F
                      have e54 : a.eval (.tmp 54) = .bool true := F.new 8 54 (by kernel_rfl)
                      exact ok_skip (wanted_false (j := 8) (d := 54) rfl (by kernel_rfl) e54) ⟨Rb.refl _, rfl⟩
                    refine Owed.cons ?_ ?_
                    · -- 11: slot 57 := Op.call { callee := Callee.value (Operand.func 24), args := #[Operand.tmp 55, Operand.tmp 56], argTy
                      intro a w hR F
                      have e54 : a.eval (.tmp 54) = .bool true := F.new 8 54 (by kernel_rfl)
                      exact ok_skip (wanted_false (j := 8) (d := 54) rfl (by kernel_rfl) e54) ⟨Rb.refl _, rfl⟩
                    refine Owed.cons ?_ ?_
                    · -- 12: slot 58 := Op.binOp BinOp.leq 3 (Operand.tmp 57) (Operand.const (Value.int IntKind.i64 0)) 3
                      intro a w hR F
                      have e54 : a.eval (.tmp 54) = .bool true := F.new 8 54 (by kernel_rfl)
                      exact ok_skip (wanted_false (j := 8) (d := 54) rfl (by kernel_rfl) e54) ⟨Rb.refl _, rfl⟩
                    refine Owed.cons ?_ ?_
                    · -- 13: slot 59 := Op.pick (Operand.tmp 54) (Operand.const (Value.bool true)) (Operand.tmp 58)
                      intro a w hR F
                      have e54 : a.eval (.tmp 54) = .bool true := F.new 8 54 (by kernel_rfl)
                      exact ok_pick _ _ _ true rfl (wanted_none rfl) e54 ⟨Rb.refl _, rfl⟩
                    refine Owed.cons ?_ ?_
                    · -- 14: slot 60 := Op.move (Operand.tmp 59)
                      intro a w hR F
                      have e59 : a.eval (.tmp 59) = .bool true := F.new 13 59 (by kernel_rfl)
                      exact ok_move _ rfl (wanted_none rfl) ⟨Rb.refl _, e59⟩
                    refine Owed.cons ?_ ?_
                    · -- 15: slot 61 := Op.call { callee := Callee.value (Operand.func 10), args := #[], argTypes := #[] }
                      intro a w hR F
                      have e60 : a.eval (.tmp 60) = .bool true := F.new 14 60 (by kernel_rfl)
                      refine ok_call 10 _ _ #[] rfl (wanted_true (j := 14) (d := 60) rfl (by kernel_rfl) e60) (by simp) (Tryd.call10 _ _) ?_
                      exact val_call_below (lives_any w (HT.out.rb (Rb.trans _ _ _ HB.out hR)))
                    refine Owed.cons ?_ ?_
                    · -- 16: slot 62 := Op.pick (Operand.tmp 60) (Operand.tmp 61) (Operand.const (Value.bool false))
                      intro a w hR F
                      have e60 : a.eval (.tmp 60) = .bool true := F.new 14 60 (by kernel_rfl)
                      have e61 : a.eval (.tmp 61) = .bool true := F.new 15 61 (by kernel_rfl)
                      exact ok_pick _ _ _ true rfl (wanted_none rfl) e60 ⟨Rb.refl _, e61⟩
                    refine Owed.cons ?_ ?_
                    · -- 17: slot 6 := Op.assign (Operand.tmp 62)
                      intro a w hR F
                      have e62 : a.eval (.tmp 62) = .bool true := F.new 16 62 (by kernel_rfl)
                      exact ok_assign _ rfl (wanted_none rfl) ⟨Rb.refl _, e62⟩
                    exact Owed.nil
                  case fin =>
                    intro y w hR hy
                    have e17 : y 17 = .bool true := hy 17 _ rfl
                    have HB := Lib.hid (Rb.trans _ _ _ HB.out hR)
                    clear hy hR
                    simp only [putAll, Act.put, List.setIfInBounds_toArray, List.set_cons_zero, List.set_cons_succ]
                    rw [e17]
                    clear e17
                    go_wp2
                    go_ret
                    exact ⟨rfl, HB.out⟩
                · have H1 := Lib.hid h1
                  refine wp_region_plain_specs (R := Rb) (S := [Spec.eq (.int .i64 (cmpV k n s.data.toList k1 n1 s1.data.toList)), Spec.eq (.bool false), Spec.eq (.bool false), Spec.eq (vv (k1) (n1) (s1)), Spec.eq (vv (k2) (n2) (s2)), Spec.eq (.int .i64 (cmpV k1 n1 s1.data.toList k2 n2 s2.data.toList)), Spec.eq (.bool false), Spec.eq (.bool false), Spec.eq (.bool false), Spec.eq (vv (k) (n) (s)), Spec.eq (vv (k2) (n2) (s2)), Spec.eq (.int .i64 (cmpV k n s.data.toList k2 n2 s2.data.toList)), Spec.eq (.bool true), Spec.eq (.bool true), Spec.eq (.bool true), Spec.eq (.bool true), Spec.eq (.bool true), Spec.eq (.bool true)]) (n := 1) (size := 63) Rb.trans (Rb.refl _) rfl (by kernel_rfl) ?owed ?fin
                  case owed =>
                    refine Owed.cons ?_ ?_
                    · -- 0: slot 46 := Op.move (Operand.tmp 7)
                      intro a w hR F
                      have e7 : a.eval (.tmp 7) = .int .i64 (cmpV k n s.data.toList k1 n1 s1.data.toList) := F.old 7 (by kernel_rfl)
                      exact ok_move _ rfl (wanted_none rfl) ⟨Rb.refl _, e7⟩
                    refine Owed.cons ?_ ?_
                    · -- 1: slot 47 := Op.binOp BinOp.gtr 3 (Operand.tmp 46) (Operand.const (Value.int IntKind.i64 0)) 3
                      intro a w hR F
                      have e46 : a.eval (.tmp 46) = .int .i64 (cmpV k n s.data.toList k1 n1 s1.data.toList) := F.new 0 46 (by kernel_rfl)
                      refine ok_bin _ _ _ _ _ rfl (wanted_none rfl) e46 rfl (run_gtr_int _ _ _ _ _ _) ⟨Rb.refl _, ?_⟩
                      exact congrArg Value.bool (decide_eq_false h1)
                    refine Owed.cons ?_ ?_
                    · -- 2: slot 48 := Op.move (Operand.tmp 47)
                      intro a w hR F
                      have e47 : a.eval (.tmp 47) = .bool false := F.new 1 47 (by kernel_rfl)
                      exact ok_move _ rfl (wanted_none rfl) ⟨Rb.refl _, e47⟩
                    refine Owed.cons ?_ ?_
                    · -- 3: slot 49 := Op.load 23 (Operand.tmp 4)
                      intro a w hR F
                      have e48 : a.eval (.tmp 48) = .bool false := F.new 2 48 (by kernel_rfl)
                      have e4 : a.eval (.tmp 4) = .pointer (some ⟨w0.heap.size + 1, 0, none⟩) := F.old 4 (by kernel_rfl)
                      exact ok_load _ _ rfl (wanted_true (j := 2) (d := 48) rfl (by kernel_rfl) e48) e4 (HC1.out.rb hR).load ⟨Rb.refl _, rfl⟩
                    refine Owed.cons ?_ ?_
                    · -- 4: slot 50 := Op.load 23 (Operand.tmp 5)
                      intro a w hR F
                      have e48 : a.eval (.tmp 48) = .bool false := F.new 2 48 (by kernel_rfl)
                      have e5 : a.eval (.tmp 5) = .pointer (some ⟨w0.heap.size + 1 + 1, 0, none⟩) := F.old 5 (by kernel_rfl)
                      exact ok_load _ _ rfl (wanted_true (j := 2) (d := 48) rfl (by kernel_rfl) e48) e5 (HC2.out.rb hR).load ⟨Rb.refl _, rfl⟩
                    refine Owed.cons ?_ ?_
                    · -- 5: slot 51 := Op.call { callee := Callee.value (Operand.func 24), args := #[Operand.tmp 49, Operand.tmp 50], argTy
                      intro a w hR F
                      have e48 : a.eval (.tmp 48) = .bool false := F.new 2 48 (by kernel_rfl)
                      have e49 : a.eval (.tmp 49) = vv (k1) (n1) (s1) := F.new 3 49 (by kernel_rfl)
                      have e50 : a.eval (.tmp 50) = vv (k2) (n2) (s2) := F.new 4 50 (by kernel_rfl)
                      refine ok_call 24 _ _ #[vv (k1) (n1) (s1), vv (k2) (n2) (s2)] rfl (wanted_true (j := 2) (d := 48) rfl (by kernel_rfl) e48) (by simp [e49, e50]) (Tryd.call24 _ _) ?_
                      exact val_call_below (compare_any k1 n1 s1 k2 n2 s2 w)
                    refine Owed.cons ?_ ?_
                    · -- 6: slot 52 := Op.binOp BinOp.gtr 3 (Operand.tmp 51) (Operand.const (Value.int IntKind.i64 0)) 3
                      intro a w hR F
                      have e48 : a.eval (.tmp 48) = .bool false := F.new 2 48 (by kernel_rfl)
                      have e51 : a.eval (.tmp 51) = .int .i64 (cmpV k1 n1 s1.data.toList k2 n2 s2.data.toList) := F.new 5 51 (by kernel_rfl)
                      refine ok_bin _ _ _ _ _ rfl (wanted_true (j := 2) (d := 48) rfl (by kernel_rfl) e48) e51 rfl (run_gtr_int _ _ _ _ _ _) ⟨Rb.refl _, ?_⟩
                      exact congrArg Value.bool (decide_eq_false h2)
                    refine Owed.cons ?_ ?_
                    · -- 7: slot 53 := Op.pick (Operand.tmp 48) (Operand.const (Value.bool true)) (Operand.tmp 52)
                      intro a w hR F
                      have e48 : a.eval (.tmp 48) = .bool false := F.new 2 48 (by kernel_rfl)
                      have e52 : a.eval (.tmp 52) = .bool false := F.new 6 52 (by kernel_rfl)
                      exact ok_pick _ _ _ false rfl (wanted_none rfl) e48 ⟨Rb.refl _, e52⟩
                    refine Owed.cons ?_ ?_
                    · -- 8: slot 54 := Op.move (Operand.tmp 53)
                      intro a w hR F
                      have e53 : a.eval (.tmp 53) = .bool false := F.new 7 53 (by kernel_rfl)
                      exact ok_move _ rfl (wanted_none rfl) ⟨Rb.refl _, e53⟩
                    refine Owed.cons ?_ ?_
                    · -- 9: slot 55 := Op.load 23 (Operand.tmp 3)
                      intro a w hR F
                      have e54 : a.eval (.tmp 54) = .bool false := F.new 8 54 (by kernel_rfl)
                      have e3 : a.eval (.tmp 3) = .pointer (some ⟨w0.heap.size, 0, none⟩) := F.old 3 (by kernel_rfl)
                      exact ok_load _ _ rfl (wanted_true (j := 8) (d := 54) rfl (by kernel_rfl) e54) e3 (HA.out.rb hR).load ⟨Rb.refl _, rfl⟩
                    refine Owed.cons ?_ ?_
                    · -- 10: slot 56 := Op.load 23 (Operand.tmp 5)
                      intro a w hR F
                      have e54 : a.eval (.tmp 54) = .bool false := F.new 8 54 (by kernel_rfl)
                      have e5 : a.eval (.tmp 5) = .pointer (some ⟨w0.heap.size + 1 + 1, 0, none⟩) := F.old 5 (by kernel_rfl)
                      exact ok_load _ _ rfl (wanted_true (j := 8) (d := 54) rfl (by kernel_rfl) e54) e5 (HC2.out.rb hR).load ⟨Rb.refl _, rfl⟩
                    refine Owed.cons ?_ ?_
                    · -- 11: slot 57 := Op.call { callee := Callee.value (Operand.func 24), args := #[Operand.tmp 55, Operand.tmp 56], argTy
                      intro a w hR F
                      have e54 : a.eval (.tmp 54) = .bool false := F.new 8 54 (by kernel_rfl)
                      have e55 : a.eval (.tmp 55) = vv (k) (n) (s) := F.new 9 55 (by kernel_rfl)
                      have e56 : a.eval (.tmp 56) = vv (k2) (n2) (s2) := F.new 10 56 (by kernel_rfl)
                      refine ok_call 24 _ _ #[vv (k) (n) (s), vv (k2) (n2) (s2)] rfl (wanted_true (j := 8) (d := 54) rfl (by kernel_rfl) e54) (by simp [e55, e56]) (Tryd.call24 _ _) ?_
                      exact val_call_below (compare_any k n s k2 n2 s2 w)
                    refine Owed.cons ?_ ?_
                    · -- 12: slot 58 := Op.binOp BinOp.leq 3 (Operand.tmp 57) (Operand.const (Value.int IntKind.i64 0)) 3
                      intro a w hR F
                      have e54 : a.eval (.tmp 54) = .bool false := F.new 8 54 (by kernel_rfl)
                      have e57 : a.eval (.tmp 57) = .int .i64 (cmpV k n s.data.toList k2 n2 s2.data.toList) := F.new 11 57 (by kernel_rfl)
                      refine ok_bin _ _ _ _ _ rfl (wanted_true (j := 8) (d := 54) rfl (by kernel_rfl) e54) e57 rfl (run_leq_int _ _ _ _ _ _) ⟨Rb.refl _, ?_⟩
                      exact congrArg Value.bool (decide_eq_true (cmp_trans k n s.data.toList k1 n1 s1.data.toList k2 n2 s2.data.toList (by omega) (by omega)))
                    refine Owed.cons ?_ ?_
                    · -- 13: slot 59 := Op.pick (Operand.tmp 54) (Operand.const (Value.bool true)) (Operand.tmp 58)
                      intro a w hR F
                      have e54 : a.eval (.tmp 54) = .bool false := F.new 8 54 (by kernel_rfl)
                      have e58 : a.eval (.tmp 58) = .bool true := F.new 12 58 (by kernel_rfl)
                      exact ok_pick _ _ _ false rfl (wanted_none rfl) e54 ⟨Rb.refl _, e58⟩
                    refine Owed.cons ?_ ?_
                    · -- 14: slot 60 := Op.move (Operand.tmp 59)
                      intro a w hR F
                      have e59 : a.eval (.tmp 59) = .bool true := F.new 13 59 (by kernel_rfl)
                      exact ok_move _ rfl (wanted_none rfl) ⟨Rb.refl _, e59⟩
                    refine Owed.cons ?_ ?_
                    · -- 15: slot 61 := Op.call { callee := Callee.value (Operand.func 10), args := #[], argTypes := #[] }
                      intro a w hR F
                      have e60 : a.eval (.tmp 60) = .bool true := F.new 14 60 (by kernel_rfl)
                      refine ok_call 10 _ _ #[] rfl (wanted_true (j := 14) (d := 60) rfl (by kernel_rfl) e60) (by simp) (Tryd.call10 _ _) ?_
                      exact val_call_below (lives_any w (HT.out.rb (Rb.trans _ _ _ HB.out hR)))
                    refine Owed.cons ?_ ?_
                    · -- 16: slot 62 := Op.pick (Operand.tmp 60) (Operand.tmp 61) (Operand.const (Value.bool false))
                      intro a w hR F
                      have e60 : a.eval (.tmp 60) = .bool true := F.new 14 60 (by kernel_rfl)
                      have e61 : a.eval (.tmp 61) = .bool true := F.new 15 61 (by kernel_rfl)
                      exact ok_pick _ _ _ true rfl (wanted_none rfl) e60 ⟨Rb.refl _, e61⟩
                    refine Owed.cons ?_ ?_
                    · -- 17: slot 6 := Op.assign (Operand.tmp 62)
                      intro a w hR F
                      have e62 : a.eval (.tmp 62) = .bool true := F.new 16 62 (by kernel_rfl)
                      exact ok_assign _ rfl (wanted_none rfl) ⟨Rb.refl _, e62⟩
                    exact Owed.nil
                  case fin =>
                    intro y w hR hy
                    have e17 : y 17 = .bool true := hy 17 _ rfl
                    have HB := Lib.hid (Rb.trans _ _ _ HB.out hR)
                    clear hy hR
                    simp only [putAll, Act.put, List.setIfInBounds_toArray, List.set_cons_zero, List.set_cons_succ]
                    rw [e17]
                    clear e17
                    go_wp2
                    go_ret
                    exact ⟨rfl, HB.out⟩
      · go_enter Tryd.func4, Tryd.ntmps4
        go_upto_region 1 with (fail)
        refine wp_region_plain_specs (R := Rb) (S := [Spec.eq (vv (k) (n) (s)), Spec.eq (.bool true), Spec.eq (.bool false), Spec.eq (.bool false), Spec.eq (vv (k1) (n1) (s1)), Spec.eq (.bool true), Spec.eq (.bool false), Spec.eq (.bool false), Spec.eq (.bool false), Spec.eq (vv (k2) (n2) (s2)), Spec.eq (.bool false), Spec.eq (.bool true), Spec.eq (.bool true)]) (n := 1) (size := 63) Rb.trans (Rb.refl _) rfl (by kernel_rfl) ?owed ?fin
        case owed =>
          refine Owed.cons ?_ ?_
          · -- 0: slot 8 := Op.load 23 (Operand.tmp 3)
            intro a w hR F
            have e3 : a.eval (.tmp 3) = .pointer (some ⟨w0.heap.size, 0, none⟩) := F.old 3 (by kernel_rfl)
            exact ok_load _ _ rfl (wanted_none rfl) e3 (HA.out.rb hR).load ⟨Rb.refl _, rfl⟩
          refine Owed.cons ?_ ?_
          · -- 1: slot 9 := Op.call { callee := Callee.value (Operand.func 9), args := #[Operand.tmp 8], argTypes := #[23] }
            intro a w hR F
            have e8 : a.eval (.tmp 8) = vv (k) (n) (s) := F.new 0 8 (by kernel_rfl)
            refine ok_call 9 _ _ #[vv (k) (n) (s)] rfl (wanted_none rfl) (by simp [e8]) (Tryd.call9 _ _) ?_
            exact val_call_below (light_yes k n s w hs ha)
          refine Owed.cons ?_ ?_
          · -- 2: slot 10 := Op.unOp UnOp.not 4 (Operand.tmp 9)
            intro a w hR F
            have e9 : a.eval (.tmp 9) = .bool true := F.new 1 9 (by kernel_rfl)
            exact ok_not _ _ true rfl (wanted_none rfl) e9 ⟨Rb.refl _, rfl⟩
          refine Owed.cons ?_ ?_
          · -- 3: slot 11 := Op.move (Operand.tmp 10)
            intro a w hR F
            have e10 : a.eval (.tmp 10) = .bool false := F.new 2 10 (by kernel_rfl)
            exact ok_move _ rfl (wanted_none rfl) ⟨Rb.refl _, e10⟩
          refine Owed.cons ?_ ?_
          · -- 4: slot 12 := Op.load 23 (Operand.tmp 4)
            intro a w hR F
            have e11 : a.eval (.tmp 11) = .bool false := F.new 3 11 (by kernel_rfl)
            have e4 : a.eval (.tmp 4) = .pointer (some ⟨w0.heap.size + 1, 0, none⟩) := F.old 4 (by kernel_rfl)
            exact ok_load _ _ rfl (wanted_true (j := 3) (d := 11) rfl (by kernel_rfl) e11) e4 (HC1.out.rb hR).load ⟨Rb.refl _, rfl⟩
          refine Owed.cons ?_ ?_
          · -- 5: slot 13 := Op.call { callee := Callee.value (Operand.func 9), args := #[Operand.tmp 12], argTypes := #[23] }
            intro a w hR F
            have e11 : a.eval (.tmp 11) = .bool false := F.new 3 11 (by kernel_rfl)
            have e12 : a.eval (.tmp 12) = vv (k1) (n1) (s1) := F.new 4 12 (by kernel_rfl)
            refine ok_call 9 _ _ #[vv (k1) (n1) (s1)] rfl (wanted_true (j := 3) (d := 11) rfl (by kernel_rfl) e11) (by simp [e12]) (Tryd.call9 _ _) ?_
            exact val_call_below (light_yes k1 n1 s1 w hs1 hb)
          refine Owed.cons ?_ ?_
          · -- 6: slot 14 := Op.unOp UnOp.not 4 (Operand.tmp 13)
            intro a w hR F
            have e11 : a.eval (.tmp 11) = .bool false := F.new 3 11 (by kernel_rfl)
            have e13 : a.eval (.tmp 13) = .bool true := F.new 5 13 (by kernel_rfl)
            exact ok_not _ _ true rfl (wanted_true (j := 3) (d := 11) rfl (by kernel_rfl) e11) e13 ⟨Rb.refl _, rfl⟩
          refine Owed.cons ?_ ?_
          · -- 7: slot 15 := Op.pick (Operand.tmp 11) (Operand.const (Value.bool true)) (Operand.tmp 14)
            intro a w hR F
            have e11 : a.eval (.tmp 11) = .bool false := F.new 3 11 (by kernel_rfl)
            have e14 : a.eval (.tmp 14) = .bool false := F.new 6 14 (by kernel_rfl)
            exact ok_pick _ _ _ false rfl (wanted_none rfl) e11 ⟨Rb.refl _, e14⟩
          refine Owed.cons ?_ ?_
          · -- 8: slot 16 := Op.move (Operand.tmp 15)
            intro a w hR F
            have e15 : a.eval (.tmp 15) = .bool false := F.new 7 15 (by kernel_rfl)
            exact ok_move _ rfl (wanted_none rfl) ⟨Rb.refl _, e15⟩
          refine Owed.cons ?_ ?_
          · -- 9: slot 17 := Op.load 23 (Operand.tmp 5)
            intro a w hR F
            have e16 : a.eval (.tmp 16) = .bool false := F.new 8 16 (by kernel_rfl)
            have e5 : a.eval (.tmp 5) = .pointer (some ⟨w0.heap.size + 1 + 1, 0, none⟩) := F.old 5 (by kernel_rfl)
            exact ok_load _ _ rfl (wanted_true (j := 8) (d := 16) rfl (by kernel_rfl) e16) e5 (HC2.out.rb hR).load ⟨Rb.refl _, rfl⟩
          refine Owed.cons ?_ ?_
          · -- 10: slot 18 := Op.call { callee := Callee.value (Operand.func 9), args := #[Operand.tmp 17], argTypes := #[23] }
            intro a w hR F
            have e16 : a.eval (.tmp 16) = .bool false := F.new 8 16 (by kernel_rfl)
            have e17 : a.eval (.tmp 17) = vv (k2) (n2) (s2) := F.new 9 17 (by kernel_rfl)
            refine ok_call 9 _ _ #[vv (k2) (n2) (s2)] rfl (wanted_true (j := 8) (d := 16) rfl (by kernel_rfl) e16) (by simp [e17]) (Tryd.call9 _ _) ?_
            exact val_call_below (light_no k2 n2 s2 w hs2 hc)
          refine Owed.cons ?_ ?_
          · -- 11: slot 19 := Op.unOp UnOp.not 4 (Operand.tmp 18)
            intro a w hR F
            have e16 : a.eval (.tmp 16) = .bool false := F.new 8 16 (by kernel_rfl)
            have e18 : a.eval (.tmp 18) = .bool false := F.new 10 18 (by kernel_rfl)
            exact ok_not _ _ false rfl (wanted_true (j := 8) (d := 16) rfl (by kernel_rfl) e16) e18 ⟨Rb.refl _, rfl⟩
          refine Owed.cons ?_ ?_
          · -- 12: slot 20 := Op.pick (Operand.tmp 16) (Operand.const (Value.bool true)) (Operand.tmp 19)
            intro a w hR F
            have e16 : a.eval (.tmp 16) = .bool false := F.new 8 16 (by kernel_rfl)
            have e19 : a.eval (.tmp 19) = .bool true := F.new 11 19 (by kernel_rfl)
            exact ok_pick _ _ _ false rfl (wanted_none rfl) e16 ⟨Rb.refl _, e19⟩
          exact Owed.nil
        case fin =>
          intro y w hR hy
          have e12 : y 12 = .bool true := hy 12 _ rfl
          have HA := Lib.hid (HA.out.rb hR)
          have HC1 := Lib.hid (HC1.out.rb hR)
          have HC2 := Lib.hid (HC2.out.rb hR)
          have HB := Lib.hid (Rb.trans _ _ _ HB.out hR)
          clear hy hR
          simp only [putAll, Act.put, List.setIfInBounds_toArray, List.set_cons_zero, List.set_cons_succ]
          rw [e12]
          clear e12
          go_wp2_with fail
          refine (lives_any _ (HT.out.rb HB.out)).mono ?_
          rintro e w1 ⟨rfl, hb⟩
          have HB := Lib.hid (Rb.trans _ _ _ HB.out hb)
          clear hb
          go_wp2
          go_ret
          exact ⟨rfl, HB.out⟩
    · go_enter Tryd.func4, Tryd.ntmps4
      go_upto_region 1 with (fail)
      refine wp_region_plain_specs (R := Rb) (S := [Spec.eq (vv (k) (n) (s)), Spec.eq (.bool true), Spec.eq (.bool false), Spec.eq (.bool false), Spec.eq (vv (k1) (n1) (s1)), Spec.eq (.bool false), Spec.eq (.bool true), Spec.eq (.bool true), Spec.eq (.bool true), Spec.eq (undef), Spec.eq (undef), Spec.eq (undef), Spec.eq (.bool true)]) (n := 1) (size := 63) Rb.trans (Rb.refl _) rfl (by kernel_rfl) ?owed ?fin
      case owed =>
        refine Owed.cons ?_ ?_
        · -- 0: slot 8 := Op.load 23 (Operand.tmp 3)
          intro a w hR F
          have e3 : a.eval (.tmp 3) = .pointer (some ⟨w0.heap.size, 0, none⟩) := F.old 3 (by kernel_rfl)
          exact ok_load _ _ rfl (wanted_none rfl) e3 (HA.out.rb hR).load ⟨Rb.refl _, rfl⟩
        refine Owed.cons ?_ ?_
        · -- 1: slot 9 := Op.call { callee := Callee.value (Operand.func 9), args := #[Operand.tmp 8], argTypes := #[23] }
          intro a w hR F
          have e8 : a.eval (.tmp 8) = vv (k) (n) (s) := F.new 0 8 (by kernel_rfl)
          refine ok_call 9 _ _ #[vv (k) (n) (s)] rfl (wanted_none rfl) (by simp [e8]) (Tryd.call9 _ _) ?_
          exact val_call_below (light_yes k n s w hs ha)
        refine Owed.cons ?_ ?_
        · -- 2: slot 10 := Op.unOp UnOp.not 4 (Operand.tmp 9)
          intro a w hR F
          have e9 : a.eval (.tmp 9) = .bool true := F.new 1 9 (by kernel_rfl)
          exact ok_not _ _ true rfl (wanted_none rfl) e9 ⟨Rb.refl _, rfl⟩
        refine Owed.cons ?_ ?_
        · -- 3: slot 11 := Op.move (Operand.tmp 10)
          intro a w hR F
          have e10 : a.eval (.tmp 10) = .bool false := F.new 2 10 (by kernel_rfl)
          exact ok_move _ rfl (wanted_none rfl) ⟨Rb.refl _, e10⟩
        refine Owed.cons ?_ ?_
        · -- 4: slot 12 := Op.load 23 (Operand.tmp 4)
          intro a w hR F
          have e11 : a.eval (.tmp 11) = .bool false := F.new 3 11 (by kernel_rfl)
          have e4 : a.eval (.tmp 4) = .pointer (some ⟨w0.heap.size + 1, 0, none⟩) := F.old 4 (by kernel_rfl)
          exact ok_load _ _ rfl (wanted_true (j := 3) (d := 11) rfl (by kernel_rfl) e11) e4 (HC1.out.rb hR).load ⟨Rb.refl _, rfl⟩
        refine Owed.cons ?_ ?_
        · -- 5: slot 13 := Op.call { callee := Callee.value (Operand.func 9), args := #[Operand.tmp 12], argTypes := #[23] }
          intro a w hR F
          have e11 : a.eval (.tmp 11) = .bool false := F.new 3 11 (by kernel_rfl)
          have e12 : a.eval (.tmp 12) = vv (k1) (n1) (s1) := F.new 4 12 (by kernel_rfl)
          refine ok_call 9 _ _ #[vv (k1) (n1) (s1)] rfl (wanted_true (j := 3) (d := 11) rfl (by kernel_rfl) e11) (by simp [e12]) (Tryd.call9 _ _) ?_
          exact val_call_below (light_no k1 n1 s1 w hs1 hb)
        refine Owed.cons ?_ ?_
        · -- 6: slot 14 := Op.unOp UnOp.not 4 (Operand.tmp 13)
          intro a w hR F
          have e11 : a.eval (.tmp 11) = .bool false := F.new 3 11 (by kernel_rfl)
          have e13 : a.eval (.tmp 13) = .bool false := F.new 5 13 (by kernel_rfl)
          exact ok_not _ _ false rfl (wanted_true (j := 3) (d := 11) rfl (by kernel_rfl) e11) e13 ⟨Rb.refl _, rfl⟩
        refine Owed.cons ?_ ?_
        · -- 7: slot 15 := Op.pick (Operand.tmp 11) (Operand.const (Value.bool true)) (Operand.tmp 14)
          intro a w hR F
          have e11 : a.eval (.tmp 11) = .bool false := F.new 3 11 (by kernel_rfl)
          have e14 : a.eval (.tmp 14) = .bool true := F.new 6 14 (by kernel_rfl)
          exact ok_pick _ _ _ false rfl (wanted_none rfl) e11 ⟨Rb.refl _, e14⟩
        refine Owed.cons ?_ ?_
        · -- 8: slot 16 := Op.move (Operand.tmp 15)
          intro a w hR F
          have e15 : a.eval (.tmp 15) = .bool true := F.new 7 15 (by kernel_rfl)
          exact ok_move _ rfl (wanted_none rfl) ⟨Rb.refl _, e15⟩
        refine Owed.cons ?_ ?_
        · -- 9: slot 17 := Op.load 23 (Operand.tmp 5)
          intro a w hR F
          have e16 : a.eval (.tmp 16) = .bool true := F.new 8 16 (by kernel_rfl)
          exact ok_skip (wanted_false (j := 8) (d := 16) rfl (by kernel_rfl) e16) ⟨Rb.refl _, rfl⟩
        refine Owed.cons ?_ ?_
        · -- 10: slot 18 := Op.call { callee := Callee.value (Operand.func 9), args := #[Operand.tmp 17], argTypes := #[23] }
          intro a w hR F
          have e16 : a.eval (.tmp 16) = .bool true := F.new 8 16 (by kernel_rfl)
          exact ok_skip (wanted_false (j := 8) (d := 16) rfl (by kernel_rfl) e16) ⟨Rb.refl _, rfl⟩
        refine Owed.cons ?_ ?_
        · -- 11: slot 19 := Op.unOp UnOp.not 4 (Operand.tmp 18)
          intro a w hR F
          have e16 : a.eval (.tmp 16) = .bool true := F.new 8 16 (by kernel_rfl)
          exact ok_skip (wanted_false (j := 8) (d := 16) rfl (by kernel_rfl) e16) ⟨Rb.refl _, rfl⟩
        refine Owed.cons ?_ ?_
        · -- 12: slot 20 := Op.pick (Operand.tmp 16) (Operand.const (Value.bool true)) (Operand.tmp 19)
          intro a w hR F
          have e16 : a.eval (.tmp 16) = .bool true := F.new 8 16 (by kernel_rfl)
          exact ok_pick _ _ _ true rfl (wanted_none rfl) e16 ⟨Rb.refl _, rfl⟩
        exact Owed.nil
      case fin =>
        intro y w hR hy
        have e12 : y 12 = .bool true := hy 12 _ rfl
        have HA := Lib.hid (HA.out.rb hR)
        have HC1 := Lib.hid (HC1.out.rb hR)
        have HC2 := Lib.hid (HC2.out.rb hR)
        have HB := Lib.hid (Rb.trans _ _ _ HB.out hR)
        clear hy hR
        simp only [putAll, Act.put, List.setIfInBounds_toArray, List.set_cons_zero, List.set_cons_succ]
        rw [e12]
        clear e12
        go_wp2_with fail
        refine (lives_any _ (HT.out.rb HB.out)).mono ?_
        rintro e w1 ⟨rfl, hb⟩
        have HB := Lib.hid (Rb.trans _ _ _ HB.out hb)
        clear hb
        go_wp2
        go_ret
        exact ⟨rfl, HB.out⟩
  · go_enter Tryd.func4, Tryd.ntmps4
    go_upto_region 1 with (fail)
    refine wp_region_plain_specs (R := Rb) (S := [Spec.eq (vv (k) (n) (s)), Spec.eq (.bool false), Spec.eq (.bool true), Spec.eq (.bool true), Spec.eq (undef), Spec.eq (undef), Spec.eq (undef), Spec.eq (.bool true), Spec.eq (.bool true), Spec.eq (undef), Spec.eq (undef), Spec.eq (undef), Spec.eq (.bool true)]) (n := 1) (size := 63) Rb.trans (Rb.refl _) rfl (by kernel_rfl) ?owed ?fin
    case owed =>
      refine Owed.cons ?_ ?_
      · -- 0: slot 8 := Op.load 23 (Operand.tmp 3)
        intro a w hR F
        have e3 : a.eval (.tmp 3) = .pointer (some ⟨w0.heap.size, 0, none⟩) := F.old 3 (by kernel_rfl)
        exact ok_load _ _ rfl (wanted_none rfl) e3 (HA.out.rb hR).load ⟨Rb.refl _, rfl⟩
      refine Owed.cons ?_ ?_
      · -- 1: slot 9 := Op.call { callee := Callee.value (Operand.func 9), args := #[Operand.tmp 8], argTypes := #[23] }
        intro a w hR F
        have e8 : a.eval (.tmp 8) = vv (k) (n) (s) := F.new 0 8 (by kernel_rfl)
        refine ok_call 9 _ _ #[vv (k) (n) (s)] rfl (wanted_none rfl) (by simp [e8]) (Tryd.call9 _ _) ?_
        exact val_call_below (light_no k n s w hs ha)
      refine Owed.cons ?_ ?_
      · -- 2: slot 10 := Op.unOp UnOp.not 4 (Operand.tmp 9)
        intro a w hR F
        have e9 : a.eval (.tmp 9) = .bool false := F.new 1 9 (by kernel_rfl)
        exact ok_not _ _ false rfl (wanted_none rfl) e9 ⟨Rb.refl _, rfl⟩
      refine Owed.cons ?_ ?_
      · -- 3: slot 11 := Op.move (Operand.tmp 10)
        intro a w hR F
        have e10 : a.eval (.tmp 10) = .bool true := F.new 2 10 (by kernel_rfl)
        exact ok_move _ rfl (wanted_none rfl) ⟨Rb.refl _, e10⟩
      refine Owed.cons ?_ ?_
      · -- 4: slot 12 := Op.load 23 (Operand.tmp 4)
        intro a w hR F
        have e11 : a.eval (.tmp 11) = .bool true := F.new 3 11 (by kernel_rfl)
        exact ok_skip (wanted_false (j := 3) (d := 11) rfl (by kernel_rfl) e11) ⟨Rb.refl _, rfl⟩
      refine Owed.cons ?_ ?_
      · -- 5: slot 13 := Op.call { callee := Callee.value (Operand.func 9), args := #[Operand.tmp 12], argTypes := #[23] }
        intro a w hR F
        have e11 : a.eval (.tmp 11) = .bool true := F.new 3 11 (by kernel_rfl)
        exact ok_skip (wanted_false (j := 3) (d := 11) rfl (by kernel_rfl) e11) ⟨Rb.refl _, rfl⟩
      refine Owed.cons ?_ ?_
      · -- 6: slot 14 := Op.unOp UnOp.not 4 (Operand.tmp 13)
        intro a w hR F
        have e11 : a.eval (.tmp 11) = .bool true := F.new 3 11 (by kernel_rfl)
        exact ok_skip (wanted_false (j := 3) (d := 11) rfl (by kernel_rfl) e11) ⟨Rb.refl _, rfl⟩
      refine Owed.cons ?_ ?_
      · -- 7: slot 15 := Op.pick (Operand.tmp 11) (Operand.const (Value.bool true)) (Operand.tmp 14)
        intro a w hR F
        have e11 : a.eval (.tmp 11) = .bool true := F.new 3 11 (by kernel_rfl)
        exact ok_pick _ _ _ true rfl (wanted_none rfl) e11 ⟨Rb.refl _, rfl⟩
      refine Owed.cons ?_ ?_
      · -- 8: slot 16 := Op.move (Operand.tmp 15)
        intro a w hR F
        have e15 : a.eval (.tmp 15) = .bool true := F.new 7 15 (by kernel_rfl)
        exact ok_move _ rfl (wanted_none rfl) ⟨Rb.refl _, e15⟩
      refine Owed.cons ?_ ?_
      · -- 9: slot 17 := Op.load 23 (Operand.tmp 5)
        intro a w hR F
        have e16 : a.eval (.tmp 16) = .bool true := F.new 8 16 (by kernel_rfl)
        exact ok_skip (wanted_false (j := 8) (d := 16) rfl (by kernel_rfl) e16) ⟨Rb.refl _, rfl⟩
      refine Owed.cons ?_ ?_
      · -- 10: slot 18 := Op.call { callee := Callee.value (Operand.func 9), args := #[Operand.tmp 17], argTypes := #[23] }
        intro a w hR F
        have e16 : a.eval (.tmp 16) = .bool true := F.new 8 16 (by kernel_rfl)
        exact ok_skip (wanted_false (j := 8) (d := 16) rfl (by kernel_rfl) e16) ⟨Rb.refl _, rfl⟩
      refine Owed.cons ?_ ?_
      · -- 11: slot 19 := Op.unOp UnOp.not 4 (Operand.tmp 18)
        intro a w hR F
        have e16 : a.eval (.tmp 16) = .bool true := F.new 8 16 (by kernel_rfl)
        exact ok_skip (wanted_false (j := 8) (d := 16) rfl (by kernel_rfl) e16) ⟨Rb.refl _, rfl⟩
      refine Owed.cons ?_ ?_
      · -- 12: slot 20 := Op.pick (Operand.tmp 16) (Operand.const (Value.bool true)) (Operand.tmp 19)
        intro a w hR F
        have e16 : a.eval (.tmp 16) = .bool true := F.new 8 16 (by kernel_rfl)
        exact ok_pick _ _ _ true rfl (wanted_none rfl) e16 ⟨Rb.refl _, rfl⟩
      exact Owed.nil
    case fin =>
      intro y w hR hy
      have e12 : y 12 = .bool true := hy 12 _ rfl
      have HA := Lib.hid (HA.out.rb hR)
      have HC1 := Lib.hid (HC1.out.rb hR)
      have HC2 := Lib.hid (HC2.out.rb hR)
      have HB := Lib.hid (Rb.trans _ _ _ HB.out hR)
      clear hy hR
      simp only [putAll, Act.put, List.setIfInBounds_toArray, List.set_cons_zero, List.set_cons_succ]
      rw [e12]
      clear e12
      go_wp2_with fail
      refine (lives_any _ (HT.out.rb HB.out)).mono ?_
      rintro e w1 ⟨rfl, hb⟩
      have HB := Lib.hid (Rb.trans _ _ _ HB.out hb)
      clear hb
      go_wp2
      go_ret
      exact ⟨rfl, HB.out⟩
end Go.Proofs.YtefjfiihfbkjoaaDoor
