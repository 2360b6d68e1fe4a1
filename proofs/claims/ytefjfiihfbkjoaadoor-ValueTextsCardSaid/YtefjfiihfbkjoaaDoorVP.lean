import Derived.Test.YtefjfiihfbkjoaaDoorVO
namespace Go.Proofs.YtefjfiihfbkjoaaDoor
open Go.ChangeShapes Go.WideShapes Go.ChangeAt Go.RowKit Oct By Reg Val

theorem HeldT.at (w : World) (B : Nat) (k m : Int) (T : TypeId) (h : B = w.heap.size) : HeldT (w.alloc (.cells #[.int .i64 k, .int .i64 m] T)) B k m := by
  subst h; exact HeldT.new w k m T
theorem truth_eq (n : Int) : max 0 (min n 1) = (if decide (n > 0) = true then 1 else 0) := by
  by_cases h : n > 0
  · rw [decide_eq_true h, if_pos rfl]; omega
  · rw [decide_eq_false h, if_neg (by decide)]; omega
section
variable {ops : Array Oper} {o : Oper} {a : Act} {w : World} {T : World → Value → Prop}
theorem ok_min (x y : Operand) (n m : Int) (ho : o.op = .call { callee := .builtin .min, args := #[x, y], argTypes := #[2, 2] }) (hw : Region.wanted o (yielded ops a.tmps) = true) (hx : a.eval x = .int .i64 n) (hy : a.eval y = .int .i64 m) (h : T w (.int .i64 (min n m))) : okAt Tryd.prog ops o a w T := by
  refine ok_value (w' := w) (v := .int .i64 (min n m)) hw ?_ h
  simp only [execOp, ho, resolve, invoke, Sem.run_bind, Sem.run_pure, Result.andThen_ok, List.map_toArray, List.map_cons, List.map_nil, hx, hy]
  simp [go_sem]
theorem ok_max (x y : Operand) (n m : Int) (ho : o.op = .call { callee := .builtin .max, args := #[x, y], argTypes := #[2, 2] }) (hw : Region.wanted o (yielded ops a.tmps) = true) (hx : a.eval x = .int .i64 n) (hy : a.eval y = .int .i64 m) (h : T w (.int .i64 (max n m))) : okAt Tryd.prog ops o a w T := by
  refine ok_value (w' := w) (v := .int .i64 (max n m)) hw ?_ h
  simp only [execOp, ho, resolve, invoke, Sem.run_bind, Sem.run_pure, Result.andThen_ok, List.map_toArray, List.map_cons, List.map_nil, hx, hy]
  simp [go_sem]
end

set_option maxRecDepth 100000 in
theorem kinds_walk (k n : Int) (s : ByteArray) (t m : Int) (w0 : World) (hs : s.size ≤ maxLen) (htab : Tab w0) :
    Calls Tryd.prog 3 #[vv k n s, tv t m] w0 fun e w' => e = .returned (.bool true) ∧ Below w0.heap.size w0 w' := by
  have HT := Lib.hid htab; clear htab
  have HA := Lib.hid ((HeldV.at w0 w0.heap.size k n s 23 rfl).rb (show Rb _ ((w0.alloc (.cells #[.int .i64 k, .int .i64 n, .string s] 23)).alloc (.cells #[.int .i64 t, .int .i64 m] 25)) from (Below.refl _ _).alloc (Nat.le_refl _) _))
  have HC := Lib.hid (HeldT.at (w0.alloc (.cells #[.int .i64 k, .int .i64 n, .string s] 23)) (w0.heap.size + 1) t m 25 (by simp))
  have HB := Lib.hid (show Rb w0 ((w0.alloc (.cells #[.int .i64 k, .int .i64 n, .string s] 23)).alloc (.cells #[.int .i64 t, .int .i64 m] 25)) from ((Below.refl w0.heap.size w0).alloc (Nat.le_refl _) _).alloc (by simp) _)
  by_cases ha : s.size ≤ 100
  · go_enter Tryd.func3, Tryd.ntmps3
    go_upto_region 1 with (fail)
    refine wp_region_plain_specs (R := Rb) (S := [Spec.eq (vv (k) (n) (s)), Spec.eq (.bool true), Spec.eq (.bool false)]) (n := 1) (size := 77) Rb.trans (Rb.refl _) rfl (by kernel_rfl) ?owed ?fin
    case owed =>
      refine Owed.cons ?_ ?_
      · -- 0: slot 5 := Op.load 23 (Operand.tmp 2)
        intro a w hR F
        have e2 : a.eval (.tmp 2) = .pointer (some ⟨w0.heap.size, 0, none⟩) := F.old 2 (by kernel_rfl)
        exact ok_load _ _ rfl (wanted_none rfl) e2 (HA.out.rb hR).load ⟨Rb.refl _, rfl⟩
      refine Owed.cons ?_ ?_
      · -- 1: slot 6 := Op.call { callee := Callee.value (Operand.func 9), args := #[Operand.tmp 5], argTypes := #[23] }
        intro a w hR F
        have e5 : a.eval (.tmp 5) = vv (k) (n) (s) := F.new 0 5 (by kernel_rfl)
        refine ok_call 9 _ _ #[vv (k) (n) (s)] rfl (wanted_none rfl) (by simp [e5]) (Tryd.call9 _ _) ?_
        exact val_call_below (light_yes k n s w hs ha)
      refine Owed.cons ?_ ?_
      · -- 2: slot 7 := Op.unOp UnOp.not 4 (Operand.tmp 6)
        intro a w hR F
        have e6 : a.eval (.tmp 6) = .bool true := F.new 1 6 (by kernel_rfl)
        exact ok_not _ _ true rfl (wanted_none rfl) e6 ⟨Rb.refl _, rfl⟩
      exact Owed.nil
    case fin =>
      intro y w hR hy
      have e2 : y 2 = .bool false := hy 2 _ rfl
      have HA := Lib.hid (HA.out.rb hR)
      have HC := Lib.hid (HC.out.rb hR)
      have HB := Lib.hid (Rb.trans _ _ _ HB.out hR)
      clear hy hR
      simp only [putAll, Act.put, List.setIfInBounds_toArray, List.set_cons_zero, List.set_cons_succ]
      rw [e2]
      clear e2
      go_upto_region 3 with (fail)
      refine wp_region_specs (R := Rb) (S := [Spec.eq (vv (k) (n) (s)), Spec.eq (.bool (rightB k n s.data.toList)), Spec.eq (vv (k) (n) (s)), Spec.eq (.bool (rightB k n s.data.toList)), Spec.eq (.bool true), Spec.eq (.bool true), Spec.eq (tv (t) (m)), Spec.eq (.bool (rightTypeB t m)), Spec.eq (tv (t) (m)), Spec.eq (.bool (rightTypeB t m)), Spec.eq (.bool true), Spec.eq (.bool true), Spec.eq (.bool true), Spec.eq (tv (t) (m)), Spec.eq (vv ((if rightTypeB t m = true then t else 0)) (0) (⟨#[]⟩)), Spec.eq (tv (t) (m)), Spec.eq (vv ((if rightTypeB t m = true then t else 0)) (0) (⟨#[]⟩)), Spec.eq (.bool true), Spec.eq (.bool true), Spec.eq (.bool true), Spec.eq (vv (k) (n) (s)), Spec.eq (tv (t) (m)), Spec.eq (.bool (fitsB k n s.data.toList t m)), Spec.eq (vv (k) (n) (s)), Spec.eq (tv (t) (m)), Spec.eq (.bool (fitsB k n s.data.toList t m)), Spec.eq (.bool true), Spec.eq (.bool true), Spec.eq (.bool true), Spec.eq (tv (t) (m)), Spec.eq (strV (typeText t m)), Spec.eq (tv (t) (m)), Spec.eq (strV (typeText t m)), Spec.eq (.bool true), Spec.eq (.bool true), Spec.eq (.bool true), Spec.eq (.pointer (some ⟨w0.heap.size, 1, none⟩)), Spec.eq (.int .i64 (n)), Spec.eq (vv (1) (n) (⟨#[]⟩)), Spec.eq (.pointer (some ⟨w0.heap.size, 1, none⟩)), Spec.eq (.int .i64 (n)), Spec.eq (vv (1) (n) (⟨#[]⟩)), Spec.eq (.bool true), Spec.eq (.bool true), Spec.eq (.bool true), Spec.eq (.pointer (some ⟨w0.heap.size, 2, none⟩)), Spec.eq (.string (s)), Spec.eq (vv (3) (0) (s)), Spec.eq (.pointer (some ⟨w0.heap.size, 2, none⟩)), Spec.eq (.string (s)), Spec.eq (vv (3) (0) (s)), Spec.eq (.bool true), Spec.eq (.bool true), Spec.eq (.bool true), Spec.eq (.pointer (some ⟨w0.heap.size, 1, none⟩)), Spec.eq (.int .i64 (n)), Spec.eq (.bool (decide (n > 0))), Spec.eq (vv (2) ((if decide (n > 0) = true then 1 else 0)) (⟨#[]⟩)), Spec.eq (.pointer (some ⟨w0.heap.size, 1, none⟩)), Spec.eq (.int .i64 (n)), Spec.eq (.int .i64 (min n 1)), Spec.eq (.int .i64 ((if decide (n > 0) = true then 1 else 0))), Spec.eq (vv (2) ((if decide (n > 0) = true then 1 else 0)) (⟨#[]⟩)), Spec.eq (.bool true), Spec.eq (.bool true), Spec.eq (.bool true), Spec.eq (.bool true), Spec.eq (.bool true), Spec.eq (.bool true)]) (n := 1) (size := 77) (by kernel_rfl) Rb.trans (Rb.drew _) rfl (by kernel_rfl) ?owed ?fin
      case owed =>
        refine Owed.cons ?_ ?_
        · -- 0: slot 9 := Op.load 23 (Operand.tmp 2)
          intro a w hR F
          have e2 : a.eval (.tmp 2) = .pointer (some ⟨w0.heap.size, 0, none⟩) := F.old 2 (by kernel_rfl)
          exact ok_load _ _ rfl (wanted_none rfl) e2 (HA.out.rb hR).load ⟨Rb.refl _, rfl⟩
        refine Owed.cons ?_ ?_
        · -- 1: slot 10 := Op.call { callee := Callee.value (Operand.func 11), args := #[Operand.tmp 9], argTypes := #[23] }
          intro a w hR F
          have e9 : a.eval (.tmp 9) = vv (k) (n) (s) := F.new 0 9 (by kernel_rfl)
          refine ok_call 11 _ _ #[vv (k) (n) (s)] rfl (wanted_none rfl) (by simp [e9]) (Tryd.call11 _ _) ?_
          exact val_call_below (right_any k n s w hs)
        refine Owed.cons ?_ ?_
        · -- 2: slot 11 := Op.load 23 (Operand.tmp 2)
          intro a w hR F
          have e2 : a.eval (.tmp 2) = .pointer (some ⟨w0.heap.size, 0, none⟩) := F.old 2 (by kernel_rfl)
          exact ok_load _ _ rfl (wanted_none rfl) e2 (HA.out.rb hR).load ⟨Rb.refl _, rfl⟩
        refine Owed.cons ?_ ?_
        · -- 3: slot 12 := Op.call { callee := Callee.value (Operand.func 12), args := #[Operand.tmp 11], argTypes := #[23] }
          intro a w hR F
          have e11 : a.eval (.tmp 11) = vv (k) (n) (s) := F.new 2 11 (by kernel_rfl)
          refine ok_call 12 _ _ #[vv (k) (n) (s)] rfl (wanted_none rfl) (by simp [e11]) (Tryd.call12 _ _) ?_
          exact val_call_below (refright_any k n s w hs)
        refine Owed.cons ?_ ?_
        · -- 4: slot 13 := Op.binOp BinOp.eql 4 (Operand.tmp 10) (Operand.tmp 12) 4
          intro a w hR F
          have e10 : a.eval (.tmp 10) = .bool (rightB k n s.data.toList) := F.new 1 10 (by kernel_rfl)
          have e12 : a.eval (.tmp 12) = .bool (rightB k n s.data.toList) := F.new 3 12 (by kernel_rfl)
          refine ok_bin _ _ _ _ _ rfl (wanted_none rfl) e10 e12 (run_eql_boolB _ _ _ _ _ Tryd.underlying4) ⟨Rb.refl _, ?_⟩
          exact congrArg Value.bool (by simp)
        refine Owed.cons ?_ ?_
        · -- 5: slot 14 := Op.move (Operand.tmp 13)
          intro a w hR F
          have e13 : a.eval (.tmp 13) = .bool true := F.new 4 13 (by kernel_rfl)
          exact ok_move _ rfl (wanted_none rfl) ⟨Rb.refl _, e13⟩
        refine Owed.cons ?_ ?_
        · -- 6: slot 15 := Op.load 25 (Operand.tmp 3)
          intro a w hR F
          have e14 : a.eval (.tmp 14) = .bool true := F.new 5 14 (by kernel_rfl)
          have e3 : a.eval (.tmp 3) = .pointer (some ⟨w0.heap.size + 1, 0, none⟩) := F.old 3 (by kernel_rfl)
          exact ok_load _ _ rfl (wanted_true (j := 5) (d := 14) rfl (by kernel_rfl) e14) e3 (HC.out.rb hR).load ⟨Rb.refl _, rfl⟩
        refine Owed.cons ?_ ?_
        · -- 7: slot 16 := Op.call { callee := Callee.value (Operand.func 13), args := #[Operand.tmp 15], argTypes := #[25] }
          intro a w hR F
          have e14 : a.eval (.tmp 14) = .bool true := F.new 5 14 (by kernel_rfl)
          have e15 : a.eval (.tmp 15) = tv (t) (m) := F.new 6 15 (by kernel_rfl)
          refine ok_call 13 _ _ #[tv (t) (m)] rfl (wanted_true (j := 5) (d := 14) rfl (by kernel_rfl) e14) (by simp [e15]) (Tryd.call13 _ _) ?_
          exact val_call_below (righttype_any t m w)
        refine Owed.cons ?_ ?_
        · -- 8: slot 17 := Op.load 25 (Operand.tmp 3)
          intro a w hR F
          have e14 : a.eval (.tmp 14) = .bool true := F.new 5 14 (by kernel_rfl)
          have e3 : a.eval (.tmp 3) = .pointer (some ⟨w0.heap.size + 1, 0, none⟩) := F.old 3 (by kernel_rfl)
          exact ok_load _ _ rfl (wanted_true (j := 5) (d := 14) rfl (by kernel_rfl) e14) e3 (HC.out.rb hR).load ⟨Rb.refl _, rfl⟩
        refine Owed.cons ?_ ?_
        · -- 9: slot 18 := Op.call { callee := Callee.value (Operand.func 14), args := #[Operand.tmp 17], argTypes := #[25] }
          intro a w hR F
          have e14 : a.eval (.tmp 14) = .bool true := F.new 5 14 (by kernel_rfl)
          have e17 : a.eval (.tmp 17) = tv (t) (m) := F.new 8 17 (by kernel_rfl)
          refine ok_call 14 _ _ #[tv (t) (m)] rfl (wanted_true (j := 5) (d := 14) rfl (by kernel_rfl) e14) (by simp [e17]) (Tryd.call14 _ _) ?_
          exact val_call_below (refrighttype_any t m w)
        refine Owed.cons ?_ ?_
        · -- 10: slot 19 := Op.binOp BinOp.eql 4 (Operand.tmp 16) (Operand.tmp 18) 4
          intro a w hR F
          have e14 : a.eval (.tmp 14) = .bool true := F.new 5 14 (by kernel_rfl)
          have e16 : a.eval (.tmp 16) = .bool (rightTypeB t m) := F.new 7 16 (by kernel_rfl)
          have e18 : a.eval (.tmp 18) = .bool (rightTypeB t m) := F.new 9 18 (by kernel_rfl)
          refine ok_bin _ _ _ _ _ rfl (wanted_true (j := 5) (d := 14) rfl (by kernel_rfl) e14) e16 e18 (run_eql_boolB _ _ _ _ _ Tryd.underlying4) ⟨Rb.refl _, ?_⟩
          exact congrArg Value.bool (by simp)
        refine Owed.cons ?_ ?_
        · -- 11: slot 20 := Op.pick (Operand.tmp 14) (Operand.tmp 19) (Operand.const (Value.bool false))
          intro a w hR F
          have e14 : a.eval (.tmp 14) = .bool true := F.new 5 14 (by kernel_rfl)
          have e19 : a.eval (.tmp 19) = .bool true := F.new 10 19 (by kernel_rfl)
          exact ok_pick _ _ _ true rfl (wanted_none rfl) e14 ⟨Rb.refl _, e19⟩
        refine Owed.cons ?_ ?_
        · -- 12: slot 21 := Op.move (Operand.tmp 20)
          intro a w hR F
          have e20 : a.eval (.tmp 20) = .bool true := F.new 11 20 (by kernel_rfl)
          exact ok_move _ rfl (wanted_none rfl) ⟨Rb.refl _, e20⟩
        refine Owed.cons ?_ ?_
        · -- 13: slot 22 := Op.load 25 (Operand.tmp 3)
          intro a w hR F
          have e21 : a.eval (.tmp 21) = .bool true := F.new 12 21 (by kernel_rfl)
          have e3 : a.eval (.tmp 3) = .pointer (some ⟨w0.heap.size + 1, 0, none⟩) := F.old 3 (by kernel_rfl)
          exact ok_load _ _ rfl (wanted_true (j := 12) (d := 21) rfl (by kernel_rfl) e21) e3 (HC.out.rb hR).load ⟨Rb.refl _, rfl⟩
        refine Owed.cons ?_ ?_
        · -- 14: slot 23 := Op.call { callee := Callee.value (Operand.func 15), args := #[Operand.tmp 22], argTypes := #[25] }
          intro a w hR F
          have e21 : a.eval (.tmp 21) = .bool true := F.new 12 21 (by kernel_rfl)
          have e22 : a.eval (.tmp 22) = tv (t) (m) := F.new 13 22 (by kernel_rfl)
          refine ok_call 15 _ _ #[tv (t) (m)] rfl (wanted_true (j := 12) (d := 21) rfl (by kernel_rfl) e21) (by simp [e22]) (Tryd.call15 _ _) ?_
          exact val_call_below (zero_any t m w)
        refine Owed.cons ?_ ?_
        · -- 15: slot 24 := Op.load 25 (Operand.tmp 3)
          intro a w hR F
          have e21 : a.eval (.tmp 21) = .bool true := F.new 12 21 (by kernel_rfl)
          have e3 : a.eval (.tmp 3) = .pointer (some ⟨w0.heap.size + 1, 0, none⟩) := F.old 3 (by kernel_rfl)
          exact ok_load _ _ rfl (wanted_true (j := 12) (d := 21) rfl (by kernel_rfl) e21) e3 (HC.out.rb hR).load ⟨Rb.refl _, rfl⟩
        refine Owed.cons ?_ ?_
        · -- 16: slot 25 := Op.call { callee := Callee.value (Operand.func 16), args := #[Operand.tmp 24], argTypes := #[25] }
          intro a w hR F
          have e21 : a.eval (.tmp 21) = .bool true := F.new 12 21 (by kernel_rfl)
          have e24 : a.eval (.tmp 24) = tv (t) (m) := F.new 15 24 (by kernel_rfl)
          refine ok_call 16 _ _ #[tv (t) (m)] rfl (wanted_true (j := 12) (d := 21) rfl (by kernel_rfl) e21) (by simp [e24]) (Tryd.call16 _ _) ?_
          exact val_call_below (refzero_any t m w)
        refine Owed.cons ?_ ?_
        · -- 17: slot 26 := Op.binOp BinOp.eql 23 (Operand.tmp 23) (Operand.tmp 25) 23
          intro a w hR F
          have e21 : a.eval (.tmp 21) = .bool true := F.new 12 21 (by kernel_rfl)
          have e23 : a.eval (.tmp 23) = vv ((if rightTypeB t m = true then t else 0)) (0) (⟨#[]⟩) := F.new 14 23 (by kernel_rfl)
          have e25 : a.eval (.tmp 25) = vv ((if rightTypeB t m = true then t else 0)) (0) (⟨#[]⟩) := F.new 16 25 (by kernel_rfl)
          refine ok_bin _ _ _ _ _ rfl (wanted_true (j := 12) (d := 21) rfl (by kernel_rfl) e21) e23 e25 (run_eqlV _ _ _ _ _ _ _ _) ⟨Rb.refl _, ?_⟩
          exact congrArg Value.bool (by unfold eqVB; simp)
        refine Owed.cons ?_ ?_
        · -- 18: slot 27 := Op.pick (Operand.tmp 21) (Operand.tmp 26) (Operand.const (Value.bool false))
          intro a w hR F
          have e21 : a.eval (.tmp 21) = .bool true := F.new 12 21 (by kernel_rfl)
          have e26 : a.eval (.tmp 26) = .bool true := F.new 17 26 (by kernel_rfl)
          exact ok_pick _ _ _ true rfl (wanted_none rfl) e21 ⟨Rb.refl _, e26⟩
        refine Owed.cons ?_ ?_
        · -- 19: slot 28 := Op.move (Operand.tmp 27)
          intro a w hR F
          have e27 : a.eval (.tmp 27) = .bool true := F.new 18 27 (by kernel_rfl)
          exact ok_move _ rfl (wanted_none rfl) ⟨Rb.refl _, e27⟩
        refine Owed.cons ?_ ?_
        · -- 20: slot 29 := Op.load 23 (Operand.tmp 2)
          intro a w hR F
          have e28 : a.eval (.tmp 28) = .bool true := F.new 19 28 (by kernel_rfl)
          have e2 : a.eval (.tmp 2) = .pointer (some ⟨w0.heap.size, 0, none⟩) := F.old 2 (by kernel_rfl)
          exact ok_load _ _ rfl (wanted_true (j := 19) (d := 28) rfl (by kernel_rfl) e28) e2 (HA.out.rb hR).load ⟨Rb.refl _, rfl⟩
        refine Owed.cons ?_ ?_
        · -- 21: slot 30 := Op.load 25 (Operand.tmp 3)
          intro a w hR F
          have e28 : a.eval (.tmp 28) = .bool true := F.new 19 28 (by kernel_rfl)
          have e3 : a.eval (.tmp 3) = .pointer (some ⟨w0.heap.size + 1, 0, none⟩) := F.old 3 (by kernel_rfl)
          exact ok_load _ _ rfl (wanted_true (j := 19) (d := 28) rfl (by kernel_rfl) e28) e3 (HC.out.rb hR).load ⟨Rb.refl _, rfl⟩
        refine Owed.cons ?_ ?_
        · -- 22: slot 31 := Op.call { callee := Callee.value (Operand.func 17), args := #[Operand.tmp 29, Operand.tmp 30], argTy
          intro a w hR F
          have e28 : a.eval (.tmp 28) = .bool true := F.new 19 28 (by kernel_rfl)
          have e29 : a.eval (.tmp 29) = vv (k) (n) (s) := F.new 20 29 (by kernel_rfl)
          have e30 : a.eval (.tmp 30) = tv (t) (m) := F.new 21 30 (by kernel_rfl)
          refine ok_call 17 _ _ #[vv (k) (n) (s), tv (t) (m)] rfl (wanted_true (j := 19) (d := 28) rfl (by kernel_rfl) e28) (by simp [e29, e30]) (Tryd.call17 _ _) ?_
          exact val_call_below (fits_any k n s t m w hs)
        refine Owed.cons ?_ ?_
        · -- 23: slot 32 := Op.load 23 (Operand.tmp 2)
          intro a w hR F
          have e28 : a.eval (.tmp 28) = .bool true := F.new 19 28 (by kernel_rfl)
          have e2 : a.eval (.tmp 2) = .pointer (some ⟨w0.heap.size, 0, none⟩) := F.old 2 (by kernel_rfl)
          exact ok_load _ _ rfl (wanted_true (j := 19) (d := 28) rfl (by kernel_rfl) e28) e2 (HA.out.rb hR).load ⟨Rb.refl _, rfl⟩
        refine Owed.cons ?_ ?_
        · -- 24: slot 33 := Op.load 25 (Operand.tmp 3)
          intro a w hR F
          have e28 : a.eval (.tmp 28) = .bool true := F.new 19 28 (by kernel_rfl)
          have e3 : a.eval (.tmp 3) = .pointer (some ⟨w0.heap.size + 1, 0, none⟩) := F.old 3 (by kernel_rfl)
          exact ok_load _ _ rfl (wanted_true (j := 19) (d := 28) rfl (by kernel_rfl) e28) e3 (HC.out.rb hR).load ⟨Rb.refl _, rfl⟩
        refine Owed.cons ?_ ?_
        · -- 25: slot 34 := Op.call { callee := Callee.value (Operand.func 18), args := #[Operand.tmp 32, Operand.tmp 33], argTy
          intro a w hR F
          have e28 : a.eval (.tmp 28) = .bool true := F.new 19 28 (by kernel_rfl)
          have e32 : a.eval (.tmp 32) = vv (k) (n) (s) := F.new 23 32 (by kernel_rfl)
          have e33 : a.eval (.tmp 33) = tv (t) (m) := F.new 24 33 (by kernel_rfl)
          refine ok_call 18 _ _ #[vv (k) (n) (s), tv (t) (m)] rfl (wanted_true (j := 19) (d := 28) rfl (by kernel_rfl) e28) (by simp [e32, e33]) (Tryd.call18 _ _) ?_
          exact val_call_below (reffits_any k n s t m w hs)
        refine Owed.cons ?_ ?_
        · -- 26: slot 35 := Op.binOp BinOp.eql 4 (Operand.tmp 31) (Operand.tmp 34) 4
          intro a w hR F
          have e28 : a.eval (.tmp 28) = .bool true := F.new 19 28 (by kernel_rfl)
          have e31 : a.eval (.tmp 31) = .bool (fitsB k n s.data.toList t m) := F.new 22 31 (by kernel_rfl)
          have e34 : a.eval (.tmp 34) = .bool (fitsB k n s.data.toList t m) := F.new 25 34 (by kernel_rfl)
          refine ok_bin _ _ _ _ _ rfl (wanted_true (j := 19) (d := 28) rfl (by kernel_rfl) e28) e31 e34 (run_eql_boolB _ _ _ _ _ Tryd.underlying4) ⟨Rb.refl _, ?_⟩
          exact congrArg Value.bool (by simp)
        refine Owed.cons ?_ ?_
        · -- 27: slot 36 := Op.pick (Operand.tmp 28) (Operand.tmp 35) (Operand.const (Value.bool false))
          intro a w hR F
          have e28 : a.eval (.tmp 28) = .bool true := F.new 19 28 (by kernel_rfl)
          have e35 : a.eval (.tmp 35) = .bool true := F.new 26 35 (by kernel_rfl)
          exact ok_pick _ _ _ true rfl (wanted_none rfl) e28 ⟨Rb.refl _, e35⟩
        refine Owed.cons ?_ ?_
        · -- 28: slot 37 := Op.move (Operand.tmp 36)
          intro a w hR F
          have e36 : a.eval (.tmp 36) = .bool true := F.new 27 36 (by kernel_rfl)
          exact ok_move _ rfl (wanted_none rfl) ⟨Rb.refl _, e36⟩
        refine Owed.cons ?_ ?_
        · -- 29: slot 38 := Op.load 25 (Operand.tmp 3)
          intro a w hR F
          have e37 : a.eval (.tmp 37) = .bool true := F.new 28 37 (by kernel_rfl)
          have e3 : a.eval (.tmp 3) = .pointer (some ⟨w0.heap.size + 1, 0, none⟩) := F.old 3 (by kernel_rfl)
          exact ok_load _ _ rfl (wanted_true (j := 28) (d := 37) rfl (by kernel_rfl) e37) e3 (HC.out.rb hR).load ⟨Rb.refl _, rfl⟩
        refine Owed.cons ?_ ?_
        · -- 30: slot 39 := Op.call { callee := Callee.value (Operand.func 19), args := #[Operand.tmp 38], argTypes := #[25] }
          intro a w hR F
          have e37 : a.eval (.tmp 37) = .bool true := F.new 28 37 (by kernel_rfl)
          have e38 : a.eval (.tmp 38) = tv (t) (m) := F.new 29 38 (by kernel_rfl)
          refine ok_call 19 _ _ #[tv (t) (m)] rfl (wanted_true (j := 28) (d := 37) rfl (by kernel_rfl) e37) (by simp [e38]) (Tryd.call19 _ _) ?_
          exact val_call_below (printtype_any t m w)
        refine Owed.cons ?_ ?_
        · -- 31: slot 40 := Op.load 25 (Operand.tmp 3)
          intro a w hR F
          have e37 : a.eval (.tmp 37) = .bool true := F.new 28 37 (by kernel_rfl)
          have e3 : a.eval (.tmp 3) = .pointer (some ⟨w0.heap.size + 1, 0, none⟩) := F.old 3 (by kernel_rfl)
          exact ok_load _ _ rfl (wanted_true (j := 28) (d := 37) rfl (by kernel_rfl) e37) e3 (HC.out.rb hR).load ⟨Rb.refl _, rfl⟩
        refine Owed.cons ?_ ?_
        · -- 32: slot 41 := Op.call { callee := Callee.value (Operand.func 20), args := #[Operand.tmp 40], argTypes := #[25] }
          intro a w hR F
          have e37 : a.eval (.tmp 37) = .bool true := F.new 28 37 (by kernel_rfl)
          have e40 : a.eval (.tmp 40) = tv (t) (m) := F.new 31 40 (by kernel_rfl)
          refine ok_call 20 _ _ #[tv (t) (m)] rfl (wanted_true (j := 28) (d := 37) rfl (by kernel_rfl) e37) (by simp [e40]) (Tryd.call20 _ _) ?_
          exact val_call_below (refprinttype_any t m w)
        refine Owed.cons ?_ ?_
        · -- 33: slot 42 := Op.binOp BinOp.eql 9 (Operand.tmp 39) (Operand.tmp 41) 9
          intro a w hR F
          have e37 : a.eval (.tmp 37) = .bool true := F.new 28 37 (by kernel_rfl)
          have e39 : a.eval (.tmp 39) = strV (typeText t m) := F.new 30 39 (by kernel_rfl)
          have e41 : a.eval (.tmp 41) = strV (typeText t m) := F.new 32 41 (by kernel_rfl)
          refine ok_bin _ _ _ _ _ rfl (wanted_true (j := 28) (d := 37) rfl (by kernel_rfl) e37) e39 e41 (run_eql_strV _ _ _ _ _) ⟨Rb.refl _, ?_⟩
          exact congrArg Value.bool (by simp)
        refine Owed.cons ?_ ?_
        · -- 34: slot 43 := Op.pick (Operand.tmp 37) (Operand.tmp 42) (Operand.const (Value.bool false))
          intro a w hR F
          have e37 : a.eval (.tmp 37) = .bool true := F.new 28 37 (by kernel_rfl)
          have e42 : a.eval (.tmp 42) = .bool true := F.new 33 42 (by kernel_rfl)
          exact ok_pick _ _ _ true rfl (wanted_none rfl) e37 ⟨Rb.refl _, e42⟩
        refine Owed.cons ?_ ?_
        · -- 35: slot 44 := Op.move (Operand.tmp 43)
          intro a w hR F
          have e43 : a.eval (.tmp 43) = .bool true := F.new 34 43 (by kernel_rfl)
          exact ok_move _ rfl (wanted_none rfl) ⟨Rb.refl _, e43⟩
        refine Owed.cons ?_ ?_
        · -- 36: slot 45 := Op.fieldAddr 23 (Operand.tmp 2) 1
          intro a w hR F
          have e44 : a.eval (.tmp 44) = .bool true := F.new 35 44 (by kernel_rfl)
          have e2 : a.eval (.tmp 2) = .pointer (some ⟨w0.heap.size, 0, none⟩) := F.old 2 (by kernel_rfl)
          exact ok_field _ 1 _ (by decide) rfl (wanted_true (j := 35) (d := 44) rfl (by kernel_rfl) e44) e2 ⟨Rb.refl _, rfl⟩
        refine Owed.cons ?_ ?_
        · -- 37: slot 46 := Op.load 2 (Operand.tmp 45)
          intro a w hR F
          have e44 : a.eval (.tmp 44) = .bool true := F.new 35 44 (by kernel_rfl)
          have e45 : a.eval (.tmp 45) = .pointer (some ⟨w0.heap.size, 1, none⟩) := F.new 36 45 (by kernel_rfl)
          exact ok_load _ _ rfl (wanted_true (j := 35) (d := 44) rfl (by kernel_rfl) e44) e45 (HA.out.rb hR).f1 ⟨Rb.refl _, rfl⟩
        refine Owed.cons ?_ ?_
        · -- 38: slot 47 := Op.call { callee := Callee.value (Operand.func 21), args := #[Operand.tmp 46], argTypes := #[2] }
          intro a w hR F
          have e44 : a.eval (.tmp 44) = .bool true := F.new 35 44 (by kernel_rfl)
          have e46 : a.eval (.tmp 46) = .int .i64 (n) := F.new 37 46 (by kernel_rfl)
          refine ok_call 21 _ _ #[.int .i64 (n)] rfl (wanted_true (j := 35) (d := 44) rfl (by kernel_rfl) e44) (by simp [e46]) (Tryd.call21 _ _) ?_
          exact val_call_below (vint_any n w)
        refine Owed.cons ?_ ?_
        · -- 39: slot 48 := Op.fieldAddr 23 (Operand.tmp 2) 1
          intro a w hR F
          have e44 : a.eval (.tmp 44) = .bool true := F.new 35 44 (by kernel_rfl)
          have e2 : a.eval (.tmp 2) = .pointer (some ⟨w0.heap.size, 0, none⟩) := F.old 2 (by kernel_rfl)
          exact ok_field _ 1 _ (by decide) rfl (wanted_true (j := 35) (d := 44) rfl (by kernel_rfl) e44) e2 ⟨Rb.refl _, rfl⟩
        refine Owed.cons ?_ ?_
        · -- 40: slot 49 := Op.load 2 (Operand.tmp 48)
          intro a w hR F
          have e44 : a.eval (.tmp 44) = .bool true := F.new 35 44 (by kernel_rfl)
          have e48 : a.eval (.tmp 48) = .pointer (some ⟨w0.heap.size, 1, none⟩) := F.new 39 48 (by kernel_rfl)
          exact ok_load _ _ rfl (wanted_true (j := 35) (d := 44) rfl (by kernel_rfl) e44) e48 (HA.out.rb hR).f1 ⟨Rb.refl _, rfl⟩
        refine Owed.cons ?_ ?_
        · -- 41: slot 50 := Op.build 23 #[(0, Operand.const (Value.int IntKind.i64 1)), (1, Operand.tmp 49)]
          intro a w hR F
          have e44 : a.eval (.tmp 44) = .bool true := F.new 35 44 (by kernel_rfl)
          have e49 : a.eval (.tmp 49) = .int .i64 (n) := F.new 40 49 (by kernel_rfl)
          exact ok_build _ _ #[(0, .int .i64 (1)), (1, .int .i64 (n))] rfl (wanted_true (j := 35) (d := 44) rfl (by kernel_rfl) e44) (by simp only [List.map_toArray, List.map_cons, List.map_nil, e49]; rfl) (run_build1 _ _) ⟨Rb.refl _, rfl⟩
        refine Owed.cons ?_ ?_
        · -- 42: slot 51 := Op.binOp BinOp.eql 23 (Operand.tmp 47) (Operand.tmp 50) 23
          intro a w hR F
          have e44 : a.eval (.tmp 44) = .bool true := F.new 35 44 (by kernel_rfl)
          have e47 : a.eval (.tmp 47) = vv (1) (n) (⟨#[]⟩) := F.new 38 47 (by kernel_rfl)
          have e50 : a.eval (.tmp 50) = vv (1) (n) (⟨#[]⟩) := F.new 41 50 (by kernel_rfl)
          refine ok_bin _ _ _ _ _ rfl (wanted_true (j := 35) (d := 44) rfl (by kernel_rfl) e44) e47 e50 (run_eqlV _ _ _ _ _ _ _ _) ⟨Rb.refl _, ?_⟩
          exact congrArg Value.bool (by unfold eqVB; simp)
        refine Owed.cons ?_ ?_
        · -- 43: slot 52 := Op.pick (Operand.tmp 44) (Operand.tmp 51) (Operand.const (Value.bool false))
          intro a w hR F
          have e44 : a.eval (.tmp 44) = .bool true := F.new 35 44 (by kernel_rfl)
          have e51 : a.eval (.tmp 51) = .bool true := F.new 42 51 (by kernel_rfl)
          exact ok_pick _ _ _ true rfl (wanted_none rfl) e44 ⟨Rb.refl _, e51⟩
        refine Owed.cons ?_ ?_
        · -- 44: slot 53 := Op.move (Operand.tmp 52)
          intro a w hR F
          have e52 : a.eval (.tmp 52) = .bool true := F.new 43 52 (by kernel_rfl)
          exact ok_move _ rfl (wanted_none rfl) ⟨Rb.refl _, e52⟩
        refine Owed.cons ?_ ?_
        · -- 45: slot 54 := Op.fieldAddr 23 (Operand.tmp 2) 2
          intro a w hR F
          have e53 : a.eval (.tmp 53) = .bool true := F.new 44 53 (by kernel_rfl)
          have e2 : a.eval (.tmp 2) = .pointer (some ⟨w0.heap.size, 0, none⟩) := F.old 2 (by kernel_rfl)
          exact ok_field _ 2 _ (by decide) rfl (wanted_true (j := 44) (d := 53) rfl (by kernel_rfl) e53) e2 ⟨Rb.refl _, rfl⟩
        refine Owed.cons ?_ ?_
        · -- 46: slot 55 := Op.load 9 (Operand.tmp 54)
          intro a w hR F
          have e53 : a.eval (.tmp 53) = .bool true := F.new 44 53 (by kernel_rfl)
          have e54 : a.eval (.tmp 54) = .pointer (some ⟨w0.heap.size, 2, none⟩) := F.new 45 54 (by kernel_rfl)
          exact ok_load _ _ rfl (wanted_true (j := 44) (d := 53) rfl (by kernel_rfl) e53) e54 (HA.out.rb hR).f2 ⟨Rb.refl _, rfl⟩
        refine Owed.cons ?_ ?_
        · -- 47: slot 56 := Op.call { callee := Callee.value (Operand.func 22), args := #[Operand.tmp 55], argTypes := #[9] }
          intro a w hR F
          have e53 : a.eval (.tmp 53) = .bool true := F.new 44 53 (by kernel_rfl)
          have e55 : a.eval (.tmp 55) = .string (s) := F.new 46 55 (by kernel_rfl)
          refine ok_call 22 _ _ #[.string (s)] rfl (wanted_true (j := 44) (d := 53) rfl (by kernel_rfl) e53) (by simp [e55]) (Tryd.call22 _ _) ?_
          exact val_call_below (vtext_any s w)
        refine Owed.cons ?_ ?_
        · -- 48: slot 57 := Op.fieldAddr 23 (Operand.tmp 2) 2
          intro a w hR F
          have e53 : a.eval (.tmp 53) = .bool true := F.new 44 53 (by kernel_rfl)
          have e2 : a.eval (.tmp 2) = .pointer (some ⟨w0.heap.size, 0, none⟩) := F.old 2 (by kernel_rfl)
          exact ok_field _ 2 _ (by decide) rfl (wanted_true (j := 44) (d := 53) rfl (by kernel_rfl) e53) e2 ⟨Rb.refl _, rfl⟩
        refine Owed.cons ?_ ?_
        · -- 49: slot 58 := Op.load 9 (Operand.tmp 57)
          intro a w hR F
          have e53 : a.eval (.tmp 53) = .bool true := F.new 44 53 (by kernel_rfl)
          have e57 : a.eval (.tmp 57) = .pointer (some ⟨w0.heap.size, 2, none⟩) := F.new 48 57 (by kernel_rfl)
          exact ok_load _ _ rfl (wanted_true (j := 44) (d := 53) rfl (by kernel_rfl) e53) e57 (HA.out.rb hR).f2 ⟨Rb.refl _, rfl⟩
        refine Owed.cons ?_ ?_
        · -- 50: slot 59 := Op.build 23 #[(0, Operand.const (Value.int IntKind.i64 3)), (2, Operand.tmp 58)]
          intro a w hR F
          have e53 : a.eval (.tmp 53) = .bool true := F.new 44 53 (by kernel_rfl)
          have e58 : a.eval (.tmp 58) = .string (s) := F.new 49 58 (by kernel_rfl)
          exact ok_build _ _ #[(0, .int .i64 (3)), (2, .string (s))] rfl (wanted_true (j := 44) (d := 53) rfl (by kernel_rfl) e53) (by simp only [List.map_toArray, List.map_cons, List.map_nil, e58]; rfl) (run_build2 _ _) ⟨Rb.refl _, rfl⟩
        refine Owed.cons ?_ ?_
        · -- 51: slot 60 := Op.binOp BinOp.eql 23 (Operand.tmp 56) (Operand.tmp 59) 23
          intro a w hR F
          have e53 : a.eval (.tmp 53) = .bool true := F.new 44 53 (by kernel_rfl)
          have e56 : a.eval (.tmp 56) = vv (3) (0) (s) := F.new 47 56 (by kernel_rfl)
          have e59 : a.eval (.tmp 59) = vv (3) (0) (s) := F.new 50 59 (by kernel_rfl)
          refine ok_bin _ _ _ _ _ rfl (wanted_true (j := 44) (d := 53) rfl (by kernel_rfl) e53) e56 e59 (run_eqlV _ _ _ _ _ _ _ _) ⟨Rb.refl _, ?_⟩
          exact congrArg Value.bool (by unfold eqVB; simp)
        refine Owed.cons ?_ ?_
        · -- 52: slot 61 := Op.pick (Operand.tmp 53) (Operand.tmp 60) (Operand.const (Value.bool false))
          intro a w hR F
          have e53 : a.eval (.tmp 53) = .bool true := F.new 44 53 (by kernel_rfl)
          have e60 : a.eval (.tmp 60) = .bool true := F.new 51 60 (by kernel_rfl)
          exact ok_pick _ _ _ true rfl (wanted_none rfl) e53 ⟨Rb.refl _, e60⟩
        refine Owed.cons ?_ ?_
        · -- 53: slot 62 := Op.move (Operand.tmp 61)
          intro a w hR F
          have e61 : a.eval (.tmp 61) = .bool true := F.new 52 61 (by kernel_rfl)
          exact ok_move _ rfl (wanted_none rfl) ⟨Rb.refl _, e61⟩
        refine Owed.cons ?_ ?_
        · -- 54: slot 63 := Op.fieldAddr 23 (Operand.tmp 2) 1
          intro a w hR F
          have e62 : a.eval (.tmp 62) = .bool true := F.new 53 62 (by kernel_rfl)
          have e2 : a.eval (.tmp 2) = .pointer (some ⟨w0.heap.size, 0, none⟩) := F.old 2 (by kernel_rfl)
          exact ok_field _ 1 _ (by decide) rfl (wanted_true (j := 53) (d := 62) rfl (by kernel_rfl) e62) e2 ⟨Rb.refl _, rfl⟩
        refine Owed.cons ?_ ?_
        · -- 55: slot 64 := Op.load 2 (Operand.tmp 63)
          intro a w hR F
          have e62 : a.eval (.tmp 62) = .bool true := F.new 53 62 (by kernel_rfl)
          have e63 : a.eval (.tmp 63) = .pointer (some ⟨w0.heap.size, 1, none⟩) := F.new 54 63 (by kernel_rfl)
          exact ok_load _ _ rfl (wanted_true (j := 53) (d := 62) rfl (by kernel_rfl) e62) e63 (HA.out.rb hR).f1 ⟨Rb.refl _, rfl⟩
        refine Owed.cons ?_ ?_
        · -- 56: slot 65 := Op.binOp BinOp.gtr 2 (Operand.tmp 64) (Operand.const (Value.int IntKind.i64 0)) 2
          intro a w hR F
          have e62 : a.eval (.tmp 62) = .bool true := F.new 53 62 (by kernel_rfl)
          have e64 : a.eval (.tmp 64) = .int .i64 (n) := F.new 55 64 (by kernel_rfl)
          exact ok_bin _ _ _ _ _ rfl (wanted_true (j := 53) (d := 62) rfl (by kernel_rfl) e62) e64 rfl (run_gtr_int _ _ _ _ _ _) ⟨Rb.refl _, rfl⟩
        refine Owed.cons ?_ ?_
        · -- 57: slot 66 := Op.call { callee := Callee.value (Operand.func 23), args := #[Operand.tmp 65], argTypes := #[4] }
          intro a w hR F
          have e62 : a.eval (.tmp 62) = .bool true := F.new 53 62 (by kernel_rfl)
          have e65 : a.eval (.tmp 65) = .bool (decide (n > 0)) := F.new 56 65 (by kernel_rfl)
          refine ok_call 23 _ _ #[.bool (decide (n > 0))] rfl (wanted_true (j := 53) (d := 62) rfl (by kernel_rfl) e62) (by simp [e65]) (Tryd.call23 _ _) ?_
          exact val_call_below (vbool_any (decide (n > 0)) w)
        refine Owed.cons ?_ ?_
        · -- 58: slot 67 := Op.fieldAddr 23 (Operand.tmp 2) 1
          intro a w hR F
          have e62 : a.eval (.tmp 62) = .bool true := F.new 53 62 (by kernel_rfl)
          have e2 : a.eval (.tmp 2) = .pointer (some ⟨w0.heap.size, 0, none⟩) := F.old 2 (by kernel_rfl)
          exact ok_field _ 1 _ (by decide) rfl (wanted_true (j := 53) (d := 62) rfl (by kernel_rfl) e62) e2 ⟨Rb.refl _, rfl⟩
        refine Owed.cons ?_ ?_
        · -- 59: slot 68 := Op.load 2 (Operand.tmp 67)
          intro a w hR F
          have e62 : a.eval (.tmp 62) = .bool true := F.new 53 62 (by kernel_rfl)
          have e67 : a.eval (.tmp 67) = .pointer (some ⟨w0.heap.size, 1, none⟩) := F.new 58 67 (by kernel_rfl)
          exact ok_load _ _ rfl (wanted_true (j := 53) (d := 62) rfl (by kernel_rfl) e62) e67 (HA.out.rb hR).f1 ⟨Rb.refl _, rfl⟩
        refine Owed.cons ?_ ?_
        · -- 60: slot 69 := Op.call { callee := Callee.builtin Builtin.min, args := #[Operand.tmp 68, Operand.const (Value.int I
          intro a w hR F
          have e62 : a.eval (.tmp 62) = .bool true := F.new 53 62 (by kernel_rfl)
          have e68 : a.eval (.tmp 68) = .int .i64 (n) := F.new 59 68 (by kernel_rfl)
          refine ok_min _ _ (n) (1) rfl (wanted_true (j := 53) (d := 62) rfl (by kernel_rfl) e62) (e68) (rfl) ⟨Rb.refl _, ?_⟩
          exact congrArg (Value.int .i64) (rfl)
        refine Owed.cons ?_ ?_
        · -- 61: slot 70 := Op.call { callee := Callee.builtin Builtin.max, args := #[Operand.const (Value.int IntKind.i64 0), O
          intro a w hR F
          have e62 : a.eval (.tmp 62) = .bool true := F.new 53 62 (by kernel_rfl)
          have e69 : a.eval (.tmp 69) = .int .i64 (min n 1) := F.new 60 69 (by kernel_rfl)
          refine ok_max _ _ (0) (min n 1) rfl (wanted_true (j := 53) (d := 62) rfl (by kernel_rfl) e62) (rfl) (e69) ⟨Rb.refl _, ?_⟩
          exact congrArg (Value.int .i64) (truth_eq n)
        refine Owed.cons ?_ ?_
        · -- 62: slot 71 := Op.build 23 #[(0, Operand.const (Value.int IntKind.i64 2)), (1, Operand.tmp 70)]
          intro a w hR F
          have e62 : a.eval (.tmp 62) = .bool true := F.new 53 62 (by kernel_rfl)
          have e70 : a.eval (.tmp 70) = .int .i64 ((if decide (n > 0) = true then 1 else 0)) := F.new 61 70 (by kernel_rfl)
          exact ok_build _ _ #[(0, .int .i64 (2)), (1, .int .i64 ((if decide (n > 0) = true then 1 else 0)))] rfl (wanted_true (j := 53) (d := 62) rfl (by kernel_rfl) e62) (by simp only [List.map_toArray, List.map_cons, List.map_nil, e70]; rfl) (run_build1 _ _) ⟨Rb.refl _, rfl⟩
        refine Owed.cons ?_ ?_
        · -- 63: slot 72 := Op.binOp BinOp.eql 23 (Operand.tmp 66) (Operand.tmp 71) 23
          intro a w hR F
          have e62 : a.eval (.tmp 62) = .bool true := F.new 53 62 (by kernel_rfl)
          have e66 : a.eval (.tmp 66) = vv (2) ((if decide (n > 0) = true then 1 else 0)) (⟨#[]⟩) := F.new 57 66 (by kernel_rfl)
          have e71 : a.eval (.tmp 71) = vv (2) ((if decide (n > 0) = true then 1 else 0)) (⟨#[]⟩) := F.new 62 71 (by kernel_rfl)
          refine ok_bin _ _ _ _ _ rfl (wanted_true (j := 53) (d := 62) rfl (by kernel_rfl) e62) e66 e71 (run_eqlV _ _ _ _ _ _ _ _) ⟨Rb.refl _, ?_⟩
          exact congrArg Value.bool (by unfold eqVB; simp)
        refine Owed.cons ?_ ?_
        · -- 64: slot 73 := Op.pick (Operand.tmp 62) (Operand.tmp 72) (Operand.const (Value.bool false))
          intro a w hR F
          have e62 : a.eval (.tmp 62) = .bool true := F.new 53 62 (by kernel_rfl)
          have e72 : a.eval (.tmp 72) = .bool true := F.new 63 72 (by kernel_rfl)
          exact ok_pick _ _ _ true rfl (wanted_none rfl) e62 ⟨Rb.refl _, e72⟩
        refine Owed.cons ?_ ?_
        · -- 65: slot 74 := Op.move (Operand.tmp 73)
          intro a w hR F
          have e73 : a.eval (.tmp 73) = .bool true := F.new 64 73 (by kernel_rfl)
          exact ok_move _ rfl (wanted_none rfl) ⟨Rb.refl _, e73⟩
        refine Owed.cons ?_ ?_
        · -- 66: slot 75 := Op.call { callee := Callee.value (Operand.func 10), args := #[], argTypes := #[] }
          intro a w hR F
          have e74 : a.eval (.tmp 74) = .bool true := F.new 65 74 (by kernel_rfl)
          refine ok_call 10 _ _ #[] rfl (wanted_true (j := 65) (d := 74) rfl (by kernel_rfl) e74) (by simp) (Tryd.call10 _ _) ?_
          exact val_call_below (lives_any w (HT.out.rb (Rb.trans _ _ _ HB.out hR)))
        refine Owed.cons ?_ ?_
        · -- 67: slot 76 := Op.pick (Operand.tmp 74) (Operand.tmp 75) (Operand.const (Value.bool false))
          intro a w hR F
          have e74 : a.eval (.tmp 74) = .bool true := F.new 65 74 (by kernel_rfl)
          have e75 : a.eval (.tmp 75) = .bool true := F.new 66 75 (by kernel_rfl)
          exact ok_pick _ _ _ true rfl (wanted_none rfl) e74 ⟨Rb.refl _, e75⟩
        refine Owed.cons ?_ ?_
        · -- 68: slot 4 := Op.assign (Operand.tmp 76)
          intro a w hR F
          have e76 : a.eval (.tmp 76) = .bool true := F.new 67 76 (by kernel_rfl)
          exact ok_assign _ rfl (wanted_none rfl) ⟨Rb.refl _, e76⟩
        exact Owed.nil
      case fin =>
        intro y w hR hy
        have e68 : y 68 = .bool true := hy 68 _ rfl
        have HB := Lib.hid (Rb.trans _ _ _ HB.out hR)
        clear hy hR
        simp only [List.append_eq, List.cons_append, List.nil_append, putAll, Act.put, List.setIfInBounds_toArray, List.set_cons_zero, List.set_cons_succ]
        rw [e68]
        clear e68
        go_wp2
        go_ret
        exact ⟨rfl, HB.out⟩
  · go_enter Tryd.func3, Tryd.ntmps3
    go_upto_region 1 with (fail)
    refine wp_region_plain_specs (R := Rb) (S := [Spec.eq (vv (k) (n) (s)), Spec.eq (.bool false), Spec.eq (.bool true)]) (n := 1) (size := 77) Rb.trans (Rb.refl _) rfl (by kernel_rfl) ?owed ?fin
    case owed =>
      refine Owed.cons ?_ ?_
      · -- 0: slot 5 := Op.load 23 (Operand.tmp 2)
        intro a w hR F
        have e2 : a.eval (.tmp 2) = .pointer (some ⟨w0.heap.size, 0, none⟩) := F.old 2 (by kernel_rfl)
        exact ok_load _ _ rfl (wanted_none rfl) e2 (HA.out.rb hR).load ⟨Rb.refl _, rfl⟩
      refine Owed.cons ?_ ?_
      · -- 1: slot 6 := Op.call { callee := Callee.value (Operand.func 9), args := #[Operand.tmp 5], argTypes := #[23] }
        intro a w hR F
        have e5 : a.eval (.tmp 5) = vv (k) (n) (s) := F.new 0 5 (by kernel_rfl)
        refine ok_call 9 _ _ #[vv (k) (n) (s)] rfl (wanted_none rfl) (by simp [e5]) (Tryd.call9 _ _) ?_
        exact val_call_below (light_no k n s w hs ha)
      refine Owed.cons ?_ ?_
      · -- 2: slot 7 := Op.unOp UnOp.not 4 (Operand.tmp 6)
        intro a w hR F
        have e6 : a.eval (.tmp 6) = .bool false := F.new 1 6 (by kernel_rfl)
        exact ok_not _ _ false rfl (wanted_none rfl) e6 ⟨Rb.refl _, rfl⟩
      exact Owed.nil
    case fin =>
      intro y w hR hy
      have e2 : y 2 = .bool true := hy 2 _ rfl
      have HA := Lib.hid (HA.out.rb hR)
      have HC := Lib.hid (HC.out.rb hR)
      have HB := Lib.hid (Rb.trans _ _ _ HB.out hR)
      clear hy hR
      simp only [putAll, Act.put, List.setIfInBounds_toArray, List.set_cons_zero, List.set_cons_succ]
      rw [e2]
      clear e2
      go_wp2_with fail
      refine (lives_any _ (HT.out.rb HB.out)).mono ?_
      rintro e w1 ⟨rfl, hb⟩
      have HB := Lib.hid (Rb.trans _ _ _ HB.out hb)
      clear hb
      go_wp2
      go_ret
      exact ⟨rfl, HB.out⟩
end Go.Proofs.YtefjfiihfbkjoaaDoor
