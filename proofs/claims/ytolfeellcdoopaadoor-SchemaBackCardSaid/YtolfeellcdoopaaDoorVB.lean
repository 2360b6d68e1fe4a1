/-
  Layer 2: which values are right.
-/
import Derived.Test.YtolfeellcdoopaaDoorVT
namespace Go.Proofs.YtolfeellcdoopaaDoor
open Go.ChangeShapes Go.WideShapes Go.ChangeAt Go.RowKit Oct By Reg Val

theorem empty_iff (s : ByteArray) : (s.toList == (⟨#[]⟩ : ByteArray).toList) = s.data.toList.isEmpty := by
  rw [ByteArray.toList_eq, ByteArray.toList_eq]
  cases s.data.toList <;> rfl
theorem right1 (n : Int) (s : ByteArray) : eqVB 1 n s 1 n ⟨#[]⟩ = rightB 1 n s.data.toList := by
  unfold eqVB rightB; rw [empty_iff]; simp
theorem right2a (n : Int) (s : ByteArray) (h0 : n = 0) : eqVB 2 n s 2 0 ⟨#[]⟩ = rightB 2 n s.data.toList := by
  unfold eqVB rightB; rw [empty_iff, h0]; simp
theorem right2b (n : Int) (s : ByteArray) (h0 : ¬ n = 0) : eqVB 2 n s 2 1 ⟨#[]⟩ = rightB 2 n s.data.toList := by
  unfold eqVB rightB; rw [empty_iff]
  simp only [beq_self_eq_true, Bool.true_and]
  rw [if_neg (by decide), if_pos trivial, Bool.and_comm]
  congr 1
  rw [Bool.eq_iff_iff]; simp; omega
theorem right3a (n : Int) (s : ByteArray) (h0 : ¬ n = 0) : eqVB 3 n s 3 0 s = false := by
  unfold eqVB; simp [h0]
theorem right3b (n : Int) (s : ByteArray) (h0 : n = 0) : eqVB 3 n s 3 0 s = true := by
  unfold eqVB; simp [h0]
theorem right3a_end (n : Int) (s : ByteArray) (h0 : ¬ n = 0) : false = rightB 3 n s.data.toList := by
  unfold rightB; simp [h0]
theorem right3b_end (n : Int) (s : ByteArray) (h0 : n = 0) : rightTextB s.data.toList = rightB 3 n s.data.toList := by
  unfold rightB; simp [h0]

set_option maxRecDepth 100000 in
theorem right_any (k n : Int) (s : ByteArray) (w0 : World) (hs : s.size ≤ maxLen) :
    Calls Tryd.prog 75 #[vv k n s] w0 fun e w' => e = .returned (.bool (rightB k n s.data.toList)) ∧ Below w0.heap.size w0 w' := by
  by_cases h1 : k = 1
  · subst h1
    go_enter Tryd.func75, Tryd.ntmps75
    go_wp2_with fail
    refine wp_region_specs (R := Rb) (S := [Spec.eq (vv (1) (n) (s)), Spec.eq (.pointer (some ⟨w0.heap.size, 1, none⟩)), Spec.eq (.int .i64 (n)), Spec.eq (vv (1) (n) (⟨#[]⟩)), Spec.eq (.bool (eqVB (1) (n) (s) (1) (n) (⟨#[]⟩))), Spec.eq (.bool (eqVB (1) (n) (s) (1) (n) (⟨#[]⟩)))]) (n := 1) (size := 32) (by kernel_rfl) Rb.trans (Rb.drew _) rfl (by kernel_rfl) ?owed ?fin
    case owed =>
      refine Owed.cons ?_ ?_
      · -- 0: slot 7 := Op.load 23 (Operand.tmp 1)
        intro a w hR F
        have e1 : a.eval (.tmp 1) = .pointer (some ⟨w0.heap.size, 0, none⟩) := F.old 1 (by kernel_rfl)
        exact ok_load _ _ rfl (wanted_none rfl) e1 ((HeldV.new w0 1 n s _).rb hR).load ⟨Rb.refl _, rfl⟩
      refine Owed.cons ?_ ?_
      · -- 1: slot 8 := Op.fieldAddr 23 (Operand.tmp 1) 1
        intro a w hR F
        have e1 : a.eval (.tmp 1) = .pointer (some ⟨w0.heap.size, 0, none⟩) := F.old 1 (by kernel_rfl)
        exact ok_field _ 1 _ (by decide) rfl (wanted_none rfl) e1 ⟨Rb.refl _, rfl⟩
      refine Owed.cons ?_ ?_
      · -- 2: slot 9 := Op.load 2 (Operand.tmp 8)
        intro a w hR F
        have e8 : a.eval (.tmp 8) = .pointer (some ⟨w0.heap.size, 1, none⟩) := F.new 1 8 (by kernel_rfl)
        exact ok_load _ _ rfl (wanted_none rfl) e8 ((HeldV.new w0 1 n s _).rb hR).f1 ⟨Rb.refl _, rfl⟩
      refine Owed.cons ?_ ?_
      · -- 3: slot 10 := Op.call { callee := Callee.value (Operand.func 21), args := #[Operand.tmp 9], argTypes := #[2] }
        intro a w hR F
        have e9 : a.eval (.tmp 9) = .int .i64 (n) := F.new 2 9 (by kernel_rfl)
        refine ok_call 89 _ _ #[.int .i64 (n)] rfl (wanted_none rfl) (by simp [e9]) (Tryd.call89 _ _) ?_
        exact val_call_below (vint_any n w)
      refine Owed.cons ?_ ?_
      · -- 4: slot 11 := Op.binOp BinOp.eql 23 (Operand.tmp 7) (Operand.tmp 10) 23
        intro a w hR F
        have e7 : a.eval (.tmp 7) = vv (1) (n) (s) := F.new 0 7 (by kernel_rfl)
        have e10 : a.eval (.tmp 10) = vv (1) (n) (⟨#[]⟩) := F.new 3 10 (by kernel_rfl)
        exact ok_bin _ _ _ _ _ rfl (wanted_none rfl) e7 e10 (run_eqlV _ _ _ _ _ _ _ _) ⟨Rb.refl _, rfl⟩
      refine Owed.cons ?_ ?_
      · -- 5: slot 2 := Op.assign (Operand.tmp 11)
        intro a w hR F
        have e11 : a.eval (.tmp 11) = .bool (eqVB (1) (n) (s) (1) (n) (⟨#[]⟩)) := F.new 4 11 (by kernel_rfl)
        exact ok_assign _ rfl (wanted_none rfl) ⟨Rb.refl _, e11⟩
      exact Owed.nil
    case fin =>
      intro y w2 hR hy
      have e5 : y 5 = .bool (eqVB 1 n s 1 n ⟨#[]⟩) := hy 5 _ rfl
      have HR := Lib.hid hR
      clear hy hR
      simp only [putAll, Act.put, List.setIfInBounds_toArray, List.set_cons_zero, List.set_cons_succ]
      rw [e5]
      go_wp2
      go_ret
      exact ⟨ret_bool (right1 n s), Below.trans ((Below.refl _ w0).alloc (Nat.le_refl _) _) (Below.mono HR.out (by simp))⟩
  by_cases h2 : k = 2
  · subst h2
    clear h1
    by_cases h0 : n = 0
    · have H0 := Lib.hid h0
      clear h0
      go_enter Tryd.func75, Tryd.ntmps75
      go_wp2_with fail
      refine wp_region_specs (R := Rb) (S := [Spec.eq (vv (2) (n) (s)), Spec.eq (.pointer (some ⟨w0.heap.size, 1, none⟩)), Spec.eq (.int .i64 (n)), Spec.eq (.bool false), Spec.eq (vv (2) (0) (⟨#[]⟩)), Spec.eq (.bool (eqVB (2) (n) (s) (2) (0) (⟨#[]⟩))), Spec.eq (.bool (eqVB (2) (n) (s) (2) (0) (⟨#[]⟩)))]) (n := 1) (size := 32) (by kernel_rfl) Rb.trans (Rb.drew _) rfl (by kernel_rfl) ?owed ?fin
      case owed =>
        refine Owed.cons ?_ ?_
        · -- 0: slot 14 := Op.load 23 (Operand.tmp 1)
          intro a w hR F
          have e1 : a.eval (.tmp 1) = .pointer (some ⟨w0.heap.size, 0, none⟩) := F.old 1 (by kernel_rfl)
          exact ok_load _ _ rfl (wanted_none rfl) e1 ((HeldV.new w0 2 n s _).rb hR).load ⟨Rb.refl _, rfl⟩
        refine Owed.cons ?_ ?_
        · -- 1: slot 15 := Op.fieldAddr 23 (Operand.tmp 1) 1
          intro a w hR F
          have e1 : a.eval (.tmp 1) = .pointer (some ⟨w0.heap.size, 0, none⟩) := F.old 1 (by kernel_rfl)
          exact ok_field _ 1 _ (by decide) rfl (wanted_none rfl) e1 ⟨Rb.refl _, rfl⟩
        refine Owed.cons ?_ ?_
        · -- 2: slot 16 := Op.load 2 (Operand.tmp 15)
          intro a w hR F
          have e15 : a.eval (.tmp 15) = .pointer (some ⟨w0.heap.size, 1, none⟩) := F.new 1 15 (by kernel_rfl)
          exact ok_load _ _ rfl (wanted_none rfl) e15 ((HeldV.new w0 2 n s _).rb hR).f1 ⟨Rb.refl _, rfl⟩
        refine Owed.cons ?_ ?_
        · -- 3: slot 17 := Op.binOp BinOp.neq 2 (Operand.tmp 16) (Operand.const (Value.int IntKind.i64 0)) 2
          intro a w hR F
          have e16 : a.eval (.tmp 16) = .int .i64 (n) := F.new 2 16 (by kernel_rfl)
          refine ok_bin _ _ _ _ _ rfl (wanted_none rfl) e16 rfl (run_neq_int _ _ _ _ _ _) ⟨Rb.refl _, ?_⟩
          exact congrArg Value.bool (by simp [H0.out])
        refine Owed.cons ?_ ?_
        · -- 4: slot 18 := Op.call { callee := Callee.value (Operand.func 23), args := #[Operand.tmp 17], argTypes := #[4] }
          intro a w hR F
          have e17 : a.eval (.tmp 17) = .bool false := F.new 3 17 (by kernel_rfl)
          refine ok_call 90 _ _ #[.bool false] rfl (wanted_none rfl) (by simp [e17]) (Tryd.call90 _ _) ?_
          exact val_call_below (vbool_any false w)
        refine Owed.cons ?_ ?_
        · -- 5: slot 19 := Op.binOp BinOp.eql 23 (Operand.tmp 14) (Operand.tmp 18) 23
          intro a w hR F
          have e14 : a.eval (.tmp 14) = vv (2) (n) (s) := F.new 0 14 (by kernel_rfl)
          have e18 : a.eval (.tmp 18) = vv (2) (0) (⟨#[]⟩) := F.new 4 18 (by kernel_rfl)
          exact ok_bin _ _ _ _ _ rfl (wanted_none rfl) e14 e18 (run_eqlV _ _ _ _ _ _ _ _) ⟨Rb.refl _, rfl⟩
        refine Owed.cons ?_ ?_
        · -- 6: slot 2 := Op.assign (Operand.tmp 19)
          intro a w hR F
          have e19 : a.eval (.tmp 19) = .bool (eqVB (2) (n) (s) (2) (0) (⟨#[]⟩)) := F.new 5 19 (by kernel_rfl)
          exact ok_assign _ rfl (wanted_none rfl) ⟨Rb.refl _, e19⟩
        exact Owed.nil
      case fin =>
        intro y w2 hR hy
        have e6 : y 6 = .bool (eqVB 2 n s 2 0 ⟨#[]⟩) := hy 6 _ rfl
        have HR := Lib.hid hR
        clear hy hR
        simp only [putAll, Act.put, List.setIfInBounds_toArray, List.set_cons_zero, List.set_cons_succ]
        rw [e6]
        go_wp2
        go_ret
        exact ⟨ret_bool (right2a n s H0.out), Below.trans ((Below.refl _ w0).alloc (Nat.le_refl _) _) (Below.mono HR.out (by simp))⟩
    · have H0 := Lib.hid h0
      clear h0
      go_enter Tryd.func75, Tryd.ntmps75
      go_wp2_with fail
      refine wp_region_specs (R := Rb) (S := [Spec.eq (vv (2) (n) (s)), Spec.eq (.pointer (some ⟨w0.heap.size, 1, none⟩)), Spec.eq (.int .i64 (n)), Spec.eq (.bool true), Spec.eq (vv (2) (1) (⟨#[]⟩)), Spec.eq (.bool (eqVB (2) (n) (s) (2) (1) (⟨#[]⟩))), Spec.eq (.bool (eqVB (2) (n) (s) (2) (1) (⟨#[]⟩)))]) (n := 1) (size := 32) (by kernel_rfl) Rb.trans (Rb.drew _) rfl (by kernel_rfl) ?owed ?fin
      case owed =>
        refine Owed.cons ?_ ?_
        · -- 0: slot 14 := Op.load 23 (Operand.tmp 1)
          intro a w hR F
          have e1 : a.eval (.tmp 1) = .pointer (some ⟨w0.heap.size, 0, none⟩) := F.old 1 (by kernel_rfl)
          exact ok_load _ _ rfl (wanted_none rfl) e1 ((HeldV.new w0 2 n s _).rb hR).load ⟨Rb.refl _, rfl⟩
        refine Owed.cons ?_ ?_
        · -- 1: slot 15 := Op.fieldAddr 23 (Operand.tmp 1) 1
          intro a w hR F
          have e1 : a.eval (.tmp 1) = .pointer (some ⟨w0.heap.size, 0, none⟩) := F.old 1 (by kernel_rfl)
          exact ok_field _ 1 _ (by decide) rfl (wanted_none rfl) e1 ⟨Rb.refl _, rfl⟩
        refine Owed.cons ?_ ?_
        · -- 2: slot 16 := Op.load 2 (Operand.tmp 15)
          intro a w hR F
          have e15 : a.eval (.tmp 15) = .pointer (some ⟨w0.heap.size, 1, none⟩) := F.new 1 15 (by kernel_rfl)
          exact ok_load _ _ rfl (wanted_none rfl) e15 ((HeldV.new w0 2 n s _).rb hR).f1 ⟨Rb.refl _, rfl⟩
        refine Owed.cons ?_ ?_
        · -- 3: slot 17 := Op.binOp BinOp.neq 2 (Operand.tmp 16) (Operand.const (Value.int IntKind.i64 0)) 2
          intro a w hR F
          have e16 : a.eval (.tmp 16) = .int .i64 (n) := F.new 2 16 (by kernel_rfl)
          refine ok_bin _ _ _ _ _ rfl (wanted_none rfl) e16 rfl (run_neq_int _ _ _ _ _ _) ⟨Rb.refl _, ?_⟩
          exact congrArg Value.bool (by simp [H0.out])
        refine Owed.cons ?_ ?_
        · -- 4: slot 18 := Op.call { callee := Callee.value (Operand.func 23), args := #[Operand.tmp 17], argTypes := #[4] }
          intro a w hR F
          have e17 : a.eval (.tmp 17) = .bool true := F.new 3 17 (by kernel_rfl)
          refine ok_call 90 _ _ #[.bool true] rfl (wanted_none rfl) (by simp [e17]) (Tryd.call90 _ _) ?_
          exact val_call_below (vbool_any true w)
        refine Owed.cons ?_ ?_
        · -- 5: slot 19 := Op.binOp BinOp.eql 23 (Operand.tmp 14) (Operand.tmp 18) 23
          intro a w hR F
          have e14 : a.eval (.tmp 14) = vv (2) (n) (s) := F.new 0 14 (by kernel_rfl)
          have e18 : a.eval (.tmp 18) = vv (2) (1) (⟨#[]⟩) := F.new 4 18 (by kernel_rfl)
          exact ok_bin _ _ _ _ _ rfl (wanted_none rfl) e14 e18 (run_eqlV _ _ _ _ _ _ _ _) ⟨Rb.refl _, rfl⟩
        refine Owed.cons ?_ ?_
        · -- 6: slot 2 := Op.assign (Operand.tmp 19)
          intro a w hR F
          have e19 : a.eval (.tmp 19) = .bool (eqVB (2) (n) (s) (2) (1) (⟨#[]⟩)) := F.new 5 19 (by kernel_rfl)
          exact ok_assign _ rfl (wanted_none rfl) ⟨Rb.refl _, e19⟩
        exact Owed.nil
      case fin =>
        intro y w2 hR hy
        have e6 : y 6 = .bool (eqVB 2 n s 2 1 ⟨#[]⟩) := hy 6 _ rfl
        have HR := Lib.hid hR
        clear hy hR
        simp only [putAll, Act.put, List.setIfInBounds_toArray, List.set_cons_zero, List.set_cons_succ]
        rw [e6]
        go_wp2
        go_ret
        exact ⟨ret_bool (right2b n s H0.out), Below.trans ((Below.refl _ w0).alloc (Nat.le_refl _) _) (Below.mono HR.out (by simp))⟩
  by_cases h3 : k = 3
  · subst h3
    clear h1 h2
    by_cases h0 : n = 0
    · have H0 := Lib.hid h0
      clear h0
      go_enter Tryd.func75, Tryd.ntmps75
      go_wp2_with fail
      refine wp_region_specs (R := Rb) (S := [Spec.eq (vv (3) (n) (s)), Spec.eq (.pointer (some ⟨w0.heap.size, 2, none⟩)), Spec.eq (.string (s)), Spec.eq (vv (3) (0) (s)), Spec.eq (.bool true), Spec.eq (.bool true), Spec.eq (.pointer (some ⟨w0.heap.size, 2, none⟩)), Spec.eq (.string (s)), Spec.eq (.bool (rightTextB s.data.toList)), Spec.eq (.bool (rightTextB s.data.toList)), Spec.eq (.bool (rightTextB s.data.toList))]) (n := 1) (size := 32) (by kernel_rfl) Rb.trans (Rb.drew _) rfl (by kernel_rfl) ?owed ?fin
      case owed =>
        refine Owed.cons ?_ ?_
        · -- 0: slot 22 := Op.load 23 (Operand.tmp 1)
          intro a w hR F
          have e1 : a.eval (.tmp 1) = .pointer (some ⟨w0.heap.size, 0, none⟩) := F.old 1 (by kernel_rfl)
          exact ok_load _ _ rfl (wanted_none rfl) e1 ((HeldV.new w0 3 n s _).rb hR).load ⟨Rb.refl _, rfl⟩
        refine Owed.cons ?_ ?_
        · -- 1: slot 23 := Op.fieldAddr 23 (Operand.tmp 1) 2
          intro a w hR F
          have e1 : a.eval (.tmp 1) = .pointer (some ⟨w0.heap.size, 0, none⟩) := F.old 1 (by kernel_rfl)
          exact ok_field _ 2 _ (by decide) rfl (wanted_none rfl) e1 ⟨Rb.refl _, rfl⟩
        refine Owed.cons ?_ ?_
        · -- 2: slot 24 := Op.load 9 (Operand.tmp 23)
          intro a w hR F
          have e23 : a.eval (.tmp 23) = .pointer (some ⟨w0.heap.size, 2, none⟩) := F.new 1 23 (by kernel_rfl)
          exact ok_load _ _ rfl (wanted_none rfl) e23 ((HeldV.new w0 3 n s _).rb hR).f2 ⟨Rb.refl _, rfl⟩
        refine Owed.cons ?_ ?_
        · -- 3: slot 25 := Op.call { callee := Callee.value (Operand.func 22), args := #[Operand.tmp 24], argTypes := #[9] }
          intro a w hR F
          have e24 : a.eval (.tmp 24) = .string (s) := F.new 2 24 (by kernel_rfl)
          refine ok_call 91 _ _ #[.string (s)] rfl (wanted_none rfl) (by simp [e24]) (Tryd.call91 _ _) ?_
          exact val_call_below (vtext_any s w)
        refine Owed.cons ?_ ?_
        · -- 4: slot 26 := Op.binOp BinOp.eql 23 (Operand.tmp 22) (Operand.tmp 25) 23
          intro a w hR F
          have e22 : a.eval (.tmp 22) = vv (3) (n) (s) := F.new 0 22 (by kernel_rfl)
          have e25 : a.eval (.tmp 25) = vv (3) (0) (s) := F.new 3 25 (by kernel_rfl)
          refine ok_bin _ _ _ _ _ rfl (wanted_none rfl) e22 e25 (run_eqlV _ _ _ _ _ _ _ _) ⟨Rb.refl _, ?_⟩
          exact congrArg Value.bool (right3b n s H0.out)
        refine Owed.cons ?_ ?_
        · -- 5: slot 27 := Op.move (Operand.tmp 26)
          intro a w hR F
          have e26 : a.eval (.tmp 26) = .bool true := F.new 4 26 (by kernel_rfl)
          exact ok_move _ rfl (wanted_none rfl) ⟨Rb.refl _, e26⟩
        refine Owed.cons ?_ ?_
        · -- 6: slot 28 := Op.fieldAddr 23 (Operand.tmp 1) 2
          intro a w hR F
          have e27 : a.eval (.tmp 27) = .bool true := F.new 5 27 (by kernel_rfl)
          have e1 : a.eval (.tmp 1) = .pointer (some ⟨w0.heap.size, 0, none⟩) := F.old 1 (by kernel_rfl)
          exact ok_field _ 2 _ (by decide) rfl (wanted_true (j := 5) (d := 27) rfl (by kernel_rfl) e27) e1 ⟨Rb.refl _, rfl⟩
        refine Owed.cons ?_ ?_
        · -- 7: slot 29 := Op.load 9 (Operand.tmp 28)
          intro a w hR F
          have e27 : a.eval (.tmp 27) = .bool true := F.new 5 27 (by kernel_rfl)
          have e28 : a.eval (.tmp 28) = .pointer (some ⟨w0.heap.size, 2, none⟩) := F.new 6 28 (by kernel_rfl)
          exact ok_load _ _ rfl (wanted_true (j := 5) (d := 27) rfl (by kernel_rfl) e27) e28 ((HeldV.new w0 3 n s _).rb hR).f2 ⟨Rb.refl _, rfl⟩
        refine Owed.cons ?_ ?_
        · -- 8: slot 30 := Op.call { callee := Callee.value (Operand.func 34), args := #[Operand.tmp 29], argTypes := #[9] }
          intro a w hR F
          have e27 : a.eval (.tmp 27) = .bool true := F.new 5 27 (by kernel_rfl)
          have e29 : a.eval (.tmp 29) = .string (s) := F.new 7 29 (by kernel_rfl)
          refine ok_call 92 _ _ #[.string (s)] rfl (wanted_true (j := 5) (d := 27) rfl (by kernel_rfl) e27) (by simp [e29]) (Tryd.call92 _ _) ?_
          exact val_call (righttext_any s w hs)
        refine Owed.cons ?_ ?_
        · -- 9: slot 31 := Op.pick (Operand.tmp 27) (Operand.tmp 30) (Operand.const (Value.bool false))
          intro a w hR F
          have e27 : a.eval (.tmp 27) = .bool true := F.new 5 27 (by kernel_rfl)
          have e30 : a.eval (.tmp 30) = .bool (rightTextB s.data.toList) := F.new 8 30 (by kernel_rfl)
          exact ok_pick _ _ _ true rfl (wanted_none rfl) e27 ⟨Rb.refl _, e30⟩
        refine Owed.cons ?_ ?_
        · -- 10: slot 2 := Op.assign (Operand.tmp 31)
          intro a w hR F
          have e31 : a.eval (.tmp 31) = .bool (rightTextB s.data.toList) := F.new 9 31 (by kernel_rfl)
          exact ok_assign _ rfl (wanted_none rfl) ⟨Rb.refl _, e31⟩
        exact Owed.nil
      case fin =>
        intro y w2 hR hy
        have e10 : y 10 = .bool (rightTextB s.data.toList) := hy 10 _ rfl
        have HR := Lib.hid hR
        clear hy hR
        simp only [putAll, Act.put, List.setIfInBounds_toArray, List.set_cons_zero, List.set_cons_succ]
        rw [e10]
        go_wp2
        go_ret
        exact ⟨ret_bool (right3b_end n s H0.out), Below.trans ((Below.refl _ w0).alloc (Nat.le_refl _) _) (Below.mono HR.out (by simp))⟩
    · have H0 := Lib.hid h0
      clear h0
      go_enter Tryd.func75, Tryd.ntmps75
      go_wp2_with fail
      refine wp_region_specs (R := Rb) (S := [Spec.eq (vv (3) (n) (s)), Spec.eq (.pointer (some ⟨w0.heap.size, 2, none⟩)), Spec.eq (.string (s)), Spec.eq (vv (3) (0) (s)), Spec.eq (.bool false), Spec.eq (.bool false), Spec.eq (undef), Spec.eq (undef), Spec.eq (undef), Spec.eq (.bool false), Spec.eq (.bool false)]) (n := 1) (size := 32) (by kernel_rfl) Rb.trans (Rb.drew _) rfl (by kernel_rfl) ?owed ?fin
      case owed =>
        refine Owed.cons ?_ ?_
        · -- 0: slot 22 := Op.load 23 (Operand.tmp 1)
          intro a w hR F
          have e1 : a.eval (.tmp 1) = .pointer (some ⟨w0.heap.size, 0, none⟩) := F.old 1 (by kernel_rfl)
          exact ok_load _ _ rfl (wanted_none rfl) e1 ((HeldV.new w0 3 n s _).rb hR).load ⟨Rb.refl _, rfl⟩
        refine Owed.cons ?_ ?_
        · -- 1: slot 23 := Op.fieldAddr 23 (Operand.tmp 1) 2
          intro a w hR F
          have e1 : a.eval (.tmp 1) = .pointer (some ⟨w0.heap.size, 0, none⟩) := F.old 1 (by kernel_rfl)
          exact ok_field _ 2 _ (by decide) rfl (wanted_none rfl) e1 ⟨Rb.refl _, rfl⟩
        refine Owed.cons ?_ ?_
        · -- 2: slot 24 := Op.load 9 (Operand.tmp 23)
          intro a w hR F
          have e23 : a.eval (.tmp 23) = .pointer (some ⟨w0.heap.size, 2, none⟩) := F.new 1 23 (by kernel_rfl)
          exact ok_load _ _ rfl (wanted_none rfl) e23 ((HeldV.new w0 3 n s _).rb hR).f2 ⟨Rb.refl _, rfl⟩
        refine Owed.cons ?_ ?_
        · -- 3: slot 25 := Op.call { callee := Callee.value (Operand.func 22), args := #[Operand.tmp 24], argTypes := #[9] }
          intro a w hR F
          have e24 : a.eval (.tmp 24) = .string (s) := F.new 2 24 (by kernel_rfl)
          refine ok_call 91 _ _ #[.string (s)] rfl (wanted_none rfl) (by simp [e24]) (Tryd.call91 _ _) ?_
          exact val_call_below (vtext_any s w)
        refine Owed.cons ?_ ?_
        · -- 4: slot 26 := Op.binOp BinOp.eql 23 (Operand.tmp 22) (Operand.tmp 25) 23
          intro a w hR F
          have e22 : a.eval (.tmp 22) = vv (3) (n) (s) := F.new 0 22 (by kernel_rfl)
          have e25 : a.eval (.tmp 25) = vv (3) (0) (s) := F.new 3 25 (by kernel_rfl)
          refine ok_bin _ _ _ _ _ rfl (wanted_none rfl) e22 e25 (run_eqlV _ _ _ _ _ _ _ _) ⟨Rb.refl _, ?_⟩
          exact congrArg Value.bool (right3a n s H0.out)
        refine Owed.cons ?_ ?_
        · -- 5: slot 27 := Op.move (Operand.tmp 26)
          intro a w hR F
          have e26 : a.eval (.tmp 26) = .bool false := F.new 4 26 (by kernel_rfl)
          exact ok_move _ rfl (wanted_none rfl) ⟨Rb.refl _, e26⟩
        refine Owed.cons ?_ ?_
        · -- 6: slot 28 := Op.fieldAddr 23 (Operand.tmp 1) 2
          intro a w hR F
          have e27 : a.eval (.tmp 27) = .bool false := F.new 5 27 (by kernel_rfl)
          exact ok_skip (wanted_false (j := 5) (d := 27) rfl (by kernel_rfl) e27) ⟨Rb.refl _, rfl⟩
        refine Owed.cons ?_ ?_
        · -- 7: slot 29 := Op.load 9 (Operand.tmp 28)
          intro a w hR F
          have e27 : a.eval (.tmp 27) = .bool false := F.new 5 27 (by kernel_rfl)
          exact ok_skip (wanted_false (j := 5) (d := 27) rfl (by kernel_rfl) e27) ⟨Rb.refl _, rfl⟩
        refine Owed.cons ?_ ?_
        · -- 8: slot 30 := Op.call { callee := Callee.value (Operand.func 34), args := #[Operand.tmp 29], argTypes := #[9] }
          intro a w hR F
          have e27 : a.eval (.tmp 27) = .bool false := F.new 5 27 (by kernel_rfl)
          exact ok_skip (wanted_false (j := 5) (d := 27) rfl (by kernel_rfl) e27) ⟨Rb.refl _, rfl⟩
        refine Owed.cons ?_ ?_
        · -- 9: slot 31 := Op.pick (Operand.tmp 27) (Operand.tmp 30) (Operand.const (Value.bool false))
          intro a w hR F
          have e27 : a.eval (.tmp 27) = .bool false := F.new 5 27 (by kernel_rfl)
          exact ok_pick _ _ _ false rfl (wanted_none rfl) e27 ⟨Rb.refl _, rfl⟩
        refine Owed.cons ?_ ?_
        · -- 10: slot 2 := Op.assign (Operand.tmp 31)
          intro a w hR F
          have e31 : a.eval (.tmp 31) = .bool false := F.new 9 31 (by kernel_rfl)
          exact ok_assign _ rfl (wanted_none rfl) ⟨Rb.refl _, e31⟩
        exact Owed.nil
      case fin =>
        intro y w2 hR hy
        have e10 : y 10 = .bool false := hy 10 _ rfl
        have HR := Lib.hid hR
        clear hy hR
        simp only [putAll, Act.put, List.setIfInBounds_toArray, List.set_cons_zero, List.set_cons_succ]
        rw [e10]
        go_wp2
        go_ret
        exact ⟨ret_bool (right3a_end n s H0.out), Below.trans ((Below.refl _ w0).alloc (Nat.le_refl _) _) (Below.mono HR.out (by simp))⟩
  · have Hr : Hid (false = rightB k n s.data.toList) := by
      show false = rightB k n s.data.toList
      unfold rightB; rw [if_neg h1, if_neg h2, if_neg h3]
    go_enter Tryd.func75, Tryd.ntmps75
    go_wp2
    go_ret
    exact ⟨ret_bool Hr.out, (Below.refl _ _).alloc (Nat.le_refl _) _⟩
end Go.Proofs.YtolfeellcdoopaaDoor
