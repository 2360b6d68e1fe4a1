/-
  Layer 3: bytes.Equal, sameSlots, Same.
-/
import Derived.Test.YtbdgdmieggpmhaaK11
import Derived.Deep.Cut
import Derived.Deep.DeepCutAuto
namespace Go.Proofs.Ytbdgdmieggpmhaa.L3
open Go.ChangeShapes Go.WideShapes Go.ChangeAt Go.RowKit By Reg
set_option linter.unusedVariables false

section
variable {ops : Array Oper} {o : Oper} {a : Act} {w : World} {T : World → Value → Prop}
theorem ok_index53 {B : Nat} (x i : Operand) (k : Nat) (hk : k < 2) (ho : o.op = .indexAddr 91 x i) (hw : Region.wanted o (yielded ops a.tmps) = true) (hx : a.eval x = .pointer (some ⟨B, 0, none⟩)) (hi : a.eval i = .int .i64 (k : Int))
    (h : T w (.pointer (some ⟨B, k, none⟩))) : okAt Try.prog ops o a w T := by
  refine ok_value (w' := w) (v := .pointer (some ⟨B, k, none⟩)) hw ?_ h
  simp only [execOp, ho, hx, hi]
  have hk' : k = 0 ∨ k = 1 := by omega
  rcases hk' with rfl | rfl <;> simp [go_sem]
end

set_option maxRecDepth 100000 in
theorem equal_any (v u : Value) (xs : List UInt8) (w0 : World) (hx : Bs w0 v xs) (hu : Bs w0 u xs) : Calls Try.prog 64 #[v, u] w0 fun e w' => e = .returned (.bool true) ∧ Rb w0 w' := by
  have HX := Lib.hid hx
  have HU := Lib.hid hu
  clear hx hu
  go_enter Try.func64, Try.ntmps64
  go_upto_region 1 with (fail)
  refine wp_region_plain_specs (R := Rb) (S := [Spec.eq (v), Spec.eq (strV (xs)), Spec.eq (u), Spec.eq (strV (xs)), Spec.eq (.bool true), Spec.eq (.bool true)]) (n := 1) (size := 10) Rb.trans (Rb.refl _) rfl (by kernel_rfl) ?owed ?fin
  case owed =>
    refine Owed.cons ?_ ?_
    · -- 0: slot 5 := Op.move (Operand.tmp 0)
      intro a w hR F
      have e0 : a.eval (.tmp 0) = v := F.old 0 (by kernel_rfl)
      exact ok_move _ rfl (wanted_none rfl) ⟨Rb.refl _, e0⟩
    refine Owed.cons ?_ ?_
    · -- 1: slot 6 := Op.convert 23 9 (Operand.tmp 5)
      intro a w hR F
      have e5 : a.eval (.tmp 5) = v := F.new 0 5 (by kernel_rfl)
      exact ok_conv _ _ _ rfl (wanted_none rfl) (run_convert_Bs (xs := xs) (by rw [e5]; exact HX.out.below hR) 23 5 9 Try.underlying23 Try.underlying5 Try.underlying9) ⟨Rb.refl _, rfl⟩
    refine Owed.cons ?_ ?_
    · -- 2: slot 7 := Op.move (Operand.tmp 1)
      intro a w hR F
      have e1 : a.eval (.tmp 1) = u := F.old 1 (by kernel_rfl)
      exact ok_move _ rfl (wanted_none rfl) ⟨Rb.refl _, e1⟩
    refine Owed.cons ?_ ?_
    · -- 3: slot 8 := Op.convert 23 9 (Operand.tmp 7)
      intro a w hR F
      have e7 : a.eval (.tmp 7) = u := F.new 2 7 (by kernel_rfl)
      exact ok_conv _ _ _ rfl (wanted_none rfl) (run_convert_Bs (xs := xs) (by rw [e7]; exact HU.out.below hR) 23 5 9 Try.underlying23 Try.underlying5 Try.underlying9) ⟨Rb.refl _, rfl⟩
    refine Owed.cons ?_ ?_
    · -- 4: slot 9 := Op.binOp BinOp.eql 9 (Operand.tmp 6) (Operand.tmp 8) 9
      intro a w hR F
      have e6 : a.eval (.tmp 6) = strV (xs) := F.new 1 6 (by kernel_rfl)
      have e8 : a.eval (.tmp 8) = strV (xs) := F.new 3 8 (by kernel_rfl)
      refine ok_bin _ _ _ _ _ rfl (wanted_none rfl) e6 e8 (run_eql_strV _ _ _ _ _) ⟨Rb.refl _, ?_⟩
      exact congrArg Value.bool (by simp)
    refine Owed.cons ?_ ?_
    · -- 5: slot 4 := Op.assign (Operand.tmp 9)
      intro a w hR F
      have e9 : a.eval (.tmp 9) = .bool true := F.new 4 9 (by kernel_rfl)
      exact ok_assign _ rfl (wanted_none rfl) ⟨Rb.refl _, e9⟩
    exact Owed.nil
  case fin =>
    intro y w2 hR hy
    have e5 : y 5 = .bool true := hy 5 _ rfl
    have HR := Lib.hid hR
    clear hy hR
    simp only [putAll, Act.put, List.setIfInBounds_toArray, List.set_cons_zero, List.set_cons_succ]
    rw [e5]
    clear e5
    go_wp2
    go_ret
    exact ⟨rfl, HR.out⟩

structure BoxS (w0 : World) (v0 v1 u0 u1 : Value) (w : World) : Prop where
  x : Blk w w0.heap.size 91 [v0, v1]
  y : Blk w (w0.heap.size + 1) 91 [u0, u1]
  rb : Rb w0 w
set_option maxRecDepth 100000 in
theorem sameslots_any (v0 v1 u0 u1 : Value) (xs ys : List UInt8) (w0 : World) (hx0 : Bs w0 v0 xs) (hu0 : Bs w0 u0 xs) (hx1 : Bs w0 v1 ys) (hu1 : Bs w0 u1 ys) :
    Calls Try.prog 65 #[.agg #[v0, v1], .agg #[u0, u1]] w0 fun e w' => e = .returned (.bool true) ∧ Rb w0 w' := by
  have HX0 := Lib.hid hx0
  have HX1 := Lib.hid hx1
  have HU0 := Lib.hid hu0
  have HU1 := Lib.hid hu1
  clear hx0 hx1 hu0 hu1
  go_enter Try.func65, Try.ntmps65
  go_wp2_with fail
  have ha : Blk ((w0.alloc (.cells #[v0, v1] 91)).alloc (.cells #[u0, u1] 91)) w0.heap.size 91 [v0, v1] := (Blk.new w0 _ [v0, v1]).same (heap_alloc_old _ _ (by simp))
  have hc : Blk ((w0.alloc (.cells #[v0, v1] 91)).alloc (.cells #[u0, u1] 91)) (w0.heap.size + 1) 91 [u0, u1] := by
    have := Blk.new (w0.alloc (.cells #[v0, v1] 91)) 91 [u0, u1]
    simpa using this
  have hb : Rb w0 ((w0.alloc (.cells #[v0, v1] 91)).alloc (.cells #[u0, u1] 91)) := ((Below.refl _ _).alloc (Nat.le_refl _) _).alloc (by simp) _
  generalize (w0.alloc (Obj.cells #[v0, v1] 91)).alloc (Obj.cells #[u0, u1] 91) = wt at *
  have HS := Lib.hid (show BoxS w0 v0 v1 u0 u1 wt from ⟨ha, hc, hb⟩)
  clear ha hb hc
  go_loopw [6] (fun i wr => ∃ k : Nat, k ≤ 2 ∧ i = .int .i64 k ∧ BoxS w0 v0 v1 u0 u1 wr) (fun i _ => 2 - (intOf i).toNat)
  case atStart => exact ⟨0, Nat.zero_le _, rfl, HS.out⟩
  case round =>
    obtain ⟨k, hk, rfl, hS⟩ := hrel
    have HA := Lib.hid hS.x
    have HC := Lib.hid hS.y
    have HB := Lib.hid hS.rb
    clear HS hS
    rcases (by omega : k = 0 ∨ k = 1 ∨ k = 2) with rfl | rfl | rfl
    · go_upto_region 4 with (fail)
      refine wp_region_specs (R := Rb) (S := [Spec.eq (.int .i64 (0)), Spec.eq (.pointer (some ⟨w0.heap.size, 0, none⟩)), Spec.eq (v0), Spec.eq (.int .i64 (0)), Spec.eq (.pointer (some ⟨w0.heap.size + 1, 0, none⟩)), Spec.eq (u0), Spec.eq (.bool true), Spec.eq (.bool false)]) (n := 1) (size := 18) (by kernel_rfl) Rb.trans (Rb.drew _) rfl (by kernel_rfl) ?owed ?fin
      case owed =>
        refine Owed.cons ?_ ?_
        · -- 0: slot 9 := Op.move (Operand.tmp 5)
          intro a w hR F
          have e5 : a.eval (.tmp 5) = .int .i64 (0) := F.old 5 (by kernel_rfl)
          exact ok_move _ rfl (wanted_none rfl) ⟨Rb.refl _, e5⟩
        refine Owed.cons ?_ ?_
        · -- 1: slot 10 := Op.indexAddr 91 (Operand.tmp 2) (Operand.tmp 9)
          intro a w hR F
          have e2 : a.eval (.tmp 2) = .pointer (some ⟨w0.heap.size, 0, none⟩) := F.old 2 (by kernel_rfl)
          have e9 : a.eval (.tmp 9) = .int .i64 (0) := F.new 0 9 (by kernel_rfl)
          exact ok_index53 _ _ 0 (by decide) rfl (wanted_none rfl) e2 e9 ⟨Rb.refl _, rfl⟩
        refine Owed.cons ?_ ?_
        · -- 2: slot 11 := Op.load 23 (Operand.tmp 10)
          intro a w hR F
          have e10 : a.eval (.tmp 10) = .pointer (some ⟨w0.heap.size, 0, none⟩) := F.new 1 10 (by kernel_rfl)
          exact ok_load _ _ rfl (wanted_none rfl) e10 (load_bytes ((HA.out.rb hR).cell 0)) ⟨Rb.refl _, rfl⟩
        refine Owed.cons ?_ ?_
        · -- 3: slot 12 := Op.move (Operand.tmp 5)
          intro a w hR F
          have e5 : a.eval (.tmp 5) = .int .i64 (0) := F.old 5 (by kernel_rfl)
          exact ok_move _ rfl (wanted_none rfl) ⟨Rb.refl _, e5⟩
        refine Owed.cons ?_ ?_
        · -- 4: slot 13 := Op.indexAddr 91 (Operand.tmp 3) (Operand.tmp 12)
          intro a w hR F
          have e3 : a.eval (.tmp 3) = .pointer (some ⟨w0.heap.size + 1, 0, none⟩) := F.old 3 (by kernel_rfl)
          have e12 : a.eval (.tmp 12) = .int .i64 (0) := F.new 3 12 (by kernel_rfl)
          exact ok_index53 _ _ 0 (by decide) rfl (wanted_none rfl) e3 e12 ⟨Rb.refl _, rfl⟩
        refine Owed.cons ?_ ?_
        · -- 5: slot 14 := Op.load 23 (Operand.tmp 13)
          intro a w hR F
          have e13 : a.eval (.tmp 13) = .pointer (some ⟨w0.heap.size + 1, 0, none⟩) := F.new 4 13 (by kernel_rfl)
          exact ok_load _ _ rfl (wanted_none rfl) e13 (load_bytes ((HC.out.rb hR).cell 0)) ⟨Rb.refl _, rfl⟩
        refine Owed.cons ?_ ?_
        · -- 6: slot 15 := Op.call { callee := Callee.value (Operand.func 64), args := #[Operand.tmp 11, Operand.tmp 14], argTy
          intro a w hR F
          have e11 : a.eval (.tmp 11) = v0 := F.new 2 11 (by kernel_rfl)
          have e14 : a.eval (.tmp 14) = u0 := F.new 5 14 (by kernel_rfl)
          refine ok_call 64 _ _ #[v0, u0] rfl (wanted_none rfl) (by simp [e11, e14]) (Try.call64 _ _) ?_
          exact val_call_rb (equal_any v0 u0 _ w (HX0.out.below (Rb.trans _ _ _ HB.out hR)) (HU0.out.below (Rb.trans _ _ _ HB.out hR)))
        refine Owed.cons ?_ ?_
        · -- 7: slot 16 := Op.unOp UnOp.not 4 (Operand.tmp 15)
          intro a w hR F
          have e15 : a.eval (.tmp 15) = .bool true := F.new 6 15 (by kernel_rfl)
          exact ok_not _ _ true rfl (wanted_none rfl) e15 ⟨Rb.refl _, rfl⟩
        exact Owed.nil
      case fin =>
        intro y w2 hR hy
        have e7 : y 7 = .bool false := hy 7 _ rfl
        have HR := Lib.hid hR
        clear hy hR
        simp only [putAll, Act.put, List.setIfInBounds_toArray, List.set_cons_zero, List.set_cons_succ]
        rw [e7]
        clear e7
        have HA := Lib.hid (HA.out.rb HR.out)
        have HC := Lib.hid (HC.out.rb HR.out)
        have HB := Lib.hid (Rb.trans _ _ _ HB.out HR.out)
        clear HR
        go_wp2
        go_roundw
        case rel => exact ⟨1, by omega, by go_num, HA.out, HC.out, HB.out⟩
        case measure => simp [intOf]
    · go_upto_region 4 with (fail)
      refine wp_region_specs (R := Rb) (S := [Spec.eq (.int .i64 (1)), Spec.eq (.pointer (some ⟨w0.heap.size, 1, none⟩)), Spec.eq (v1), Spec.eq (.int .i64 (1)), Spec.eq (.pointer (some ⟨w0.heap.size + 1, 1, none⟩)), Spec.eq (u1), Spec.eq (.bool true), Spec.eq (.bool false)]) (n := 1) (size := 18) (by kernel_rfl) Rb.trans (Rb.drew _) rfl (by kernel_rfl) ?owed ?fin
      case owed =>
        refine Owed.cons ?_ ?_
        · -- 0: slot 9 := Op.move (Operand.tmp 5)
          intro a w hR F
          have e5 : a.eval (.tmp 5) = .int .i64 (1) := F.old 5 (by kernel_rfl)
          exact ok_move _ rfl (wanted_none rfl) ⟨Rb.refl _, e5⟩
        refine Owed.cons ?_ ?_
        · -- 1: slot 10 := Op.indexAddr 91 (Operand.tmp 2) (Operand.tmp 9)
          intro a w hR F
          have e2 : a.eval (.tmp 2) = .pointer (some ⟨w0.heap.size, 0, none⟩) := F.old 2 (by kernel_rfl)
          have e9 : a.eval (.tmp 9) = .int .i64 (1) := F.new 0 9 (by kernel_rfl)
          exact ok_index53 _ _ 1 (by decide) rfl (wanted_none rfl) e2 e9 ⟨Rb.refl _, rfl⟩
        refine Owed.cons ?_ ?_
        · -- 2: slot 11 := Op.load 23 (Operand.tmp 10)
          intro a w hR F
          have e10 : a.eval (.tmp 10) = .pointer (some ⟨w0.heap.size, 1, none⟩) := F.new 1 10 (by kernel_rfl)
          exact ok_load _ _ rfl (wanted_none rfl) e10 (load_bytes ((HA.out.rb hR).cell 1)) ⟨Rb.refl _, rfl⟩
        refine Owed.cons ?_ ?_
        · -- 3: slot 12 := Op.move (Operand.tmp 5)
          intro a w hR F
          have e5 : a.eval (.tmp 5) = .int .i64 (1) := F.old 5 (by kernel_rfl)
          exact ok_move _ rfl (wanted_none rfl) ⟨Rb.refl _, e5⟩
        refine Owed.cons ?_ ?_
        · -- 4: slot 13 := Op.indexAddr 91 (Operand.tmp 3) (Operand.tmp 12)
          intro a w hR F
          have e3 : a.eval (.tmp 3) = .pointer (some ⟨w0.heap.size + 1, 0, none⟩) := F.old 3 (by kernel_rfl)
          have e12 : a.eval (.tmp 12) = .int .i64 (1) := F.new 3 12 (by kernel_rfl)
          exact ok_index53 _ _ 1 (by decide) rfl (wanted_none rfl) e3 e12 ⟨Rb.refl _, rfl⟩
        refine Owed.cons ?_ ?_
        · -- 5: slot 14 := Op.load 23 (Operand.tmp 13)
          intro a w hR F
          have e13 : a.eval (.tmp 13) = .pointer (some ⟨w0.heap.size + 1, 1, none⟩) := F.new 4 13 (by kernel_rfl)
          exact ok_load _ _ rfl (wanted_none rfl) e13 (load_bytes ((HC.out.rb hR).cell 1)) ⟨Rb.refl _, rfl⟩
        refine Owed.cons ?_ ?_
        · -- 6: slot 15 := Op.call { callee := Callee.value (Operand.func 64), args := #[Operand.tmp 11, Operand.tmp 14], argTy
          intro a w hR F
          have e11 : a.eval (.tmp 11) = v1 := F.new 2 11 (by kernel_rfl)
          have e14 : a.eval (.tmp 14) = u1 := F.new 5 14 (by kernel_rfl)
          refine ok_call 64 _ _ #[v1, u1] rfl (wanted_none rfl) (by simp [e11, e14]) (Try.call64 _ _) ?_
          exact val_call_rb (equal_any v1 u1 _ w (HX1.out.below (Rb.trans _ _ _ HB.out hR)) (HU1.out.below (Rb.trans _ _ _ HB.out hR)))
        refine Owed.cons ?_ ?_
        · -- 7: slot 16 := Op.unOp UnOp.not 4 (Operand.tmp 15)
          intro a w hR F
          have e15 : a.eval (.tmp 15) = .bool true := F.new 6 15 (by kernel_rfl)
          exact ok_not _ _ true rfl (wanted_none rfl) e15 ⟨Rb.refl _, rfl⟩
        exact Owed.nil
      case fin =>
        intro y w2 hR hy
        have e7 : y 7 = .bool false := hy 7 _ rfl
        have HR := Lib.hid hR
        clear hy hR
        simp only [putAll, Act.put, List.setIfInBounds_toArray, List.set_cons_zero, List.set_cons_succ]
        rw [e7]
        clear e7
        have HA := Lib.hid (HA.out.rb HR.out)
        have HC := Lib.hid (HC.out.rb HR.out)
        have HB := Lib.hid (Rb.trans _ _ _ HB.out HR.out)
        clear HR
        go_wp2
        go_roundw
        case rel => exact ⟨2, by omega, by go_num, HA.out, HC.out, HB.out⟩
        case measure => simp [intOf]
    · go_wp2
      go_ret
      exact ⟨rfl, HB.out⟩
end Go.Proofs.Ytbdgdmieggpmhaa.L3
