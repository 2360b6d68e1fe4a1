/-
  Layer 4: the document's log; its Free.
-/
import Derived.Test.YtbdgdmieggpmhaaW18
namespace Go.Proofs.Ytbdgdmieggpmhaa.L4
open Go.ChangeShapes Go.WideShapes Go.ChangeAt Go.RowKit Oct By Reg L3
set_option linter.unusedVariables false

/-- the document's log -/
abbrev Lv (D : Dk) (r : Rm) (g k : Nat) : Value := .agg #[.int .i64 D.room, .string (str D.sure), .string (str D.rest), r.nv, r.sv, .int .u32 g, .int .i64 k]
abbrev lcs (D : Dk) (r : Rm) (g k : Nat) : List Value := [.int .i64 D.room, .string (str D.sure), .string (str D.rest), r.nv, r.sv, .int .u32 g, .int .i64 k]
abbrev zero7 : List Value := [.int .i64 0, .string ⟨#[]⟩, .string ⟨#[]⟩, .slice none 0 0, .slice none 0 0, .int .u32 0, .int .i64 0]
theorem sizeX : (Try.prog.info? 52).map (·.size) = some 7 := by kernel_rfl
theorem zeroX : (Try.prog.info? 52).map (·.zero) = some (some (.agg zero7.toArray)) := by kernel_rfl
theorem lcs_one {w : World} {D : Dk} {r : Rm} {g k : Nat} (h : HeldR w r D) : ∀ v ∈ lcs D r g k, v.oneCell' = true := by
  intro v hv
  simp at hv
  rcases hv with rfl | rfl | rfl | rfl | rfl | rfl | rfl
  · rfl
  · rfl
  · rfl
  · exact h.n.one.2
  · exact h.s.one.2
  · rfl
  · rfl
section
variable {w : World} {B : Nat} {a0 a1 a2 a3 a4 a5 a6 : Value}
theorem load_X (h : Blk w B 52 [a0, a1, a2, a3, a4, a5, a6]) : (Instr.loadAt 52 (.pointer (some ⟨B, 0, none⟩))).run Try.prog w = .ok (.agg #[a0, a1, a2, a3, a4, a5, a6]) w := by
  obtain ⟨z0, z1, z2, z3, z4, z5, z6⟩ := h.cells7
  simp [Instr.loadAt, go_sem, z0, z1, z2, z3, z4, z5, z6]
theorem load_XD (h : Blk w B 52 [a0, a1, a2, a3, a4, a5, a6]) : (Instr.loadAt 50 (.pointer (some ⟨B, 0, none⟩))).run Try.prog w = .ok (.agg #[a0, a1, a2, a3, a4]) w := by
  obtain ⟨z0, z1, z2, z3, z4, z5, z6⟩ := h.cells7
  simp [Instr.loadAt, go_sem, z0, z1, z2, z3, z4]
end
section
variable {ops : Array Oper} {o : Oper} {a : Act} {w : World} {T : World → Value → Prop}
theorem ok_fieldX {B : Nat} (x : Operand) (i j : Nat) (hi : i = 0 ∧ j = 0 ∨ i = 1 ∧ j = 5 ∨ i = 2 ∧ j = 6) (ho : o.op = .fieldAddr 52 x i) (hw : Region.wanted o (yielded ops a.tmps) = true) (hx : a.eval x = .pointer (some ⟨B, 0, none⟩))
    (h : T w (.pointer (some ⟨B, j, none⟩))) : okAt Try.prog ops o a w T := by
  refine ok_value (w' := w) (v := .pointer (some ⟨B, j, none⟩)) hw ?_ h
  simp only [execOp, ho, hx]
  rcases hi with ⟨rfl, rfl⟩ | ⟨rfl, rfl⟩ | ⟨rfl, rfl⟩ <;> simp [go_sem]
end

set_option maxRecDepth 100000 in
theorem rfree_any (D : Dk) (r : Rm) (g k : Nat) (w0 : World) (ok : D.Ok) (hk : k ≤ 1048576) :
    Calls Try.prog 28 #[Lv D r g k] w0 fun e w' => e = .returned (.int .i64 (freeN D k : Nat)) ∧ Rb w0 w' := by
  have HOK := Lib.hid ok
  have HZ := Lib.hid (show (str D.log).size ≤ D.room ∧ D.room ≤ 1048576 ∧ k ≤ 1048576 by rw [str_size]; exact ⟨ok.1, ok.2.1, hk⟩)
  have HB := Lib.hid (Blk.new w0 52 (lcs D r g k))
  have HN := Lib.hid (show Rb w0 (w0.alloc (.cells (lcs D r g k).toArray 52)) from (Below.refl _ _).alloc (Nat.le_refl _) _)
  clear ok hk
  go_enter Try.func28, Try.ntmps28
  go_upto_region 1 with (fail)
  refine wp_region_specs (R := Rb) (S := [Spec.eq (.pointer (some ⟨w0.heap.size, 0, none⟩)), Spec.eq (.pointer (some ⟨w0.heap.size, 0, none⟩)), Spec.eq (.int .i64 ((D.room : Int))), Spec.eq (.pointer (some ⟨w0.heap.size, 0, none⟩)), Spec.eq (refv D r), Spec.eq (strV (D.log)), Spec.eq (.int .i64 (((str (D.log)).size : Int))), Spec.eq (.int .i64 (((D.room : Int)) - (((str (D.log)).size : Int)))), Spec.eq (.pointer (some ⟨w0.heap.size, 6, none⟩)), Spec.eq (.int .i64 ((k : Int))), Spec.eq (.int .i64 ((((D.room : Int)) - (((str (D.log)).size : Int))) - ((k : Int)))), Spec.eq (.int .i64 ((((D.room : Int)) - (((str (D.log)).size : Int))) - ((k : Int))))]) (n := 1) (size := 18) (by kernel_rfl) Rb.trans (Rb.drew _) rfl (by kernel_rfl) ?owed ?fin
  case owed =>
    refine Owed.cons ?_ ?_
    · -- 0: slot 4 := Op.fieldAddr 52 (Operand.tmp 1) 0
      intro a w hR F
      have e1 : a.eval (.tmp 1) = .pointer (some ⟨w0.heap.size, 0, none⟩) := F.old 1 (by kernel_rfl)
      exact ok_fieldX _ 0 0 (by decide) rfl (wanted_none rfl) e1 ⟨Rb.refl _, rfl⟩
    refine Owed.cons ?_ ?_
    · -- 1: slot 5 := Op.fieldAddr 50 (Operand.tmp 4) 0
      intro a w hR F
      have e4 : a.eval (.tmp 4) = .pointer (some ⟨w0.heap.size, 0, none⟩) := F.new 0 4 (by kernel_rfl)
      exact ok_fieldR _ 0 (by decide) rfl (wanted_none rfl) e4 ⟨Rb.refl _, rfl⟩
    refine Owed.cons ?_ ?_
    · -- 2: slot 6 := Op.load 3 (Operand.tmp 5)
      intro a w hR F
      have e5 : a.eval (.tmp 5) = .pointer (some ⟨w0.heap.size, 0, none⟩) := F.new 1 5 (by kernel_rfl)
      exact ok_load _ _ rfl (wanted_none rfl) e5 (load_int ((HB.out.rb hR).cell 0)) ⟨Rb.refl _, rfl⟩
    refine Owed.cons ?_ ?_
    · -- 3: slot 7 := Op.fieldAddr 52 (Operand.tmp 1) 0
      intro a w hR F
      have e1 : a.eval (.tmp 1) = .pointer (some ⟨w0.heap.size, 0, none⟩) := F.old 1 (by kernel_rfl)
      exact ok_fieldX _ 0 0 (by decide) rfl (wanted_none rfl) e1 ⟨Rb.refl _, rfl⟩
    refine Owed.cons ?_ ?_
    · -- 4: slot 8 := Op.load 50 (Operand.tmp 7)
      intro a w hR F
      have e7 : a.eval (.tmp 7) = .pointer (some ⟨w0.heap.size, 0, none⟩) := F.new 3 7 (by kernel_rfl)
      exact ok_load _ _ rfl (wanted_none rfl) e7 (load_XD (HB.out.rb hR)) ⟨Rb.refl _, rfl⟩
    refine Owed.cons ?_ ?_
    · -- 5: slot 9 := Op.call { callee := Callee.value (Operand.func 32), args := #[Operand.tmp 8], argTypes := #[50] }
      intro a w hR F
      have e8 : a.eval (.tmp 8) = refv D r := F.new 4 8 (by kernel_rfl)
      refine ok_call 32 _ _ #[refv D r] rfl (wanted_none rfl) (by simp [e8]) (Try.call32 _ _) ?_
      exact val_call_rb (rlog_any D r w HOK.out)
    refine Owed.cons ?_ ?_
    · -- 6: slot 10 := Op.call { callee := Callee.builtin Builtin.len, args := #[Operand.tmp 9], argTypes := #[9] }
      intro a w hR F
      have e9 : a.eval (.tmp 9) = strV (D.log) := F.new 5 9 (by kernel_rfl)
      exact ok_len_str _ _ (str (D.log)) Try.underlying9 rfl (wanted_none rfl) e9 ⟨Rb.refl _, rfl⟩
    refine Owed.cons ?_ ?_
    · -- 7: slot 11 := Op.binOp BinOp.sub 3 (Operand.tmp 6) (Operand.tmp 10) 3
      intro a w hR F
      have e6 : a.eval (.tmp 6) = .int .i64 ((D.room : Int)) := F.new 2 6 (by kernel_rfl)
      have e10 : a.eval (.tmp 10) = .int .i64 (((str (D.log)).size : Int)) := F.new 6 10 (by kernel_rfl)
      exact ok_bin _ _ _ _ _ rfl (wanted_none rfl) e6 e10 (run_sub_i64 _ _ _ _ _ (by have := HZ.out; omega) (by have := HZ.out; omega)) ⟨Rb.refl _, rfl⟩
    refine Owed.cons ?_ ?_
    · -- 8: slot 12 := Op.fieldAddr 52 (Operand.tmp 1) 2
      intro a w hR F
      have e1 : a.eval (.tmp 1) = .pointer (some ⟨w0.heap.size, 0, none⟩) := F.old 1 (by kernel_rfl)
      exact ok_fieldX _ 2 6 (by decide) rfl (wanted_none rfl) e1 ⟨Rb.refl _, rfl⟩
    refine Owed.cons ?_ ?_
    · -- 9: slot 13 := Op.load 3 (Operand.tmp 12)
      intro a w hR F
      have e12 : a.eval (.tmp 12) = .pointer (some ⟨w0.heap.size, 6, none⟩) := F.new 8 12 (by kernel_rfl)
      exact ok_load _ _ rfl (wanted_none rfl) e12 (load_int ((HB.out.rb hR).cell 6)) ⟨Rb.refl _, rfl⟩
    refine Owed.cons ?_ ?_
    · -- 10: slot 14 := Op.binOp BinOp.sub 3 (Operand.tmp 11) (Operand.tmp 13) 3
      intro a w hR F
      have e11 : a.eval (.tmp 11) = .int .i64 (((D.room : Int)) - (((str (D.log)).size : Int))) := F.new 7 11 (by kernel_rfl)
      have e13 : a.eval (.tmp 13) = .int .i64 ((k : Int)) := F.new 9 13 (by kernel_rfl)
      exact ok_bin _ _ _ _ _ rfl (wanted_none rfl) e11 e13 (run_sub_i64 _ _ _ _ _ (by have := HZ.out; omega) (by have := HZ.out; omega)) ⟨Rb.refl _, rfl⟩
    refine Owed.cons ?_ ?_
    · -- 11: slot 3 := Op.assign (Operand.tmp 14)
      intro a w hR F
      have e14 : a.eval (.tmp 14) = .int .i64 ((((D.room : Int)) - (((str (D.log)).size : Int))) - ((k : Int))) := F.new 10 14 (by kernel_rfl)
      exact ok_assign _ rfl (wanted_none rfl) ⟨Rb.refl _, e14⟩
    exact Owed.nil
  case fin =>
    intro y w2 hR hy
    have e11 : y 11 = .int .i64 (((D.room : Int) - ((str (D.log)).size : Int)) - (k : Int)) := hy 11 _ rfl
    have HR := Lib.hid hR
    clear hy hR
    simp only [putAll, Act.put, List.setIfInBounds_toArray, List.set_cons_zero, List.set_cons_succ]
    rw [e11]
    clear e11
    rw [str_size]
    have HR2 := Lib.hid (Rb.trans _ _ _ HN.out HR.out)
    have h := HZ.out
    rw [str_size] at h
    by_cases hn : (D.room : Int) - (D.log.length : Int) - (k : Int) < 0
    · have he := Lib.hid (show freeN D k = 0 by unfold freeN; omega)
      clear h
      go_wp2
      go_ret
      exact ⟨by rw [he.out]; rfl, HR2.out⟩
    · have he := Lib.hid (show ((freeN D k : Nat) : Int) = (D.room : Int) - (D.log.length : Int) - (k : Int) by unfold freeN; omega)
      clear h
      go_wp2
      go_ret
      exact ⟨by rw [he.out]; rfl, HR2.out⟩
end Go.Proofs.Ytbdgdmieggpmhaa.L4
