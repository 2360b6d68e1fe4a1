/-
  Layer 4: the log in memory; its small calls.
-/
import Derived.Test.YtbdgdmieggpmhaaW4
import Derived.Test.YtbdgdmieggpmhaaL3
namespace Go.Proofs.Ytbdgdmieggpmhaa.L4
open Go.ChangeShapes Go.WideShapes Go.ChangeAt Go.RowKit Oct By Reg L3
set_option linter.unusedVariables false

section
variable {w : World} {a : Addr} {v : Value}
theorem load_pd (h : w.cell? a = some v) : (Instr.loadAt 43 (.pointer (some a))).run Try.prog w = .ok v w := by simp [Instr.loadAt, go_sem, h]
theorem load_u32 (h : w.cell? a = some v) : (Instr.loadAt 22 (.pointer (some a))).run Try.prog w = .ok v w := by simp [Instr.loadAt, go_sem, h]
end
section
variable {ops : Array Oper} {o : Oper} {a : Act} {w : World} {T : World → Value → Prop}
theorem ok_fieldL {B : Nat} (x : Operand) (i : Nat) (hi : i < 3) (ho : o.op = .fieldAddr 97 x i) (hw : Region.wanted o (yielded ops a.tmps) = true) (hx : a.eval x = .pointer (some ⟨B, 0, none⟩))
    (h : T w (.pointer (some ⟨B, i, none⟩))) : okAt Try.prog ops o a w T := by
  refine ok_value (w' := w) (v := .pointer (some ⟨B, i, none⟩)) hw ?_ h
  simp only [execOp, ho, hx]
  have hi' : i = 0 ∨ i = 1 ∨ i = 2 := by omega
  rcases hi' with rfl | rfl | rfl <;> simp [go_sem]
theorem ok_maxI (x y : Operand) (n m : Int) (ho : o.op = .call { callee := .builtin .max, args := #[x, y], argTypes := #[3, 3] }) (hw : Region.wanted o (yielded ops a.tmps) = true) (hx : a.eval x = .int .i64 n) (hy : a.eval y = .int .i64 m) (h : T w (.int .i64 (max n m))) : okAt Try.prog ops o a w T := by
  refine ok_value (w' := w) (v := .int .i64 (max n m)) hw ?_ h
  simp only [execOp, ho, resolve, invoke, Sem.run_bind, Sem.run_pure, Result.andThen_ok, List.map_toArray, List.map_cons, List.map_nil, hx, hy]
  simp [go_sem]
  omega
end

/-- a log in memory -/
structure HeldL (w : World) (lb : Nat) (m : Mem) (D : Dk) (g k : Nat) : Prop where
  disk : HeldK w m D
  blk : Blk w lb 97 [.pointer (some ⟨m.b, 0, none⟩), .int .u32 g, .int .i64 k]
  off : ¬ m.has lb
  hg : g < 4294967296
  hk : k ≤ 1048576
theorem Blk.cellsL {w : World} {N : Nat} {T : TypeId} {a0 a1 a2 : Value} (h : Blk w N T [a0, a1, a2]) : w.cell? ⟨N, 0, none⟩ = some a0 ∧ w.cell? ⟨N, 1, none⟩ = some a1 ∧ w.cell? ⟨N, 2, none⟩ = some a2 := ⟨h.cell 0, h.cell 1, h.cell 2⟩
theorem HeldL.rb {w w' : World} {lb : Nat} {m : Mem} {D : Dk} {g k : Nat} (h : HeldL w lb m D g k) (hb : Rb w w') : HeldL w' lb m D g k := ⟨h.disk.rb hb, h.blk.rb hb, h.off, h.hg, h.hk⟩

/-- what a call of the log keeps: all but the disk's block, its log's row, and the log's own block -/
structure KpL (lb : Nat) (m : Mem) (w w' : World) : Prop where
  os : w'.os = w.os
  tape : w'.tape = w.tape
  output : w'.output = w.output
  size : w.heap.size ≤ w'.heap.size
  block : ∀ k, k < w.heap.size → ¬ m.touch k → k ≠ lb → w'.heap[k]? = w.heap[k]?
theorem KpL.of_kp {lb : Nat} {m : Mem} {w w' : World} (h : Kp m w w') : KpL lb m w w' := ⟨h.os, h.tape, h.output, h.size, fun k h1 h2 _ => h.block k h1 h2⟩
theorem KpL.of_rb {lb : Nat} {m : Mem} {w w' : World} (h : Rb w w') : KpL lb m w w' := KpL.of_kp (Kp.of_rb h)
theorem KpL.trans {lb : Nat} {m m1 : Mem} {w w1 w2 : World} (h : KpL lb m w w1) (hn : New w m m1) (k : KpL lb m1 w1 w2) : KpL lb m w w2 :=
  ⟨k.os.trans h.os, k.tape.trans h.tape, k.output.trans h.output, Nat.le_trans h.size k.size, fun i hi ht he => by
    rw [k.block i (Nat.lt_of_lt_of_le hi h.size) (fun h' => by rcases hn.touch h' with h' | h'; exact ht h'; omega) he, h.block i hi ht he]⟩
theorem KpL.rb {lb : Nat} {m : Mem} {w w1 w2 : World} (h : KpL lb m w w1) (k : Rb w1 w2) : KpL lb m w w2 := h.trans (New.refl w m) (KpL.of_rb k)
theorem KpL.wrote {lb : Nat} {m : Mem} {w w1 w2 : World} (h : KpL lb m w w1) (k : Wrote lb w1 w2) : KpL lb m w w2 :=
  ⟨k.os.trans h.os, k.tape.trans h.tape, k.output.trans h.output, by rw [k.size]; exact h.size, fun i hi ht he => by rw [k.block i he, h.block i hi ht he]⟩
/-- the log behind a call -/
def TurnedL (w : World) (lb : Nat) (m : Mem) (D : Dk) (g k : Nat) (w' : World) : Prop := ∃ m', HeldL w' lb m' D g k ∧ New w m m' ∧ KpL lb m w w' ∧ ∀ j, m'.has j → m.has j ∨ w.heap.size ≤ j
theorem HeldL.turned {w w' : World} {lb : Nat} {m : Mem} {D D' : Dk} {g k : Nat} (h : HeldL w lb m D g k) (t : Turned w m D' w') : TurnedL w lb m D' g k w' := by
  obtain ⟨m', h1, h2, h3, h4⟩ := t
  have hlt := h.blk.lt
  refine ⟨m', ⟨h1, ?_, fun e => ?_, h.hg, h.hk⟩, h2, KpL.of_kp h3, h4⟩
  · have := h.blk.same (h3.block lb hlt fun e => h.off (.inl e))
    rw [h2.1]; exact this
  · rcases h4 lb e with h5 | h5
    · exact h.off h5
    · omega
theorem TurnedL.of_rb {w w1 w2 : World} {lb : Nat} {m : Mem} {D : Dk} {g k : Nat} (hr : Rb w w1) (t : TurnedL w1 lb m D g k w2) : TurnedL w lb m D g k w2 := by
  obtain ⟨m', h1, h2, h3, h4⟩ := t
  exact ⟨m', h1, (New.refl w m).trans hr.size h2, (KpL.of_rb hr).trans (New.refl w m) h3, fun j hj => (h4 j hj).imp id fun h => Nat.le_trans hr.size h⟩
theorem HeldL.same {w w' : World} {lb : Nat} {m : Mem} {D : Dk} {g k : Nat} (h : HeldL w lb m D g k) (hb : Rb w w') : TurnedL w lb m D g k w' := ⟨m, h.rb hb, New.refl w m, KpL.of_rb hb, fun j hj => .inl hj⟩
/-- a store into the log's own block -/
theorem HeldL.stored {w w' : World} {lb : Nat} {m : Mem} {D : Dk} {g k g' k' : Nat} (h : HeldL w lb m D g k) (hw : Wrote lb w w') (hb : Blk w' lb 97 [.pointer (some ⟨m.b, 0, none⟩), .int .u32 g', .int .i64 k']) (hg : g' < 4294967296) (hk : k' ≤ 1048576) : TurnedL w lb m D g' k' w' :=
  ⟨m, ⟨h.disk.same (by rw [hw.size]; exact Nat.le_refl _) fun j hj => hw.block j fun e => h.off (e ▸ hj), hb, h.off, hg, hk⟩, New.refl w m, ⟨hw.os, hw.tape, hw.output, by rw [hw.size]; exact Nat.le_refl _, fun j _ _ he => hw.block j he⟩, fun j hj => .inl hj⟩
theorem TurnedL.trans {w w1 w2 : World} {lb : Nat} {m : Mem} {D1 D2 : Dk} {g1 k1 g2 k2 : Nat} (t : TurnedL w lb m D1 g1 k1 w1) (n : ∀ m1, HeldL w1 lb m1 D1 g1 k1 → TurnedL w1 lb m1 D2 g2 k2 w2) : TurnedL w lb m D2 g2 k2 w2 := by
  obtain ⟨m1, h1, h2, h3, h4⟩ := t
  obtain ⟨m2, i1, i2, i3, i4⟩ := n m1 h1
  refine ⟨m2, i1, h2.trans h3.size i2, h3.trans h2 i3, fun j hj => ?_⟩
  rcases i4 j hj with h | h
  · exact h4 j h
  · exact .inr (Nat.le_trans h3.size h)

def freeN (D : Dk) (k : Nat) : Nat := D.room - D.log.length - k
theorem free_int {D : Dk} (ok : D.Ok) (k : Nat) : max ((D.room : Int) - (D.log.length : Nat) - (k : Int)) 0 = (freeN D k : Nat) := by
  have := ok.1
  unfold freeN
  omega

set_option maxRecDepth 100000 in
theorem free_any (lb : Nat) (m : Mem) (D : Dk) (g k : Nat) (w0 : World) (h : HeldL w0 lb m D g k) : Calls Try.prog 27 #[.pointer (some ⟨lb, 0, none⟩)] w0 fun e w' => e = .returned (.int .i64 (freeN D k : Nat)) ∧ Rb w0 w' := by
  have H := Lib.hid h
  have HB := Lib.hid h.blk
  have HF := Lib.hid (free_int h.disk.ok k)
  have HK := Lib.hid (show D.log.length ≤ D.room ∧ D.room ≤ 1048576 ∧ k ≤ 1048576 from ⟨h.disk.ok.1, h.disk.ok.2.1, h.hk⟩)
  clear h
  go_enter Try.func27, Try.ntmps27
  go_upto_region 3 with (fail)
  refine wp_region_specs (R := Rb) (S := [Spec.eq (.pointer (some ⟨lb, 0, none⟩)), Spec.eq (.pointer (some ⟨lb, 0, none⟩)), Spec.eq (.pointer (some ⟨lb, 0, none⟩)), Spec.eq (.pointer (some ⟨m.b, 0, none⟩)), Spec.eq (.int .i64 ((D.room : Int) - (D.log.length : Nat))), Spec.eq (.pointer (some ⟨lb, 0, none⟩)), Spec.eq (.pointer (some ⟨lb, 0, none⟩)), Spec.eq (.pointer (some ⟨lb, 2, none⟩)), Spec.eq (.int .i64 ((k : Int))), Spec.eq (.int .i64 (((D.room : Int) - (D.log.length : Nat)) - ((k : Int)))), Spec.eq (.int .i64 (max (((D.room : Int) - (D.log.length : Nat)) - ((k : Int))) 0)), Spec.eq (.int .i64 (max (((D.room : Int) - (D.log.length : Nat)) - ((k : Int))) 0))]) (n := 1) (size := 16) (by kernel_rfl) Rb.trans (Rb.drew _) rfl (by kernel_rfl) ?owed ?fin
  case owed =>
    refine Owed.cons ?_ ?_
    · -- 0: slot 5 := Op.move (Operand.tmp 0)
      intro a w hR F
      have e0 : a.eval (.tmp 0) = .pointer (some ⟨lb, 0, none⟩) := F.old 0 (by kernel_rfl)
      exact ok_move _ rfl (wanted_none rfl) ⟨Rb.refl _, e0⟩
    refine Owed.cons ?_ ?_
    · -- 1: slot 6 := Op.nilCheck (Operand.tmp 5)
      intro a w hR F
      have e5 : a.eval (.tmp 5) = .pointer (some ⟨lb, 0, none⟩) := F.new 0 5 (by kernel_rfl)
      exact ok_nilCheck _ rfl (wanted_none rfl) e5 ⟨Rb.refl _, rfl⟩
    refine Owed.cons ?_ ?_
    · -- 2: slot 7 := Op.fieldAddr 97 (Operand.tmp 6) 0
      intro a w hR F
      have e6 : a.eval (.tmp 6) = .pointer (some ⟨lb, 0, none⟩) := F.new 1 6 (by kernel_rfl)
      exact ok_fieldL _ 0 (by decide) rfl (wanted_none rfl) e6 ⟨Rb.refl _, rfl⟩
    refine Owed.cons ?_ ?_
    · -- 3: slot 8 := Op.load 43 (Operand.tmp 7)
      intro a w hR F
      have e7 : a.eval (.tmp 7) = .pointer (some ⟨lb, 0, none⟩) := F.new 2 7 (by kernel_rfl)
      exact ok_load _ _ rfl (wanted_none rfl) e7 (load_pd ((HB.out.rb hR).cell 0)) ⟨Rb.refl _, rfl⟩
    refine Owed.cons ?_ ?_
    · -- 4: slot 9 := Op.call { callee := Callee.value (Operand.func 61), args := #[Operand.tmp 8], argTypes := #[43] }
      intro a w hR F
      have e8 : a.eval (.tmp 8) = .pointer (some ⟨m.b, 0, none⟩) := F.new 3 8 (by kernel_rfl)
      refine ok_call 61 _ _ #[.pointer (some ⟨m.b, 0, none⟩)] rfl (wanted_none rfl) (by simp [e8]) (Try.call61 _ _) ?_
      exact val_call_rb (room_any m D w (H.out.disk.rb hR))
    refine Owed.cons ?_ ?_
    · -- 5: slot 10 := Op.move (Operand.tmp 0)
      intro a w hR F
      have e0 : a.eval (.tmp 0) = .pointer (some ⟨lb, 0, none⟩) := F.old 0 (by kernel_rfl)
      exact ok_move _ rfl (wanted_none rfl) ⟨Rb.refl _, e0⟩
    refine Owed.cons ?_ ?_
    · -- 6: slot 11 := Op.nilCheck (Operand.tmp 10)
      intro a w hR F
      have e10 : a.eval (.tmp 10) = .pointer (some ⟨lb, 0, none⟩) := F.new 5 10 (by kernel_rfl)
      exact ok_nilCheck _ rfl (wanted_none rfl) e10 ⟨Rb.refl _, rfl⟩
    refine Owed.cons ?_ ?_
    · -- 7: slot 12 := Op.fieldAddr 97 (Operand.tmp 11) 2
      intro a w hR F
      have e11 : a.eval (.tmp 11) = .pointer (some ⟨lb, 0, none⟩) := F.new 6 11 (by kernel_rfl)
      exact ok_fieldL _ 2 (by decide) rfl (wanted_none rfl) e11 ⟨Rb.refl _, rfl⟩
    refine Owed.cons ?_ ?_
    · -- 8: slot 13 := Op.load 3 (Operand.tmp 12)
      intro a w hR F
      have e12 : a.eval (.tmp 12) = .pointer (some ⟨lb, 2, none⟩) := F.new 7 12 (by kernel_rfl)
      exact ok_load _ _ rfl (wanted_none rfl) e12 (load_int ((HB.out.rb hR).cell 2)) ⟨Rb.refl _, rfl⟩
    refine Owed.cons ?_ ?_
    · -- 9: slot 14 := Op.binOp BinOp.sub 3 (Operand.tmp 9) (Operand.tmp 13) 3
      intro a w hR F
      have e9 : a.eval (.tmp 9) = .int .i64 ((D.room : Int) - (D.log.length : Nat)) := F.new 4 9 (by kernel_rfl)
      have e13 : a.eval (.tmp 13) = .int .i64 ((k : Int)) := F.new 8 13 (by kernel_rfl)
      exact ok_bin _ _ _ _ _ rfl (wanted_none rfl) e9 e13 (run_sub_i64 _ _ _ _ _ (by have := HK.out; omega) (by have := HK.out; omega)) ⟨Rb.refl _, rfl⟩
    refine Owed.cons ?_ ?_
    · -- 10: slot 15 := Op.call { callee := Callee.builtin Builtin.max, args := #[Operand.tmp 14, Operand.const (Value.int I
      intro a w hR F
      have e14 : a.eval (.tmp 14) = .int .i64 (((D.room : Int) - (D.log.length : Nat)) - ((k : Int))) := F.new 9 14 (by kernel_rfl)
      exact ok_maxI _ _ (((D.room : Int) - (D.log.length : Nat)) - ((k : Int))) (0) rfl (wanted_none rfl) e14 rfl ⟨Rb.refl _, rfl⟩
    refine Owed.cons ?_ ?_
    · -- 11: slot 2 := Op.assign (Operand.tmp 15)
      intro a w hR F
      have e15 : a.eval (.tmp 15) = .int .i64 (max (((D.room : Int) - (D.log.length : Nat)) - ((k : Int))) 0) := F.new 10 15 (by kernel_rfl)
      exact ok_assign _ rfl (wanted_none rfl) ⟨Rb.refl _, e15⟩
    exact Owed.nil
  case fin =>
    intro y w2 hR hy
    have e11 : y 11 = .int .i64 (max ((D.room : Int) - (D.log.length : Nat) - (k : Int)) 0) := hy 11 _ rfl
    have HR := Lib.hid hR
    clear hy hR
    simp only [putAll, Act.put, List.setIfInBounds_toArray, List.set_cons_zero, List.set_cons_succ]
    rw [e11]
    clear e11
    rw [HF.out]
    go_wp2
    go_ret
    exact ⟨rfl, HR.out⟩
theorem free_nil (w : World) : Calls Try.prog 27 #[.pointer none] w fun e w' => e = .returned (.int .i64 0) ∧ w = w' := by
  go_enter Try.func27, Try.ntmps27
  go_wp2
  go_ret
  exact ⟨rfl, rfl⟩
theorem kept_any (lb : Nat) (m : Mem) (D : Dk) (g k : Nat) (w : World) (h : HeldL w lb m D g k) : Calls Try.prog 29 #[.pointer (some ⟨lb, 0, none⟩)] w fun e w' => e = .returned (.int .i64 k) ∧ w = w' := by
  obtain ⟨z0, z1, z2⟩ := Blk.cellsL h.blk
  clear h
  go_enter Try.func29, Try.ntmps29
  go_wp2
  go_ret
  exact ⟨rfl, rfl⟩
theorem kept_nil (w : World) : Calls Try.prog 29 #[.pointer none] w fun e w' => e = .returned (.int .i64 0) ∧ w = w' := by
  go_enter Try.func29, Try.ntmps29
  go_wp2
  go_ret
  exact ⟨rfl, rfl⟩
theorem gen_any (lb : Nat) (m : Mem) (D : Dk) (g k : Nat) (w : World) (h : HeldL w lb m D g k) : Calls Try.prog 30 #[.pointer (some ⟨lb, 0, none⟩)] w fun e w' => e = .returned (.int .u32 g) ∧ w = w' := by
  obtain ⟨z0, z1, z2⟩ := Blk.cellsL h.blk
  clear h
  go_enter Try.func30, Try.ntmps30
  go_wp2
  go_ret
  exact ⟨rfl, rfl⟩
theorem gen_nil (w : World) : Calls Try.prog 30 #[.pointer none] w fun e w' => e = .returned (.int .u32 0) ∧ w = w' := by
  go_enter Try.func30, Try.ntmps30
  go_wp2
  go_ret
  exact ⟨rfl, rfl⟩
theorem lsync_any (lb : Nat) (m : Mem) (D : Dk) (g k : Nat) (w : World) (h : HeldL w lb m D g k) : Calls Try.prog 35 #[.pointer (some ⟨lb, 0, none⟩)] w fun e w' => e = .returned (.tuple #[]) ∧ TurnedL w lb m D.sync g k w' := by
  obtain ⟨z0, z1, z2⟩ := Blk.cellsL h.blk
  have C := Lib.hid (sync_any m D w h.disk)
  have H := Lib.hid h
  clear h
  go_enter Try.func35, Try.ntmps35
  go_wp2_with fail
  refine C.out.mono ?_
  rintro e w' ⟨rfl, ht⟩
  have HT := Lib.hid (H.out.turned ht)
  clear ht z0 z1 z2
  go_wp2
  go_end0
  exact ⟨rfl, HT.out⟩
theorem lsync_nil (w : World) : Calls Try.prog 35 #[.pointer none] w fun e w' => e = .returned (.tuple #[]) ∧ w = w' := by
  go_enter Try.func35, Try.ntmps35
  go_wp2
  go_end0
  exact ⟨rfl, rfl⟩
end Go.Proofs.Ytbdgdmieggpmhaa.L4
