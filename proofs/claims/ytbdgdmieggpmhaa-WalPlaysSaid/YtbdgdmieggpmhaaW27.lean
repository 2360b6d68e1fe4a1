/-
  Layer 4: the law's 'do', the cases left.
-/
import Derived.Test.YtbdgdmieggpmhaaW26
namespace Go.Proofs.Ytbdgdmieggpmhaa.L4
open Go.ChangeShapes Go.WideShapes Go.ChangeAt Go.RowKit Oct By Reg L3
set_option linter.unusedVariables false

section
variable {ops : Array Oper} {o : Oper} {a : Act} {w : World} {T : World → Value → Prop}
theorem ok_fieldO {B : Nat} (x : Operand) (i : Nat) (hi : i < 3) (ho : o.op = .fieldAddr 59 x i) (hw : Region.wanted o (yielded ops a.tmps) = true) (hx : a.eval x = .pointer (some ⟨B, 0, none⟩))
    (h : T w (.pointer (some ⟨B, i, none⟩))) : okAt Try.prog ops o a w T := by
  refine ok_value (w' := w) (v := .pointer (some ⟨B, i, none⟩)) hw ?_ h
  simp only [execOp, ho, hx]
  have hi' : i = 0 ∨ i = 1 ∨ i = 2 := by omega
  rcases hi' with rfl | rfl | rfl <;> simp [go_sem]
end

set_option maxRecDepth 100000 in
set_option maxHeartbeats 1000000 in
theorem do_sync (ws w0 : World) (S : Nat → Prop) (b lb : Nat) (D : Dk) (g k : Nat) (m : Mem) (r : Rm) (p : Op3) (xs : List UInt8) (h : LwM ws S b lb D g k w0 m) (hr : HeldR w0 r D) (ho : ∀ q, r.has q → ¬ m.has q ∧ q ≠ lb) (hf : D.log.length + k ≤ D.room)
    (hbw : ∀ w' m' lb' D' g' k', LwM ws S b lb' D' g' k' w' m' → Bs w' p.v xs) (hx : xs.length ≤ 200) (hm8 : (p.k : Int).tmod 8 = 5) :
    Calls Try.prog 26 #[.pointer (some ⟨b, 0, none⟩), .pointer (some ⟨lb, 0, none⟩), Lv D r g k, opv p] w0 (DoQ ws S b) := by
  have hst := St.start (ge := g) (ke := k) (p := p) h hr ho
  have HF := Lib.hid hf
  have HOK := Lib.hid h.held.disk.ok
  have HG := Lib.hid h.held.hg
  have HK := Lib.hid h.held.hk
  have HX := Lib.hid hx
  have HBW := Lib.hid hbw
  have ST := Lib.hid hst
  have HNE := Lib.hid (show w0.heap.size ≠ w0.heap.size + 1 + 1 by omega)
  clear h hr ho hf hbw hx hst
  obtain ⟨pk, pn, pv⟩ := p
  dsimp only at hm8 HBW
  go_enter Try.func26, Try.ntmps26
  go_wp2_with fail
  change Calls _ _ _ (threeX w0 (lcs D r g k) (opcs ⟨pk, pn, pv⟩) zero7) _
  generalize threeX w0 (lcs D r g k) (opcs ⟨pk, pn, pv⟩) zero7 = wt at *
  refine (sync_w ST.out.step).mono ?_
  rintro e w1 ⟨rfl, m1, h1⟩
  have S1 := Lib.hid (ST.out.impl h1)
  clear h1
  obtain ⟨y0, y1, y2, y3, y4, y5, y6⟩ := S1.out.x.cells7
  have CR := Lib.hid (rsync_any D r w1 S1.out.held HOK.out)
  go_wp2_with fail
  refine CR.out.mono ?_
  rintro e w2 ⟨r2, rfl, hq2, hb2, hold2⟩
  have S2 := Lib.hid (S1.out.rb hb2)
  have HFR := Lib.hid (S1.out.fresh hold2)
  have HQ2 := Lib.hid hq2
  have H5 := Lib.hid (five_one (n := D.sync.room) (a := str D.sync.sure) (b := str D.sync.rest) hq2.n.one.2 hq2.s.one.2)
  clear hq2 hb2 hold2 y0 y1 y2 y3 y4 y5 y6 CR
  go_wp2_with (refine wpList_store rfl 50 _ _ rfl w0.heap.size 0 52 _ [_, _, _, _, _] _ rfl rfl S2.out.x rfl sizeref (by simp) H5.out ?_)
  intro w3 hb3 hw3
  have S3 := Lib.hid (S2.out.storeX (E' := D.sync) (r' := r2) (ge' := g) (ke' := k) hw3 hb3 HQ2.out HFR.out)
  have HB := Lib.hid S3.out.x
  have HY := Lib.hid S3.out.y
  have HONE := Lib.hid (lcs_one (g := g) (k := k) S3.out.held)
  clear hb3 hw3 hm8
  go_upto_region 30 with (fail)
  refine wp_region_store_specs (R := RN (w0.heap.size + 1 + 1) (lcs (D.sync) r2 g k)) (S := [Spec.eq (.pointer (some ⟨lb, 0, none⟩)), Spec.eq (Lv (D.sync) r2 g k), Spec.eq (.int .i64 (0)), Spec.eq (.int .i64 (0)), Spec.eq (.bool true), Spec.eq (.pointer (some ⟨lb, 0, none⟩)), blkSpec (w0.heap.size + 1 + 1) (lcs (D.sync) r2 g k), Spec.eq (.bool true)]) (n := 1) (size := 150) (by kernel_rfl) RN.trans (RN.of_rb (Rb.drew _)) rfl (by kernel_rfl) ?owed ?fin
  case owed =>
    refine Owed.cons ?_ ?_
    · -- 0: slot 145 := Op.move (Operand.tmp 1)
      intro a w hR F
      have e1 : a.eval (.tmp 1) = .pointer (some ⟨lb, 0, none⟩) := F.old 1 (by kernel_rfl)
      exact ok_move _ rfl (wanted_none rfl) ⟨RN.refl _, e1⟩
    refine Owed.cons ?_ ?_
    · -- 1: slot 146 := Op.load 52 (Operand.tmp 6)
      intro a w hR F
      have e6 : a.eval (.tmp 6) = .pointer (some ⟨w0.heap.size, 0, none⟩) := F.old 6 (by kernel_rfl)
      exact ok_load _ _ rfl (wanted_none rfl) e6 (load_X (hR.blk HB.out HNE.out)) ⟨RN.refl _, rfl⟩
    refine Owed.cons ?_ ?_
    · -- 2: slot 147 := Op.move (Operand.tmp 11)
      intro a w hR F
      have e11 : a.eval (.tmp 11) = .int .i64 (0) := F.old 11 (by kernel_rfl)
      exact ok_move _ rfl (wanted_none rfl) ⟨RN.refl _, e11⟩
    refine Owed.cons ?_ ?_
    · -- 3: slot 148 := Op.move (Operand.tmp 12)
      intro a w hR F
      have e12 : a.eval (.tmp 12) = .int .i64 (0) := F.old 12 (by kernel_rfl)
      exact ok_move _ rfl (wanted_none rfl) ⟨RN.refl _, e12⟩
    refine Owed.cons ?_ ?_
    · -- 4: slot 149 := Op.binOp BinOp.eql 46 (Operand.tmp 147) (Operand.tmp 148) 46
      intro a w hR F
      have e147 : a.eval (.tmp 147) = .int .i64 (0) := F.new 2 147 (by kernel_rfl)
      have e148 : a.eval (.tmp 148) = .int .i64 (0) := F.new 3 148 (by kernel_rfl)
      refine ok_bin _ _ _ _ _ rfl (wanted_none rfl) e147 e148 (run_eql_int _ _ _ _ _ _) ⟨RN.refl _, ?_⟩
      exact congrArg Value.bool (by simp)
    refine Owed.cons ?_ ?_
    · -- 5: slot 8 := Op.assign (Operand.tmp 145)
      intro a w hR F
      have e145 : a.eval (.tmp 145) = .pointer (some ⟨lb, 0, none⟩) := F.new 0 145 (by kernel_rfl)
      exact ok_assign _ rfl (wanted_none rfl) ⟨RN.refl _, e145⟩
    refine Owed.cons ?_ ?_
    · -- 6: slot None := Op.store 52 (Operand.tmp 9) (Operand.tmp 146)
      intro a w hR F
      have e9 : a.eval (.tmp 9) = .pointer (some ⟨(w0.heap.size + 1 + 1), 0, none⟩) := F.old 9 (by kernel_rfl)
      have e146 : a.eval (.tmp 146) = Lv (D.sync) r2 g k := F.new 1 146 (by kernel_rfl)
      exact ok_storeX (L := lcs (D.sync) r2 g k) _ _ rfl (wanted_none rfl) e9 e146 rfl (hR.seven ⟨zero7, HY.out, rfl⟩) rfl HONE.out (fun w9 _ hb hw => ⟨RN.of_wrote hw hb rfl, hb⟩)
    refine Owed.cons ?_ ?_
    · -- 7: slot 10 := Op.assign (Operand.tmp 149)
      intro a w hR F
      have e149 : a.eval (.tmp 149) = .bool true := F.new 4 149 (by kernel_rfl)
      exact ok_assign _ rfl (wanted_none rfl) ⟨RN.refl _, e149⟩
    exact Owed.nil
  case fin =>
    intro y w2 hR hy
    have e5 : y 5 = .pointer (some ⟨lb, 0, none⟩) := hy 5 _ rfl
    have e7 : y 7 = .bool true := hy 7 _ rfl
    have HR := Lib.hid hR
    have hz : Blk w2 (w0.heap.size + 1 + 1) 52 (lcs (D.sync) r2 g k) := hy 6 _ rfl
    obtain ⟨x0, x1, x2, x3, x4, x5, x6⟩ := hz.cells7
    have FF := Lib.hid (S3.out.fin HR.out (by rw [sync_log]; exact HF.out))
    clear hy hR hz
    simp only [putAll, Act.put, List.setIfInBounds_toArray, List.set_cons_zero, List.set_cons_succ]
    rw [e5, e7]
    clear e5 e7
    go_wp2
    exact bodyPost_ret (v := .tuple #[.pointer (some ⟨lb, 0, none⟩), Lv (D.sync) r2 g k, .bool true]) (by simp [results, Try.results26, go_sem, x0, x1, x2, x3, x4, x5, x6]) rfl FF.out

set_option maxRecDepth 100000 in
set_option maxHeartbeats 1000000 in
theorem do_keepneg (ws w0 : World) (S : Nat → Prop) (b lb : Nat) (D : Dk) (g k : Nat) (m : Mem) (r : Rm) (p : Op3) (xs : List UInt8) (h : LwM ws S b lb D g k w0 m) (hr : HeldR w0 r D) (ho : ∀ q, r.has q → ¬ m.has q ∧ q ≠ lb) (hf : D.log.length + k ≤ D.room)
    (hbw : ∀ w' m' lb' D' g' k', LwM ws S b lb' D' g' k' w' m' → Bs w' p.v xs) (hx : xs.length ≤ 200) (hm8 : (p.k : Int).tmod 8 = 3) (hn : p.n < 0):
    Calls Try.prog 26 #[.pointer (some ⟨b, 0, none⟩), .pointer (some ⟨lb, 0, none⟩), Lv D r g k, opv p] w0 (DoQ ws S b) := by
  have hst := St.start (ge := g) (ke := k) (p := p) h hr ho
  have HF := Lib.hid hf
  have HOK := Lib.hid h.held.disk.ok
  have HG := Lib.hid h.held.hg
  have HK := Lib.hid h.held.hk
  have HX := Lib.hid hx
  have HBW := Lib.hid hbw
  have ST := Lib.hid hst
  have HNE := Lib.hid (show w0.heap.size ≠ w0.heap.size + 1 + 1 by omega)
  have HKC := Lib.hid (show keepC D k p.n = 1 by unfold keepC; rw [if_pos hn])
  have HKK := Lib.hid (show keepK D k p.n = k by unfold keepK; rw [if_pos hn])
  clear h hr ho hf hbw hx hst
  obtain ⟨pk, pn, pv⟩ := p
  dsimp only at hm8 HBW HKC HKK hn
  go_enter Try.func26, Try.ntmps26
  go_wp2_with fail
  change Calls _ _ _ (threeX w0 (lcs D r g k) (opcs ⟨pk, pn, pv⟩) zero7) _
  generalize threeX w0 (lcs D r g k) (opcs ⟨pk, pn, pv⟩) zero7 = wt at *
  have CK := Lib.hid (keep_any lb m D g k pn wt ST.out.l.held)
  refine CK.out.mono ?_
  rintro e w1 ⟨rfl, ht1⟩
  rw [HKK.out] at ht1
  rw [HKC.out]
  obtain ⟨m1, h1⟩ := ST.out.step.turn ht1
  have S1 := Lib.hid (ST.out.impl h1)
  clear h1 ht1 CK
  obtain ⟨o0, o1, o2⟩ := S1.out.o.cells3
  obtain ⟨y0, y1, y2, y3, y4, y5, y6⟩ := S1.out.x.cells7
  have S3 := S1
  have HB := Lib.hid S3.out.x
  have HY := Lib.hid S3.out.y
  have HONE := Lib.hid (lcs_one (g := g) (k := k) S3.out.held)
  clear hm8
  go_upto_region 30 with (fail)
  refine wp_region_store_specs (R := RN (w0.heap.size + 1 + 1) (lcs (D) r g k)) (S := [Spec.eq (.pointer (some ⟨lb, 0, none⟩)), Spec.eq (Lv (D) r g k), Spec.eq (.int .i64 (1)), Spec.eq (.int .i64 (1)), Spec.eq (.bool true), Spec.eq (.pointer (some ⟨lb, 0, none⟩)), blkSpec (w0.heap.size + 1 + 1) (lcs (D) r g k), Spec.eq (.bool true)]) (n := 1) (size := 150) (by kernel_rfl) RN.trans (RN.of_rb (Rb.drew _)) rfl (by kernel_rfl) ?owed ?fin
  case owed =>
    refine Owed.cons ?_ ?_
    · -- 0: slot 145 := Op.move (Operand.tmp 1)
      intro a w hR F
      have e1 : a.eval (.tmp 1) = .pointer (some ⟨lb, 0, none⟩) := F.old 1 (by kernel_rfl)
      exact ok_move _ rfl (wanted_none rfl) ⟨RN.refl _, e1⟩
    refine Owed.cons ?_ ?_
    · -- 1: slot 146 := Op.load 52 (Operand.tmp 6)
      intro a w hR F
      have e6 : a.eval (.tmp 6) = .pointer (some ⟨w0.heap.size, 0, none⟩) := F.old 6 (by kernel_rfl)
      exact ok_load _ _ rfl (wanted_none rfl) e6 (load_X (hR.blk HB.out HNE.out)) ⟨RN.refl _, rfl⟩
    refine Owed.cons ?_ ?_
    · -- 2: slot 147 := Op.move (Operand.tmp 11)
      intro a w hR F
      have e11 : a.eval (.tmp 11) = .int .i64 (1) := F.old 11 (by kernel_rfl)
      exact ok_move _ rfl (wanted_none rfl) ⟨RN.refl _, e11⟩
    refine Owed.cons ?_ ?_
    · -- 3: slot 148 := Op.move (Operand.tmp 12)
      intro a w hR F
      have e12 : a.eval (.tmp 12) = .int .i64 (1) := F.old 12 (by kernel_rfl)
      exact ok_move _ rfl (wanted_none rfl) ⟨RN.refl _, e12⟩
    refine Owed.cons ?_ ?_
    · -- 4: slot 149 := Op.binOp BinOp.eql 46 (Operand.tmp 147) (Operand.tmp 148) 46
      intro a w hR F
      have e147 : a.eval (.tmp 147) = .int .i64 (1) := F.new 2 147 (by kernel_rfl)
      have e148 : a.eval (.tmp 148) = .int .i64 (1) := F.new 3 148 (by kernel_rfl)
      refine ok_bin _ _ _ _ _ rfl (wanted_none rfl) e147 e148 (run_eql_int _ _ _ _ _ _) ⟨RN.refl _, ?_⟩
      exact congrArg Value.bool (by simp)
    refine Owed.cons ?_ ?_
    · -- 5: slot 8 := Op.assign (Operand.tmp 145)
      intro a w hR F
      have e145 : a.eval (.tmp 145) = .pointer (some ⟨lb, 0, none⟩) := F.new 0 145 (by kernel_rfl)
      exact ok_assign _ rfl (wanted_none rfl) ⟨RN.refl _, e145⟩
    refine Owed.cons ?_ ?_
    · -- 6: slot None := Op.store 52 (Operand.tmp 9) (Operand.tmp 146)
      intro a w hR F
      have e9 : a.eval (.tmp 9) = .pointer (some ⟨(w0.heap.size + 1 + 1), 0, none⟩) := F.old 9 (by kernel_rfl)
      have e146 : a.eval (.tmp 146) = Lv (D) r g k := F.new 1 146 (by kernel_rfl)
      exact ok_storeX (L := lcs (D) r g k) _ _ rfl (wanted_none rfl) e9 e146 rfl (hR.seven ⟨zero7, HY.out, rfl⟩) rfl HONE.out (fun w9 _ hb hw => ⟨RN.of_wrote hw hb rfl, hb⟩)
    refine Owed.cons ?_ ?_
    · -- 7: slot 10 := Op.assign (Operand.tmp 149)
      intro a w hR F
      have e149 : a.eval (.tmp 149) = .bool true := F.new 4 149 (by kernel_rfl)
      exact ok_assign _ rfl (wanted_none rfl) ⟨RN.refl _, e149⟩
    exact Owed.nil
  case fin =>
    intro y w2 hR hy
    have e5 : y 5 = .pointer (some ⟨lb, 0, none⟩) := hy 5 _ rfl
    have e7 : y 7 = .bool true := hy 7 _ rfl
    have HR := Lib.hid hR
    have hz : Blk w2 (w0.heap.size + 1 + 1) 52 (lcs (D) r g k) := hy 6 _ rfl
    obtain ⟨x0, x1, x2, x3, x4, x5, x6⟩ := hz.cells7
    have FF := Lib.hid (S3.out.fin HR.out HF.out)
    clear hy hR hz
    simp only [putAll, Act.put, List.setIfInBounds_toArray, List.set_cons_zero, List.set_cons_succ]
    rw [e5, e7]
    clear e5 e7
    go_wp2
    exact bodyPost_ret (v := .tuple #[.pointer (some ⟨lb, 0, none⟩), Lv (D) r g k, .bool true]) (by simp [results, Try.results26, go_sem, x0, x1, x2, x3, x4, x5, x6]) rfl FF.out

set_option maxRecDepth 100000 in
set_option maxHeartbeats 1000000 in
theorem do_keepbusy (ws w0 : World) (S : Nat → Prop) (b lb : Nat) (D : Dk) (g k : Nat) (m : Mem) (r : Rm) (p : Op3) (xs : List UInt8) (h : LwM ws S b lb D g k w0 m) (hr : HeldR w0 r D) (ho : ∀ q, r.has q → ¬ m.has q ∧ q ≠ lb) (hf : D.log.length + k ≤ D.room)
    (hbw : ∀ w' m' lb' D' g' k', LwM ws S b lb' D' g' k' w' m' → Bs w' p.v xs) (hx : xs.length ≤ 200) (hm8 : (p.k : Int).tmod 8 = 3) (hn : ¬ p.n < 0) (hc : (freeN D k : Int) < p.n):
    Calls Try.prog 26 #[.pointer (some ⟨b, 0, none⟩), .pointer (some ⟨lb, 0, none⟩), Lv D r g k, opv p] w0 (DoQ ws S b) := by
  have hst := St.start (ge := g) (ke := k) (p := p) h hr ho
  have HF := Lib.hid hf
  have HOK := Lib.hid h.held.disk.ok
  have HG := Lib.hid h.held.hg
  have HK := Lib.hid h.held.hk
  have HX := Lib.hid hx
  have HBW := Lib.hid hbw
  have ST := Lib.hid hst
  have HNE := Lib.hid (show w0.heap.size ≠ w0.heap.size + 1 + 1 by omega)
  have HKC := Lib.hid (show keepC D k p.n = 5 by unfold keepC; rw [if_neg hn, if_pos hc])
  have HKK := Lib.hid (show keepK D k p.n = k by unfold keepK; rw [if_neg hn, if_pos hc])
  have HGT := Lib.hid (show p.n > (freeN D k : Int) from hc)
  clear h hr ho hf hbw hx hst
  obtain ⟨pk, pn, pv⟩ := p
  dsimp only at hm8 HBW HKC HKK hn hc HGT
  go_enter Try.func26, Try.ntmps26
  go_wp2_with fail
  change Calls _ _ _ (threeX w0 (lcs D r g k) (opcs ⟨pk, pn, pv⟩) zero7) _
  generalize threeX w0 (lcs D r g k) (opcs ⟨pk, pn, pv⟩) zero7 = wt at *
  have CK := Lib.hid (keep_any lb m D g k pn wt ST.out.l.held)
  refine CK.out.mono ?_
  rintro e w1 ⟨rfl, ht1⟩
  rw [HKK.out] at ht1
  rw [HKC.out]
  obtain ⟨m1, h1⟩ := ST.out.step.turn ht1
  have S1 := Lib.hid (ST.out.impl h1)
  clear h1 ht1 CK
  obtain ⟨o0, o1, o2⟩ := S1.out.o.cells3
  obtain ⟨y0, y1, y2, y3, y4, y5, y6⟩ := S1.out.x.cells7
  have HB1 := Lib.hid S1.out.x
  have HO1 := Lib.hid o1
  go_upto_region 13 with (fail)
  clear o0 o1 o2 y0 y1 y2 y3 y4 y5 y6
  refine wp_region_specs (R := Rb) (S := [Spec.eq (.pointer (some ⟨(w0.heap.size + 1), 1, none⟩)), Spec.eq (.int .i64 (pn)), Spec.eq (Lv D r g k), Spec.eq (.int .i64 (((freeN D k : Nat) : Int))), Spec.eq (.bool true)]) (n := 1) (size := 150) (by kernel_rfl) Rb.trans (Rb.drew _) rfl (by kernel_rfl) ?owed ?fin
  case owed =>
    refine Owed.cons ?_ ?_
    · -- 0: slot 58 := Op.fieldAddr 59 (Operand.tmp 7) 1
      intro a w hR F
      have e7 : a.eval (.tmp 7) = .pointer (some ⟨(w0.heap.size + 1), 0, none⟩) := F.old 7 (by kernel_rfl)
      exact ok_fieldO _ 1 (by decide) rfl (wanted_none rfl) e7 ⟨Rb.refl _, rfl⟩
    refine Owed.cons ?_ ?_
    · -- 1: slot 59 := Op.load 3 (Operand.tmp 58)
      intro a w hR F
      have e58 : a.eval (.tmp 58) = .pointer (some ⟨(w0.heap.size + 1), 1, none⟩) := F.new 0 58 (by kernel_rfl)
      exact ok_load _ _ rfl (wanted_none rfl) e58 (load_int (cell_rb hR HO1.out)) ⟨Rb.refl _, rfl⟩
    refine Owed.cons ?_ ?_
    · -- 2: slot 60 := Op.load 52 (Operand.tmp 6)
      intro a w hR F
      have e6 : a.eval (.tmp 6) = .pointer (some ⟨w0.heap.size, 0, none⟩) := F.old 6 (by kernel_rfl)
      exact ok_load _ _ rfl (wanted_none rfl) e6 (load_X (HB1.out.rb hR)) ⟨Rb.refl _, rfl⟩
    refine Owed.cons ?_ ?_
    · -- 3: slot 61 := Op.call { callee := Callee.value (Operand.func 28), args := #[Operand.tmp 60], argTypes := #[52] }
      intro a w hR F
      have e60 : a.eval (.tmp 60) = Lv D r g k := F.new 2 60 (by kernel_rfl)
      refine ok_call 28 _ _ #[Lv D r g k] rfl (wanted_none rfl) (by simp [e60]) (Try.call28 _ _) ?_
      exact val_call_rb (rfree_any D r g k w HOK.out HK.out)
    refine Owed.cons ?_ ?_
    · -- 4: slot 62 := Op.binOp BinOp.gtr 3 (Operand.tmp 59) (Operand.tmp 61) 3
      intro a w hR F
      have e59 : a.eval (.tmp 59) = .int .i64 (pn) := F.new 1 59 (by kernel_rfl)
      have e61 : a.eval (.tmp 61) = .int .i64 (((freeN D k : Nat) : Int)) := F.new 3 61 (by kernel_rfl)
      refine ok_bin _ _ _ _ _ rfl (wanted_none rfl) e59 e61 (run_gtr_int _ _ _ _ _ _) ⟨Rb.refl _, ?_⟩
      exact congrArg Value.bool (decide_eq_true HGT.out)
    exact Owed.nil
  case fin =>
    intro y w2 hR hy
    have e4 : y 4 = .bool true := hy 4 _ rfl
    have HR := Lib.hid hR
    clear hy hR
    simp only [putAll, Act.put, List.setIfInBounds_toArray, List.set_cons_zero, List.set_cons_succ]
    rw [e4]
    clear e4
    have S2 := Lib.hid (S1.out.rb HR.out)
    obtain ⟨o0, o1, o2⟩ := S2.out.o.cells3
    obtain ⟨y0, y1, y2, y3, y4, y5, y6⟩ := S2.out.x.cells7
    have S3 := S2
    have HB := Lib.hid S3.out.x
    have HY := Lib.hid S3.out.y
    have HONE := Lib.hid (lcs_one (g := g) (k := k) S3.out.held)
    clear hm8
    go_upto_region 30 with (fail)
    refine wp_region_store_specs (R := RN (w0.heap.size + 1 + 1) (lcs (D) r g k)) (S := [Spec.eq (.pointer (some ⟨lb, 0, none⟩)), Spec.eq (Lv (D) r g k), Spec.eq (.int .i64 (5)), Spec.eq (.int .i64 (5)), Spec.eq (.bool true), Spec.eq (.pointer (some ⟨lb, 0, none⟩)), blkSpec (w0.heap.size + 1 + 1) (lcs (D) r g k), Spec.eq (.bool true)]) (n := 1) (size := 150) (by kernel_rfl) RN.trans (RN.of_rb (Rb.drew _)) rfl (by kernel_rfl) ?owed ?fin
    case owed =>
      refine Owed.cons ?_ ?_
      · -- 0: slot 145 := Op.move (Operand.tmp 1)
        intro a w hR F
        have e1 : a.eval (.tmp 1) = .pointer (some ⟨lb, 0, none⟩) := F.old 1 (by kernel_rfl)
        exact ok_move _ rfl (wanted_none rfl) ⟨RN.refl _, e1⟩
      refine Owed.cons ?_ ?_
      · -- 1: slot 146 := Op.load 52 (Operand.tmp 6)
        intro a w hR F
        have e6 : a.eval (.tmp 6) = .pointer (some ⟨w0.heap.size, 0, none⟩) := F.old 6 (by kernel_rfl)
        exact ok_load _ _ rfl (wanted_none rfl) e6 (load_X (hR.blk HB.out HNE.out)) ⟨RN.refl _, rfl⟩
      refine Owed.cons ?_ ?_
      · -- 2: slot 147 := Op.move (Operand.tmp 11)
        intro a w hR F
        have e11 : a.eval (.tmp 11) = .int .i64 (5) := F.old 11 (by kernel_rfl)
        exact ok_move _ rfl (wanted_none rfl) ⟨RN.refl _, e11⟩
      refine Owed.cons ?_ ?_
      · -- 3: slot 148 := Op.move (Operand.tmp 12)
        intro a w hR F
        have e12 : a.eval (.tmp 12) = .int .i64 (5) := F.old 12 (by kernel_rfl)
        exact ok_move _ rfl (wanted_none rfl) ⟨RN.refl _, e12⟩
      refine Owed.cons ?_ ?_
      · -- 4: slot 149 := Op.binOp BinOp.eql 46 (Operand.tmp 147) (Operand.tmp 148) 46
        intro a w hR F
        have e147 : a.eval (.tmp 147) = .int .i64 (5) := F.new 2 147 (by kernel_rfl)
        have e148 : a.eval (.tmp 148) = .int .i64 (5) := F.new 3 148 (by kernel_rfl)
        refine ok_bin _ _ _ _ _ rfl (wanted_none rfl) e147 e148 (run_eql_int _ _ _ _ _ _) ⟨RN.refl _, ?_⟩
        exact congrArg Value.bool (by simp)
      refine Owed.cons ?_ ?_
      · -- 5: slot 8 := Op.assign (Operand.tmp 145)
        intro a w hR F
        have e145 : a.eval (.tmp 145) = .pointer (some ⟨lb, 0, none⟩) := F.new 0 145 (by kernel_rfl)
        exact ok_assign _ rfl (wanted_none rfl) ⟨RN.refl _, e145⟩
      refine Owed.cons ?_ ?_
      · -- 6: slot None := Op.store 52 (Operand.tmp 9) (Operand.tmp 146)
        intro a w hR F
        have e9 : a.eval (.tmp 9) = .pointer (some ⟨(w0.heap.size + 1 + 1), 0, none⟩) := F.old 9 (by kernel_rfl)
        have e146 : a.eval (.tmp 146) = Lv (D) r g k := F.new 1 146 (by kernel_rfl)
        exact ok_storeX (L := lcs (D) r g k) _ _ rfl (wanted_none rfl) e9 e146 rfl (hR.seven ⟨zero7, HY.out, rfl⟩) rfl HONE.out (fun w9 _ hb hw => ⟨RN.of_wrote hw hb rfl, hb⟩)
      refine Owed.cons ?_ ?_
      · -- 7: slot 10 := Op.assign (Operand.tmp 149)
        intro a w hR F
        have e149 : a.eval (.tmp 149) = .bool true := F.new 4 149 (by kernel_rfl)
        exact ok_assign _ rfl (wanted_none rfl) ⟨RN.refl _, e149⟩
      exact Owed.nil
    case fin =>
      intro y w2 hR hy
      have e5 : y 5 = .pointer (some ⟨lb, 0, none⟩) := hy 5 _ rfl
      have e7 : y 7 = .bool true := hy 7 _ rfl
      have HR := Lib.hid hR
      have hz : Blk w2 (w0.heap.size + 1 + 1) 52 (lcs (D) r g k) := hy 6 _ rfl
      obtain ⟨x0, x1, x2, x3, x4, x5, x6⟩ := hz.cells7
      have FF := Lib.hid (S3.out.fin HR.out HF.out)
      clear hy hR hz
      simp only [putAll, Act.put, List.setIfInBounds_toArray, List.set_cons_zero, List.set_cons_succ]
      rw [e5, e7]
      clear e5 e7
      go_wp2
      exact bodyPost_ret (v := .tuple #[.pointer (some ⟨lb, 0, none⟩), Lv (D) r g k, .bool true]) (by simp [results, Try.results26, go_sem, x0, x1, x2, x3, x4, x5, x6]) rfl FF.out

set_option maxRecDepth 100000 in
set_option maxHeartbeats 1000000 in
theorem do_keepok (ws w0 : World) (S : Nat → Prop) (b lb : Nat) (D : Dk) (g k : Nat) (m : Mem) (r : Rm) (p : Op3) (xs : List UInt8) (h : LwM ws S b lb D g k w0 m) (hr : HeldR w0 r D) (ho : ∀ q, r.has q → ¬ m.has q ∧ q ≠ lb) (hf : D.log.length + k ≤ D.room)
    (hbw : ∀ w' m' lb' D' g' k', LwM ws S b lb' D' g' k' w' m' → Bs w' p.v xs) (hx : xs.length ≤ 200) (hm8 : (p.k : Int).tmod 8 = 3) (hn : ¬ p.n < 0) (hc : ¬ (freeN D k : Int) < p.n):
    Calls Try.prog 26 #[.pointer (some ⟨b, 0, none⟩), .pointer (some ⟨lb, 0, none⟩), Lv D r g k, opv p] w0 (DoQ ws S b) := by
  have hst := St.start (ge := g) (ke := k) (p := p) h hr ho
  have HF := Lib.hid hf
  have HOK := Lib.hid h.held.disk.ok
  have HG := Lib.hid h.held.hg
  have HK := Lib.hid h.held.hk
  have HX := Lib.hid hx
  have HBW := Lib.hid hbw
  have ST := Lib.hid hst
  have HNE := Lib.hid (show w0.heap.size ≠ w0.heap.size + 1 + 1 by omega)
  have HKC := Lib.hid (show keepC D k p.n = 0 by unfold keepC; rw [if_neg hn, if_neg hc])
  obtain ⟨k2, hk2⟩ : ∃ k2, k2 = k + p.n.toNat := ⟨_, rfl⟩
  have HKK := Lib.hid (show keepK D k p.n = k2 by unfold keepK; rw [if_neg hn, if_neg hc, hk2])
  have HGT := Lib.hid (show ¬ p.n > (freeN D k : Int) from hc)
  have HK2 := Lib.hid (show (k2 : Int) = (k : Int) + p.n ∧ D.log.length + k2 ≤ D.room by have h9 := h.held.disk.ok.1; unfold freeN at hc; omega)
  clear hk2
  clear h hr ho hf hbw hx hst
  obtain ⟨pk, pn, pv⟩ := p
  dsimp only at hm8 HBW HKC HKK hn hc HGT
  go_enter Try.func26, Try.ntmps26
  go_wp2_with fail
  change Calls _ _ _ (threeX w0 (lcs D r g k) (opcs ⟨pk, pn, pv⟩) zero7) _
  generalize threeX w0 (lcs D r g k) (opcs ⟨pk, pn, pv⟩) zero7 = wt at *
  have CK := Lib.hid (keep_any lb m D g k pn wt ST.out.l.held)
  refine CK.out.mono ?_
  rintro e w1 ⟨rfl, ht1⟩
  rw [HKK.out] at ht1
  rw [HKC.out]
  obtain ⟨m1, h1⟩ := ST.out.step.turn ht1
  have S1 := Lib.hid (ST.out.impl h1)
  clear h1 ht1 CK
  obtain ⟨o0, o1, o2⟩ := S1.out.o.cells3
  obtain ⟨y0, y1, y2, y3, y4, y5, y6⟩ := S1.out.x.cells7
  have HB1 := Lib.hid S1.out.x
  have HO1 := Lib.hid o1
  go_upto_region 13 with (fail)
  clear o0 o1 o2 y0 y1 y2 y3 y4 y5 y6
  refine wp_region_specs (R := Rb) (S := [Spec.eq (.pointer (some ⟨(w0.heap.size + 1), 1, none⟩)), Spec.eq (.int .i64 (pn)), Spec.eq (Lv D r g k), Spec.eq (.int .i64 (((freeN D k : Nat) : Int))), Spec.eq (.bool false)]) (n := 1) (size := 150) (by kernel_rfl) Rb.trans (Rb.drew _) rfl (by kernel_rfl) ?owed ?fin
  case owed =>
    refine Owed.cons ?_ ?_
    · -- 0: slot 58 := Op.fieldAddr 59 (Operand.tmp 7) 1
      intro a w hR F
      have e7 : a.eval (.tmp 7) = .pointer (some ⟨(w0.heap.size + 1), 0, none⟩) := F.old 7 (by kernel_rfl)
      exact ok_fieldO _ 1 (by decide) rfl (wanted_none rfl) e7 ⟨Rb.refl _, rfl⟩
    refine Owed.cons ?_ ?_
    · -- 1: slot 59 := Op.load 3 (Operand.tmp 58)
      intro a w hR F
      have e58 : a.eval (.tmp 58) = .pointer (some ⟨(w0.heap.size + 1), 1, none⟩) := F.new 0 58 (by kernel_rfl)
      exact ok_load _ _ rfl (wanted_none rfl) e58 (load_int (cell_rb hR HO1.out)) ⟨Rb.refl _, rfl⟩
    refine Owed.cons ?_ ?_
    · -- 2: slot 60 := Op.load 52 (Operand.tmp 6)
      intro a w hR F
      have e6 : a.eval (.tmp 6) = .pointer (some ⟨w0.heap.size, 0, none⟩) := F.old 6 (by kernel_rfl)
      exact ok_load _ _ rfl (wanted_none rfl) e6 (load_X (HB1.out.rb hR)) ⟨Rb.refl _, rfl⟩
    refine Owed.cons ?_ ?_
    · -- 3: slot 61 := Op.call { callee := Callee.value (Operand.func 28), args := #[Operand.tmp 60], argTypes := #[52] }
      intro a w hR F
      have e60 : a.eval (.tmp 60) = Lv D r g k := F.new 2 60 (by kernel_rfl)
      refine ok_call 28 _ _ #[Lv D r g k] rfl (wanted_none rfl) (by simp [e60]) (Try.call28 _ _) ?_
      exact val_call_rb (rfree_any D r g k w HOK.out HK.out)
    refine Owed.cons ?_ ?_
    · -- 4: slot 62 := Op.binOp BinOp.gtr 3 (Operand.tmp 59) (Operand.tmp 61) 3
      intro a w hR F
      have e59 : a.eval (.tmp 59) = .int .i64 (pn) := F.new 1 59 (by kernel_rfl)
      have e61 : a.eval (.tmp 61) = .int .i64 (((freeN D k : Nat) : Int)) := F.new 3 61 (by kernel_rfl)
      refine ok_bin _ _ _ _ _ rfl (wanted_none rfl) e59 e61 (run_gtr_int _ _ _ _ _ _) ⟨Rb.refl _, ?_⟩
      exact congrArg Value.bool (decide_eq_false (by have h := HGT.out; omega))
    exact Owed.nil
  case fin =>
    intro y w2 hR hy
    have e4 : y 4 = .bool false := hy 4 _ rfl
    have HR := Lib.hid hR
    clear hy hR
    simp only [putAll, Act.put, List.setIfInBounds_toArray, List.set_cons_zero, List.set_cons_succ]
    rw [e4]
    clear e4
    have S2 := Lib.hid (S1.out.rb HR.out)
    obtain ⟨o0, o1, o2⟩ := S2.out.o.cells3
    obtain ⟨y0, y1, y2, y3, y4, y5, y6⟩ := S2.out.x.cells7
    have hwk : IntKind.i64.wrap ((k : Int) + pn) = (k2 : Int) := by have h1 := HK2.out; have h2 := HOK.out.2.1; rw [IntWalk.i64_in _ (by omega)]; omega
    go_wp2_with (refine wpList_store rfl 3 _ _ rfl w0.heap.size 6 52 _ [_] _ rfl rfl S2.out.x rfl sizeint (by simp) (int_one _ _) ?_)
    intro w3 hb3 hw3
    have S3 := Lib.hid (S2.out.storeX (E' := D) (r' := r) (ge' := g) (ke' := k2) hw3 hb3 S2.out.held (S2.out.fresh fun q hq => .inl hq))
    have HB := Lib.hid S3.out.x
    have HY := Lib.hid S3.out.y
    have HONE := Lib.hid (lcs_one (g := g) (k := k2) S3.out.held)
    clear hb3 hw3 hm8 hwk
    go_upto_region 30 with (fail)
    refine wp_region_store_specs (R := RN (w0.heap.size + 1 + 1) (lcs (D) r g k2)) (S := [Spec.eq (.pointer (some ⟨lb, 0, none⟩)), Spec.eq (Lv (D) r g k2), Spec.eq (.int .i64 (0)), Spec.eq (.int .i64 (0)), Spec.eq (.bool true), Spec.eq (.pointer (some ⟨lb, 0, none⟩)), blkSpec (w0.heap.size + 1 + 1) (lcs (D) r g k2), Spec.eq (.bool true)]) (n := 1) (size := 150) (by kernel_rfl) RN.trans (RN.of_rb (Rb.drew _)) rfl (by kernel_rfl) ?owed ?fin
    case owed =>
      refine Owed.cons ?_ ?_
      · -- 0: slot 145 := Op.move (Operand.tmp 1)
        intro a w hR F
        have e1 : a.eval (.tmp 1) = .pointer (some ⟨lb, 0, none⟩) := F.old 1 (by kernel_rfl)
        exact ok_move _ rfl (wanted_none rfl) ⟨RN.refl _, e1⟩
      refine Owed.cons ?_ ?_
      · -- 1: slot 146 := Op.load 52 (Operand.tmp 6)
        intro a w hR F
        have e6 : a.eval (.tmp 6) = .pointer (some ⟨w0.heap.size, 0, none⟩) := F.old 6 (by kernel_rfl)
        exact ok_load _ _ rfl (wanted_none rfl) e6 (load_X (hR.blk HB.out HNE.out)) ⟨RN.refl _, rfl⟩
      refine Owed.cons ?_ ?_
      · -- 2: slot 147 := Op.move (Operand.tmp 11)
        intro a w hR F
        have e11 : a.eval (.tmp 11) = .int .i64 (0) := F.old 11 (by kernel_rfl)
        exact ok_move _ rfl (wanted_none rfl) ⟨RN.refl _, e11⟩
      refine Owed.cons ?_ ?_
      · -- 3: slot 148 := Op.move (Operand.tmp 12)
        intro a w hR F
        have e12 : a.eval (.tmp 12) = .int .i64 (0) := F.old 12 (by kernel_rfl)
        exact ok_move _ rfl (wanted_none rfl) ⟨RN.refl _, e12⟩
      refine Owed.cons ?_ ?_
      · -- 4: slot 149 := Op.binOp BinOp.eql 46 (Operand.tmp 147) (Operand.tmp 148) 46
        intro a w hR F
        have e147 : a.eval (.tmp 147) = .int .i64 (0) := F.new 2 147 (by kernel_rfl)
        have e148 : a.eval (.tmp 148) = .int .i64 (0) := F.new 3 148 (by kernel_rfl)
        refine ok_bin _ _ _ _ _ rfl (wanted_none rfl) e147 e148 (run_eql_int _ _ _ _ _ _) ⟨RN.refl _, ?_⟩
        exact congrArg Value.bool (by simp)
      refine Owed.cons ?_ ?_
      · -- 5: slot 8 := Op.assign (Operand.tmp 145)
        intro a w hR F
        have e145 : a.eval (.tmp 145) = .pointer (some ⟨lb, 0, none⟩) := F.new 0 145 (by kernel_rfl)
        exact ok_assign _ rfl (wanted_none rfl) ⟨RN.refl _, e145⟩
      refine Owed.cons ?_ ?_
      · -- 6: slot None := Op.store 52 (Operand.tmp 9) (Operand.tmp 146)
        intro a w hR F
        have e9 : a.eval (.tmp 9) = .pointer (some ⟨(w0.heap.size + 1 + 1), 0, none⟩) := F.old 9 (by kernel_rfl)
        have e146 : a.eval (.tmp 146) = Lv (D) r g k2 := F.new 1 146 (by kernel_rfl)
        exact ok_storeX (L := lcs (D) r g k2) _ _ rfl (wanted_none rfl) e9 e146 rfl (hR.seven ⟨zero7, HY.out, rfl⟩) rfl HONE.out (fun w9 _ hb hw => ⟨RN.of_wrote hw hb rfl, hb⟩)
      refine Owed.cons ?_ ?_
      · -- 7: slot 10 := Op.assign (Operand.tmp 149)
        intro a w hR F
        have e149 : a.eval (.tmp 149) = .bool true := F.new 4 149 (by kernel_rfl)
        exact ok_assign _ rfl (wanted_none rfl) ⟨RN.refl _, e149⟩
      exact Owed.nil
    case fin =>
      intro y w2 hR hy
      have e5 : y 5 = .pointer (some ⟨lb, 0, none⟩) := hy 5 _ rfl
      have e7 : y 7 = .bool true := hy 7 _ rfl
      have HR := Lib.hid hR
      have hz : Blk w2 (w0.heap.size + 1 + 1) 52 (lcs (D) r g k2) := hy 6 _ rfl
      obtain ⟨x0, x1, x2, x3, x4, x5, x6⟩ := hz.cells7
      have FF := Lib.hid (S3.out.fin HR.out HK2.out.2)
      clear hy hR hz
      simp only [putAll, Act.put, List.setIfInBounds_toArray, List.set_cons_zero, List.set_cons_succ]
      rw [e5, e7]
      clear e5 e7
      go_wp2
      exact bodyPost_ret (v := .tuple #[.pointer (some ⟨lb, 0, none⟩), Lv (D) r g k2, .bool true]) (by simp [results, Try.results26, go_sem, x0, x1, x2, x3, x4, x5, x6]) rfl FF.out
end Go.Proofs.Ytbdgdmieggpmhaa.L4
