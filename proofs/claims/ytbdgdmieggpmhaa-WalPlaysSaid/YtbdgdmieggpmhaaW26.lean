/-
  Layer 4: the law's 'do', case by case.
-/
import Derived.Test.YtbdgdmieggpmhaaW25
namespace Go.Proofs.Ytbdgdmieggpmhaa.L4
open Go.ChangeShapes Go.WideShapes Go.ChangeAt Go.RowKit Oct By Reg L3
set_option linter.unusedVariables false

set_option maxRecDepth 100000 in
set_option maxHeartbeats 1000000 in
theorem do_full0 (ws w0 : World) (S : Nat → Prop) (b lb : Nat) (D : Dk) (g k : Nat) (m : Mem) (r : Rm) (p : Op3) (xs : List UInt8) (h : LwM ws S b lb D g k w0 m) (hr : HeldR w0 r D) (ho : ∀ q, r.has q → ¬ m.has q ∧ q ≠ lb) (hf : D.log.length + k ≤ D.room)
    (hbw : ∀ w' m' lb' D' g' k', LwM ws S b lb' D' g' k' w' m' → Bs w' p.v xs) (hx : xs.length ≤ 200) (hm8 : (p.k : Int).tmod 8 = 0) (hc : freeN D k < (frameB g xs).length):
    Calls Try.prog 26 #[.pointer (some ⟨b, 0, none⟩), .pointer (some ⟨lb, 0, none⟩), Lv D r g k, opv p] w0 (DoQ ws S b) := by
  have hst := St.start (ge := g) (ke := k) (p := p) h hr ho
  have HF := Lib.hid hf
  have HOK := Lib.hid h.held.disk.ok
  have HG := Lib.hid h.held.hg
  have HK := Lib.hid h.held.hk
  have HX := Lib.hid hx
  have HBW := Lib.hid hbw
  have ST := Lib.hid hst
  have HNE := Lib.hid (show w0.heap.size ≠ w0.heap.size + 1 + 1 by omega)
  have HC := Lib.hid hc
  clear h hr ho hf hbw hx hst
  obtain ⟨pk, pn, pv⟩ := p
  dsimp only at hm8 HBW
  go_enter Try.func26, Try.ntmps26
  go_wp2_with fail
  change Calls _ _ _ (threeX w0 (lcs D r g k) (opcs ⟨pk, pn, pv⟩) zero7) _
  generalize threeX w0 (lcs D r g k) (opcs ⟨pk, pn, pv⟩) zero7 = wt at *
  refine (add_full lb m D g k _ xs wt ST.out.l.held (HBW.out _ _ _ _ _ _ ST.out.l) (by have := HX.out; omega) HC.out).mono ?_
  rintro e w1 ⟨rfl, hr1⟩
  have S1 := Lib.hid (ST.out.rb hr1)
  clear hr1
  obtain ⟨o0, o1, o2⟩ := S1.out.o.cells3
  obtain ⟨y0, y1, y2, y3, y4, y5, y6⟩ := S1.out.x.cells7
  have hbs := HBW.out _ _ _ _ _ _ S1.out.l
  have k2 := conv_bs hbs
  have CR := Lib.hid (radd_full D r g k xs w1 S1.out.held HOK.out HK.out HG.out (by have := HX.out; omega) HC.out)
  clear hbs
  go_wp2_with fail
  refine CR.out.mono ?_
  rintro e w2 ⟨r2, rfl, hq2, hb2, hold2⟩
  have S2 := Lib.hid (S1.out.rb hb2)
  have HFR := Lib.hid (S1.out.fresh hold2)
  have HQ2 := Lib.hid hq2
  have HONE := Lib.hid (lcs_one (g := g) (k := k) hq2)
  clear hq2 hb2 hold2 o0 o1 o2 y0 y1 y2 y3 y4 y5 y6 k2 CR
  go_wp2_with (refine wpList_store rfl 52 _ _ rfl w0.heap.size 0 _ _ [_, _, _, _, _, _, _] _ rfl rfl S2.out.x rfl sizeX (by simp) HONE.out ?_)
  intro w3 hb3 hw3
  have S3 := Lib.hid (S2.out.storeX (E' := D) (r' := r2) (ge' := g) (ke' := k) hw3 hb3 HQ2.out HFR.out)
  have HB := Lib.hid S3.out.x
  have HY := Lib.hid S3.out.y
  clear hb3 hw3 hm8
  go_upto_region 30 with (fail)
  refine wp_region_store_specs (R := RN (w0.heap.size + 1 + 1) (lcs (D) r2 g k)) (S := [Spec.eq (.pointer (some ⟨lb, 0, none⟩)), Spec.eq (Lv (D) r2 g k), Spec.eq (.int .i64 (4)), Spec.eq (.int .i64 (4)), Spec.eq (.bool true), Spec.eq (.pointer (some ⟨lb, 0, none⟩)), blkSpec (w0.heap.size + 1 + 1) (lcs (D) r2 g k), Spec.eq (.bool true)]) (n := 1) (size := 150) (by kernel_rfl) RN.trans (RN.of_rb (Rb.drew _)) rfl (by kernel_rfl) ?owed ?fin
  case owed =>
    refine Owed.cons ?_ ?_
    · -- 0: slot 145 := Op.move (Operand.tmp 1)
      intro a w hR F
      have e1 : a.eval (.tmp 1) = .pointer (some ⟨lb, 0, none⟩) := F.old 1 (by kernel_rfl)
      exact ok_move _ rfl (wanted_none rfl) ⟨RN.refl _, e1⟩
    refine Owed.cons ?_ ?_
    · -- 1: slot 146 := Op.load 52 (Operand.tmp 6)
      intro a w hR F
      have e6 : a.eval (.tmp 6) = .pointer (some ⟨w0.heap.size, 0, none⟩) := F.old 6 (by kernel_rfl)
      exact ok_load _ _ rfl (wanted_none rfl) e6 (load_X (hR.blk HB.out HNE.out)) ⟨RN.refl _, rfl⟩
    refine Owed.cons ?_ ?_
    · -- 2: slot 147 := Op.move (Operand.tmp 11)
      intro a w hR F
      have e11 : a.eval (.tmp 11) = .int .i64 (4) := F.old 11 (by kernel_rfl)
      exact ok_move _ rfl (wanted_none rfl) ⟨RN.refl _, e11⟩
    refine Owed.cons ?_ ?_
    · -- 3: slot 148 := Op.move (Operand.tmp 12)
      intro a w hR F
      have e12 : a.eval (.tmp 12) = .int .i64 (4) := F.old 12 (by kernel_rfl)
      exact ok_move _ rfl (wanted_none rfl) ⟨RN.refl _, e12⟩
    refine Owed.cons ?_ ?_
    · -- 4: slot 149 := Op.binOp BinOp.eql 46 (Operand.tmp 147) (Operand.tmp 148) 46
      intro a w hR F
      have e147 : a.eval (.tmp 147) = .int .i64 (4) := F.new 2 147 (by kernel_rfl)
      have e148 : a.eval (.tmp 148) = .int .i64 (4) := F.new 3 148 (by kernel_rfl)
      refine ok_bin _ _ _ _ _ rfl (wanted_none rfl) e147 e148 (run_eql_int _ _ _ _ _ _) ⟨RN.refl _, ?_⟩
      exact congrArg Value.bool (by simp)
    refine Owed.cons ?_ ?_
    · -- 5: slot 8 := Op.assign (Operand.tmp 145)
      intro a w hR F
      have e145 : a.eval (.tmp 145) = .pointer (some ⟨lb, 0, none⟩) := F.new 0 145 (by kernel_rfl)
      exact ok_assign _ rfl (wanted_none rfl) ⟨RN.refl _, e145⟩
    refine Owed.cons ?_ ?_
    · -- 6: slot None := Op.store 52 (Operand.tmp 9) (Operand.tmp 146)
      intro a w hR F
      have e9 : a.eval (.tmp 9) = .pointer (some ⟨(w0.heap.size + 1 + 1), 0, none⟩) := F.old 9 (by kernel_rfl)
      have e146 : a.eval (.tmp 146) = Lv (D) r2 g k := F.new 1 146 (by kernel_rfl)
      exact ok_storeX (L := lcs (D) r2 g k) _ _ rfl (wanted_none rfl) e9 e146 rfl (hR.seven ⟨zero7, HY.out, rfl⟩) rfl HONE.out (fun w9 _ hb hw => ⟨RN.of_wrote hw hb rfl, hb⟩)
    refine Owed.cons ?_ ?_
    · -- 7: slot 10 := Op.assign (Operand.tmp 149)
      intro a w hR F
      have e149 : a.eval (.tmp 149) = .bool true := F.new 4 149 (by kernel_rfl)
      exact ok_assign _ rfl (wanted_none rfl) ⟨RN.refl _, e149⟩
    exact Owed.nil
  case fin =>
    intro y w2 hR hy
    have e5 : y 5 = .pointer (some ⟨lb, 0, none⟩) := hy 5 _ rfl
    have e7 : y 7 = .bool true := hy 7 _ rfl
    have HR := Lib.hid hR
    have hz : Blk w2 (w0.heap.size + 1 + 1) 52 (lcs (D) r2 g k) := hy 6 _ rfl
    obtain ⟨x0, x1, x2, x3, x4, x5, x6⟩ := hz.cells7
    have FF := Lib.hid (S3.out.fin HR.out HF.out)
    clear hy hR hz
    simp only [putAll, Act.put, List.setIfInBounds_toArray, List.set_cons_zero, List.set_cons_succ]
    rw [e5, e7]
    clear e5 e7
    go_wp2
    exact bodyPost_ret (v := .tuple #[.pointer (some ⟨lb, 0, none⟩), Lv (D) r2 g k, .bool true]) (by simp [results, Try.results26, go_sem, x0, x1, x2, x3, x4, x5, x6]) rfl FF.out

set_option maxRecDepth 100000 in
set_option maxHeartbeats 1000000 in
theorem do_fits0 (ws w0 : World) (S : Nat → Prop) (b lb : Nat) (D : Dk) (g k : Nat) (m : Mem) (r : Rm) (p : Op3) (xs : List UInt8) (h : LwM ws S b lb D g k w0 m) (hr : HeldR w0 r D) (ho : ∀ q, r.has q → ¬ m.has q ∧ q ≠ lb) (hf : D.log.length + k ≤ D.room)
    (hbw : ∀ w' m' lb' D' g' k', LwM ws S b lb' D' g' k' w' m' → Bs w' p.v xs) (hx : xs.length ≤ 200) (hm8 : (p.k : Int).tmod 8 = 0) (hc : (frameB g xs).length ≤ freeN D k) (hf0 : 0 < (frameB g xs).length):
    Calls Try.prog 26 #[.pointer (some ⟨b, 0, none⟩), .pointer (some ⟨lb, 0, none⟩), Lv D r g k, opv p] w0 (DoQ ws S b) := by
  have hst := St.start (ge := g) (ke := k) (p := p) h hr ho
  have HF := Lib.hid hf
  have HOK := Lib.hid h.held.disk.ok
  have HG := Lib.hid h.held.hg
  have HK := Lib.hid h.held.hk
  have HX := Lib.hid hx
  have HBW := Lib.hid hbw
  have ST := Lib.hid hst
  have HNE := Lib.hid (show w0.heap.size ≠ w0.heap.size + 1 + 1 by omega)
  have HC := Lib.hid hc
  have HC0 := Lib.hid hf0
  clear h hr ho hf hbw hx hst
  obtain ⟨pk, pn, pv⟩ := p
  dsimp only at hm8 HBW
  go_enter Try.func26, Try.ntmps26
  go_wp2_with fail
  change Calls _ _ _ (threeX w0 (lcs D r g k) (opcs ⟨pk, pn, pv⟩) zero7) _
  generalize threeX w0 (lcs D r g k) (opcs ⟨pk, pn, pv⟩) zero7 = wt at *
  refine (add_w ST.out.step (HBW.out _ _ _ _ _ _ ST.out.l) (by have := HX.out; omega) HC.out).mono ?_
  rintro e w1 ⟨rfl, m1, h1⟩
  have S1 := Lib.hid (ST.out.impl h1)
  clear h1
  obtain ⟨o0, o1, o2⟩ := S1.out.o.cells3
  obtain ⟨y0, y1, y2, y3, y4, y5, y6⟩ := S1.out.x.cells7
  have hbs := HBW.out _ _ _ _ _ _ S1.out.l
  have k2 := conv_bs hbs
  have CR := Lib.hid (radd_fits D r g k xs w1 S1.out.held HOK.out HK.out HG.out (by have := HX.out; omega) HC.out)
  clear hbs
  go_wp2_with fail
  refine CR.out.mono ?_
  rintro e w2 ⟨r2, rfl, hq2, hb2, hold2⟩
  have S2 := Lib.hid (S1.out.rb hb2)
  have HFR := Lib.hid (S1.out.fresh hold2)
  have HQ2 := Lib.hid hq2
  have HONE := Lib.hid (lcs_one (g := g) (k := k) hq2)
  clear hq2 hb2 hold2 o0 o1 o2 y0 y1 y2 y3 y4 y5 y6 k2 CR
  go_wp2_with (refine wpList_store rfl 52 _ _ rfl w0.heap.size 0 _ _ [_, _, _, _, _, _, _] _ rfl rfl S2.out.x rfl sizeX (by simp) HONE.out ?_)
  intro w3 hb3 hw3
  have S3 := Lib.hid (S2.out.storeX (E' := (D.append (frameB g xs))) (r' := r2) (ge' := g) (ke' := k) hw3 hb3 HQ2.out HFR.out)
  have HB := Lib.hid S3.out.x
  have HY := Lib.hid S3.out.y
  clear hb3 hw3 hm8
  go_upto_region 30 with (fail)
  refine wp_region_store_specs (R := RN (w0.heap.size + 1 + 1) (lcs ((D.append (frameB g xs))) r2 g k)) (S := [Spec.eq (.pointer (some ⟨lb, 0, none⟩)), Spec.eq (Lv ((D.append (frameB g xs))) r2 g k), Spec.eq (.int .i64 (0)), Spec.eq (.int .i64 (0)), Spec.eq (.bool true), Spec.eq (.pointer (some ⟨lb, 0, none⟩)), blkSpec (w0.heap.size + 1 + 1) (lcs ((D.append (frameB g xs))) r2 g k), Spec.eq (.bool true)]) (n := 1) (size := 150) (by kernel_rfl) RN.trans (RN.of_rb (Rb.drew _)) rfl (by kernel_rfl) ?owed ?fin
  case owed =>
    refine Owed.cons ?_ ?_
    · -- 0: slot 145 := Op.move (Operand.tmp 1)
      intro a w hR F
      have e1 : a.eval (.tmp 1) = .pointer (some ⟨lb, 0, none⟩) := F.old 1 (by kernel_rfl)
      exact ok_move _ rfl (wanted_none rfl) ⟨RN.refl _, e1⟩
    refine Owed.cons ?_ ?_
    · -- 1: slot 146 := Op.load 52 (Operand.tmp 6)
      intro a w hR F
      have e6 : a.eval (.tmp 6) = .pointer (some ⟨w0.heap.size, 0, none⟩) := F.old 6 (by kernel_rfl)
      exact ok_load _ _ rfl (wanted_none rfl) e6 (load_X (hR.blk HB.out HNE.out)) ⟨RN.refl _, rfl⟩
    refine Owed.cons ?_ ?_
    · -- 2: slot 147 := Op.move (Operand.tmp 11)
      intro a w hR F
      have e11 : a.eval (.tmp 11) = .int .i64 (0) := F.old 11 (by kernel_rfl)
      exact ok_move _ rfl (wanted_none rfl) ⟨RN.refl _, e11⟩
    refine Owed.cons ?_ ?_
    · -- 3: slot 148 := Op.move (Operand.tmp 12)
      intro a w hR F
      have e12 : a.eval (.tmp 12) = .int .i64 (0) := F.old 12 (by kernel_rfl)
      exact ok_move _ rfl (wanted_none rfl) ⟨RN.refl _, e12⟩
    refine Owed.cons ?_ ?_
    · -- 4: slot 149 := Op.binOp BinOp.eql 46 (Operand.tmp 147) (Operand.tmp 148) 46
      intro a w hR F
      have e147 : a.eval (.tmp 147) = .int .i64 (0) := F.new 2 147 (by kernel_rfl)
      have e148 : a.eval (.tmp 148) = .int .i64 (0) := F.new 3 148 (by kernel_rfl)
      refine ok_bin _ _ _ _ _ rfl (wanted_none rfl) e147 e148 (run_eql_int _ _ _ _ _ _) ⟨RN.refl _, ?_⟩
      exact congrArg Value.bool (by simp)
    refine Owed.cons ?_ ?_
    · -- 5: slot 8 := Op.assign (Operand.tmp 145)
      intro a w hR F
      have e145 : a.eval (.tmp 145) = .pointer (some ⟨lb, 0, none⟩) := F.new 0 145 (by kernel_rfl)
      exact ok_assign _ rfl (wanted_none rfl) ⟨RN.refl _, e145⟩
    refine Owed.cons ?_ ?_
    · -- 6: slot None := Op.store 52 (Operand.tmp 9) (Operand.tmp 146)
      intro a w hR F
      have e9 : a.eval (.tmp 9) = .pointer (some ⟨(w0.heap.size + 1 + 1), 0, none⟩) := F.old 9 (by kernel_rfl)
      have e146 : a.eval (.tmp 146) = Lv ((D.append (frameB g xs))) r2 g k := F.new 1 146 (by kernel_rfl)
      exact ok_storeX (L := lcs ((D.append (frameB g xs))) r2 g k) _ _ rfl (wanted_none rfl) e9 e146 rfl (hR.seven ⟨zero7, HY.out, rfl⟩) rfl HONE.out (fun w9 _ hb hw => ⟨RN.of_wrote hw hb rfl, hb⟩)
    refine Owed.cons ?_ ?_
    · -- 7: slot 10 := Op.assign (Operand.tmp 149)
      intro a w hR F
      have e149 : a.eval (.tmp 149) = .bool true := F.new 4 149 (by kernel_rfl)
      exact ok_assign _ rfl (wanted_none rfl) ⟨RN.refl _, e149⟩
    exact Owed.nil
  case fin =>
    intro y w2 hR hy
    have e5 : y 5 = .pointer (some ⟨lb, 0, none⟩) := hy 5 _ rfl
    have e7 : y 7 = .bool true := hy 7 _ rfl
    have HR := Lib.hid hR
    have hz : Blk w2 (w0.heap.size + 1 + 1) 52 (lcs ((D.append (frameB g xs))) r2 g k) := hy 6 _ rfl
    obtain ⟨x0, x1, x2, x3, x4, x5, x6⟩ := hz.cells7
    have FF := Lib.hid (S3.out.fin HR.out (by have h1 := HF.out; have h2 := HC.out; have h3 := HOK.out.1; rw [append_log, List.length_append]; unfold freeN at h2; show _ ≤ D.room; have h4 := HC0.out; omega))
    clear hy hR hz
    simp only [putAll, Act.put, List.setIfInBounds_toArray, List.set_cons_zero, List.set_cons_succ]
    rw [e5, e7]
    clear e5 e7
    go_wp2
    exact bodyPost_ret (v := .tuple #[.pointer (some ⟨lb, 0, none⟩), Lv ((D.append (frameB g xs))) r2 g k, .bool true]) (by simp [results, Try.results26, go_sem, x0, x1, x2, x3, x4, x5, x6]) rfl FF.out

set_option maxRecDepth 100000 in
set_option maxHeartbeats 1000000 in
theorem do_full1 (ws w0 : World) (S : Nat → Prop) (b lb : Nat) (D : Dk) (g k : Nat) (m : Mem) (r : Rm) (p : Op3) (xs : List UInt8) (h : LwM ws S b lb D g k w0 m) (hr : HeldR w0 r D) (ho : ∀ q, r.has q → ¬ m.has q ∧ q ≠ lb) (hf : D.log.length + k ≤ D.room)
    (hbw : ∀ w' m' lb' D' g' k', LwM ws S b lb' D' g' k' w' m' → Bs w' p.v xs) (hx : xs.length ≤ 200) (hm8 : (p.k : Int).tmod 8 = 1) (hc : freeN D k < (frameB g xs).length):
    Calls Try.prog 26 #[.pointer (some ⟨b, 0, none⟩), .pointer (some ⟨lb, 0, none⟩), Lv D r g k, opv p] w0 (DoQ ws S b) := by
  have hst := St.start (ge := g) (ke := k) (p := p) h hr ho
  have HF := Lib.hid hf
  have HOK := Lib.hid h.held.disk.ok
  have HG := Lib.hid h.held.hg
  have HK := Lib.hid h.held.hk
  have HX := Lib.hid hx
  have HBW := Lib.hid hbw
  have ST := Lib.hid hst
  have HNE := Lib.hid (show w0.heap.size ≠ w0.heap.size + 1 + 1 by omega)
  have HC := Lib.hid hc
  clear h hr ho hf hbw hx hst
  obtain ⟨pk, pn, pv⟩ := p
  dsimp only at hm8 HBW
  go_enter Try.func26, Try.ntmps26
  go_wp2_with fail
  change Calls _ _ _ (threeX w0 (lcs D r g k) (opcs ⟨pk, pn, pv⟩) zero7) _
  generalize threeX w0 (lcs D r g k) (opcs ⟨pk, pn, pv⟩) zero7 = wt at *
  refine (add_full lb m D g k _ xs wt ST.out.l.held (HBW.out _ _ _ _ _ _ ST.out.l) (by have := HX.out; omega) HC.out).mono ?_
  rintro e w1 ⟨rfl, hr1⟩
  have S1 := Lib.hid (ST.out.rb hr1)
  clear hr1
  obtain ⟨o0, o1, o2⟩ := S1.out.o.cells3
  obtain ⟨y0, y1, y2, y3, y4, y5, y6⟩ := S1.out.x.cells7
  have hbs := HBW.out _ _ _ _ _ _ S1.out.l
  have k2 := conv_bs hbs
  have CR := Lib.hid (radd_full D r g k xs w1 S1.out.held HOK.out HK.out HG.out (by have := HX.out; omega) HC.out)
  clear hbs
  go_wp2_with fail
  refine CR.out.mono ?_
  rintro e w2 ⟨r2, rfl, hq2, hb2, hold2⟩
  have S2 := Lib.hid (S1.out.rb hb2)
  have HFR := Lib.hid (S1.out.fresh hold2)
  have HQ2 := Lib.hid hq2
  have HONE := Lib.hid (lcs_one (g := g) (k := k) hq2)
  clear hq2 hb2 hold2 o0 o1 o2 y0 y1 y2 y3 y4 y5 y6 k2 CR
  go_wp2_with (refine wpList_store rfl 52 _ _ rfl w0.heap.size 0 _ _ [_, _, _, _, _, _, _] _ rfl rfl S2.out.x rfl sizeX (by simp) HONE.out ?_)
  intro w3 hb3 hw3
  have S3 := Lib.hid (S2.out.storeX (E' := D) (r' := r2) (ge' := g) (ke' := k) hw3 hb3 HQ2.out HFR.out)
  have HB := Lib.hid S3.out.x
  have HY := Lib.hid S3.out.y
  clear hb3 hw3 hm8
  go_upto_region 30 with (fail)
  refine wp_region_store_specs (R := RN (w0.heap.size + 1 + 1) (lcs (D) r2 g k)) (S := [Spec.eq (.pointer (some ⟨lb, 0, none⟩)), Spec.eq (Lv (D) r2 g k), Spec.eq (.int .i64 (4)), Spec.eq (.int .i64 (4)), Spec.eq (.bool true), Spec.eq (.pointer (some ⟨lb, 0, none⟩)), blkSpec (w0.heap.size + 1 + 1) (lcs (D) r2 g k), Spec.eq (.bool true)]) (n := 1) (size := 150) (by kernel_rfl) RN.trans (RN.of_rb (Rb.drew _)) rfl (by kernel_rfl) ?owed ?fin
  case owed =>
    refine Owed.cons ?_ ?_
    · -- 0: slot 145 := Op.move (Operand.tmp 1)
      intro a w hR F
      have e1 : a.eval (.tmp 1) = .pointer (some ⟨lb, 0, none⟩) := F.old 1 (by kernel_rfl)
      exact ok_move _ rfl (wanted_none rfl) ⟨RN.refl _, e1⟩
    refine Owed.cons ?_ ?_
    · -- 1: slot 146 := Op.load 52 (Operand.tmp 6)
      intro a w hR F
      have e6 : a.eval (.tmp 6) = .pointer (some ⟨w0.heap.size, 0, none⟩) := F.old 6 (by kernel_rfl)
      exact ok_load _ _ rfl (wanted_none rfl) e6 (load_X (hR.blk HB.out HNE.out)) ⟨RN.refl _, rfl⟩
    refine Owed.cons ?_ ?_
    · -- 2: slot 147 := Op.move (Operand.tmp 11)
      intro a w hR F
      have e11 : a.eval (.tmp 11) = .int .i64 (4) := F.old 11 (by kernel_rfl)
      exact ok_move _ rfl (wanted_none rfl) ⟨RN.refl _, e11⟩
    refine Owed.cons ?_ ?_
    · -- 3: slot 148 := Op.move (Operand.tmp 12)
      intro a w hR F
      have e12 : a.eval (.tmp 12) = .int .i64 (4) := F.old 12 (by kernel_rfl)
      exact ok_move _ rfl (wanted_none rfl) ⟨RN.refl _, e12⟩
    refine Owed.cons ?_ ?_
    · -- 4: slot 149 := Op.binOp BinOp.eql 46 (Operand.tmp 147) (Operand.tmp 148) 46
      intro a w hR F
      have e147 : a.eval (.tmp 147) = .int .i64 (4) := F.new 2 147 (by kernel_rfl)
      have e148 : a.eval (.tmp 148) = .int .i64 (4) := F.new 3 148 (by kernel_rfl)
      refine ok_bin _ _ _ _ _ rfl (wanted_none rfl) e147 e148 (run_eql_int _ _ _ _ _ _) ⟨RN.refl _, ?_⟩
      exact congrArg Value.bool (by simp)
    refine Owed.cons ?_ ?_
    · -- 5: slot 8 := Op.assign (Operand.tmp 145)
      intro a w hR F
      have e145 : a.eval (.tmp 145) = .pointer (some ⟨lb, 0, none⟩) := F.new 0 145 (by kernel_rfl)
      exact ok_assign _ rfl (wanted_none rfl) ⟨RN.refl _, e145⟩
    refine Owed.cons ?_ ?_
    · -- 6: slot None := Op.store 52 (Operand.tmp 9) (Operand.tmp 146)
      intro a w hR F
      have e9 : a.eval (.tmp 9) = .pointer (some ⟨(w0.heap.size + 1 + 1), 0, none⟩) := F.old 9 (by kernel_rfl)
      have e146 : a.eval (.tmp 146) = Lv (D) r2 g k := F.new 1 146 (by kernel_rfl)
      exact ok_storeX (L := lcs (D) r2 g k) _ _ rfl (wanted_none rfl) e9 e146 rfl (hR.seven ⟨zero7, HY.out, rfl⟩) rfl HONE.out (fun w9 _ hb hw => ⟨RN.of_wrote hw hb rfl, hb⟩)
    refine Owed.cons ?_ ?_
    · -- 7: slot 10 := Op.assign (Operand.tmp 149)
      intro a w hR F
      have e149 : a.eval (.tmp 149) = .bool true := F.new 4 149 (by kernel_rfl)
      exact ok_assign _ rfl (wanted_none rfl) ⟨RN.refl _, e149⟩
    exact Owed.nil
  case fin =>
    intro y w2 hR hy
    have e5 : y 5 = .pointer (some ⟨lb, 0, none⟩) := hy 5 _ rfl
    have e7 : y 7 = .bool true := hy 7 _ rfl
    have HR := Lib.hid hR
    have hz : Blk w2 (w0.heap.size + 1 + 1) 52 (lcs (D) r2 g k) := hy 6 _ rfl
    obtain ⟨x0, x1, x2, x3, x4, x5, x6⟩ := hz.cells7
    have FF := Lib.hid (S3.out.fin HR.out HF.out)
    clear hy hR hz
    simp only [putAll, Act.put, List.setIfInBounds_toArray, List.set_cons_zero, List.set_cons_succ]
    rw [e5, e7]
    clear e5 e7
    go_wp2
    exact bodyPost_ret (v := .tuple #[.pointer (some ⟨lb, 0, none⟩), Lv (D) r2 g k, .bool true]) (by simp [results, Try.results26, go_sem, x0, x1, x2, x3, x4, x5, x6]) rfl FF.out

set_option maxRecDepth 100000 in
set_option maxHeartbeats 1000000 in
theorem do_fits1 (ws w0 : World) (S : Nat → Prop) (b lb : Nat) (D : Dk) (g k : Nat) (m : Mem) (r : Rm) (p : Op3) (xs : List UInt8) (h : LwM ws S b lb D g k w0 m) (hr : HeldR w0 r D) (ho : ∀ q, r.has q → ¬ m.has q ∧ q ≠ lb) (hf : D.log.length + k ≤ D.room)
    (hbw : ∀ w' m' lb' D' g' k', LwM ws S b lb' D' g' k' w' m' → Bs w' p.v xs) (hx : xs.length ≤ 200) (hm8 : (p.k : Int).tmod 8 = 1) (hc : (frameB g xs).length ≤ freeN D k) (hf0 : 0 < (frameB g xs).length):
    Calls Try.prog 26 #[.pointer (some ⟨b, 0, none⟩), .pointer (some ⟨lb, 0, none⟩), Lv D r g k, opv p] w0 (DoQ ws S b) := by
  have hst := St.start (ge := g) (ke := k) (p := p) h hr ho
  have HF := Lib.hid hf
  have HOK := Lib.hid h.held.disk.ok
  have HG := Lib.hid h.held.hg
  have HK := Lib.hid h.held.hk
  have HX := Lib.hid hx
  have HBW := Lib.hid hbw
  have ST := Lib.hid hst
  have HNE := Lib.hid (show w0.heap.size ≠ w0.heap.size + 1 + 1 by omega)
  have HC := Lib.hid hc
  have HC0 := Lib.hid hf0
  clear h hr ho hf hbw hx hst
  obtain ⟨pk, pn, pv⟩ := p
  dsimp only at hm8 HBW
  go_enter Try.func26, Try.ntmps26
  go_wp2_with fail
  change Calls _ _ _ (threeX w0 (lcs D r g k) (opcs ⟨pk, pn, pv⟩) zero7) _
  generalize threeX w0 (lcs D r g k) (opcs ⟨pk, pn, pv⟩) zero7 = wt at *
  refine (add_w ST.out.step (HBW.out _ _ _ _ _ _ ST.out.l) (by have := HX.out; omega) HC.out).mono ?_
  rintro e w1 ⟨rfl, m1, h1⟩
  have S1 := Lib.hid (ST.out.impl h1)
  clear h1
  obtain ⟨o0, o1, o2⟩ := S1.out.o.cells3
  obtain ⟨y0, y1, y2, y3, y4, y5, y6⟩ := S1.out.x.cells7
  have hbs := HBW.out _ _ _ _ _ _ S1.out.l
  have k2 := conv_bs hbs
  have CR := Lib.hid (radd_fits D r g k xs w1 S1.out.held HOK.out HK.out HG.out (by have := HX.out; omega) HC.out)
  clear hbs
  go_wp2_with fail
  refine CR.out.mono ?_
  rintro e w2 ⟨r2, rfl, hq2, hb2, hold2⟩
  have S2 := Lib.hid (S1.out.rb hb2)
  have HFR := Lib.hid (S1.out.fresh hold2)
  have HQ2 := Lib.hid hq2
  have HONE := Lib.hid (lcs_one (g := g) (k := k) hq2)
  clear hq2 hb2 hold2 o0 o1 o2 y0 y1 y2 y3 y4 y5 y6 k2 CR
  go_wp2_with (refine wpList_store rfl 52 _ _ rfl w0.heap.size 0 _ _ [_, _, _, _, _, _, _] _ rfl rfl S2.out.x rfl sizeX (by simp) HONE.out ?_)
  intro w3 hb3 hw3
  have S3 := Lib.hid (S2.out.storeX (E' := (D.append (frameB g xs))) (r' := r2) (ge' := g) (ke' := k) hw3 hb3 HQ2.out HFR.out)
  have HB := Lib.hid S3.out.x
  have HY := Lib.hid S3.out.y
  clear hb3 hw3 hm8
  go_upto_region 30 with (fail)
  refine wp_region_store_specs (R := RN (w0.heap.size + 1 + 1) (lcs ((D.append (frameB g xs))) r2 g k)) (S := [Spec.eq (.pointer (some ⟨lb, 0, none⟩)), Spec.eq (Lv ((D.append (frameB g xs))) r2 g k), Spec.eq (.int .i64 (0)), Spec.eq (.int .i64 (0)), Spec.eq (.bool true), Spec.eq (.pointer (some ⟨lb, 0, none⟩)), blkSpec (w0.heap.size + 1 + 1) (lcs ((D.append (frameB g xs))) r2 g k), Spec.eq (.bool true)]) (n := 1) (size := 150) (by kernel_rfl) RN.trans (RN.of_rb (Rb.drew _)) rfl (by kernel_rfl) ?owed ?fin
  case owed =>
    refine Owed.cons ?_ ?_
    · -- 0: slot 145 := Op.move (Operand.tmp 1)
      intro a w hR F
      have e1 : a.eval (.tmp 1) = .pointer (some ⟨lb, 0, none⟩) := F.old 1 (by kernel_rfl)
      exact ok_move _ rfl (wanted_none rfl) ⟨RN.refl _, e1⟩
    refine Owed.cons ?_ ?_
    · -- 1: slot 146 := Op.load 52 (Operand.tmp 6)
      intro a w hR F
      have e6 : a.eval (.tmp 6) = .pointer (some ⟨w0.heap.size, 0, none⟩) := F.old 6 (by kernel_rfl)
      exact ok_load _ _ rfl (wanted_none rfl) e6 (load_X (hR.blk HB.out HNE.out)) ⟨RN.refl _, rfl⟩
    refine Owed.cons ?_ ?_
    · -- 2: slot 147 := Op.move (Operand.tmp 11)
      intro a w hR F
      have e11 : a.eval (.tmp 11) = .int .i64 (0) := F.old 11 (by kernel_rfl)
      exact ok_move _ rfl (wanted_none rfl) ⟨RN.refl _, e11⟩
    refine Owed.cons ?_ ?_
    · -- 3: slot 148 := Op.move (Operand.tmp 12)
      intro a w hR F
      have e12 : a.eval (.tmp 12) = .int .i64 (0) := F.old 12 (by kernel_rfl)
      exact ok_move _ rfl (wanted_none rfl) ⟨RN.refl _, e12⟩
    refine Owed.cons ?_ ?_
    · -- 4: slot 149 := Op.binOp BinOp.eql 46 (Operand.tmp 147) (Operand.tmp 148) 46
      intro a w hR F
      have e147 : a.eval (.tmp 147) = .int .i64 (0) := F.new 2 147 (by kernel_rfl)
      have e148 : a.eval (.tmp 148) = .int .i64 (0) := F.new 3 148 (by kernel_rfl)
      refine ok_bin _ _ _ _ _ rfl (wanted_none rfl) e147 e148 (run_eql_int _ _ _ _ _ _) ⟨RN.refl _, ?_⟩
      exact congrArg Value.bool (by simp)
    refine Owed.cons ?_ ?_
    · -- 5: slot 8 := Op.assign (Operand.tmp 145)
      intro a w hR F
      have e145 : a.eval (.tmp 145) = .pointer (some ⟨lb, 0, none⟩) := F.new 0 145 (by kernel_rfl)
      exact ok_assign _ rfl (wanted_none rfl) ⟨RN.refl _, e145⟩
    refine Owed.cons ?_ ?_
    · -- 6: slot None := Op.store 52 (Operand.tmp 9) (Operand.tmp 146)
      intro a w hR F
      have e9 : a.eval (.tmp 9) = .pointer (some ⟨(w0.heap.size + 1 + 1), 0, none⟩) := F.old 9 (by kernel_rfl)
      have e146 : a.eval (.tmp 146) = Lv ((D.append (frameB g xs))) r2 g k := F.new 1 146 (by kernel_rfl)
      exact ok_storeX (L := lcs ((D.append (frameB g xs))) r2 g k) _ _ rfl (wanted_none rfl) e9 e146 rfl (hR.seven ⟨zero7, HY.out, rfl⟩) rfl HONE.out (fun w9 _ hb hw => ⟨RN.of_wrote hw hb rfl, hb⟩)
    refine Owed.cons ?_ ?_
    · -- 7: slot 10 := Op.assign (Operand.tmp 149)
      intro a w hR F
      have e149 : a.eval (.tmp 149) = .bool true := F.new 4 149 (by kernel_rfl)
      exact ok_assign _ rfl (wanted_none rfl) ⟨RN.refl _, e149⟩
    exact Owed.nil
  case fin =>
    intro y w2 hR hy
    have e5 : y 5 = .pointer (some ⟨lb, 0, none⟩) := hy 5 _ rfl
    have e7 : y 7 = .bool true := hy 7 _ rfl
    have HR := Lib.hid hR
    have hz : Blk w2 (w0.heap.size + 1 + 1) 52 (lcs ((D.append (frameB g xs))) r2 g k) := hy 6 _ rfl
    obtain ⟨x0, x1, x2, x3, x4, x5, x6⟩ := hz.cells7
    have FF := Lib.hid (S3.out.fin HR.out (by have h1 := HF.out; have h2 := HC.out; have h3 := HOK.out.1; rw [append_log, List.length_append]; unfold freeN at h2; show _ ≤ D.room; have h4 := HC0.out; omega))
    clear hy hR hz
    simp only [putAll, Act.put, List.setIfInBounds_toArray, List.set_cons_zero, List.set_cons_succ]
    rw [e5, e7]
    clear e5 e7
    go_wp2
    exact bodyPost_ret (v := .tuple #[.pointer (some ⟨lb, 0, none⟩), Lv ((D.append (frameB g xs))) r2 g k, .bool true]) (by simp [results, Try.results26, go_sem, x0, x1, x2, x3, x4, x5, x6]) rfl FF.out

set_option maxRecDepth 100000 in
set_option maxHeartbeats 1000000 in
theorem do_no (ws w0 : World) (S : Nat → Prop) (b lb : Nat) (D : Dk) (g k : Nat) (m : Mem) (r : Rm) (p : Op3) (xs : List UInt8) (h : LwM ws S b lb D g k w0 m) (hr : HeldR w0 r D) (ho : ∀ q, r.has q → ¬ m.has q ∧ q ≠ lb) (hf : D.log.length + k ≤ D.room)
    (hbw : ∀ w' m' lb' D' g' k', LwM ws S b lb' D' g' k' w' m' → Bs w' p.v xs) (hx : xs.length ≤ 200) (hm8 : (p.k : Int).tmod 8 = 2) (hc : k < (frameB g xs).length):
    Calls Try.prog 26 #[.pointer (some ⟨b, 0, none⟩), .pointer (some ⟨lb, 0, none⟩), Lv D r g k, opv p] w0 (DoQ ws S b) := by
  have hst := St.start (ge := g) (ke := k) (p := p) h hr ho
  have HF := Lib.hid hf
  have HOK := Lib.hid h.held.disk.ok
  have HG := Lib.hid h.held.hg
  have HK := Lib.hid h.held.hk
  have HX := Lib.hid hx
  have HBW := Lib.hid hbw
  have ST := Lib.hid hst
  have HNE := Lib.hid (show w0.heap.size ≠ w0.heap.size + 1 + 1 by omega)
  have HC := Lib.hid hc
  clear h hr ho hf hbw hx hst
  obtain ⟨pk, pn, pv⟩ := p
  dsimp only at hm8 HBW
  go_enter Try.func26, Try.ntmps26
  go_wp2_with fail
  change Calls _ _ _ (threeX w0 (lcs D r g k) (opcs ⟨pk, pn, pv⟩) zero7) _
  generalize threeX w0 (lcs D r g k) (opcs ⟨pk, pn, pv⟩) zero7 = wt at *
  refine (addkept_no lb m D g k _ xs wt ST.out.l.held (HBW.out _ _ _ _ _ _ ST.out.l) (by have := HX.out; omega) HC.out).mono ?_
  rintro e w1 ⟨rfl, hr1⟩
  have S1 := Lib.hid (ST.out.rb hr1)
  clear hr1
  obtain ⟨o0, o1, o2⟩ := S1.out.o.cells3
  obtain ⟨y0, y1, y2, y3, y4, y5, y6⟩ := S1.out.x.cells7
  have hbs := HBW.out _ _ _ _ _ _ S1.out.l
  have k2 := conv_bs hbs
  have CR := Lib.hid (radd_no D r g k xs w1 S1.out.held HOK.out HK.out HG.out (by have := HX.out; omega) HC.out)
  clear hbs
  go_wp2_with fail
  refine CR.out.mono ?_
  rintro e w2 ⟨r2, rfl, hq2, hb2, hold2⟩
  have S2 := Lib.hid (S1.out.rb hb2)
  have HFR := Lib.hid (S1.out.fresh hold2)
  have HQ2 := Lib.hid hq2
  have HONE := Lib.hid (lcs_one (g := g) (k := k) hq2)
  clear hq2 hb2 hold2 o0 o1 o2 y0 y1 y2 y3 y4 y5 y6 k2 CR
  go_wp2_with (refine wpList_store rfl 52 _ _ rfl w0.heap.size 0 _ _ [_, _, _, _, _, _, _] _ rfl rfl S2.out.x rfl sizeX (by simp) HONE.out ?_)
  intro w3 hb3 hw3
  have S3 := Lib.hid (S2.out.storeX (E' := D) (r' := r2) (ge' := g) (ke' := k) hw3 hb3 HQ2.out HFR.out)
  have HB := Lib.hid S3.out.x
  have HY := Lib.hid S3.out.y
  clear hb3 hw3 hm8
  go_upto_region 30 with (fail)
  refine wp_region_store_specs (R := RN (w0.heap.size + 1 + 1) (lcs (D) r2 g k)) (S := [Spec.eq (.pointer (some ⟨lb, 0, none⟩)), Spec.eq (Lv (D) r2 g k), Spec.eq (.int .i64 (6)), Spec.eq (.int .i64 (6)), Spec.eq (.bool true), Spec.eq (.pointer (some ⟨lb, 0, none⟩)), blkSpec (w0.heap.size + 1 + 1) (lcs (D) r2 g k), Spec.eq (.bool true)]) (n := 1) (size := 150) (by kernel_rfl) RN.trans (RN.of_rb (Rb.drew _)) rfl (by kernel_rfl) ?owed ?fin
  case owed =>
    refine Owed.cons ?_ ?_
    · -- 0: slot 145 := Op.move (Operand.tmp 1)
      intro a w hR F
      have e1 : a.eval (.tmp 1) = .pointer (some ⟨lb, 0, none⟩) := F.old 1 (by kernel_rfl)
      exact ok_move _ rfl (wanted_none rfl) ⟨RN.refl _, e1⟩
    refine Owed.cons ?_ ?_
    · -- 1: slot 146 := Op.load 52 (Operand.tmp 6)
      intro a w hR F
      have e6 : a.eval (.tmp 6) = .pointer (some ⟨w0.heap.size, 0, none⟩) := F.old 6 (by kernel_rfl)
      exact ok_load _ _ rfl (wanted_none rfl) e6 (load_X (hR.blk HB.out HNE.out)) ⟨RN.refl _, rfl⟩
    refine Owed.cons ?_ ?_
    · -- 2: slot 147 := Op.move (Operand.tmp 11)
      intro a w hR F
      have e11 : a.eval (.tmp 11) = .int .i64 (6) := F.old 11 (by kernel_rfl)
      exact ok_move _ rfl (wanted_none rfl) ⟨RN.refl _, e11⟩
    refine Owed.cons ?_ ?_
    · -- 3: slot 148 := Op.move (Operand.tmp 12)
      intro a w hR F
      have e12 : a.eval (.tmp 12) = .int .i64 (6) := F.old 12 (by kernel_rfl)
      exact ok_move _ rfl (wanted_none rfl) ⟨RN.refl _, e12⟩
    refine Owed.cons ?_ ?_
    · -- 4: slot 149 := Op.binOp BinOp.eql 46 (Operand.tmp 147) (Operand.tmp 148) 46
      intro a w hR F
      have e147 : a.eval (.tmp 147) = .int .i64 (6) := F.new 2 147 (by kernel_rfl)
      have e148 : a.eval (.tmp 148) = .int .i64 (6) := F.new 3 148 (by kernel_rfl)
      refine ok_bin _ _ _ _ _ rfl (wanted_none rfl) e147 e148 (run_eql_int _ _ _ _ _ _) ⟨RN.refl _, ?_⟩
      exact congrArg Value.bool (by simp)
    refine Owed.cons ?_ ?_
    · -- 5: slot 8 := Op.assign (Operand.tmp 145)
      intro a w hR F
      have e145 : a.eval (.tmp 145) = .pointer (some ⟨lb, 0, none⟩) := F.new 0 145 (by kernel_rfl)
      exact ok_assign _ rfl (wanted_none rfl) ⟨RN.refl _, e145⟩
    refine Owed.cons ?_ ?_
    · -- 6: slot None := Op.store 52 (Operand.tmp 9) (Operand.tmp 146)
      intro a w hR F
      have e9 : a.eval (.tmp 9) = .pointer (some ⟨(w0.heap.size + 1 + 1), 0, none⟩) := F.old 9 (by kernel_rfl)
      have e146 : a.eval (.tmp 146) = Lv (D) r2 g k := F.new 1 146 (by kernel_rfl)
      exact ok_storeX (L := lcs (D) r2 g k) _ _ rfl (wanted_none rfl) e9 e146 rfl (hR.seven ⟨zero7, HY.out, rfl⟩) rfl HONE.out (fun w9 _ hb hw => ⟨RN.of_wrote hw hb rfl, hb⟩)
    refine Owed.cons ?_ ?_
    · -- 7: slot 10 := Op.assign (Operand.tmp 149)
      intro a w hR F
      have e149 : a.eval (.tmp 149) = .bool true := F.new 4 149 (by kernel_rfl)
      exact ok_assign _ rfl (wanted_none rfl) ⟨RN.refl _, e149⟩
    exact Owed.nil
  case fin =>
    intro y w2 hR hy
    have e5 : y 5 = .pointer (some ⟨lb, 0, none⟩) := hy 5 _ rfl
    have e7 : y 7 = .bool true := hy 7 _ rfl
    have HR := Lib.hid hR
    have hz : Blk w2 (w0.heap.size + 1 + 1) 52 (lcs (D) r2 g k) := hy 6 _ rfl
    obtain ⟨x0, x1, x2, x3, x4, x5, x6⟩ := hz.cells7
    have FF := Lib.hid (S3.out.fin HR.out HF.out)
    clear hy hR hz
    simp only [putAll, Act.put, List.setIfInBounds_toArray, List.set_cons_zero, List.set_cons_succ]
    rw [e5, e7]
    clear e5 e7
    go_wp2
    exact bodyPost_ret (v := .tuple #[.pointer (some ⟨lb, 0, none⟩), Lv (D) r2 g k, .bool true]) (by simp [results, Try.results26, go_sem, x0, x1, x2, x3, x4, x5, x6]) rfl FF.out

set_option maxRecDepth 100000 in
set_option maxHeartbeats 1000000 in
theorem do_kept (ws w0 : World) (S : Nat → Prop) (b lb : Nat) (D : Dk) (g k : Nat) (m : Mem) (r : Rm) (p : Op3) (xs : List UInt8) (h : LwM ws S b lb D g k w0 m) (hr : HeldR w0 r D) (ho : ∀ q, r.has q → ¬ m.has q ∧ q ≠ lb) (hf : D.log.length + k ≤ D.room)
    (hbw : ∀ w' m' lb' D' g' k', LwM ws S b lb' D' g' k' w' m' → Bs w' p.v xs) (hx : xs.length ≤ 200) (hm8 : (p.k : Int).tmod 8 = 2) (hc : (frameB g xs).length ≤ k):
    Calls Try.prog 26 #[.pointer (some ⟨b, 0, none⟩), .pointer (some ⟨lb, 0, none⟩), Lv D r g k, opv p] w0 (DoQ ws S b) := by
  have hst := St.start (ge := g) (ke := k) (p := p) h hr ho
  have HF := Lib.hid hf
  have HOK := Lib.hid h.held.disk.ok
  have HG := Lib.hid h.held.hg
  have HK := Lib.hid h.held.hk
  have HX := Lib.hid hx
  have HBW := Lib.hid hbw
  have ST := Lib.hid hst
  have HNE := Lib.hid (show w0.heap.size ≠ w0.heap.size + 1 + 1 by omega)
  have HC := Lib.hid (show (frameB g xs).length ≤ k ∧ D.log.length + (frameB g xs).length ≤ D.room by omega)
  clear h hr ho hf hbw hx hst
  obtain ⟨pk, pn, pv⟩ := p
  dsimp only at hm8 HBW
  go_enter Try.func26, Try.ntmps26
  go_wp2_with fail
  change Calls _ _ _ (threeX w0 (lcs D r g k) (opcs ⟨pk, pn, pv⟩) zero7) _
  generalize threeX w0 (lcs D r g k) (opcs ⟨pk, pn, pv⟩) zero7 = wt at *
  refine (addkept_fits lb m D g k _ xs wt ST.out.l.held (HBW.out _ _ _ _ _ _ ST.out.l) (by have := HX.out; omega) HC.out.1 HC.out.2).mono ?_
  rintro e w1 ⟨rfl, ht1⟩
  obtain ⟨m1, h1⟩ := ST.out.step.turn ht1
  have S1 := Lib.hid (ST.out.impl h1)
  clear h1 ht1
  obtain ⟨o0, o1, o2⟩ := S1.out.o.cells3
  obtain ⟨y0, y1, y2, y3, y4, y5, y6⟩ := S1.out.x.cells7
  have hbs := HBW.out _ _ _ _ _ _ S1.out.l
  have k2 := conv_bs hbs
  have CR := Lib.hid (radd_kept D r g k xs w1 S1.out.held HOK.out HK.out HG.out (by have := HX.out; omega) HC.out)
  clear hbs
  go_wp2_with fail
  refine CR.out.mono ?_
  rintro e w2 ⟨r2, rfl, hq2, hb2, hold2⟩
  have S2 := Lib.hid (S1.out.rb hb2)
  have HFR := Lib.hid (S1.out.fresh hold2)
  have HQ2 := Lib.hid hq2
  have HONE := Lib.hid (lcs_one (g := g) (k := (k - (frameB g xs).length)) hq2)
  clear hq2 hb2 hold2 o0 o1 o2 y0 y1 y2 y3 y4 y5 y6 k2 CR
  go_wp2_with (refine wpList_store rfl 52 _ _ rfl w0.heap.size 0 _ _ [_, _, _, _, _, _, _] _ rfl rfl S2.out.x rfl sizeX (by simp) HONE.out ?_)
  intro w3 hb3 hw3
  have S3 := Lib.hid (S2.out.storeX (E' := (D.append (frameB g xs))) (r' := r2) (ge' := g) (ke' := (k - (frameB g xs).length)) hw3 hb3 HQ2.out HFR.out)
  have HB := Lib.hid S3.out.x
  have HY := Lib.hid S3.out.y
  clear hb3 hw3 hm8
  go_upto_region 30 with (fail)
  refine wp_region_store_specs (R := RN (w0.heap.size + 1 + 1) (lcs ((D.append (frameB g xs))) r2 g (k - (frameB g xs).length))) (S := [Spec.eq (.pointer (some ⟨lb, 0, none⟩)), Spec.eq (Lv ((D.append (frameB g xs))) r2 g (k - (frameB g xs).length)), Spec.eq (.int .i64 (0)), Spec.eq (.int .i64 (0)), Spec.eq (.bool true), Spec.eq (.pointer (some ⟨lb, 0, none⟩)), blkSpec (w0.heap.size + 1 + 1) (lcs ((D.append (frameB g xs))) r2 g (k - (frameB g xs).length)), Spec.eq (.bool true)]) (n := 1) (size := 150) (by kernel_rfl) RN.trans (RN.of_rb (Rb.drew _)) rfl (by kernel_rfl) ?owed ?fin
  case owed =>
    refine Owed.cons ?_ ?_
    · -- 0: slot 145 := Op.move (Operand.tmp 1)
      intro a w hR F
      have e1 : a.eval (.tmp 1) = .pointer (some ⟨lb, 0, none⟩) := F.old 1 (by kernel_rfl)
      exact ok_move _ rfl (wanted_none rfl) ⟨RN.refl _, e1⟩
    refine Owed.cons ?_ ?_
    · -- 1: slot 146 := Op.load 52 (Operand.tmp 6)
      intro a w hR F
      have e6 : a.eval (.tmp 6) = .pointer (some ⟨w0.heap.size, 0, none⟩) := F.old 6 (by kernel_rfl)
      exact ok_load _ _ rfl (wanted_none rfl) e6 (load_X (hR.blk HB.out HNE.out)) ⟨RN.refl _, rfl⟩
    refine Owed.cons ?_ ?_
    · -- 2: slot 147 := Op.move (Operand.tmp 11)
      intro a w hR F
      have e11 : a.eval (.tmp 11) = .int .i64 (0) := F.old 11 (by kernel_rfl)
      exact ok_move _ rfl (wanted_none rfl) ⟨RN.refl _, e11⟩
    refine Owed.cons ?_ ?_
    · -- 3: slot 148 := Op.move (Operand.tmp 12)
      intro a w hR F
      have e12 : a.eval (.tmp 12) = .int .i64 (0) := F.old 12 (by kernel_rfl)
      exact ok_move _ rfl (wanted_none rfl) ⟨RN.refl _, e12⟩
    refine Owed.cons ?_ ?_
    · -- 4: slot 149 := Op.binOp BinOp.eql 46 (Operand.tmp 147) (Operand.tmp 148) 46
      intro a w hR F
      have e147 : a.eval (.tmp 147) = .int .i64 (0) := F.new 2 147 (by kernel_rfl)
      have e148 : a.eval (.tmp 148) = .int .i64 (0) := F.new 3 148 (by kernel_rfl)
      refine ok_bin _ _ _ _ _ rfl (wanted_none rfl) e147 e148 (run_eql_int _ _ _ _ _ _) ⟨RN.refl _, ?_⟩
      exact congrArg Value.bool (by simp)
    refine Owed.cons ?_ ?_
    · -- 5: slot 8 := Op.assign (Operand.tmp 145)
      intro a w hR F
      have e145 : a.eval (.tmp 145) = .pointer (some ⟨lb, 0, none⟩) := F.new 0 145 (by kernel_rfl)
      exact ok_assign _ rfl (wanted_none rfl) ⟨RN.refl _, e145⟩
    refine Owed.cons ?_ ?_
    · -- 6: slot None := Op.store 52 (Operand.tmp 9) (Operand.tmp 146)
      intro a w hR F
      have e9 : a.eval (.tmp 9) = .pointer (some ⟨(w0.heap.size + 1 + 1), 0, none⟩) := F.old 9 (by kernel_rfl)
      have e146 : a.eval (.tmp 146) = Lv ((D.append (frameB g xs))) r2 g (k - (frameB g xs).length) := F.new 1 146 (by kernel_rfl)
      exact ok_storeX (L := lcs ((D.append (frameB g xs))) r2 g (k - (frameB g xs).length)) _ _ rfl (wanted_none rfl) e9 e146 rfl (hR.seven ⟨zero7, HY.out, rfl⟩) rfl HONE.out (fun w9 _ hb hw => ⟨RN.of_wrote hw hb rfl, hb⟩)
    refine Owed.cons ?_ ?_
    · -- 7: slot 10 := Op.assign (Operand.tmp 149)
      intro a w hR F
      have e149 : a.eval (.tmp 149) = .bool true := F.new 4 149 (by kernel_rfl)
      exact ok_assign _ rfl (wanted_none rfl) ⟨RN.refl _, e149⟩
    exact Owed.nil
  case fin =>
    intro y w2 hR hy
    have e5 : y 5 = .pointer (some ⟨lb, 0, none⟩) := hy 5 _ rfl
    have e7 : y 7 = .bool true := hy 7 _ rfl
    have HR := Lib.hid hR
    have hz : Blk w2 (w0.heap.size + 1 + 1) 52 (lcs ((D.append (frameB g xs))) r2 g (k - (frameB g xs).length)) := hy 6 _ rfl
    obtain ⟨x0, x1, x2, x3, x4, x5, x6⟩ := hz.cells7
    have FF := Lib.hid (S3.out.fin HR.out (by have h1 := HF.out; have h2 := HC.out; rw [append_log, List.length_append]; show _ ≤ D.room; omega))
    clear hy hR hz
    simp only [putAll, Act.put, List.setIfInBounds_toArray, List.set_cons_zero, List.set_cons_succ]
    rw [e5, e7]
    clear e5 e7
    go_wp2
    exact bodyPost_ret (v := .tuple #[.pointer (some ⟨lb, 0, none⟩), Lv ((D.append (frameB g xs))) r2 g (k - (frameB g xs).length), .bool true]) (by simp [results, Try.results26, go_sem, x0, x1, x2, x3, x4, x5, x6]) rfl FF.out

set_option maxRecDepth 100000 in
set_option maxHeartbeats 1000000 in
theorem do_ckfull (ws w0 : World) (S : Nat → Prop) (b lb : Nat) (D : Dk) (g k : Nat) (m : Mem) (r : Rm) (p : Op3) (xs : List UInt8) (h : LwM ws S b lb D g k w0 m) (hr : HeldR w0 r D) (ho : ∀ q, r.has q → ¬ m.has q ∧ q ≠ lb) (hf : D.log.length + k ≤ D.room)
    (hbw : ∀ w' m' lb' D' g' k', LwM ws S b lb' D' g' k' w' m' → Bs w' p.v xs) (hx : xs.length ≤ 200) (hm8 : (p.k : Int).tmod 8 = 6) (hc : g = 4294967295):
    Calls Try.prog 26 #[.pointer (some ⟨b, 0, none⟩), .pointer (some ⟨lb, 0, none⟩), Lv D r g k, opv p] w0 (DoQ ws S b) := by
  have hst := St.start (ge := g) (ke := k) (p := p) h hr ho
  have HF := Lib.hid hf
  have HOK := Lib.hid h.held.disk.ok
  have HG := Lib.hid h.held.hg
  have HK := Lib.hid h.held.hk
  have HX := Lib.hid hx
  have HBW := Lib.hid hbw
  have ST := Lib.hid hst
  have HNE := Lib.hid (show w0.heap.size ≠ w0.heap.size + 1 + 1 by omega)
  subst hc
  clear h hr ho hf hbw hx hst
  obtain ⟨pk, pn, pv⟩ := p
  dsimp only at hm8 HBW
  go_enter Try.func26, Try.ntmps26
  go_wp2_with fail
  change Calls _ _ _ (threeX w0 (lcs D r 4294967295 k) (opcs ⟨pk, pn, pv⟩) zero7) _
  generalize threeX w0 (lcs D r 4294967295 k) (opcs ⟨pk, pn, pv⟩) zero7 = wt at *
  refine (check_full lb m D k _ xs wt ST.out.l.held (HBW.out _ _ _ _ _ _ ST.out.l) (by have := HX.out; omega)).mono ?_
  rintro e w1 ⟨rfl, hr1⟩
  obtain rfl := hr1
  have S1 := ST
  obtain ⟨o0, o1, o2⟩ := S1.out.o.cells3
  obtain ⟨y0, y1, y2, y3, y4, y5, y6⟩ := S1.out.x.cells7
  have hbs := HBW.out _ _ _ _ _ _ S1.out.l
  have k2 := conv_bs hbs
  have CR := Lib.hid (rcheck_full D r k xs wt S1.out.held (by have := HX.out; omega))
  clear hbs
  go_wp2_with fail
  refine CR.out.mono ?_
  rintro e w2 ⟨r2, rfl, hq2, hb2, hold2⟩
  have S2 := Lib.hid (S1.out.rb hb2)
  have HFR := Lib.hid (S1.out.fresh hold2)
  have HQ2 := Lib.hid hq2
  have HONE := Lib.hid (lcs_one (g := 4294967295) (k := k) hq2)
  clear hq2 hb2 hold2 o0 o1 o2 y0 y1 y2 y3 y4 y5 y6 k2 CR
  go_wp2_with (refine wpList_store rfl 52 _ _ rfl w0.heap.size 0 _ _ [_, _, _, _, _, _, _] _ rfl rfl S2.out.x rfl sizeX (by simp) HONE.out ?_)
  intro w3 hb3 hw3
  have S3 := Lib.hid (S2.out.storeX (E' := D) (r' := r2) (ge' := 4294967295) (ke' := k) hw3 hb3 HQ2.out HFR.out)
  have HB := Lib.hid S3.out.x
  have HY := Lib.hid S3.out.y
  clear hb3 hw3 hm8
  go_upto_region 30 with (fail)
  refine wp_region_store_specs (R := RN (w0.heap.size + 1 + 1) (lcs (D) r2 4294967295 k)) (S := [Spec.eq (.pointer (some ⟨lb, 0, none⟩)), Spec.eq (Lv (D) r2 4294967295 k), Spec.eq (.int .i64 (4)), Spec.eq (.int .i64 (4)), Spec.eq (.bool true), Spec.eq (.pointer (some ⟨lb, 0, none⟩)), blkSpec (w0.heap.size + 1 + 1) (lcs (D) r2 4294967295 k), Spec.eq (.bool true)]) (n := 1) (size := 150) (by kernel_rfl) RN.trans (RN.of_rb (Rb.drew _)) rfl (by kernel_rfl) ?owed ?fin
  case owed =>
    refine Owed.cons ?_ ?_
    · -- 0: slot 145 := Op.move (Operand.tmp 1)
      intro a w hR F
      have e1 : a.eval (.tmp 1) = .pointer (some ⟨lb, 0, none⟩) := F.old 1 (by kernel_rfl)
      exact ok_move _ rfl (wanted_none rfl) ⟨RN.refl _, e1⟩
    refine Owed.cons ?_ ?_
    · -- 1: slot 146 := Op.load 52 (Operand.tmp 6)
      intro a w hR F
      have e6 : a.eval (.tmp 6) = .pointer (some ⟨w0.heap.size, 0, none⟩) := F.old 6 (by kernel_rfl)
      exact ok_load _ _ rfl (wanted_none rfl) e6 (load_X (hR.blk HB.out HNE.out)) ⟨RN.refl _, rfl⟩
    refine Owed.cons ?_ ?_
    · -- 2: slot 147 := Op.move (Operand.tmp 11)
      intro a w hR F
      have e11 : a.eval (.tmp 11) = .int .i64 (4) := F.old 11 (by kernel_rfl)
      exact ok_move _ rfl (wanted_none rfl) ⟨RN.refl _, e11⟩
    refine Owed.cons ?_ ?_
    · -- 3: slot 148 := Op.move (Operand.tmp 12)
      intro a w hR F
      have e12 : a.eval (.tmp 12) = .int .i64 (4) := F.old 12 (by kernel_rfl)
      exact ok_move _ rfl (wanted_none rfl) ⟨RN.refl _, e12⟩
    refine Owed.cons ?_ ?_
    · -- 4: slot 149 := Op.binOp BinOp.eql 46 (Operand.tmp 147) (Operand.tmp 148) 46
      intro a w hR F
      have e147 : a.eval (.tmp 147) = .int .i64 (4) := F.new 2 147 (by kernel_rfl)
      have e148 : a.eval (.tmp 148) = .int .i64 (4) := F.new 3 148 (by kernel_rfl)
      refine ok_bin _ _ _ _ _ rfl (wanted_none rfl) e147 e148 (run_eql_int _ _ _ _ _ _) ⟨RN.refl _, ?_⟩
      exact congrArg Value.bool (by simp)
    refine Owed.cons ?_ ?_
    · -- 5: slot 8 := Op.assign (Operand.tmp 145)
      intro a w hR F
      have e145 : a.eval (.tmp 145) = .pointer (some ⟨lb, 0, none⟩) := F.new 0 145 (by kernel_rfl)
      exact ok_assign _ rfl (wanted_none rfl) ⟨RN.refl _, e145⟩
    refine Owed.cons ?_ ?_
    · -- 6: slot None := Op.store 52 (Operand.tmp 9) (Operand.tmp 146)
      intro a w hR F
      have e9 : a.eval (.tmp 9) = .pointer (some ⟨(w0.heap.size + 1 + 1), 0, none⟩) := F.old 9 (by kernel_rfl)
      have e146 : a.eval (.tmp 146) = Lv (D) r2 4294967295 k := F.new 1 146 (by kernel_rfl)
      exact ok_storeX (L := lcs (D) r2 4294967295 k) _ _ rfl (wanted_none rfl) e9 e146 rfl (hR.seven ⟨zero7, HY.out, rfl⟩) rfl HONE.out (fun w9 _ hb hw => ⟨RN.of_wrote hw hb rfl, hb⟩)
    refine Owed.cons ?_ ?_
    · -- 7: slot 10 := Op.assign (Operand.tmp 149)
      intro a w hR F
      have e149 : a.eval (.tmp 149) = .bool true := F.new 4 149 (by kernel_rfl)
      exact ok_assign _ rfl (wanted_none rfl) ⟨RN.refl _, e149⟩
    exact Owed.nil
  case fin =>
    intro y w2 hR hy
    have e5 : y 5 = .pointer (some ⟨lb, 0, none⟩) := hy 5 _ rfl
    have e7 : y 7 = .bool true := hy 7 _ rfl
    have HR := Lib.hid hR
    have hz : Blk w2 (w0.heap.size + 1 + 1) 52 (lcs (D) r2 4294967295 k) := hy 6 _ rfl
    obtain ⟨x0, x1, x2, x3, x4, x5, x6⟩ := hz.cells7
    have FF := Lib.hid (S3.out.fin HR.out HF.out)
    clear hy hR hz
    simp only [putAll, Act.put, List.setIfInBounds_toArray, List.set_cons_zero, List.set_cons_succ]
    rw [e5, e7]
    clear e5 e7
    go_wp2
    exact bodyPost_ret (v := .tuple #[.pointer (some ⟨lb, 0, none⟩), Lv (D) r2 4294967295 k, .bool true]) (by simp [results, Try.results26, go_sem, x0, x1, x2, x3, x4, x5, x6]) rfl FF.out

set_option maxRecDepth 100000 in
set_option maxHeartbeats 1000000 in
theorem do_ckok (ws w0 : World) (S : Nat → Prop) (b lb : Nat) (D : Dk) (g k : Nat) (m : Mem) (r : Rm) (p : Op3) (xs : List UInt8) (h : LwM ws S b lb D g k w0 m) (hr : HeldR w0 r D) (ho : ∀ q, r.has q → ¬ m.has q ∧ q ≠ lb) (hf : D.log.length + k ≤ D.room)
    (hbw : ∀ w' m' lb' D' g' k', LwM ws S b lb' D' g' k' w' m' → Bs w' p.v xs) (hx : xs.length ≤ 200) (hm8 : (p.k : Int).tmod 8 = 6) (hc : g + 1 < 4294967296):
    Calls Try.prog 26 #[.pointer (some ⟨b, 0, none⟩), .pointer (some ⟨lb, 0, none⟩), Lv D r g k, opv p] w0 (DoQ ws S b) := by
  have hst := St.start (ge := g) (ke := k) (p := p) h hr ho
  have HF := Lib.hid hf
  have HOK := Lib.hid h.held.disk.ok
  have HG := Lib.hid h.held.hg
  have HK := Lib.hid h.held.hk
  have HX := Lib.hid hx
  have HBW := Lib.hid hbw
  have ST := Lib.hid hst
  have HNE := Lib.hid (show w0.heap.size ≠ w0.heap.size + 1 + 1 by omega)
  have HC := Lib.hid hc
  clear h hr ho hf hbw hx hst
  obtain ⟨pk, pn, pv⟩ := p
  dsimp only at hm8 HBW
  go_enter Try.func26, Try.ntmps26
  go_wp2_with fail
  change Calls _ _ _ (threeX w0 (lcs D r g k) (opcs ⟨pk, pn, pv⟩) zero7) _
  generalize threeX w0 (lcs D r g k) (opcs ⟨pk, pn, pv⟩) zero7 = wt at *
  refine (check_w ST.out.step (HBW.out _ _ _ _ _ _ ST.out.l) (by have := HX.out; omega) HC.out).mono ?_
  rintro e w1 ⟨rfl, m1, h1⟩
  have S1 := Lib.hid (ST.out.impl h1)
  clear h1
  obtain ⟨o0, o1, o2⟩ := S1.out.o.cells3
  obtain ⟨y0, y1, y2, y3, y4, y5, y6⟩ := S1.out.x.cells7
  have hbs := HBW.out _ _ _ _ _ _ S1.out.l
  have k2 := conv_bs hbs
  have CR := Lib.hid (rcheck_any D r g k xs w1 S1.out.held HOK.out (by have := HX.out; omega) HC.out)
  clear hbs
  go_wp2_with fail
  refine CR.out.mono ?_
  rintro e w2 ⟨r2, rfl, hq2, hb2, hold2⟩
  have S2 := Lib.hid (S1.out.rb hb2)
  have HFR := Lib.hid (S1.out.fresh hold2)
  have HQ2 := Lib.hid hq2
  have HONE := Lib.hid (lcs_one (g := g + 1) (k := k) hq2)
  clear hq2 hb2 hold2 o0 o1 o2 y0 y1 y2 y3 y4 y5 y6 k2 CR
  go_wp2_with (refine wpList_store rfl 52 _ _ rfl w0.heap.size 0 _ _ [_, _, _, _, _, _, _] _ rfl rfl S2.out.x rfl sizeX (by simp) HONE.out ?_)
  intro w3 hb3 hw3
  have S3 := Lib.hid (S2.out.storeX (E' := (ckD D g (frameB (g + 1) xs))) (r' := r2) (ge' := g + 1) (ke' := k) hw3 hb3 HQ2.out HFR.out)
  have HB := Lib.hid S3.out.x
  have HY := Lib.hid S3.out.y
  clear hb3 hw3 hm8
  go_upto_region 30 with (fail)
  refine wp_region_store_specs (R := RN (w0.heap.size + 1 + 1) (lcs ((ckD D g (frameB (g + 1) xs))) r2 (g + 1) k)) (S := [Spec.eq (.pointer (some ⟨lb, 0, none⟩)), Spec.eq (Lv ((ckD D g (frameB (g + 1) xs))) r2 (g + 1) k), Spec.eq (.int .i64 (0)), Spec.eq (.int .i64 (0)), Spec.eq (.bool true), Spec.eq (.pointer (some ⟨lb, 0, none⟩)), blkSpec (w0.heap.size + 1 + 1) (lcs ((ckD D g (frameB (g + 1) xs))) r2 (g + 1) k), Spec.eq (.bool true)]) (n := 1) (size := 150) (by kernel_rfl) RN.trans (RN.of_rb (Rb.drew _)) rfl (by kernel_rfl) ?owed ?fin
  case owed =>
    refine Owed.cons ?_ ?_
    · -- 0: slot 145 := Op.move (Operand.tmp 1)
      intro a w hR F
      have e1 : a.eval (.tmp 1) = .pointer (some ⟨lb, 0, none⟩) := F.old 1 (by kernel_rfl)
      exact ok_move _ rfl (wanted_none rfl) ⟨RN.refl _, e1⟩
    refine Owed.cons ?_ ?_
    · -- 1: slot 146 := Op.load 52 (Operand.tmp 6)
      intro a w hR F
      have e6 : a.eval (.tmp 6) = .pointer (some ⟨w0.heap.size, 0, none⟩) := F.old 6 (by kernel_rfl)
      exact ok_load _ _ rfl (wanted_none rfl) e6 (load_X (hR.blk HB.out HNE.out)) ⟨RN.refl _, rfl⟩
    refine Owed.cons ?_ ?_
    · -- 2: slot 147 := Op.move (Operand.tmp 11)
      intro a w hR F
      have e11 : a.eval (.tmp 11) = .int .i64 (0) := F.old 11 (by kernel_rfl)
      exact ok_move _ rfl (wanted_none rfl) ⟨RN.refl _, e11⟩
    refine Owed.cons ?_ ?_
    · -- 3: slot 148 := Op.move (Operand.tmp 12)
      intro a w hR F
      have e12 : a.eval (.tmp 12) = .int .i64 (0) := F.old 12 (by kernel_rfl)
      exact ok_move _ rfl (wanted_none rfl) ⟨RN.refl _, e12⟩
    refine Owed.cons ?_ ?_
    · -- 4: slot 149 := Op.binOp BinOp.eql 46 (Operand.tmp 147) (Operand.tmp 148) 46
      intro a w hR F
      have e147 : a.eval (.tmp 147) = .int .i64 (0) := F.new 2 147 (by kernel_rfl)
      have e148 : a.eval (.tmp 148) = .int .i64 (0) := F.new 3 148 (by kernel_rfl)
      refine ok_bin _ _ _ _ _ rfl (wanted_none rfl) e147 e148 (run_eql_int _ _ _ _ _ _) ⟨RN.refl _, ?_⟩
      exact congrArg Value.bool (by simp)
    refine Owed.cons ?_ ?_
    · -- 5: slot 8 := Op.assign (Operand.tmp 145)
      intro a w hR F
      have e145 : a.eval (.tmp 145) = .pointer (some ⟨lb, 0, none⟩) := F.new 0 145 (by kernel_rfl)
      exact ok_assign _ rfl (wanted_none rfl) ⟨RN.refl _, e145⟩
    refine Owed.cons ?_ ?_
    · -- 6: slot None := Op.store 52 (Operand.tmp 9) (Operand.tmp 146)
      intro a w hR F
      have e9 : a.eval (.tmp 9) = .pointer (some ⟨(w0.heap.size + 1 + 1), 0, none⟩) := F.old 9 (by kernel_rfl)
      have e146 : a.eval (.tmp 146) = Lv ((ckD D g (frameB (g + 1) xs))) r2 (g + 1) k := F.new 1 146 (by kernel_rfl)
      exact ok_storeX (L := lcs ((ckD D g (frameB (g + 1) xs))) r2 (g + 1) k) _ _ rfl (wanted_none rfl) e9 e146 rfl (hR.seven ⟨zero7, HY.out, rfl⟩) rfl HONE.out (fun w9 _ hb hw => ⟨RN.of_wrote hw hb rfl, hb⟩)
    refine Owed.cons ?_ ?_
    · -- 7: slot 10 := Op.assign (Operand.tmp 149)
      intro a w hR F
      have e149 : a.eval (.tmp 149) = .bool true := F.new 4 149 (by kernel_rfl)
      exact ok_assign _ rfl (wanted_none rfl) ⟨RN.refl _, e149⟩
    exact Owed.nil
  case fin =>
    intro y w2 hR hy
    have e5 : y 5 = .pointer (some ⟨lb, 0, none⟩) := hy 5 _ rfl
    have e7 : y 7 = .bool true := hy 7 _ rfl
    have HR := Lib.hid hR
    have hz : Blk w2 (w0.heap.size + 1 + 1) 52 (lcs ((ckD D g (frameB (g + 1) xs))) r2 (g + 1) k) := hy 6 _ rfl
    obtain ⟨x0, x1, x2, x3, x4, x5, x6⟩ := hz.cells7
    have FF := Lib.hid (S3.out.fin HR.out (by have := HF.out; unfold ckD; split <;> (show 0 + k ≤ D.room; omega)))
    clear hy hR hz
    simp only [putAll, Act.put, List.setIfInBounds_toArray, List.set_cons_zero, List.set_cons_succ]
    rw [e5, e7]
    clear e5 e7
    go_wp2
    exact bodyPost_ret (v := .tuple #[.pointer (some ⟨lb, 0, none⟩), Lv ((ckD D g (frameB (g + 1) xs))) r2 (g + 1) k, .bool true]) (by simp [results, Try.results26, go_sem, x0, x1, x2, x3, x4, x5, x6]) rfl FF.out
end Go.Proofs.Ytbdgdmieggpmhaa.L4
