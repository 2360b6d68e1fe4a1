/-
  Layer 4: the law's 'do', Let; a crash and the two Opens.
-/
import Derived.Test.YtbdgdmieggpmhaaW27
namespace Go.Proofs.Ytbdgdmieggpmhaa.L4
open Go.ChangeShapes Go.WideShapes Go.ChangeAt Go.RowKit Oct By Reg L3
set_option linter.unusedVariables false

set_option maxRecDepth 100000 in
set_option maxHeartbeats 1000000 in
theorem do_let (ws w0 : World) (S : Nat → Prop) (b lb : Nat) (D : Dk) (g k : Nat) (m : Mem) (r : Rm) (p : Op3) (xs : List UInt8) (h : LwM ws S b lb D g k w0 m) (hr : HeldR w0 r D) (ho : ∀ q, r.has q → ¬ m.has q ∧ q ≠ lb) (hf : D.log.length + k ≤ D.room)
    (hbw : ∀ w' m' lb' D' g' k', LwM ws S b lb' D' g' k' w' m' → Bs w' p.v xs) (hx : xs.length ≤ 200) (hm8 : (p.k : Int).tmod 8 = 4) :
    Calls Try.prog 26 #[.pointer (some ⟨b, 0, none⟩), .pointer (some ⟨lb, 0, none⟩), Lv D r g k, opv p] w0 (DoQ ws S b) := by
  have hst := St.start (ge := g) (ke := k) (p := p) h hr ho
  have HF := Lib.hid hf
  have HOK := Lib.hid h.held.disk.ok
  have HG := Lib.hid h.held.hg
  have HK := Lib.hid h.held.hk
  have HX := Lib.hid hx
  have HBW := Lib.hid hbw
  have ST := Lib.hid hst
  have HNE := Lib.hid (show w0.heap.size ≠ w0.heap.size + 1 + 1 by omega)
  obtain ⟨k2, hk2⟩ : ∃ k2, k2 = k - p.n.toNat := ⟨_, rfl⟩
  have HK2 := Lib.hid hk2
  clear hk2
  clear h hr ho hf hbw hx hst
  obtain ⟨pk, pn, pv⟩ := p
  dsimp only at hm8 HBW HK2
  go_enter Try.func26, Try.ntmps26
  go_wp2_with fail
  change Calls _ _ _ (threeX w0 (lcs D r g k) (opcs ⟨pk, pn, pv⟩) zero7) _
  generalize threeX w0 (lcs D r g k) (opcs ⟨pk, pn, pv⟩) zero7 = wt at *
  have CK := Lib.hid (let_any lb m D g k pn wt ST.out.l.held)
  refine CK.out.mono ?_
  rintro e w1 ⟨rfl, ht1⟩
  rw [← HK2.out] at ht1
  obtain ⟨m1, h1⟩ := ST.out.step.turn ht1
  have S1 := Lib.hid (ST.out.impl h1)
  clear h1 ht1 CK
  obtain ⟨o0, o1, o2⟩ := S1.out.o.cells3
  obtain ⟨y0, y1, y2, y3, y4, y5, y6⟩ := S1.out.x.cells7
  go_wp2_with (refine wpList_store rfl 3 _ _ rfl w0.heap.size 6 52 _ [_] _ rfl rfl S1.out.x rfl sizeint (by simp) (int_one _ _) ?_)
  all_goals
    intro w3 hb3 hw3
    obtain ⟨z, hb3, hz⟩ : ∃ z, Blk w3 w0.heap.size 52 [.int .i64 D.room, .string (str D.sure), .string (str D.rest), r.nv, r.sv, .int .u32 g, .int .i64 z] ∧ z = (k2 : Int) := ⟨_, hb3, by
      have e1 := HK2.out
      have e2 := HK.out
      have hmm : (if (k : Int) < pn then (k : Int) else pn) = min (k : Int) pn := by split <;> omega
      simp only [hmm] at *
      rw [IntWalk.wrap64_in _ (by omega)]
      omega⟩
    subst hz
    have S3 := Lib.hid (S1.out.storeX (E' := D) (r' := r) (ge' := g) (ke' := k2) hw3 hb3 S1.out.held (S1.out.fresh fun q hq => .inl hq))
    have HB := Lib.hid S3.out.x
    have HY := Lib.hid S3.out.y
    have HONE := Lib.hid (lcs_one (g := g) (k := k2) S3.out.held)
    clear hb3 hw3 hm8
    go_upto_region 30 with (fail)
    refine wp_region_store_specs (R := RN (w0.heap.size + 1 + 1) (lcs (D) r g k2)) (S := [Spec.eq (.pointer (some ⟨lb, 0, none⟩)), Spec.eq (Lv (D) r g k2), Spec.eq (.int .i64 (0)), Spec.eq (.int .i64 (0)), Spec.eq (.bool true), Spec.eq (.pointer (some ⟨lb, 0, none⟩)), blkSpec (w0.heap.size + 1 + 1) (lcs (D) r g k2), Spec.eq (.bool true)]) (n := 1) (size := 150) (by kernel_rfl) RN.trans (RN.of_rb (Rb.drew _)) rfl (by kernel_rfl) ?owed ?fin
    case owed =>
      refine Owed.cons ?_ ?_
      · -- 0: slot 145 := Op.move (Operand.tmp 1)
        intro a w hR F
        have e1 : a.eval (.tmp 1) = .pointer (some ⟨lb, 0, none⟩) := F.old 1 (by kernel_rfl)
        exact ok_move _ rfl (wanted_none rfl) ⟨RN.refl _, e1⟩
      refine Owed.cons ?_ ?_
      · -- 1: slot 146 := Op.load 52 (Operand.tmp 6)
        intro a w hR F
        have e6 : a.eval (.tmp 6) = .pointer (some ⟨w0.heap.size, 0, none⟩) := F.old 6 (by kernel_rfl)
        exact ok_load _ _ rfl (wanted_none rfl) e6 (load_X (hR.blk HB.out HNE.out)) ⟨RN.refl _, rfl⟩
      refine Owed.cons ?_ ?_
      · -- 2: slot 147 := Op.move (Operand.tmp 11)
        intro a w hR F
        have e11 : a.eval (.tmp 11) = .int .i64 (0) := F.old 11 (by kernel_rfl)
        exact ok_move _ rfl (wanted_none rfl) ⟨RN.refl _, e11⟩
      refine Owed.cons ?_ ?_
      · -- 3: slot 148 := Op.move (Operand.tmp 12)
        intro a w hR F
        have e12 : a.eval (.tmp 12) = .int .i64 (0) := F.old 12 (by kernel_rfl)
        exact ok_move _ rfl (wanted_none rfl) ⟨RN.refl _, e12⟩
      refine Owed.cons ?_ ?_
      · -- 4: slot 149 := Op.binOp BinOp.eql 46 (Operand.tmp 147) (Operand.tmp 148) 46
        intro a w hR F
        have e147 : a.eval (.tmp 147) = .int .i64 (0) := F.new 2 147 (by kernel_rfl)
        have e148 : a.eval (.tmp 148) = .int .i64 (0) := F.new 3 148 (by kernel_rfl)
        refine ok_bin _ _ _ _ _ rfl (wanted_none rfl) e147 e148 (run_eql_int _ _ _ _ _ _) ⟨RN.refl _, ?_⟩
        exact congrArg Value.bool (by simp)
      refine Owed.cons ?_ ?_
      · -- 5: slot 8 := Op.assign (Operand.tmp 145)
        intro a w hR F
        have e145 : a.eval (.tmp 145) = .pointer (some ⟨lb, 0, none⟩) := F.new 0 145 (by kernel_rfl)
        exact ok_assign _ rfl (wanted_none rfl) ⟨RN.refl _, e145⟩
      refine Owed.cons ?_ ?_
      · -- 6: slot None := Op.store 52 (Operand.tmp 9) (Operand.tmp 146)
        intro a w hR F
        have e9 : a.eval (.tmp 9) = .pointer (some ⟨(w0.heap.size + 1 + 1), 0, none⟩) := F.old 9 (by kernel_rfl)
        have e146 : a.eval (.tmp 146) = Lv (D) r g k2 := F.new 1 146 (by kernel_rfl)
        exact ok_storeX (L := lcs (D) r g k2) _ _ rfl (wanted_none rfl) e9 e146 rfl (hR.seven ⟨zero7, HY.out, rfl⟩) rfl HONE.out (fun w9 _ hb hw => ⟨RN.of_wrote hw hb rfl, hb⟩)
      refine Owed.cons ?_ ?_
      · -- 7: slot 10 := Op.assign (Operand.tmp 149)
        intro a w hR F
        have e149 : a.eval (.tmp 149) = .bool true := F.new 4 149 (by kernel_rfl)
        exact ok_assign _ rfl (wanted_none rfl) ⟨RN.refl _, e149⟩
      exact Owed.nil
    case fin =>
      intro y w2 hR hy
      have e5 : y 5 = .pointer (some ⟨lb, 0, none⟩) := hy 5 _ rfl
      have e7 : y 7 = .bool true := hy 7 _ rfl
      have HR := Lib.hid hR
      have hz : Blk w2 (w0.heap.size + 1 + 1) 52 (lcs (D) r g k2) := hy 6 _ rfl
      obtain ⟨x0, x1, x2, x3, x4, x5, x6⟩ := hz.cells7
      have FF := Lib.hid (S3.out.fin HR.out (by have h1 := HK2.out; have h2 := HF.out; omega))
      clear hy hR hz
      simp only [putAll, Act.put, List.setIfInBounds_toArray, List.set_cons_zero, List.set_cons_succ]
      rw [e5, e7]
      clear e5 e7
      go_wp2
      exact bodyPost_ret (v := .tuple #[.pointer (some ⟨lb, 0, none⟩), Lv (D) r g k2, .bool true]) (by simp [results, Try.results26, go_sem, x0, x1, x2, x3, x4, x5, x6]) rfl FF.out

/-! ### a crash, and the two Opens -/
section
variable {N B : Nat} {L : List Value} {w w' : World} {v : Value} {s : List UInt8} {ss : List (List UInt8)}
theorem bn_rn (h : Bn B w v s) (hw : RN N L w w') (hN : N < B) : Bs w' v s := Bs.same h.1 fun q hq => hw.block q (h.2 q hq).2 (by have := (h.2 q hq).1; omega)
theorem rows_rn (h : RowsV B w v ss) (hw : RN N L w w') (hN : N < B) : RowsR w' v ss := by
  obtain ⟨xs, ho, hs, hr⟩ := h
  refine RowsV.reads (B := B) ⟨xs, owns_same ho fun q hq => hw.block q (ho.lt q hq).2 (by have := (ho.lt q hq).1; omega), hs, fun x hx => ?_⟩
  obtain ⟨n, c, e, hb, hn, cs, mm, hc⟩ := hr x hx
  have hlt := (Array.getElem?_eq_some_iff.1 hc).1
  have hkb := hw.block n hlt (by omega)
  refine ⟨n, c, e, Bs.same hb fun q hq => ?_, hn, cs, mm, hkb.trans hc⟩
  rw [e] at hq
  simp [Value.ownBlock] at hq
  subst hq
  exact hkb
theorem strs_rn (h : Strs B w v ss) (hw : RN N L w w') (hN : N < B) : StrsR w' v ss := Strs.reads (B := B) (owns_same h fun q hq => hw.block q (h.lt q hq).2 (by have := (h.lt q hq).1; omega))
theorem val_call_rn {f : FuncId} {vs : Array Value} {v : Value} (h : Calls Try.prog f vs w fun e w' => e = .returned v ∧ Rb w w') :
    Calls Try.prog f vs w fun e w'' => ∃ u, e = .returned u ∧ RN N L w w'' ∧ (Reg.Spec.eq (R := RN N L) v).V w'' u :=
  h.mono fun _ _ ⟨he, hw⟩ => ⟨_, he, RN.of_rb hw, rfl⟩
theorem fin_core {ws : World} {S : Nat → Prop} {b lb : Nat} {D : Dk} {g k : Nat} {m : Mem} {r : Rm} (h : LwM ws S b lb D g k w m) (hr : HeldR w r D) (hN : ¬ m.has N ∧ N ≠ lb) (hNr : ¬ r.has N) (hle : ws.heap.size ≤ N) (off : ∀ q, r.has q → ¬ m.has q ∧ q ≠ lb) (hw : RN N L w w') (hf : D.log.length + k ≤ D.room) :
    DoQ ws S b (.returned (.tuple #[.pointer (some ⟨lb, 0, none⟩), Lv D r g k, .bool true])) w' := by
  have hsz := h.size
  refine ⟨lb, D, g, k, m, r, rfl, ⟨h.hb, ⟨h.held.disk.same hw.size fun q hq => hw.block q (h.held.disk.lt q hq) fun e => hN.1 (e ▸ hq), hw.blk' h.held.blk fun e => hN.2 e.symm, h.held.off, h.held.hg, h.held.hk⟩, Nat.le_trans h.size hw.size, hw.os.trans h.os, hw.tape.trans h.tape, hw.output.trans h.output, fun j hj => ?_, h.l⟩,
    ⟨hr.n.same fun q hq => hw.block q (hr.n.lt q hq) fun e => hNr (.inl (e ▸ hq)), hr.s.same fun q hq => hw.block q (hr.s.lt q hq) fun e => hNr (.inr (e ▸ hq))⟩, off, hf⟩
  obtain ⟨i1, i2, i3⟩ := h.s j hj
  exact ⟨i1, i2, (hw.block j (by omega) (by omega)).trans i3⟩
end

set_option maxRecDepth 100000 in
set_option maxHeartbeats 1000000 in
theorem do_open (ws w0 : World) (S : Nat → Prop) (b lb : Nat) (D : Dk) (g k : Nat) (m : Mem) (r : Rm) (p : Op3) (xs : List UInt8) (h : LwM ws S b lb D g k w0 m) (hr : HeldR w0 r D) (ho : ∀ q, r.has q → ¬ m.has q ∧ q ≠ lb) (hf : D.log.length + k ≤ D.room)
    (hbw : ∀ w' m' lb' D' g' k', LwM ws S b lb' D' g' k' w' m' → Bs w' p.v xs) (hx : xs.length ≤ 200) (hm8 : (p.k : Int).tmod 8 = 7) :
    Calls Try.prog 26 #[.pointer (some ⟨b, 0, none⟩), .pointer (some ⟨lb, 0, none⟩), Lv D r g k, opv p] w0 (DoQ ws S b) := by
  have hst := St.start (ge := g) (ke := k) (p := p) h hr ho
  have HF := Lib.hid hf
  have HOK := Lib.hid h.held.disk.ok
  have HG := Lib.hid h.held.hg
  have HK := Lib.hid h.held.hk
  have HX := Lib.hid hx
  have HBW := Lib.hid hbw
  have ST := Lib.hid hst
  have HNE := Lib.hid (show w0.heap.size ≠ w0.heap.size + 1 + 1 by omega)
  clear h hr ho hf hbw hx hst
  obtain ⟨pk, pn, pv⟩ := p
  dsimp only at hm8 HBW
  go_enter Try.func26, Try.ntmps26
  go_wp2_with fail
  change Calls _ _ _ (threeX w0 (lcs D r g k) (opcs ⟨pk, pn, pv⟩) zero7) _
  generalize threeX w0 (lcs D r g k) (opcs ⟨pk, pn, pv⟩) zero7 = wt at *
  refine (dcrash_w ST.out.step pn).mono ?_
  rintro e w1 ⟨rfl, m1, h1⟩
  have S1 := Lib.hid (ST.out.impl h1)
  clear h1
  go_wp2_with fail
  refine (open_w S1.out.step.disk).mono ?_
  rintro e wb ⟨lb2, m2, vi, vr, rfl, h2, hi2, hr2⟩
  have S2 := Lib.hid (S1.out.impl h2)
  have HVN := Lib.hid S1.out.y.lt
  have HI2 := Lib.hid hi2
  have HR2 := Lib.hid hr2
  clear h2 hi2 hr2
  obtain ⟨o0, o1, o2⟩ := S2.out.o.cells3
  obtain ⟨y0, y1, y2, y3, y4, y5, y6⟩ := S2.out.x.cells7
  have CR := Lib.hid (rcrash_any D r pn wb S2.out.held HOK.out)
  go_wp2_with fail
  refine CR.out.mono ?_
  rintro e w3 ⟨r3, rfl, hq3, hb3, hold3⟩
  have hokc : (D.crash pn.toNat).Ok := Dk.crash_ok HOK.out _
  generalize D.crash pn.toNat = DC at *
  have S3 := Lib.hid (S2.out.rb hb3)
  have HOLD3 := Lib.hid hold3
  have HB3 := Lib.hid hb3
  have CO := Lib.hid (ropen_any DC r3 w3 hq3 hokc)
  have HOKC := Lib.hid hokc
  clear hq3 hb3 hold3 o0 o1 o2 y0 y1 y2 y3 y4 y5 y6 CR hokc
  go_wp2_with fail
  refine CO.out.mono ?_
  rintro e w4 ⟨r4, vs, rfl, ⟨hq4, hb4, hold4⟩, hst⟩
  have S4 := Lib.hid (S3.out.rb hb4)
  have hf4 : ∀ q, r4.has q → r.has q ∨ wb.heap.size ≤ q := fun q hq => by
    rcases hold4 q hq with h | h
    · exact HOLD3.out q h
    · exact .inr (Nat.le_trans HB3.out.size h)
  have HFR := Lib.hid (S2.out.fresh hf4)
  have HONE := Lib.hid (lcs_one (g := openG DC) (k := 0) hq4)
  have HQ4 := Lib.hid hq4
  have HVSN := Lib.hid S3.out.y.lt
  obtain ⟨I, hI⟩ : ∃ I, I = (newN DC).2 := ⟨_, rfl⟩
  rw [← hI]
  have HVI4 := Lib.hid (show Bn w1.heap.size w4 vi I by rw [hI]; exact (HI2.out.rb HB3.out).rb hb4)
  have HVR4 := Lib.hid ((HR2.out.rb HB3.out).rb hb4)
  have HST4 := Lib.hid hst
  have HLE := Lib.hid (show (openD DC).log.length + 0 ≤ (openD DC).room by
    have h1 := HOKC.out.1
    have h2 := congrArg List.length (openD_sure DC)
    rw [List.length_take] at h2
    show ((openD DC).sure ++ []).length + 0 ≤ DC.room
    rw [List.append_nil]
    omega)
  clear hq4 hb4 hold4 hst hf4 hI CO
  go_wp2_with (refine wpList_store rfl 52 _ _ rfl w4.heap.size 0 _ _ [_, _, _, _, _, _, _] _ rfl rfl (Blk.new w4 52 zero7) rfl sizeX (by simp) HONE.out ?_)
  intro w5 hb5 hw5
  have hr5 : Rb w4 w5 := Wrote.below ((Below.refl _ _).alloc (Nat.le_refl _) _) hw5 (Nat.le_refl _)
  have S5 := Lib.hid (S4.out.rb hr5)
  have HB := Lib.hid (show Blk w5 w4.heap.size 52 (lcs (openD DC) r4 (openG DC) 0) from hb5)
  have HNE := Lib.hid (show w4.heap.size ≠ w0.heap.size + 1 + 1 by have := S4.out.y.lt; omega)
  have HY := Lib.hid S5.out.y
  have HVI := Lib.hid (HVI4.out.rb hr5)
  have HVR := Lib.hid (HVR4.out.rb hr5)
  have HVS := Lib.hid (HST4.out.rb hr5)
  have FIN := Lib.hid (fun w9 (hR : RN (w0.heap.size + 1 + 1) (lcs (openD DC) r4 (openG DC) 0) w5 w9) => fin_core S5.out.l (HQ4.out.rb hr5) (S5.out.off _ (.inr (.inr (.inr rfl)))) (fun e => (HFR.out _ e).2 (.inr (.inr rfl))) (by have := S5.out.le; omega) (fun q hq => (HFR.out q hq).1) hR HLE.out)
  clear hb5 hw5 hr5 hm8
  go_upto_region 29 with (fail)
  refine wp_region_store_specs (R := RN (w0.heap.size + 1 + 1) (lcs (openD DC) r4 (openG DC) 0)) (S := [Spec.eq (.pointer (some ⟨lb2, 0, none⟩)), Spec.eq (Lv (openD DC) r4 (openG DC) 0), Spec.eq (.int .i64 (0)), Spec.eq (.bool true), Spec.eq (.bool true), Spec.eq (vi), Spec.eq (strV (I)), Spec.eq (strV (I)), Spec.eq (.bool true), Spec.eq (.bool true), Spec.eq (.bool true), Spec.eq (vr), Spec.eq (vs), Spec.eq (.bool true), Spec.eq (.bool true), Spec.eq (.pointer (some ⟨lb2, 0, none⟩)), blkSpec (w0.heap.size + 1 + 1) (lcs (openD DC) r4 (openG DC) 0), Spec.eq (.bool true)]) (n := 1) (size := 150) (by kernel_rfl) RN.trans (RN.of_rb (Rb.drew _)) rfl (by kernel_rfl) ?owed ?fin
  case owed =>
    refine Owed.cons ?_ ?_
    · -- 0: slot 130 := Op.move (Operand.tmp 13)
      intro a w hR F
      have e13 : a.eval (.tmp 13) = .pointer (some ⟨lb2, 0, none⟩) := F.old 13 (by kernel_rfl)
      exact ok_move _ rfl (wanted_none rfl) ⟨RN.refl _, e13⟩
    refine Owed.cons ?_ ?_
    · -- 1: slot 131 := Op.load 52 (Operand.tmp 17)
      intro a w hR F
      have e17 : a.eval (.tmp 17) = .pointer (some ⟨w4.heap.size, 0, none⟩) := F.old 17 (by kernel_rfl)
      exact ok_load _ _ rfl (wanted_none rfl) e17 (load_X (hR.blk HB.out HNE.out)) ⟨RN.refl _, rfl⟩
    refine Owed.cons ?_ ?_
    · -- 2: slot 132 := Op.move (Operand.tmp 16)
      intro a w hR F
      have e16 : a.eval (.tmp 16) = .int .i64 (0) := F.old 16 (by kernel_rfl)
      exact ok_move _ rfl (wanted_none rfl) ⟨RN.refl _, e16⟩
    refine Owed.cons ?_ ?_
    · -- 3: slot 133 := Op.binOp BinOp.eql 46 (Operand.tmp 132) (Operand.const (Value.int IntKind.i64 0)) 46
      intro a w hR F
      have e132 : a.eval (.tmp 132) = .int .i64 (0) := F.new 2 132 (by kernel_rfl)
      refine ok_bin _ _ _ _ _ rfl (wanted_none rfl) e132 rfl (run_eql_int _ _ _ _ _ _) ⟨RN.refl _, ?_⟩
      exact congrArg Value.bool (by simp)
    refine Owed.cons ?_ ?_
    · -- 4: slot 134 := Op.move (Operand.tmp 133)
      intro a w hR F
      have e133 : a.eval (.tmp 133) = .bool true := F.new 3 133 (by kernel_rfl)
      exact ok_move _ rfl (wanted_none rfl) ⟨RN.refl _, e133⟩
    refine Owed.cons ?_ ?_
    · -- 5: slot 135 := Op.move (Operand.tmp 14)
      intro a w hR F
      have e134 : a.eval (.tmp 134) = .bool true := F.new 4 134 (by kernel_rfl)
      have e14 : a.eval (.tmp 14) = vi := F.old 14 (by kernel_rfl)
      exact ok_move _ rfl (wanted_true (j := 4) (d := 134) rfl (by kernel_rfl) e134) ⟨RN.refl _, e14⟩
    refine Owed.cons ?_ ?_
    · -- 6: slot 136 := Op.convert 23 9 (Operand.tmp 135)
      intro a w hR F
      have e134 : a.eval (.tmp 134) = .bool true := F.new 4 134 (by kernel_rfl)
      have e135 : a.eval (.tmp 135) = vi := F.new 5 135 (by kernel_rfl)
      exact ok_conv _ _ _ rfl (wanted_true (j := 4) (d := 134) rfl (by kernel_rfl) e134) (run_convert_Bs (xs := I) (by rw [e135]; exact (bn_rn HVI.out hR HVN.out)) 23 5 9 Try.underlying23 Try.underlying5 Try.underlying9) ⟨RN.refl _, rfl⟩
    refine Owed.cons ?_ ?_
    · -- 7: slot 137 := Op.move (Operand.tmp 18)
      intro a w hR F
      have e134 : a.eval (.tmp 134) = .bool true := F.new 4 134 (by kernel_rfl)
      have e18 : a.eval (.tmp 18) = strV (I) := F.old 18 (by kernel_rfl)
      exact ok_move _ rfl (wanted_true (j := 4) (d := 134) rfl (by kernel_rfl) e134) ⟨RN.refl _, e18⟩
    refine Owed.cons ?_ ?_
    · -- 8: slot 138 := Op.binOp BinOp.eql 9 (Operand.tmp 136) (Operand.tmp 137) 9
      intro a w hR F
      have e134 : a.eval (.tmp 134) = .bool true := F.new 4 134 (by kernel_rfl)
      have e136 : a.eval (.tmp 136) = strV (I) := F.new 6 136 (by kernel_rfl)
      have e137 : a.eval (.tmp 137) = strV (I) := F.new 7 137 (by kernel_rfl)
      refine ok_bin _ _ _ _ _ rfl (wanted_true (j := 4) (d := 134) rfl (by kernel_rfl) e134) e136 e137 (run_eql_strV _ _ _ _ _) ⟨RN.refl _, ?_⟩
      exact congrArg Value.bool (by simp)
    refine Owed.cons ?_ ?_
    · -- 9: slot 139 := Op.pick (Operand.tmp 134) (Operand.tmp 138) (Operand.const (Value.bool false))
      intro a w hR F
      have e134 : a.eval (.tmp 134) = .bool true := F.new 4 134 (by kernel_rfl)
      have e138 : a.eval (.tmp 138) = .bool true := F.new 8 138 (by kernel_rfl)
      exact ok_pick _ _ _ true rfl (wanted_none rfl) e134 ⟨RN.refl _, e138⟩
    refine Owed.cons ?_ ?_
    · -- 10: slot 140 := Op.move (Operand.tmp 139)
      intro a w hR F
      have e139 : a.eval (.tmp 139) = .bool true := F.new 9 139 (by kernel_rfl)
      exact ok_move _ rfl (wanted_none rfl) ⟨RN.refl _, e139⟩
    refine Owed.cons ?_ ?_
    · -- 11: slot 141 := Op.move (Operand.tmp 15)
      intro a w hR F
      have e140 : a.eval (.tmp 140) = .bool true := F.new 10 140 (by kernel_rfl)
      have e15 : a.eval (.tmp 15) = vr := F.old 15 (by kernel_rfl)
      exact ok_move _ rfl (wanted_true (j := 10) (d := 140) rfl (by kernel_rfl) e140) ⟨RN.refl _, e15⟩
    refine Owed.cons ?_ ?_
    · -- 12: slot 142 := Op.move (Operand.tmp 19)
      intro a w hR F
      have e140 : a.eval (.tmp 140) = .bool true := F.new 10 140 (by kernel_rfl)
      have e19 : a.eval (.tmp 19) = vs := F.old 19 (by kernel_rfl)
      exact ok_move _ rfl (wanted_true (j := 10) (d := 140) rfl (by kernel_rfl) e140) ⟨RN.refl _, e19⟩
    refine Owed.cons ?_ ?_
    · -- 13: slot 143 := Op.call { callee := Callee.value (Operand.func 20), args := #[Operand.tmp 141, Operand.tmp 142], arg
      intro a w hR F
      have e140 : a.eval (.tmp 140) = .bool true := F.new 10 140 (by kernel_rfl)
      have e141 : a.eval (.tmp 141) = vr := F.new 11 141 (by kernel_rfl)
      have e142 : a.eval (.tmp 142) = vs := F.new 12 142 (by kernel_rfl)
      refine ok_call 20 _ _ #[vr, vs] rfl (wanted_true (j := 10) (d := 140) rfl (by kernel_rfl) e140) (by simp [e141, e142]) (Try.call20 _ _) ?_
      exact val_call_rn (same_any vr vs (openR DC) w (rows_rn HVR.out hR HVN.out) (strs_rn HVS.out hR HVSN.out))
    refine Owed.cons ?_ ?_
    · -- 14: slot 144 := Op.pick (Operand.tmp 140) (Operand.tmp 143) (Operand.const (Value.bool false))
      intro a w hR F
      have e140 : a.eval (.tmp 140) = .bool true := F.new 10 140 (by kernel_rfl)
      have e143 : a.eval (.tmp 143) = .bool true := F.new 13 143 (by kernel_rfl)
      exact ok_pick _ _ _ true rfl (wanted_none rfl) e140 ⟨RN.refl _, e143⟩
    refine Owed.cons ?_ ?_
    · -- 15: slot 8 := Op.assign (Operand.tmp 130)
      intro a w hR F
      have e130 : a.eval (.tmp 130) = .pointer (some ⟨lb2, 0, none⟩) := F.new 0 130 (by kernel_rfl)
      exact ok_assign _ rfl (wanted_none rfl) ⟨RN.refl _, e130⟩
    refine Owed.cons ?_ ?_
    · -- 16: slot None := Op.store 52 (Operand.tmp 9) (Operand.tmp 131)
      intro a w hR F
      have e9 : a.eval (.tmp 9) = .pointer (some ⟨(w0.heap.size + 1 + 1), 0, none⟩) := F.old 9 (by kernel_rfl)
      have e131 : a.eval (.tmp 131) = Lv (openD DC) r4 (openG DC) 0 := F.new 1 131 (by kernel_rfl)
      exact ok_storeX (L := lcs (openD DC) r4 (openG DC) 0) _ _ rfl (wanted_none rfl) e9 e131 rfl (hR.seven ⟨zero7, HY.out, rfl⟩) rfl HONE.out (fun w9 _ hb hw => ⟨RN.of_wrote hw hb rfl, hb⟩)
    refine Owed.cons ?_ ?_
    · -- 17: slot 10 := Op.assign (Operand.tmp 144)
      intro a w hR F
      have e144 : a.eval (.tmp 144) = .bool true := F.new 14 144 (by kernel_rfl)
      exact ok_assign _ rfl (wanted_none rfl) ⟨RN.refl _, e144⟩
    exact Owed.nil
  case fin =>
    intro y w2 hR hy
    have e15 : y 15 = .pointer (some ⟨lb2, 0, none⟩) := hy 15 _ rfl
    have e17 : y 17 = .bool true := hy 17 _ rfl
    have HR := Lib.hid hR
    have hz : Blk w2 (w0.heap.size + 1 + 1) 52 (lcs (openD DC) r4 (openG DC) 0) := hy 16 _ rfl
    obtain ⟨x0, x1, x2, x3, x4, x5, x6⟩ := hz.cells7
    have FF := Lib.hid (FIN.out w2 HR.out)
    clear hy hR hz
    simp only [putAll, Act.put, List.setIfInBounds_toArray, List.set_cons_zero, List.set_cons_succ]
    rw [e15, e17]
    clear e15 e17
    go_wp2
    exact bodyPost_ret (v := .tuple #[.pointer (some ⟨lb2, 0, none⟩), Lv (openD DC) r4 (openG DC) 0, .bool true]) (by simp [results, Try.results26, go_sem, x0, x1, x2, x3, x4, x5, x6]) rfl FF.out
end Go.Proofs.Ytbdgdmieggpmhaa.L4
