/-
  Layer 6: the walk of SchemaRows.
-/
import Derived.Test.YtolfeellcdoopaaDoorS26
namespace Go.Proofs.YtolfeellcdoopaaDoor.L6
open Go.ChangeShapes Go.WideShapes Go.ChangeAt Go.RowKit Oct By Reg Val
set_option linter.unusedVariables false
set_option linter.unusedSimpArgs false

theorem own_call6 {P : Program} {f : FuncId} {vs : Array Value} {w : World} {bs : List UInt8} (h : Calls P f vs w fun e w' => ∃ u, e = .returned u ∧ Own w.heap.size w' u bs ∧ Rb w w') : Calls P f vs w fun e w'' => ∃ v, e = .returned v ∧ Rb w w'' ∧ (bsSpec bs).V w'' v :=
  h.mono fun _ _ ⟨v, he, ho, hb⟩ => ⟨v, he, hb, Bs.of_owns ho⟩

set_option maxRecDepth 100000 in
set_option maxHeartbeats 8000000 in
theorem rows_walk (nm0 : ByteArray) (r0 : Int) (c0 : Value) (l0 : List ColD) (rv : Value) (R : List ValD) (b : Value) (ys : List UInt8) (w0 : World) (hc0 : Cols w0 c0 l0) (hk0 : TabOk ⟨nm0, r0, c0, l0⟩) (hr0 : Vals w0 rv R) (hok : ∀ q ∈ R, ValOk q) (hb0 : Bs w0 b ys) (htab : Tab w0) :
    Calls Tryd.prog 5 #[.agg #[.string nm0, .int .i64 r0, c0], rv, b] w0 fun e w' => e = .returned (.bool true) ∧ Below w0.heap.size w0 w' := by
  obtain ⟨a0, p0, rfl, _, _⟩ := Row3.form hc0
  obtain ⟨ro, rcap, rfl, _, _⟩ := Row3.form hr0
  obtain ⟨ao, cap, rfl, hl1, hl2⟩ := hb0.len
  have HT0 := Lib.hid htab
  obtain ⟨w1, hw1⟩ : ∃ w1, w1 = w0.alloc (.cells #[.string nm0, .int .i64 r0, .slice a0 l0.length p0] 25) := ⟨_, rfl⟩
  have hr1 : Rb w0 w1 := by rw [hw1]; exact (Below.refl _ w0).alloc (Nat.le_refl _) _
  have h0a : HeldTab w1 w0.heap.size nm0 r0 a0 l0.length p0 := by rw [hw1]; refine ⟨?_, ?_, ?_⟩ <;> simp
  have HB1 := Lib.hid hr1
  have H0a := Lib.hid h0a
  have HK := Lib.hid hk0
  have HOK := Lib.hid hok
  have HC0 := Lib.hid hc0
  have HR0 := Lib.hid hr0
  have HBS0 := Lib.hid hb0
  have HLT := Lib.hid (fun w (hw : Rb w0 w) => light_any ⟨nm0, r0, .slice a0 l0.length p0, l0⟩ w (Row3.rb hc0 hw) hk0)
  have HLW := Lib.hid (fun w (hw : Rb w0 w) => lightrow_any R (.slice ro R.length rcap) w (Row3.rb hr0 hw) hok)
  have HW1 := Lib.hid hw1
  unfold maxLen at hl2
  clear htab hw1 hr1 h0a hc0 hk0 hok hr0 hb0
  go_enter Tryd.func5, Tryd.ntmps5
  go_upto_region 1 with (fail)
  rw [← HW1.out]
  go_cut [2] from 17 (fun p wx => ∃ n, p = .slice ao n cap ∧ n = min ys.length 300 ∧ w1 = wx)
  case first =>
    go_wp2_with fail
    all_goals
      go_meet
      exact ⟨_, rfl, by omega, rfl⟩
  obtain ⟨n, rfl, hn, rfl⟩ := hcut
  obtain ⟨xs, hxs⟩ : ∃ xs, xs = ys.take n := ⟨_, rfl⟩
  have hxl : xs.length = n := by rw [hxs, List.length_take]; omega
  have hbs1 : Bs w0 (.slice ao xs.length cap) xs := by
    have := HBS0.out.sub 0 n (Nat.zero_le _) (by omega)
    unfold sliced at this
    simp only [Nat.mul_zero, Nat.sub_zero, List.drop_zero] at this
    rw [← hxs] at this
    obtain ⟨ao', cap', e1, e2, e3, e4, e5⟩ := HBS0.out
    simp only [Value.slice.injEq] at e1
    obtain ⟨rfl, _, rfl⟩ := e1
    refine ⟨ao, cap, rfl, by omega, e3, e4, fun ad ha j u hu => e5 ad ha j u ?_⟩
    rw [List.getElem?_map, hxs, List.getElem?_take] at hu
    rw [List.getElem?_map]
    split at hu
    · exact hu
    · simp at hu
  have hx3 : xs.length ≤ 300 := by omega
  have HBS1 := Lib.hid hbs1
  rw [← hxl]
  clear hn hxs hxl hbs1 hl1 HBS0
  obtain ⟨y0, y1, y2⟩ := H0a.out
  go_wp2_with fail
  refine (HLT.out _ HB1.out).mono ?_
  rintro e w2 ⟨rfl, hb2⟩
  have HB2 := Lib.hid (Rb.trans _ _ _ HB1.out hb2)
  have H0b := Lib.hid (H0a.out.rb hb2)
  clear hb2 y0 y1 y2
  cases hl0 : lightB ⟨nm0, r0, .slice a0 l0.length p0, l0⟩ with
  | false =>
    clear hl0
    go_wp2_with fail
    refine (lives_any _ (HT0.out.rb HB2.out)).mono ?_
    rintro e wl ⟨rfl, hbl⟩
    have HBL2 := Lib.hid (Rb.trans _ _ _ HB2.out hbl)
    clear hbl
    go_wp2
    go_ret
    exact ⟨rfl, HBL2.out⟩
  | true =>
    have HL0 := Lib.hid (light_of hl0)
    clear hl0
    go_wp2_with fail
    refine (HLW.out _ HB2.out).mono ?_
    rintro e w3 ⟨rfl, hb3⟩
    have HB3 := Lib.hid (Rb.trans _ _ _ HB2.out hb3)
    have H0c := Lib.hid (H0b.out.rb hb3)
    clear hb3
    cases hlr : lightR R with
    | false =>
      clear hlr
      go_wp2_with fail
      refine (lives_any _ (HT0.out.rb HB3.out)).mono ?_
      rintro e wl ⟨rfl, hbl⟩
      have HBL2 := Lib.hid (Rb.trans _ _ _ HB3.out hbl)
      clear hbl
      go_wp2
      go_ret
      exact ⟨rfl, HBL2.out⟩
    | true =>
      have HLR := Lib.hid (lightR_of hlr)
      clear hlr
      obtain ⟨A, hA⟩ : ∃ A : Int, A = (xs.length : Int) % 3 := ⟨_, rfl⟩
      have hA2 : 0 ≤ A ∧ A ≤ 2 := by omega
      have hLL : l0.length ≤ 1000 := by have := HL0.out.2.1; omega
      obtain ⟨y0, y1, y2⟩ := H0c.out
      have HA := Lib.hid hA
      clear hA
      go_wp2_with fail
      rw [← HA.out]
      refine (getrow_any (.slice ao xs.length cap) xs A nm0 r0 (.slice a0 l0.length p0) l0 _ (HBS1.out.below HB3.out) (by omega) (Row3.rb HC0.out HB3.out) hLL).mono ?_
      rintro e w4 ⟨v1, q1, rfl, hv1, hq1, hb4⟩
      have HB4 := Lib.hid (Rb.trans _ _ _ HB3.out hb4)
      have H0d := Lib.hid (H0c.out.rb hb4)
      have HV1a := Lib.hid hv1
      have HQ1 := Lib.hid hq1
      obtain ⟨z0, z1, z2⟩ := H0d.out
      clear hb4 hv1 hq1 y0 y1 y2
      go_wp2_with fail
      refine (refgetrow_any (.slice ao xs.length cap) xs A nm0 r0 (.slice a0 l0.length p0) l0 _ (HBS1.out.below HB4.out) (by omega) (Row3.rb HC0.out HB4.out) hLL).mono ?_
      rintro e w5 ⟨v2, q2, rfl, hv2, hq2, hb5⟩
      have HB5 := Lib.hid (Rb.trans _ _ _ HB4.out hb5)
      have H0e := Lib.hid (H0d.out.rb hb5)
      have HV1b := Lib.hid (Row3.rb HV1a.out hb5)
      have HV2a := Lib.hid hv2
      have hqq : q2 = q1 := by rw [hq2, HQ1.out]
      subst hqq
      obtain ⟨y0, y1, y2⟩ := H0e.out
      clear hb5 hv2 hq2 z0 z1 z2
      have hfar : getOk xs ((xs.length : Int) + 1) l0 = false := by
        unfold getOk inB
        rw [decide_eq_false (by omega)]; rfl
      have HFAR := Lib.hid hfar
      have hn1 : IntKind.i64.wrap ((xs.length : Int) + 1) = (xs.length : Int) + 1 := IntWalk.i64_in _ ⟨by omega, by omega⟩
      have HBLa := Lib.hid (show (bytesRow R).length ≤ 1000 by have := bytesRow_len HOK.out; have := HLR.out.1; omega)
      clear hfar
      cases hg : getOk xs A l0 with
      | false =>
        rw [hg] at HV1b HV2a HQ1
        have HQ0 := Lib.hid (show q2 = 0 from HQ1.out)
        clear hg
        go_wp2_with fail
        refine (getrow_any (.slice ao xs.length cap) xs ((xs.length : Int) + 1) nm0 r0 (.slice a0 l0.length p0) l0 _ (HBS1.out.below HB5.out) (by omega) (Row3.rb HC0.out HB5.out) hLL).mono ?_
        rintro e w6 ⟨v3, q3, rfl, hv3, hq3, hb6⟩
        rw [HFAR.out]
        have HB := Lib.hid (Rb.trans _ _ _ HB5.out hb6)
        have H0 := Lib.hid (H0e.out.rb hb6)
        have HV1 := Lib.hid (Row3.rb HV1b.out hb6)
        have HV2 := Lib.hid (vals_nil w6)
        have HC := Lib.hid (Row3.rb HC0.out HB.out)
        have HR := Lib.hid (Row3.rb HR0.out HB.out)
        have HT := Lib.hid (HT0.out.rb HB.out)
        have HBS := Lib.hid (HBS1.out.below HB.out)
        have HBL := HBLa
        rw [HQ0.out]
        clear hb6 hv3 hq3 y0 y1 y2 hn1
        generalize w0.heap.size = TB at H0 ⊢
        go_upto_region 11 with (fail)
        refine wp_region_specs (R := Rb) (S := [Spec.eq (.slice ao xs.length cap), Spec.eq (.slice ro R.length rcap), bsSpec (xs ++ bytesRow R), Spec.eq (strV (xs ++ bytesRow R)), Spec.eq (.slice ao xs.length cap), Spec.eq (strV (xs)), Spec.eq (.slice ro R.length rcap), bsSpec (bytesRow R), Spec.eq (strV (bytesRow R)), Spec.eq (strV (xs ++ (bytesRow R))), Spec.eq (.bool true), Spec.eq (.bool true), Spec.eq (.agg #[.string nm0, .int .i64 r0, .slice a0 l0.length p0]), Spec.eq (.slice ro R.length rcap), Spec.eq (.bool (fitsRow l0 R)), Spec.eq (.agg #[.string nm0, .int .i64 r0, .slice a0 l0.length p0]), Spec.eq (.slice ro R.length rcap), Spec.eq (.bool (fitsRow l0 R)), Spec.eq (.bool true), Spec.eq (.bool true), Spec.eq (.bool true), Spec.eq (v1), Spec.eq (.slice none 0 0), Spec.eq (.bool true), Spec.eq (.bool true), Spec.eq (.bool true), Spec.eq (.int .i64 (0)), Spec.eq (.int .i64 (0)), Spec.eq (.bool true), Spec.eq (.bool true), Spec.eq (.bool true), Spec.eq (.bool false), Spec.eq (.bool false), Spec.eq (.bool true), Spec.eq (.bool true), Spec.eq (.bool true), Spec.eq (.bool false), Spec.eq (.bool true), Spec.eq (.bool true), Spec.eq (.bool true), Spec.eq (.bool true), Spec.eq (.bool true), Spec.eq (.bool true)]) (n := 1) (size := 104) (by kernel_rfl) Rb.trans (Rb.drew _) rfl (by kernel_rfl) ?owed ?fin
        case owed =>
          refine Owed.cons ?_ ?_
          · -- 0: slot 62 := Op.move (Operand.tmp 2)
            intro a w hR F
            have e2 : a.eval (.tmp 2) = .slice ao xs.length cap := F.old 2 (by kernel_rfl)
            exact ok_move _ rfl (wanted_none rfl) ⟨Rb.refl _, e2⟩
          refine Owed.cons ?_ ?_
          · -- 1: slot 63 := Op.move (Operand.tmp 1)
            intro a w hR F
            have e1 : a.eval (.tmp 1) = .slice ro R.length rcap := F.old 1 (by kernel_rfl)
            exact ok_move _ rfl (wanted_none rfl) ⟨Rb.refl _, e1⟩
          refine Owed.cons ?_ ?_
          · -- 2: slot 64 := Op.call { callee := Callee.value (Operand.func 28), args := #[Operand.tmp 62, Operand.tmp 63], argTy
            intro a w hR F
            have e62 : a.eval (.tmp 62) = .slice ao xs.length cap := F.new 0 62 (by kernel_rfl)
            have e63 : a.eval (.tmp 63) = .slice ro R.length rcap := F.new 1 63 (by kernel_rfl)
            refine ok_call 28 _ _ #[.slice ao xs.length cap, .slice ro R.length rcap] rfl (wanted_none rfl) (by simp [e62, e63]) (Tryd.call28 _ _) ?_
            exact own_call6 (putrow_any _ _ xs R w (HBS.out.below hR) (by omega) (Row3.rb HR.out hR) HLR.out.1 HOK.out)
          refine Owed.cons ?_ ?_
          · -- 3: slot 65 := Op.convert 44 9 (Operand.tmp 64)
            intro a w hR F
            have e64 : Bs w (a.eval (.tmp 64)) (xs ++ bytesRow R) := F.new 2 64 (by kernel_rfl)
            exact ok_conv _ _ _ rfl (wanted_none rfl) (run_convert_Bs e64 44 5 9 Tryd.underlying44 Tryd.underlying5 Tryd.underlying9) ⟨Rb.refl _, rfl⟩
          refine Owed.cons ?_ ?_
          · -- 4: slot 66 := Op.move (Operand.tmp 2)
            intro a w hR F
            have e2 : a.eval (.tmp 2) = .slice ao xs.length cap := F.old 2 (by kernel_rfl)
            exact ok_move _ rfl (wanted_none rfl) ⟨Rb.refl _, e2⟩
          refine Owed.cons ?_ ?_
          · -- 5: slot 67 := Op.convert 44 9 (Operand.tmp 66)
            intro a w hR F
            have e66 : a.eval (.tmp 66) = .slice ao xs.length cap := F.new 4 66 (by kernel_rfl)
            exact ok_conv _ _ _ rfl (wanted_none rfl) (run_convert_Bs (xs := xs) (by rw [e66]; exact HBS.out.below hR) 44 5 9 Tryd.underlying44 Tryd.underlying5 Tryd.underlying9) ⟨Rb.refl _, rfl⟩
          refine Owed.cons ?_ ?_
          · -- 6: slot 68 := Op.move (Operand.tmp 1)
            intro a w hR F
            have e1 : a.eval (.tmp 1) = .slice ro R.length rcap := F.old 1 (by kernel_rfl)
            exact ok_move _ rfl (wanted_none rfl) ⟨Rb.refl _, e1⟩
          refine Owed.cons ?_ ?_
          · -- 7: slot 69 := Op.call { callee := Callee.value (Operand.func 29), args := #[Operand.tmp 68], argTypes := #[39] }
            intro a w hR F
            have e68 : a.eval (.tmp 68) = .slice ro R.length rcap := F.new 6 68 (by kernel_rfl)
            refine ok_call 29 _ _ #[.slice ro R.length rcap] rfl (wanted_none rfl) (by simp [e68]) (Tryd.call29 _ _) ?_
            exact own_call6 (refbytesrow_any _ R w (Row3.rb HR.out hR) HLR.out.1 HOK.out)
          refine Owed.cons ?_ ?_
          · -- 8: slot 70 := Op.convert 44 9 (Operand.tmp 69)
            intro a w hR F
            have e69 : Bs w (a.eval (.tmp 69)) (bytesRow R) := F.new 7 69 (by kernel_rfl)
            exact ok_conv _ _ _ rfl (wanted_none rfl) (run_convert_Bs e69 44 5 9 Tryd.underlying44 Tryd.underlying5 Tryd.underlying9) ⟨Rb.refl _, rfl⟩
          refine Owed.cons ?_ ?_
          · -- 9: slot 71 := Op.binOp BinOp.add 9 (Operand.tmp 67) (Operand.tmp 70) 9
            intro a w hR F
            have e67 : a.eval (.tmp 67) = strV (xs) := F.new 5 67 (by kernel_rfl)
            have e70 : a.eval (.tmp 70) = strV (bytesRow R) := F.new 8 70 (by kernel_rfl)
            exact ok_bin _ _ _ _ _ rfl (wanted_none rfl) e67 e70 (run_add_strV _ _ _ _ _ (by have := HBL.out; omega)) ⟨Rb.refl _, rfl⟩
          refine Owed.cons ?_ ?_
          · -- 10: slot 72 := Op.binOp BinOp.eql 9 (Operand.tmp 65) (Operand.tmp 71) 9
            intro a w hR F
            have e65 : a.eval (.tmp 65) = strV (xs ++ bytesRow R) := F.new 3 65 (by kernel_rfl)
            have e71 : a.eval (.tmp 71) = strV (xs ++ (bytesRow R)) := F.new 9 71 (by kernel_rfl)
            refine ok_bin _ _ _ _ _ rfl (wanted_none rfl) e65 e71 (run_eql_strV _ _ _ _ _) ⟨Rb.refl _, ?_⟩
            exact congrArg Value.bool (by simp)
          refine Owed.cons ?_ ?_
          · -- 11: slot 73 := Op.move (Operand.tmp 72)
            intro a w hR F
            have e72 : a.eval (.tmp 72) = .bool true := F.new 10 72 (by kernel_rfl)
            exact ok_move _ rfl (wanted_none rfl) ⟨Rb.refl _, e72⟩
          refine Owed.cons ?_ ?_
          · -- 12: slot 74 := Op.load 25 (Operand.tmp 3)
            intro a w hR F
            have e73 : a.eval (.tmp 73) = .bool true := F.new 11 73 (by kernel_rfl)
            have e3 : a.eval (.tmp 3) = .pointer (some ⟨TB, 0, none⟩) := F.old 3 (by kernel_rfl)
            exact ok_load _ _ rfl (wanted_true (j := 11) (d := 73) rfl (by kernel_rfl) e73) e3 (H0.out.rb hR).load ⟨Rb.refl _, rfl⟩
          refine Owed.cons ?_ ?_
          · -- 13: slot 75 := Op.move (Operand.tmp 1)
            intro a w hR F
            have e73 : a.eval (.tmp 73) = .bool true := F.new 11 73 (by kernel_rfl)
            have e1 : a.eval (.tmp 1) = .slice ro R.length rcap := F.old 1 (by kernel_rfl)
            exact ok_move _ rfl (wanted_true (j := 11) (d := 73) rfl (by kernel_rfl) e73) ⟨Rb.refl _, e1⟩
          refine Owed.cons ?_ ?_
          · -- 14: slot 76 := Op.call { callee := Callee.value (Operand.func 30), args := #[Operand.tmp 74, Operand.tmp 75], argTy
            intro a w hR F
            have e73 : a.eval (.tmp 73) = .bool true := F.new 11 73 (by kernel_rfl)
            have e74 : a.eval (.tmp 74) = .agg #[.string nm0, .int .i64 r0, .slice a0 l0.length p0] := F.new 12 74 (by kernel_rfl)
            have e75 : a.eval (.tmp 75) = .slice ro R.length rcap := F.new 13 75 (by kernel_rfl)
            refine ok_call 30 _ _ #[.agg #[.string nm0, .int .i64 r0, .slice a0 l0.length p0], .slice ro R.length rcap] rfl (wanted_true (j := 11) (d := 73) rfl (by kernel_rfl) e73) (by simp [e74, e75]) (Tryd.call30 _ _) ?_
            exact rb_call (fitsrow_any nm0 r0 _ l0 R _ w (Row3.rb HC.out hR) (Row3.rb HR.out hR) HOK.out)
          refine Owed.cons ?_ ?_
          · -- 15: slot 77 := Op.load 25 (Operand.tmp 3)
            intro a w hR F
            have e73 : a.eval (.tmp 73) = .bool true := F.new 11 73 (by kernel_rfl)
            have e3 : a.eval (.tmp 3) = .pointer (some ⟨TB, 0, none⟩) := F.old 3 (by kernel_rfl)
            exact ok_load _ _ rfl (wanted_true (j := 11) (d := 73) rfl (by kernel_rfl) e73) e3 (H0.out.rb hR).load ⟨Rb.refl _, rfl⟩
          refine Owed.cons ?_ ?_
          · -- 16: slot 78 := Op.move (Operand.tmp 1)
            intro a w hR F
            have e73 : a.eval (.tmp 73) = .bool true := F.new 11 73 (by kernel_rfl)
            have e1 : a.eval (.tmp 1) = .slice ro R.length rcap := F.old 1 (by kernel_rfl)
            exact ok_move _ rfl (wanted_true (j := 11) (d := 73) rfl (by kernel_rfl) e73) ⟨Rb.refl _, e1⟩
          refine Owed.cons ?_ ?_
          · -- 17: slot 79 := Op.call { callee := Callee.value (Operand.func 31), args := #[Operand.tmp 77, Operand.tmp 78], argTy
            intro a w hR F
            have e73 : a.eval (.tmp 73) = .bool true := F.new 11 73 (by kernel_rfl)
            have e77 : a.eval (.tmp 77) = .agg #[.string nm0, .int .i64 r0, .slice a0 l0.length p0] := F.new 15 77 (by kernel_rfl)
            have e78 : a.eval (.tmp 78) = .slice ro R.length rcap := F.new 16 78 (by kernel_rfl)
            refine ok_call 31 _ _ #[.agg #[.string nm0, .int .i64 r0, .slice a0 l0.length p0], .slice ro R.length rcap] rfl (wanted_true (j := 11) (d := 73) rfl (by kernel_rfl) e73) (by simp [e77, e78]) (Tryd.call31 _ _) ?_
            exact rb_call (reffitsrow_any nm0 r0 _ l0 R _ w (Row3.rb HC.out hR) (Row3.rb HR.out hR) HOK.out)
          refine Owed.cons ?_ ?_
          · -- 18: slot 80 := Op.binOp BinOp.eql 4 (Operand.tmp 76) (Operand.tmp 79) 4
            intro a w hR F
            have e73 : a.eval (.tmp 73) = .bool true := F.new 11 73 (by kernel_rfl)
            have e76 : a.eval (.tmp 76) = .bool (fitsRow l0 R) := F.new 14 76 (by kernel_rfl)
            have e79 : a.eval (.tmp 79) = .bool (fitsRow l0 R) := F.new 17 79 (by kernel_rfl)
            refine ok_bin _ _ _ _ _ rfl (wanted_true (j := 11) (d := 73) rfl (by kernel_rfl) e73) e76 e79 (run_eql_boolB _ _ _ _ _ Tryd.underlying4) ⟨Rb.refl _, ?_⟩
            exact congrArg Value.bool (by simp)
          refine Owed.cons ?_ ?_
          · -- 19: slot 81 := Op.pick (Operand.tmp 73) (Operand.tmp 80) (Operand.const (Value.bool false))
            intro a w hR F
            have e73 : a.eval (.tmp 73) = .bool true := F.new 11 73 (by kernel_rfl)
            have e80 : a.eval (.tmp 80) = .bool true := F.new 18 80 (by kernel_rfl)
            exact ok_pick _ _ _ true rfl (wanted_none rfl) e73 ⟨Rb.refl _, e80⟩
          refine Owed.cons ?_ ?_
          · -- 20: slot 82 := Op.move (Operand.tmp 81)
            intro a w hR F
            have e81 : a.eval (.tmp 81) = .bool true := F.new 19 81 (by kernel_rfl)
            exact ok_move _ rfl (wanted_none rfl) ⟨Rb.refl _, e81⟩
          refine Owed.cons ?_ ?_
          · -- 21: slot 83 := Op.move (Operand.tmp 8)
            intro a w hR F
            have e82 : a.eval (.tmp 82) = .bool true := F.new 20 82 (by kernel_rfl)
            have e8 : a.eval (.tmp 8) = v1 := F.old 8 (by kernel_rfl)
            exact ok_move _ rfl (wanted_true (j := 20) (d := 82) rfl (by kernel_rfl) e82) ⟨Rb.refl _, e8⟩
          refine Owed.cons ?_ ?_
          · -- 22: slot 84 := Op.move (Operand.tmp 11)
            intro a w hR F
            have e82 : a.eval (.tmp 82) = .bool true := F.new 20 82 (by kernel_rfl)
            have e11 : a.eval (.tmp 11) = .slice none 0 0 := F.old 11 (by kernel_rfl)
            exact ok_move _ rfl (wanted_true (j := 20) (d := 82) rfl (by kernel_rfl) e82) ⟨Rb.refl _, e11⟩
          refine Owed.cons ?_ ?_
          · -- 23: slot 85 := Op.call { callee := Callee.value (Operand.func 19), args := #[Operand.tmp 83, Operand.tmp 84], argTy
            intro a w hR F
            have e82 : a.eval (.tmp 82) = .bool true := F.new 20 82 (by kernel_rfl)
            have e83 : a.eval (.tmp 83) = v1 := F.new 21 83 (by kernel_rfl)
            have e84 : a.eval (.tmp 84) = .slice none 0 0 := F.new 22 84 (by kernel_rfl)
            refine ok_call 19 _ _ #[v1, .slice none 0 0] rfl (wanted_true (j := 20) (d := 82) rfl (by kernel_rfl) e82) (by simp [e83, e84]) (Tryd.call19 _ _) ?_
            exact rb_call (refsame_refl (Row3.rb HV1.out hR) (Row3.rb HV2.out hR))
          refine Owed.cons ?_ ?_
          · -- 24: slot 86 := Op.pick (Operand.tmp 82) (Operand.tmp 85) (Operand.const (Value.bool false))
            intro a w hR F
            have e82 : a.eval (.tmp 82) = .bool true := F.new 20 82 (by kernel_rfl)
            have e85 : a.eval (.tmp 85) = .bool true := F.new 23 85 (by kernel_rfl)
            exact ok_pick _ _ _ true rfl (wanted_none rfl) e82 ⟨Rb.refl _, e85⟩
          refine Owed.cons ?_ ?_
          · -- 25: slot 87 := Op.move (Operand.tmp 86)
            intro a w hR F
            have e86 : a.eval (.tmp 86) = .bool true := F.new 24 86 (by kernel_rfl)
            exact ok_move _ rfl (wanted_none rfl) ⟨Rb.refl _, e86⟩
          refine Owed.cons ?_ ?_
          · -- 26: slot 88 := Op.move (Operand.tmp 9)
            intro a w hR F
            have e87 : a.eval (.tmp 87) = .bool true := F.new 25 87 (by kernel_rfl)
            have e9 : a.eval (.tmp 9) = .int .i64 (0) := F.old 9 (by kernel_rfl)
            exact ok_move _ rfl (wanted_true (j := 25) (d := 87) rfl (by kernel_rfl) e87) ⟨Rb.refl _, e9⟩
          refine Owed.cons ?_ ?_
          · -- 27: slot 89 := Op.move (Operand.tmp 12)
            intro a w hR F
            have e87 : a.eval (.tmp 87) = .bool true := F.new 25 87 (by kernel_rfl)
            have e12 : a.eval (.tmp 12) = .int .i64 (0) := F.old 12 (by kernel_rfl)
            exact ok_move _ rfl (wanted_true (j := 25) (d := 87) rfl (by kernel_rfl) e87) ⟨Rb.refl _, e12⟩
          refine Owed.cons ?_ ?_
          · -- 28: slot 90 := Op.binOp BinOp.eql 3 (Operand.tmp 88) (Operand.tmp 89) 3
            intro a w hR F
            have e87 : a.eval (.tmp 87) = .bool true := F.new 25 87 (by kernel_rfl)
            have e88 : a.eval (.tmp 88) = .int .i64 (0) := F.new 26 88 (by kernel_rfl)
            have e89 : a.eval (.tmp 89) = .int .i64 (0) := F.new 27 89 (by kernel_rfl)
            refine ok_bin _ _ _ _ _ rfl (wanted_true (j := 25) (d := 87) rfl (by kernel_rfl) e87) e88 e89 (run_eql_int _ _ _ _ _ _) ⟨Rb.refl _, ?_⟩
            exact congrArg Value.bool (by simp)
          refine Owed.cons ?_ ?_
          · -- 29: slot 91 := Op.pick (Operand.tmp 87) (Operand.tmp 90) (Operand.const (Value.bool false))
            intro a w hR F
            have e87 : a.eval (.tmp 87) = .bool true := F.new 25 87 (by kernel_rfl)
            have e90 : a.eval (.tmp 90) = .bool true := F.new 28 90 (by kernel_rfl)
            exact ok_pick _ _ _ true rfl (wanted_none rfl) e87 ⟨Rb.refl _, e90⟩
          refine Owed.cons ?_ ?_
          · -- 30: slot 92 := Op.move (Operand.tmp 91)
            intro a w hR F
            have e91 : a.eval (.tmp 91) = .bool true := F.new 29 91 (by kernel_rfl)
            exact ok_move _ rfl (wanted_none rfl) ⟨Rb.refl _, e91⟩
          refine Owed.cons ?_ ?_
          · -- 31: slot 93 := Op.move (Operand.tmp 10)
            intro a w hR F
            have e92 : a.eval (.tmp 92) = .bool true := F.new 30 92 (by kernel_rfl)
            have e10 : a.eval (.tmp 10) = .bool false := F.old 10 (by kernel_rfl)
            exact ok_move _ rfl (wanted_true (j := 30) (d := 92) rfl (by kernel_rfl) e92) ⟨Rb.refl _, e10⟩
          refine Owed.cons ?_ ?_
          · -- 32: slot 94 := Op.move (Operand.tmp 13)
            intro a w hR F
            have e92 : a.eval (.tmp 92) = .bool true := F.new 30 92 (by kernel_rfl)
            have e13 : a.eval (.tmp 13) = .bool false := F.old 13 (by kernel_rfl)
            exact ok_move _ rfl (wanted_true (j := 30) (d := 92) rfl (by kernel_rfl) e92) ⟨Rb.refl _, e13⟩
          refine Owed.cons ?_ ?_
          · -- 33: slot 95 := Op.binOp BinOp.eql 4 (Operand.tmp 93) (Operand.tmp 94) 4
            intro a w hR F
            have e92 : a.eval (.tmp 92) = .bool true := F.new 30 92 (by kernel_rfl)
            have e93 : a.eval (.tmp 93) = .bool false := F.new 31 93 (by kernel_rfl)
            have e94 : a.eval (.tmp 94) = .bool false := F.new 32 94 (by kernel_rfl)
            refine ok_bin _ _ _ _ _ rfl (wanted_true (j := 30) (d := 92) rfl (by kernel_rfl) e92) e93 e94 (run_eql_boolB _ _ _ _ _ Tryd.underlying4) ⟨Rb.refl _, ?_⟩
            exact congrArg Value.bool (by simp)
          refine Owed.cons ?_ ?_
          · -- 34: slot 96 := Op.pick (Operand.tmp 92) (Operand.tmp 95) (Operand.const (Value.bool false))
            intro a w hR F
            have e92 : a.eval (.tmp 92) = .bool true := F.new 30 92 (by kernel_rfl)
            have e95 : a.eval (.tmp 95) = .bool true := F.new 33 95 (by kernel_rfl)
            exact ok_pick _ _ _ true rfl (wanted_none rfl) e92 ⟨Rb.refl _, e95⟩
          refine Owed.cons ?_ ?_
          · -- 35: slot 97 := Op.move (Operand.tmp 96)
            intro a w hR F
            have e96 : a.eval (.tmp 96) = .bool true := F.new 34 96 (by kernel_rfl)
            exact ok_move _ rfl (wanted_none rfl) ⟨Rb.refl _, e96⟩
          refine Owed.cons ?_ ?_
          · -- 36: slot 98 := Op.move (Operand.tmp 16)
            intro a w hR F
            have e97 : a.eval (.tmp 97) = .bool true := F.new 35 97 (by kernel_rfl)
            have e16 : a.eval (.tmp 16) = .bool false := F.old 16 (by kernel_rfl)
            exact ok_move _ rfl (wanted_true (j := 35) (d := 97) rfl (by kernel_rfl) e97) ⟨Rb.refl _, e16⟩
          refine Owed.cons ?_ ?_
          · -- 37: slot 99 := Op.unOp UnOp.not 4 (Operand.tmp 98)
            intro a w hR F
            have e97 : a.eval (.tmp 97) = .bool true := F.new 35 97 (by kernel_rfl)
            have e98 : a.eval (.tmp 98) = .bool false := F.new 36 98 (by kernel_rfl)
            exact ok_not _ _ false rfl (wanted_true (j := 35) (d := 97) rfl (by kernel_rfl) e97) e98 ⟨Rb.refl _, rfl⟩
          refine Owed.cons ?_ ?_
          · -- 38: slot 100 := Op.pick (Operand.tmp 97) (Operand.tmp 99) (Operand.const (Value.bool false))
            intro a w hR F
            have e97 : a.eval (.tmp 97) = .bool true := F.new 35 97 (by kernel_rfl)
            have e99 : a.eval (.tmp 99) = .bool true := F.new 37 99 (by kernel_rfl)
            exact ok_pick _ _ _ true rfl (wanted_none rfl) e97 ⟨Rb.refl _, e99⟩
          refine Owed.cons ?_ ?_
          · -- 39: slot 101 := Op.move (Operand.tmp 100)
            intro a w hR F
            have e100 : a.eval (.tmp 100) = .bool true := F.new 38 100 (by kernel_rfl)
            exact ok_move _ rfl (wanted_none rfl) ⟨Rb.refl _, e100⟩
          refine Owed.cons ?_ ?_
          · -- 40: slot 102 := Op.call { callee := Callee.value (Operand.func 9), args := #[], argTypes := #[] }
            intro a w hR F
            have e101 : a.eval (.tmp 101) = .bool true := F.new 39 101 (by kernel_rfl)
            refine ok_call 9 _ _ #[] rfl (wanted_true (j := 39) (d := 101) rfl (by kernel_rfl) e101) (by simp) (Tryd.call9 _ _) ?_
            exact rb_call (lives_any w (HT.out.rb hR))
          refine Owed.cons ?_ ?_
          · -- 41: slot 103 := Op.pick (Operand.tmp 101) (Operand.tmp 102) (Operand.const (Value.bool false))
            intro a w hR F
            have e101 : a.eval (.tmp 101) = .bool true := F.new 39 101 (by kernel_rfl)
            have e102 : a.eval (.tmp 102) = .bool true := F.new 40 102 (by kernel_rfl)
            exact ok_pick _ _ _ true rfl (wanted_none rfl) e101 ⟨Rb.refl _, e102⟩
          refine Owed.cons ?_ ?_
          · -- 42: slot 6 := Op.assign (Operand.tmp 103)
            intro a w hR F
            have e103 : a.eval (.tmp 103) = .bool true := F.new 41 103 (by kernel_rfl)
            exact ok_assign _ rfl (wanted_none rfl) ⟨Rb.refl _, e103⟩
          exact Owed.nil
        case fin =>
          intro y w9 hR hy
          have e42 : y 42 = .bool true := hy 42 _ rfl
          have HRR := Lib.hid (Rb.trans _ _ _ HB.out hR)
          clear hy hR
          simp only [putAll, Act.put, List.setIfInBounds_toArray, List.set_cons_zero, List.set_cons_succ]
          rw [e42]
          clear e42
          go_wp2
          go_ret
          exact ⟨rfl, HRR.out⟩
      | true =>
        rw [hg] at HV1b HV2a
        clear hg
        go_wp2_with fail
        refine (getrow_any (.slice ao xs.length cap) xs ((xs.length : Int) + 1) nm0 r0 (.slice a0 l0.length p0) l0 _ (HBS1.out.below HB5.out) (by omega) (Row3.rb HC0.out HB5.out) hLL).mono ?_
        rintro e w6 ⟨v3, q3, rfl, hv3, hq3, hb6⟩
        rw [HFAR.out]
        have HB := Lib.hid (Rb.trans _ _ _ HB5.out hb6)
        have H0 := Lib.hid (H0e.out.rb hb6)
        have HV1 := Lib.hid (Row3.rb HV1b.out hb6)
        have HV2 := Lib.hid (Row3.rb HV2a.out hb6)
        have HC := Lib.hid (Row3.rb HC0.out HB.out)
        have HR := Lib.hid (Row3.rb HR0.out HB.out)
        have HT := Lib.hid (HT0.out.rb HB.out)
        have HBS := Lib.hid (HBS1.out.below HB.out)
        have HBL := HBLa
        clear hb6 hv3 hq3 y0 y1 y2 hn1
        generalize w0.heap.size = TB at H0 ⊢
        go_upto_region 11 with (fail)
        refine wp_region_specs (R := Rb) (S := [Spec.eq (.slice ao xs.length cap), Spec.eq (.slice ro R.length rcap), bsSpec (xs ++ bytesRow R), Spec.eq (strV (xs ++ bytesRow R)), Spec.eq (.slice ao xs.length cap), Spec.eq (strV (xs)), Spec.eq (.slice ro R.length rcap), bsSpec (bytesRow R), Spec.eq (strV (bytesRow R)), Spec.eq (strV (xs ++ (bytesRow R))), Spec.eq (.bool true), Spec.eq (.bool true), Spec.eq (.agg #[.string nm0, .int .i64 r0, .slice a0 l0.length p0]), Spec.eq (.slice ro R.length rcap), Spec.eq (.bool (fitsRow l0 R)), Spec.eq (.agg #[.string nm0, .int .i64 r0, .slice a0 l0.length p0]), Spec.eq (.slice ro R.length rcap), Spec.eq (.bool (fitsRow l0 R)), Spec.eq (.bool true), Spec.eq (.bool true), Spec.eq (.bool true), Spec.eq (v1), Spec.eq (v2), Spec.eq (.bool true), Spec.eq (.bool true), Spec.eq (.bool true), Spec.eq (.int .i64 (q2)), Spec.eq (.int .i64 (q2)), Spec.eq (.bool true), Spec.eq (.bool true), Spec.eq (.bool true), Spec.eq (.bool true), Spec.eq (.bool true), Spec.eq (.bool true), Spec.eq (.bool true), Spec.eq (.bool true), Spec.eq (.bool false), Spec.eq (.bool true), Spec.eq (.bool true), Spec.eq (.bool true), Spec.eq (.bool true), Spec.eq (.bool true), Spec.eq (.bool true)]) (n := 1) (size := 104) (by kernel_rfl) Rb.trans (Rb.drew _) rfl (by kernel_rfl) ?owed ?fin
        case owed =>
          refine Owed.cons ?_ ?_
          · -- 0: slot 62 := Op.move (Operand.tmp 2)
            intro a w hR F
            have e2 : a.eval (.tmp 2) = .slice ao xs.length cap := F.old 2 (by kernel_rfl)
            exact ok_move _ rfl (wanted_none rfl) ⟨Rb.refl _, e2⟩
          refine Owed.cons ?_ ?_
          · -- 1: slot 63 := Op.move (Operand.tmp 1)
            intro a w hR F
            have e1 : a.eval (.tmp 1) = .slice ro R.length rcap := F.old 1 (by kernel_rfl)
            exact ok_move _ rfl (wanted_none rfl) ⟨Rb.refl _, e1⟩
          refine Owed.cons ?_ ?_
          · -- 2: slot 64 := Op.call { callee := Callee.value (Operand.func 28), args := #[Operand.tmp 62, Operand.tmp 63], argTy
            intro a w hR F
            have e62 : a.eval (.tmp 62) = .slice ao xs.length cap := F.new 0 62 (by kernel_rfl)
            have e63 : a.eval (.tmp 63) = .slice ro R.length rcap := F.new 1 63 (by kernel_rfl)
            refine ok_call 28 _ _ #[.slice ao xs.length cap, .slice ro R.length rcap] rfl (wanted_none rfl) (by simp [e62, e63]) (Tryd.call28 _ _) ?_
            exact own_call6 (putrow_any _ _ xs R w (HBS.out.below hR) (by omega) (Row3.rb HR.out hR) HLR.out.1 HOK.out)
          refine Owed.cons ?_ ?_
          · -- 3: slot 65 := Op.convert 44 9 (Operand.tmp 64)
            intro a w hR F
            have e64 : Bs w (a.eval (.tmp 64)) (xs ++ bytesRow R) := F.new 2 64 (by kernel_rfl)
            exact ok_conv _ _ _ rfl (wanted_none rfl) (run_convert_Bs e64 44 5 9 Tryd.underlying44 Tryd.underlying5 Tryd.underlying9) ⟨Rb.refl _, rfl⟩
          refine Owed.cons ?_ ?_
          · -- 4: slot 66 := Op.move (Operand.tmp 2)
            intro a w hR F
            have e2 : a.eval (.tmp 2) = .slice ao xs.length cap := F.old 2 (by kernel_rfl)
            exact ok_move _ rfl (wanted_none rfl) ⟨Rb.refl _, e2⟩
          refine Owed.cons ?_ ?_
          · -- 5: slot 67 := Op.convert 44 9 (Operand.tmp 66)
            intro a w hR F
            have e66 : a.eval (.tmp 66) = .slice ao xs.length cap := F.new 4 66 (by kernel_rfl)
            exact ok_conv _ _ _ rfl (wanted_none rfl) (run_convert_Bs (xs := xs) (by rw [e66]; exact HBS.out.below hR) 44 5 9 Tryd.underlying44 Tryd.underlying5 Tryd.underlying9) ⟨Rb.refl _, rfl⟩
          refine Owed.cons ?_ ?_
          · -- 6: slot 68 := Op.move (Operand.tmp 1)
            intro a w hR F
            have e1 : a.eval (.tmp 1) = .slice ro R.length rcap := F.old 1 (by kernel_rfl)
            exact ok_move _ rfl (wanted_none rfl) ⟨Rb.refl _, e1⟩
          refine Owed.cons ?_ ?_
          · -- 7: slot 69 := Op.call { callee := Callee.value (Operand.func 29), args := #[Operand.tmp 68], argTypes := #[39] }
            intro a w hR F
            have e68 : a.eval (.tmp 68) = .slice ro R.length rcap := F.new 6 68 (by kernel_rfl)
            refine ok_call 29 _ _ #[.slice ro R.length rcap] rfl (wanted_none rfl) (by simp [e68]) (Tryd.call29 _ _) ?_
            exact own_call6 (refbytesrow_any _ R w (Row3.rb HR.out hR) HLR.out.1 HOK.out)
          refine Owed.cons ?_ ?_
          · -- 8: slot 70 := Op.convert 44 9 (Operand.tmp 69)
            intro a w hR F
            have e69 : Bs w (a.eval (.tmp 69)) (bytesRow R) := F.new 7 69 (by kernel_rfl)
            exact ok_conv _ _ _ rfl (wanted_none rfl) (run_convert_Bs e69 44 5 9 Tryd.underlying44 Tryd.underlying5 Tryd.underlying9) ⟨Rb.refl _, rfl⟩
          refine Owed.cons ?_ ?_
          · -- 9: slot 71 := Op.binOp BinOp.add 9 (Operand.tmp 67) (Operand.tmp 70) 9
            intro a w hR F
            have e67 : a.eval (.tmp 67) = strV (xs) := F.new 5 67 (by kernel_rfl)
            have e70 : a.eval (.tmp 70) = strV (bytesRow R) := F.new 8 70 (by kernel_rfl)
            exact ok_bin _ _ _ _ _ rfl (wanted_none rfl) e67 e70 (run_add_strV _ _ _ _ _ (by have := HBL.out; omega)) ⟨Rb.refl _, rfl⟩
          refine Owed.cons ?_ ?_
          · -- 10: slot 72 := Op.binOp BinOp.eql 9 (Operand.tmp 65) (Operand.tmp 71) 9
            intro a w hR F
            have e65 : a.eval (.tmp 65) = strV (xs ++ bytesRow R) := F.new 3 65 (by kernel_rfl)
            have e71 : a.eval (.tmp 71) = strV (xs ++ (bytesRow R)) := F.new 9 71 (by kernel_rfl)
            refine ok_bin _ _ _ _ _ rfl (wanted_none rfl) e65 e71 (run_eql_strV _ _ _ _ _) ⟨Rb.refl _, ?_⟩
            exact congrArg Value.bool (by simp)
          refine Owed.cons ?_ ?_
          · -- 11: slot 73 := Op.move (Operand.tmp 72)
            intro a w hR F
            have e72 : a.eval (.tmp 72) = .bool true := F.new 10 72 (by kernel_rfl)
            exact ok_move _ rfl (wanted_none rfl) ⟨Rb.refl _, e72⟩
          refine Owed.cons ?_ ?_
          · -- 12: slot 74 := Op.load 25 (Operand.tmp 3)
            intro a w hR F
            have e73 : a.eval (.tmp 73) = .bool true := F.new 11 73 (by kernel_rfl)
            have e3 : a.eval (.tmp 3) = .pointer (some ⟨TB, 0, none⟩) := F.old 3 (by kernel_rfl)
            exact ok_load _ _ rfl (wanted_true (j := 11) (d := 73) rfl (by kernel_rfl) e73) e3 (H0.out.rb hR).load ⟨Rb.refl _, rfl⟩
          refine Owed.cons ?_ ?_
          · -- 13: slot 75 := Op.move (Operand.tmp 1)
            intro a w hR F
            have e73 : a.eval (.tmp 73) = .bool true := F.new 11 73 (by kernel_rfl)
            have e1 : a.eval (.tmp 1) = .slice ro R.length rcap := F.old 1 (by kernel_rfl)
            exact ok_move _ rfl (wanted_true (j := 11) (d := 73) rfl (by kernel_rfl) e73) ⟨Rb.refl _, e1⟩
          refine Owed.cons ?_ ?_
          · -- 14: slot 76 := Op.call { callee := Callee.value (Operand.func 30), args := #[Operand.tmp 74, Operand.tmp 75], argTy
            intro a w hR F
            have e73 : a.eval (.tmp 73) = .bool true := F.new 11 73 (by kernel_rfl)
            have e74 : a.eval (.tmp 74) = .agg #[.string nm0, .int .i64 r0, .slice a0 l0.length p0] := F.new 12 74 (by kernel_rfl)
            have e75 : a.eval (.tmp 75) = .slice ro R.length rcap := F.new 13 75 (by kernel_rfl)
            refine ok_call 30 _ _ #[.agg #[.string nm0, .int .i64 r0, .slice a0 l0.length p0], .slice ro R.length rcap] rfl (wanted_true (j := 11) (d := 73) rfl (by kernel_rfl) e73) (by simp [e74, e75]) (Tryd.call30 _ _) ?_
            exact rb_call (fitsrow_any nm0 r0 _ l0 R _ w (Row3.rb HC.out hR) (Row3.rb HR.out hR) HOK.out)
          refine Owed.cons ?_ ?_
          · -- 15: slot 77 := Op.load 25 (Operand.tmp 3)
            intro a w hR F
            have e73 : a.eval (.tmp 73) = .bool true := F.new 11 73 (by kernel_rfl)
            have e3 : a.eval (.tmp 3) = .pointer (some ⟨TB, 0, none⟩) := F.old 3 (by kernel_rfl)
            exact ok_load _ _ rfl (wanted_true (j := 11) (d := 73) rfl (by kernel_rfl) e73) e3 (H0.out.rb hR).load ⟨Rb.refl _, rfl⟩
          refine Owed.cons ?_ ?_
          · -- 16: slot 78 := Op.move (Operand.tmp 1)
            intro a w hR F
            have e73 : a.eval (.tmp 73) = .bool true := F.new 11 73 (by kernel_rfl)
            have e1 : a.eval (.tmp 1) = .slice ro R.length rcap := F.old 1 (by kernel_rfl)
            exact ok_move _ rfl (wanted_true (j := 11) (d := 73) rfl (by kernel_rfl) e73) ⟨Rb.refl _, e1⟩
          refine Owed.cons ?_ ?_
          · -- 17: slot 79 := Op.call { callee := Callee.value (Operand.func 31), args := #[Operand.tmp 77, Operand.tmp 78], argTy
            intro a w hR F
            have e73 : a.eval (.tmp 73) = .bool true := F.new 11 73 (by kernel_rfl)
            have e77 : a.eval (.tmp 77) = .agg #[.string nm0, .int .i64 r0, .slice a0 l0.length p0] := F.new 15 77 (by kernel_rfl)
            have e78 : a.eval (.tmp 78) = .slice ro R.length rcap := F.new 16 78 (by kernel_rfl)
            refine ok_call 31 _ _ #[.agg #[.string nm0, .int .i64 r0, .slice a0 l0.length p0], .slice ro R.length rcap] rfl (wanted_true (j := 11) (d := 73) rfl (by kernel_rfl) e73) (by simp [e77, e78]) (Tryd.call31 _ _) ?_
            exact rb_call (reffitsrow_any nm0 r0 _ l0 R _ w (Row3.rb HC.out hR) (Row3.rb HR.out hR) HOK.out)
          refine Owed.cons ?_ ?_
          · -- 18: slot 80 := Op.binOp BinOp.eql 4 (Operand.tmp 76) (Operand.tmp 79) 4
            intro a w hR F
            have e73 : a.eval (.tmp 73) = .bool true := F.new 11 73 (by kernel_rfl)
            have e76 : a.eval (.tmp 76) = .bool (fitsRow l0 R) := F.new 14 76 (by kernel_rfl)
            have e79 : a.eval (.tmp 79) = .bool (fitsRow l0 R) := F.new 17 79 (by kernel_rfl)
            refine ok_bin _ _ _ _ _ rfl (wanted_true (j := 11) (d := 73) rfl (by kernel_rfl) e73) e76 e79 (run_eql_boolB _ _ _ _ _ Tryd.underlying4) ⟨Rb.refl _, ?_⟩
            exact congrArg Value.bool (by simp)
          refine Owed.cons ?_ ?_
          · -- 19: slot 81 := Op.pick (Operand.tmp 73) (Operand.tmp 80) (Operand.const (Value.bool false))
            intro a w hR F
            have e73 : a.eval (.tmp 73) = .bool true := F.new 11 73 (by kernel_rfl)
            have e80 : a.eval (.tmp 80) = .bool true := F.new 18 80 (by kernel_rfl)
            exact ok_pick _ _ _ true rfl (wanted_none rfl) e73 ⟨Rb.refl _, e80⟩
          refine Owed.cons ?_ ?_
          · -- 20: slot 82 := Op.move (Operand.tmp 81)
            intro a w hR F
            have e81 : a.eval (.tmp 81) = .bool true := F.new 19 81 (by kernel_rfl)
            exact ok_move _ rfl (wanted_none rfl) ⟨Rb.refl _, e81⟩
          refine Owed.cons ?_ ?_
          · -- 21: slot 83 := Op.move (Operand.tmp 8)
            intro a w hR F
            have e82 : a.eval (.tmp 82) = .bool true := F.new 20 82 (by kernel_rfl)
            have e8 : a.eval (.tmp 8) = v1 := F.old 8 (by kernel_rfl)
            exact ok_move _ rfl (wanted_true (j := 20) (d := 82) rfl (by kernel_rfl) e82) ⟨Rb.refl _, e8⟩
          refine Owed.cons ?_ ?_
          · -- 22: slot 84 := Op.move (Operand.tmp 11)
            intro a w hR F
            have e82 : a.eval (.tmp 82) = .bool true := F.new 20 82 (by kernel_rfl)
            have e11 : a.eval (.tmp 11) = v2 := F.old 11 (by kernel_rfl)
            exact ok_move _ rfl (wanted_true (j := 20) (d := 82) rfl (by kernel_rfl) e82) ⟨Rb.refl _, e11⟩
          refine Owed.cons ?_ ?_
          · -- 23: slot 85 := Op.call { callee := Callee.value (Operand.func 19), args := #[Operand.tmp 83, Operand.tmp 84], argTy
            intro a w hR F
            have e82 : a.eval (.tmp 82) = .bool true := F.new 20 82 (by kernel_rfl)
            have e83 : a.eval (.tmp 83) = v1 := F.new 21 83 (by kernel_rfl)
            have e84 : a.eval (.tmp 84) = v2 := F.new 22 84 (by kernel_rfl)
            refine ok_call 19 _ _ #[v1, v2] rfl (wanted_true (j := 20) (d := 82) rfl (by kernel_rfl) e82) (by simp [e83, e84]) (Tryd.call19 _ _) ?_
            exact rb_call (refsame_refl (Row3.rb HV1.out hR) (Row3.rb HV2.out hR))
          refine Owed.cons ?_ ?_
          · -- 24: slot 86 := Op.pick (Operand.tmp 82) (Operand.tmp 85) (Operand.const (Value.bool false))
            intro a w hR F
            have e82 : a.eval (.tmp 82) = .bool true := F.new 20 82 (by kernel_rfl)
            have e85 : a.eval (.tmp 85) = .bool true := F.new 23 85 (by kernel_rfl)
            exact ok_pick _ _ _ true rfl (wanted_none rfl) e82 ⟨Rb.refl _, e85⟩
          refine Owed.cons ?_ ?_
          · -- 25: slot 87 := Op.move (Operand.tmp 86)
            intro a w hR F
            have e86 : a.eval (.tmp 86) = .bool true := F.new 24 86 (by kernel_rfl)
            exact ok_move _ rfl (wanted_none rfl) ⟨Rb.refl _, e86⟩
          refine Owed.cons ?_ ?_
          · -- 26: slot 88 := Op.move (Operand.tmp 9)
            intro a w hR F
            have e87 : a.eval (.tmp 87) = .bool true := F.new 25 87 (by kernel_rfl)
            have e9 : a.eval (.tmp 9) = .int .i64 (q2) := F.old 9 (by kernel_rfl)
            exact ok_move _ rfl (wanted_true (j := 25) (d := 87) rfl (by kernel_rfl) e87) ⟨Rb.refl _, e9⟩
          refine Owed.cons ?_ ?_
          · -- 27: slot 89 := Op.move (Operand.tmp 12)
            intro a w hR F
            have e87 : a.eval (.tmp 87) = .bool true := F.new 25 87 (by kernel_rfl)
            have e12 : a.eval (.tmp 12) = .int .i64 (q2) := F.old 12 (by kernel_rfl)
            exact ok_move _ rfl (wanted_true (j := 25) (d := 87) rfl (by kernel_rfl) e87) ⟨Rb.refl _, e12⟩
          refine Owed.cons ?_ ?_
          · -- 28: slot 90 := Op.binOp BinOp.eql 3 (Operand.tmp 88) (Operand.tmp 89) 3
            intro a w hR F
            have e87 : a.eval (.tmp 87) = .bool true := F.new 25 87 (by kernel_rfl)
            have e88 : a.eval (.tmp 88) = .int .i64 (q2) := F.new 26 88 (by kernel_rfl)
            have e89 : a.eval (.tmp 89) = .int .i64 (q2) := F.new 27 89 (by kernel_rfl)
            refine ok_bin _ _ _ _ _ rfl (wanted_true (j := 25) (d := 87) rfl (by kernel_rfl) e87) e88 e89 (run_eql_int _ _ _ _ _ _) ⟨Rb.refl _, ?_⟩
            exact congrArg Value.bool (by simp)
          refine Owed.cons ?_ ?_
          · -- 29: slot 91 := Op.pick (Operand.tmp 87) (Operand.tmp 90) (Operand.const (Value.bool false))
            intro a w hR F
            have e87 : a.eval (.tmp 87) = .bool true := F.new 25 87 (by kernel_rfl)
            have e90 : a.eval (.tmp 90) = .bool true := F.new 28 90 (by kernel_rfl)
            exact ok_pick _ _ _ true rfl (wanted_none rfl) e87 ⟨Rb.refl _, e90⟩
          refine Owed.cons ?_ ?_
          · -- 30: slot 92 := Op.move (Operand.tmp 91)
            intro a w hR F
            have e91 : a.eval (.tmp 91) = .bool true := F.new 29 91 (by kernel_rfl)
            exact ok_move _ rfl (wanted_none rfl) ⟨Rb.refl _, e91⟩
          refine Owed.cons ?_ ?_
          · -- 31: slot 93 := Op.move (Operand.tmp 10)
            intro a w hR F
            have e92 : a.eval (.tmp 92) = .bool true := F.new 30 92 (by kernel_rfl)
            have e10 : a.eval (.tmp 10) = .bool true := F.old 10 (by kernel_rfl)
            exact ok_move _ rfl (wanted_true (j := 30) (d := 92) rfl (by kernel_rfl) e92) ⟨Rb.refl _, e10⟩
          refine Owed.cons ?_ ?_
          · -- 32: slot 94 := Op.move (Operand.tmp 13)
            intro a w hR F
            have e92 : a.eval (.tmp 92) = .bool true := F.new 30 92 (by kernel_rfl)
            have e13 : a.eval (.tmp 13) = .bool true := F.old 13 (by kernel_rfl)
            exact ok_move _ rfl (wanted_true (j := 30) (d := 92) rfl (by kernel_rfl) e92) ⟨Rb.refl _, e13⟩
          refine Owed.cons ?_ ?_
          · -- 33: slot 95 := Op.binOp BinOp.eql 4 (Operand.tmp 93) (Operand.tmp 94) 4
            intro a w hR F
            have e92 : a.eval (.tmp 92) = .bool true := F.new 30 92 (by kernel_rfl)
            have e93 : a.eval (.tmp 93) = .bool true := F.new 31 93 (by kernel_rfl)
            have e94 : a.eval (.tmp 94) = .bool true := F.new 32 94 (by kernel_rfl)
            refine ok_bin _ _ _ _ _ rfl (wanted_true (j := 30) (d := 92) rfl (by kernel_rfl) e92) e93 e94 (run_eql_boolB _ _ _ _ _ Tryd.underlying4) ⟨Rb.refl _, ?_⟩
            exact congrArg Value.bool (by simp)
          refine Owed.cons ?_ ?_
          · -- 34: slot 96 := Op.pick (Operand.tmp 92) (Operand.tmp 95) (Operand.const (Value.bool false))
            intro a w hR F
            have e92 : a.eval (.tmp 92) = .bool true := F.new 30 92 (by kernel_rfl)
            have e95 : a.eval (.tmp 95) = .bool true := F.new 33 95 (by kernel_rfl)
            exact ok_pick _ _ _ true rfl (wanted_none rfl) e92 ⟨Rb.refl _, e95⟩
          refine Owed.cons ?_ ?_
          · -- 35: slot 97 := Op.move (Operand.tmp 96)
            intro a w hR F
            have e96 : a.eval (.tmp 96) = .bool true := F.new 34 96 (by kernel_rfl)
            exact ok_move _ rfl (wanted_none rfl) ⟨Rb.refl _, e96⟩
          refine Owed.cons ?_ ?_
          · -- 36: slot 98 := Op.move (Operand.tmp 16)
            intro a w hR F
            have e97 : a.eval (.tmp 97) = .bool true := F.new 35 97 (by kernel_rfl)
            have e16 : a.eval (.tmp 16) = .bool false := F.old 16 (by kernel_rfl)
            exact ok_move _ rfl (wanted_true (j := 35) (d := 97) rfl (by kernel_rfl) e97) ⟨Rb.refl _, e16⟩
          refine Owed.cons ?_ ?_
          · -- 37: slot 99 := Op.unOp UnOp.not 4 (Operand.tmp 98)
            intro a w hR F
            have e97 : a.eval (.tmp 97) = .bool true := F.new 35 97 (by kernel_rfl)
            have e98 : a.eval (.tmp 98) = .bool false := F.new 36 98 (by kernel_rfl)
            exact ok_not _ _ false rfl (wanted_true (j := 35) (d := 97) rfl (by kernel_rfl) e97) e98 ⟨Rb.refl _, rfl⟩
          refine Owed.cons ?_ ?_
          · -- 38: slot 100 := Op.pick (Operand.tmp 97) (Operand.tmp 99) (Operand.const (Value.bool false))
            intro a w hR F
            have e97 : a.eval (.tmp 97) = .bool true := F.new 35 97 (by kernel_rfl)
            have e99 : a.eval (.tmp 99) = .bool true := F.new 37 99 (by kernel_rfl)
            exact ok_pick _ _ _ true rfl (wanted_none rfl) e97 ⟨Rb.refl _, e99⟩
          refine Owed.cons ?_ ?_
          · -- 39: slot 101 := Op.move (Operand.tmp 100)
            intro a w hR F
            have e100 : a.eval (.tmp 100) = .bool true := F.new 38 100 (by kernel_rfl)
            exact ok_move _ rfl (wanted_none rfl) ⟨Rb.refl _, e100⟩
          refine Owed.cons ?_ ?_
          · -- 40: slot 102 := Op.call { callee := Callee.value (Operand.func 9), args := #[], argTypes := #[] }
            intro a w hR F
            have e101 : a.eval (.tmp 101) = .bool true := F.new 39 101 (by kernel_rfl)
            refine ok_call 9 _ _ #[] rfl (wanted_true (j := 39) (d := 101) rfl (by kernel_rfl) e101) (by simp) (Tryd.call9 _ _) ?_
            exact rb_call (lives_any w (HT.out.rb hR))
          refine Owed.cons ?_ ?_
          · -- 41: slot 103 := Op.pick (Operand.tmp 101) (Operand.tmp 102) (Operand.const (Value.bool false))
            intro a w hR F
            have e101 : a.eval (.tmp 101) = .bool true := F.new 39 101 (by kernel_rfl)
            have e102 : a.eval (.tmp 102) = .bool true := F.new 40 102 (by kernel_rfl)
            exact ok_pick _ _ _ true rfl (wanted_none rfl) e101 ⟨Rb.refl _, e102⟩
          refine Owed.cons ?_ ?_
          · -- 42: slot 6 := Op.assign (Operand.tmp 103)
            intro a w hR F
            have e103 : a.eval (.tmp 103) = .bool true := F.new 41 103 (by kernel_rfl)
            exact ok_assign _ rfl (wanted_none rfl) ⟨Rb.refl _, e103⟩
          exact Owed.nil
        case fin =>
          intro y w9 hR hy
          have e42 : y 42 = .bool true := hy 42 _ rfl
          have HRR := Lib.hid (Rb.trans _ _ _ HB.out hR)
          clear hy hR
          simp only [putAll, Act.put, List.setIfInBounds_toArray, List.set_cons_zero, List.set_cons_succ]
          rw [e42]
          clear e42
          go_wp2
          go_ret
          exact ⟨rfl, HRR.out⟩
end Go.Proofs.YtolfeellcdoopaaDoor.L6
