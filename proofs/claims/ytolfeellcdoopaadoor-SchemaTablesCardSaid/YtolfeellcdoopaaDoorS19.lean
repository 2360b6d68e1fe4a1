/-
  Layer 6: the walk of SchemaTables.
-/
import Derived.Test.YtolfeellcdoopaaDoorS18
namespace Go.Proofs.YtolfeellcdoopaaDoor.L6
open Go.ChangeShapes Go.WideShapes Go.ChangeAt Go.RowKit Oct By Reg Val
set_option linter.unusedVariables false
set_option linter.unusedSimpArgs false

set_option maxRecDepth 100000 in
set_option maxHeartbeats 8000000 in
theorem tables_walk (nm0 : ByteArray) (r0 : Int) (c0 : Value) (l0 : List ColD) (nm1 : ByteArray) (r1 : Int) (c1 : Value) (l1 : List ColD) (s : ByteArray) (w0 : World) (hc0 : Cols w0 c0 l0) (hk0 : TabOk ⟨nm0, r0, c0, l0⟩) (hc1 : Cols w0 c1 l1) (hk1 : TabOk ⟨nm1, r1, c1, l1⟩) (hs : s.size ≤ maxLen) (htab : Tab w0) :
    Calls Tryd.prog 4 #[.agg #[.string nm0, .int .i64 r0, c0], .agg #[.string nm1, .int .i64 r1, c1], .string s] w0 fun e w' => e = .returned (.bool true) ∧ Below w0.heap.size w0 w' := by
  obtain ⟨a0, p0, rfl, _, _⟩ := Row3.form hc0
  obtain ⟨a1, p1, rfl, _, _⟩ := Row3.form hc1
  have HT0 := Lib.hid htab
  obtain ⟨w1, hw1⟩ : ∃ w1, w1 = (w0.alloc (.cells #[.string nm0, .int .i64 r0, .slice a0 l0.length p0] 25)).alloc (.cells #[.string nm1, .int .i64 r1, .slice a1 l1.length p1] 25) := ⟨_, rfl⟩
  have hr1 : Rb w0 w1 := by rw [hw1]; exact ((Below.refl _ w0).alloc (Nat.le_refl _) _).alloc (by simp) _
  have H0a : HeldTab w1 w0.heap.size nm0 r0 a0 l0.length p0 := by rw [hw1]; refine ⟨?_, ?_, ?_⟩ <;> simp
  have H1a : HeldTab w1 (w0.heap.size + 1) nm1 r1 a1 l1.length p1 := by rw [hw1]; refine ⟨?_, ?_, ?_⟩ <;> simp
  have HB1 := Lib.hid hr1
  have HC0a := Lib.hid hc0
  have HC1a := Lib.hid hc1
  have HK0 := Lib.hid hk0
  have HK1 := Lib.hid hk1
  have H0b := Lib.hid H0a
  have H1b := Lib.hid H1a
  have HLT0 := Lib.hid (fun w (hw : Rb w0 w) => light_any ⟨nm0, r0, .slice a0 l0.length p0, l0⟩ w (Row3.rb hc0 hw) hk0)
  have HLT1 := Lib.hid (fun w (hw : Rb w0 w) => light_any ⟨nm1, r1, .slice a1 l1.length p1, l1⟩ w (Row3.rb hc1 hw) hk1)
  have HW1 := Lib.hid hw1
  unfold maxLen at hs
  clear htab hw1 hr1 H0a H1a hc0 hc1 hk0 hk1
  go_enter Tryd.func4, Tryd.ntmps4
  go_wp2_with fail
  rw [← HW1.out]
  refine (HLT0.out _ HB1.out).mono ?_
  rintro e w2 ⟨rfl, hb2⟩
  obtain ⟨y0, y1, y2⟩ := H0b.out.rb hb2
  obtain ⟨z0, z1, z2⟩ := H1b.out.rb hb2
  have HB2 := Lib.hid (Rb.trans _ _ _ HB1.out hb2)
  have H0c := Lib.hid (H0b.out.rb hb2)
  have H1c := Lib.hid (H1b.out.rb hb2)
  clear hb2
  cases hl0 : lightB ⟨nm0, r0, .slice a0 l0.length p0, l0⟩ with
  | false =>
    clear hl0
    go_wp2_with fail
    refine (lives_any _ (HT0.out.rb HB2.out)).mono ?_
    rintro e wl ⟨rfl, hbl⟩
    have HBL := Lib.hid (Rb.trans _ _ _ HB2.out hbl)
    clear hbl
    go_wp2
    go_ret
    exact ⟨rfl, HBL.out⟩
  | true =>
    have HL0 := Lib.hid (light_of hl0)
    clear hl0
    go_wp2_with fail
    refine (HLT1.out _ HB2.out).mono ?_
    rintro e w3 ⟨rfl, hb3⟩
    have HB3 := Lib.hid (Rb.trans _ _ _ HB2.out hb3)
    have H0d := Lib.hid (H0c.out.rb hb3)
    have H1d := Lib.hid (H1c.out.rb hb3)
    clear hb3 y0 y1 y2 z0 z1 z2
    cases hl1 : lightB ⟨nm1, r1, .slice a1 l1.length p1, l1⟩ with
    | false =>
      clear hl1
      go_wp2_with fail
      refine (lives_any _ (HT0.out.rb HB3.out)).mono ?_
      rintro e wl ⟨rfl, hbl⟩
      have HBL := Lib.hid (Rb.trans _ _ _ HB3.out hbl)
      clear hbl
      go_wp2
      go_ret
      exact ⟨rfl, HBL.out⟩
    | true =>
      clear hl1
      by_cases h40 : 40 < s.size
      · have h40' : (40 : Int) < s.size := by omega
        go_wp2_with fail
        refine (lives_any _ (HT0.out.rb HB3.out)).mono ?_
        rintro e wl ⟨rfl, hbl⟩
        have HBL := Lib.hid (Rb.trans _ _ _ HB3.out hbl)
        clear hbl
        go_wp2
        go_ret
        exact ⟨rfl, HBL.out⟩
      · have h40' : ¬ (40 : Int) < s.size := by omega
        obtain ⟨y0, y1, y2⟩ := H0d.out
        obtain ⟨z0, z1, z2⟩ := H1d.out
        go_wp2_with fail
        refine (col_any nm0 r0 _ l0 s _ (Row3.rb HC0a.out HB3.out)).mono ?_
        rintro e w4 ⟨rfl, hb4⟩
        have HB := Lib.hid (Rb.trans _ _ _ HB3.out hb4)
        have H0 := Lib.hid (H0d.out.rb hb4)
        have H1 := Lib.hid (H1d.out.rb hb4)
        have HC0 := Lib.hid (Row3.rb HC0a.out HB.out)
        have HC1 := Lib.hid (Row3.rb HC1a.out HB.out)
        have HT := Lib.hid (HT0.out.rb HB.out)
        have HMX := Lib.hid (max_idx s (namesC l0))
        have HGE := Lib.hid (ge_idx s (namesC l0))
        have HCOL : Hid (∀ w, Rb w4 w → Calls Tryd.prog 22 #[.agg #[.string nm0, .int .i64 r0, .slice a0 l0.length p0], .string s] w fun e w' => e = .returned (.int .i64 (idxI s (namesC l0))) ∧ Rb w w') := fun w hR => rfindC_any nm0 r0 _ l0 s w (Row3.rb HC0.out hR)
        generalize idxI s (namesC l0) = qi at *
        generalize idxN s (namesC l0) = qn at *
        generalize dup s (namesC l0) = qd at *
        clear hb4 y0 y1 y2 z0 z1 z2 h40 h40'
        generalize w0.heap.size = TB at H0 H1 ⊢
        go_upto_region 4 with (fail)
        refine wp_region_specs (R := Rb) (S := [Spec.eq (.agg #[.string nm0, .int .i64 r0, .slice a0 l0.length p0]), Spec.eq (.string (str (printB nm0 r0 l0))), Spec.eq (.agg #[.string nm0, .int .i64 r0, .slice a0 l0.length p0]), Spec.eq (.string (str (printB nm0 r0 l0))), Spec.eq (.bool true), Spec.eq (.bool true), Spec.eq (.agg #[.string nm0, .int .i64 r0, .slice a0 l0.length p0]), rowSpec (l0.map zeroV), Spec.eq (.agg #[.string nm0, .int .i64 r0, .slice a0 l0.length p0]), rowSpec (l0.map zeroV), Spec.eq (.bool true), Spec.eq (.bool true), Spec.eq (.bool true), Spec.eq (.int .i64 (qn)), Spec.eq (.agg #[.string nm0, .int .i64 r0, .slice a0 l0.length p0]), Spec.eq (.string (s)), Spec.eq (.int .i64 (qi)), Spec.eq (.int .i64 (max qi 0)), Spec.eq (.bool true), Spec.eq (.bool true), Spec.eq (.bool true), Spec.eq (.bool qd), Spec.eq (.agg #[.string nm0, .int .i64 r0, .slice a0 l0.length p0]), Spec.eq (.string (s)), Spec.eq (.int .i64 (qi)), Spec.eq (.bool (decide (qi ≥ 0))), Spec.eq (.bool true), Spec.eq (.bool true), Spec.eq (.bool true), Spec.eq (.agg #[.string nm0, .int .i64 r0, .slice a0 l0.length p0]), Spec.eq (.agg #[.string nm1, .int .i64 r1, .slice a1 l1.length p1]), Spec.eq (.bool (sameTab ⟨nm0, r0, .slice a0 l0.length p0, l0⟩ ⟨nm1, r1, .slice a1 l1.length p1, l1⟩)), Spec.eq (.agg #[.string nm0, .int .i64 r0, .slice a0 l0.length p0]), Spec.eq (.agg #[.string nm1, .int .i64 r1, .slice a1 l1.length p1]), Spec.eq (.bool (sameTab ⟨nm0, r0, .slice a0 l0.length p0, l0⟩ ⟨nm1, r1, .slice a1 l1.length p1, l1⟩)), Spec.eq (.bool true), Spec.eq (.bool true), Spec.eq (.bool true), Spec.eq (.agg #[.string nm0, .int .i64 r0, .slice a0 l0.length p0]), Spec.eq (.agg #[.string nm0, .int .i64 r0, .slice a0 l0.length p0]), Spec.eq (.bool true), Spec.eq (.bool true), Spec.eq (.bool true), Spec.eq (.bool true), Spec.eq (.bool true), Spec.eq (.bool true)]) (n := 1) (size := 74) (by kernel_rfl) Rb.trans (Rb.drew _) rfl (by kernel_rfl) ?owed ?fin
        case owed =>
          refine Owed.cons ?_ ?_
          · -- 0: slot 29 := Op.load 25 (Operand.tmp 3)
            intro a w hR F
            have e3 : a.eval (.tmp 3) = .pointer (some ⟨TB, 0, none⟩) := F.old 3 (by kernel_rfl)
            exact ok_load _ _ rfl (wanted_none rfl) e3 (H0.out.rb hR).load ⟨Rb.refl _, rfl⟩
          refine Owed.cons ?_ ?_
          · -- 1: slot 30 := Op.call { callee := Callee.value (Operand.func 17), args := #[Operand.tmp 29], argTypes := #[25] }
            intro a w hR F
            have e29 : a.eval (.tmp 29) = .agg #[.string nm0, .int .i64 r0, .slice a0 l0.length p0] := F.new 0 29 (by kernel_rfl)
            refine ok_call 17 _ _ #[.agg #[.string nm0, .int .i64 r0, .slice a0 l0.length p0]] rfl (wanted_none rfl) (by simp [e29]) (Tryd.call17 _ _) ?_
            exact rb_call (print_any nm0 r0 _ l0 w (Row3.rb HC0.out hR) (HT.out.rb hR) HK0.out.r0 HK0.out.r1 HL0.out.1 HL0.out.2.1 HL0.out.2.2)
          refine Owed.cons ?_ ?_
          · -- 2: slot 31 := Op.load 25 (Operand.tmp 3)
            intro a w hR F
            have e3 : a.eval (.tmp 3) = .pointer (some ⟨TB, 0, none⟩) := F.old 3 (by kernel_rfl)
            exact ok_load _ _ rfl (wanted_none rfl) e3 (H0.out.rb hR).load ⟨Rb.refl _, rfl⟩
          refine Owed.cons ?_ ?_
          · -- 3: slot 32 := Op.call { callee := Callee.value (Operand.func 18), args := #[Operand.tmp 31], argTypes := #[25] }
            intro a w hR F
            have e31 : a.eval (.tmp 31) = .agg #[.string nm0, .int .i64 r0, .slice a0 l0.length p0] := F.new 2 31 (by kernel_rfl)
            refine ok_call 18 _ _ #[.agg #[.string nm0, .int .i64 r0, .slice a0 l0.length p0]] rfl (wanted_none rfl) (by simp [e31]) (Tryd.call18 _ _) ?_
            exact rb_call (refprint_any nm0 r0 _ l0 w (Row3.rb HC0.out hR) HK0.out.r0 HK0.out.r1 HL0.out.1 HL0.out.2.1 HL0.out.2.2)
          refine Owed.cons ?_ ?_
          · -- 4: slot 33 := Op.binOp BinOp.eql 9 (Operand.tmp 30) (Operand.tmp 32) 9
            intro a w hR F
            have e30 : a.eval (.tmp 30) = .string (str (printB nm0 r0 l0)) := F.new 1 30 (by kernel_rfl)
            have e32 : a.eval (.tmp 32) = .string (str (printB nm0 r0 l0)) := F.new 3 32 (by kernel_rfl)
            refine ok_bin _ _ _ _ _ rfl (wanted_none rfl) e30 e32 (run_eql_S _ _ _ _ _) ⟨Rb.refl _, ?_⟩
            exact congrArg Value.bool (by simp)
          refine Owed.cons ?_ ?_
          · -- 5: slot 34 := Op.move (Operand.tmp 33)
            intro a w hR F
            have e33 : a.eval (.tmp 33) = .bool true := F.new 4 33 (by kernel_rfl)
            exact ok_move _ rfl (wanted_none rfl) ⟨Rb.refl _, e33⟩
          refine Owed.cons ?_ ?_
          · -- 6: slot 35 := Op.load 25 (Operand.tmp 3)
            intro a w hR F
            have e34 : a.eval (.tmp 34) = .bool true := F.new 5 34 (by kernel_rfl)
            have e3 : a.eval (.tmp 3) = .pointer (some ⟨TB, 0, none⟩) := F.old 3 (by kernel_rfl)
            exact ok_load _ _ rfl (wanted_true (j := 5) (d := 34) rfl (by kernel_rfl) e34) e3 (H0.out.rb hR).load ⟨Rb.refl _, rfl⟩
          refine Owed.cons ?_ ?_
          · -- 7: slot 36 := Op.call { callee := Callee.value (Operand.func 20), args := #[Operand.tmp 35], argTypes := #[25] }
            intro a w hR F
            have e34 : a.eval (.tmp 34) = .bool true := F.new 5 34 (by kernel_rfl)
            have e35 : a.eval (.tmp 35) = .agg #[.string nm0, .int .i64 r0, .slice a0 l0.length p0] := F.new 6 35 (by kernel_rfl)
            refine ok_call 20 _ _ #[.agg #[.string nm0, .int .i64 r0, .slice a0 l0.length p0]] rfl (wanted_true (j := 5) (d := 34) rfl (by kernel_rfl) e34) (by simp [e35]) (Tryd.call20 _ _) ?_
            exact row_call (zero_row nm0 r0 _ l0 w (Row3.rb HC0.out hR) (by have := HL0.out.2.1; omega))
          refine Owed.cons ?_ ?_
          · -- 8: slot 37 := Op.load 25 (Operand.tmp 3)
            intro a w hR F
            have e34 : a.eval (.tmp 34) = .bool true := F.new 5 34 (by kernel_rfl)
            have e3 : a.eval (.tmp 3) = .pointer (some ⟨TB, 0, none⟩) := F.old 3 (by kernel_rfl)
            exact ok_load _ _ rfl (wanted_true (j := 5) (d := 34) rfl (by kernel_rfl) e34) e3 (H0.out.rb hR).load ⟨Rb.refl _, rfl⟩
          refine Owed.cons ?_ ?_
          · -- 9: slot 38 := Op.call { callee := Callee.value (Operand.func 21), args := #[Operand.tmp 37], argTypes := #[25] }
            intro a w hR F
            have e34 : a.eval (.tmp 34) = .bool true := F.new 5 34 (by kernel_rfl)
            have e37 : a.eval (.tmp 37) = .agg #[.string nm0, .int .i64 r0, .slice a0 l0.length p0] := F.new 8 37 (by kernel_rfl)
            refine ok_call 21 _ _ #[.agg #[.string nm0, .int .i64 r0, .slice a0 l0.length p0]] rfl (wanted_true (j := 5) (d := 34) rfl (by kernel_rfl) e34) (by simp [e37]) (Tryd.call21 _ _) ?_
            exact row_call (refzero_row nm0 r0 _ l0 w (Row3.rb HC0.out hR) (by have := HL0.out.2.1; omega))
          refine Owed.cons ?_ ?_
          · -- 10: slot 39 := Op.call { callee := Callee.value (Operand.func 19), args := #[Operand.tmp 36, Operand.tmp 38], argTy
            intro a w hR F
            have e34 : a.eval (.tmp 34) = .bool true := F.new 5 34 (by kernel_rfl)
            have e36 : Vals w (a.eval (.tmp 36)) (l0.map zeroV) := F.new 7 36 (by kernel_rfl)
            have e38 : Vals w (a.eval (.tmp 38)) (l0.map zeroV) := F.new 9 38 (by kernel_rfl)
            refine ok_call 19 _ _ #[a.eval (.tmp 36), a.eval (.tmp 38)] rfl (wanted_true (j := 5) (d := 34) rfl (by kernel_rfl) e34) (by simp) (Tryd.call19 _ _) ?_
            exact rb_call (refsame_refl e36 e38)
          refine Owed.cons ?_ ?_
          · -- 11: slot 40 := Op.pick (Operand.tmp 34) (Operand.tmp 39) (Operand.const (Value.bool false))
            intro a w hR F
            have e34 : a.eval (.tmp 34) = .bool true := F.new 5 34 (by kernel_rfl)
            have e39 : a.eval (.tmp 39) = .bool true := F.new 10 39 (by kernel_rfl)
            exact ok_pick _ _ _ true rfl (wanted_none rfl) e34 ⟨Rb.refl _, e39⟩
          refine Owed.cons ?_ ?_
          · -- 12: slot 41 := Op.move (Operand.tmp 40)
            intro a w hR F
            have e40 : a.eval (.tmp 40) = .bool true := F.new 11 40 (by kernel_rfl)
            exact ok_move _ rfl (wanted_none rfl) ⟨Rb.refl _, e40⟩
          refine Owed.cons ?_ ?_
          · -- 13: slot 42 := Op.move (Operand.tmp 7)
            intro a w hR F
            have e41 : a.eval (.tmp 41) = .bool true := F.new 12 41 (by kernel_rfl)
            have e7 : a.eval (.tmp 7) = .int .i64 (qn) := F.old 7 (by kernel_rfl)
            exact ok_move _ rfl (wanted_true (j := 12) (d := 41) rfl (by kernel_rfl) e41) ⟨Rb.refl _, e7⟩
          refine Owed.cons ?_ ?_
          · -- 14: slot 43 := Op.load 25 (Operand.tmp 3)
            intro a w hR F
            have e41 : a.eval (.tmp 41) = .bool true := F.new 12 41 (by kernel_rfl)
            have e3 : a.eval (.tmp 3) = .pointer (some ⟨TB, 0, none⟩) := F.old 3 (by kernel_rfl)
            exact ok_load _ _ rfl (wanted_true (j := 12) (d := 41) rfl (by kernel_rfl) e41) e3 (H0.out.rb hR).load ⟨Rb.refl _, rfl⟩
          refine Owed.cons ?_ ?_
          · -- 15: slot 44 := Op.move (Operand.tmp 2)
            intro a w hR F
            have e41 : a.eval (.tmp 41) = .bool true := F.new 12 41 (by kernel_rfl)
            have e2 : a.eval (.tmp 2) = .string (s) := F.old 2 (by kernel_rfl)
            exact ok_move _ rfl (wanted_true (j := 12) (d := 41) rfl (by kernel_rfl) e41) ⟨Rb.refl _, e2⟩
          refine Owed.cons ?_ ?_
          · -- 16: slot 45 := Op.call { callee := Callee.value (Operand.func 22), args := #[Operand.tmp 43, Operand.tmp 44], argTy
            intro a w hR F
            have e41 : a.eval (.tmp 41) = .bool true := F.new 12 41 (by kernel_rfl)
            have e43 : a.eval (.tmp 43) = .agg #[.string nm0, .int .i64 r0, .slice a0 l0.length p0] := F.new 14 43 (by kernel_rfl)
            have e44 : a.eval (.tmp 44) = .string (s) := F.new 15 44 (by kernel_rfl)
            refine ok_call 22 _ _ #[.agg #[.string nm0, .int .i64 r0, .slice a0 l0.length p0], .string (s)] rfl (wanted_true (j := 12) (d := 41) rfl (by kernel_rfl) e41) (by simp [e43, e44]) (Tryd.call22 _ _) ?_
            exact rb_call (HCOL.out w hR)
          refine Owed.cons ?_ ?_
          · -- 17: slot 46 := Op.call { callee := Callee.builtin Builtin.max, args := #[Operand.tmp 45, Operand.const (Value.int I
            intro a w hR F
            have e41 : a.eval (.tmp 41) = .bool true := F.new 12 41 (by kernel_rfl)
            have e45 : a.eval (.tmp 45) = .int .i64 (qi) := F.new 16 45 (by kernel_rfl)
            exact ok_max _ _ _ _ rfl (wanted_true (j := 12) (d := 41) rfl (by kernel_rfl) e41) e45 rfl ⟨Rb.refl _, rfl⟩
          refine Owed.cons ?_ ?_
          · -- 18: slot 47 := Op.binOp BinOp.eql 3 (Operand.tmp 42) (Operand.tmp 46) 3
            intro a w hR F
            have e41 : a.eval (.tmp 41) = .bool true := F.new 12 41 (by kernel_rfl)
            have e42 : a.eval (.tmp 42) = .int .i64 (qn) := F.new 13 42 (by kernel_rfl)
            have e46 : a.eval (.tmp 46) = .int .i64 (max qi 0) := F.new 17 46 (by kernel_rfl)
            refine ok_bin _ _ _ _ _ rfl (wanted_true (j := 12) (d := 41) rfl (by kernel_rfl) e41) e42 e46 (run_eql_int _ _ _ _ _ _) ⟨Rb.refl _, ?_⟩
            exact congrArg Value.bool (by rw [HMX.out]; simp)
          refine Owed.cons ?_ ?_
          · -- 19: slot 48 := Op.pick (Operand.tmp 41) (Operand.tmp 47) (Operand.const (Value.bool false))
            intro a w hR F
            have e41 : a.eval (.tmp 41) = .bool true := F.new 12 41 (by kernel_rfl)
            have e47 : a.eval (.tmp 47) = .bool true := F.new 18 47 (by kernel_rfl)
            exact ok_pick _ _ _ true rfl (wanted_none rfl) e41 ⟨Rb.refl _, e47⟩
          refine Owed.cons ?_ ?_
          · -- 20: slot 49 := Op.move (Operand.tmp 48)
            intro a w hR F
            have e48 : a.eval (.tmp 48) = .bool true := F.new 19 48 (by kernel_rfl)
            exact ok_move _ rfl (wanted_none rfl) ⟨Rb.refl _, e48⟩
          refine Owed.cons ?_ ?_
          · -- 21: slot 50 := Op.move (Operand.tmp 8)
            intro a w hR F
            have e49 : a.eval (.tmp 49) = .bool true := F.new 20 49 (by kernel_rfl)
            have e8 : a.eval (.tmp 8) = .bool qd := F.old 8 (by kernel_rfl)
            exact ok_move _ rfl (wanted_true (j := 20) (d := 49) rfl (by kernel_rfl) e49) ⟨Rb.refl _, e8⟩
          refine Owed.cons ?_ ?_
          · -- 22: slot 51 := Op.load 25 (Operand.tmp 3)
            intro a w hR F
            have e49 : a.eval (.tmp 49) = .bool true := F.new 20 49 (by kernel_rfl)
            have e3 : a.eval (.tmp 3) = .pointer (some ⟨TB, 0, none⟩) := F.old 3 (by kernel_rfl)
            exact ok_load _ _ rfl (wanted_true (j := 20) (d := 49) rfl (by kernel_rfl) e49) e3 (H0.out.rb hR).load ⟨Rb.refl _, rfl⟩
          refine Owed.cons ?_ ?_
          · -- 23: slot 52 := Op.move (Operand.tmp 2)
            intro a w hR F
            have e49 : a.eval (.tmp 49) = .bool true := F.new 20 49 (by kernel_rfl)
            have e2 : a.eval (.tmp 2) = .string (s) := F.old 2 (by kernel_rfl)
            exact ok_move _ rfl (wanted_true (j := 20) (d := 49) rfl (by kernel_rfl) e49) ⟨Rb.refl _, e2⟩
          refine Owed.cons ?_ ?_
          · -- 24: slot 53 := Op.call { callee := Callee.value (Operand.func 22), args := #[Operand.tmp 51, Operand.tmp 52], argTy
            intro a w hR F
            have e49 : a.eval (.tmp 49) = .bool true := F.new 20 49 (by kernel_rfl)
            have e51 : a.eval (.tmp 51) = .agg #[.string nm0, .int .i64 r0, .slice a0 l0.length p0] := F.new 22 51 (by kernel_rfl)
            have e52 : a.eval (.tmp 52) = .string (s) := F.new 23 52 (by kernel_rfl)
            refine ok_call 22 _ _ #[.agg #[.string nm0, .int .i64 r0, .slice a0 l0.length p0], .string (s)] rfl (wanted_true (j := 20) (d := 49) rfl (by kernel_rfl) e49) (by simp [e51, e52]) (Tryd.call22 _ _) ?_
            exact rb_call (HCOL.out w hR)
          refine Owed.cons ?_ ?_
          · -- 25: slot 54 := Op.binOp BinOp.geq 3 (Operand.tmp 53) (Operand.const (Value.int IntKind.i64 0)) 3
            intro a w hR F
            have e49 : a.eval (.tmp 49) = .bool true := F.new 20 49 (by kernel_rfl)
            have e53 : a.eval (.tmp 53) = .int .i64 (qi) := F.new 24 53 (by kernel_rfl)
            exact ok_bin _ _ _ _ _ rfl (wanted_true (j := 20) (d := 49) rfl (by kernel_rfl) e49) e53 rfl (run_geq_int _ _ _ _ _ _) ⟨Rb.refl _, rfl⟩
          refine Owed.cons ?_ ?_
          · -- 26: slot 55 := Op.binOp BinOp.eql 4 (Operand.tmp 50) (Operand.tmp 54) 4
            intro a w hR F
            have e49 : a.eval (.tmp 49) = .bool true := F.new 20 49 (by kernel_rfl)
            have e50 : a.eval (.tmp 50) = .bool qd := F.new 21 50 (by kernel_rfl)
            have e54 : a.eval (.tmp 54) = .bool (decide (qi ≥ 0)) := F.new 25 54 (by kernel_rfl)
            refine ok_bin _ _ _ _ _ rfl (wanted_true (j := 20) (d := 49) rfl (by kernel_rfl) e49) e50 e54 (run_eql_boolB _ _ _ _ _ Tryd.underlying4) ⟨Rb.refl _, ?_⟩
            exact congrArg Value.bool (by rw [HGE.out]; simp)
          refine Owed.cons ?_ ?_
          · -- 27: slot 56 := Op.pick (Operand.tmp 49) (Operand.tmp 55) (Operand.const (Value.bool false))
            intro a w hR F
            have e49 : a.eval (.tmp 49) = .bool true := F.new 20 49 (by kernel_rfl)
            have e55 : a.eval (.tmp 55) = .bool true := F.new 26 55 (by kernel_rfl)
            exact ok_pick _ _ _ true rfl (wanted_none rfl) e49 ⟨Rb.refl _, e55⟩
          refine Owed.cons ?_ ?_
          · -- 28: slot 57 := Op.move (Operand.tmp 56)
            intro a w hR F
            have e56 : a.eval (.tmp 56) = .bool true := F.new 27 56 (by kernel_rfl)
            exact ok_move _ rfl (wanted_none rfl) ⟨Rb.refl _, e56⟩
          refine Owed.cons ?_ ?_
          · -- 29: slot 58 := Op.load 25 (Operand.tmp 3)
            intro a w hR F
            have e57 : a.eval (.tmp 57) = .bool true := F.new 28 57 (by kernel_rfl)
            have e3 : a.eval (.tmp 3) = .pointer (some ⟨TB, 0, none⟩) := F.old 3 (by kernel_rfl)
            exact ok_load _ _ rfl (wanted_true (j := 28) (d := 57) rfl (by kernel_rfl) e57) e3 (H0.out.rb hR).load ⟨Rb.refl _, rfl⟩
          refine Owed.cons ?_ ?_
          · -- 30: slot 59 := Op.load 25 (Operand.tmp 4)
            intro a w hR F
            have e57 : a.eval (.tmp 57) = .bool true := F.new 28 57 (by kernel_rfl)
            have e4 : a.eval (.tmp 4) = .pointer (some ⟨TB + 1, 0, none⟩) := F.old 4 (by kernel_rfl)
            exact ok_load _ _ rfl (wanted_true (j := 28) (d := 57) rfl (by kernel_rfl) e57) e4 (H1.out.rb hR).load ⟨Rb.refl _, rfl⟩
          refine Owed.cons ?_ ?_
          · -- 31: slot 60 := Op.call { callee := Callee.value (Operand.func 23), args := #[Operand.tmp 58, Operand.tmp 59], argTy
            intro a w hR F
            have e57 : a.eval (.tmp 57) = .bool true := F.new 28 57 (by kernel_rfl)
            have e58 : a.eval (.tmp 58) = .agg #[.string nm0, .int .i64 r0, .slice a0 l0.length p0] := F.new 29 58 (by kernel_rfl)
            have e59 : a.eval (.tmp 59) = .agg #[.string nm1, .int .i64 r1, .slice a1 l1.length p1] := F.new 30 59 (by kernel_rfl)
            refine ok_call 23 _ _ #[.agg #[.string nm0, .int .i64 r0, .slice a0 l0.length p0], .agg #[.string nm1, .int .i64 r1, .slice a1 l1.length p1]] rfl (wanted_true (j := 28) (d := 57) rfl (by kernel_rfl) e57) (by simp [e58, e59]) (Tryd.call23 _ _) ?_
            exact rb_call (sametab_any ⟨nm0, r0, .slice a0 l0.length p0, l0⟩ ⟨nm1, r1, .slice a1 l1.length p1, l1⟩ w (Row3.rb HC0.out hR) (Row3.rb HC1.out hR))
          refine Owed.cons ?_ ?_
          · -- 32: slot 61 := Op.load 25 (Operand.tmp 3)
            intro a w hR F
            have e57 : a.eval (.tmp 57) = .bool true := F.new 28 57 (by kernel_rfl)
            have e3 : a.eval (.tmp 3) = .pointer (some ⟨TB, 0, none⟩) := F.old 3 (by kernel_rfl)
            exact ok_load _ _ rfl (wanted_true (j := 28) (d := 57) rfl (by kernel_rfl) e57) e3 (H0.out.rb hR).load ⟨Rb.refl _, rfl⟩
          refine Owed.cons ?_ ?_
          · -- 33: slot 62 := Op.load 25 (Operand.tmp 4)
            intro a w hR F
            have e57 : a.eval (.tmp 57) = .bool true := F.new 28 57 (by kernel_rfl)
            have e4 : a.eval (.tmp 4) = .pointer (some ⟨TB + 1, 0, none⟩) := F.old 4 (by kernel_rfl)
            exact ok_load _ _ rfl (wanted_true (j := 28) (d := 57) rfl (by kernel_rfl) e57) e4 (H1.out.rb hR).load ⟨Rb.refl _, rfl⟩
          refine Owed.cons ?_ ?_
          · -- 34: slot 63 := Op.call { callee := Callee.value (Operand.func 24), args := #[Operand.tmp 61, Operand.tmp 62], argTy
            intro a w hR F
            have e57 : a.eval (.tmp 57) = .bool true := F.new 28 57 (by kernel_rfl)
            have e61 : a.eval (.tmp 61) = .agg #[.string nm0, .int .i64 r0, .slice a0 l0.length p0] := F.new 32 61 (by kernel_rfl)
            have e62 : a.eval (.tmp 62) = .agg #[.string nm1, .int .i64 r1, .slice a1 l1.length p1] := F.new 33 62 (by kernel_rfl)
            refine ok_call 24 _ _ #[.agg #[.string nm0, .int .i64 r0, .slice a0 l0.length p0], .agg #[.string nm1, .int .i64 r1, .slice a1 l1.length p1]] rfl (wanted_true (j := 28) (d := 57) rfl (by kernel_rfl) e57) (by simp [e61, e62]) (Tryd.call24 _ _) ?_
            exact rb_call (refsametab_any ⟨nm0, r0, .slice a0 l0.length p0, l0⟩ ⟨nm1, r1, .slice a1 l1.length p1, l1⟩ w (Row3.rb HC0.out hR) (Row3.rb HC1.out hR))
          refine Owed.cons ?_ ?_
          · -- 35: slot 64 := Op.binOp BinOp.eql 4 (Operand.tmp 60) (Operand.tmp 63) 4
            intro a w hR F
            have e57 : a.eval (.tmp 57) = .bool true := F.new 28 57 (by kernel_rfl)
            have e60 : a.eval (.tmp 60) = .bool (sameTab ⟨nm0, r0, .slice a0 l0.length p0, l0⟩ ⟨nm1, r1, .slice a1 l1.length p1, l1⟩) := F.new 31 60 (by kernel_rfl)
            have e63 : a.eval (.tmp 63) = .bool (sameTab ⟨nm0, r0, .slice a0 l0.length p0, l0⟩ ⟨nm1, r1, .slice a1 l1.length p1, l1⟩) := F.new 34 63 (by kernel_rfl)
            refine ok_bin _ _ _ _ _ rfl (wanted_true (j := 28) (d := 57) rfl (by kernel_rfl) e57) e60 e63 (run_eql_boolB _ _ _ _ _ Tryd.underlying4) ⟨Rb.refl _, ?_⟩
            exact congrArg Value.bool (by simp)
          refine Owed.cons ?_ ?_
          · -- 36: slot 65 := Op.pick (Operand.tmp 57) (Operand.tmp 64) (Operand.const (Value.bool false))
            intro a w hR F
            have e57 : a.eval (.tmp 57) = .bool true := F.new 28 57 (by kernel_rfl)
            have e64 : a.eval (.tmp 64) = .bool true := F.new 35 64 (by kernel_rfl)
            exact ok_pick _ _ _ true rfl (wanted_none rfl) e57 ⟨Rb.refl _, e64⟩
          refine Owed.cons ?_ ?_
          · -- 37: slot 66 := Op.move (Operand.tmp 65)
            intro a w hR F
            have e65 : a.eval (.tmp 65) = .bool true := F.new 36 65 (by kernel_rfl)
            exact ok_move _ rfl (wanted_none rfl) ⟨Rb.refl _, e65⟩
          refine Owed.cons ?_ ?_
          · -- 38: slot 67 := Op.load 25 (Operand.tmp 3)
            intro a w hR F
            have e66 : a.eval (.tmp 66) = .bool true := F.new 37 66 (by kernel_rfl)
            have e3 : a.eval (.tmp 3) = .pointer (some ⟨TB, 0, none⟩) := F.old 3 (by kernel_rfl)
            exact ok_load _ _ rfl (wanted_true (j := 37) (d := 66) rfl (by kernel_rfl) e66) e3 (H0.out.rb hR).load ⟨Rb.refl _, rfl⟩
          refine Owed.cons ?_ ?_
          · -- 39: slot 68 := Op.load 25 (Operand.tmp 3)
            intro a w hR F
            have e66 : a.eval (.tmp 66) = .bool true := F.new 37 66 (by kernel_rfl)
            have e3 : a.eval (.tmp 3) = .pointer (some ⟨TB, 0, none⟩) := F.old 3 (by kernel_rfl)
            exact ok_load _ _ rfl (wanted_true (j := 37) (d := 66) rfl (by kernel_rfl) e66) e3 (H0.out.rb hR).load ⟨Rb.refl _, rfl⟩
          refine Owed.cons ?_ ?_
          · -- 40: slot 69 := Op.call { callee := Callee.value (Operand.func 23), args := #[Operand.tmp 67, Operand.tmp 68], argTy
            intro a w hR F
            have e66 : a.eval (.tmp 66) = .bool true := F.new 37 66 (by kernel_rfl)
            have e67 : a.eval (.tmp 67) = .agg #[.string nm0, .int .i64 r0, .slice a0 l0.length p0] := F.new 38 67 (by kernel_rfl)
            have e68 : a.eval (.tmp 68) = .agg #[.string nm0, .int .i64 r0, .slice a0 l0.length p0] := F.new 39 68 (by kernel_rfl)
            refine ok_call 23 _ _ #[.agg #[.string nm0, .int .i64 r0, .slice a0 l0.length p0], .agg #[.string nm0, .int .i64 r0, .slice a0 l0.length p0]] rfl (wanted_true (j := 37) (d := 66) rfl (by kernel_rfl) e66) (by simp [e67, e68]) (Tryd.call23 _ _) ?_
            exact rb_call (by have h := sametab_any ⟨nm0, r0, .slice a0 l0.length p0, l0⟩ ⟨nm0, r0, .slice a0 l0.length p0, l0⟩ w (Row3.rb HC0.out hR) (Row3.rb HC0.out hR); rwa [sameTab_refl] at h)
          refine Owed.cons ?_ ?_
          · -- 41: slot 70 := Op.pick (Operand.tmp 66) (Operand.tmp 69) (Operand.const (Value.bool false))
            intro a w hR F
            have e66 : a.eval (.tmp 66) = .bool true := F.new 37 66 (by kernel_rfl)
            have e69 : a.eval (.tmp 69) = .bool true := F.new 40 69 (by kernel_rfl)
            exact ok_pick _ _ _ true rfl (wanted_none rfl) e66 ⟨Rb.refl _, e69⟩
          refine Owed.cons ?_ ?_
          · -- 42: slot 71 := Op.move (Operand.tmp 70)
            intro a w hR F
            have e70 : a.eval (.tmp 70) = .bool true := F.new 41 70 (by kernel_rfl)
            exact ok_move _ rfl (wanted_none rfl) ⟨Rb.refl _, e70⟩
          refine Owed.cons ?_ ?_
          · -- 43: slot 72 := Op.call { callee := Callee.value (Operand.func 9), args := #[], argTypes := #[] }
            intro a w hR F
            have e71 : a.eval (.tmp 71) = .bool true := F.new 42 71 (by kernel_rfl)
            refine ok_call 9 _ _ #[] rfl (wanted_true (j := 42) (d := 71) rfl (by kernel_rfl) e71) (by simp) (Tryd.call9 _ _) ?_
            exact rb_call (lives_any w (HT.out.rb hR))
          refine Owed.cons ?_ ?_
          · -- 44: slot 73 := Op.pick (Operand.tmp 71) (Operand.tmp 72) (Operand.const (Value.bool false))
            intro a w hR F
            have e71 : a.eval (.tmp 71) = .bool true := F.new 42 71 (by kernel_rfl)
            have e72 : a.eval (.tmp 72) = .bool true := F.new 43 72 (by kernel_rfl)
            exact ok_pick _ _ _ true rfl (wanted_none rfl) e71 ⟨Rb.refl _, e72⟩
          refine Owed.cons ?_ ?_
          · -- 45: slot 6 := Op.assign (Operand.tmp 73)
            intro a w hR F
            have e73 : a.eval (.tmp 73) = .bool true := F.new 44 73 (by kernel_rfl)
            exact ok_assign _ rfl (wanted_none rfl) ⟨Rb.refl _, e73⟩
          exact Owed.nil
        case fin =>
          intro y w2 hR hy
          have e45 : y 45 = .bool true := hy 45 _ rfl
          have HR := Lib.hid (Rb.trans _ _ _ HB.out hR)
          clear hy hR
          simp only [putAll, Act.put, List.setIfInBounds_toArray, List.set_cons_zero, List.set_cons_succ]
          rw [e45]
          clear e45
          go_wp2
          go_ret
          exact ⟨rfl, HR.out⟩
end Go.Proofs.YtolfeellcdoopaaDoor.L6
