/-
  Layer 6: the walk of SchemaBack.
-/
import Derived.Test.YtolfeellcdoopaaDoorS27
namespace Go.Proofs.YtolfeellcdoopaaDoor.L6
open Go.ChangeShapes Go.WideShapes Go.ChangeAt Go.RowKit Oct By Reg Val
set_option linter.unusedVariables false
set_option linter.unusedSimpArgs false

set_option maxRecDepth 100000 in
set_option maxHeartbeats 8000000 in
theorem back_walk (nm0 : ByteArray) (r0 : Int) (c0 : Value) (l0 : List ColD) (av : Value) (A : List ValD) (bv : Value) (B : List ValD) (w0 : World) (hc0 : Cols w0 c0 l0) (hk0 : TabOk ⟨nm0, r0, c0, l0⟩) (ha0 : Vals w0 av A) (hoa : ∀ q ∈ A, ValOk q) (hb0 : Vals w0 bv B) (hob : ∀ q ∈ B, ValOk q) (htab : Tab w0) :
    Calls Tryd.prog 6 #[.agg #[.string nm0, .int .i64 r0, c0], av, bv] w0 fun e w' => e = .returned (.bool true) ∧ Below w0.heap.size w0 w' := by
  obtain ⟨a0, p0, rfl, _, _⟩ := Row3.form hc0
  obtain ⟨ao, ac, rfl, _, _⟩ := Row3.form ha0
  obtain ⟨bo, bc, rfl, _, _⟩ := Row3.form hb0
  have HT0 := Lib.hid htab
  obtain ⟨w1, hw1⟩ : ∃ w1, w1 = w0.alloc (.cells #[.string nm0, .int .i64 r0, .slice a0 l0.length p0] 25) := ⟨_, rfl⟩
  have hr1 : Rb w0 w1 := by rw [hw1]; exact (Below.refl _ w0).alloc (Nat.le_refl _) _
  have h0a : HeldTab w1 w0.heap.size nm0 r0 a0 l0.length p0 := by rw [hw1]; refine ⟨?_, ?_, ?_⟩ <;> simp
  have HB1 := Lib.hid hr1
  have H0a := Lib.hid h0a
  have HOA := Lib.hid hoa
  have HOB := Lib.hid hob
  have HC0 := Lib.hid hc0
  have HA0 := Lib.hid ha0
  have HBB0 := Lib.hid hb0
  have HLT := Lib.hid (fun w (hw : Rb w0 w) => light_any ⟨nm0, r0, .slice a0 l0.length p0, l0⟩ w (Row3.rb hc0 hw) hk0)
  have HLA0 := Lib.hid (fun w (hw : Rb w0 w) => lightrow_any A (.slice ao A.length ac) w (Row3.rb ha0 hw) hoa)
  have HLB0 := Lib.hid (fun w (hw : Rb w0 w) => lightrow_any B (.slice bo B.length bc) w (Row3.rb hb0 hw) hob)
  have HFA0 := Lib.hid (fun w (hw : Rb w0 w) => fitsrow_any nm0 r0 (.slice a0 l0.length p0) l0 A (.slice ao A.length ac) w (Row3.rb hc0 hw) (Row3.rb ha0 hw) hoa)
  have HFB0 := Lib.hid (fun w (hw : Rb w0 w) => fitsrow_any nm0 r0 (.slice a0 l0.length p0) l0 B (.slice bo B.length bc) w (Row3.rb hc0 hw) (Row3.rb hb0 hw) hob)
  have HW1 := Lib.hid hw1
  clear htab hw1 hr1 h0a hc0 hk0 hoa hob ha0 hb0
  go_enter Tryd.func6, Tryd.ntmps6
  go_upto_region 1 with (fail)
  rw [← HW1.out]
  obtain ⟨y0, y1, y2⟩ := H0a.out
  go_wp2_with fail
  refine (HLT.out _ HB1.out).mono ?_
  rintro e w2 ⟨rfl, hb2⟩
  have HB2 := Lib.hid (Rb.trans _ _ _ HB1.out hb2)
  have H0b := Lib.hid (H0a.out.rb hb2)
  clear hb2 y0 y1 y2
  cases hl0 : lightB ⟨nm0, r0, .slice a0 l0.length p0, l0⟩ with
  | false =>
    clear hl0
    go_wp2_with fail
    refine (lives_any _ (HT0.out.rb HB2.out)).mono ?_
    rintro e wl ⟨rfl, hbl⟩
    have HBL2 := Lib.hid (Rb.trans _ _ _ HB2.out hbl)
    clear hbl
    go_wp2
    go_ret
    exact ⟨rfl, HBL2.out⟩
  | true =>
    have HL0 := Lib.hid (light_of hl0)
    clear hl0
    go_wp2_with fail
    refine (HLA0.out _ HB2.out).mono ?_
    rintro e w3 ⟨rfl, hb3⟩
    have HB3 := Lib.hid (Rb.trans _ _ _ HB2.out hb3)
    have H0c := Lib.hid (H0b.out.rb hb3)
    clear hb3
    cases hla : lightR A with
    | false =>
      clear hla
      go_wp2_with fail
      refine (lives_any _ (HT0.out.rb HB3.out)).mono ?_
      rintro e wl ⟨rfl, hbl⟩
      have HBL2 := Lib.hid (Rb.trans _ _ _ HB3.out hbl)
      clear hbl
      go_wp2
      go_ret
      exact ⟨rfl, HBL2.out⟩
    | true =>
      have HLA := Lib.hid (lightR_of hla)
      clear hla
      go_wp2_with fail
      refine (HLB0.out _ HB3.out).mono ?_
      rintro e w4 ⟨rfl, hb4⟩
      have HB4 := Lib.hid (Rb.trans _ _ _ HB3.out hb4)
      have H0d := Lib.hid (H0c.out.rb hb4)
      clear hb4
      cases hlb : lightR B with
      | false =>
        clear hlb
        go_wp2_with fail
        refine (lives_any _ (HT0.out.rb HB4.out)).mono ?_
        rintro e wl ⟨rfl, hbl⟩
        have HBL2 := Lib.hid (Rb.trans _ _ _ HB4.out hbl)
        clear hbl
        go_wp2
        go_ret
        exact ⟨rfl, HBL2.out⟩
      | true =>
        have HLB := Lib.hid (lightR_of hlb)
        clear hlb
        obtain ⟨y0, y1, y2⟩ := H0d.out
        go_wp2_with fail
        refine (HFA0.out _ HB4.out).mono ?_
        rintro e w5 ⟨rfl, hb5⟩
        have HB5 := Lib.hid (Rb.trans _ _ _ HB4.out hb5)
        have H0e := Lib.hid (H0d.out.rb hb5)
        clear hb5 y0 y1 y2
        cases hfa : fitsRow l0 A with
        | false =>
          clear hfa
          go_wp2_with fail
          refine (lives_any _ (HT0.out.rb HB5.out)).mono ?_
          rintro e wl ⟨rfl, hbl⟩
          have HBL2 := Lib.hid (Rb.trans _ _ _ HB5.out hbl)
          clear hbl
          go_wp2
          go_ret
          exact ⟨rfl, HBL2.out⟩
        | true =>
          have HFA := Lib.hid hfa
          clear hfa
          obtain ⟨y0, y1, y2⟩ := H0e.out
          go_wp2_with fail
          refine (HFB0.out _ HB5.out).mono ?_
          rintro e w6 ⟨rfl, hb6⟩
          have HB6 := Lib.hid (Rb.trans _ _ _ HB5.out hb6)
          have H0f := Lib.hid (H0e.out.rb hb6)
          clear hb6 y0 y1 y2
          cases hfb : fitsRow l0 B with
          | false =>
            clear hfb
            go_wp2_with fail
            refine (lives_any _ (HT0.out.rb HB6.out)).mono ?_
            rintro e wl ⟨rfl, hbl⟩
            have HBL2 := Lib.hid (Rb.trans _ _ _ HB6.out hbl)
            clear hbl
            go_wp2
            go_ret
            exact ⟨rfl, HBL2.out⟩
          | true =>
            have HFB := Lib.hid hfb
            clear hfb
            go_wp2_with fail
            refine (putrow_any (.slice none 0 0) (.slice ao A.length ac) [] A w6 (Bs.nil _) (by simp) (Row3.rb HA0.out HB6.out) HLA.out.1 HOA.out).mono ?_
            rintro e w7 ⟨u, rfl, hu, hb7⟩
            rw [List.nil_append] at hu
            have hub := Bs.of_owns hu
            obtain ⟨uo, uc, rfl, _, _⟩ := hub.len
            have HX7 := Lib.hid hub
            have HB7 := Lib.hid (Rb.trans _ _ _ HB6.out hb7)
            have H0g := Lib.hid (H0f.out.rb hb7)
            have hbl := bytesRow_len HOA.out
            have hxl : (bytesRow A).length ≤ 1000 := by have := HLA.out.1; omega
            have hLL : l0.length ≤ 1000 := by have := HL0.out.2.1; omega
            obtain ⟨g1, g2, g3⟩ := row_back HFA.out HOA.out
            have HG1 := Lib.hid g1
            have HG2 := Lib.hid g2
            have HG3 := Lib.hid g3
            have HAP := Lib.hid (row_apart HFA.out HFB.out HOA.out HOB.out)
            clear hu hub hb7 hbl g1 g2 g3
            obtain ⟨y0, y1, y2⟩ := H0g.out
            go_wp2_with fail
            refine (getrow_any (.slice uo (bytesRow A).length uc) (bytesRow A) 0 nm0 r0 (.slice a0 l0.length p0) l0 _ HX7.out hxl (Row3.rb HC0.out HB7.out) hLL).mono ?_
            rintro e w8 ⟨v1, q1, rfl, hv1, hq1, hb8⟩
            rw [HG1.out] at hv1 hq1 ⊢
            rw [if_pos rfl, HG2.out] at hv1
            rw [if_pos rfl, HG3.out] at hq1
            have HQ := Lib.hid hq1
            have HV := Lib.hid hv1
            have HB := Lib.hid (Rb.trans _ _ _ HB7.out hb8)
            have H0 := Lib.hid (H0g.out.rb hb8)
            have HX := Lib.hid (HX7.out.below hb8)
            have HRA := Lib.hid (Row3.rb HA0.out HB.out)
            have HRB := Lib.hid (Row3.rb HBB0.out HB.out)
            have HT := Lib.hid (HT0.out.rb HB.out)
            clear hv1 hq1 hb8 y0 y1 y2
            generalize w0.heap.size = TB at H0 ⊢
            go_upto_region 5 with (fail)
            refine wp_region_specs (R := Rb) (S := [Spec.eq (.bool true), Spec.eq (.bool true), Spec.eq (.int .i64 (q1)), Spec.eq (.slice uo (bytesRow A).length uc), Spec.eq (.int .i64 (((bytesRow A).length : Int))), Spec.eq (.bool true), Spec.eq (.bool true), Spec.eq (.bool true), Spec.eq (v1), Spec.eq (.slice ao A.length ac), Spec.eq (.bool true), Spec.eq (.bool true), Spec.eq (.bool true), Spec.eq (.slice ao A.length ac), Spec.eq (v1), Spec.eq (.bool true), Spec.eq (.bool true), Spec.eq (.bool true), Spec.eq (.slice uo (bytesRow A).length uc), Spec.eq (strV (bytesRow A)), Spec.eq (.slice bo B.length bc), bsSpec (([] : List UInt8) ++ bytesRow B), Spec.eq (strV (([] : List UInt8) ++ bytesRow B)), Spec.eq (.bool (bytesRow A == (([] : List UInt8) ++ bytesRow B))), Spec.eq (.slice ao A.length ac), Spec.eq (.slice bo B.length bc), Spec.eq (.bool (sameL eqVal A B)), Spec.eq (.bool true), Spec.eq (.bool true), Spec.eq (.bool true), Spec.eq (.slice ao A.length ac), Spec.eq (.slice bo B.length bc), Spec.eq (.bool (sameL eqVal A B)), Spec.eq (.slice ao A.length ac), Spec.eq (.slice bo B.length bc), Spec.eq (.bool (sameL eqVal A B)), Spec.eq (.bool true), Spec.eq (.bool true), Spec.eq (.bool true), Spec.eq (.bool true), Spec.eq (.bool true), Spec.eq (.bool true)]) (n := 1) (size := 87) (by kernel_rfl) Rb.trans (Rb.drew _) rfl (by kernel_rfl) ?owed ?fin
            case owed =>
              refine Owed.cons ?_ ?_
              · -- 0: slot 46 := Op.move (Operand.tmp 10)
                intro a w hR F
                have e10 : a.eval (.tmp 10) = .bool true := F.old 10 (by kernel_rfl)
                exact ok_move _ rfl (wanted_none rfl) ⟨Rb.refl _, e10⟩
              refine Owed.cons ?_ ?_
              · -- 1: slot 47 := Op.move (Operand.tmp 46)
                intro a w hR F
                have e46 : a.eval (.tmp 46) = .bool true := F.new 0 46 (by kernel_rfl)
                exact ok_move _ rfl (wanted_none rfl) ⟨Rb.refl _, e46⟩
              refine Owed.cons ?_ ?_
              · -- 2: slot 48 := Op.move (Operand.tmp 9)
                intro a w hR F
                have e47 : a.eval (.tmp 47) = .bool true := F.new 1 47 (by kernel_rfl)
                have e9 : a.eval (.tmp 9) = .int .i64 (q1) := F.old 9 (by kernel_rfl)
                exact ok_move _ rfl (wanted_true (j := 1) (d := 47) rfl (by kernel_rfl) e47) ⟨Rb.refl _, e9⟩
              refine Owed.cons ?_ ?_
              · -- 3: slot 49 := Op.move (Operand.tmp 7)
                intro a w hR F
                have e47 : a.eval (.tmp 47) = .bool true := F.new 1 47 (by kernel_rfl)
                have e7 : a.eval (.tmp 7) = .slice uo (bytesRow A).length uc := F.old 7 (by kernel_rfl)
                exact ok_move _ rfl (wanted_true (j := 1) (d := 47) rfl (by kernel_rfl) e47) ⟨Rb.refl _, e7⟩
              refine Owed.cons ?_ ?_
              · -- 4: slot 50 := Op.call { callee := Callee.builtin Builtin.len, args := #[Operand.tmp 49], argTypes := #[44] }
                intro a w hR F
                have e47 : a.eval (.tmp 47) = .bool true := F.new 1 47 (by kernel_rfl)
                have e49 : a.eval (.tmp 49) = .slice uo (bytesRow A).length uc := F.new 3 49 (by kernel_rfl)
                exact ok_len_bs _ _ 5 Tryd.underlying44 (bytesRow A) rfl (wanted_true (j := 1) (d := 47) rfl (by kernel_rfl) e47) (by rw [e49]; exact HX.out.below hR) ⟨Rb.refl _, rfl⟩
              refine Owed.cons ?_ ?_
              · -- 5: slot 51 := Op.binOp BinOp.eql 3 (Operand.tmp 48) (Operand.tmp 50) 3
                intro a w hR F
                have e47 : a.eval (.tmp 47) = .bool true := F.new 1 47 (by kernel_rfl)
                have e48 : a.eval (.tmp 48) = .int .i64 (q1) := F.new 2 48 (by kernel_rfl)
                have e50 : a.eval (.tmp 50) = .int .i64 (((bytesRow A).length : Int)) := F.new 4 50 (by kernel_rfl)
                refine ok_bin _ _ _ _ _ rfl (wanted_true (j := 1) (d := 47) rfl (by kernel_rfl) e47) e48 e50 (run_eql_int _ _ _ _ _ _) ⟨Rb.refl _, ?_⟩
                exact congrArg Value.bool (by rw [HQ.out]; simp)
              refine Owed.cons ?_ ?_
              · -- 6: slot 52 := Op.pick (Operand.tmp 47) (Operand.tmp 51) (Operand.const (Value.bool false))
                intro a w hR F
                have e47 : a.eval (.tmp 47) = .bool true := F.new 1 47 (by kernel_rfl)
                have e51 : a.eval (.tmp 51) = .bool true := F.new 5 51 (by kernel_rfl)
                exact ok_pick _ _ _ true rfl (wanted_none rfl) e47 ⟨Rb.refl _, e51⟩
              refine Owed.cons ?_ ?_
              · -- 7: slot 53 := Op.move (Operand.tmp 52)
                intro a w hR F
                have e52 : a.eval (.tmp 52) = .bool true := F.new 6 52 (by kernel_rfl)
                exact ok_move _ rfl (wanted_none rfl) ⟨Rb.refl _, e52⟩
              refine Owed.cons ?_ ?_
              · -- 8: slot 54 := Op.move (Operand.tmp 8)
                intro a w hR F
                have e53 : a.eval (.tmp 53) = .bool true := F.new 7 53 (by kernel_rfl)
                have e8 : a.eval (.tmp 8) = v1 := F.old 8 (by kernel_rfl)
                exact ok_move _ rfl (wanted_true (j := 7) (d := 53) rfl (by kernel_rfl) e53) ⟨Rb.refl _, e8⟩
              refine Owed.cons ?_ ?_
              · -- 9: slot 55 := Op.move (Operand.tmp 1)
                intro a w hR F
                have e53 : a.eval (.tmp 53) = .bool true := F.new 7 53 (by kernel_rfl)
                have e1 : a.eval (.tmp 1) = .slice ao A.length ac := F.old 1 (by kernel_rfl)
                exact ok_move _ rfl (wanted_true (j := 7) (d := 53) rfl (by kernel_rfl) e53) ⟨Rb.refl _, e1⟩
              refine Owed.cons ?_ ?_
              · -- 10: slot 56 := Op.call { callee := Callee.value (Operand.func 19), args := #[Operand.tmp 54, Operand.tmp 55], argTy
                intro a w hR F
                have e53 : a.eval (.tmp 53) = .bool true := F.new 7 53 (by kernel_rfl)
                have e54 : a.eval (.tmp 54) = v1 := F.new 8 54 (by kernel_rfl)
                have e55 : a.eval (.tmp 55) = .slice ao A.length ac := F.new 9 55 (by kernel_rfl)
                refine ok_call 19 _ _ #[v1, .slice ao A.length ac] rfl (wanted_true (j := 7) (d := 53) rfl (by kernel_rfl) e53) (by simp [e54, e55]) (Tryd.call19 _ _) ?_
                exact rb_call (refsame_refl (Row3.rb HV.out hR) (Row3.rb HRA.out hR))
              refine Owed.cons ?_ ?_
              · -- 11: slot 57 := Op.pick (Operand.tmp 53) (Operand.tmp 56) (Operand.const (Value.bool false))
                intro a w hR F
                have e53 : a.eval (.tmp 53) = .bool true := F.new 7 53 (by kernel_rfl)
                have e56 : a.eval (.tmp 56) = .bool true := F.new 10 56 (by kernel_rfl)
                exact ok_pick _ _ _ true rfl (wanted_none rfl) e53 ⟨Rb.refl _, e56⟩
              refine Owed.cons ?_ ?_
              · -- 12: slot 58 := Op.move (Operand.tmp 57)
                intro a w hR F
                have e57 : a.eval (.tmp 57) = .bool true := F.new 11 57 (by kernel_rfl)
                exact ok_move _ rfl (wanted_none rfl) ⟨Rb.refl _, e57⟩
              refine Owed.cons ?_ ?_
              · -- 13: slot 59 := Op.move (Operand.tmp 1)
                intro a w hR F
                have e58 : a.eval (.tmp 58) = .bool true := F.new 12 58 (by kernel_rfl)
                have e1 : a.eval (.tmp 1) = .slice ao A.length ac := F.old 1 (by kernel_rfl)
                exact ok_move _ rfl (wanted_true (j := 12) (d := 58) rfl (by kernel_rfl) e58) ⟨Rb.refl _, e1⟩
              refine Owed.cons ?_ ?_
              · -- 14: slot 60 := Op.move (Operand.tmp 8)
                intro a w hR F
                have e58 : a.eval (.tmp 58) = .bool true := F.new 12 58 (by kernel_rfl)
                have e8 : a.eval (.tmp 8) = v1 := F.old 8 (by kernel_rfl)
                exact ok_move _ rfl (wanted_true (j := 12) (d := 58) rfl (by kernel_rfl) e58) ⟨Rb.refl _, e8⟩
              refine Owed.cons ?_ ?_
              · -- 15: slot 61 := Op.call { callee := Callee.value (Operand.func 32), args := #[Operand.tmp 59, Operand.tmp 60], argTy
                intro a w hR F
                have e58 : a.eval (.tmp 58) = .bool true := F.new 12 58 (by kernel_rfl)
                have e59 : a.eval (.tmp 59) = .slice ao A.length ac := F.new 13 59 (by kernel_rfl)
                have e60 : a.eval (.tmp 60) = v1 := F.new 14 60 (by kernel_rfl)
                refine ok_call 32 _ _ #[.slice ao A.length ac, v1] rfl (wanted_true (j := 12) (d := 58) rfl (by kernel_rfl) e58) (by simp [e59, e60]) (Tryd.call32 _ _) ?_
                exact rb_call (by have h := same_any A A _ _ w (Row3.rb HRA.out hR) (Row3.rb HV.out hR); rwa [show sameV A A = true from sameV_refl A] at h)
              refine Owed.cons ?_ ?_
              · -- 16: slot 62 := Op.pick (Operand.tmp 58) (Operand.tmp 61) (Operand.const (Value.bool false))
                intro a w hR F
                have e58 : a.eval (.tmp 58) = .bool true := F.new 12 58 (by kernel_rfl)
                have e61 : a.eval (.tmp 61) = .bool true := F.new 15 61 (by kernel_rfl)
                exact ok_pick _ _ _ true rfl (wanted_none rfl) e58 ⟨Rb.refl _, e61⟩
              refine Owed.cons ?_ ?_
              · -- 17: slot 63 := Op.move (Operand.tmp 62)
                intro a w hR F
                have e62 : a.eval (.tmp 62) = .bool true := F.new 16 62 (by kernel_rfl)
                exact ok_move _ rfl (wanted_none rfl) ⟨Rb.refl _, e62⟩
              refine Owed.cons ?_ ?_
              · -- 18: slot 64 := Op.move (Operand.tmp 7)
                intro a w hR F
                have e63 : a.eval (.tmp 63) = .bool true := F.new 17 63 (by kernel_rfl)
                have e7 : a.eval (.tmp 7) = .slice uo (bytesRow A).length uc := F.old 7 (by kernel_rfl)
                exact ok_move _ rfl (wanted_true (j := 17) (d := 63) rfl (by kernel_rfl) e63) ⟨Rb.refl _, e7⟩
              refine Owed.cons ?_ ?_
              · -- 19: slot 65 := Op.convert 44 9 (Operand.tmp 64)
                intro a w hR F
                have e63 : a.eval (.tmp 63) = .bool true := F.new 17 63 (by kernel_rfl)
                have e64 : a.eval (.tmp 64) = .slice uo (bytesRow A).length uc := F.new 18 64 (by kernel_rfl)
                exact ok_conv _ _ _ rfl (wanted_true (j := 17) (d := 63) rfl (by kernel_rfl) e63) (run_convert_Bs (xs := bytesRow A) (by rw [e64]; exact HX.out.below hR) 44 5 9 Tryd.underlying44 Tryd.underlying5 Tryd.underlying9) ⟨Rb.refl _, rfl⟩
              refine Owed.cons ?_ ?_
              · -- 20: slot 66 := Op.move (Operand.tmp 2)
                intro a w hR F
                have e63 : a.eval (.tmp 63) = .bool true := F.new 17 63 (by kernel_rfl)
                have e2 : a.eval (.tmp 2) = .slice bo B.length bc := F.old 2 (by kernel_rfl)
                exact ok_move _ rfl (wanted_true (j := 17) (d := 63) rfl (by kernel_rfl) e63) ⟨Rb.refl _, e2⟩
              refine Owed.cons ?_ ?_
              · -- 21: slot 67 := Op.call { callee := Callee.value (Operand.func 28), args := #[Operand.const (Value.slice none 0 0), 
                intro a w hR F
                have e63 : a.eval (.tmp 63) = .bool true := F.new 17 63 (by kernel_rfl)
                have e66 : a.eval (.tmp 66) = .slice bo B.length bc := F.new 20 66 (by kernel_rfl)
                refine ok_call 28 _ _ #[(.slice none 0 0), .slice bo B.length bc] rfl (wanted_true (j := 17) (d := 63) rfl (by kernel_rfl) e63) (by simp only [List.map_toArray, List.map_cons, List.map_nil, e66]; rfl) (Tryd.call28 _ _) ?_
                exact own_call6 (putrow_any _ _ [] B w (Bs.nil w) (by simp) (Row3.rb HRB.out hR) HLB.out.1 HOB.out)
              refine Owed.cons ?_ ?_
              · -- 22: slot 68 := Op.convert 44 9 (Operand.tmp 67)
                intro a w hR F
                have e63 : a.eval (.tmp 63) = .bool true := F.new 17 63 (by kernel_rfl)
                have e67 : Bs w (a.eval (.tmp 67)) (([] : List UInt8) ++ bytesRow B) := F.new 21 67 (by kernel_rfl)
                exact ok_conv _ _ _ rfl (wanted_true (j := 17) (d := 63) rfl (by kernel_rfl) e63) (run_convert_Bs e67 44 5 9 Tryd.underlying44 Tryd.underlying5 Tryd.underlying9) ⟨Rb.refl _, rfl⟩
              refine Owed.cons ?_ ?_
              · -- 23: slot 69 := Op.binOp BinOp.eql 9 (Operand.tmp 65) (Operand.tmp 68) 9
                intro a w hR F
                have e63 : a.eval (.tmp 63) = .bool true := F.new 17 63 (by kernel_rfl)
                have e65 : a.eval (.tmp 65) = strV (bytesRow A) := F.new 19 65 (by kernel_rfl)
                have e68 : a.eval (.tmp 68) = strV (([] : List UInt8) ++ bytesRow B) := F.new 22 68 (by kernel_rfl)
                refine ok_bin _ _ _ _ _ rfl (wanted_true (j := 17) (d := 63) rfl (by kernel_rfl) e63) e65 e68 (run_eql_strV _ _ _ _ _) ⟨Rb.refl _, ?_⟩
                exact congrArg Value.bool (rfl)
              refine Owed.cons ?_ ?_
              · -- 24: slot 70 := Op.move (Operand.tmp 1)
                intro a w hR F
                have e63 : a.eval (.tmp 63) = .bool true := F.new 17 63 (by kernel_rfl)
                have e1 : a.eval (.tmp 1) = .slice ao A.length ac := F.old 1 (by kernel_rfl)
                exact ok_move _ rfl (wanted_true (j := 17) (d := 63) rfl (by kernel_rfl) e63) ⟨Rb.refl _, e1⟩
              refine Owed.cons ?_ ?_
              · -- 25: slot 71 := Op.move (Operand.tmp 2)
                intro a w hR F
                have e63 : a.eval (.tmp 63) = .bool true := F.new 17 63 (by kernel_rfl)
                have e2 : a.eval (.tmp 2) = .slice bo B.length bc := F.old 2 (by kernel_rfl)
                exact ok_move _ rfl (wanted_true (j := 17) (d := 63) rfl (by kernel_rfl) e63) ⟨Rb.refl _, e2⟩
              refine Owed.cons ?_ ?_
              · -- 26: slot 72 := Op.call { callee := Callee.value (Operand.func 19), args := #[Operand.tmp 70, Operand.tmp 71], argTy
                intro a w hR F
                have e63 : a.eval (.tmp 63) = .bool true := F.new 17 63 (by kernel_rfl)
                have e70 : a.eval (.tmp 70) = .slice ao A.length ac := F.new 24 70 (by kernel_rfl)
                have e71 : a.eval (.tmp 71) = .slice bo B.length bc := F.new 25 71 (by kernel_rfl)
                refine ok_call 19 _ _ #[.slice ao A.length ac, .slice bo B.length bc] rfl (wanted_true (j := 17) (d := 63) rfl (by kernel_rfl) e63) (by simp [e70, e71]) (Tryd.call19 _ _) ?_
                exact rb_call (refsame_any A B _ _ w (Row3.rb HRA.out hR) (Row3.rb HRB.out hR))
              refine Owed.cons ?_ ?_
              · -- 27: slot 73 := Op.binOp BinOp.eql 4 (Operand.tmp 69) (Operand.tmp 72) 4
                intro a w hR F
                have e63 : a.eval (.tmp 63) = .bool true := F.new 17 63 (by kernel_rfl)
                have e69 : a.eval (.tmp 69) = .bool (bytesRow A == (([] : List UInt8) ++ bytesRow B)) := F.new 23 69 (by kernel_rfl)
                have e72 : a.eval (.tmp 72) = .bool (sameL eqVal A B) := F.new 26 72 (by kernel_rfl)
                refine ok_bin _ _ _ _ _ rfl (wanted_true (j := 17) (d := 63) rfl (by kernel_rfl) e63) e69 e72 (run_eql_boolB _ _ _ _ _ Tryd.underlying4) ⟨Rb.refl _, ?_⟩
                exact congrArg Value.bool (by rw [List.nil_append, HAP.out]; simp)
              refine Owed.cons ?_ ?_
              · -- 28: slot 74 := Op.pick (Operand.tmp 63) (Operand.tmp 73) (Operand.const (Value.bool false))
                intro a w hR F
                have e63 : a.eval (.tmp 63) = .bool true := F.new 17 63 (by kernel_rfl)
                have e73 : a.eval (.tmp 73) = .bool true := F.new 27 73 (by kernel_rfl)
                exact ok_pick _ _ _ true rfl (wanted_none rfl) e63 ⟨Rb.refl _, e73⟩
              refine Owed.cons ?_ ?_
              · -- 29: slot 75 := Op.move (Operand.tmp 74)
                intro a w hR F
                have e74 : a.eval (.tmp 74) = .bool true := F.new 28 74 (by kernel_rfl)
                exact ok_move _ rfl (wanted_none rfl) ⟨Rb.refl _, e74⟩
              refine Owed.cons ?_ ?_
              · -- 30: slot 76 := Op.move (Operand.tmp 1)
                intro a w hR F
                have e75 : a.eval (.tmp 75) = .bool true := F.new 29 75 (by kernel_rfl)
                have e1 : a.eval (.tmp 1) = .slice ao A.length ac := F.old 1 (by kernel_rfl)
                exact ok_move _ rfl (wanted_true (j := 29) (d := 75) rfl (by kernel_rfl) e75) ⟨Rb.refl _, e1⟩
              refine Owed.cons ?_ ?_
              · -- 31: slot 77 := Op.move (Operand.tmp 2)
                intro a w hR F
                have e75 : a.eval (.tmp 75) = .bool true := F.new 29 75 (by kernel_rfl)
                have e2 : a.eval (.tmp 2) = .slice bo B.length bc := F.old 2 (by kernel_rfl)
                exact ok_move _ rfl (wanted_true (j := 29) (d := 75) rfl (by kernel_rfl) e75) ⟨Rb.refl _, e2⟩
              refine Owed.cons ?_ ?_
              · -- 32: slot 78 := Op.call { callee := Callee.value (Operand.func 32), args := #[Operand.tmp 76, Operand.tmp 77], argTy
                intro a w hR F
                have e75 : a.eval (.tmp 75) = .bool true := F.new 29 75 (by kernel_rfl)
                have e76 : a.eval (.tmp 76) = .slice ao A.length ac := F.new 30 76 (by kernel_rfl)
                have e77 : a.eval (.tmp 77) = .slice bo B.length bc := F.new 31 77 (by kernel_rfl)
                refine ok_call 32 _ _ #[.slice ao A.length ac, .slice bo B.length bc] rfl (wanted_true (j := 29) (d := 75) rfl (by kernel_rfl) e75) (by simp [e76, e77]) (Tryd.call32 _ _) ?_
                exact rb_call (same_any A B _ _ w (Row3.rb HRA.out hR) (Row3.rb HRB.out hR))
              refine Owed.cons ?_ ?_
              · -- 33: slot 79 := Op.move (Operand.tmp 1)
                intro a w hR F
                have e75 : a.eval (.tmp 75) = .bool true := F.new 29 75 (by kernel_rfl)
                have e1 : a.eval (.tmp 1) = .slice ao A.length ac := F.old 1 (by kernel_rfl)
                exact ok_move _ rfl (wanted_true (j := 29) (d := 75) rfl (by kernel_rfl) e75) ⟨Rb.refl _, e1⟩
              refine Owed.cons ?_ ?_
              · -- 34: slot 80 := Op.move (Operand.tmp 2)
                intro a w hR F
                have e75 : a.eval (.tmp 75) = .bool true := F.new 29 75 (by kernel_rfl)
                have e2 : a.eval (.tmp 2) = .slice bo B.length bc := F.old 2 (by kernel_rfl)
                exact ok_move _ rfl (wanted_true (j := 29) (d := 75) rfl (by kernel_rfl) e75) ⟨Rb.refl _, e2⟩
              refine Owed.cons ?_ ?_
              · -- 35: slot 81 := Op.call { callee := Callee.value (Operand.func 19), args := #[Operand.tmp 79, Operand.tmp 80], argTy
                intro a w hR F
                have e75 : a.eval (.tmp 75) = .bool true := F.new 29 75 (by kernel_rfl)
                have e79 : a.eval (.tmp 79) = .slice ao A.length ac := F.new 33 79 (by kernel_rfl)
                have e80 : a.eval (.tmp 80) = .slice bo B.length bc := F.new 34 80 (by kernel_rfl)
                refine ok_call 19 _ _ #[.slice ao A.length ac, .slice bo B.length bc] rfl (wanted_true (j := 29) (d := 75) rfl (by kernel_rfl) e75) (by simp [e79, e80]) (Tryd.call19 _ _) ?_
                exact rb_call (refsame_any A B _ _ w (Row3.rb HRA.out hR) (Row3.rb HRB.out hR))
              refine Owed.cons ?_ ?_
              · -- 36: slot 82 := Op.binOp BinOp.eql 4 (Operand.tmp 78) (Operand.tmp 81) 4
                intro a w hR F
                have e75 : a.eval (.tmp 75) = .bool true := F.new 29 75 (by kernel_rfl)
                have e78 : a.eval (.tmp 78) = .bool (sameL eqVal A B) := F.new 32 78 (by kernel_rfl)
                have e81 : a.eval (.tmp 81) = .bool (sameL eqVal A B) := F.new 35 81 (by kernel_rfl)
                refine ok_bin _ _ _ _ _ rfl (wanted_true (j := 29) (d := 75) rfl (by kernel_rfl) e75) e78 e81 (run_eql_boolB _ _ _ _ _ Tryd.underlying4) ⟨Rb.refl _, ?_⟩
                exact congrArg Value.bool (by simp)
              refine Owed.cons ?_ ?_
              · -- 37: slot 83 := Op.pick (Operand.tmp 75) (Operand.tmp 82) (Operand.const (Value.bool false))
                intro a w hR F
                have e75 : a.eval (.tmp 75) = .bool true := F.new 29 75 (by kernel_rfl)
                have e82 : a.eval (.tmp 82) = .bool true := F.new 36 82 (by kernel_rfl)
                exact ok_pick _ _ _ true rfl (wanted_none rfl) e75 ⟨Rb.refl _, e82⟩
              refine Owed.cons ?_ ?_
              · -- 38: slot 84 := Op.move (Operand.tmp 83)
                intro a w hR F
                have e83 : a.eval (.tmp 83) = .bool true := F.new 37 83 (by kernel_rfl)
                exact ok_move _ rfl (wanted_none rfl) ⟨Rb.refl _, e83⟩
              refine Owed.cons ?_ ?_
              · -- 39: slot 85 := Op.call { callee := Callee.value (Operand.func 9), args := #[], argTypes := #[] }
                intro a w hR F
                have e84 : a.eval (.tmp 84) = .bool true := F.new 38 84 (by kernel_rfl)
                refine ok_call 9 _ _ #[] rfl (wanted_true (j := 38) (d := 84) rfl (by kernel_rfl) e84) (by simp) (Tryd.call9 _ _) ?_
                exact rb_call (lives_any w (HT.out.rb hR))
              refine Owed.cons ?_ ?_
              · -- 40: slot 86 := Op.pick (Operand.tmp 84) (Operand.tmp 85) (Operand.const (Value.bool false))
                intro a w hR F
                have e84 : a.eval (.tmp 84) = .bool true := F.new 38 84 (by kernel_rfl)
                have e85 : a.eval (.tmp 85) = .bool true := F.new 39 85 (by kernel_rfl)
                exact ok_pick _ _ _ true rfl (wanted_none rfl) e84 ⟨Rb.refl _, e85⟩
              refine Owed.cons ?_ ?_
              · -- 41: slot 6 := Op.assign (Operand.tmp 86)
                intro a w hR F
                have e86 : a.eval (.tmp 86) = .bool true := F.new 40 86 (by kernel_rfl)
                exact ok_assign _ rfl (wanted_none rfl) ⟨Rb.refl _, e86⟩
              exact Owed.nil
            case fin =>
              intro y w9 hR hy
              have e41 : y 41 = .bool true := hy 41 _ rfl
              have HRR := Lib.hid (Rb.trans _ _ _ HB.out hR)
              clear hy hR
              simp only [putAll, Act.put, List.setIfInBounds_toArray, List.set_cons_zero, List.set_cons_succ]
              rw [e41]
              clear e41
              go_wp2
              go_ret
              exact ⟨rfl, HRR.out⟩
end Go.Proofs.YtolfeellcdoopaaDoor.L6
