/-
  ValueBack, walked.
-/
import Derived.Test.YtefjfiihfbkjoaaDoorVB2
import Derived.Test.YtefjfiihfbkjoaaDoorVT2
import Derived.Lib.ItoaLen
namespace Go.Proofs.YtefjfiihfbkjoaaDoor
open Go.ChangeShapes Go.WideShapes Go.ChangeAt Go.RowKit Oct By Reg Val

theorem tupV_s (k n : Int) (s : ByteArray) (c : Nat) : tupV (some (k, n, s.data.toList, c)) 0 = .tuple #[vv k n s, .int .i64 (c : Int), .bool true] := by
  show Value.tuple #[vv k n (str s.data.toList), .int .i64 (0 + (c : Int)), .bool true] = _
  rw [str_toList, Int.zero_add]
theorem tupP_s (k n : Int) (s : ByteArray) : tupP (some (k, n, s.data.toList)) = .tuple #[vv k n s, .bool true] := by
  show Value.tuple #[vv k n (str s.data.toList), .bool true] = _
  rw [str_toList]
theorem eqV_iff {k n k1 n1 : Int} {s s1 : ByteArray} : eqVB k n s k1 n1 s1 = true ↔ k = k1 ∧ n = n1 ∧ s.data.toList = s1.data.toList := by
  unfold eqVB
  rw [ByteArray.toList_eq, ByteArray.toList_eq]
  simp
theorem bytes_inj {k n k1 n1 : Int} {s s1 : ByteArray} (r1 : rightB k n s.data.toList = true) (r2 : rightB k1 n1 s1.data.toList = true) (hn0 : -9223372036854775808 ≤ n) (hn1 : n ≤ 9223372036854775807) (hm0 : -9223372036854775808 ≤ n1) (hm1 : n1 ≤ 9223372036854775807) :
    (bytesR k n s.data.toList == bytesR k1 n1 s1.data.toList) = eqVB k n s k1 n1 s1 := by
  rw [Bool.eq_iff_iff, beq_iff_eq, eqV_iff, bytesR_of r1, bytesR_of r2]
  constructor
  · intro h
    exact bytes_pre r1 r2 hn0 hn1 hm0 hm1 (r := []) (by rw [List.append_nil]; exact h.symm)
  · rintro ⟨rfl, rfl, h⟩; rw [h]
theorem print_inj {k n k1 n1 : Int} {s s1 : ByteArray} (r1 : rightB k n s.data.toList = true) (r2 : rightB k1 n1 s1.data.toList = true) (hn0 : -9223372036854775808 ≤ n) (hn1 : n ≤ 9223372036854775807) (hm0 : -9223372036854775808 ≤ n1) (hm1 : n1 ≤ 9223372036854775807) :
    (printV k n s.data.toList == printV k1 n1 s1.data.toList) = eqVB k n s k1 n1 s1 := by
  rw [Bool.eq_iff_iff, beq_iff_eq, eqV_iff]
  constructor
  · intro h
    have h1 := parse_print r1 hn0 hn1
    have h2 := parse_print r2 hm0 hm1
    rw [h, h2] at h1
    simp only [Option.some.injEq, Prod.mk.injEq] at h1
    exact ⟨h1.1.symm, h1.2.1.symm, h1.2.2.symm⟩
  · rintro ⟨rfl, rfl, h⟩; rw [h]
theorem print_len2 {k n : Int} {s : ByteArray} (h : rightB k n s.data.toList = true) (h0 : -9223372036854775808 ≤ n) (h1 : n ≤ 9223372036854775807) : (printV k n s.data.toList).length ≤ 200 := by
  have hl : s.size ≤ 32 := by
    have hlen : s.data.toList.length = s.size := Array.length_toList
    rcases kinds_of h with rfl | rfl | rfl
    · have := right_s h (.inl rfl); rw [this] at hlen; simp at hlen; omega
    · have := right_s h (.inr rfl); rw [this] at hlen; simp at hlen; omega
    · have := (right_n3 h).2; omega
  have hlen : s.data.toList.length = s.size := Array.length_toList
  unfold printV
  rw [if_pos h]
  unfold textV
  split
  · have := Lib.itoa_length_le n h0 h1; omega
  · split
    · unfold Lib.formatBool; split <;> decide
    · have := esc_len s.data.toList
      unfold quoteB
      rw [List.length_cons, List.length_append]; simp; omega

set_option maxRecDepth 100000 in
theorem back_walk (k n : Int) (s : ByteArray) (k1 n1 : Int) (s1 : ByteArray) (w0 : World) (hs : s.size ≤ maxLen) (hs1 : s1.size ≤ maxLen) (hn0 : -9223372036854775808 ≤ n) (hn1 : n ≤ 9223372036854775807) (hm0 : -9223372036854775808 ≤ n1) (hm1 : n1 ≤ 9223372036854775807) (htab : Tab w0) (herr : Errs w0) :
    Calls Tryd.prog 7 #[vv k n s, vv k1 n1 s1] w0 fun e w' => e = .returned (.bool true) ∧ Below w0.heap.size w0 w' := by
  have HT := Lib.hid htab; clear htab
  have HE := Lib.hid herr; clear herr
  have HA := Lib.hid ((HeldV.at w0 w0.heap.size k n s 23 rfl).rb (show Rb _ ((w0.alloc (.cells #[.int .i64 k, .int .i64 n, .string s] 23)).alloc (.cells #[.int .i64 k1, .int .i64 n1, .string s1] 23)) from (Below.refl _ _).alloc (Nat.le_refl _) _))
  have HD := Lib.hid (HeldV.at (w0.alloc (.cells #[.int .i64 k, .int .i64 n, .string s] 23)) (w0.heap.size + 1) k1 n1 s1 23 (by simp))
  have HB := Lib.hid (show Rb w0 ((w0.alloc (.cells #[.int .i64 k, .int .i64 n, .string s] 23)).alloc (.cells #[.int .i64 k1, .int .i64 n1, .string s1] 23)) from ((Below.refl w0.heap.size w0).alloc (Nat.le_refl _) _).alloc (by simp) _)
  by_cases ha : s.size ≤ 100
  · by_cases hb : s1.size ≤ 100
    · cases r1 : rightB k n s.data.toList
      · have HX := Lib.hid r1
        go_enter Tryd.func7, Tryd.ntmps7
        go_upto_region 1 with (fail)
        refine wp_region_plain_specs (R := Rb) (S := [Spec.eq (vv (k) (n) (s)), Spec.eq (.bool true), Spec.eq (.bool false), Spec.eq (.bool false), Spec.eq (vv (k1) (n1) (s1)), Spec.eq (.bool true), Spec.eq (.bool false), Spec.eq (.bool false), Spec.eq (.bool false), Spec.eq (vv (k) (n) (s)), Spec.eq (.bool false), Spec.eq (.bool true), Spec.eq (.bool true), Spec.eq (.bool true), Spec.eq (undef), Spec.eq (undef), Spec.eq (undef), Spec.eq (.bool true)]) (n := 1) (size := 90) Rb.trans (Rb.refl _) rfl (by kernel_rfl) ?owed ?fin
        case owed =>
          refine Owed.cons ?_ ?_
          · -- 0: slot 10 := Op.load 23 (Operand.tmp 2)
            intro a w hR F
            have e2 : a.eval (.tmp 2) = .pointer (some ⟨w0.heap.size, 0, none⟩) := F.old 2 (by kernel_rfl)
            exact ok_load _ _ rfl (wanted_none rfl) e2 (HA.out.rb hR).load ⟨Rb.refl _, rfl⟩
          refine Owed.cons ?_ ?_
          · -- 1: slot 11 := Op.call { callee := Callee.value (Operand.func 9), args := #[Operand.tmp 10], argTypes := #[23] }
            intro a w hR F
            have e10 : a.eval (.tmp 10) = vv (k) (n) (s) := F.new 0 10 (by kernel_rfl)
            refine ok_call 9 _ _ #[vv (k) (n) (s)] rfl (wanted_none rfl) (by simp [e10]) (Tryd.call9 _ _) ?_
            exact val_call_below (light_yes k n s w hs ha)
          refine Owed.cons ?_ ?_
          · -- 2: slot 12 := Op.unOp UnOp.not 4 (Operand.tmp 11)
            intro a w hR F
            have e11 : a.eval (.tmp 11) = .bool true := F.new 1 11 (by kernel_rfl)
            exact ok_not _ _ true rfl (wanted_none rfl) e11 ⟨Rb.refl _, rfl⟩
          refine Owed.cons ?_ ?_
          · -- 3: slot 13 := Op.move (Operand.tmp 12)
            intro a w hR F
            have e12 : a.eval (.tmp 12) = .bool false := F.new 2 12 (by kernel_rfl)
            exact ok_move _ rfl (wanted_none rfl) ⟨Rb.refl _, e12⟩
          refine Owed.cons ?_ ?_
          · -- 4: slot 14 := Op.load 23 (Operand.tmp 3)
            intro a w hR F
            have e13 : a.eval (.tmp 13) = .bool false := F.new 3 13 (by kernel_rfl)
            have e3 : a.eval (.tmp 3) = .pointer (some ⟨w0.heap.size + 1, 0, none⟩) := F.old 3 (by kernel_rfl)
            exact ok_load _ _ rfl (wanted_true (j := 3) (d := 13) rfl (by kernel_rfl) e13) e3 (HD.out.rb hR).load ⟨Rb.refl _, rfl⟩
          refine Owed.cons ?_ ?_
          · -- 5: slot 15 := Op.call { callee := Callee.value (Operand.func 9), args := #[Operand.tmp 14], argTypes := #[23] }
            intro a w hR F
            have e13 : a.eval (.tmp 13) = .bool false := F.new 3 13 (by kernel_rfl)
            have e14 : a.eval (.tmp 14) = vv (k1) (n1) (s1) := F.new 4 14 (by kernel_rfl)
            refine ok_call 9 _ _ #[vv (k1) (n1) (s1)] rfl (wanted_true (j := 3) (d := 13) rfl (by kernel_rfl) e13) (by simp [e14]) (Tryd.call9 _ _) ?_
            exact val_call_below (light_yes k1 n1 s1 w hs1 hb)
          refine Owed.cons ?_ ?_
          · -- 6: slot 16 := Op.unOp UnOp.not 4 (Operand.tmp 15)
            intro a w hR F
            have e13 : a.eval (.tmp 13) = .bool false := F.new 3 13 (by kernel_rfl)
            have e15 : a.eval (.tmp 15) = .bool true := F.new 5 15 (by kernel_rfl)
            exact ok_not _ _ true rfl (wanted_true (j := 3) (d := 13) rfl (by kernel_rfl) e13) e15 ⟨Rb.refl _, rfl⟩
          refine Owed.cons ?_ ?_
          · -- 7: slot 17 := Op.pick (Operand.tmp 13) (Operand.const (Value.bool true)) (Operand.tmp 16)
            intro a w hR F
            have e13 : a.eval (.tmp 13) = .bool false := F.new 3 13 (by kernel_rfl)
            have e16 : a.eval (.tmp 16) = .bool false := F.new 6 16 (by kernel_rfl)
            exact ok_pick _ _ _ false rfl (wanted_none rfl) e13 ⟨Rb.refl _, e16⟩
          refine Owed.cons ?_ ?_
          · -- 8: slot 18 := Op.move (Operand.tmp 17)
            intro a w hR F
            have e17 : a.eval (.tmp 17) = .bool false := F.new 7 17 (by kernel_rfl)
            exact ok_move _ rfl (wanted_none rfl) ⟨Rb.refl _, e17⟩
          refine Owed.cons ?_ ?_
          · -- 9: slot 19 := Op.load 23 (Operand.tmp 2)
            intro a w hR F
            have e18 : a.eval (.tmp 18) = .bool false := F.new 8 18 (by kernel_rfl)
            have e2 : a.eval (.tmp 2) = .pointer (some ⟨w0.heap.size, 0, none⟩) := F.old 2 (by kernel_rfl)
            exact ok_load _ _ rfl (wanted_true (j := 8) (d := 18) rfl (by kernel_rfl) e18) e2 (HA.out.rb hR).load ⟨Rb.refl _, rfl⟩
          refine Owed.cons ?_ ?_
          · -- 10: slot 20 := Op.call { callee := Callee.value (Operand.func 11), args := #[Operand.tmp 19], argTypes := #[23] }
            intro a w hR F
            have e18 : a.eval (.tmp 18) = .bool false := F.new 8 18 (by kernel_rfl)
            have e19 : a.eval (.tmp 19) = vv (k) (n) (s) := F.new 9 19 (by kernel_rfl)
            refine ok_call 11 _ _ #[vv (k) (n) (s)] rfl (wanted_true (j := 8) (d := 18) rfl (by kernel_rfl) e18) (by simp [e19]) (Tryd.call11 _ _) ?_
            exact val_call_below (right_is k n s w hs r1)
          refine Owed.cons ?_ ?_
          · -- 11: slot 21 := Op.unOp UnOp.not 4 (Operand.tmp 20)
            intro a w hR F
            have e18 : a.eval (.tmp 18) = .bool false := F.new 8 18 (by kernel_rfl)
            have e20 : a.eval (.tmp 20) = .bool false := F.new 10 20 (by kernel_rfl)
            exact ok_not _ _ false rfl (wanted_true (j := 8) (d := 18) rfl (by kernel_rfl) e18) e20 ⟨Rb.refl _, rfl⟩
          refine Owed.cons ?_ ?_
          · -- 12: slot 22 := Op.pick (Operand.tmp 18) (Operand.const (Value.bool true)) (Operand.tmp 21)
            intro a w hR F
            have e18 : a.eval (.tmp 18) = .bool false := F.new 8 18 (by kernel_rfl)
            have e21 : a.eval (.tmp 21) = .bool true := F.new 11 21 (by kernel_rfl)
            exact ok_pick _ _ _ false rfl (wanted_none rfl) e18 ⟨Rb.refl _, e21⟩
          refine Owed.cons ?_ ?_
          · -- 13: slot 23 := Op.move (Operand.tmp 22)
            intro a w hR F
            have e22 : a.eval (.tmp 22) = .bool true := F.new 12 22 (by kernel_rfl)
            exact ok_move _ rfl (wanted_none rfl) ⟨Rb.refl _, e22⟩
          refine Owed.cons ?_ ?_
          · -- 14: slot 24 := Op.load 23 (Operand.tmp 3)
            intro a w hR F
            have e23 : a.eval (.tmp 23) = .bool true := F.new 13 23 (by kernel_rfl)
            exact ok_skip (wanted_false (j := 13) (d := 23) rfl (by kernel_rfl) e23) ⟨Rb.refl _, rfl⟩
          refine Owed.cons ?_ ?_
          · -- 15: slot 25 := Op.call { callee := Callee.value (Operand.func 11), args := #[Operand.tmp 24], argTypes := #[23] }
            intro a w hR F
            have e23 : a.eval (.tmp 23) = .bool true := F.new 13 23 (by kernel_rfl)
            exact ok_skip (wanted_false (j := 13) (d := 23) rfl (by kernel_rfl) e23) ⟨Rb.refl _, rfl⟩
          refine Owed.cons ?_ ?_
          · -- 16: slot 26 := Op.unOp UnOp.not 4 (Operand.tmp 25)
            intro a w hR F
            have e23 : a.eval (.tmp 23) = .bool true := F.new 13 23 (by kernel_rfl)
            exact ok_skip (wanted_false (j := 13) (d := 23) rfl (by kernel_rfl) e23) ⟨Rb.refl _, rfl⟩
          refine Owed.cons ?_ ?_
          · -- 17: slot 27 := Op.pick (Operand.tmp 23) (Operand.const (Value.bool true)) (Operand.tmp 26)
            intro a w hR F
            have e23 : a.eval (.tmp 23) = .bool true := F.new 13 23 (by kernel_rfl)
            exact ok_pick _ _ _ true rfl (wanted_none rfl) e23 ⟨Rb.refl _, rfl⟩
          exact Owed.nil
        case fin =>
          intro y w hR hy
          have e17 : y 17 = .bool true := hy 17 _ rfl
          have HA := Lib.hid (HA.out.rb hR)
          have HD := Lib.hid (HD.out.rb hR)
          have HB := Lib.hid (Rb.trans _ _ _ HB.out hR)
          clear hy hR
          simp only [putAll, Act.put, List.setIfInBounds_toArray, List.set_cons_zero, List.set_cons_succ]
          rw [e17]
          clear e17
          go_wp2_with fail
          refine (lives_any _ (HT.out.rb HB.out)).mono ?_
          rintro e w1 ⟨rfl, hb⟩
          have HB := Lib.hid (Rb.trans _ _ _ HB.out hb)
          clear hb
          go_wp2
          go_ret
          exact ⟨rfl, HB.out⟩
      · cases r2 : rightB k1 n1 s1.data.toList
        · have HX := Lib.hid r1
          go_enter Tryd.func7, Tryd.ntmps7
          go_upto_region 1 with (fail)
          refine wp_region_plain_specs (R := Rb) (S := [Spec.eq (vv (k) (n) (s)), Spec.eq (.bool true), Spec.eq (.bool false), Spec.eq (.bool false), Spec.eq (vv (k1) (n1) (s1)), Spec.eq (.bool true), Spec.eq (.bool false), Spec.eq (.bool false), Spec.eq (.bool false), Spec.eq (vv (k) (n) (s)), Spec.eq (.bool true), Spec.eq (.bool false), Spec.eq (.bool false), Spec.eq (.bool false), Spec.eq (vv (k1) (n1) (s1)), Spec.eq (.bool false), Spec.eq (.bool true), Spec.eq (.bool true)]) (n := 1) (size := 90) Rb.trans (Rb.refl _) rfl (by kernel_rfl) ?owed ?fin
          case owed =>
            refine Owed.cons ?_ ?_
            · -- 0: slot 10 := Op.load 23 (Operand.tmp 2)
              intro a w hR F
              have e2 : a.eval (.tmp 2) = .pointer (some ⟨w0.heap.size, 0, none⟩) := F.old 2 (by kernel_rfl)
              exact ok_load _ _ rfl (wanted_none rfl) e2 (HA.out.rb hR).load ⟨Rb.refl _, rfl⟩
            refine Owed.cons ?_ ?_
            · -- 1: slot 11 := Op.call { callee := Callee.value (Operand.func 9), args := #[Operand.tmp 10], argTypes := #[23] }
              intro a w hR F
              have e10 : a.eval (.tmp 10) = vv (k) (n) (s) := F.new 0 10 (by kernel_rfl)
              refine ok_call 9 _ _ #[vv (k) (n) (s)] rfl (wanted_none rfl) (by simp [e10]) (Tryd.call9 _ _) ?_
              exact val_call_below (light_yes k n s w hs ha)
            refine Owed.cons ?_ ?_
            · -- 2: slot 12 := Op.unOp UnOp.not 4 (Operand.tmp 11)
              intro a w hR F
              have e11 : a.eval (.tmp 11) = .bool true := F.new 1 11 (by kernel_rfl)
              exact ok_not _ _ true rfl (wanted_none rfl) e11 ⟨Rb.refl _, rfl⟩
            refine Owed.cons ?_ ?_
            · -- 3: slot 13 := Op.move (Operand.tmp 12)
              intro a w hR F
              have e12 : a.eval (.tmp 12) = .bool false := F.new 2 12 (by kernel_rfl)
              exact ok_move _ rfl (wanted_none rfl) ⟨Rb.refl _, e12⟩
            refine Owed.cons ?_ ?_
            · -- 4: slot 14 := Op.load 23 (Operand.tmp 3)
              intro a w hR F
              have e13 : a.eval (.tmp 13) = .bool false := F.new 3 13 (by kernel_rfl)
              have e3 : a.eval (.tmp 3) = .pointer (some ⟨w0.heap.size + 1, 0, none⟩) := F.old 3 (by kernel_rfl)
              exact ok_load _ _ rfl (wanted_true (j := 3) (d := 13) rfl (by kernel_rfl) e13) e3 (HD.out.rb hR).load ⟨Rb.refl _, rfl⟩
            refine Owed.cons ?_ ?_
            · -- 5: slot 15 := Op.call { callee := Callee.value (Operand.func 9), args := #[Operand.tmp 14], argTypes := #[23] }
              intro a w hR F
              have e13 : a.eval (.tmp 13) = .bool false := F.new 3 13 (by kernel_rfl)
              have e14 : a.eval (.tmp 14) = vv (k1) (n1) (s1) := F.new 4 14 (by kernel_rfl)
              refine ok_call 9 _ _ #[vv (k1) (n1) (s1)] rfl (wanted_true (j := 3) (d := 13) rfl (by kernel_rfl) e13) (by simp [e14]) (Tryd.call9 _ _) ?_
              exact val_call_below (light_yes k1 n1 s1 w hs1 hb)
            refine Owed.cons ?_ ?_
            · -- 6: slot 16 := Op.unOp UnOp.not 4 (Operand.tmp 15)
              intro a w hR F
              have e13 : a.eval (.tmp 13) = .bool false := F.new 3 13 (by kernel_rfl)
              have e15 : a.eval (.tmp 15) = .bool true := F.new 5 15 (by kernel_rfl)
              exact ok_not _ _ true rfl (wanted_true (j := 3) (d := 13) rfl (by kernel_rfl) e13) e15 ⟨Rb.refl _, rfl⟩
            refine Owed.cons ?_ ?_
            · -- 7: slot 17 := Op.pick (Operand.tmp 13) (Operand.const (Value.bool true)) (Operand.tmp 16)
              intro a w hR F
              have e13 : a.eval (.tmp 13) = .bool false := F.new 3 13 (by kernel_rfl)
              have e16 : a.eval (.tmp 16) = .bool false := F.new 6 16 (by kernel_rfl)
              exact ok_pick _ _ _ false rfl (wanted_none rfl) e13 ⟨Rb.refl _, e16⟩
            refine Owed.cons ?_ ?_
            · -- 8: slot 18 := Op.move (Operand.tmp 17)
              intro a w hR F
              have e17 : a.eval (.tmp 17) = .bool false := F.new 7 17 (by kernel_rfl)
              exact ok_move _ rfl (wanted_none rfl) ⟨Rb.refl _, e17⟩
            refine Owed.cons ?_ ?_
            · -- 9: slot 19 := Op.load 23 (Operand.tmp 2)
              intro a w hR F
              have e18 : a.eval (.tmp 18) = .bool false := F.new 8 18 (by kernel_rfl)
              have e2 : a.eval (.tmp 2) = .pointer (some ⟨w0.heap.size, 0, none⟩) := F.old 2 (by kernel_rfl)
              exact ok_load _ _ rfl (wanted_true (j := 8) (d := 18) rfl (by kernel_rfl) e18) e2 (HA.out.rb hR).load ⟨Rb.refl _, rfl⟩
            refine Owed.cons ?_ ?_
            · -- 10: slot 20 := Op.call { callee := Callee.value (Operand.func 11), args := #[Operand.tmp 19], argTypes := #[23] }
              intro a w hR F
              have e18 : a.eval (.tmp 18) = .bool false := F.new 8 18 (by kernel_rfl)
              have e19 : a.eval (.tmp 19) = vv (k) (n) (s) := F.new 9 19 (by kernel_rfl)
              refine ok_call 11 _ _ #[vv (k) (n) (s)] rfl (wanted_true (j := 8) (d := 18) rfl (by kernel_rfl) e18) (by simp [e19]) (Tryd.call11 _ _) ?_
              exact val_call_below (right_is k n s w hs r1)
            refine Owed.cons ?_ ?_
            · -- 11: slot 21 := Op.unOp UnOp.not 4 (Operand.tmp 20)
              intro a w hR F
              have e18 : a.eval (.tmp 18) = .bool false := F.new 8 18 (by kernel_rfl)
              have e20 : a.eval (.tmp 20) = .bool true := F.new 10 20 (by kernel_rfl)
              exact ok_not _ _ true rfl (wanted_true (j := 8) (d := 18) rfl (by kernel_rfl) e18) e20 ⟨Rb.refl _, rfl⟩
            refine Owed.cons ?_ ?_
            · -- 12: slot 22 := Op.pick (Operand.tmp 18) (Operand.const (Value.bool true)) (Operand.tmp 21)
              intro a w hR F
              have e18 : a.eval (.tmp 18) = .bool false := F.new 8 18 (by kernel_rfl)
              have e21 : a.eval (.tmp 21) = .bool false := F.new 11 21 (by kernel_rfl)
              exact ok_pick _ _ _ false rfl (wanted_none rfl) e18 ⟨Rb.refl _, e21⟩
            refine Owed.cons ?_ ?_
            · -- 13: slot 23 := Op.move (Operand.tmp 22)
              intro a w hR F
              have e22 : a.eval (.tmp 22) = .bool false := F.new 12 22 (by kernel_rfl)
              exact ok_move _ rfl (wanted_none rfl) ⟨Rb.refl _, e22⟩
            refine Owed.cons ?_ ?_
            · -- 14: slot 24 := Op.load 23 (Operand.tmp 3)
              intro a w hR F
              have e23 : a.eval (.tmp 23) = .bool false := F.new 13 23 (by kernel_rfl)
              have e3 : a.eval (.tmp 3) = .pointer (some ⟨w0.heap.size + 1, 0, none⟩) := F.old 3 (by kernel_rfl)
              exact ok_load _ _ rfl (wanted_true (j := 13) (d := 23) rfl (by kernel_rfl) e23) e3 (HD.out.rb hR).load ⟨Rb.refl _, rfl⟩
            refine Owed.cons ?_ ?_
            · -- 15: slot 25 := Op.call { callee := Callee.value (Operand.func 11), args := #[Operand.tmp 24], argTypes := #[23] }
              intro a w hR F
              have e23 : a.eval (.tmp 23) = .bool false := F.new 13 23 (by kernel_rfl)
              have e24 : a.eval (.tmp 24) = vv (k1) (n1) (s1) := F.new 14 24 (by kernel_rfl)
              refine ok_call 11 _ _ #[vv (k1) (n1) (s1)] rfl (wanted_true (j := 13) (d := 23) rfl (by kernel_rfl) e23) (by simp [e24]) (Tryd.call11 _ _) ?_
              exact val_call_below (right_is k1 n1 s1 w hs1 r2)
            refine Owed.cons ?_ ?_
            · -- 16: slot 26 := Op.unOp UnOp.not 4 (Operand.tmp 25)
              intro a w hR F
              have e23 : a.eval (.tmp 23) = .bool false := F.new 13 23 (by kernel_rfl)
              have e25 : a.eval (.tmp 25) = .bool false := F.new 15 25 (by kernel_rfl)
              exact ok_not _ _ false rfl (wanted_true (j := 13) (d := 23) rfl (by kernel_rfl) e23) e25 ⟨Rb.refl _, rfl⟩
            refine Owed.cons ?_ ?_
            · -- 17: slot 27 := Op.pick (Operand.tmp 23) (Operand.const (Value.bool true)) (Operand.tmp 26)
              intro a w hR F
              have e23 : a.eval (.tmp 23) = .bool false := F.new 13 23 (by kernel_rfl)
              have e26 : a.eval (.tmp 26) = .bool true := F.new 16 26 (by kernel_rfl)
              exact ok_pick _ _ _ false rfl (wanted_none rfl) e23 ⟨Rb.refl _, e26⟩
            exact Owed.nil
          case fin =>
            intro y w hR hy
            have e17 : y 17 = .bool true := hy 17 _ rfl
            have HA := Lib.hid (HA.out.rb hR)
            have HD := Lib.hid (HD.out.rb hR)
            have HB := Lib.hid (Rb.trans _ _ _ HB.out hR)
            clear hy hR
            simp only [putAll, Act.put, List.setIfInBounds_toArray, List.set_cons_zero, List.set_cons_succ]
            rw [e17]
            clear e17
            go_wp2_with fail
            refine (lives_any _ (HT.out.rb HB.out)).mono ?_
            rintro e w1 ⟨rfl, hb⟩
            have HB := Lib.hid (Rb.trans _ _ _ HB.out hb)
            clear hb
            go_wp2
            go_ret
            exact ⟨rfl, HB.out⟩
        · have hgv : getV (bytesR k n s.data.toList) 0 = some (k, n, s.data.toList, (bytesR k n s.data.toList).length) := by rw [bytesR_of r1]; exact get_put r1 hn0 hn1
          have hpv := parse_print r1 hn0 hn1
          have hbl := bytesR_len k n s hn0 hn1
          have hpl := print_len2 r1 hn0 hn1
          have HGV := Lib.hid hgv; have HPV := Lib.hid hpv
          clear hgv hpv
          go_enter Tryd.func7, Tryd.ntmps7
          go_upto_region 1 with (fail)
          refine wp_region_plain_specs (R := Rb) (S := [Spec.eq (vv (k) (n) (s)), Spec.eq (.bool true), Spec.eq (.bool false), Spec.eq (.bool false), Spec.eq (vv (k1) (n1) (s1)), Spec.eq (.bool true), Spec.eq (.bool false), Spec.eq (.bool false), Spec.eq (.bool false), Spec.eq (vv (k) (n) (s)), Spec.eq (.bool true), Spec.eq (.bool false), Spec.eq (.bool false), Spec.eq (.bool false), Spec.eq (vv (k1) (n1) (s1)), Spec.eq (.bool true), Spec.eq (.bool false), Spec.eq (.bool false)]) (n := 1) (size := 90) Rb.trans (Rb.refl _) rfl (by kernel_rfl) ?owed ?fin
          case owed =>
            refine Owed.cons ?_ ?_
            · -- 0: slot 10 := Op.load 23 (Operand.tmp 2)
              intro a w hR F
              have e2 : a.eval (.tmp 2) = .pointer (some ⟨w0.heap.size, 0, none⟩) := F.old 2 (by kernel_rfl)
              exact ok_load _ _ rfl (wanted_none rfl) e2 (HA.out.rb hR).load ⟨Rb.refl _, rfl⟩
            refine Owed.cons ?_ ?_
            · -- 1: slot 11 := Op.call { callee := Callee.value (Operand.func 9), args := #[Operand.tmp 10], argTypes := #[23] }
              intro a w hR F
              have e10 : a.eval (.tmp 10) = vv (k) (n) (s) := F.new 0 10 (by kernel_rfl)
              refine ok_call 9 _ _ #[vv (k) (n) (s)] rfl (wanted_none rfl) (by simp [e10]) (Tryd.call9 _ _) ?_
              exact val_call_below (light_yes k n s w hs ha)
            refine Owed.cons ?_ ?_
            · -- 2: slot 12 := Op.unOp UnOp.not 4 (Operand.tmp 11)
              intro a w hR F
              have e11 : a.eval (.tmp 11) = .bool true := F.new 1 11 (by kernel_rfl)
              exact ok_not _ _ true rfl (wanted_none rfl) e11 ⟨Rb.refl _, rfl⟩
            refine Owed.cons ?_ ?_
            · -- 3: slot 13 := Op.move (Operand.tmp 12)
              intro a w hR F
              have e12 : a.eval (.tmp 12) = .bool false := F.new 2 12 (by kernel_rfl)
              exact ok_move _ rfl (wanted_none rfl) ⟨Rb.refl _, e12⟩
            refine Owed.cons ?_ ?_
            · -- 4: slot 14 := Op.load 23 (Operand.tmp 3)
              intro a w hR F
              have e13 : a.eval (.tmp 13) = .bool false := F.new 3 13 (by kernel_rfl)
              have e3 : a.eval (.tmp 3) = .pointer (some ⟨w0.heap.size + 1, 0, none⟩) := F.old 3 (by kernel_rfl)
              exact ok_load _ _ rfl (wanted_true (j := 3) (d := 13) rfl (by kernel_rfl) e13) e3 (HD.out.rb hR).load ⟨Rb.refl _, rfl⟩
            refine Owed.cons ?_ ?_
            · -- 5: slot 15 := Op.call { callee := Callee.value (Operand.func 9), args := #[Operand.tmp 14], argTypes := #[23] }
              intro a w hR F
              have e13 : a.eval (.tmp 13) = .bool false := F.new 3 13 (by kernel_rfl)
              have e14 : a.eval (.tmp 14) = vv (k1) (n1) (s1) := F.new 4 14 (by kernel_rfl)
              refine ok_call 9 _ _ #[vv (k1) (n1) (s1)] rfl (wanted_true (j := 3) (d := 13) rfl (by kernel_rfl) e13) (by simp [e14]) (Tryd.call9 _ _) ?_
              exact val_call_below (light_yes k1 n1 s1 w hs1 hb)
            refine Owed.cons ?_ ?_
            · -- 6: slot 16 := Op.unOp UnOp.not 4 (Operand.tmp 15)
              intro a w hR F
              have e13 : a.eval (.tmp 13) = .bool false := F.new 3 13 (by kernel_rfl)
              have e15 : a.eval (.tmp 15) = .bool true := F.new 5 15 (by kernel_rfl)
              exact ok_not _ _ true rfl (wanted_true (j := 3) (d := 13) rfl (by kernel_rfl) e13) e15 ⟨Rb.refl _, rfl⟩
            refine Owed.cons ?_ ?_
            · -- 7: slot 17 := Op.pick (Operand.tmp 13) (Operand.const (Value.bool true)) (Operand.tmp 16)
              intro a w hR F
              have e13 : a.eval (.tmp 13) = .bool false := F.new 3 13 (by kernel_rfl)
              have e16 : a.eval (.tmp 16) = .bool false := F.new 6 16 (by kernel_rfl)
              exact ok_pick _ _ _ false rfl (wanted_none rfl) e13 ⟨Rb.refl _, e16⟩
            refine Owed.cons ?_ ?_
            · -- 8: slot 18 := Op.move (Operand.tmp 17)
              intro a w hR F
              have e17 : a.eval (.tmp 17) = .bool false := F.new 7 17 (by kernel_rfl)
              exact ok_move _ rfl (wanted_none rfl) ⟨Rb.refl _, e17⟩
            refine Owed.cons ?_ ?_
            · -- 9: slot 19 := Op.load 23 (Operand.tmp 2)
              intro a w hR F
              have e18 : a.eval (.tmp 18) = .bool false := F.new 8 18 (by kernel_rfl)
              have e2 : a.eval (.tmp 2) = .pointer (some ⟨w0.heap.size, 0, none⟩) := F.old 2 (by kernel_rfl)
              exact ok_load _ _ rfl (wanted_true (j := 8) (d := 18) rfl (by kernel_rfl) e18) e2 (HA.out.rb hR).load ⟨Rb.refl _, rfl⟩
            refine Owed.cons ?_ ?_
            · -- 10: slot 20 := Op.call { callee := Callee.value (Operand.func 11), args := #[Operand.tmp 19], argTypes := #[23] }
              intro a w hR F
              have e18 : a.eval (.tmp 18) = .bool false := F.new 8 18 (by kernel_rfl)
              have e19 : a.eval (.tmp 19) = vv (k) (n) (s) := F.new 9 19 (by kernel_rfl)
              refine ok_call 11 _ _ #[vv (k) (n) (s)] rfl (wanted_true (j := 8) (d := 18) rfl (by kernel_rfl) e18) (by simp [e19]) (Tryd.call11 _ _) ?_
              exact val_call_below (right_is k n s w hs r1)
            refine Owed.cons ?_ ?_
            · -- 11: slot 21 := Op.unOp UnOp.not 4 (Operand.tmp 20)
              intro a w hR F
              have e18 : a.eval (.tmp 18) = .bool false := F.new 8 18 (by kernel_rfl)
              have e20 : a.eval (.tmp 20) = .bool true := F.new 10 20 (by kernel_rfl)
              exact ok_not _ _ true rfl (wanted_true (j := 8) (d := 18) rfl (by kernel_rfl) e18) e20 ⟨Rb.refl _, rfl⟩
            refine Owed.cons ?_ ?_
            · -- 12: slot 22 := Op.pick (Operand.tmp 18) (Operand.const (Value.bool true)) (Operand.tmp 21)
              intro a w hR F
              have e18 : a.eval (.tmp 18) = .bool false := F.new 8 18 (by kernel_rfl)
              have e21 : a.eval (.tmp 21) = .bool false := F.new 11 21 (by kernel_rfl)
              exact ok_pick _ _ _ false rfl (wanted_none rfl) e18 ⟨Rb.refl _, e21⟩
            refine Owed.cons ?_ ?_
            · -- 13: slot 23 := Op.move (Operand.tmp 22)
              intro a w hR F
              have e22 : a.eval (.tmp 22) = .bool false := F.new 12 22 (by kernel_rfl)
              exact ok_move _ rfl (wanted_none rfl) ⟨Rb.refl _, e22⟩
            refine Owed.cons ?_ ?_
            · -- 14: slot 24 := Op.load 23 (Operand.tmp 3)
              intro a w hR F
              have e23 : a.eval (.tmp 23) = .bool false := F.new 13 23 (by kernel_rfl)
              have e3 : a.eval (.tmp 3) = .pointer (some ⟨w0.heap.size + 1, 0, none⟩) := F.old 3 (by kernel_rfl)
              exact ok_load _ _ rfl (wanted_true (j := 13) (d := 23) rfl (by kernel_rfl) e23) e3 (HD.out.rb hR).load ⟨Rb.refl _, rfl⟩
            refine Owed.cons ?_ ?_
            · -- 15: slot 25 := Op.call { callee := Callee.value (Operand.func 11), args := #[Operand.tmp 24], argTypes := #[23] }
              intro a w hR F
              have e23 : a.eval (.tmp 23) = .bool false := F.new 13 23 (by kernel_rfl)
              have e24 : a.eval (.tmp 24) = vv (k1) (n1) (s1) := F.new 14 24 (by kernel_rfl)
              refine ok_call 11 _ _ #[vv (k1) (n1) (s1)] rfl (wanted_true (j := 13) (d := 23) rfl (by kernel_rfl) e23) (by simp [e24]) (Tryd.call11 _ _) ?_
              exact val_call_below (right_is k1 n1 s1 w hs1 r2)
            refine Owed.cons ?_ ?_
            · -- 16: slot 26 := Op.unOp UnOp.not 4 (Operand.tmp 25)
              intro a w hR F
              have e23 : a.eval (.tmp 23) = .bool false := F.new 13 23 (by kernel_rfl)
              have e25 : a.eval (.tmp 25) = .bool true := F.new 15 25 (by kernel_rfl)
              exact ok_not _ _ true rfl (wanted_true (j := 13) (d := 23) rfl (by kernel_rfl) e23) e25 ⟨Rb.refl _, rfl⟩
            refine Owed.cons ?_ ?_
            · -- 17: slot 27 := Op.pick (Operand.tmp 23) (Operand.const (Value.bool true)) (Operand.tmp 26)
              intro a w hR F
              have e23 : a.eval (.tmp 23) = .bool false := F.new 13 23 (by kernel_rfl)
              have e26 : a.eval (.tmp 26) = .bool false := F.new 16 26 (by kernel_rfl)
              exact ok_pick _ _ _ false rfl (wanted_none rfl) e23 ⟨Rb.refl _, e26⟩
            exact Owed.nil
          case fin =>
            intro y w hR hy
            have e17 : y 17 = .bool false := hy 17 _ rfl
            have HA := Lib.hid (HA.out.rb hR)
            have HD := Lib.hid (HD.out.rb hR)
            have HB := Lib.hid (Rb.trans _ _ _ HB.out hR)
            clear hy hR
            simp only [putAll, Act.put, List.setIfInBounds_toArray, List.set_cons_zero, List.set_cons_succ]
            rw [e17]
            clear e17
            go_upto_region 3 with (fail)
            go_cut [5, 6, 7] (fun p q r wx => ∃ B, p = .pointer (some ⟨B, 0, none⟩) ∧ q = .int .i64 ((bytesR k n s.data.toList).length : Int) ∧ r = .bool true ∧ HeldV wx B k n s ∧ HeldV wx w0.heap.size k n s ∧ HeldV wx (w0.heap.size + 1) k1 n1 s1 ∧ Rb w0 wx)
            case first =>
              have z0 := HA.out.1
              have z1 := HA.out.2.1
              have z2 := HA.out.2.2
              go_wp2_with fail
              refine (put_any (.slice none 0 0) [] k n s _ (Bs.nil _) (by simp) hs hn0 hn1).mono ?_
              rintro e w1 ⟨u, rfl, ho, hb⟩
              have hu := Bs.of_owns ho
              rw [List.nil_append] at hu
              clear ho z0 z1 z2
              have HA := Lib.hid (HA.out.rb hb)
              have HD := Lib.hid (HD.out.rb hb)
              have HB := Lib.hid (Rb.trans _ _ _ HB.out hb)
              clear hb
              have hg := get_any u (bytesR k n s.data.toList) 0 w1 hu (by omega)
              rw [HGV.out, tupV_s] at hg
              have HG := Lib.hid hg
              clear hg hu
              go_wp2_with fail
              refine HG.out.mono ?_
              rintro e w2 ⟨rfl, hb⟩
              have HA := Lib.hid (HA.out.rb hb)
              have HD := Lib.hid (HD.out.rb hb)
              have HB := Lib.hid (Rb.trans _ _ _ HB.out hb)
              clear hb
              go_wp2_with fail
              go_meet
              have g1 := (show Rb w2 (w2.alloc (.cells #[.int .i64 k, .int .i64 n, .string s] 23)) from (Below.refl _ _).alloc (Nat.le_refl _) _)
              exact ⟨w2.heap.size, rfl, rfl, rfl, HeldV.at w2 _ _ _ _ _ rfl, HA.out.rb g1, HD.out.rb g1, Rb.trans _ _ _ HB.out g1⟩
            case rest =>
              obtain ⟨B1, rfl, rfl, rfl, hg1, ha1, hd1, hb1⟩ := hcut
              clear HA HD HB
              have HA := Lib.hid ha1; have HD := Lib.hid hd1; have HB := Lib.hid hb1; have HG1 := Lib.hid hg1
              clear ha1 hd1 hb1 hg1
              go_upto_region 4 with (fail)
              go_cut [8, 9] (fun p q wx => ∃ B, p = .pointer (some ⟨B, 0, none⟩) ∧ q = .bool true ∧ HeldV wx B k n s ∧ HeldV wx B1 k n s ∧ HeldV wx w0.heap.size k n s ∧ HeldV wx (w0.heap.size + 1) k1 n1 s1 ∧ Rb w0 wx)
              case first =>
                have z0 := HA.out.1
                have z1 := HA.out.2.1
                have z2 := HA.out.2.2
                go_wp2_with fail
                refine (print_any k n s _ hs hn0 hn1 (HT.out.rb HB.out)).mono ?_
                rintro e w1 ⟨rfl, hb⟩
                clear z0 z1 z2
                have HG1 := Lib.hid (HG1.out.rb hb)
                have HA := Lib.hid (HA.out.rb hb)
                have HD := Lib.hid (HD.out.rb hb)
                have HB := Lib.hid (Rb.trans _ _ _ HB.out hb)
                clear hb
                have hg := parse_any (str (printV k n s.data.toList)) w1 (by rw [str_size]; exact hpl) (HT.out.rb HB.out) (HE.out.rb HB.out)
                rw [show (str (printV k n s.data.toList)).data.toList = printV k n s.data.toList from rfl, HPV.out, tupP_s] at hg
                have HG := Lib.hid hg
                clear hg
                unfold strV
                go_wp2_with fail
                refine HG.out.mono ?_
                rintro e w2 ⟨rfl, hb⟩
                have HG1 := Lib.hid (HG1.out.rb hb)
                have HA := Lib.hid (HA.out.rb hb)
                have HD := Lib.hid (HD.out.rb hb)
                have HB := Lib.hid (Rb.trans _ _ _ HB.out hb)
                clear hb
                go_wp2_with fail
                go_meet
                have g1 := (show Rb w2 (w2.alloc (.cells #[.int .i64 k, .int .i64 n, .string s] 23)) from (Below.refl _ _).alloc (Nat.le_refl _) _)
                exact ⟨w2.heap.size, rfl, rfl, HeldV.at w2 _ _ _ _ _ rfl, HG1.out.rb g1, HA.out.rb g1, HD.out.rb g1, Rb.trans _ _ _ HB.out g1⟩
              case rest =>
                obtain ⟨B2, rfl, rfl, hg2, hg1, ha1, hd1, hb1⟩ := hcut
                clear HA HD HB HG1
                have HA := Lib.hid ha1; have HD := Lib.hid hd1; have HB := Lib.hid hb1; have HG1 := Lib.hid hg1; have HG2 := Lib.hid hg2
                clear ha1 hd1 hb1 hg1 hg2
                go_upto_region 5 with (fail)
                refine wp_region_plain_specs (R := Rb) (S := [Spec.eq (.bool true), Spec.eq (.bool false), Spec.eq (.bool false), Spec.eq (.bool true), Spec.eq (.bool false), Spec.eq (.bool false), Spec.eq (.bool false), Spec.eq (vv (k) (n) (s)), Spec.eq (vv (k) (n) (s)), Spec.eq (.bool false), Spec.eq (.bool false), Spec.eq (.bool false), Spec.eq (vv (k) (n) (s)), Spec.eq (vv (k) (n) (s)), Spec.eq (.bool false), Spec.eq (.bool false), Spec.eq (.bool false), Spec.eq (.int .i64 (((bytesR k n s.data.toList).length : Int))), Spec.eq (vv (k) (n) (s)), bsSpec (bytesR k n s.data.toList), Spec.eq (.int .i64 (((bytesR k n s.data.toList).length : Int))), Spec.eq (.bool false), Spec.eq (.bool false)]) (n := 1) (size := 90) Rb.trans (Rb.refl _) rfl (by kernel_rfl) ?owed ?fin
                case owed =>
                  refine Owed.cons ?_ ?_
                  · -- 0: slot 42 := Op.move (Operand.tmp 7)
                    intro a w hR F
                    have e7 : a.eval (.tmp 7) = .bool true := F.old 7 (by kernel_rfl)
                    exact ok_move _ rfl (wanted_none rfl) ⟨Rb.refl _, e7⟩
                  refine Owed.cons ?_ ?_
                  · -- 1: slot 43 := Op.unOp UnOp.not 4 (Operand.tmp 42)
                    intro a w hR F
                    have e42 : a.eval (.tmp 42) = .bool true := F.new 0 42 (by kernel_rfl)
                    exact ok_not _ _ true rfl (wanted_none rfl) e42 ⟨Rb.refl _, rfl⟩
                  refine Owed.cons ?_ ?_
                  · -- 2: slot 44 := Op.move (Operand.tmp 43)
                    intro a w hR F
                    have e43 : a.eval (.tmp 43) = .bool false := F.new 1 43 (by kernel_rfl)
                    exact ok_move _ rfl (wanted_none rfl) ⟨Rb.refl _, e43⟩
                  refine Owed.cons ?_ ?_
                  · -- 3: slot 45 := Op.move (Operand.tmp 9)
                    intro a w hR F
                    have e44 : a.eval (.tmp 44) = .bool false := F.new 2 44 (by kernel_rfl)
                    have e9 : a.eval (.tmp 9) = .bool true := F.old 9 (by kernel_rfl)
                    exact ok_move _ rfl (wanted_true (j := 2) (d := 44) rfl (by kernel_rfl) e44) ⟨Rb.refl _, e9⟩
                  refine Owed.cons ?_ ?_
                  · -- 4: slot 46 := Op.unOp UnOp.not 4 (Operand.tmp 45)
                    intro a w hR F
                    have e44 : a.eval (.tmp 44) = .bool false := F.new 2 44 (by kernel_rfl)
                    have e45 : a.eval (.tmp 45) = .bool true := F.new 3 45 (by kernel_rfl)
                    exact ok_not _ _ true rfl (wanted_true (j := 2) (d := 44) rfl (by kernel_rfl) e44) e45 ⟨Rb.refl _, rfl⟩
                  refine Owed.cons ?_ ?_
                  · -- 5: slot 47 := Op.pick (Operand.tmp 44) (Operand.const (Value.bool true)) (Operand.tmp 46)
                    intro a w hR F
                    have e44 : a.eval (.tmp 44) = .bool false := F.new 2 44 (by kernel_rfl)
                    have e46 : a.eval (.tmp 46) = .bool false := F.new 4 46 (by kernel_rfl)
                    exact ok_pick _ _ _ false rfl (wanted_none rfl) e44 ⟨Rb.refl _, e46⟩
                  refine Owed.cons ?_ ?_
                  · -- 6: slot 48 := Op.move (Operand.tmp 47)
                    intro a w hR F
                    have e47 : a.eval (.tmp 47) = .bool false := F.new 5 47 (by kernel_rfl)
                    exact ok_move _ rfl (wanted_none rfl) ⟨Rb.refl _, e47⟩
                  refine Owed.cons ?_ ?_
                  · -- 7: slot 49 := Op.load 23 (Operand.tmp 5)
                    intro a w hR F
                    have e48 : a.eval (.tmp 48) = .bool false := F.new 6 48 (by kernel_rfl)
                    have e5 : a.eval (.tmp 5) = .pointer (some ⟨B1, 0, none⟩) := F.old 5 (by kernel_rfl)
                    exact ok_load _ _ rfl (wanted_true (j := 6) (d := 48) rfl (by kernel_rfl) e48) e5 (HG1.out.rb hR).load ⟨Rb.refl _, rfl⟩
                  refine Owed.cons ?_ ?_
                  · -- 8: slot 50 := Op.load 23 (Operand.tmp 2)
                    intro a w hR F
                    have e48 : a.eval (.tmp 48) = .bool false := F.new 6 48 (by kernel_rfl)
                    have e2 : a.eval (.tmp 2) = .pointer (some ⟨w0.heap.size, 0, none⟩) := F.old 2 (by kernel_rfl)
                    exact ok_load _ _ rfl (wanted_true (j := 6) (d := 48) rfl (by kernel_rfl) e48) e2 (HA.out.rb hR).load ⟨Rb.refl _, rfl⟩
                  refine Owed.cons ?_ ?_
                  · -- 9: slot 51 := Op.binOp BinOp.neq 23 (Operand.tmp 49) (Operand.tmp 50) 23
                    intro a w hR F
                    have e48 : a.eval (.tmp 48) = .bool false := F.new 6 48 (by kernel_rfl)
                    have e49 : a.eval (.tmp 49) = vv (k) (n) (s) := F.new 7 49 (by kernel_rfl)
                    have e50 : a.eval (.tmp 50) = vv (k) (n) (s) := F.new 8 50 (by kernel_rfl)
                    refine ok_bin _ _ _ _ _ rfl (wanted_true (j := 6) (d := 48) rfl (by kernel_rfl) e48) e49 e50 (run_neqV _ _ _ _ _ _ _ _) ⟨Rb.refl _, ?_⟩
                    exact congrArg Value.bool (by unfold eqVB; simp)
                  refine Owed.cons ?_ ?_
                  · -- 10: slot 52 := Op.pick (Operand.tmp 48) (Operand.const (Value.bool true)) (Operand.tmp 51)
                    intro a w hR F
                    have e48 : a.eval (.tmp 48) = .bool false := F.new 6 48 (by kernel_rfl)
                    have e51 : a.eval (.tmp 51) = .bool false := F.new 9 51 (by kernel_rfl)
                    exact ok_pick _ _ _ false rfl (wanted_none rfl) e48 ⟨Rb.refl _, e51⟩
                  refine Owed.cons ?_ ?_
                  · -- 11: slot 53 := Op.move (Operand.tmp 52)
                    intro a w hR F
                    have e52 : a.eval (.tmp 52) = .bool false := F.new 10 52 (by kernel_rfl)
                    exact ok_move _ rfl (wanted_none rfl) ⟨Rb.refl _, e52⟩
                  refine Owed.cons ?_ ?_
                  · -- 12: slot 54 := Op.load 23 (Operand.tmp 8)
                    intro a w hR F
                    have e53 : a.eval (.tmp 53) = .bool false := F.new 11 53 (by kernel_rfl)
                    have e8 : a.eval (.tmp 8) = .pointer (some ⟨B2, 0, none⟩) := F.old 8 (by kernel_rfl)
                    exact ok_load _ _ rfl (wanted_true (j := 11) (d := 53) rfl (by kernel_rfl) e53) e8 (HG2.out.rb hR).load ⟨Rb.refl _, rfl⟩
                  refine Owed.cons ?_ ?_
                  · -- 13: slot 55 := Op.load 23 (Operand.tmp 2)
                    intro a w hR F
                    have e53 : a.eval (.tmp 53) = .bool false := F.new 11 53 (by kernel_rfl)
                    have e2 : a.eval (.tmp 2) = .pointer (some ⟨w0.heap.size, 0, none⟩) := F.old 2 (by kernel_rfl)
                    exact ok_load _ _ rfl (wanted_true (j := 11) (d := 53) rfl (by kernel_rfl) e53) e2 (HA.out.rb hR).load ⟨Rb.refl _, rfl⟩
                  refine Owed.cons ?_ ?_
                  · -- 14: slot 56 := Op.binOp BinOp.neq 23 (Operand.tmp 54) (Operand.tmp 55) 23
                    intro a w hR F
                    have e53 : a.eval (.tmp 53) = .bool false := F.new 11 53 (by kernel_rfl)
                    have e54 : a.eval (.tmp 54) = vv (k) (n) (s) := F.new 12 54 (by kernel_rfl)
                    have e55 : a.eval (.tmp 55) = vv (k) (n) (s) := F.new 13 55 (by kernel_rfl)
                    refine ok_bin _ _ _ _ _ rfl (wanted_true (j := 11) (d := 53) rfl (by kernel_rfl) e53) e54 e55 (run_neqV _ _ _ _ _ _ _ _) ⟨Rb.refl _, ?_⟩
                    exact congrArg Value.bool (by unfold eqVB; simp)
                  refine Owed.cons ?_ ?_
                  · -- 15: slot 57 := Op.pick (Operand.tmp 53) (Operand.const (Value.bool true)) (Operand.tmp 56)
                    intro a w hR F
                    have e53 : a.eval (.tmp 53) = .bool false := F.new 11 53 (by kernel_rfl)
                    have e56 : a.eval (.tmp 56) = .bool false := F.new 14 56 (by kernel_rfl)
                    exact ok_pick _ _ _ false rfl (wanted_none rfl) e53 ⟨Rb.refl _, e56⟩
                  refine Owed.cons ?_ ?_
                  · -- 16: slot 58 := Op.move (Operand.tmp 57)
                    intro a w hR F
                    have e57 : a.eval (.tmp 57) = .bool false := F.new 15 57 (by kernel_rfl)
                    exact ok_move _ rfl (wanted_none rfl) ⟨Rb.refl _, e57⟩
                  refine Owed.cons ?_ ?_
                  · -- 17: slot 59 := Op.move (Operand.tmp 6)
                    intro a w hR F
                    have e58 : a.eval (.tmp 58) = .bool false := F.new 16 58 (by kernel_rfl)
                    have e6 : a.eval (.tmp 6) = .int .i64 (((bytesR k n s.data.toList).length : Int)) := F.old 6 (by kernel_rfl)
                    exact ok_move _ rfl (wanted_true (j := 16) (d := 58) rfl (by kernel_rfl) e58) ⟨Rb.refl _, e6⟩
                  refine Owed.cons ?_ ?_
                  · -- 18: slot 60 := Op.load 23 (Operand.tmp 2)
                    intro a w hR F
                    have e58 : a.eval (.tmp 58) = .bool false := F.new 16 58 (by kernel_rfl)
                    have e2 : a.eval (.tmp 2) = .pointer (some ⟨w0.heap.size, 0, none⟩) := F.old 2 (by kernel_rfl)
                    exact ok_load _ _ rfl (wanted_true (j := 16) (d := 58) rfl (by kernel_rfl) e58) e2 (HA.out.rb hR).load ⟨Rb.refl _, rfl⟩
                  refine Owed.cons ?_ ?_
                  · -- 19: slot 61 := Op.call { callee := Callee.value (Operand.func 28), args := #[Operand.const (Value.slice none 0 0), 
                    intro a w hR F
                    have e58 : a.eval (.tmp 58) = .bool false := F.new 16 58 (by kernel_rfl)
                    have e60 : a.eval (.tmp 60) = vv (k) (n) (s) := F.new 18 60 (by kernel_rfl)
                    refine ok_call 28 _ _ #[(.slice none 0 0), vv (k) (n) (s)] rfl (wanted_true (j := 16) (d := 58) rfl (by kernel_rfl) e58) (by simp only [List.map_toArray, List.map_cons, List.map_nil, e60]; rfl) (Tryd.call28 _ _) ?_
                    exact own_call (put_any (.slice none 0 0) [] k n s w (Bs.nil w) (by simp) hs hn0 hn1)
                  refine Owed.cons ?_ ?_
                  · -- 20: slot 62 := Op.call { callee := Callee.builtin Builtin.len, args := #[Operand.tmp 61], argTypes := #[37] }
                    intro a w hR F
                    have e58 : a.eval (.tmp 58) = .bool false := F.new 16 58 (by kernel_rfl)
                    have e61 : Bs w (a.eval (.tmp 61)) (bytesR k n s.data.toList) := F.new 19 61 (by kernel_rfl)
                    exact ok_len_bs _ _ 5 Tryd.underlying37 _ rfl (wanted_true (j := 16) (d := 58) rfl (by kernel_rfl) e58) e61 ⟨Rb.refl _, rfl⟩
                  refine Owed.cons ?_ ?_
                  · -- 21: slot 63 := Op.binOp BinOp.neq 3 (Operand.tmp 59) (Operand.tmp 62) 3
                    intro a w hR F
                    have e58 : a.eval (.tmp 58) = .bool false := F.new 16 58 (by kernel_rfl)
                    have e59 : a.eval (.tmp 59) = .int .i64 (((bytesR k n s.data.toList).length : Int)) := F.new 17 59 (by kernel_rfl)
                    have e62 : a.eval (.tmp 62) = .int .i64 (((bytesR k n s.data.toList).length : Int)) := F.new 20 62 (by kernel_rfl)
                    refine ok_bin _ _ _ _ _ rfl (wanted_true (j := 16) (d := 58) rfl (by kernel_rfl) e58) e59 e62 (run_neq_int _ _ _ _ _ _) ⟨Rb.refl _, ?_⟩
                    exact congrArg Value.bool (by simp)
                  refine Owed.cons ?_ ?_
                  · -- 22: slot 64 := Op.pick (Operand.tmp 58) (Operand.const (Value.bool true)) (Operand.tmp 63)
                    intro a w hR F
                    have e58 : a.eval (.tmp 58) = .bool false := F.new 16 58 (by kernel_rfl)
                    have e63 : a.eval (.tmp 63) = .bool false := F.new 21 63 (by kernel_rfl)
                    exact ok_pick _ _ _ false rfl (wanted_none rfl) e58 ⟨Rb.refl _, e63⟩
                  exact Owed.nil
                case fin =>
                  intro y w hR hy
                  have e22 : y 22 = .bool false := hy 22 _ rfl
                  have HA := Lib.hid (HA.out.rb hR)
                  have HD := Lib.hid (HD.out.rb hR)
                  have HB := Lib.hid (Rb.trans _ _ _ HB.out hR)
                  clear hy hR
                  simp only [putAll, Act.put, List.setIfInBounds_toArray, List.set_cons_zero, List.set_cons_succ]
                  rw [e22]
                  clear e22
                  go_upto_region 7 with (fail)
                  refine wp_region_specs (R := Rb) (S := [Spec.eq (vv (k) (n) (s)), bsSpec (bytesR k n s.data.toList), Spec.eq (strV (bytesR k n s.data.toList)), Spec.eq (vv (k1) (n1) (s1)), bsSpec (bytesR k1 n1 s1.data.toList), Spec.eq (strV (bytesR k1 n1 s1.data.toList)), Spec.eq (.bool ((bytesR k n s.data.toList) == (bytesR k1 n1 s1.data.toList))), Spec.eq (vv (k) (n) (s)), Spec.eq (vv (k1) (n1) (s1)), Spec.eq (.bool (eqVB (k) (n) (s) (k1) (n1) (s1))), Spec.eq (.bool true), Spec.eq (.bool true), Spec.eq (vv (k) (n) (s)), Spec.eq (strV (printV k n s.data.toList)), Spec.eq (vv (k1) (n1) (s1)), Spec.eq (strV (printV k1 n1 s1.data.toList)), Spec.eq (.bool ((printV k n s.data.toList) == (printV k1 n1 s1.data.toList))), Spec.eq (vv (k) (n) (s)), Spec.eq (vv (k1) (n1) (s1)), Spec.eq (.bool (eqVB (k) (n) (s) (k1) (n1) (s1))), Spec.eq (.bool true), Spec.eq (.bool true), Spec.eq (.bool true), Spec.eq (.bool true), Spec.eq (.bool true), Spec.eq (.bool true)]) (n := 1) (size := 90) (by kernel_rfl) Rb.trans (Rb.drew _) rfl (by kernel_rfl) ?owed ?fin
                  case owed =>
                    refine Owed.cons ?_ ?_
                    · -- 0: slot 65 := Op.load 23 (Operand.tmp 2)
                      intro a w hR F
                      have e2 : a.eval (.tmp 2) = .pointer (some ⟨w0.heap.size, 0, none⟩) := F.old 2 (by kernel_rfl)
                      exact ok_load _ _ rfl (wanted_none rfl) e2 (HA.out.rb hR).load ⟨Rb.refl _, rfl⟩
                    refine Owed.cons ?_ ?_
                    · -- 1: slot 66 := Op.call { callee := Callee.value (Operand.func 28), args := #[Operand.const (Value.slice none 0 0), 
                      intro a w hR F
                      have e65 : a.eval (.tmp 65) = vv (k) (n) (s) := F.new 0 65 (by kernel_rfl)
                      refine ok_call 28 _ _ #[(.slice none 0 0), vv (k) (n) (s)] rfl (wanted_none rfl) (by simp only [List.map_toArray, List.map_cons, List.map_nil, e65]; rfl) (Tryd.call28 _ _) ?_
                      exact own_call (put_any (.slice none 0 0) [] k n s w (Bs.nil w) (by simp) hs hn0 hn1)
                    refine Owed.cons ?_ ?_
                    · -- 2: slot 67 := Op.convert 37 9 (Operand.tmp 66)
                      intro a w hR F
                      have e66 : Bs w (a.eval (.tmp 66)) (bytesR k n s.data.toList) := F.new 1 66 (by kernel_rfl)
                      exact ok_conv _ _ _ rfl (wanted_none rfl) (run_convert_Bs e66 37 5 9 Tryd.underlying37 Tryd.underlying5 Tryd.underlying9) ⟨Rb.refl _, rfl⟩
                    refine Owed.cons ?_ ?_
                    · -- 3: slot 68 := Op.load 23 (Operand.tmp 3)
                      intro a w hR F
                      have e3 : a.eval (.tmp 3) = .pointer (some ⟨w0.heap.size + 1, 0, none⟩) := F.old 3 (by kernel_rfl)
                      exact ok_load _ _ rfl (wanted_none rfl) e3 (HD.out.rb hR).load ⟨Rb.refl _, rfl⟩
                    refine Owed.cons ?_ ?_
                    · -- 4: slot 69 := Op.call { callee := Callee.value (Operand.func 28), args := #[Operand.const (Value.slice none 0 0), 
                      intro a w hR F
                      have e68 : a.eval (.tmp 68) = vv (k1) (n1) (s1) := F.new 3 68 (by kernel_rfl)
                      refine ok_call 28 _ _ #[(.slice none 0 0), vv (k1) (n1) (s1)] rfl (wanted_none rfl) (by simp only [List.map_toArray, List.map_cons, List.map_nil, e68]; rfl) (Tryd.call28 _ _) ?_
                      exact own_call (put_any (.slice none 0 0) [] k1 n1 s1 w (Bs.nil w) (by simp) hs1 hm0 hm1)
                    refine Owed.cons ?_ ?_
                    · -- 5: slot 70 := Op.convert 37 9 (Operand.tmp 69)
                      intro a w hR F
                      have e69 : Bs w (a.eval (.tmp 69)) (bytesR k1 n1 s1.data.toList) := F.new 4 69 (by kernel_rfl)
                      exact ok_conv _ _ _ rfl (wanted_none rfl) (run_convert_Bs e69 37 5 9 Tryd.underlying37 Tryd.underlying5 Tryd.underlying9) ⟨Rb.refl _, rfl⟩
                    refine Owed.cons ?_ ?_
                    · -- 6: slot 71 := Op.binOp BinOp.eql 9 (Operand.tmp 67) (Operand.tmp 70) 9
                      intro a w hR F
                      have e67 : a.eval (.tmp 67) = strV (bytesR k n s.data.toList) := F.new 2 67 (by kernel_rfl)
                      have e70 : a.eval (.tmp 70) = strV (bytesR k1 n1 s1.data.toList) := F.new 5 70 (by kernel_rfl)
                      exact ok_bin _ _ _ _ _ rfl (wanted_none rfl) e67 e70 (run_eql_strV _ _ _ _ _) ⟨Rb.refl _, rfl⟩
                    refine Owed.cons ?_ ?_
                    · -- 7: slot 72 := Op.load 23 (Operand.tmp 2)
                      intro a w hR F
                      have e2 : a.eval (.tmp 2) = .pointer (some ⟨w0.heap.size, 0, none⟩) := F.old 2 (by kernel_rfl)
                      exact ok_load _ _ rfl (wanted_none rfl) e2 (HA.out.rb hR).load ⟨Rb.refl _, rfl⟩
                    refine Owed.cons ?_ ?_
                    · -- 8: slot 73 := Op.load 23 (Operand.tmp 3)
                      intro a w hR F
                      have e3 : a.eval (.tmp 3) = .pointer (some ⟨w0.heap.size + 1, 0, none⟩) := F.old 3 (by kernel_rfl)
                      exact ok_load _ _ rfl (wanted_none rfl) e3 (HD.out.rb hR).load ⟨Rb.refl _, rfl⟩
                    refine Owed.cons ?_ ?_
                    · -- 9: slot 74 := Op.binOp BinOp.eql 23 (Operand.tmp 72) (Operand.tmp 73) 23
                      intro a w hR F
                      have e72 : a.eval (.tmp 72) = vv (k) (n) (s) := F.new 7 72 (by kernel_rfl)
                      have e73 : a.eval (.tmp 73) = vv (k1) (n1) (s1) := F.new 8 73 (by kernel_rfl)
                      exact ok_bin _ _ _ _ _ rfl (wanted_none rfl) e72 e73 (run_eqlV _ _ _ _ _ _ _ _) ⟨Rb.refl _, rfl⟩
                    refine Owed.cons ?_ ?_
                    · -- 10: slot 75 := Op.binOp BinOp.eql 4 (Operand.tmp 71) (Operand.tmp 74) 4
                      intro a w hR F
                      have e71 : a.eval (.tmp 71) = .bool ((bytesR k n s.data.toList) == (bytesR k1 n1 s1.data.toList)) := F.new 6 71 (by kernel_rfl)
                      have e74 : a.eval (.tmp 74) = .bool (eqVB (k) (n) (s) (k1) (n1) (s1)) := F.new 9 74 (by kernel_rfl)
                      refine ok_bin _ _ _ _ _ rfl (wanted_none rfl) e71 e74 (run_eql_boolB _ _ _ _ _ Tryd.underlying4) ⟨Rb.refl _, ?_⟩
                      exact congrArg Value.bool (by rw [bytes_inj r1 r2 hn0 hn1 hm0 hm1]; simp)
                    refine Owed.cons ?_ ?_
                    · -- 11: slot 76 := Op.move (Operand.tmp 75)
                      intro a w hR F
                      have e75 : a.eval (.tmp 75) = .bool true := F.new 10 75 (by kernel_rfl)
                      exact ok_move _ rfl (wanted_none rfl) ⟨Rb.refl _, e75⟩
                    refine Owed.cons ?_ ?_
                    · -- 12: slot 77 := Op.load 23 (Operand.tmp 2)
                      intro a w hR F
                      have e76 : a.eval (.tmp 76) = .bool true := F.new 11 76 (by kernel_rfl)
                      have e2 : a.eval (.tmp 2) = .pointer (some ⟨w0.heap.size, 0, none⟩) := F.old 2 (by kernel_rfl)
                      exact ok_load _ _ rfl (wanted_true (j := 11) (d := 76) rfl (by kernel_rfl) e76) e2 (HA.out.rb hR).load ⟨Rb.refl _, rfl⟩
                    refine Owed.cons ?_ ?_
                    · -- 13: slot 78 := Op.call { callee := Callee.value (Operand.func 32), args := #[Operand.tmp 77], argTypes := #[23] }
                      intro a w hR F
                      have e76 : a.eval (.tmp 76) = .bool true := F.new 11 76 (by kernel_rfl)
                      have e77 : a.eval (.tmp 77) = vv (k) (n) (s) := F.new 12 77 (by kernel_rfl)
                      refine ok_call 32 _ _ #[vv (k) (n) (s)] rfl (wanted_true (j := 11) (d := 76) rfl (by kernel_rfl) e76) (by simp [e77]) (Tryd.call32 _ _) ?_
                      exact val_call_below (print_any k n s w hs hn0 hn1 (HT.out.rb (Rb.trans _ _ _ HB.out hR)))
                    refine Owed.cons ?_ ?_
                    · -- 14: slot 79 := Op.load 23 (Operand.tmp 3)
                      intro a w hR F
                      have e76 : a.eval (.tmp 76) = .bool true := F.new 11 76 (by kernel_rfl)
                      have e3 : a.eval (.tmp 3) = .pointer (some ⟨w0.heap.size + 1, 0, none⟩) := F.old 3 (by kernel_rfl)
                      exact ok_load _ _ rfl (wanted_true (j := 11) (d := 76) rfl (by kernel_rfl) e76) e3 (HD.out.rb hR).load ⟨Rb.refl _, rfl⟩
                    refine Owed.cons ?_ ?_
                    · -- 15: slot 80 := Op.call { callee := Callee.value (Operand.func 32), args := #[Operand.tmp 79], argTypes := #[23] }
                      intro a w hR F
                      have e76 : a.eval (.tmp 76) = .bool true := F.new 11 76 (by kernel_rfl)
                      have e79 : a.eval (.tmp 79) = vv (k1) (n1) (s1) := F.new 14 79 (by kernel_rfl)
                      refine ok_call 32 _ _ #[vv (k1) (n1) (s1)] rfl (wanted_true (j := 11) (d := 76) rfl (by kernel_rfl) e76) (by simp [e79]) (Tryd.call32 _ _) ?_
                      exact val_call_below (print_any k1 n1 s1 w hs1 hm0 hm1 (HT.out.rb (Rb.trans _ _ _ HB.out hR)))
                    refine Owed.cons ?_ ?_
                    · -- 16: slot 81 := Op.binOp BinOp.eql 9 (Operand.tmp 78) (Operand.tmp 80) 9
                      intro a w hR F
                      have e76 : a.eval (.tmp 76) = .bool true := F.new 11 76 (by kernel_rfl)
                      have e78 : a.eval (.tmp 78) = strV (printV k n s.data.toList) := F.new 13 78 (by kernel_rfl)
                      have e80 : a.eval (.tmp 80) = strV (printV k1 n1 s1.data.toList) := F.new 15 80 (by kernel_rfl)
                      exact ok_bin _ _ _ _ _ rfl (wanted_true (j := 11) (d := 76) rfl (by kernel_rfl) e76) e78 e80 (run_eql_strV _ _ _ _ _) ⟨Rb.refl _, rfl⟩
                    refine Owed.cons ?_ ?_
                    · -- 17: slot 82 := Op.load 23 (Operand.tmp 2)
                      intro a w hR F
                      have e76 : a.eval (.tmp 76) = .bool true := F.new 11 76 (by kernel_rfl)
                      have e2 : a.eval (.tmp 2) = .pointer (some ⟨w0.heap.size, 0, none⟩) := F.old 2 (by kernel_rfl)
                      exact ok_load _ _ rfl (wanted_true (j := 11) (d := 76) rfl (by kernel_rfl) e76) e2 (HA.out.rb hR).load ⟨Rb.refl _, rfl⟩
                    refine Owed.cons ?_ ?_
                    · -- 18: slot 83 := Op.load 23 (Operand.tmp 3)
                      intro a w hR F
                      have e76 : a.eval (.tmp 76) = .bool true := F.new 11 76 (by kernel_rfl)
                      have e3 : a.eval (.tmp 3) = .pointer (some ⟨w0.heap.size + 1, 0, none⟩) := F.old 3 (by kernel_rfl)
                      exact ok_load _ _ rfl (wanted_true (j := 11) (d := 76) rfl (by kernel_rfl) e76) e3 (HD.out.rb hR).load ⟨Rb.refl _, rfl⟩
                    refine Owed.cons ?_ ?_
                    · -- 19: slot 84 := Op.binOp BinOp.eql 23 (Operand.tmp 82) (Operand.tmp 83) 23
                      intro a w hR F
                      have e76 : a.eval (.tmp 76) = .bool true := F.new 11 76 (by kernel_rfl)
                      have e82 : a.eval (.tmp 82) = vv (k) (n) (s) := F.new 17 82 (by kernel_rfl)
                      have e83 : a.eval (.tmp 83) = vv (k1) (n1) (s1) := F.new 18 83 (by kernel_rfl)
                      exact ok_bin _ _ _ _ _ rfl (wanted_true (j := 11) (d := 76) rfl (by kernel_rfl) e76) e82 e83 (run_eqlV _ _ _ _ _ _ _ _) ⟨Rb.refl _, rfl⟩
                    refine Owed.cons ?_ ?_
                    · -- 20: slot 85 := Op.binOp BinOp.eql 4 (Operand.tmp 81) (Operand.tmp 84) 4
                      intro a w hR F
                      have e76 : a.eval (.tmp 76) = .bool true := F.new 11 76 (by kernel_rfl)
                      have e81 : a.eval (.tmp 81) = .bool ((printV k n s.data.toList) == (printV k1 n1 s1.data.toList)) := F.new 16 81 (by kernel_rfl)
                      have e84 : a.eval (.tmp 84) = .bool (eqVB (k) (n) (s) (k1) (n1) (s1)) := F.new 19 84 (by kernel_rfl)
                      refine ok_bin _ _ _ _ _ rfl (wanted_true (j := 11) (d := 76) rfl (by kernel_rfl) e76) e81 e84 (run_eql_boolB _ _ _ _ _ Tryd.underlying4) ⟨Rb.refl _, ?_⟩
                      exact congrArg Value.bool (by rw [print_inj r1 r2 hn0 hn1 hm0 hm1]; simp)
                    refine Owed.cons ?_ ?_
                    · -- 21: slot 86 := Op.pick (Operand.tmp 76) (Operand.tmp 85) (Operand.const (Value.bool false))
                      intro a w hR F
                      have e76 : a.eval (.tmp 76) = .bool true := F.new 11 76 (by kernel_rfl)
                      have e85 : a.eval (.tmp 85) = .bool true := F.new 20 85 (by kernel_rfl)
                      exact ok_pick _ _ _ true rfl (wanted_none rfl) e76 ⟨Rb.refl _, e85⟩
                    refine Owed.cons ?_ ?_
                    · -- 22: slot 87 := Op.move (Operand.tmp 86)
                      intro a w hR F
                      have e86 : a.eval (.tmp 86) = .bool true := F.new 21 86 (by kernel_rfl)
                      exact ok_move _ rfl (wanted_none rfl) ⟨Rb.refl _, e86⟩
                    refine Owed.cons ?_ ?_
                    · -- 23: slot 88 := Op.call { callee := Callee.value (Operand.func 10), args := #[], argTypes := #[] }
                      intro a w hR F
                      have e87 : a.eval (.tmp 87) = .bool true := F.new 22 87 (by kernel_rfl)
                      refine ok_call 10 _ _ #[] rfl (wanted_true (j := 22) (d := 87) rfl (by kernel_rfl) e87) (by simp) (Tryd.call10 _ _) ?_
                      exact val_call_below (lives_any w (HT.out.rb (Rb.trans _ _ _ HB.out hR)))
                    refine Owed.cons ?_ ?_
                    · -- 24: slot 89 := Op.pick (Operand.tmp 87) (Operand.tmp 88) (Operand.const (Value.bool false))
                      intro a w hR F
                      have e87 : a.eval (.tmp 87) = .bool true := F.new 22 87 (by kernel_rfl)
                      have e88 : a.eval (.tmp 88) = .bool true := F.new 23 88 (by kernel_rfl)
                      exact ok_pick _ _ _ true rfl (wanted_none rfl) e87 ⟨Rb.refl _, e88⟩
                    refine Owed.cons ?_ ?_
                    · -- 25: slot 4 := Op.assign (Operand.tmp 89)
                      intro a w hR F
                      have e89 : a.eval (.tmp 89) = .bool true := F.new 24 89 (by kernel_rfl)
                      exact ok_assign _ rfl (wanted_none rfl) ⟨Rb.refl _, e89⟩
                    exact Owed.nil
                  case fin =>
                    intro y w hR hy
                    have e25 : y 25 = .bool true := hy 25 _ rfl
                    have HB := Lib.hid (Rb.trans _ _ _ HB.out hR)
                    clear hy hR
                    simp only [putAll, Act.put, List.setIfInBounds_toArray, List.set_cons_zero, List.set_cons_succ]
                    rw [e25]
                    clear e25
                    go_wp2
                    go_ret
                    exact ⟨rfl, HB.out⟩
    · go_enter Tryd.func7, Tryd.ntmps7
      go_upto_region 1 with (fail)
      refine wp_region_plain_specs (R := Rb) (S := [Spec.eq (vv (k) (n) (s)), Spec.eq (.bool true), Spec.eq (.bool false), Spec.eq (.bool false), Spec.eq (vv (k1) (n1) (s1)), Spec.eq (.bool false), Spec.eq (.bool true), Spec.eq (.bool true), Spec.eq (.bool true), Spec.eq (undef), Spec.eq (undef), Spec.eq (undef), Spec.eq (.bool true), Spec.eq (.bool true), Spec.eq (undef), Spec.eq (undef), Spec.eq (undef), Spec.eq (.bool true)]) (n := 1) (size := 90) Rb.trans (Rb.refl _) rfl (by kernel_rfl) ?owed ?fin
      case owed =>
        refine Owed.cons ?_ ?_
        · -- 0: slot 10 := Op.load 23 (Operand.tmp 2)
          intro a w hR F
          have e2 : a.eval (.tmp 2) = .pointer (some ⟨w0.heap.size, 0, none⟩) := F.old 2 (by kernel_rfl)
          exact ok_load _ _ rfl (wanted_none rfl) e2 (HA.out.rb hR).load ⟨Rb.refl _, rfl⟩
        refine Owed.cons ?_ ?_
        · -- 1: slot 11 := Op.call { callee := Callee.value (Operand.func 9), args := #[Operand.tmp 10], argTypes := #[23] }
          intro a w hR F
          have e10 : a.eval (.tmp 10) = vv (k) (n) (s) := F.new 0 10 (by kernel_rfl)
          refine ok_call 9 _ _ #[vv (k) (n) (s)] rfl (wanted_none rfl) (by simp [e10]) (Tryd.call9 _ _) ?_
          exact val_call_below (light_yes k n s w hs ha)
        refine Owed.cons ?_ ?_
        · -- 2: slot 12 := Op.unOp UnOp.not 4 (Operand.tmp 11)
          intro a w hR F
          have e11 : a.eval (.tmp 11) = .bool true := F.new 1 11 (by kernel_rfl)
          exact ok_not _ _ true rfl (wanted_none rfl) e11 ⟨Rb.refl _, rfl⟩
        refine Owed.cons ?_ ?_
        · -- 3: slot 13 := Op.move (Operand.tmp 12)
          intro a w hR F
          have e12 : a.eval (.tmp 12) = .bool false := F.new 2 12 (by kernel_rfl)
          exact ok_move _ rfl (wanted_none rfl) ⟨Rb.refl _, e12⟩
        refine Owed.cons ?_ ?_
        · -- 4: slot 14 := Op.load 23 (Operand.tmp 3)
          intro a w hR F
          have e13 : a.eval (.tmp 13) = .bool false := F.new 3 13 (by kernel_rfl)
          have e3 : a.eval (.tmp 3) = .pointer (some ⟨w0.heap.size + 1, 0, none⟩) := F.old 3 (by kernel_rfl)
          exact ok_load _ _ rfl (wanted_true (j := 3) (d := 13) rfl (by kernel_rfl) e13) e3 (HD.out.rb hR).load ⟨Rb.refl _, rfl⟩
        refine Owed.cons ?_ ?_
        · -- 5: slot 15 := Op.call { callee := Callee.value (Operand.func 9), args := #[Operand.tmp 14], argTypes := #[23] }
          intro a w hR F
          have e13 : a.eval (.tmp 13) = .bool false := F.new 3 13 (by kernel_rfl)
          have e14 : a.eval (.tmp 14) = vv (k1) (n1) (s1) := F.new 4 14 (by kernel_rfl)
          refine ok_call 9 _ _ #[vv (k1) (n1) (s1)] rfl (wanted_true (j := 3) (d := 13) rfl (by kernel_rfl) e13) (by simp [e14]) (Tryd.call9 _ _) ?_
          exact val_call_below (light_no k1 n1 s1 w hs1 hb)
        refine Owed.cons ?_ ?_
        · -- 6: slot 16 := Op.unOp UnOp.not 4 (Operand.tmp 15)
          intro a w hR F
          have e13 : a.eval (.tmp 13) = .bool false := F.new 3 13 (by kernel_rfl)
          have e15 : a.eval (.tmp 15) = .bool false := F.new 5 15 (by kernel_rfl)
          exact ok_not _ _ false rfl (wanted_true (j := 3) (d := 13) rfl (by kernel_rfl) e13) e15 ⟨Rb.refl _, rfl⟩
        refine Owed.cons ?_ ?_
        · -- 7: slot 17 := Op.pick (Operand.tmp 13) (Operand.const (Value.bool true)) (Operand.tmp 16)
          intro a w hR F
          have e13 : a.eval (.tmp 13) = .bool false := F.new 3 13 (by kernel_rfl)
          have e16 : a.eval (.tmp 16) = .bool true := F.new 6 16 (by kernel_rfl)
          exact ok_pick _ _ _ false rfl (wanted_none rfl) e13 ⟨Rb.refl _, e16⟩
        refine Owed.cons ?_ ?_
        · -- 8: slot 18 := Op.move (Operand.tmp 17)
          intro a w hR F
          have e17 : a.eval (.tmp 17) = .bool true := F.new 7 17 (by kernel_rfl)
          exact ok_move _ rfl (wanted_none rfl) ⟨Rb.refl _, e17⟩
        refine Owed.cons ?_ ?_
        · -- 9: slot 19 := Op.load 23 (Operand.tmp 2)
          intro a w hR F
          have e18 : a.eval (.tmp 18) = .bool true := F.new 8 18 (by kernel_rfl)
          exact ok_skip (wanted_false (j := 8) (d := 18) rfl (by kernel_rfl) e18) ⟨Rb.refl _, rfl⟩
        refine Owed.cons ?_ ?_
        · -- 10: slot 20 := Op.call { callee := Callee.value (Operand.func 11), args := #[Operand.tmp 19], argTypes := #[23] }
          intro a w hR F
          have e18 : a.eval (.tmp 18) = .bool true := F.new 8 18 (by kernel_rfl)
          exact ok_skip (wanted_false (j := 8) (d := 18) rfl (by kernel_rfl) e18) ⟨Rb.refl _, rfl⟩
        refine Owed.cons ?_ ?_
        · -- 11: slot 21 := Op.unOp UnOp.not 4 (Operand.tmp 20)
          intro a w hR F
          have e18 : a.eval (.tmp 18) = .bool true := F.new 8 18 (by kernel_rfl)
          exact ok_skip (wanted_false (j := 8) (d := 18) rfl (by kernel_rfl) e18) ⟨Rb.refl _, rfl⟩
        refine Owed.cons ?_ ?_
        · -- 12: slot 22 := Op.pick (Operand.tmp 18) (Operand.const (Value.bool true)) (Operand.tmp 21)
          intro a w hR F
          have e18 : a.eval (.tmp 18) = .bool true := F.new 8 18 (by kernel_rfl)
          exact ok_pick _ _ _ true rfl (wanted_none rfl) e18 ⟨Rb.refl _, rfl⟩
        refine Owed.cons ?_ ?_
        · -- 13: slot 23 := Op.move (Operand.tmp 22)
          intro a w hR F
          have e22 : a.eval (.tmp 22) = .bool true := F.new 12 22 (by kernel_rfl)
          exact ok_move _ rfl (wanted_none rfl) ⟨Rb.refl _, e22⟩
        refine Owed.cons ?_ ?_
        · -- 14: slot 24 := Op.load 23 (Operand.tmp 3)
          intro a w hR F
          have e23 : a.eval (.tmp 23) = .bool true := F.new 13 23 (by kernel_rfl)
          exact ok_skip (wanted_false (j := 13) (d := 23) rfl (by kernel_rfl) e23) ⟨Rb.refl _, rfl⟩
        refine Owed.cons ?_ ?_
        · -- 15: slot 25 := Op.call { callee := Callee.value (Operand.func 11), args := #[Operand.tmp 24], argTypes := #[23] }
          intro a w hR F
          have e23 : a.eval (.tmp 23) = .bool true := F.new 13 23 (by kernel_rfl)
          exact ok_skip (wanted_false (j := 13) (d := 23) rfl (by kernel_rfl) e23) ⟨Rb.refl _, rfl⟩
        refine Owed.cons ?_ ?_
        · -- 16: slot 26 := Op.unOp UnOp.not 4 (Operand.tmp 25)
          intro a w hR F
          have e23 : a.eval (.tmp 23) = .bool true := F.new 13 23 (by kernel_rfl)
          exact ok_skip (wanted_false (j := 13) (d := 23) rfl (by kernel_rfl) e23) ⟨Rb.refl _, rfl⟩
        refine Owed.cons ?_ ?_
        · -- 17: slot 27 := Op.pick (Operand.tmp 23) (Operand.const (Value.bool true)) (Operand.tmp 26)
          intro a w hR F
          have e23 : a.eval (.tmp 23) = .bool true := F.new 13 23 (by kernel_rfl)
          exact ok_pick _ _ _ true rfl (wanted_none rfl) e23 ⟨Rb.refl _, rfl⟩
        exact Owed.nil
      case fin =>
        intro y w hR hy
        have e17 : y 17 = .bool true := hy 17 _ rfl
        have HA := Lib.hid (HA.out.rb hR)
        have HD := Lib.hid (HD.out.rb hR)
        have HB := Lib.hid (Rb.trans _ _ _ HB.out hR)
        clear hy hR
        simp only [putAll, Act.put, List.setIfInBounds_toArray, List.set_cons_zero, List.set_cons_succ]
        rw [e17]
        clear e17
        go_wp2_with fail
        refine (lives_any _ (HT.out.rb HB.out)).mono ?_
        rintro e w1 ⟨rfl, hb⟩
        have HB := Lib.hid (Rb.trans _ _ _ HB.out hb)
        clear hb
        go_wp2
        go_ret
        exact ⟨rfl, HB.out⟩
  · go_enter Tryd.func7, Tryd.ntmps7
    go_upto_region 1 with (fail)
    refine wp_region_plain_specs (R := Rb) (S := [Spec.eq (vv (k) (n) (s)), Spec.eq (.bool false), Spec.eq (.bool true), Spec.eq (.bool true), Spec.eq (undef), Spec.eq (undef), Spec.eq (undef), Spec.eq (.bool true), Spec.eq (.bool true), Spec.eq (undef), Spec.eq (undef), Spec.eq (undef), Spec.eq (.bool true), Spec.eq (.bool true), Spec.eq (undef), Spec.eq (undef), Spec.eq (undef), Spec.eq (.bool true)]) (n := 1) (size := 90) Rb.trans (Rb.refl _) rfl (by kernel_rfl) ?owed ?fin
    case owed =>
      refine Owed.cons ?_ ?_
      · -- 0: slot 10 := Op.load 23 (Operand.tmp 2)
        intro a w hR F
        have e2 : a.eval (.tmp 2) = .pointer (some ⟨w0.heap.size, 0, none⟩) := F.old 2 (by kernel_rfl)
        exact ok_load _ _ rfl (wanted_none rfl) e2 (HA.out.rb hR).load ⟨Rb.refl _, rfl⟩
      refine Owed.cons ?_ ?_
      · -- 1: slot 11 := Op.call { callee := Callee.value (Operand.func 9), args := #[Operand.tmp 10], argTypes := #[23] }
        intro a w hR F
        have e10 : a.eval (.tmp 10) = vv (k) (n) (s) := F.new 0 10 (by kernel_rfl)
        refine ok_call 9 _ _ #[vv (k) (n) (s)] rfl (wanted_none rfl) (by simp [e10]) (Tryd.call9 _ _) ?_
        exact val_call_below (light_no k n s w hs ha)
      refine Owed.cons ?_ ?_
      · -- 2: slot 12 := Op.unOp UnOp.not 4 (Operand.tmp 11)
        intro a w hR F
        have e11 : a.eval (.tmp 11) = .bool false := F.new 1 11 (by kernel_rfl)
        exact ok_not _ _ false rfl (wanted_none rfl) e11 ⟨Rb.refl _, rfl⟩
      refine Owed.cons ?_ ?_
      · -- 3: slot 13 := Op.move (Operand.tmp 12)
        intro a w hR F
        have e12 : a.eval (.tmp 12) = .bool true := F.new 2 12 (by kernel_rfl)
        exact ok_move _ rfl (wanted_none rfl) ⟨Rb.refl _, e12⟩
      refine Owed.cons ?_ ?_
      · -- 4: slot 14 := Op.load 23 (Operand.tmp 3)
        intro a w hR F
        have e13 : a.eval (.tmp 13) = .bool true := F.new 3 13 (by kernel_rfl)
        exact ok_skip (wanted_false (j := 3) (d := 13) rfl (by kernel_rfl) e13) ⟨Rb.refl _, rfl⟩
      refine Owed.cons ?_ ?_
      · -- 5: slot 15 := Op.call { callee := Callee.value (Operand.func 9), args := #[Operand.tmp 14], argTypes := #[23] }
        intro a w hR F
        have e13 : a.eval (.tmp 13) = .bool true := F.new 3 13 (by kernel_rfl)
        exact ok_skip (wanted_false (j := 3) (d := 13) rfl (by kernel_rfl) e13) ⟨Rb.refl _, rfl⟩
      refine Owed.cons ?_ ?_
      · -- 6: slot 16 := Op.unOp UnOp.not 4 (Operand.tmp 15)
        intro a w hR F
        have e13 : a.eval (.tmp 13) = .bool true := F.new 3 13 (by kernel_rfl)
        exact ok_skip (wanted_false (j := 3) (d := 13) rfl (by kernel_rfl) e13) ⟨Rb.refl _, rfl⟩
      refine Owed.cons ?_ ?_
      · -- 7: slot 17 := Op.pick (Operand.tmp 13) (Operand.const (Value.bool true)) (Operand.tmp 16)
        intro a w hR F
        have e13 : a.eval (.tmp 13) = .bool true := F.new 3 13 (by kernel_rfl)
        exact ok_pick _ _ _ true rfl (wanted_none rfl) e13 ⟨Rb.refl _, rfl⟩
      refine Owed.cons ?_ ?_
      · -- 8: slot 18 := Op.move (Operand.tmp 17)
        intro a w hR F
        have e17 : a.eval (.tmp 17) = .bool true := F.new 7 17 (by kernel_rfl)
        exact ok_move _ rfl (wanted_none rfl) ⟨Rb.refl _, e17⟩
      refine Owed.cons ?_ ?_
      · -- 9: slot 19 := Op.load 23 (Operand.tmp 2)
        intro a w hR F
        have e18 : a.eval (.tmp 18) = .bool true := F.new 8 18 (by kernel_rfl)
        exact ok_skip (wanted_false (j := 8) (d := 18) rfl (by kernel_rfl) e18) ⟨Rb.refl _, rfl⟩
      refine Owed.cons ?_ ?_
      · -- 10: slot 20 := Op.call { callee := Callee.value (Operand.func 11), args := #[Operand.tmp 19], argTypes := #[23] }
        intro a w hR F
        have e18 : a.eval (.tmp 18) = .bool true := F.new 8 18 (by kernel_rfl)
        exact ok_skip (wanted_false (j := 8) (d := 18) rfl (by kernel_rfl) e18) ⟨Rb.refl _, rfl⟩
      refine Owed.cons ?_ ?_
      · -- 11: slot 21 := Op.unOp UnOp.not 4 (Operand.tmp 20)
        intro a w hR F
        have e18 : a.eval (.tmp 18) = .bool true := F.new 8 18 (by kernel_rfl)
        exact ok_skip (wanted_false (j := 8) (d := 18) rfl (by kernel_rfl) e18) ⟨Rb.refl _, rfl⟩
      refine Owed.cons ?_ ?_
      · -- 12: slot 22 := Op.pick (Operand.tmp 18) (Operand.const (Value.bool true)) (Operand.tmp 21)
        intro a w hR F
        have e18 : a.eval (.tmp 18) = .bool true := F.new 8 18 (by kernel_rfl)
        exact ok_pick _ _ _ true rfl (wanted_none rfl) e18 ⟨Rb.refl _, rfl⟩
      refine Owed.cons ?_ ?_
      · -- 13: slot 23 := Op.move (Operand.tmp 22)
        intro a w hR F
        have e22 : a.eval (.tmp 22) = .bool true := F.new 12 22 (by kernel_rfl)
        exact ok_move _ rfl (wanted_none rfl) ⟨Rb.refl _, e22⟩
      refine Owed.cons ?_ ?_
      · -- 14: slot 24 := Op.load 23 (Operand.tmp 3)
        intro a w hR F
        have e23 : a.eval (.tmp 23) = .bool true := F.new 13 23 (by kernel_rfl)
        exact ok_skip (wanted_false (j := 13) (d := 23) rfl (by kernel_rfl) e23) ⟨Rb.refl _, rfl⟩
      refine Owed.cons ?_ ?_
      · -- 15: slot 25 := Op.call { callee := Callee.value (Operand.func 11), args := #[Operand.tmp 24], argTypes := #[23] }
        intro a w hR F
        have e23 : a.eval (.tmp 23) = .bool true := F.new 13 23 (by kernel_rfl)
        exact ok_skip (wanted_false (j := 13) (d := 23) rfl (by kernel_rfl) e23) ⟨Rb.refl _, rfl⟩
      refine Owed.cons ?_ ?_
      · -- 16: slot 26 := Op.unOp UnOp.not 4 (Operand.tmp 25)
        intro a w hR F
        have e23 : a.eval (.tmp 23) = .bool true := F.new 13 23 (by kernel_rfl)
        exact ok_skip (wanted_false (j := 13) (d := 23) rfl (by kernel_rfl) e23) ⟨Rb.refl _, rfl⟩
      refine Owed.cons ?_ ?_
      · -- 17: slot 27 := Op.pick (Operand.tmp 23) (Operand.const (Value.bool true)) (Operand.tmp 26)
        intro a w hR F
        have e23 : a.eval (.tmp 23) = .bool true := F.new 13 23 (by kernel_rfl)
        exact ok_pick _ _ _ true rfl (wanted_none rfl) e23 ⟨Rb.refl _, rfl⟩
      exact Owed.nil
    case fin =>
      intro y w hR hy
      have e17 : y 17 = .bool true := hy 17 _ rfl
      have HA := Lib.hid (HA.out.rb hR)
      have HD := Lib.hid (HD.out.rb hR)
      have HB := Lib.hid (Rb.trans _ _ _ HB.out hR)
      clear hy hR
      simp only [putAll, Act.put, List.setIfInBounds_toArray, List.set_cons_zero, List.set_cons_succ]
      rw [e17]
      clear e17
      go_wp2_with fail
      refine (lives_any _ (HT.out.rb HB.out)).mono ?_
      rintro e w1 ⟨rfl, hb⟩
      have HB := Lib.hid (Rb.trans _ _ _ HB.out hb)
      clear hb
      go_wp2
      go_ret
      exact ⟨rfl, HB.out⟩
end Go.Proofs.YtefjfiihfbkjoaaDoor
