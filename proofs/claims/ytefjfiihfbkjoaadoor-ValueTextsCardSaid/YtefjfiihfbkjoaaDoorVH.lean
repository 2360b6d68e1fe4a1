/-
  Layer 2: the text of a value.
-/
import Derived.Test.YtefjfiihfbkjoaaDoorVG
namespace Go.Proofs.YtefjfiihfbkjoaaDoor
open Go.ChangeShapes Go.WideShapes Go.ChangeAt Go.RowKit Oct By Reg Val

theorem val_call_same {P : Program} {f : FuncId} {vs : Array Value} {w : World} {v : Value} (h : Calls P f vs w fun e w' => e = .returned v ∧ w' = w) : Calls P f vs w fun e w'' => ∃ u, e = .returned u ∧ Rb w w'' ∧ (Spec.eq (R := Rb) v).V w'' u :=
  h.mono fun _ _ ⟨he, hw⟩ => ⟨_, he, by rw [hw]; exact Rb.refl _, rfl⟩
theorem formatint_any (n : Int) (w : World) (h0 : -9223372036854775808 ≤ n) (h1 : n ≤ 9223372036854775807) (htab : Tab w) :
    Calls Tryd.prog 49 #[.int .i64 n, .int .i64 10] w fun e w' => e = .returned (strV (Lib.itoa n)) ∧ Below w.heap.size w w' :=
  (Tryd.strconv_FormatInt_10 n h0 h1 w htab).mono fun _ _ ⟨he, k, os, hw⟩ => ⟨he, by rw [hw]; exact Lib.below_grow _ w (Nat.le_refl _) k os⟩
theorem text_size {n : Int} {s : ByteArray} (h : rightB 3 n s.data.toList = true) : s.size ≤ 100 := by
  have hlen : s.data.toList.length = s.size := Array.length_toList
  unfold rightB rightTextB at h
  simp [hlen] at h
  omega
theorem kinds_of {k n : Int} {l : List UInt8} (h : rightB k n l = true) : k = 1 ∨ k = 2 ∨ k = 3 := by
  unfold rightB at h
  split at h
  · exact .inl (by assumption)
  · split at h
    · exact .inr (.inl (by assumption))
    · split at h
      · exact .inr (.inr (by assumption))
      · cases h
theorem bool_of {n : Int} {s : ByteArray} (h : rightB 2 n s.data.toList = true) : eqVB 2 n s 2 1 ⟨#[]⟩ = decide (n = 1) := by
  unfold rightB at h
  simp only [show ¬ ((2 : Int) = 1) by decide, if_false, if_pos, Bool.and_eq_true] at h
  unfold eqVB
  rw [empty_iff, h.1]
  by_cases h1 : n = 1 <;> simp [h1]

set_option maxRecDepth 100000 in
theorem print_any (k n : Int) (s : ByteArray) (w0 : World) (hs : s.size ≤ maxLen) (h0 : -9223372036854775808 ≤ n) (h1 : n ≤ 9223372036854775807) (htab : Tab w0) :
    Calls Tryd.prog 32 #[vv k n s] w0 fun e w' => e = .returned (strV (printV k n s.data.toList)) ∧ Below w0.heap.size w0 w' := by
  have c := fun w => right_any k n s w hs
  have HT := Lib.hid htab; clear htab
  cases hr : rightB k n s.data.toList
  · have hR := Lib.hid (show (⟨#[]⟩ : ByteArray) = str (printV k n s.data.toList) by unfold printV; rw [hr]; rfl)
    rw [hr] at c
    have C := Lib.hid c; clear c hr
    go_enter Tryd.func32, Tryd.ntmps32
    go_wp2_with fail
    refine (C.out _).mono ?_
    rintro e w' ⟨rfl, hb⟩
    have HB := Lib.hid hb; clear hb
    go_wp2
    go_ret
    exact ⟨ret_str hR.out, ((Below.refl _ _).alloc (Nat.le_refl _) _).trans (HB.out.mono (by simp))⟩
  have hk := kinds_of hr
  rcases hk with rfl | rfl | rfl
  · have hR := Lib.hid (show str (Lib.itoa n) = str (printV 1 n s.data.toList) by unfold printV; rw [hr]; rfl)
    rw [hr] at c
    have C := Lib.hid c; clear c hr
    go_enter Tryd.func32, Tryd.ntmps32
    go_wp2_with fail
    refine (C.out _).mono ?_
    rintro e w1 ⟨rfl, hb⟩
    obtain ⟨hc, hf⟩ := bcell hb
    have HB := Lib.hid (((Below.refl w0.heap.size w0).alloc (Nat.le_refl _) (.cells #[.int .i64 1, .int .i64 n, .string s] 23)).trans (hb.mono (by simp))); clear hb
    have CF := Lib.hid (formatint_any n w1 h0 h1 (HT.out.rb HB.out))
    go_wp2_with fail
    refine CF.out.mono ?_
    rintro e w2 ⟨rfl, hb2⟩
    have HB2 := Lib.hid hb2; clear hb2 hc hf CF
    unfold strV
    go_wp2
    go_ret
    exact ⟨ret_str hR.out, Below.trans HB.out (Below.mono HB2.out HB.out.size)⟩
  · have he := bool_of hr
    by_cases hn : n = 1
    · have H0 := Lib.hid (show eqVB 2 n s 2 1 ⟨#[]⟩ = true by rw [he]; simp [hn])
      have hR := Lib.hid (show str (Lib.formatBool true) = str (printV 2 n s.data.toList) by unfold printV; rw [hr, if_pos rfl]; unfold textV; simp [hn])
      rw [hr] at c
      have C := Lib.hid c; clear c hr he hn
      go_enter Tryd.func32, Tryd.ntmps32
      go_wp2_with fail
      refine (C.out _).mono ?_
      rintro e w1 ⟨rfl, hb⟩
      obtain ⟨hc, hf⟩ := bcell hb
      have HV := Lib.hid ((HeldV.new w0 2 n s 23).rb hb)
      have HB1 := Lib.hid (((Below.refl w0.heap.size w0).alloc (Nat.le_refl _) (.cells #[.int .i64 2, .int .i64 n, .string s] 23)).trans (hb.mono (by simp))); clear hb
      go_wp2_with fail
      refine wp_region_specs (R := Rb) (S := [Spec.eq (vv (2) (n) (s)), Spec.eq (vv (2) (1) (⟨#[]⟩)), Spec.eq (.bool true), Spec.eq (.string (str (Lib.formatBool true))), Spec.eq (.string (str (Lib.formatBool true)))]) (n := 1) (size := 22) (by kernel_rfl) Rb.trans (Rb.drew _) rfl (by kernel_rfl) ?owed ?fin
      case owed =>
        refine Owed.cons ?_ ?_
        · -- 0: slot 18 := Op.load 23 (Operand.tmp 1)
          intro a w hR F
          have e1 : a.eval (.tmp 1) = .pointer (some ⟨w0.heap.size, 0, none⟩) := F.old 1 (by kernel_rfl)
          exact ok_load _ _ rfl (wanted_none rfl) e1 (HV.out.rb hR).load ⟨Rb.refl _, rfl⟩
        refine Owed.cons ?_ ?_
        · -- 1: slot 19 := Op.call { callee := Callee.value (Operand.func 23), args := #[Operand.const (Value.bool true)], argT
          intro a w hR F
          refine ok_call 23 _ _ #[.bool true] rfl (wanted_none rfl) (by simp only [List.map_toArray, List.map_cons, List.map_nil]; rfl) (Tryd.call23 _ _) ?_
          exact val_call_below (vbool_any true w)
        refine Owed.cons ?_ ?_
        · -- 2: slot 20 := Op.binOp BinOp.eql 23 (Operand.tmp 18) (Operand.tmp 19) 23
          intro a w hR F
          have e18 : a.eval (.tmp 18) = vv (2) (n) (s) := F.new 0 18 (by kernel_rfl)
          have e19 : a.eval (.tmp 19) = vv (2) (1) (⟨#[]⟩) := F.new 1 19 (by kernel_rfl)
          refine ok_bin _ _ _ _ _ rfl (wanted_none rfl) e18 e19 (run_eqlV _ _ _ _ _ _ _ _) ⟨Rb.refl _, ?_⟩
          exact congrArg Value.bool (H0.out)
        refine Owed.cons ?_ ?_
        · -- 3: slot 21 := Op.call { callee := Callee.value (Operand.func 50), args := #[Operand.tmp 20], argTypes := #[4] }
          intro a w hR F
          have e20 : a.eval (.tmp 20) = .bool true := F.new 2 20 (by kernel_rfl)
          refine ok_call 50 _ _ #[.bool true] rfl (wanted_none rfl) (by simp [e20]) (Tryd.call50 _ _) ?_
          exact val_call_same (Tryd.strconv_FormatBool true w)
        refine Owed.cons ?_ ?_
        · -- 4: slot 2 := Op.assign (Operand.tmp 21)
          intro a w hR F
          have e21 : a.eval (.tmp 21) = .string (str (Lib.formatBool true)) := F.new 3 21 (by kernel_rfl)
          exact ok_assign _ rfl (wanted_none rfl) ⟨Rb.refl _, e21⟩
        exact Owed.nil
      case fin =>
        intro y w2 hR hy
        have e4 : y 4 = .string (str (Lib.formatBool true)) := hy 4 _ rfl
        have HR := Lib.hid hR
        clear hy hR
        simp only [putAll, Act.put, List.setIfInBounds_toArray, List.set_cons_zero, List.set_cons_succ]
        rw [e4]
        go_wp2
        go_ret
        exact ⟨ret_str hR.out, Below.trans HB1.out (Below.mono HR.out HB1.out.size)⟩
    · have H0 := Lib.hid (show eqVB 2 n s 2 1 ⟨#[]⟩ = false by rw [he]; simp [hn])
      have hR := Lib.hid (show str (Lib.formatBool false) = str (printV 2 n s.data.toList) by unfold printV; rw [hr, if_pos rfl]; unfold textV; simp [hn])
      rw [hr] at c
      have C := Lib.hid c; clear c hr he hn
      go_enter Tryd.func32, Tryd.ntmps32
      go_wp2_with fail
      refine (C.out _).mono ?_
      rintro e w1 ⟨rfl, hb⟩
      obtain ⟨hc, hf⟩ := bcell hb
      have HV := Lib.hid ((HeldV.new w0 2 n s 23).rb hb)
      have HB1 := Lib.hid (((Below.refl w0.heap.size w0).alloc (Nat.le_refl _) (.cells #[.int .i64 2, .int .i64 n, .string s] 23)).trans (hb.mono (by simp))); clear hb
      go_wp2_with fail
      refine wp_region_specs (R := Rb) (S := [Spec.eq (vv (2) (n) (s)), Spec.eq (vv (2) (1) (⟨#[]⟩)), Spec.eq (.bool false), Spec.eq (.string (str (Lib.formatBool false))), Spec.eq (.string (str (Lib.formatBool false)))]) (n := 1) (size := 22) (by kernel_rfl) Rb.trans (Rb.drew _) rfl (by kernel_rfl) ?owed ?fin
      case owed =>
        refine Owed.cons ?_ ?_
        · -- 0: slot 18 := Op.load 23 (Operand.tmp 1)
          intro a w hR F
          have e1 : a.eval (.tmp 1) = .pointer (some ⟨w0.heap.size, 0, none⟩) := F.old 1 (by kernel_rfl)
          exact ok_load _ _ rfl (wanted_none rfl) e1 (HV.out.rb hR).load ⟨Rb.refl _, rfl⟩
        refine Owed.cons ?_ ?_
        · -- 1: slot 19 := Op.call { callee := Callee.value (Operand.func 23), args := #[Operand.const (Value.bool true)], argT
          intro a w hR F
          refine ok_call 23 _ _ #[.bool true] rfl (wanted_none rfl) (by simp only [List.map_toArray, List.map_cons, List.map_nil]; rfl) (Tryd.call23 _ _) ?_
          exact val_call_below (vbool_any true w)
        refine Owed.cons ?_ ?_
        · -- 2: slot 20 := Op.binOp BinOp.eql 23 (Operand.tmp 18) (Operand.tmp 19) 23
          intro a w hR F
          have e18 : a.eval (.tmp 18) = vv (2) (n) (s) := F.new 0 18 (by kernel_rfl)
          have e19 : a.eval (.tmp 19) = vv (2) (1) (⟨#[]⟩) := F.new 1 19 (by kernel_rfl)
          refine ok_bin _ _ _ _ _ rfl (wanted_none rfl) e18 e19 (run_eqlV _ _ _ _ _ _ _ _) ⟨Rb.refl _, ?_⟩
          exact congrArg Value.bool (H0.out)
        refine Owed.cons ?_ ?_
        · -- 3: slot 21 := Op.call { callee := Callee.value (Operand.func 50), args := #[Operand.tmp 20], argTypes := #[4] }
          intro a w hR F
          have e20 : a.eval (.tmp 20) = .bool false := F.new 2 20 (by kernel_rfl)
          refine ok_call 50 _ _ #[.bool false] rfl (wanted_none rfl) (by simp [e20]) (Tryd.call50 _ _) ?_
          exact val_call_same (Tryd.strconv_FormatBool false w)
        refine Owed.cons ?_ ?_
        · -- 4: slot 2 := Op.assign (Operand.tmp 21)
          intro a w hR F
          have e21 : a.eval (.tmp 21) = .string (str (Lib.formatBool false)) := F.new 3 21 (by kernel_rfl)
          exact ok_assign _ rfl (wanted_none rfl) ⟨Rb.refl _, e21⟩
        exact Owed.nil
      case fin =>
        intro y w2 hR hy
        have e4 : y 4 = .string (str (Lib.formatBool false)) := hy 4 _ rfl
        have HR := Lib.hid hR
        clear hy hR
        simp only [putAll, Act.put, List.setIfInBounds_toArray, List.set_cons_zero, List.set_cons_succ]
        rw [e4]
        go_wp2
        go_ret
        exact ⟨ret_str hR.out, Below.trans HB1.out (Below.mono HR.out HB1.out.size)⟩
  · have hR := Lib.hid (show str (quoteB s.data.toList) = str (printV 3 n s.data.toList) by unfold printV; rw [hr]; rfl)
    have CQ := Lib.hid (fun w => quoted_any s w (text_size hr))
    rw [hr] at c
    have C := Lib.hid c; clear c hr
    go_enter Tryd.func32, Tryd.ntmps32
    go_wp2_with fail
    refine (C.out _).mono ?_
    rintro e w1 ⟨rfl, hb⟩
    obtain ⟨hc, hf⟩ := bcell hb
    have HB := Lib.hid (((Below.refl w0.heap.size w0).alloc (Nat.le_refl _) (.cells #[.int .i64 3, .int .i64 n, .string s] 23)).trans (hb.mono (by simp))); clear hb
    go_wp2_with fail
    refine (CQ.out _).mono ?_
    rintro e w2 ⟨rfl, hb2⟩
    have HB2 := Lib.hid hb2; clear hb2 hc hf
    unfold strV
    go_wp2
    go_ret
    exact ⟨ret_str hR.out, Below.trans HB.out (Below.mono HB2.out HB.out.size)⟩
end Go.Proofs.YtefjfiihfbkjoaaDoor
