/-
  Layer 2: the order of values, by the document's own answer.
-/
import Derived.Test.YtefjfiihfbkjoaaDoorVL
namespace Go.Proofs.YtefjfiihfbkjoaaDoor
open Go.ChangeShapes Go.WideShapes Go.ChangeAt Go.RowKit Oct By Reg Val

theorem ok_index_str {ops : Array Oper} {o : Oper} {a : Act} {w : World} {T : World → Value → Prop} (t : TypeId) (x i : Operand) (s : ByteArray) {j : Nat} (hj : j < s.size) (ht : Tryd.prog.underlying t = some .string) (ho : o.op = .index t x i) (hw : Region.wanted o (yielded ops a.tmps) = true)
    (hx : a.eval x = .string s) (hi : a.eval i = .int .i64 (j : Int)) (h : T w (.int .u8 (bt s.data.toList j : Int))) : okAt Tryd.prog ops o a w T := by
  have e : s.data.toList.getD j 0 = s[j] := by
    rw [List.getD_eq_getElem?_getD, List.getElem?_eq_getElem (by rw [Array.length_toList]; exact hj)]; rfl
  refine ok_value (w' := w) (v := .int .u8 (s[j].toNat : Int)) hw ?_ (by rw [← e]; exact h)
  simp only [execOp, ho, hx, hi, Sem.run_bind, run_index_string w t s .i64 (j : Int) ht]
  simp [hj, Result.andThen]
theorem run_lss_int {w : World} (t : TypeId) (x y : Operand) (k : IntKind) (n m : Int) : (binSem .lss t x y (.int k n) (.int k m)).run Tryd.prog w = .ok (.bool (decide (n < m))) w := by
  simp [binSem, go_sem]
theorem drop_bt (l : List UInt8) (j : Nat) (h : j < l.length) : l.drop j = l.getD j 0 :: l.drop (j + 1) := by
  rw [List.drop_eq_getElem_cons h, List.getD_eq_getElem?_getD, List.getElem?_eq_getElem h]; rfl
def CmpAt (l l' : List UInt8) (j : Nat) : Prop := Lib.compareBytes (l.drop j) (l'.drop j) = Lib.compareBytes l l'
theorem CmpAt.lt {l l' : List UInt8} {j : Nat} (h : CmpAt l l' j) (h1 : j < l.length) (h2 : j < l'.length) (hb : bt l j < bt l' j) : -1 = Lib.compareBytes l l' := by
  unfold CmpAt at h
  rw [drop_bt l j h1, drop_bt l' j h2, Lib.compareBytes, if_pos (by rw [UInt8.lt_iff_toNat_lt]; exact hb)] at h
  exact h
theorem CmpAt.gt {l l' : List UInt8} {j : Nat} (h : CmpAt l l' j) (h1 : j < l.length) (h2 : j < l'.length) (hb : bt l' j < bt l j) : 1 = Lib.compareBytes l l' := by
  unfold CmpAt at h
  rw [drop_bt l j h1, drop_bt l' j h2, Lib.compareBytes, if_neg (by rw [UInt8.lt_iff_toNat_lt]; unfold bt at hb; omega), if_pos (by rw [UInt8.lt_iff_toNat_lt]; exact hb)] at h
  exact h
theorem CmpAt.step {l l' : List UInt8} {j : Nat} (h : CmpAt l l' j) (h1 : j < l.length) (h2 : j < l'.length) (hb : bt l j = bt l' j) : CmpAt l l' (j + 1) := by
  unfold CmpAt at h ⊢
  rw [drop_bt l j h1, drop_bt l' j h2, Lib.compareBytes, if_neg (by rw [UInt8.lt_iff_toNat_lt]; unfold bt at hb; omega), if_neg (by rw [UInt8.lt_iff_toNat_lt]; unfold bt at hb; omega)] at h
  exact h
theorem CmpAt.fin {l l' : List UInt8} {j : Nat} (h : CmpAt l l' j) (h1 : j ≤ l.length) (h2 : j ≤ l'.length) (h3 : ¬ (j < l.length ∧ j < l'.length)) : (if l.length < l'.length then -1 else if l'.length < l.length then 1 else 0) = Lib.compareBytes l l' := by
  unfold CmpAt at h
  by_cases e1 : l.length < l'.length
  · have ej : j = l.length := by omega
    rw [if_pos e1, ← h, drop_bt l' j (by omega), List.drop_of_length_le (by omega)]; rfl
  · by_cases e2 : l'.length < l.length
    · rw [if_neg e1, if_pos e2, ← h, drop_bt l j (by omega), List.drop_of_length_le (show l'.length ≤ j by omega)]; rfl
    · rw [if_neg e1, if_neg e2, ← h, List.drop_of_length_le (show l'.length ≤ j by omega), List.drop_of_length_le (show l.length ≤ j by omega)]; rfl

set_option maxRecDepth 100000 in
theorem refcompare_any (k n : Int) (s : ByteArray) (k' n' : Int) (s' : ByteArray) (w0 : World) (hs : s.size ≤ maxLen) (hs' : s'.size ≤ maxLen) :
    Calls Tryd.prog 25 #[vv k n s, vv k' n' s'] w0 fun e w' => e = .returned (.int .i64 (cmpV k n s.data.toList k' n' s'.data.toList)) ∧ Below w0.heap.size w0 w' := by
  unfold maxLen at hs hs'
  have HB0 := Lib.hid (((Below.refl w0.heap.size w0).alloc (Nat.le_refl _) (.cells #[.int .i64 k, .int .i64 n, .string s] 23)).alloc (by simp) (.cells #[.int .i64 k', .int .i64 n', .string s'] 23))
  by_cases hk : k = k'
  · subst hk
    by_cases hn : n = n'
    · subst hn
      have hR := Lib.hid (show Lib.compareBytes s.data.toList s'.data.toList = cmpV k n s.data.toList k n s'.data.toList by
        unfold cmpV orN Lib.compareInt; simp)
      have ha := (HeldV.new w0 k n s 23).rb ((Below.refl _ _).alloc (Nat.le_refl _) (.cells #[.int .i64 k, .int .i64 n, .string s'] 23))
      have hc := HeldV.new (w0.alloc (.cells #[.int .i64 k, .int .i64 n, .string s] 23)) k n s' 23
      rw [show (w0.alloc (.cells #[.int .i64 k, .int .i64 n, .string s] 23)).heap.size = w0.heap.size + 1 by simp] at hc
      have HA := Lib.hid ha; have HC := Lib.hid hc
      clear ha hc
      have Hl := Lib.hid (show s.data.toList.length = s.size from Array.length_toList)
      have Hl' := Lib.hid (show s'.data.toList.length = s'.size from Array.length_toList)
      go_enter Tryd.func25, Tryd.ntmps25
      go_wp2
      go_loopw [5] (fun i wr => ∃ j : Nat, j ≤ s.size ∧ j ≤ s'.size ∧ i = .int .i64 (j : Int) ∧ CmpAt s.data.toList s'.data.toList j ∧ HeldV wr w0.heap.size k n s ∧ HeldV wr (w0.heap.size + 1) k n s' ∧ Hid (Below w0.heap.size w0 wr)) (fun i _ => s.size - (intOf i).toNat)
      case atStart => exact ⟨0, by omega, by omega, rfl, rfl, HA.out, HC.out, HB0.out⟩
      case round =>
        obtain ⟨j, hj, hj', rfl, hcm, ha, hc, hb⟩ := hrel
        clear HA HC
        have ha2 := ha.2.2
        have hc2 := hc.2.2
        have HA := Lib.hid ha; have HC := Lib.hid hc; have HB := Lib.hid hb
        clear ha hc hb
        have HCM := Lib.hid hcm; clear hcm
        by_cases hlt : j < s.size ∧ j < s'.size
        · obtain ⟨hj1, hj2⟩ := hlt
          go_wp2_with fail
          clear ha2 hc2
          by_cases hbt : bt s.data.toList j < bt s'.data.toList j
          · have hr := Lib.hid (HCM.out.lt (by rw [Hl.out]; exact hj1) (by rw [Hl'.out]; exact hj2) hbt)
            refine wp_region_specs (R := Rb) (S := [Spec.eq (.pointer (some ⟨w0.heap.size, 2, none⟩)), Spec.eq (.string (s)), Spec.eq (.int .i64 ((j : Int))), Spec.eq (.int .u8 ((bt s.data.toList j : Int))), Spec.eq (.pointer (some ⟨w0.heap.size + 1, 2, none⟩)), Spec.eq (.string (s')), Spec.eq (.int .i64 ((j : Int))), Spec.eq (.int .u8 ((bt s'.data.toList j : Int))), Spec.eq (.bool true)]) (n := 1) (size := 72) (by kernel_rfl) Rb.trans (Rb.drew _) rfl (by kernel_rfl) ?owed ?fin
            case owed =>
              refine Owed.cons ?_ ?_
              · -- 0: slot 40 := Op.fieldAddr 23 (Operand.tmp 2) 2
                intro a w hR F
                have e2 : a.eval (.tmp 2) = .pointer (some ⟨w0.heap.size, 0, none⟩) := F.old 2 (by kernel_rfl)
                exact ok_field _ 2 _ (by decide) rfl (wanted_none rfl) e2 ⟨Rb.refl _, rfl⟩
              refine Owed.cons ?_ ?_
              · -- 1: slot 41 := Op.load 9 (Operand.tmp 40)
                intro a w hR F
                have e40 : a.eval (.tmp 40) = .pointer (some ⟨w0.heap.size, 2, none⟩) := F.new 0 40 (by kernel_rfl)
                exact ok_load _ _ rfl (wanted_none rfl) e40 (HA.out.rb hR).f2 ⟨Rb.refl _, rfl⟩
              refine Owed.cons ?_ ?_
              · -- 2: slot 42 := Op.move (Operand.tmp 5)
                intro a w hR F
                have e5 : a.eval (.tmp 5) = .int .i64 ((j : Int)) := F.old 5 (by kernel_rfl)
                exact ok_move _ rfl (wanted_none rfl) ⟨Rb.refl _, e5⟩
              refine Owed.cons ?_ ?_
              · -- 3: slot 43 := Op.index 9 (Operand.tmp 41) (Operand.tmp 42)
                intro a w hR F
                have e41 : a.eval (.tmp 41) = .string (s) := F.new 1 41 (by kernel_rfl)
                have e42 : a.eval (.tmp 42) = .int .i64 ((j : Int)) := F.new 2 42 (by kernel_rfl)
                exact ok_index_str _ _ _ s (j := j) hj1 Tryd.underlying9 rfl (wanted_none rfl) e41 e42 ⟨Rb.refl _, rfl⟩
              refine Owed.cons ?_ ?_
              · -- 4: slot 44 := Op.fieldAddr 23 (Operand.tmp 3) 2
                intro a w hR F
                have e3 : a.eval (.tmp 3) = .pointer (some ⟨w0.heap.size + 1, 0, none⟩) := F.old 3 (by kernel_rfl)
                exact ok_field _ 2 _ (by decide) rfl (wanted_none rfl) e3 ⟨Rb.refl _, rfl⟩
              refine Owed.cons ?_ ?_
              · -- 5: slot 45 := Op.load 9 (Operand.tmp 44)
                intro a w hR F
                have e44 : a.eval (.tmp 44) = .pointer (some ⟨w0.heap.size + 1, 2, none⟩) := F.new 4 44 (by kernel_rfl)
                exact ok_load _ _ rfl (wanted_none rfl) e44 (HC.out.rb hR).f2 ⟨Rb.refl _, rfl⟩
              refine Owed.cons ?_ ?_
              · -- 6: slot 46 := Op.move (Operand.tmp 5)
                intro a w hR F
                have e5 : a.eval (.tmp 5) = .int .i64 ((j : Int)) := F.old 5 (by kernel_rfl)
                exact ok_move _ rfl (wanted_none rfl) ⟨Rb.refl _, e5⟩
              refine Owed.cons ?_ ?_
              · -- 7: slot 47 := Op.index 9 (Operand.tmp 45) (Operand.tmp 46)
                intro a w hR F
                have e45 : a.eval (.tmp 45) = .string (s') := F.new 5 45 (by kernel_rfl)
                have e46 : a.eval (.tmp 46) = .int .i64 ((j : Int)) := F.new 6 46 (by kernel_rfl)
                exact ok_index_str _ _ _ s' (j := j) hj2 Tryd.underlying9 rfl (wanted_none rfl) e45 e46 ⟨Rb.refl _, rfl⟩
              refine Owed.cons ?_ ?_
              · -- 8: slot 48 := Op.binOp BinOp.lss 5 (Operand.tmp 43) (Operand.tmp 47) 5
                intro a w hR F
                have e43 : a.eval (.tmp 43) = .int .u8 ((bt s.data.toList j : Int)) := F.new 3 43 (by kernel_rfl)
                have e47 : a.eval (.tmp 47) = .int .u8 ((bt s'.data.toList j : Int)) := F.new 7 47 (by kernel_rfl)
                refine ok_bin _ _ _ _ _ rfl (wanted_none rfl) e43 e47 (run_lss_int _ _ _ _ _ _) ⟨Rb.refl _, ?_⟩
                exact congrArg Value.bool (by simp; omega)
              exact Owed.nil
            case fin =>
              intro y w2 hR hy
              have e8 : y 8 = .bool true := hy 8 _ rfl
              have HRR := Lib.hid (Rb.trans _ _ _ HB.out.out hR)
              clear hy hR
              simp only [putAll, Act.put, List.setIfInBounds_toArray, List.set_cons_zero, List.set_cons_succ]
              rw [e8]
              clear e8
              go_wp2
              go_ret
              exact ⟨ret_i64 (hr.out.trans hR.out), HRR.out⟩
          · have hbf : True := trivial
            refine wp_region_specs (R := Rb) (S := [Spec.eq (.pointer (some ⟨w0.heap.size, 2, none⟩)), Spec.eq (.string (s)), Spec.eq (.int .i64 ((j : Int))), Spec.eq (.int .u8 ((bt s.data.toList j : Int))), Spec.eq (.pointer (some ⟨w0.heap.size + 1, 2, none⟩)), Spec.eq (.string (s')), Spec.eq (.int .i64 ((j : Int))), Spec.eq (.int .u8 ((bt s'.data.toList j : Int))), Spec.eq (.bool false)]) (n := 1) (size := 72) (by kernel_rfl) Rb.trans (Rb.drew _) rfl (by kernel_rfl) ?owed ?fin
            case owed =>
              refine Owed.cons ?_ ?_
              · -- 0: slot 40 := Op.fieldAddr 23 (Operand.tmp 2) 2
                intro a w hR F
                have e2 : a.eval (.tmp 2) = .pointer (some ⟨w0.heap.size, 0, none⟩) := F.old 2 (by kernel_rfl)
                exact ok_field _ 2 _ (by decide) rfl (wanted_none rfl) e2 ⟨Rb.refl _, rfl⟩
              refine Owed.cons ?_ ?_
              · -- 1: slot 41 := Op.load 9 (Operand.tmp 40)
                intro a w hR F
                have e40 : a.eval (.tmp 40) = .pointer (some ⟨w0.heap.size, 2, none⟩) := F.new 0 40 (by kernel_rfl)
                exact ok_load _ _ rfl (wanted_none rfl) e40 (HA.out.rb hR).f2 ⟨Rb.refl _, rfl⟩
              refine Owed.cons ?_ ?_
              · -- 2: slot 42 := Op.move (Operand.tmp 5)
                intro a w hR F
                have e5 : a.eval (.tmp 5) = .int .i64 ((j : Int)) := F.old 5 (by kernel_rfl)
                exact ok_move _ rfl (wanted_none rfl) ⟨Rb.refl _, e5⟩
              refine Owed.cons ?_ ?_
              · -- 3: slot 43 := Op.index 9 (Operand.tmp 41) (Operand.tmp 42)
                intro a w hR F
                have e41 : a.eval (.tmp 41) = .string (s) := F.new 1 41 (by kernel_rfl)
                have e42 : a.eval (.tmp 42) = .int .i64 ((j : Int)) := F.new 2 42 (by kernel_rfl)
                exact ok_index_str _ _ _ s (j := j) hj1 Tryd.underlying9 rfl (wanted_none rfl) e41 e42 ⟨Rb.refl _, rfl⟩
              refine Owed.cons ?_ ?_
              · -- 4: slot 44 := Op.fieldAddr 23 (Operand.tmp 3) 2
                intro a w hR F
                have e3 : a.eval (.tmp 3) = .pointer (some ⟨w0.heap.size + 1, 0, none⟩) := F.old 3 (by kernel_rfl)
                exact ok_field _ 2 _ (by decide) rfl (wanted_none rfl) e3 ⟨Rb.refl _, rfl⟩
              refine Owed.cons ?_ ?_
              · -- 5: slot 45 := Op.load 9 (Operand.tmp 44)
                intro a w hR F
                have e44 : a.eval (.tmp 44) = .pointer (some ⟨w0.heap.size + 1, 2, none⟩) := F.new 4 44 (by kernel_rfl)
                exact ok_load _ _ rfl (wanted_none rfl) e44 (HC.out.rb hR).f2 ⟨Rb.refl _, rfl⟩
              refine Owed.cons ?_ ?_
              · -- 6: slot 46 := Op.move (Operand.tmp 5)
                intro a w hR F
                have e5 : a.eval (.tmp 5) = .int .i64 ((j : Int)) := F.old 5 (by kernel_rfl)
                exact ok_move _ rfl (wanted_none rfl) ⟨Rb.refl _, e5⟩
              refine Owed.cons ?_ ?_
              · -- 7: slot 47 := Op.index 9 (Operand.tmp 45) (Operand.tmp 46)
                intro a w hR F
                have e45 : a.eval (.tmp 45) = .string (s') := F.new 5 45 (by kernel_rfl)
                have e46 : a.eval (.tmp 46) = .int .i64 ((j : Int)) := F.new 6 46 (by kernel_rfl)
                exact ok_index_str _ _ _ s' (j := j) hj2 Tryd.underlying9 rfl (wanted_none rfl) e45 e46 ⟨Rb.refl _, rfl⟩
              refine Owed.cons ?_ ?_
              · -- 8: slot 48 := Op.binOp BinOp.lss 5 (Operand.tmp 43) (Operand.tmp 47) 5
                intro a w hR F
                have e43 : a.eval (.tmp 43) = .int .u8 ((bt s.data.toList j : Int)) := F.new 3 43 (by kernel_rfl)
                have e47 : a.eval (.tmp 47) = .int .u8 ((bt s'.data.toList j : Int)) := F.new 7 47 (by kernel_rfl)
                refine ok_bin _ _ _ _ _ rfl (wanted_none rfl) e43 e47 (run_lss_int _ _ _ _ _ _) ⟨Rb.refl _, ?_⟩
                exact congrArg Value.bool (by simp; omega)
              exact Owed.nil
            case fin =>
              intro y w2 hR hy
              have e8 : y 8 = .bool false := hy 8 _ rfl
              have HRR := Lib.hid (Rb.trans _ _ _ HB.out.out hR)
              have hR2 := Lib.hid hR
              clear hy hR
              simp only [putAll, Act.put, List.setIfInBounds_toArray, List.set_cons_zero, List.set_cons_succ]
              rw [e8]
              clear e8
              have HA2 := Lib.hid (HA.out.rb hR2.out)
              have HC2 := Lib.hid (HC.out.rb hR2.out)
              go_wp2_with fail
              by_cases hbg : bt s'.data.toList j < bt s.data.toList j
              · have hr := Lib.hid (HCM.out.gt (by rw [Hl.out]; exact hj1) (by rw [Hl'.out]; exact hj2) hbg)
                refine wp_region_specs (R := Rb) (S := [Spec.eq (.pointer (some ⟨w0.heap.size, 2, none⟩)), Spec.eq (.string (s)), Spec.eq (.int .i64 ((j : Int))), Spec.eq (.int .u8 ((bt s.data.toList j : Int))), Spec.eq (.pointer (some ⟨w0.heap.size + 1, 2, none⟩)), Spec.eq (.string (s')), Spec.eq (.int .i64 ((j : Int))), Spec.eq (.int .u8 ((bt s'.data.toList j : Int))), Spec.eq (.bool true)]) (n := 1) (size := 72) (by kernel_rfl) Rb.trans (Rb.drew _) rfl (by kernel_rfl) ?owed ?fin
                case owed =>
                  refine Owed.cons ?_ ?_
                  · -- 0: slot 49 := Op.fieldAddr 23 (Operand.tmp 2) 2
                    intro a w hR F
                    have e2 : a.eval (.tmp 2) = .pointer (some ⟨w0.heap.size, 0, none⟩) := F.old 2 (by kernel_rfl)
                    exact ok_field _ 2 _ (by decide) rfl (wanted_none rfl) e2 ⟨Rb.refl _, rfl⟩
                  refine Owed.cons ?_ ?_
                  · -- 1: slot 50 := Op.load 9 (Operand.tmp 49)
                    intro a w hR F
                    have e49 : a.eval (.tmp 49) = .pointer (some ⟨w0.heap.size, 2, none⟩) := F.new 0 49 (by kernel_rfl)
                    exact ok_load _ _ rfl (wanted_none rfl) e49 (HA2.out.rb hR).f2 ⟨Rb.refl _, rfl⟩
                  refine Owed.cons ?_ ?_
                  · -- 2: slot 51 := Op.move (Operand.tmp 5)
                    intro a w hR F
                    have e5 : a.eval (.tmp 5) = .int .i64 ((j : Int)) := F.old 5 (by kernel_rfl)
                    exact ok_move _ rfl (wanted_none rfl) ⟨Rb.refl _, e5⟩
                  refine Owed.cons ?_ ?_
                  · -- 3: slot 52 := Op.index 9 (Operand.tmp 50) (Operand.tmp 51)
                    intro a w hR F
                    have e50 : a.eval (.tmp 50) = .string (s) := F.new 1 50 (by kernel_rfl)
                    have e51 : a.eval (.tmp 51) = .int .i64 ((j : Int)) := F.new 2 51 (by kernel_rfl)
                    exact ok_index_str _ _ _ s (j := j) hj1 Tryd.underlying9 rfl (wanted_none rfl) e50 e51 ⟨Rb.refl _, rfl⟩
                  refine Owed.cons ?_ ?_
                  · -- 4: slot 53 := Op.fieldAddr 23 (Operand.tmp 3) 2
                    intro a w hR F
                    have e3 : a.eval (.tmp 3) = .pointer (some ⟨w0.heap.size + 1, 0, none⟩) := F.old 3 (by kernel_rfl)
                    exact ok_field _ 2 _ (by decide) rfl (wanted_none rfl) e3 ⟨Rb.refl _, rfl⟩
                  refine Owed.cons ?_ ?_
                  · -- 5: slot 54 := Op.load 9 (Operand.tmp 53)
                    intro a w hR F
                    have e53 : a.eval (.tmp 53) = .pointer (some ⟨w0.heap.size + 1, 2, none⟩) := F.new 4 53 (by kernel_rfl)
                    exact ok_load _ _ rfl (wanted_none rfl) e53 (HC2.out.rb hR).f2 ⟨Rb.refl _, rfl⟩
                  refine Owed.cons ?_ ?_
                  · -- 6: slot 55 := Op.move (Operand.tmp 5)
                    intro a w hR F
                    have e5 : a.eval (.tmp 5) = .int .i64 ((j : Int)) := F.old 5 (by kernel_rfl)
                    exact ok_move _ rfl (wanted_none rfl) ⟨Rb.refl _, e5⟩
                  refine Owed.cons ?_ ?_
                  · -- 7: slot 56 := Op.index 9 (Operand.tmp 54) (Operand.tmp 55)
                    intro a w hR F
                    have e54 : a.eval (.tmp 54) = .string (s') := F.new 5 54 (by kernel_rfl)
                    have e55 : a.eval (.tmp 55) = .int .i64 ((j : Int)) := F.new 6 55 (by kernel_rfl)
                    exact ok_index_str _ _ _ s' (j := j) hj2 Tryd.underlying9 rfl (wanted_none rfl) e54 e55 ⟨Rb.refl _, rfl⟩
                  refine Owed.cons ?_ ?_
                  · -- 8: slot 57 := Op.binOp BinOp.gtr 5 (Operand.tmp 52) (Operand.tmp 56) 5
                    intro a w hR F
                    have e52 : a.eval (.tmp 52) = .int .u8 ((bt s.data.toList j : Int)) := F.new 3 52 (by kernel_rfl)
                    have e56 : a.eval (.tmp 56) = .int .u8 ((bt s'.data.toList j : Int)) := F.new 7 56 (by kernel_rfl)
                    refine ok_bin _ _ _ _ _ rfl (wanted_none rfl) e52 e56 (run_gtr_int _ _ _ _ _ _) ⟨Rb.refl _, ?_⟩
                    exact congrArg Value.bool (by simp; omega)
                  exact Owed.nil
                case fin =>
                  intro y w2 hR hy
                  have e8 : y 8 = .bool true := hy 8 _ rfl
                  have HRR2 := Lib.hid (Rb.trans _ _ _ HRR.out hR)
                  clear hy hR
                  simp only [putAll, Act.put, List.setIfInBounds_toArray, List.set_cons_zero, List.set_cons_succ]
                  rw [e8]
                  clear e8
                  go_wp2
                  go_ret
                  exact ⟨ret_i64 (hr.out.trans hR.out), HRR2.out⟩
              · have hr := Lib.hid (HCM.out.step (by rw [Hl.out]; exact hj1) (by rw [Hl'.out]; exact hj2) (by omega))
                refine wp_region_specs (R := Rb) (S := [Spec.eq (.pointer (some ⟨w0.heap.size, 2, none⟩)), Spec.eq (.string (s)), Spec.eq (.int .i64 ((j : Int))), Spec.eq (.int .u8 ((bt s.data.toList j : Int))), Spec.eq (.pointer (some ⟨w0.heap.size + 1, 2, none⟩)), Spec.eq (.string (s')), Spec.eq (.int .i64 ((j : Int))), Spec.eq (.int .u8 ((bt s'.data.toList j : Int))), Spec.eq (.bool false)]) (n := 1) (size := 72) (by kernel_rfl) Rb.trans (Rb.drew _) rfl (by kernel_rfl) ?owed ?fin
                case owed =>
                  refine Owed.cons ?_ ?_
                  · -- 0: slot 49 := Op.fieldAddr 23 (Operand.tmp 2) 2
                    intro a w hR F
                    have e2 : a.eval (.tmp 2) = .pointer (some ⟨w0.heap.size, 0, none⟩) := F.old 2 (by kernel_rfl)
                    exact ok_field _ 2 _ (by decide) rfl (wanted_none rfl) e2 ⟨Rb.refl _, rfl⟩
                  refine Owed.cons ?_ ?_
                  · -- 1: slot 50 := Op.load 9 (Operand.tmp 49)
                    intro a w hR F
                    have e49 : a.eval (.tmp 49) = .pointer (some ⟨w0.heap.size, 2, none⟩) := F.new 0 49 (by kernel_rfl)
                    exact ok_load _ _ rfl (wanted_none rfl) e49 (HA2.out.rb hR).f2 ⟨Rb.refl _, rfl⟩
                  refine Owed.cons ?_ ?_
                  · -- 2: slot 51 := Op.move (Operand.tmp 5)
                    intro a w hR F
                    have e5 : a.eval (.tmp 5) = .int .i64 ((j : Int)) := F.old 5 (by kernel_rfl)
                    exact ok_move _ rfl (wanted_none rfl) ⟨Rb.refl _, e5⟩
                  refine Owed.cons ?_ ?_
                  · -- 3: slot 52 := Op.index 9 (Operand.tmp 50) (Operand.tmp 51)
                    intro a w hR F
                    have e50 : a.eval (.tmp 50) = .string (s) := F.new 1 50 (by kernel_rfl)
                    have e51 : a.eval (.tmp 51) = .int .i64 ((j : Int)) := F.new 2 51 (by kernel_rfl)
                    exact ok_index_str _ _ _ s (j := j) hj1 Tryd.underlying9 rfl (wanted_none rfl) e50 e51 ⟨Rb.refl _, rfl⟩
                  refine Owed.cons ?_ ?_
                  · -- 4: slot 53 := Op.fieldAddr 23 (Operand.tmp 3) 2
                    intro a w hR F
                    have e3 : a.eval (.tmp 3) = .pointer (some ⟨w0.heap.size + 1, 0, none⟩) := F.old 3 (by kernel_rfl)
                    exact ok_field _ 2 _ (by decide) rfl (wanted_none rfl) e3 ⟨Rb.refl _, rfl⟩
                  refine Owed.cons ?_ ?_
                  · -- 5: slot 54 := Op.load 9 (Operand.tmp 53)
                    intro a w hR F
                    have e53 : a.eval (.tmp 53) = .pointer (some ⟨w0.heap.size + 1, 2, none⟩) := F.new 4 53 (by kernel_rfl)
                    exact ok_load _ _ rfl (wanted_none rfl) e53 (HC2.out.rb hR).f2 ⟨Rb.refl _, rfl⟩
                  refine Owed.cons ?_ ?_
                  · -- 6: slot 55 := Op.move (Operand.tmp 5)
                    intro a w hR F
                    have e5 : a.eval (.tmp 5) = .int .i64 ((j : Int)) := F.old 5 (by kernel_rfl)
                    exact ok_move _ rfl (wanted_none rfl) ⟨Rb.refl _, e5⟩
                  refine Owed.cons ?_ ?_
                  · -- 7: slot 56 := Op.index 9 (Operand.tmp 54) (Operand.tmp 55)
                    intro a w hR F
                    have e54 : a.eval (.tmp 54) = .string (s') := F.new 5 54 (by kernel_rfl)
                    have e55 : a.eval (.tmp 55) = .int .i64 ((j : Int)) := F.new 6 55 (by kernel_rfl)
                    exact ok_index_str _ _ _ s' (j := j) hj2 Tryd.underlying9 rfl (wanted_none rfl) e54 e55 ⟨Rb.refl _, rfl⟩
                  refine Owed.cons ?_ ?_
                  · -- 8: slot 57 := Op.binOp BinOp.gtr 5 (Operand.tmp 52) (Operand.tmp 56) 5
                    intro a w hR F
                    have e52 : a.eval (.tmp 52) = .int .u8 ((bt s.data.toList j : Int)) := F.new 3 52 (by kernel_rfl)
                    have e56 : a.eval (.tmp 56) = .int .u8 ((bt s'.data.toList j : Int)) := F.new 7 56 (by kernel_rfl)
                    refine ok_bin _ _ _ _ _ rfl (wanted_none rfl) e52 e56 (run_gtr_int _ _ _ _ _ _) ⟨Rb.refl _, ?_⟩
                    exact congrArg Value.bool (by simp; omega)
                  exact Owed.nil
                case fin =>
                  intro y w2 hR hy
                  have e8 : y 8 = .bool false := hy 8 _ rfl
                  have HRR2 := Lib.hid (Rb.trans _ _ _ HRR.out hR)
                  have hR3 := Lib.hid hR
                  clear hy hR
                  simp only [putAll, Act.put, List.setIfInBounds_toArray, List.set_cons_zero, List.set_cons_succ]
                  rw [e8]
                  clear e8
                  have HA3 := Lib.hid (HA2.out.rb hR3.out)
                  have HC3 := Lib.hid (HC2.out.rb hR3.out)
                  go_wp2_with fail
                  go_roundw
                  case rel => exact ⟨j + 1, by omega, by omega, by go_num, hr.out, HA3.out, HC3.out, HRR2.out⟩
                  case measure => simp [intOf]; omega
        · have hf := Lib.hid (HCM.out.fin (by rw [Hl.out]; exact hj) (by rw [Hl'.out]; exact hj') (by rw [Hl.out, Hl'.out]; exact hlt))
          rw [Hl.out, Hl'.out] at hf
          by_cases e1 : s.size < s'.size
          · rw [if_pos e1] at hf
            have hq : ¬ j < s.size := by omega
            clear hlt
            go_wp2
            go_ret
            exact ⟨ret_i64 (hf.out.trans hR.out), HB.out.out⟩
          · rw [if_neg e1] at hf
            have hq : ¬ j < s'.size := by omega
            clear hlt
            by_cases e2 : s'.size < s.size
            · rw [if_pos e2] at hf
              go_wp2
              go_ret
              exact ⟨ret_i64 (hf.out.trans hR.out), HB.out.out⟩
            · rw [if_neg e2] at hf
              go_wp2
              go_ret
              exact ⟨ret_i64 (hf.out.trans hR.out), HB.out.out⟩
    · have hb : (n != n') = true := by simp [hn]
      by_cases hlt : n < n'
      · have hR := Lib.hid (show -1 = cmpV k n s.data.toList k n' s'.data.toList by unfold cmpV orN Lib.compareInt; simp [hlt])
        go_enter Tryd.func25, Tryd.ntmps25
        go_wp2
        go_ret
        exact ⟨ret_i64 hR.out, HB0.out⟩
      · have hR := Lib.hid (show 1 = cmpV k n s.data.toList k n' s'.data.toList by unfold cmpV orN Lib.compareInt; simp [hlt, show n' < n by omega])
        go_enter Tryd.func25, Tryd.ntmps25
        go_wp2
        go_ret
        exact ⟨ret_i64 hR.out, HB0.out⟩
  · have hb : (k != k') = true := by simp [hk]
    by_cases hlt : k < k'
    · have hR := Lib.hid (show -1 = cmpV k n s.data.toList k' n' s'.data.toList by unfold cmpV orN Lib.compareInt; simp [hlt])
      go_enter Tryd.func25, Tryd.ntmps25
      go_wp2
      go_ret
      exact ⟨ret_i64 hR.out, HB0.out⟩
    · have hR := Lib.hid (show 1 = cmpV k n s.data.toList k' n' s'.data.toList by unfold cmpV orN Lib.compareInt; simp [hlt, show k' < k by omega])
      go_enter Tryd.func25, Tryd.ntmps25
      go_wp2
      go_ret
      exact ⟨ret_i64 hR.out, HB0.out⟩
end Go.Proofs.YtefjfiihfbkjoaaDoor
