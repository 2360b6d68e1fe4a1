/-
  ValueTexts, walked.
-/
import Derived.Test.YtefjfiihfbkjoaaDoorVU3
import Derived.Test.YtefjfiihfbkjoaaDoorVQ
namespace Go.Proofs.YtefjfiihfbkjoaaDoor
open Go.ChangeShapes Go.WideShapes Go.ChangeAt Go.RowKit Oct By Reg Val

set_option maxRecDepth 100000 in
theorem texts_walk (k n : Int) (s s1 : ByteArray) (w0 : World) (hs : s.size ≤ maxLen) (hn0 : -9223372036854775808 ≤ n) (hn1 : n ≤ 9223372036854775807) (hs1 : s1.size ≤ maxLen) (htab : Tab w0) (herr : Errs w0) :
    Calls Tryd.prog 6 #[vv k n s, .string s1] w0 fun e w' => e = .returned (.bool true) ∧ Below w0.heap.size w0 w' := by
  have HT := Lib.hid htab; clear htab
  have HE := Lib.hid herr; clear herr
  have HB := Lib.hid (show Rb w0 (w0.alloc (.cells #[.int .i64 k, .int .i64 n, .string s] 23)) from (Below.refl _ _).alloc (Nat.le_refl _) _)
  have HA := Lib.hid (HeldV.at w0 w0.heap.size k n s 23 rfl)
  unfold maxLen at hs1
  go_enter Tryd.func6, Tryd.ntmps6
  go_upto_region 1 with (fail)
  go_cut [1] (fun p wx => ∃ t : ByteArray, p = .string t ∧ t.size ≤ 100 ∧ wx = w0.alloc (.cells #[.int .i64 k, .int .i64 n, .string s] 23))
  case first =>
    go_wp2_with fail
    all_goals
      go_meet
      exact ⟨_, rfl, by simp only [ByteArray.size_extract]; omega, rfl⟩
  case rest =>
    obtain ⟨t, rfl, ht, rfl⟩ := hcut
    by_cases ha : s.size ≤ 100
    · go_upto_region 2 with (fail)
      refine wp_region_plain_specs (R := Rb) (S := [Spec.eq (vv (k) (n) (s)), Spec.eq (.bool true), Spec.eq (.bool false)]) (n := 1) (size := 49) Rb.trans (Rb.refl _) rfl (by kernel_rfl) ?owed ?fin
      case owed =>
        refine Owed.cons ?_ ?_
        · -- 0: slot 14 := Op.load 23 (Operand.tmp 2)
          intro a w hR F
          have e2 : a.eval (.tmp 2) = .pointer (some ⟨w0.heap.size, 0, none⟩) := F.old 2 (by kernel_rfl)
          exact ok_load _ _ rfl (wanted_none rfl) e2 (HA.out.rb hR).load ⟨Rb.refl _, rfl⟩
        refine Owed.cons ?_ ?_
        · -- 1: slot 15 := Op.call { callee := Callee.value (Operand.func 9), args := #[Operand.tmp 14], argTypes := #[23] }
          intro a w hR F
          have e14 : a.eval (.tmp 14) = vv (k) (n) (s) := F.new 0 14 (by kernel_rfl)
          refine ok_call 9 _ _ #[vv (k) (n) (s)] rfl (wanted_none rfl) (by simp [e14]) (Tryd.call9 _ _) ?_
          exact val_call_below (light_yes k n s w hs ha)
        refine Owed.cons ?_ ?_
        · -- 2: slot 16 := Op.unOp UnOp.not 4 (Operand.tmp 15)
          intro a w hR F
          have e15 : a.eval (.tmp 15) = .bool true := F.new 1 15 (by kernel_rfl)
          exact ok_not _ _ true rfl (wanted_none rfl) e15 ⟨Rb.refl _, rfl⟩
        exact Owed.nil
      case fin =>
        intro y w hR hy
        have e2 : y 2 = .bool false := hy 2 _ rfl
        have HA := Lib.hid (HA.out.rb hR)
        have HB := Lib.hid (Rb.trans _ _ _ HB.out hR)
        clear hy hR
        simp only [putAll, Act.put, List.setIfInBounds_toArray, List.set_cons_zero, List.set_cons_succ]
        rw [e2]
        clear e2
        cases hpv : parseV t.data.toList with
        | none =>
          go_upto_region 4 with (fail)
          go_cut [5, 6] (fun p q wx => ∃ B, p = .pointer (some ⟨B, 0, none⟩) ∧ q = .bool false ∧ HeldV wx B 0 0 ⟨#[]⟩ ∧ HeldV wx w0.heap.size k n s ∧ Rb w0 wx)
          case first =>
            have hg := parse_any t _ (Nat.le_trans ht (by decide)) (HT.out.rb HB.out) (HE.out.rb HB.out)
            rw [hpv] at hg
            have HG := Lib.hid hg
            clear hg
            go_wp2_with fail
            refine HG.out.mono ?_
            rintro e w1 ⟨rfl, hb⟩
            have HA := Lib.hid (HA.out.rb hb)
            have HB := Lib.hid (Rb.trans _ _ _ HB.out hb)
            clear hb
            unfold tupP
            go_wp2_with fail
            go_meet
            have g1 := (show Rb w1 (w1.alloc (.cells #[.int .i64 0, .int .i64 0, .string ⟨#[]⟩] 23)) from (Below.refl _ _).alloc (Nat.le_refl _) _)
            exact ⟨w1.heap.size, rfl, rfl, HeldV.at w1 _ _ _ _ _ rfl, HA.out.rb g1, Rb.trans _ _ _ HB.out g1⟩
          case rest =>
            obtain ⟨B1, rfl, rfl, hg1, ha1, hb1⟩ := hcut
            clear HA HB
            have HA := Lib.hid ha1; have HB := Lib.hid hb1; have HG1 := Lib.hid hg1
            clear ha1 hb1 hg1
            go_upto_region 5 with (fail)
            go_cut [7, 8] (fun p q wx => ∃ B K N T, p = .pointer (some ⟨B, 0, none⟩) ∧ q = .bool false ∧ HeldV wx B K N T ∧ (∀ o, wx.frozen? ⟨B, o, none⟩ = false) ∧ w0.heap.size < B ∧ B ≠ B1 ∧ HeldV wx B1 0 0 ⟨#[]⟩ ∧ HeldV wx w0.heap.size k n s ∧ Rb w0 wx)
            case first =>
              go_wp2_with fail
              refine (refparse_none t _ (Nat.le_trans ht (by decide)) hpv).mono ?_
              rintro e w1 ⟨⟨K, N, T, rfl⟩, hb⟩
              have HA := Lib.hid (HA.out.rb hb)
              have HG1 := Lib.hid (HG1.out.rb hb)
              have HB := Lib.hid (Rb.trans _ _ _ HB.out hb)
              clear hb
              go_wp2_with fail
              go_meet
              have g1 := (show Rb w1 (w1.alloc (.cells #[.int .i64 K, .int .i64 N, .string T] 23)) from (Below.refl _ _).alloc (Nat.le_refl _) _)
              exact ⟨w1.heap.size, K, N, T, rfl, rfl, HeldV.at w1 _ _ _ _ _ rfl, fun o => by simp, held_lt HA.out, fun e => Nat.lt_irrefl _ (e ▸ held_lt HG1.out), HG1.out.rb g1, HA.out.rb g1, Rb.trans _ _ _ HB.out g1⟩
            case rest =>
              obtain ⟨B2, K, N, T, rfl, rfl, hg2, hf2, hlt, hne, hg1, ha1, hb1⟩ := hcut
              clear HA HB HG1
              have z0 := hg2.1
              have z1 := hg2.2.1
              have z2 := hg2.2.2
              go_upto_region 8 with (fail)
              have hr : ResB B2 _ := ⟨⟨K, N, T, hg2⟩, hf2⟩
              have HG2 := Lib.hid (put3_held (k := 0) (n := 0) (t := ⟨#[]⟩) hr)
              unfold put3 at HG2
              have a1 := setx_held (i := 0) (v := .int .i64 0) hg1 hne
              have a2 := setx_held (i := 1) (v := .int .i64 0) a1 hne
              have HG1 := Lib.hid (setx_held (i := 2) (v := .string ⟨#[]⟩) a2 hne)
              have c1 := setx_held (i := 0) (v := .int .i64 0) ha1 (Nat.ne_of_gt hlt)
              have c2 := setx_held (i := 1) (v := .int .i64 0) c1 (Nat.ne_of_gt hlt)
              have HA := Lib.hid (setx_held (i := 2) (v := .string ⟨#[]⟩) c2 (Nat.ne_of_gt hlt))
              have HB := Lib.hid (show Rb w0 (put3 wc B2 0 0 ⟨#[]⟩) from Below.setCell (Below.setCell (Below.setCell hb1 (Nat.le_of_lt hlt) _) (Nat.le_of_lt hlt) _) (Nat.le_of_lt hlt) _)
              unfold put3 at HB
              clear a1 a2 c1 c2
              clear z0 z1 z2 hr hg2 hf2 hg1 ha1 hb1
              refine wp_region_specs (R := Rb) (S := [Spec.eq (vv (k) (n) (s)), Spec.eq (strV (printV k n s.data.toList)), Spec.eq (vv (k) (n) (s)), Spec.eq (strV (printV k n s.data.toList)), Spec.eq (.bool true), Spec.eq (.bool true), Spec.eq (vv (0) (0) (⟨#[]⟩)), Spec.eq (vv (0) (0) (⟨#[]⟩)), Spec.eq (.bool true), Spec.eq (.bool true), Spec.eq (.bool true), Spec.eq (.bool false), Spec.eq (.bool false), Spec.eq (.bool true), Spec.eq (.bool true), Spec.eq (.bool true), Spec.eq (.bool true), Spec.eq (.bool true), Spec.eq (.bool true)]) (n := 1) (size := 49) (by kernel_rfl) Rb.trans (Rb.drew _) rfl (by kernel_rfl) ?owed ?fin
              case owed =>
                refine Owed.cons ?_ ?_
                · -- 0: slot 31 := Op.load 23 (Operand.tmp 2)
                  intro a w hR F
                  have e2 : a.eval (.tmp 2) = .pointer (some ⟨w0.heap.size, 0, none⟩) := F.old 2 (by kernel_rfl)
                  exact ok_load _ _ rfl (wanted_none rfl) e2 (HA.out.rb hR).load ⟨Rb.refl _, rfl⟩
                refine Owed.cons ?_ ?_
                · -- 1: slot 32 := Op.call { callee := Callee.value (Operand.func 32), args := #[Operand.tmp 31], argTypes := #[23] }
                  intro a w hR F
                  have e31 : a.eval (.tmp 31) = vv (k) (n) (s) := F.new 0 31 (by kernel_rfl)
                  refine ok_call 32 _ _ #[vv (k) (n) (s)] rfl (wanted_none rfl) (by simp [e31]) (Tryd.call32 _ _) ?_
                  exact val_call_below (print_any k n s w hs hn0 hn1 (HT.out.rb (Rb.trans _ _ _ HB.out hR)))
                refine Owed.cons ?_ ?_
                · -- 2: slot 33 := Op.load 23 (Operand.tmp 2)
                  intro a w hR F
                  have e2 : a.eval (.tmp 2) = .pointer (some ⟨w0.heap.size, 0, none⟩) := F.old 2 (by kernel_rfl)
                  exact ok_load _ _ rfl (wanted_none rfl) e2 (HA.out.rb hR).load ⟨Rb.refl _, rfl⟩
                refine Owed.cons ?_ ?_
                · -- 3: slot 34 := Op.call { callee := Callee.value (Operand.func 33), args := #[Operand.tmp 33], argTypes := #[23] }
                  intro a w hR F
                  have e33 : a.eval (.tmp 33) = vv (k) (n) (s) := F.new 2 33 (by kernel_rfl)
                  refine ok_call 33 _ _ #[vv (k) (n) (s)] rfl (wanted_none rfl) (by simp [e33]) (Tryd.call33 _ _) ?_
                  exact val_call_below (refprint_any k n s w hs hn0 hn1)
                refine Owed.cons ?_ ?_
                · -- 4: slot 35 := Op.binOp BinOp.eql 9 (Operand.tmp 32) (Operand.tmp 34) 9
                  intro a w hR F
                  have e32 : a.eval (.tmp 32) = strV (printV k n s.data.toList) := F.new 1 32 (by kernel_rfl)
                  have e34 : a.eval (.tmp 34) = strV (printV k n s.data.toList) := F.new 3 34 (by kernel_rfl)
                  refine ok_bin _ _ _ _ _ rfl (wanted_none rfl) e32 e34 (run_eql_strV _ _ _ _ _) ⟨Rb.refl _, ?_⟩
                  exact congrArg Value.bool (by simp)
                refine Owed.cons ?_ ?_
                · -- 5: slot 36 := Op.move (Operand.tmp 35)
                  intro a w hR F
                  have e35 : a.eval (.tmp 35) = .bool true := F.new 4 35 (by kernel_rfl)
                  exact ok_move _ rfl (wanted_none rfl) ⟨Rb.refl _, e35⟩
                refine Owed.cons ?_ ?_
                · -- 6: slot 37 := Op.load 23 (Operand.tmp 5)
                  intro a w hR F
                  have e36 : a.eval (.tmp 36) = .bool true := F.new 5 36 (by kernel_rfl)
                  have e5 : a.eval (.tmp 5) = .pointer (some ⟨B1, 0, none⟩) := F.old 5 (by kernel_rfl)
                  exact ok_load _ _ rfl (wanted_true (j := 5) (d := 36) rfl (by kernel_rfl) e36) e5 (HG1.out.rb hR).load ⟨Rb.refl _, rfl⟩
                refine Owed.cons ?_ ?_
                · -- 7: slot 38 := Op.load 23 (Operand.tmp 7)
                  intro a w hR F
                  have e36 : a.eval (.tmp 36) = .bool true := F.new 5 36 (by kernel_rfl)
                  have e7 : a.eval (.tmp 7) = .pointer (some ⟨B2, 0, none⟩) := F.old 7 (by kernel_rfl)
                  exact ok_load _ _ rfl (wanted_true (j := 5) (d := 36) rfl (by kernel_rfl) e36) e7 (HG2.out.rb hR).load ⟨Rb.refl _, rfl⟩
                refine Owed.cons ?_ ?_
                · -- 8: slot 39 := Op.binOp BinOp.eql 23 (Operand.tmp 37) (Operand.tmp 38) 23
                  intro a w hR F
                  have e36 : a.eval (.tmp 36) = .bool true := F.new 5 36 (by kernel_rfl)
                  have e37 : a.eval (.tmp 37) = vv (0) (0) (⟨#[]⟩) := F.new 6 37 (by kernel_rfl)
                  have e38 : a.eval (.tmp 38) = vv (0) (0) (⟨#[]⟩) := F.new 7 38 (by kernel_rfl)
                  refine ok_bin _ _ _ _ _ rfl (wanted_true (j := 5) (d := 36) rfl (by kernel_rfl) e36) e37 e38 (run_eqlV _ _ _ _ _ _ _ _) ⟨Rb.refl _, ?_⟩
                  exact congrArg Value.bool (by unfold eqVB; simp)
                refine Owed.cons ?_ ?_
                · -- 9: slot 40 := Op.pick (Operand.tmp 36) (Operand.tmp 39) (Operand.const (Value.bool false))
                  intro a w hR F
                  have e36 : a.eval (.tmp 36) = .bool true := F.new 5 36 (by kernel_rfl)
                  have e39 : a.eval (.tmp 39) = .bool true := F.new 8 39 (by kernel_rfl)
                  exact ok_pick _ _ _ true rfl (wanted_none rfl) e36 ⟨Rb.refl _, e39⟩
                refine Owed.cons ?_ ?_
                · -- 10: slot 41 := Op.move (Operand.tmp 40)
                  intro a w hR F
                  have e40 : a.eval (.tmp 40) = .bool true := F.new 9 40 (by kernel_rfl)
                  exact ok_move _ rfl (wanted_none rfl) ⟨Rb.refl _, e40⟩
                refine Owed.cons ?_ ?_
                · -- 11: slot 42 := Op.move (Operand.tmp 6)
                  intro a w hR F
                  have e41 : a.eval (.tmp 41) = .bool true := F.new 10 41 (by kernel_rfl)
                  have e6 : a.eval (.tmp 6) = .bool false := F.old 6 (by kernel_rfl)
                  exact ok_move _ rfl (wanted_true (j := 10) (d := 41) rfl (by kernel_rfl) e41) ⟨Rb.refl _, e6⟩
                refine Owed.cons ?_ ?_
                · -- 12: slot 43 := Op.move (Operand.tmp 8)
                  intro a w hR F
                  have e41 : a.eval (.tmp 41) = .bool true := F.new 10 41 (by kernel_rfl)
                  have e8 : a.eval (.tmp 8) = .bool false := F.old 8 (by kernel_rfl)
                  exact ok_move _ rfl (wanted_true (j := 10) (d := 41) rfl (by kernel_rfl) e41) ⟨Rb.refl _, e8⟩
                refine Owed.cons ?_ ?_
                · -- 13: slot 44 := Op.binOp BinOp.eql 4 (Operand.tmp 42) (Operand.tmp 43) 4
                  intro a w hR F
                  have e41 : a.eval (.tmp 41) = .bool true := F.new 10 41 (by kernel_rfl)
                  have e42 : a.eval (.tmp 42) = .bool false := F.new 11 42 (by kernel_rfl)
                  have e43 : a.eval (.tmp 43) = .bool false := F.new 12 43 (by kernel_rfl)
                  refine ok_bin _ _ _ _ _ rfl (wanted_true (j := 10) (d := 41) rfl (by kernel_rfl) e41) e42 e43 (run_eql_boolB _ _ _ _ _ Tryd.underlying4) ⟨Rb.refl _, ?_⟩
                  exact congrArg Value.bool (by simp)
                refine Owed.cons ?_ ?_
                · -- 14: slot 45 := Op.pick (Operand.tmp 41) (Operand.tmp 44) (Operand.const (Value.bool false))
                  intro a w hR F
                  have e41 : a.eval (.tmp 41) = .bool true := F.new 10 41 (by kernel_rfl)
                  have e44 : a.eval (.tmp 44) = .bool true := F.new 13 44 (by kernel_rfl)
                  exact ok_pick _ _ _ true rfl (wanted_none rfl) e41 ⟨Rb.refl _, e44⟩
                refine Owed.cons ?_ ?_
                · -- 15: slot 46 := Op.move (Operand.tmp 45)
                  intro a w hR F
                  have e45 : a.eval (.tmp 45) = .bool true := F.new 14 45 (by kernel_rfl)
                  exact ok_move _ rfl (wanted_none rfl) ⟨Rb.refl _, e45⟩
                refine Owed.cons ?_ ?_
                · -- 16: slot 47 := Op.call { callee := Callee.value (Operand.func 10), args := #[], argTypes := #[] }
                  intro a w hR F
                  have e46 : a.eval (.tmp 46) = .bool true := F.new 15 46 (by kernel_rfl)
                  refine ok_call 10 _ _ #[] rfl (wanted_true (j := 15) (d := 46) rfl (by kernel_rfl) e46) (by simp) (Tryd.call10 _ _) ?_
                  exact val_call_below (lives_any w (HT.out.rb (Rb.trans _ _ _ HB.out hR)))
                refine Owed.cons ?_ ?_
                · -- 17: slot 48 := Op.pick (Operand.tmp 46) (Operand.tmp 47) (Operand.const (Value.bool false))
                  intro a w hR F
                  have e46 : a.eval (.tmp 46) = .bool true := F.new 15 46 (by kernel_rfl)
                  have e47 : a.eval (.tmp 47) = .bool true := F.new 16 47 (by kernel_rfl)
                  exact ok_pick _ _ _ true rfl (wanted_none rfl) e46 ⟨Rb.refl _, e47⟩
                refine Owed.cons ?_ ?_
                · -- 18: slot 4 := Op.assign (Operand.tmp 48)
                  intro a w hR F
                  have e48 : a.eval (.tmp 48) = .bool true := F.new 17 48 (by kernel_rfl)
                  exact ok_assign _ rfl (wanted_none rfl) ⟨Rb.refl _, e48⟩
                exact Owed.nil
              case fin =>
                intro y w hR hy
                have e18 : y 18 = .bool true := hy 18 _ rfl
                have HB := Lib.hid (Rb.trans _ _ _ HB.out hR)
                clear hy hR
                simp only [putAll, Act.put, List.setIfInBounds_toArray, List.set_cons_zero, List.set_cons_succ]
                rw [e18]
                clear e18
                go_wp2
                go_ret
                exact ⟨rfl, HB.out⟩
        | some r =>
          obtain ⟨K, N, S⟩ := r
          go_upto_region 4 with (fail)
          go_cut [5, 6] (fun p q wx => ∃ B, p = .pointer (some ⟨B, 0, none⟩) ∧ q = .bool true ∧ HeldV wx B K N (str S) ∧ HeldV wx w0.heap.size k n s ∧ Rb w0 wx)
          case first =>
            have hg := parse_any t _ (Nat.le_trans ht (by decide)) (HT.out.rb HB.out) (HE.out.rb HB.out)
            rw [hpv] at hg
            have HG := Lib.hid hg
            clear hg
            go_wp2_with fail
            refine HG.out.mono ?_
            rintro e w1 ⟨rfl, hb⟩
            have HA := Lib.hid (HA.out.rb hb)
            have HB := Lib.hid (Rb.trans _ _ _ HB.out hb)
            clear hb
            unfold tupP
            go_wp2_with fail
            go_meet
            have g1 := (show Rb w1 (w1.alloc (.cells #[.int .i64 K, .int .i64 N, .string (str S)] 23)) from (Below.refl _ _).alloc (Nat.le_refl _) _)
            exact ⟨w1.heap.size, rfl, rfl, HeldV.at w1 _ _ _ _ _ rfl, HA.out.rb g1, Rb.trans _ _ _ HB.out g1⟩
          case rest =>
            obtain ⟨B1, rfl, rfl, hg1, ha1, hb1⟩ := hcut
            clear HA HB
            have HA := Lib.hid ha1; have HB := Lib.hid hb1; have HG1 := Lib.hid hg1
            clear ha1 hb1 hg1
            go_upto_region 5 with (fail)
            go_cut [7, 8] (fun p q wx => ∃ B, p = .pointer (some ⟨B, 0, none⟩) ∧ q = .bool true ∧ HeldV wx B K N (str S) ∧ HeldV wx B1 K N (str S) ∧ HeldV wx w0.heap.size k n s ∧ Rb w0 wx)
            case first =>
              go_wp2_with fail
              refine (refparse_some t _ (Nat.le_trans ht (by decide)) hpv).mono ?_
              rintro e w1 ⟨rfl, hb⟩
              have HA := Lib.hid (HA.out.rb hb)
              have HG1 := Lib.hid (HG1.out.rb hb)
              have HB := Lib.hid (Rb.trans _ _ _ HB.out hb)
              clear hb
              go_wp2_with fail
              go_meet
              have g1 := (show Rb w1 (w1.alloc (.cells #[.int .i64 K, .int .i64 N, .string (str S)] 23)) from (Below.refl _ _).alloc (Nat.le_refl _) _)
              exact ⟨w1.heap.size, rfl, rfl, HeldV.at w1 _ _ _ _ _ rfl, HG1.out.rb g1, HA.out.rb g1, Rb.trans _ _ _ HB.out g1⟩
            case rest =>
              obtain ⟨B2, rfl, rfl, hg2, hg1, ha1, hb1⟩ := hcut
              clear HA HB HG1
              have HA := Lib.hid ha1; have HB := Lib.hid hb1; have HG1 := Lib.hid hg1; have HG2 := Lib.hid hg2
              clear ha1 hb1 hg1 hg2
              go_upto_region 8 with (fail)
              refine wp_region_specs (R := Rb) (S := [Spec.eq (vv (k) (n) (s)), Spec.eq (strV (printV k n s.data.toList)), Spec.eq (vv (k) (n) (s)), Spec.eq (strV (printV k n s.data.toList)), Spec.eq (.bool true), Spec.eq (.bool true), Spec.eq (vv (K) (N) (str S)), Spec.eq (vv (K) (N) (str S)), Spec.eq (.bool true), Spec.eq (.bool true), Spec.eq (.bool true), Spec.eq (.bool true), Spec.eq (.bool true), Spec.eq (.bool true), Spec.eq (.bool true), Spec.eq (.bool true), Spec.eq (.bool true), Spec.eq (.bool true), Spec.eq (.bool true)]) (n := 1) (size := 49) (by kernel_rfl) Rb.trans (Rb.drew _) rfl (by kernel_rfl) ?owed ?fin
              case owed =>
                refine Owed.cons ?_ ?_
                · -- 0: slot 31 := Op.load 23 (Operand.tmp 2)
                  intro a w hR F
                  have e2 : a.eval (.tmp 2) = .pointer (some ⟨w0.heap.size, 0, none⟩) := F.old 2 (by kernel_rfl)
                  exact ok_load _ _ rfl (wanted_none rfl) e2 (HA.out.rb hR).load ⟨Rb.refl _, rfl⟩
                refine Owed.cons ?_ ?_
                · -- 1: slot 32 := Op.call { callee := Callee.value (Operand.func 32), args := #[Operand.tmp 31], argTypes := #[23] }
                  intro a w hR F
                  have e31 : a.eval (.tmp 31) = vv (k) (n) (s) := F.new 0 31 (by kernel_rfl)
                  refine ok_call 32 _ _ #[vv (k) (n) (s)] rfl (wanted_none rfl) (by simp [e31]) (Tryd.call32 _ _) ?_
                  exact val_call_below (print_any k n s w hs hn0 hn1 (HT.out.rb (Rb.trans _ _ _ HB.out hR)))
                refine Owed.cons ?_ ?_
                · -- 2: slot 33 := Op.load 23 (Operand.tmp 2)
                  intro a w hR F
                  have e2 : a.eval (.tmp 2) = .pointer (some ⟨w0.heap.size, 0, none⟩) := F.old 2 (by kernel_rfl)
                  exact ok_load _ _ rfl (wanted_none rfl) e2 (HA.out.rb hR).load ⟨Rb.refl _, rfl⟩
                refine Owed.cons ?_ ?_
                · -- 3: slot 34 := Op.call { callee := Callee.value (Operand.func 33), args := #[Operand.tmp 33], argTypes := #[23] }
                  intro a w hR F
                  have e33 : a.eval (.tmp 33) = vv (k) (n) (s) := F.new 2 33 (by kernel_rfl)
                  refine ok_call 33 _ _ #[vv (k) (n) (s)] rfl (wanted_none rfl) (by simp [e33]) (Tryd.call33 _ _) ?_
                  exact val_call_below (refprint_any k n s w hs hn0 hn1)
                refine Owed.cons ?_ ?_
                · -- 4: slot 35 := Op.binOp BinOp.eql 9 (Operand.tmp 32) (Operand.tmp 34) 9
                  intro a w hR F
                  have e32 : a.eval (.tmp 32) = strV (printV k n s.data.toList) := F.new 1 32 (by kernel_rfl)
                  have e34 : a.eval (.tmp 34) = strV (printV k n s.data.toList) := F.new 3 34 (by kernel_rfl)
                  refine ok_bin _ _ _ _ _ rfl (wanted_none rfl) e32 e34 (run_eql_strV _ _ _ _ _) ⟨Rb.refl _, ?_⟩
                  exact congrArg Value.bool (by simp)
                refine Owed.cons ?_ ?_
                · -- 5: slot 36 := Op.move (Operand.tmp 35)
                  intro a w hR F
                  have e35 : a.eval (.tmp 35) = .bool true := F.new 4 35 (by kernel_rfl)
                  exact ok_move _ rfl (wanted_none rfl) ⟨Rb.refl _, e35⟩
                refine Owed.cons ?_ ?_
                · -- 6: slot 37 := Op.load 23 (Operand.tmp 5)
                  intro a w hR F
                  have e36 : a.eval (.tmp 36) = .bool true := F.new 5 36 (by kernel_rfl)
                  have e5 : a.eval (.tmp 5) = .pointer (some ⟨B1, 0, none⟩) := F.old 5 (by kernel_rfl)
                  exact ok_load _ _ rfl (wanted_true (j := 5) (d := 36) rfl (by kernel_rfl) e36) e5 (HG1.out.rb hR).load ⟨Rb.refl _, rfl⟩
                refine Owed.cons ?_ ?_
                · -- 7: slot 38 := Op.load 23 (Operand.tmp 7)
                  intro a w hR F
                  have e36 : a.eval (.tmp 36) = .bool true := F.new 5 36 (by kernel_rfl)
                  have e7 : a.eval (.tmp 7) = .pointer (some ⟨B2, 0, none⟩) := F.old 7 (by kernel_rfl)
                  exact ok_load _ _ rfl (wanted_true (j := 5) (d := 36) rfl (by kernel_rfl) e36) e7 (HG2.out.rb hR).load ⟨Rb.refl _, rfl⟩
                refine Owed.cons ?_ ?_
                · -- 8: slot 39 := Op.binOp BinOp.eql 23 (Operand.tmp 37) (Operand.tmp 38) 23
                  intro a w hR F
                  have e36 : a.eval (.tmp 36) = .bool true := F.new 5 36 (by kernel_rfl)
                  have e37 : a.eval (.tmp 37) = vv (K) (N) (str S) := F.new 6 37 (by kernel_rfl)
                  have e38 : a.eval (.tmp 38) = vv (K) (N) (str S) := F.new 7 38 (by kernel_rfl)
                  refine ok_bin _ _ _ _ _ rfl (wanted_true (j := 5) (d := 36) rfl (by kernel_rfl) e36) e37 e38 (run_eqlV _ _ _ _ _ _ _ _) ⟨Rb.refl _, ?_⟩
                  exact congrArg Value.bool (by unfold eqVB; simp)
                refine Owed.cons ?_ ?_
                · -- 9: slot 40 := Op.pick (Operand.tmp 36) (Operand.tmp 39) (Operand.const (Value.bool false))
                  intro a w hR F
                  have e36 : a.eval (.tmp 36) = .bool true := F.new 5 36 (by kernel_rfl)
                  have e39 : a.eval (.tmp 39) = .bool true := F.new 8 39 (by kernel_rfl)
                  exact ok_pick _ _ _ true rfl (wanted_none rfl) e36 ⟨Rb.refl _, e39⟩
                refine Owed.cons ?_ ?_
                · -- 10: slot 41 := Op.move (Operand.tmp 40)
                  intro a w hR F
                  have e40 : a.eval (.tmp 40) = .bool true := F.new 9 40 (by kernel_rfl)
                  exact ok_move _ rfl (wanted_none rfl) ⟨Rb.refl _, e40⟩
                refine Owed.cons ?_ ?_
                · -- 11: slot 42 := Op.move (Operand.tmp 6)
                  intro a w hR F
                  have e41 : a.eval (.tmp 41) = .bool true := F.new 10 41 (by kernel_rfl)
                  have e6 : a.eval (.tmp 6) = .bool true := F.old 6 (by kernel_rfl)
                  exact ok_move _ rfl (wanted_true (j := 10) (d := 41) rfl (by kernel_rfl) e41) ⟨Rb.refl _, e6⟩
                refine Owed.cons ?_ ?_
                · -- 12: slot 43 := Op.move (Operand.tmp 8)
                  intro a w hR F
                  have e41 : a.eval (.tmp 41) = .bool true := F.new 10 41 (by kernel_rfl)
                  have e8 : a.eval (.tmp 8) = .bool true := F.old 8 (by kernel_rfl)
                  exact ok_move _ rfl (wanted_true (j := 10) (d := 41) rfl (by kernel_rfl) e41) ⟨Rb.refl _, e8⟩
                refine Owed.cons ?_ ?_
                · -- 13: slot 44 := Op.binOp BinOp.eql 4 (Operand.tmp 42) (Operand.tmp 43) 4
                  intro a w hR F
                  have e41 : a.eval (.tmp 41) = .bool true := F.new 10 41 (by kernel_rfl)
                  have e42 : a.eval (.tmp 42) = .bool true := F.new 11 42 (by kernel_rfl)
                  have e43 : a.eval (.tmp 43) = .bool true := F.new 12 43 (by kernel_rfl)
                  refine ok_bin _ _ _ _ _ rfl (wanted_true (j := 10) (d := 41) rfl (by kernel_rfl) e41) e42 e43 (run_eql_boolB _ _ _ _ _ Tryd.underlying4) ⟨Rb.refl _, ?_⟩
                  exact congrArg Value.bool (by simp)
                refine Owed.cons ?_ ?_
                · -- 14: slot 45 := Op.pick (Operand.tmp 41) (Operand.tmp 44) (Operand.const (Value.bool false))
                  intro a w hR F
                  have e41 : a.eval (.tmp 41) = .bool true := F.new 10 41 (by kernel_rfl)
                  have e44 : a.eval (.tmp 44) = .bool true := F.new 13 44 (by kernel_rfl)
                  exact ok_pick _ _ _ true rfl (wanted_none rfl) e41 ⟨Rb.refl _, e44⟩
                refine Owed.cons ?_ ?_
                · -- 15: slot 46 := Op.move (Operand.tmp 45)
                  intro a w hR F
                  have e45 : a.eval (.tmp 45) = .bool true := F.new 14 45 (by kernel_rfl)
                  exact ok_move _ rfl (wanted_none rfl) ⟨Rb.refl _, e45⟩
                refine Owed.cons ?_ ?_
                · -- 16: slot 47 := Op.call { callee := Callee.value (Operand.func 10), args := #[], argTypes := #[] }
                  intro a w hR F
                  have e46 : a.eval (.tmp 46) = .bool true := F.new 15 46 (by kernel_rfl)
                  refine ok_call 10 _ _ #[] rfl (wanted_true (j := 15) (d := 46) rfl (by kernel_rfl) e46) (by simp) (Tryd.call10 _ _) ?_
                  exact val_call_below (lives_any w (HT.out.rb (Rb.trans _ _ _ HB.out hR)))
                refine Owed.cons ?_ ?_
                · -- 17: slot 48 := Op.pick (Operand.tmp 46) (Operand.tmp 47) (Operand.const (Value.bool false))
                  intro a w hR F
                  have e46 : a.eval (.tmp 46) = .bool true := F.new 15 46 (by kernel_rfl)
                  have e47 : a.eval (.tmp 47) = .bool true := F.new 16 47 (by kernel_rfl)
                  exact ok_pick _ _ _ true rfl (wanted_none rfl) e46 ⟨Rb.refl _, e47⟩
                refine Owed.cons ?_ ?_
                · -- 18: slot 4 := Op.assign (Operand.tmp 48)
                  intro a w hR F
                  have e48 : a.eval (.tmp 48) = .bool true := F.new 17 48 (by kernel_rfl)
                  exact ok_assign _ rfl (wanted_none rfl) ⟨Rb.refl _, e48⟩
                exact Owed.nil
              case fin =>
                intro y w hR hy
                have e18 : y 18 = .bool true := hy 18 _ rfl
                have HB := Lib.hid (Rb.trans _ _ _ HB.out hR)
                clear hy hR
                simp only [putAll, Act.put, List.setIfInBounds_toArray, List.set_cons_zero, List.set_cons_succ]
                rw [e18]
                clear e18
                go_wp2
                go_ret
                exact ⟨rfl, HB.out⟩
    · go_upto_region 2 with (fail)
      refine wp_region_plain_specs (R := Rb) (S := [Spec.eq (vv (k) (n) (s)), Spec.eq (.bool false), Spec.eq (.bool true)]) (n := 1) (size := 49) Rb.trans (Rb.refl _) rfl (by kernel_rfl) ?owed ?fin
      case owed =>
        refine Owed.cons ?_ ?_
        · -- 0: slot 14 := Op.load 23 (Operand.tmp 2)
          intro a w hR F
          have e2 : a.eval (.tmp 2) = .pointer (some ⟨w0.heap.size, 0, none⟩) := F.old 2 (by kernel_rfl)
          exact ok_load _ _ rfl (wanted_none rfl) e2 (HA.out.rb hR).load ⟨Rb.refl _, rfl⟩
        refine Owed.cons ?_ ?_
        · -- 1: slot 15 := Op.call { callee := Callee.value (Operand.func 9), args := #[Operand.tmp 14], argTypes := #[23] }
          intro a w hR F
          have e14 : a.eval (.tmp 14) = vv (k) (n) (s) := F.new 0 14 (by kernel_rfl)
          refine ok_call 9 _ _ #[vv (k) (n) (s)] rfl (wanted_none rfl) (by simp [e14]) (Tryd.call9 _ _) ?_
          exact val_call_below (light_no k n s w hs ha)
        refine Owed.cons ?_ ?_
        · -- 2: slot 16 := Op.unOp UnOp.not 4 (Operand.tmp 15)
          intro a w hR F
          have e15 : a.eval (.tmp 15) = .bool false := F.new 1 15 (by kernel_rfl)
          exact ok_not _ _ false rfl (wanted_none rfl) e15 ⟨Rb.refl _, rfl⟩
        exact Owed.nil
      case fin =>
        intro y w hR hy
        have e2 : y 2 = .bool true := hy 2 _ rfl
        have HA := Lib.hid (HA.out.rb hR)
        have HB := Lib.hid (Rb.trans _ _ _ HB.out hR)
        clear hy hR
        simp only [putAll, Act.put, List.setIfInBounds_toArray, List.set_cons_zero, List.set_cons_succ]
        rw [e2]
        clear e2
        go_wp2_with fail
        refine (lives_any _ (HT.out.rb HB.out)).mono ?_
        rintro e w1 ⟨rfl, hb⟩
        have HB := Lib.hid (Rb.trans _ _ _ HB.out hb)
        clear hb
        go_wp2
        go_ret
        exact ⟨rfl, HB.out⟩
end Go.Proofs.YtefjfiihfbkjoaaDoor
