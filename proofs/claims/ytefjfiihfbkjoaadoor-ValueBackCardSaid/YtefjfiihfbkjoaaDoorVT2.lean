/-
  ValueBytes, walked.
-/
import Derived.Test.YtefjfiihfbkjoaaDoorVW
import Derived.Test.YtefjfiihfbkjoaaDoorVQ
namespace Go.Proofs.YtefjfiihfbkjoaaDoor
open Go.ChangeShapes Go.WideShapes Go.ChangeAt Go.RowKit Oct By Reg Val

theorem bs_call {P : Program} {f : FuncId} {vs : Array Value} {w : World} {bs : List UInt8} (h : Calls P f vs w fun e w' => ∃ v, e = .returned v ∧ Bs w' v bs ∧ Below w.heap.size w w') : Calls P f vs w fun e w'' => ∃ v, e = .returned v ∧ Rb w w'' ∧ (bsSpec bs).V w'' v :=
  h.mono fun _ _ ⟨v, he, ho, hb⟩ => ⟨v, he, hb, ho⟩
theorem bs_take {w : World} {ao : Option Addr} {cap : Nat} {zs : List UInt8} (m : Nat) (n : Nat) (hn : n = min zs.length m) (h : Bs w (.slice ao zs.length cap) zs) : Bs w (.slice ao n cap) (zs.take m) := by
  obtain ⟨ao', cap', e, h2, h3, h4, h5⟩ := h
  simp only [Value.slice.injEq] at e
  obtain ⟨rfl, _, rfl⟩ := e
  have hl : (zs.take m).length = n := by rw [List.length_take, hn, Nat.min_comm]
  rw [← hl]
  refine ⟨ao, cap, rfl, by rw [List.length_take]; omega, h3, h4, fun ad ha j u hu => h5 ad ha j u ?_⟩
  rw [List.map_take, List.getElem?_take] at hu
  split at hu
  · exact hu
  · cases hu

theorem getV_in {xs S : List UInt8} {i K N : Int} {c : Nat} (h : getV xs i = some (K, N, S, c)) : 0 ≤ i ∧ i < xs.length := by
  unfold getV at h
  split at h
  · assumption
  · cases h
theorem getV_pos {xs S : List UInt8} {i K N : Int} {c : Nat} (h : getV xs i = some (K, N, S, c)) : 1 ≤ c ∧ c ≤ xs.length + 1 := by
  have hi := getV_in h
  unfold getV at h
  rw [if_pos hi] at h
  split at h
  · cases h
  · rename_i hcd
    have := cand_pos hcd (by omega)
    split at h
    · cases h; omega
    · cases h
set_option maxRecDepth 100000 in
theorem bytes_walk (k n : Int) (s : ByteArray) (b : Value) (zs : List UInt8) (i : Int) (w0 : World) (hs : s.size ≤ maxLen) (hn0 : -9223372036854775808 ≤ n) (hn1 : n ≤ 9223372036854775807) (hb0 : Bs w0 b zs) (hi0 : -9223372036854775808 ≤ i) (hi1 : i ≤ 9223372036854775807) (htab : Tab w0) :
    Calls Tryd.prog 5 #[vv k n s, b, .int .i64 i] w0 fun e w' => e = .returned (.bool true) ∧ Below w0.heap.size w0 w' := by
  have HT := Lib.hid htab; clear htab
  have HB := Lib.hid (show Rb w0 (w0.alloc (.cells #[.int .i64 k, .int .i64 n, .string s] 23)) from (Below.refl _ _).alloc (Nat.le_refl _) _)
  have HA := Lib.hid (HeldV.at w0 w0.heap.size k n s 23 rfl)
  obtain ⟨ao, cap, rfl, hz1, hz2⟩ := hb0.len
  have HX := Lib.hid (hb0.below HB.out)
  clear hb0
  unfold maxLen at hz2
  go_enter Tryd.func5, Tryd.ntmps5
  go_upto_region 1 with (fail)
  go_cut [1] (fun p wx => ∃ n', p = .slice ao n' cap ∧ n' = min zs.length 200 ∧ wx = w0.alloc (.cells #[.int .i64 k, .int .i64 n, .string s] 23))
  case first =>
    go_wp2_with fail
    all_goals
      go_meet
      exact ⟨_, rfl, by omega, rfl⟩
  case rest =>
    obtain ⟨n', rfl, hn', rfl⟩ := hcut
    have hx1 := bs_take 200 n' hn' HX.out
    obtain ⟨xs, hxs⟩ : ∃ xs, xs = zs.take 200 := ⟨_, rfl⟩
    have hnx : n' = xs.length := by rw [hxs, List.length_take, Nat.min_comm]; exact hn'
    rw [← hxs] at hx1
    subst hnx
    have hx : xs.length ≤ 1000 := by rw [hxs, List.length_take]; omega
    have hx2 : xs.length ≤ 200 := by rw [hxs, List.length_take]; omega
    clear HX hxs hn'
    have HX := Lib.hid hx1
    clear hx1
    by_cases ha : s.size ≤ 100
    · go_upto_region 2 with (fail)
      refine wp_region_plain_specs (R := Rb) (S := [Spec.eq (vv (k) (n) (s)), Spec.eq (.bool true), Spec.eq (.bool false)]) (n := 1) (size := 77) Rb.trans (Rb.refl _) rfl (by kernel_rfl) ?owed ?fin
      case owed =>
        refine Owed.cons ?_ ?_
        · -- 0: slot 17 := Op.load 23 (Operand.tmp 3)
          intro a w hR F
          have e3 : a.eval (.tmp 3) = .pointer (some ⟨w0.heap.size, 0, none⟩) := F.old 3 (by kernel_rfl)
          exact ok_load _ _ rfl (wanted_none rfl) e3 (HA.out.rb hR).load ⟨Rb.refl _, rfl⟩
        refine Owed.cons ?_ ?_
        · -- 1: slot 18 := Op.call { callee := Callee.value (Operand.func 9), args := #[Operand.tmp 17], argTypes := #[23] }
          intro a w hR F
          have e17 : a.eval (.tmp 17) = vv (k) (n) (s) := F.new 0 17 (by kernel_rfl)
          refine ok_call 9 _ _ #[vv (k) (n) (s)] rfl (wanted_none rfl) (by simp [e17]) (Tryd.call9 _ _) ?_
          exact val_call_below (light_yes k n s w hs ha)
        refine Owed.cons ?_ ?_
        · -- 2: slot 19 := Op.unOp UnOp.not 4 (Operand.tmp 18)
          intro a w hR F
          have e18 : a.eval (.tmp 18) = .bool true := F.new 1 18 (by kernel_rfl)
          exact ok_not _ _ true rfl (wanted_none rfl) e18 ⟨Rb.refl _, rfl⟩
        exact Owed.nil
      case fin =>
        intro y w hR hy
        have e2 : y 2 = .bool false := hy 2 _ rfl
        have HA := Lib.hid (HA.out.rb hR)
        have HX := Lib.hid (HX.out.below hR)
        have HB := Lib.hid (Rb.trans _ _ _ HB.out hR)
        clear hy hR
        simp only [putAll, Act.put, List.setIfInBounds_toArray, List.set_cons_zero, List.set_cons_succ]
        rw [e2]
        clear e2
        cases hgv : getV xs i with
        | none =>
          go_upto_region 4 with (fail)
          go_cut [7, 8, 9] (fun p q0 q1 wx => ∃ B, p = .pointer (some ⟨B, 0, none⟩) ∧ q0 = .int .i64 0 ∧ q1 = .bool false ∧ HeldV wx B 0 0 ⟨#[]⟩ ∧ HeldV wx w0.heap.size k n s ∧ Bs wx (.slice ao xs.length cap) xs ∧ Rb w0 wx)
          case first =>
            have hg := get_any (.slice ao xs.length cap) xs i _ HX.out hx
            rw [hgv] at hg
            have HG := Lib.hid hg
            clear hg
            go_wp2_with fail
            refine HG.out.mono ?_
            rintro e w1 ⟨rfl, hb⟩
            have HA := Lib.hid (HA.out.rb hb)
            have HX := Lib.hid (HX.out.below hb)
            have HB := Lib.hid (Rb.trans _ _ _ HB.out hb)
            clear hb
            unfold tupV
            go_wp2_with fail
            go_meet
            have g1 := (show Rb w1 (w1.alloc (.cells #[.int .i64 0, .int .i64 0, .string ⟨#[]⟩] 23)) from (Below.refl _ _).alloc (Nat.le_refl _) _)
            exact ⟨w1.heap.size, rfl, rfl, rfl, HeldV.at w1 _ _ _ _ _ rfl, HA.out.rb g1, HX.out.below g1, Rb.trans _ _ _ HB.out g1⟩
          case rest =>
            obtain ⟨B1, rfl, rfl, rfl, hg1, ha1, hx1, hb1⟩ := hcut
            clear HA HX HB
            have HA := Lib.hid ha1; have HX := Lib.hid hx1; have HB := Lib.hid hb1; have HG1 := Lib.hid hg1
            clear ha1 hx1 hb1 hg1
            go_upto_region 5 with (fail)
            go_cut [10, 11] (fun p q0 wx => ∃ B, p = .pointer (some ⟨B, 0, none⟩) ∧ q0 = .int .i64 0 ∧ HeldV wx B 0 0 ⟨#[]⟩ ∧ HeldV wx w0.heap.size k n s ∧ Bs wx (.slice ao xs.length cap) xs ∧ Rb w0 wx ∧ HeldV wx B1 0 0 ⟨#[]⟩)
            case first =>
              have hg := refget_val (.slice ao xs.length cap) xs i _ HX.out hx
              rw [hgv] at hg
              have HG := Lib.hid hg
              clear hg
              go_wp2_with fail
              refine HG.out.mono ?_
              rintro e w1 ⟨rfl, hb⟩
              have HA := Lib.hid (HA.out.rb hb)
              have HX := Lib.hid (HX.out.below hb)
              have HB := Lib.hid (Rb.trans _ _ _ HB.out hb)
              have HG1 := Lib.hid (HG1.out.rb hb)
              clear hb
              unfold tupRV
              go_wp2_with fail
              go_meet
              have g1 := (show Rb w1 (w1.alloc (.cells #[.int .i64 0, .int .i64 0, .string ⟨#[]⟩] 23)) from (Below.refl _ _).alloc (Nat.le_refl _) _)
              exact ⟨w1.heap.size, rfl, rfl, HeldV.at w1 _ _ _ _ _ rfl, HA.out.rb g1, HX.out.below g1, Rb.trans _ _ _ HB.out g1, HG1.out.rb g1⟩
            case rest =>
              obtain ⟨B2, rfl, rfl, hg1, ha1, hx1, hb1, hHG1⟩ := hcut
              clear HA HX HB HG1
              have HA := Lib.hid ha1; have HX := Lib.hid hx1; have HB := Lib.hid hb1; have HG2 := Lib.hid hg1
              have HG1 := Lib.hid hHG1
              clear ha1 hx1 hb1 hg1 hHG1
              go_upto_region 6 with (fail)
              refine wp_region_specs (R := Rb) (S := [Spec.eq (.slice ao xs.length cap), Spec.eq (vv (k) (n) (s)), bsSpec (xs ++ bytesR k n s.data.toList), Spec.eq (strV (xs ++ bytesR k n s.data.toList)), Spec.eq (.slice ao xs.length cap), Spec.eq (strV (xs)), Spec.eq (vv (k) (n) (s)), bsSpec (bytesR k n s.data.toList), Spec.eq (strV (bytesR k n s.data.toList)), Spec.eq (strV (xs ++ (bytesR k n s.data.toList))), Spec.eq (.bool true), Spec.eq (.bool true), Spec.eq (vv (0) (0) (⟨#[]⟩)), Spec.eq (vv (0) (0) (⟨#[]⟩)), Spec.eq (.bool true), Spec.eq (.bool true), Spec.eq (.bool true), Spec.eq (.bool false), Spec.eq (.int .i64 (0)), Spec.eq (.bool false), Spec.eq (.bool true), Spec.eq (.bool true), Spec.eq (.bool true), Spec.eq (.bool false), Spec.eq (.bool false), Spec.eq (undef), Spec.eq (undef), Spec.eq (undef), Spec.eq (undef), Spec.eq (undef), Spec.eq (.bool false), Spec.eq (.bool false), Spec.eq (.bool false), Spec.eq (.bool true), Spec.eq (.bool true), Spec.eq (.int .i64 (0)), Spec.eq (.bool true), Spec.eq (.bool true), Spec.eq (.bool true), Spec.eq (.bool true), Spec.eq (.bool true), Spec.eq (.bool true), Spec.eq (.bool true), Spec.eq (.bool true)]) (n := 1) (size := 77) (by kernel_rfl) Rb.trans (Rb.drew _) rfl (by kernel_rfl) ?owed ?fin
              case owed =>
                refine Owed.cons ?_ ?_
                · -- 0: slot 34 := Op.move (Operand.tmp 1)
                  intro a w hR F
                  have e1 : a.eval (.tmp 1) = .slice ao xs.length cap := F.old 1 (by kernel_rfl)
                  exact ok_move _ rfl (wanted_none rfl) ⟨Rb.refl _, e1⟩
                refine Owed.cons ?_ ?_
                · -- 1: slot 35 := Op.load 23 (Operand.tmp 3)
                  intro a w hR F
                  have e3 : a.eval (.tmp 3) = .pointer (some ⟨w0.heap.size, 0, none⟩) := F.old 3 (by kernel_rfl)
                  exact ok_load _ _ rfl (wanted_none rfl) e3 (HA.out.rb hR).load ⟨Rb.refl _, rfl⟩
                refine Owed.cons ?_ ?_
                · -- 2: slot 36 := Op.call { callee := Callee.value (Operand.func 28), args := #[Operand.tmp 34, Operand.tmp 35], argTy
                  intro a w hR F
                  have e34 : a.eval (.tmp 34) = .slice ao xs.length cap := F.new 0 34 (by kernel_rfl)
                  have e35 : a.eval (.tmp 35) = vv (k) (n) (s) := F.new 1 35 (by kernel_rfl)
                  refine ok_call 28 _ _ #[.slice ao xs.length cap, vv (k) (n) (s)] rfl (wanted_none rfl) (by simp [e34, e35]) (Tryd.call28 _ _) ?_
                  exact own_call (put_any (.slice ao xs.length cap) xs k n s w (HX.out.below hR) hx hs hn0 hn1)
                refine Owed.cons ?_ ?_
                · -- 3: slot 37 := Op.convert 37 9 (Operand.tmp 36)
                  intro a w hR F
                  have e36 : Bs w (a.eval (.tmp 36)) (xs ++ bytesR k n s.data.toList) := F.new 2 36 (by kernel_rfl)
                  exact ok_conv _ _ _ rfl (wanted_none rfl) (run_convert_Bs e36 37 5 9 Tryd.underlying37 Tryd.underlying5 Tryd.underlying9) ⟨Rb.refl _, rfl⟩
                refine Owed.cons ?_ ?_
                · -- 4: slot 38 := Op.move (Operand.tmp 1)
                  intro a w hR F
                  have e1 : a.eval (.tmp 1) = .slice ao xs.length cap := F.old 1 (by kernel_rfl)
                  exact ok_move _ rfl (wanted_none rfl) ⟨Rb.refl _, e1⟩
                refine Owed.cons ?_ ?_
                · -- 5: slot 39 := Op.convert 37 9 (Operand.tmp 38)
                  intro a w hR F
                  have e38 : a.eval (.tmp 38) = .slice ao xs.length cap := F.new 4 38 (by kernel_rfl)
                  exact ok_conv _ _ _ rfl (wanted_none rfl) (run_convert_Bs (xs := xs) (by rw [e38]; exact HX.out.below hR) 37 5 9 Tryd.underlying37 Tryd.underlying5 Tryd.underlying9) ⟨Rb.refl _, rfl⟩
                refine Owed.cons ?_ ?_
                · -- 6: slot 40 := Op.load 23 (Operand.tmp 3)
                  intro a w hR F
                  have e3 : a.eval (.tmp 3) = .pointer (some ⟨w0.heap.size, 0, none⟩) := F.old 3 (by kernel_rfl)
                  exact ok_load _ _ rfl (wanted_none rfl) e3 (HA.out.rb hR).load ⟨Rb.refl _, rfl⟩
                refine Owed.cons ?_ ?_
                · -- 7: slot 41 := Op.call { callee := Callee.value (Operand.func 29), args := #[Operand.tmp 40], argTypes := #[23] }
                  intro a w hR F
                  have e40 : a.eval (.tmp 40) = vv (k) (n) (s) := F.new 6 40 (by kernel_rfl)
                  refine ok_call 29 _ _ #[vv (k) (n) (s)] rfl (wanted_none rfl) (by simp [e40]) (Tryd.call29 _ _) ?_
                  exact bs_call (refbytes_any k n s w hs hn0 hn1)
                refine Owed.cons ?_ ?_
                · -- 8: slot 42 := Op.convert 37 9 (Operand.tmp 41)
                  intro a w hR F
                  have e41 : Bs w (a.eval (.tmp 41)) (bytesR k n s.data.toList) := F.new 7 41 (by kernel_rfl)
                  exact ok_conv _ _ _ rfl (wanted_none rfl) (run_convert_Bs e41 37 5 9 Tryd.underlying37 Tryd.underlying5 Tryd.underlying9) ⟨Rb.refl _, rfl⟩
                refine Owed.cons ?_ ?_
                · -- 9: slot 43 := Op.binOp BinOp.add 9 (Operand.tmp 39) (Operand.tmp 42) 9
                  intro a w hR F
                  have e39 : a.eval (.tmp 39) = strV (xs) := F.new 5 39 (by kernel_rfl)
                  have e42 : a.eval (.tmp 42) = strV (bytesR k n s.data.toList) := F.new 8 42 (by kernel_rfl)
                  exact ok_bin _ _ _ _ _ rfl (wanted_none rfl) e39 e42 (run_add_strV _ _ _ _ _ (by have := bytesR_len k n s hn0 hn1; omega)) ⟨Rb.refl _, rfl⟩
                refine Owed.cons ?_ ?_
                · -- 10: slot 44 := Op.binOp BinOp.eql 9 (Operand.tmp 37) (Operand.tmp 43) 9
                  intro a w hR F
                  have e37 : a.eval (.tmp 37) = strV (xs ++ bytesR k n s.data.toList) := F.new 3 37 (by kernel_rfl)
                  have e43 : a.eval (.tmp 43) = strV (xs ++ (bytesR k n s.data.toList)) := F.new 9 43 (by kernel_rfl)
                  refine ok_bin _ _ _ _ _ rfl (wanted_none rfl) e37 e43 (run_eql_strV _ _ _ _ _) ⟨Rb.refl _, ?_⟩
                  exact congrArg Value.bool (by simp)
                refine Owed.cons ?_ ?_
                · -- 11: slot 45 := Op.move (Operand.tmp 44)
                  intro a w hR F
                  have e44 : a.eval (.tmp 44) = .bool true := F.new 10 44 (by kernel_rfl)
                  exact ok_move _ rfl (wanted_none rfl) ⟨Rb.refl _, e44⟩
                refine Owed.cons ?_ ?_
                · -- 12: slot 46 := Op.load 23 (Operand.tmp 7)
                  intro a w hR F
                  have e45 : a.eval (.tmp 45) = .bool true := F.new 11 45 (by kernel_rfl)
                  have e7 : a.eval (.tmp 7) = .pointer (some ⟨B1, 0, none⟩) := F.old 7 (by kernel_rfl)
                  exact ok_load _ _ rfl (wanted_true (j := 11) (d := 45) rfl (by kernel_rfl) e45) e7 (HG1.out.rb hR).load ⟨Rb.refl _, rfl⟩
                refine Owed.cons ?_ ?_
                · -- 13: slot 47 := Op.load 23 (Operand.tmp 10)
                  intro a w hR F
                  have e45 : a.eval (.tmp 45) = .bool true := F.new 11 45 (by kernel_rfl)
                  have e10 : a.eval (.tmp 10) = .pointer (some ⟨B2, 0, none⟩) := F.old 10 (by kernel_rfl)
                  exact ok_load _ _ rfl (wanted_true (j := 11) (d := 45) rfl (by kernel_rfl) e45) e10 (HG2.out.rb hR).load ⟨Rb.refl _, rfl⟩
                refine Owed.cons ?_ ?_
                · -- 14: slot 48 := Op.binOp BinOp.eql 23 (Operand.tmp 46) (Operand.tmp 47) 23
                  intro a w hR F
                  have e45 : a.eval (.tmp 45) = .bool true := F.new 11 45 (by kernel_rfl)
                  have e46 : a.eval (.tmp 46) = vv (0) (0) (⟨#[]⟩) := F.new 12 46 (by kernel_rfl)
                  have e47 : a.eval (.tmp 47) = vv (0) (0) (⟨#[]⟩) := F.new 13 47 (by kernel_rfl)
                  refine ok_bin _ _ _ _ _ rfl (wanted_true (j := 11) (d := 45) rfl (by kernel_rfl) e45) e46 e47 (run_eqlV _ _ _ _ _ _ _ _) ⟨Rb.refl _, ?_⟩
                  exact congrArg Value.bool (by unfold eqVB; simp)
                refine Owed.cons ?_ ?_
                · -- 15: slot 49 := Op.pick (Operand.tmp 45) (Operand.tmp 48) (Operand.const (Value.bool false))
                  intro a w hR F
                  have e45 : a.eval (.tmp 45) = .bool true := F.new 11 45 (by kernel_rfl)
                  have e48 : a.eval (.tmp 48) = .bool true := F.new 14 48 (by kernel_rfl)
                  exact ok_pick _ _ _ true rfl (wanted_none rfl) e45 ⟨Rb.refl _, e48⟩
                refine Owed.cons ?_ ?_
                · -- 16: slot 50 := Op.move (Operand.tmp 49)
                  intro a w hR F
                  have e49 : a.eval (.tmp 49) = .bool true := F.new 15 49 (by kernel_rfl)
                  exact ok_move _ rfl (wanted_none rfl) ⟨Rb.refl _, e49⟩
                refine Owed.cons ?_ ?_
                · -- 17: slot 51 := Op.move (Operand.tmp 9)
                  intro a w hR F
                  have e50 : a.eval (.tmp 50) = .bool true := F.new 16 50 (by kernel_rfl)
                  have e9 : a.eval (.tmp 9) = .bool false := F.old 9 (by kernel_rfl)
                  exact ok_move _ rfl (wanted_true (j := 16) (d := 50) rfl (by kernel_rfl) e50) ⟨Rb.refl _, e9⟩
                refine Owed.cons ?_ ?_
                · -- 18: slot 52 := Op.move (Operand.tmp 11)
                  intro a w hR F
                  have e50 : a.eval (.tmp 50) = .bool true := F.new 16 50 (by kernel_rfl)
                  have e11 : a.eval (.tmp 11) = .int .i64 (0) := F.old 11 (by kernel_rfl)
                  exact ok_move _ rfl (wanted_true (j := 16) (d := 50) rfl (by kernel_rfl) e50) ⟨Rb.refl _, e11⟩
                refine Owed.cons ?_ ?_
                · -- 19: slot 53 := Op.binOp BinOp.gtr 3 (Operand.tmp 52) (Operand.const (Value.int IntKind.i64 0)) 3
                  intro a w hR F
                  have e50 : a.eval (.tmp 50) = .bool true := F.new 16 50 (by kernel_rfl)
                  have e52 : a.eval (.tmp 52) = .int .i64 (0) := F.new 18 52 (by kernel_rfl)
                  refine ok_bin _ _ _ _ _ rfl (wanted_true (j := 16) (d := 50) rfl (by kernel_rfl) e50) e52 rfl (run_gtr_int _ _ _ _ _ _) ⟨Rb.refl _, ?_⟩
                  exact congrArg Value.bool (decide_eq_false (by omega))
                refine Owed.cons ?_ ?_
                · -- 20: slot 54 := Op.binOp BinOp.eql 4 (Operand.tmp 51) (Operand.tmp 53) 4
                  intro a w hR F
                  have e50 : a.eval (.tmp 50) = .bool true := F.new 16 50 (by kernel_rfl)
                  have e51 : a.eval (.tmp 51) = .bool false := F.new 17 51 (by kernel_rfl)
                  have e53 : a.eval (.tmp 53) = .bool false := F.new 19 53 (by kernel_rfl)
                  refine ok_bin _ _ _ _ _ rfl (wanted_true (j := 16) (d := 50) rfl (by kernel_rfl) e50) e51 e53 (run_eql_boolB _ _ _ _ _ Tryd.underlying4) ⟨Rb.refl _, ?_⟩
                  exact congrArg Value.bool (by simp)
                refine Owed.cons ?_ ?_
                · -- 21: slot 55 := Op.pick (Operand.tmp 50) (Operand.tmp 54) (Operand.const (Value.bool false))
                  intro a w hR F
                  have e50 : a.eval (.tmp 50) = .bool true := F.new 16 50 (by kernel_rfl)
                  have e54 : a.eval (.tmp 54) = .bool true := F.new 20 54 (by kernel_rfl)
                  exact ok_pick _ _ _ true rfl (wanted_none rfl) e50 ⟨Rb.refl _, e54⟩
                refine Owed.cons ?_ ?_
                · -- 22: slot 56 := Op.move (Operand.tmp 55)
                  intro a w hR F
                  have e55 : a.eval (.tmp 55) = .bool true := F.new 21 55 (by kernel_rfl)
                  exact ok_move _ rfl (wanted_none rfl) ⟨Rb.refl _, e55⟩
                refine Owed.cons ?_ ?_
                · -- 23: slot 57 := Op.move (Operand.tmp 9)
                  intro a w hR F
                  have e56 : a.eval (.tmp 56) = .bool true := F.new 22 56 (by kernel_rfl)
                  have e9 : a.eval (.tmp 9) = .bool false := F.old 9 (by kernel_rfl)
                  exact ok_move _ rfl (wanted_true (j := 22) (d := 56) rfl (by kernel_rfl) e56) ⟨Rb.refl _, e9⟩
                refine Owed.cons ?_ ?_
                · -- 24: slot 58 := Op.move (Operand.tmp 57)
                  intro a w hR F
                  have e56 : a.eval (.tmp 56) = .bool true := F.new 22 56 (by kernel_rfl)
                  have e57 : a.eval (.tmp 57) = .bool false := F.new 23 57 (by kernel_rfl)
                  exact ok_move _ rfl (wanted_true (j := 22) (d := 56) rfl (by kernel_rfl) e56) ⟨Rb.refl _, e57⟩
                refine Owed.cons ?_ ?_
                · -- 25: slot 59 := Op.move (Operand.tmp 8)
                  intro a w hR F
                  have e58 : a.eval (.tmp 58) = .bool false := F.new 24 58 (by kernel_rfl)
                  exact ok_skip (wanted_false (j := 24) (d := 58) rfl (by kernel_rfl) e58) ⟨Rb.refl _, rfl⟩
                refine Owed.cons ?_ ?_
                · -- 26: slot 60 := Op.move (Operand.tmp 2)
                  intro a w hR F
                  have e58 : a.eval (.tmp 58) = .bool false := F.new 24 58 (by kernel_rfl)
                  exact ok_skip (wanted_false (j := 24) (d := 58) rfl (by kernel_rfl) e58) ⟨Rb.refl _, rfl⟩
                refine Owed.cons ?_ ?_
                · -- 27: slot 61 := Op.move (Operand.tmp 11)
                  intro a w hR F
                  have e58 : a.eval (.tmp 58) = .bool false := F.new 24 58 (by kernel_rfl)
                  exact ok_skip (wanted_false (j := 24) (d := 58) rfl (by kernel_rfl) e58) ⟨Rb.refl _, rfl⟩
                refine Owed.cons ?_ ?_
                · -- 28: slot 62 := Op.binOp BinOp.add 3 (Operand.tmp 60) (Operand.tmp 61) 3
                  intro a w hR F
                  have e58 : a.eval (.tmp 58) = .bool false := F.new 24 58 (by kernel_rfl)
                  exact ok_skip (wanted_false (j := 24) (d := 58) rfl (by kernel_rfl) e58) ⟨Rb.refl _, rfl⟩
                refine Owed.cons ?_ ?_
                · -- 29: slot 63 := Op.binOp BinOp.eql 3 (Operand.tmp 59) (Operand.tmp 62) 3
                  intro a w hR F
                  have e58 : a.eval (.tmp 58) = .bool false := F.new 24 58 (by kernel_rfl)
                  exact ok_skip (wanted_false (j := 24) (d := 58) rfl (by kernel_rfl) e58) ⟨Rb.refl _, rfl⟩
                refine Owed.cons ?_ ?_
                · -- 30: slot 64 := Op.pick (Operand.tmp 58) (Operand.tmp 63) (Operand.const (Value.bool false))
                  intro a w hR F
                  have e56 : a.eval (.tmp 56) = .bool true := F.new 22 56 (by kernel_rfl)
                  have e58 : a.eval (.tmp 58) = .bool false := F.new 24 58 (by kernel_rfl)
                  exact ok_pick _ _ _ false rfl (wanted_true (j := 22) (d := 56) rfl (by kernel_rfl) e56) e58 ⟨Rb.refl _, rfl⟩
                refine Owed.cons ?_ ?_
                · -- 31: slot 65 := Op.move (Operand.tmp 64)
                  intro a w hR F
                  have e56 : a.eval (.tmp 56) = .bool true := F.new 22 56 (by kernel_rfl)
                  have e64 : a.eval (.tmp 64) = .bool false := F.new 30 64 (by kernel_rfl)
                  exact ok_move _ rfl (wanted_true (j := 22) (d := 56) rfl (by kernel_rfl) e56) ⟨Rb.refl _, e64⟩
                refine Owed.cons ?_ ?_
                · -- 32: slot 66 := Op.move (Operand.tmp 9)
                  intro a w hR F
                  have e65 : a.eval (.tmp 65) = .bool false := F.new 31 65 (by kernel_rfl)
                  have e9 : a.eval (.tmp 9) = .bool false := F.old 9 (by kernel_rfl)
                  exact ok_move _ rfl (wanted_true (j := 31) (d := 65) rfl (by kernel_rfl) e65) ⟨Rb.refl _, e9⟩
                refine Owed.cons ?_ ?_
                · -- 33: slot 67 := Op.unOp UnOp.not 4 (Operand.tmp 66)
                  intro a w hR F
                  have e65 : a.eval (.tmp 65) = .bool false := F.new 31 65 (by kernel_rfl)
                  have e66 : a.eval (.tmp 66) = .bool false := F.new 32 66 (by kernel_rfl)
                  exact ok_not _ _ false rfl (wanted_true (j := 31) (d := 65) rfl (by kernel_rfl) e65) e66 ⟨Rb.refl _, rfl⟩
                refine Owed.cons ?_ ?_
                · -- 34: slot 68 := Op.move (Operand.tmp 67)
                  intro a w hR F
                  have e65 : a.eval (.tmp 65) = .bool false := F.new 31 65 (by kernel_rfl)
                  have e67 : a.eval (.tmp 67) = .bool true := F.new 33 67 (by kernel_rfl)
                  exact ok_move _ rfl (wanted_true (j := 31) (d := 65) rfl (by kernel_rfl) e65) ⟨Rb.refl _, e67⟩
                refine Owed.cons ?_ ?_
                · -- 35: slot 69 := Op.move (Operand.tmp 8)
                  intro a w hR F
                  have e68 : a.eval (.tmp 68) = .bool true := F.new 34 68 (by kernel_rfl)
                  have e8 : a.eval (.tmp 8) = .int .i64 (0) := F.old 8 (by kernel_rfl)
                  exact ok_move _ rfl (wanted_true (j := 34) (d := 68) rfl (by kernel_rfl) e68) ⟨Rb.refl _, e8⟩
                refine Owed.cons ?_ ?_
                · -- 36: slot 70 := Op.binOp BinOp.eql 3 (Operand.tmp 69) (Operand.const (Value.int IntKind.i64 0)) 3
                  intro a w hR F
                  have e68 : a.eval (.tmp 68) = .bool true := F.new 34 68 (by kernel_rfl)
                  have e69 : a.eval (.tmp 69) = .int .i64 (0) := F.new 35 69 (by kernel_rfl)
                  refine ok_bin _ _ _ _ _ rfl (wanted_true (j := 34) (d := 68) rfl (by kernel_rfl) e68) e69 rfl (run_eql_int _ _ _ _ _ _) ⟨Rb.refl _, ?_⟩
                  exact congrArg Value.bool (by simp)
                refine Owed.cons ?_ ?_
                · -- 37: slot 71 := Op.pick (Operand.tmp 68) (Operand.tmp 70) (Operand.const (Value.bool false))
                  intro a w hR F
                  have e65 : a.eval (.tmp 65) = .bool false := F.new 31 65 (by kernel_rfl)
                  have e68 : a.eval (.tmp 68) = .bool true := F.new 34 68 (by kernel_rfl)
                  have e70 : a.eval (.tmp 70) = .bool true := F.new 36 70 (by kernel_rfl)
                  exact ok_pick _ _ _ true rfl (wanted_true (j := 31) (d := 65) rfl (by kernel_rfl) e65) e68 ⟨Rb.refl _, e70⟩
                refine Owed.cons ?_ ?_
                · -- 38: slot 72 := Op.pick (Operand.tmp 65) (Operand.const (Value.bool true)) (Operand.tmp 71)
                  intro a w hR F
                  have e56 : a.eval (.tmp 56) = .bool true := F.new 22 56 (by kernel_rfl)
                  have e65 : a.eval (.tmp 65) = .bool false := F.new 31 65 (by kernel_rfl)
                  have e71 : a.eval (.tmp 71) = .bool true := F.new 37 71 (by kernel_rfl)
                  exact ok_pick _ _ _ false rfl (wanted_true (j := 22) (d := 56) rfl (by kernel_rfl) e56) e65 ⟨Rb.refl _, e71⟩
                refine Owed.cons ?_ ?_
                · -- 39: slot 73 := Op.pick (Operand.tmp 56) (Operand.tmp 72) (Operand.const (Value.bool false))
                  intro a w hR F
                  have e56 : a.eval (.tmp 56) = .bool true := F.new 22 56 (by kernel_rfl)
                  have e72 : a.eval (.tmp 72) = .bool true := F.new 38 72 (by kernel_rfl)
                  exact ok_pick _ _ _ true rfl (wanted_none rfl) e56 ⟨Rb.refl _, e72⟩
                refine Owed.cons ?_ ?_
                · -- 40: slot 74 := Op.move (Operand.tmp 73)
                  intro a w hR F
                  have e73 : a.eval (.tmp 73) = .bool true := F.new 39 73 (by kernel_rfl)
                  exact ok_move _ rfl (wanted_none rfl) ⟨Rb.refl _, e73⟩
                refine Owed.cons ?_ ?_
                · -- 41: slot 75 := Op.call { callee := Callee.value (Operand.func 10), args := #[], argTypes := #[] }
                  intro a w hR F
                  have e74 : a.eval (.tmp 74) = .bool true := F.new 40 74 (by kernel_rfl)
                  refine ok_call 10 _ _ #[] rfl (wanted_true (j := 40) (d := 74) rfl (by kernel_rfl) e74) (by simp) (Tryd.call10 _ _) ?_
                  exact val_call_below (lives_any w (HT.out.rb (Rb.trans _ _ _ HB.out hR)))
                refine Owed.cons ?_ ?_
                · -- 42: slot 76 := Op.pick (Operand.tmp 74) (Operand.tmp 75) (Operand.const (Value.bool false))
                  intro a w hR F
                  have e74 : a.eval (.tmp 74) = .bool true := F.new 40 74 (by kernel_rfl)
                  have e75 : a.eval (.tmp 75) = .bool true := F.new 41 75 (by kernel_rfl)
                  exact ok_pick _ _ _ true rfl (wanted_none rfl) e74 ⟨Rb.refl _, e75⟩
                refine Owed.cons ?_ ?_
                · -- 43: slot 6 := Op.assign (Operand.tmp 76)
                  intro a w hR F
                  have e76 : a.eval (.tmp 76) = .bool true := F.new 42 76 (by kernel_rfl)
                  exact ok_assign _ rfl (wanted_none rfl) ⟨Rb.refl _, e76⟩
                exact Owed.nil
              case fin =>
                intro y w hR hy
                have e43 : y 43 = .bool true := hy 43 _ rfl
                have HB := Lib.hid (Rb.trans _ _ _ HB.out hR)
                clear hy hR
                simp only [putAll, Act.put, List.setIfInBounds_toArray, List.set_cons_zero, List.set_cons_succ]
                rw [e43]
                clear e43
                go_wp2
                go_ret
                exact ⟨rfl, HB.out⟩
        | some r =>
          obtain ⟨K, N, S, c⟩ := r
          have hgi := getV_in hgv
          have hc1 := getV_pos hgv
          go_upto_region 4 with (fail)
          go_cut [7, 8, 9] (fun p q0 q1 wx => ∃ B, p = .pointer (some ⟨B, 0, none⟩) ∧ q0 = .int .i64 (i + (c : Int)) ∧ q1 = .bool true ∧ HeldV wx B K N (str S) ∧ HeldV wx w0.heap.size k n s ∧ Bs wx (.slice ao xs.length cap) xs ∧ Rb w0 wx)
          case first =>
            have hg := get_any (.slice ao xs.length cap) xs i _ HX.out hx
            rw [hgv] at hg
            have HG := Lib.hid hg
            clear hg
            go_wp2_with fail
            refine HG.out.mono ?_
            rintro e w1 ⟨rfl, hb⟩
            have HA := Lib.hid (HA.out.rb hb)
            have HX := Lib.hid (HX.out.below hb)
            have HB := Lib.hid (Rb.trans _ _ _ HB.out hb)
            clear hb
            unfold tupV
            go_wp2_with fail
            go_meet
            have g1 := (show Rb w1 (w1.alloc (.cells #[.int .i64 K, .int .i64 N, .string (str S)] 23)) from (Below.refl _ _).alloc (Nat.le_refl _) _)
            exact ⟨w1.heap.size, rfl, rfl, rfl, HeldV.at w1 _ _ _ _ _ rfl, HA.out.rb g1, HX.out.below g1, Rb.trans _ _ _ HB.out g1⟩
          case rest =>
            obtain ⟨B1, rfl, rfl, rfl, hg1, ha1, hx1, hb1⟩ := hcut
            clear HA HX HB
            have HA := Lib.hid ha1; have HX := Lib.hid hx1; have HB := Lib.hid hb1; have HG1 := Lib.hid hg1
            clear ha1 hx1 hb1 hg1
            go_upto_region 5 with (fail)
            go_cut [10, 11] (fun p q0 wx => ∃ B, p = .pointer (some ⟨B, 0, none⟩) ∧ q0 = .int .i64 (c : Int) ∧ HeldV wx B K N (str S) ∧ HeldV wx w0.heap.size k n s ∧ Bs wx (.slice ao xs.length cap) xs ∧ Rb w0 wx ∧ HeldV wx B1 K N (str S))
            case first =>
              have hg := refget_val (.slice ao xs.length cap) xs i _ HX.out hx
              rw [hgv] at hg
              have HG := Lib.hid hg
              clear hg
              go_wp2_with fail
              refine HG.out.mono ?_
              rintro e w1 ⟨rfl, hb⟩
              have HA := Lib.hid (HA.out.rb hb)
              have HX := Lib.hid (HX.out.below hb)
              have HB := Lib.hid (Rb.trans _ _ _ HB.out hb)
              have HG1 := Lib.hid (HG1.out.rb hb)
              clear hb
              unfold tupRV
              go_wp2_with fail
              go_meet
              have g1 := (show Rb w1 (w1.alloc (.cells #[.int .i64 K, .int .i64 N, .string (str S)] 23)) from (Below.refl _ _).alloc (Nat.le_refl _) _)
              exact ⟨w1.heap.size, rfl, rfl, HeldV.at w1 _ _ _ _ _ rfl, HA.out.rb g1, HX.out.below g1, Rb.trans _ _ _ HB.out g1, HG1.out.rb g1⟩
            case rest =>
              obtain ⟨B2, rfl, rfl, hg1, ha1, hx1, hb1, hHG1⟩ := hcut
              clear HA HX HB HG1
              have HA := Lib.hid ha1; have HX := Lib.hid hx1; have HB := Lib.hid hb1; have HG2 := Lib.hid hg1
              have HG1 := Lib.hid hHG1
              clear ha1 hx1 hb1 hg1 hHG1
              go_upto_region 6 with (fail)
              refine wp_region_specs (R := Rb) (S := [Spec.eq (.slice ao xs.length cap), Spec.eq (vv (k) (n) (s)), bsSpec (xs ++ bytesR k n s.data.toList), Spec.eq (strV (xs ++ bytesR k n s.data.toList)), Spec.eq (.slice ao xs.length cap), Spec.eq (strV (xs)), Spec.eq (vv (k) (n) (s)), bsSpec (bytesR k n s.data.toList), Spec.eq (strV (bytesR k n s.data.toList)), Spec.eq (strV (xs ++ (bytesR k n s.data.toList))), Spec.eq (.bool true), Spec.eq (.bool true), Spec.eq (vv (K) (N) (str S)), Spec.eq (vv (K) (N) (str S)), Spec.eq (.bool true), Spec.eq (.bool true), Spec.eq (.bool true), Spec.eq (.bool true), Spec.eq (.int .i64 ((c : Int))), Spec.eq (.bool true), Spec.eq (.bool true), Spec.eq (.bool true), Spec.eq (.bool true), Spec.eq (.bool true), Spec.eq (.bool true), Spec.eq (.int .i64 (i + (c : Int))), Spec.eq (.int .i64 (i)), Spec.eq (.int .i64 ((c : Int))), Spec.eq (.int .i64 (i + ((c : Int)))), Spec.eq (.bool true), Spec.eq (.bool true), Spec.eq (.bool true), Spec.eq (undef), Spec.eq (undef), Spec.eq (undef), Spec.eq (undef), Spec.eq (undef), Spec.eq (undef), Spec.eq (.bool true), Spec.eq (.bool true), Spec.eq (.bool true), Spec.eq (.bool true), Spec.eq (.bool true), Spec.eq (.bool true)]) (n := 1) (size := 77) (by kernel_rfl) Rb.trans (Rb.drew _) rfl (by kernel_rfl) ?owed ?fin
              case owed =>
                refine Owed.cons ?_ ?_
                · -- 0: slot 34 := Op.move (Operand.tmp 1)
                  intro a w hR F
                  have e1 : a.eval (.tmp 1) = .slice ao xs.length cap := F.old 1 (by kernel_rfl)
                  exact ok_move _ rfl (wanted_none rfl) ⟨Rb.refl _, e1⟩
                refine Owed.cons ?_ ?_
                · -- 1: slot 35 := Op.load 23 (Operand.tmp 3)
                  intro a w hR F
                  have e3 : a.eval (.tmp 3) = .pointer (some ⟨w0.heap.size, 0, none⟩) := F.old 3 (by kernel_rfl)
                  exact ok_load _ _ rfl (wanted_none rfl) e3 (HA.out.rb hR).load ⟨Rb.refl _, rfl⟩
                refine Owed.cons ?_ ?_
                · -- 2: slot 36 := Op.call { callee := Callee.value (Operand.func 28), args := #[Operand.tmp 34, Operand.tmp 35], argTy
                  intro a w hR F
                  have e34 : a.eval (.tmp 34) = .slice ao xs.length cap := F.new 0 34 (by kernel_rfl)
                  have e35 : a.eval (.tmp 35) = vv (k) (n) (s) := F.new 1 35 (by kernel_rfl)
                  refine ok_call 28 _ _ #[.slice ao xs.length cap, vv (k) (n) (s)] rfl (wanted_none rfl) (by simp [e34, e35]) (Tryd.call28 _ _) ?_
                  exact own_call (put_any (.slice ao xs.length cap) xs k n s w (HX.out.below hR) hx hs hn0 hn1)
                refine Owed.cons ?_ ?_
                · -- 3: slot 37 := Op.convert 37 9 (Operand.tmp 36)
                  intro a w hR F
                  have e36 : Bs w (a.eval (.tmp 36)) (xs ++ bytesR k n s.data.toList) := F.new 2 36 (by kernel_rfl)
                  exact ok_conv _ _ _ rfl (wanted_none rfl) (run_convert_Bs e36 37 5 9 Tryd.underlying37 Tryd.underlying5 Tryd.underlying9) ⟨Rb.refl _, rfl⟩
                refine Owed.cons ?_ ?_
                · -- 4: slot 38 := Op.move (Operand.tmp 1)
                  intro a w hR F
                  have e1 : a.eval (.tmp 1) = .slice ao xs.length cap := F.old 1 (by kernel_rfl)
                  exact ok_move _ rfl (wanted_none rfl) ⟨Rb.refl _, e1⟩
                refine Owed.cons ?_ ?_
                · -- 5: slot 39 := Op.convert 37 9 (Operand.tmp 38)
                  intro a w hR F
                  have e38 : a.eval (.tmp 38) = .slice ao xs.length cap := F.new 4 38 (by kernel_rfl)
                  exact ok_conv _ _ _ rfl (wanted_none rfl) (run_convert_Bs (xs := xs) (by rw [e38]; exact HX.out.below hR) 37 5 9 Tryd.underlying37 Tryd.underlying5 Tryd.underlying9) ⟨Rb.refl _, rfl⟩
                refine Owed.cons ?_ ?_
                · -- 6: slot 40 := Op.load 23 (Operand.tmp 3)
                  intro a w hR F
                  have e3 : a.eval (.tmp 3) = .pointer (some ⟨w0.heap.size, 0, none⟩) := F.old 3 (by kernel_rfl)
                  exact ok_load _ _ rfl (wanted_none rfl) e3 (HA.out.rb hR).load ⟨Rb.refl _, rfl⟩
                refine Owed.cons ?_ ?_
                · -- 7: slot 41 := Op.call { callee := Callee.value (Operand.func 29), args := #[Operand.tmp 40], argTypes := #[23] }
                  intro a w hR F
                  have e40 : a.eval (.tmp 40) = vv (k) (n) (s) := F.new 6 40 (by kernel_rfl)
                  refine ok_call 29 _ _ #[vv (k) (n) (s)] rfl (wanted_none rfl) (by simp [e40]) (Tryd.call29 _ _) ?_
                  exact bs_call (refbytes_any k n s w hs hn0 hn1)
                refine Owed.cons ?_ ?_
                · -- 8: slot 42 := Op.convert 37 9 (Operand.tmp 41)
                  intro a w hR F
                  have e41 : Bs w (a.eval (.tmp 41)) (bytesR k n s.data.toList) := F.new 7 41 (by kernel_rfl)
                  exact ok_conv _ _ _ rfl (wanted_none rfl) (run_convert_Bs e41 37 5 9 Tryd.underlying37 Tryd.underlying5 Tryd.underlying9) ⟨Rb.refl _, rfl⟩
                refine Owed.cons ?_ ?_
                · -- 9: slot 43 := Op.binOp BinOp.add 9 (Operand.tmp 39) (Operand.tmp 42) 9
                  intro a w hR F
                  have e39 : a.eval (.tmp 39) = strV (xs) := F.new 5 39 (by kernel_rfl)
                  have e42 : a.eval (.tmp 42) = strV (bytesR k n s.data.toList) := F.new 8 42 (by kernel_rfl)
                  exact ok_bin _ _ _ _ _ rfl (wanted_none rfl) e39 e42 (run_add_strV _ _ _ _ _ (by have := bytesR_len k n s hn0 hn1; omega)) ⟨Rb.refl _, rfl⟩
                refine Owed.cons ?_ ?_
                · -- 10: slot 44 := Op.binOp BinOp.eql 9 (Operand.tmp 37) (Operand.tmp 43) 9
                  intro a w hR F
                  have e37 : a.eval (.tmp 37) = strV (xs ++ bytesR k n s.data.toList) := F.new 3 37 (by kernel_rfl)
                  have e43 : a.eval (.tmp 43) = strV (xs ++ (bytesR k n s.data.toList)) := F.new 9 43 (by kernel_rfl)
                  refine ok_bin _ _ _ _ _ rfl (wanted_none rfl) e37 e43 (run_eql_strV _ _ _ _ _) ⟨Rb.refl _, ?_⟩
                  exact congrArg Value.bool (by simp)
                refine Owed.cons ?_ ?_
                · -- 11: slot 45 := Op.move (Operand.tmp 44)
                  intro a w hR F
                  have e44 : a.eval (.tmp 44) = .bool true := F.new 10 44 (by kernel_rfl)
                  exact ok_move _ rfl (wanted_none rfl) ⟨Rb.refl _, e44⟩
                refine Owed.cons ?_ ?_
                · -- 12: slot 46 := Op.load 23 (Operand.tmp 7)
                  intro a w hR F
                  have e45 : a.eval (.tmp 45) = .bool true := F.new 11 45 (by kernel_rfl)
                  have e7 : a.eval (.tmp 7) = .pointer (some ⟨B1, 0, none⟩) := F.old 7 (by kernel_rfl)
                  exact ok_load _ _ rfl (wanted_true (j := 11) (d := 45) rfl (by kernel_rfl) e45) e7 (HG1.out.rb hR).load ⟨Rb.refl _, rfl⟩
                refine Owed.cons ?_ ?_
                · -- 13: slot 47 := Op.load 23 (Operand.tmp 10)
                  intro a w hR F
                  have e45 : a.eval (.tmp 45) = .bool true := F.new 11 45 (by kernel_rfl)
                  have e10 : a.eval (.tmp 10) = .pointer (some ⟨B2, 0, none⟩) := F.old 10 (by kernel_rfl)
                  exact ok_load _ _ rfl (wanted_true (j := 11) (d := 45) rfl (by kernel_rfl) e45) e10 (HG2.out.rb hR).load ⟨Rb.refl _, rfl⟩
                refine Owed.cons ?_ ?_
                · -- 14: slot 48 := Op.binOp BinOp.eql 23 (Operand.tmp 46) (Operand.tmp 47) 23
                  intro a w hR F
                  have e45 : a.eval (.tmp 45) = .bool true := F.new 11 45 (by kernel_rfl)
                  have e46 : a.eval (.tmp 46) = vv (K) (N) (str S) := F.new 12 46 (by kernel_rfl)
                  have e47 : a.eval (.tmp 47) = vv (K) (N) (str S) := F.new 13 47 (by kernel_rfl)
                  refine ok_bin _ _ _ _ _ rfl (wanted_true (j := 11) (d := 45) rfl (by kernel_rfl) e45) e46 e47 (run_eqlV _ _ _ _ _ _ _ _) ⟨Rb.refl _, ?_⟩
                  exact congrArg Value.bool (by unfold eqVB; simp)
                refine Owed.cons ?_ ?_
                · -- 15: slot 49 := Op.pick (Operand.tmp 45) (Operand.tmp 48) (Operand.const (Value.bool false))
                  intro a w hR F
                  have e45 : a.eval (.tmp 45) = .bool true := F.new 11 45 (by kernel_rfl)
                  have e48 : a.eval (.tmp 48) = .bool true := F.new 14 48 (by kernel_rfl)
                  exact ok_pick _ _ _ true rfl (wanted_none rfl) e45 ⟨Rb.refl _, e48⟩
                refine Owed.cons ?_ ?_
                · -- 16: slot 50 := Op.move (Operand.tmp 49)
                  intro a w hR F
                  have e49 : a.eval (.tmp 49) = .bool true := F.new 15 49 (by kernel_rfl)
                  exact ok_move _ rfl (wanted_none rfl) ⟨Rb.refl _, e49⟩
                refine Owed.cons ?_ ?_
                · -- 17: slot 51 := Op.move (Operand.tmp 9)
                  intro a w hR F
                  have e50 : a.eval (.tmp 50) = .bool true := F.new 16 50 (by kernel_rfl)
                  have e9 : a.eval (.tmp 9) = .bool true := F.old 9 (by kernel_rfl)
                  exact ok_move _ rfl (wanted_true (j := 16) (d := 50) rfl (by kernel_rfl) e50) ⟨Rb.refl _, e9⟩
                refine Owed.cons ?_ ?_
                · -- 18: slot 52 := Op.move (Operand.tmp 11)
                  intro a w hR F
                  have e50 : a.eval (.tmp 50) = .bool true := F.new 16 50 (by kernel_rfl)
                  have e11 : a.eval (.tmp 11) = .int .i64 ((c : Int)) := F.old 11 (by kernel_rfl)
                  exact ok_move _ rfl (wanted_true (j := 16) (d := 50) rfl (by kernel_rfl) e50) ⟨Rb.refl _, e11⟩
                refine Owed.cons ?_ ?_
                · -- 19: slot 53 := Op.binOp BinOp.gtr 3 (Operand.tmp 52) (Operand.const (Value.int IntKind.i64 0)) 3
                  intro a w hR F
                  have e50 : a.eval (.tmp 50) = .bool true := F.new 16 50 (by kernel_rfl)
                  have e52 : a.eval (.tmp 52) = .int .i64 ((c : Int)) := F.new 18 52 (by kernel_rfl)
                  refine ok_bin _ _ _ _ _ rfl (wanted_true (j := 16) (d := 50) rfl (by kernel_rfl) e50) e52 rfl (run_gtr_int _ _ _ _ _ _) ⟨Rb.refl _, ?_⟩
                  exact congrArg Value.bool (decide_eq_true (by omega))
                refine Owed.cons ?_ ?_
                · -- 20: slot 54 := Op.binOp BinOp.eql 4 (Operand.tmp 51) (Operand.tmp 53) 4
                  intro a w hR F
                  have e50 : a.eval (.tmp 50) = .bool true := F.new 16 50 (by kernel_rfl)
                  have e51 : a.eval (.tmp 51) = .bool true := F.new 17 51 (by kernel_rfl)
                  have e53 : a.eval (.tmp 53) = .bool true := F.new 19 53 (by kernel_rfl)
                  refine ok_bin _ _ _ _ _ rfl (wanted_true (j := 16) (d := 50) rfl (by kernel_rfl) e50) e51 e53 (run_eql_boolB _ _ _ _ _ Tryd.underlying4) ⟨Rb.refl _, ?_⟩
                  exact congrArg Value.bool (by simp)
                refine Owed.cons ?_ ?_
                · -- 21: slot 55 := Op.pick (Operand.tmp 50) (Operand.tmp 54) (Operand.const (Value.bool false))
                  intro a w hR F
                  have e50 : a.eval (.tmp 50) = .bool true := F.new 16 50 (by kernel_rfl)
                  have e54 : a.eval (.tmp 54) = .bool true := F.new 20 54 (by kernel_rfl)
                  exact ok_pick _ _ _ true rfl (wanted_none rfl) e50 ⟨Rb.refl _, e54⟩
                refine Owed.cons ?_ ?_
                · -- 22: slot 56 := Op.move (Operand.tmp 55)
                  intro a w hR F
                  have e55 : a.eval (.tmp 55) = .bool true := F.new 21 55 (by kernel_rfl)
                  exact ok_move _ rfl (wanted_none rfl) ⟨Rb.refl _, e55⟩
                refine Owed.cons ?_ ?_
                · -- 23: slot 57 := Op.move (Operand.tmp 9)
                  intro a w hR F
                  have e56 : a.eval (.tmp 56) = .bool true := F.new 22 56 (by kernel_rfl)
                  have e9 : a.eval (.tmp 9) = .bool true := F.old 9 (by kernel_rfl)
                  exact ok_move _ rfl (wanted_true (j := 22) (d := 56) rfl (by kernel_rfl) e56) ⟨Rb.refl _, e9⟩
                refine Owed.cons ?_ ?_
                · -- 24: slot 58 := Op.move (Operand.tmp 57)
                  intro a w hR F
                  have e56 : a.eval (.tmp 56) = .bool true := F.new 22 56 (by kernel_rfl)
                  have e57 : a.eval (.tmp 57) = .bool true := F.new 23 57 (by kernel_rfl)
                  exact ok_move _ rfl (wanted_true (j := 22) (d := 56) rfl (by kernel_rfl) e56) ⟨Rb.refl _, e57⟩
                refine Owed.cons ?_ ?_
                · -- 25: slot 59 := Op.move (Operand.tmp 8)
                  intro a w hR F
                  have e58 : a.eval (.tmp 58) = .bool true := F.new 24 58 (by kernel_rfl)
                  have e8 : a.eval (.tmp 8) = .int .i64 (i + (c : Int)) := F.old 8 (by kernel_rfl)
                  exact ok_move _ rfl (wanted_true (j := 24) (d := 58) rfl (by kernel_rfl) e58) ⟨Rb.refl _, e8⟩
                refine Owed.cons ?_ ?_
                · -- 26: slot 60 := Op.move (Operand.tmp 2)
                  intro a w hR F
                  have e58 : a.eval (.tmp 58) = .bool true := F.new 24 58 (by kernel_rfl)
                  have e2 : a.eval (.tmp 2) = .int .i64 (i) := F.old 2 (by kernel_rfl)
                  exact ok_move _ rfl (wanted_true (j := 24) (d := 58) rfl (by kernel_rfl) e58) ⟨Rb.refl _, e2⟩
                refine Owed.cons ?_ ?_
                · -- 27: slot 61 := Op.move (Operand.tmp 11)
                  intro a w hR F
                  have e58 : a.eval (.tmp 58) = .bool true := F.new 24 58 (by kernel_rfl)
                  have e11 : a.eval (.tmp 11) = .int .i64 ((c : Int)) := F.old 11 (by kernel_rfl)
                  exact ok_move _ rfl (wanted_true (j := 24) (d := 58) rfl (by kernel_rfl) e58) ⟨Rb.refl _, e11⟩
                refine Owed.cons ?_ ?_
                · -- 28: slot 62 := Op.binOp BinOp.add 3 (Operand.tmp 60) (Operand.tmp 61) 3
                  intro a w hR F
                  have e58 : a.eval (.tmp 58) = .bool true := F.new 24 58 (by kernel_rfl)
                  have e60 : a.eval (.tmp 60) = .int .i64 (i) := F.new 26 60 (by kernel_rfl)
                  have e61 : a.eval (.tmp 61) = .int .i64 ((c : Int)) := F.new 27 61 (by kernel_rfl)
                  exact ok_bin _ _ _ _ _ rfl (wanted_true (j := 24) (d := 58) rfl (by kernel_rfl) e58) e60 e61 (run_add_i64 _ _ _ _ _ (by omega) (by omega)) ⟨Rb.refl _, rfl⟩
                refine Owed.cons ?_ ?_
                · -- 29: slot 63 := Op.binOp BinOp.eql 3 (Operand.tmp 59) (Operand.tmp 62) 3
                  intro a w hR F
                  have e58 : a.eval (.tmp 58) = .bool true := F.new 24 58 (by kernel_rfl)
                  have e59 : a.eval (.tmp 59) = .int .i64 (i + (c : Int)) := F.new 25 59 (by kernel_rfl)
                  have e62 : a.eval (.tmp 62) = .int .i64 (i + ((c : Int))) := F.new 28 62 (by kernel_rfl)
                  refine ok_bin _ _ _ _ _ rfl (wanted_true (j := 24) (d := 58) rfl (by kernel_rfl) e58) e59 e62 (run_eql_int _ _ _ _ _ _) ⟨Rb.refl _, ?_⟩
                  exact congrArg Value.bool (by simp)
                refine Owed.cons ?_ ?_
                · -- 30: slot 64 := Op.pick (Operand.tmp 58) (Operand.tmp 63) (Operand.const (Value.bool false))
                  intro a w hR F
                  have e56 : a.eval (.tmp 56) = .bool true := F.new 22 56 (by kernel_rfl)
                  have e58 : a.eval (.tmp 58) = .bool true := F.new 24 58 (by kernel_rfl)
                  have e63 : a.eval (.tmp 63) = .bool true := F.new 29 63 (by kernel_rfl)
                  exact ok_pick _ _ _ true rfl (wanted_true (j := 22) (d := 56) rfl (by kernel_rfl) e56) e58 ⟨Rb.refl _, e63⟩
                refine Owed.cons ?_ ?_
                · -- 31: slot 65 := Op.move (Operand.tmp 64)
                  intro a w hR F
                  have e56 : a.eval (.tmp 56) = .bool true := F.new 22 56 (by kernel_rfl)
                  have e64 : a.eval (.tmp 64) = .bool true := F.new 30 64 (by kernel_rfl)
                  exact ok_move _ rfl (wanted_true (j := 22) (d := 56) rfl (by kernel_rfl) e56) ⟨Rb.refl _, e64⟩
                refine Owed.cons ?_ ?_
                · -- 32: slot 66 := Op.move (Operand.tmp 9)
                  intro a w hR F
                  have e65 : a.eval (.tmp 65) = .bool true := F.new 31 65 (by kernel_rfl)
                  exact ok_skip (wanted_false (j := 31) (d := 65) rfl (by kernel_rfl) e65) ⟨Rb.refl _, rfl⟩
                refine Owed.cons ?_ ?_
                · -- 33: slot 67 := Op.unOp UnOp.not 4 (Operand.tmp 66)
                  intro a w hR F
                  have e65 : a.eval (.tmp 65) = .bool true := F.new 31 65 (by kernel_rfl)
                  exact ok_skip (wanted_false (j := 31) (d := 65) rfl (by kernel_rfl) e65) ⟨Rb.refl _, rfl⟩
                refine Owed.cons ?_ ?_
                · -- 34: slot 68 := Op.move (Operand.tmp 67)
                  intro a w hR F
                  have e65 : a.eval (.tmp 65) = .bool true := F.new 31 65 (by kernel_rfl)
                  exact ok_skip (wanted_false (j := 31) (d := 65) rfl (by kernel_rfl) e65) ⟨Rb.refl _, rfl⟩
                refine Owed.cons ?_ ?_
                · -- 35: slot 69 := Op.move (Operand.tmp 8)
                  intro a w hR F
                  have e68 : a.eval (.tmp 68) = undef := F.new 34 68 (by kernel_rfl)
                  exact ok_skip (wanted_undef (j := 34) (d := 68) rfl (by kernel_rfl) e68) ⟨Rb.refl _, rfl⟩
                refine Owed.cons ?_ ?_
                · -- 36: slot 70 := Op.binOp BinOp.eql 3 (Operand.tmp 69) (Operand.const (Value.int IntKind.i64 0)) 3
                  intro a w hR F
                  have e68 : a.eval (.tmp 68) = undef := F.new 34 68 (by kernel_rfl)
                  exact ok_skip (wanted_undef (j := 34) (d := 68) rfl (by kernel_rfl) e68) ⟨Rb.refl _, rfl⟩
                refine Owed.cons ?_ ?_
                · -- 37: slot 71 := Op.pick (Operand.tmp 68) (Operand.tmp 70) (Operand.const (Value.bool false))
                  intro a w hR F
                  have e65 : a.eval (.tmp 65) = .bool true := F.new 31 65 (by kernel_rfl)
                  exact ok_skip (wanted_false (j := 31) (d := 65) rfl (by kernel_rfl) e65) ⟨Rb.refl _, rfl⟩
                refine Owed.cons ?_ ?_
                · -- 38: slot 72 := Op.pick (Operand.tmp 65) (Operand.const (Value.bool true)) (Operand.tmp 71)
                  intro a w hR F
                  have e56 : a.eval (.tmp 56) = .bool true := F.new 22 56 (by kernel_rfl)
                  have e65 : a.eval (.tmp 65) = .bool true := F.new 31 65 (by kernel_rfl)
                  exact ok_pick _ _ _ true rfl (wanted_true (j := 22) (d := 56) rfl (by kernel_rfl) e56) e65 ⟨Rb.refl _, rfl⟩
                refine Owed.cons ?_ ?_
                · -- 39: slot 73 := Op.pick (Operand.tmp 56) (Operand.tmp 72) (Operand.const (Value.bool false))
                  intro a w hR F
                  have e56 : a.eval (.tmp 56) = .bool true := F.new 22 56 (by kernel_rfl)
                  have e72 : a.eval (.tmp 72) = .bool true := F.new 38 72 (by kernel_rfl)
                  exact ok_pick _ _ _ true rfl (wanted_none rfl) e56 ⟨Rb.refl _, e72⟩
                refine Owed.cons ?_ ?_
                · -- 40: slot 74 := Op.move (Operand.tmp 73)
                  intro a w hR F
                  have e73 : a.eval (.tmp 73) = .bool true := F.new 39 73 (by kernel_rfl)
                  exact ok_move _ rfl (wanted_none rfl) ⟨Rb.refl _, e73⟩
                refine Owed.cons ?_ ?_
                · -- 41: slot 75 := Op.call { callee := Callee.value (Operand.func 10), args := #[], argTypes := #[] }
                  intro a w hR F
                  have e74 : a.eval (.tmp 74) = .bool true := F.new 40 74 (by kernel_rfl)
                  refine ok_call 10 _ _ #[] rfl (wanted_true (j := 40) (d := 74) rfl (by kernel_rfl) e74) (by simp) (Tryd.call10 _ _) ?_
                  exact val_call_below (lives_any w (HT.out.rb (Rb.trans _ _ _ HB.out hR)))
                refine Owed.cons ?_ ?_
                · -- 42: slot 76 := Op.pick (Operand.tmp 74) (Operand.tmp 75) (Operand.const (Value.bool false))
                  intro a w hR F
                  have e74 : a.eval (.tmp 74) = .bool true := F.new 40 74 (by kernel_rfl)
                  have e75 : a.eval (.tmp 75) = .bool true := F.new 41 75 (by kernel_rfl)
                  exact ok_pick _ _ _ true rfl (wanted_none rfl) e74 ⟨Rb.refl _, e75⟩
                refine Owed.cons ?_ ?_
                · -- 43: slot 6 := Op.assign (Operand.tmp 76)
                  intro a w hR F
                  have e76 : a.eval (.tmp 76) = .bool true := F.new 42 76 (by kernel_rfl)
                  exact ok_assign _ rfl (wanted_none rfl) ⟨Rb.refl _, e76⟩
                exact Owed.nil
              case fin =>
                intro y w hR hy
                have e43 : y 43 = .bool true := hy 43 _ rfl
                have HB := Lib.hid (Rb.trans _ _ _ HB.out hR)
                clear hy hR
                simp only [putAll, Act.put, List.setIfInBounds_toArray, List.set_cons_zero, List.set_cons_succ]
                rw [e43]
                clear e43
                go_wp2
                go_ret
                exact ⟨rfl, HB.out⟩
    · go_upto_region 2 with (fail)
      refine wp_region_plain_specs (R := Rb) (S := [Spec.eq (vv (k) (n) (s)), Spec.eq (.bool false), Spec.eq (.bool true)]) (n := 1) (size := 77) Rb.trans (Rb.refl _) rfl (by kernel_rfl) ?owed ?fin
      case owed =>
        refine Owed.cons ?_ ?_
        · -- 0: slot 17 := Op.load 23 (Operand.tmp 3)
          intro a w hR F
          have e3 : a.eval (.tmp 3) = .pointer (some ⟨w0.heap.size, 0, none⟩) := F.old 3 (by kernel_rfl)
          exact ok_load _ _ rfl (wanted_none rfl) e3 (HA.out.rb hR).load ⟨Rb.refl _, rfl⟩
        refine Owed.cons ?_ ?_
        · -- 1: slot 18 := Op.call { callee := Callee.value (Operand.func 9), args := #[Operand.tmp 17], argTypes := #[23] }
          intro a w hR F
          have e17 : a.eval (.tmp 17) = vv (k) (n) (s) := F.new 0 17 (by kernel_rfl)
          refine ok_call 9 _ _ #[vv (k) (n) (s)] rfl (wanted_none rfl) (by simp [e17]) (Tryd.call9 _ _) ?_
          exact val_call_below (light_no k n s w hs ha)
        refine Owed.cons ?_ ?_
        · -- 2: slot 19 := Op.unOp UnOp.not 4 (Operand.tmp 18)
          intro a w hR F
          have e18 : a.eval (.tmp 18) = .bool false := F.new 1 18 (by kernel_rfl)
          exact ok_not _ _ false rfl (wanted_none rfl) e18 ⟨Rb.refl _, rfl⟩
        exact Owed.nil
      case fin =>
        intro y w hR hy
        have e2 : y 2 = .bool true := hy 2 _ rfl
        have HA := Lib.hid (HA.out.rb hR)
        have HX := Lib.hid (HX.out.below hR)
        have HB := Lib.hid (Rb.trans _ _ _ HB.out hR)
        clear hy hR
        simp only [putAll, Act.put, List.setIfInBounds_toArray, List.set_cons_zero, List.set_cons_succ]
        rw [e2]
        clear e2
        go_wp2_with fail
        refine (lives_any _ (HT.out.rb HB.out)).mono ?_
        rintro e w1 ⟨rfl, hb⟩
        have HB := Lib.hid (Rb.trans _ _ _ HB.out hb)
        clear hb
        go_wp2
        go_ret
        exact ⟨rfl, HB.out⟩
end Go.Proofs.YtefjfiihfbkjoaaDoor
