import Derived.Test.YtkngemckhbgbjaaF
import Derived.Test.YtkngemckhbgbjaaRegTools
namespace Go.Proofs.Ytkngemckhbgbjaa
open Go.ChangeShapes Go.WideShapes Go.ChangeAt Go.RowKit Oct By Reg

theorem cut_any (v : Value) (ys : List UInt8) (w : World) (hb : Bs w v ys) :
    Calls Try.prog 9 #[v] w fun e w' => (∃ u, e = .returned u ∧ Bs w u (ys.take 300)) ∧ w = w' := by
  obtain ⟨ao, cap, rfl, h2, h3, h4, h5⟩ := hb
  have hcap : cap ≤ 9223372036854775807 := by unfold maxLen at h3; omega
  have H : ∀ n, n = min ys.length 300 → Bs w (.slice ao n cap) (ys.take 300) := fun n hn => by
    have hl : (ys.take 300).length = n := by rw [List.length_take, hn, Nat.min_comm]
    rw [← hl]
    refine ⟨ao, cap, rfl, by rw [List.length_take]; omega, h3, h4, fun ad ha j u hu => h5 ad ha j u ?_⟩
    rw [List.map_take, List.getElem?_take] at hu
    split at hu
    · exact hu
    · cases hu
  have HH := Lib.hid H
  clear H h4 h5 h3
  go_enter Try.func9, Try.ntmps9
  go_wp2
  · go_ret
    exact ⟨⟨_, rfl, HH.out 300 (by omega)⟩, rfl⟩
  · go_ret
    exact ⟨⟨_, rfl, HH.out ys.length (by omega)⟩, rfl⟩

theorem put_call {P : Program} {f : FuncId} {vs : Array Value} {w : World} {E : TypeId} {bs : List UInt8} (h : Calls P f vs w (Put w E bs)) : Calls P f vs w fun e w'' => ∃ v, e = .returned v ∧ Rb w w'' ∧ (bsSpec bs).V w'' v :=
  h.mono fun _ _ ⟨_, _, he, ho, hb⟩ => ⟨_, he, hb, Bs.of_owns ho⟩
theorem val_call {P : Program} {f : FuncId} {vs : Array Value} {w : World} {v : Value} (h : Calls P f vs w fun e w' => e = .returned v ∧ w = w') : Calls P f vs w fun e w'' => ∃ u, e = .returned u ∧ Rb w w'' ∧ (Spec.eq (R := Rb) v).V w'' u :=
  h.mono fun _ _ ⟨he, hw⟩ => ⟨_, he, by rw [← hw]; exact Rb.refl _, rfl⟩
theorem val_call_below {P : Program} {f : FuncId} {vs : Array Value} {w : World} {v : Value} (h : Calls P f vs w fun e w' => e = .returned v ∧ Below w.heap.size w w') : Calls P f vs w fun e w'' => ∃ u, e = .returned u ∧ Rb w w'' ∧ (Spec.eq (R := Rb) v).V w'' u :=
  h.mono fun _ _ ⟨he, hw⟩ => ⟨_, he, hw, rfl⟩

theorem size_int (n : Int) (w : World) (h0 : 0 ≤ n) (h1 : n.toNat < U64) : Calls Try.prog 18 #[.int .u64 n] w fun e w' => e = .returned (.int .i64 (sizeN n.toNat : Int)) ∧ w = w' := by
  obtain ⟨n, rfl⟩ := Int.eq_ofNat_of_zero_le h0
  exact size_any n w h1
theorem intB_len {m : Int} (h0 : -9223372036854775808 ≤ m) (h1 : m ≤ 9223372036854775807) : (intB m).length ≤ 10 := sizeN_le10 (zig_lt h0 h1)
theorem textB_len (xs : List UInt8) (h : xs.length ≤ 300) : (textB xs).length ≤ 310 := by
  rw [textB, List.length_append, uintB_length]; have := sizeN_le10 (n := xs.length) (by omega); omega

set_option maxRecDepth 100000 in
theorem puts_walk (u : Value) (ys : List UInt8) (n m : Int) (w : World) (hb : Bs w u ys) (h0 : 0 ≤ n) (h1 : n.toNat < U64) (h2 : -9223372036854775808 ≤ m) (h3 : m ≤ 9223372036854775807) :
    Calls Try.prog 3 #[u, .int .u64 n, .int .i64 m] w fun e w' => e = .returned (.bool true) ∧ Below w.heap.size w w' := by
  have H1 := Lib.hid h1
  clear h1
  go_enter Try.func3, Try.ntmps3
  go_wp2_with fail
  refine (cut_any u ys w hb).mono ?_
  rintro e w' ⟨⟨v, rfl, hx⟩, rfl⟩
  have hl : (ys.take 300).length ≤ 300 := by rw [List.length_take]; omega
  obtain ⟨xs, hxs⟩ : ∃ xs, xs = ys.take 300 := ⟨_, rfl⟩
  rw [← hxs] at hx hl
  have kc := run_convert_Bs (P := Try.prog) hx 22 5 9 Try.underlying22 Try.underlying5 Try.underlying9
  have HX := Lib.hid hx
  clear hx hxs hb
  go_wp2_with fail
  refine wp_region_specs (R := Rb) (S := [Spec.eq (v), Spec.eq (.int .u64 (n)), bsSpec (xs ++ uintB n.toNat), Spec.eq (strV (xs ++ uintB n.toNat)), Spec.eq (strV (xs)), Spec.eq (.int .u64 (n)), bsSpec (uintB n.toNat), Spec.eq (strV (uintB n.toNat)), Spec.eq (strV (xs ++ (uintB n.toNat))), Spec.eq (.bool true), Spec.eq (.bool true), Spec.eq (v), Spec.eq (.int .i64 (m)), bsSpec (xs ++ intB m), Spec.eq (strV (xs ++ intB m)), Spec.eq (strV (xs)), Spec.eq (.int .i64 (m)), bsSpec (intB m), Spec.eq (strV (intB m)), Spec.eq (strV (xs ++ (intB m))), Spec.eq (.bool true), Spec.eq (.bool true), Spec.eq (.bool true), Spec.eq (v), Spec.eq (strV (xs)), bsSpec (xs ++ textB xs), Spec.eq (strV (xs ++ textB xs)), Spec.eq (strV (xs)), Spec.eq (strV (xs)), bsSpec (textB xs), Spec.eq (strV (textB xs)), Spec.eq (strV (xs ++ (textB xs))), Spec.eq (.bool true), Spec.eq (.bool true), Spec.eq (.bool true), Spec.eq (v), Spec.eq (.int .u32 (n % 4294967296)), bsSpec (xs ++ wordB (n % 4294967296).toNat), Spec.eq (strV (xs ++ wordB (n % 4294967296).toNat)), Spec.eq (strV (xs)), Spec.eq (.int .u32 (n % 4294967296)), bsSpec (wordB (n % 4294967296).toNat), Spec.eq (strV (wordB (n % 4294967296).toNat)), Spec.eq (strV (xs ++ (wordB (n % 4294967296).toNat))), Spec.eq (.bool true), Spec.eq (.bool true), Spec.eq (.bool true), Spec.eq (v), Spec.eq (strV (xs)), Spec.eq (strV (xs)), Spec.eq (.bool true), Spec.eq (.bool true), Spec.eq (.bool true), Spec.eq (.int .u64 (n)), Spec.eq (.int .i64 ((sizeN n.toNat : Int))), Spec.eq (.int .u64 (n)), bsSpec (uintB n.toNat), Spec.eq (.int .i64 (((uintB n.toNat).length : Int))), Spec.eq (.bool true), Spec.eq (.bool true), Spec.eq (.bool true), Spec.eq (.bool true), Spec.eq (.bool true), Spec.eq (.bool true)]) (n := 1) (size := 80) (by kernel_rfl) Rb.trans (Rb.drew _) rfl (by kernel_rfl) ?owed ?fin
  case owed =>
    refine Owed.cons ?_ ?_
    · -- 0: slot 17 := Op.move (Operand.tmp 0)
      intro a w hR F
      have e0 : a.eval (.tmp 0) = v := F.old 0 (by kernel_rfl)
      exact ok_move _ rfl (wanted_none rfl) ⟨Rb.refl _, e0⟩
    refine Owed.cons ?_ ?_
    · -- 1: slot 18 := Op.move (Operand.tmp 1)
      intro a w hR F
      have e1 : a.eval (.tmp 1) = .int .u64 (n) := F.old 1 (by kernel_rfl)
      exact ok_move _ rfl (wanted_none rfl) ⟨Rb.refl _, e1⟩
    refine Owed.cons ?_ ?_
    · -- 2: slot 19 := Op.call { callee := Callee.value (Operand.func 10), args := #[Operand.tmp 17, Operand.tmp 18], argTy
      intro a w hR F
      have e17 : a.eval (.tmp 17) = v := F.new 0 17 (by kernel_rfl)
      have e18 : a.eval (.tmp 18) = .int .u64 (n) := F.new 1 18 (by kernel_rfl)
      refine ok_call 10 _ _ #[v, .int .u64 (n)] rfl (wanted_none rfl) (by simp [e17, e18]) (Try.call10 _ _) ?_
      exact put_call (putuint_int v xs n w (HX.out.below hR) (by omega) h0 H1.out)
    refine Owed.cons ?_ ?_
    · -- 3: slot 20 := Op.convert 22 9 (Operand.tmp 19)
      intro a w hR F
      have e19 : Bs w (a.eval (.tmp 19)) (xs ++ uintB n.toNat) := F.new 2 19 (by kernel_rfl)
      exact ok_conv _ _ _ rfl (wanted_none rfl) (run_convert_Bs e19 22 5 9 Try.underlying22 Try.underlying5 Try.underlying9) ⟨Rb.refl _, rfl⟩
    refine Owed.cons ?_ ?_
    · -- 4: slot 21 := Op.move (Operand.tmp 7)
      intro a w hR F
      have e7 : a.eval (.tmp 7) = strV (xs) := F.old 7 (by kernel_rfl)
      exact ok_move _ rfl (wanted_none rfl) ⟨Rb.refl _, e7⟩
    refine Owed.cons ?_ ?_
    · -- 5: slot 22 := Op.move (Operand.tmp 1)
      intro a w hR F
      have e1 : a.eval (.tmp 1) = .int .u64 (n) := F.old 1 (by kernel_rfl)
      exact ok_move _ rfl (wanted_none rfl) ⟨Rb.refl _, e1⟩
    refine Owed.cons ?_ ?_
    · -- 6: slot 23 := Op.call { callee := Callee.value (Operand.func 11), args := #[Operand.tmp 22], argTypes := #[23] }
      intro a w hR F
      have e22 : a.eval (.tmp 22) = .int .u64 (n) := F.new 5 22 (by kernel_rfl)
      refine ok_call 11 _ _ #[.int .u64 (n)] rfl (wanted_none rfl) (by simp [e22]) (Try.call11 _ _) ?_
      exact put_call (refuint_any n w h0 H1.out)
    refine Owed.cons ?_ ?_
    · -- 7: slot 24 := Op.convert 22 9 (Operand.tmp 23)
      intro a w hR F
      have e23 : Bs w (a.eval (.tmp 23)) (uintB n.toNat) := F.new 6 23 (by kernel_rfl)
      exact ok_conv _ _ _ rfl (wanted_none rfl) (run_convert_Bs e23 22 5 9 Try.underlying22 Try.underlying5 Try.underlying9) ⟨Rb.refl _, rfl⟩
    refine Owed.cons ?_ ?_
    · -- 8: slot 25 := Op.binOp BinOp.add 9 (Operand.tmp 21) (Operand.tmp 24) 9
      intro a w hR F
      have e21 : a.eval (.tmp 21) = strV (xs) := F.new 4 21 (by kernel_rfl)
      have e24 : a.eval (.tmp 24) = strV (uintB n.toNat) := F.new 7 24 (by kernel_rfl)
      exact ok_bin _ _ _ _ _ rfl (wanted_none rfl) e21 e24 (run_add_strV _ _ _ _ _ (by rw [uintB_length]; have := sizeN_le10 H1.out; omega)) ⟨Rb.refl _, rfl⟩
    refine Owed.cons ?_ ?_
    · -- 9: slot 26 := Op.binOp BinOp.eql 9 (Operand.tmp 20) (Operand.tmp 25) 9
      intro a w hR F
      have e20 : a.eval (.tmp 20) = strV (xs ++ uintB n.toNat) := F.new 3 20 (by kernel_rfl)
      have e25 : a.eval (.tmp 25) = strV (xs ++ (uintB n.toNat)) := F.new 8 25 (by kernel_rfl)
      refine ok_bin _ _ _ _ _ rfl (wanted_none rfl) e20 e25 (run_eql_strV _ _ _ _ _) ⟨Rb.refl _, ?_⟩
      exact congrArg Value.bool (by simp)
    refine Owed.cons ?_ ?_
    · -- 10: slot 27 := Op.move (Operand.tmp 26)
      intro a w hR F
      have e26 : a.eval (.tmp 26) = .bool true := F.new 9 26 (by kernel_rfl)
      exact ok_move _ rfl (wanted_none rfl) ⟨Rb.refl _, e26⟩
    refine Owed.cons ?_ ?_
    · -- 11: slot 28 := Op.move (Operand.tmp 0)
      intro a w hR F
      have e27 : a.eval (.tmp 27) = .bool true := F.new 10 27 (by kernel_rfl)
      have e0 : a.eval (.tmp 0) = v := F.old 0 (by kernel_rfl)
      exact ok_move _ rfl (wanted_true (j := 10) (d := 27) rfl (by kernel_rfl) e27) ⟨Rb.refl _, e0⟩
    refine Owed.cons ?_ ?_
    · -- 12: slot 29 := Op.move (Operand.tmp 2)
      intro a w hR F
      have e27 : a.eval (.tmp 27) = .bool true := F.new 10 27 (by kernel_rfl)
      have e2 : a.eval (.tmp 2) = .int .i64 (m) := F.old 2 (by kernel_rfl)
      exact ok_move _ rfl (wanted_true (j := 10) (d := 27) rfl (by kernel_rfl) e27) ⟨Rb.refl _, e2⟩
    refine Owed.cons ?_ ?_
    · -- 13: slot 30 := Op.call { callee := Callee.value (Operand.func 12), args := #[Operand.tmp 28, Operand.tmp 29], argTy
      intro a w hR F
      have e27 : a.eval (.tmp 27) = .bool true := F.new 10 27 (by kernel_rfl)
      have e28 : a.eval (.tmp 28) = v := F.new 11 28 (by kernel_rfl)
      have e29 : a.eval (.tmp 29) = .int .i64 (m) := F.new 12 29 (by kernel_rfl)
      refine ok_call 12 _ _ #[v, .int .i64 (m)] rfl (wanted_true (j := 10) (d := 27) rfl (by kernel_rfl) e27) (by simp [e28, e29]) (Try.call12 _ _) ?_
      exact put_call (putint_any v xs m w (HX.out.below hR) (by omega) h2 h3)
    refine Owed.cons ?_ ?_
    · -- 14: slot 31 := Op.convert 22 9 (Operand.tmp 30)
      intro a w hR F
      have e27 : a.eval (.tmp 27) = .bool true := F.new 10 27 (by kernel_rfl)
      have e30 : Bs w (a.eval (.tmp 30)) (xs ++ intB m) := F.new 13 30 (by kernel_rfl)
      exact ok_conv _ _ _ rfl (wanted_true (j := 10) (d := 27) rfl (by kernel_rfl) e27) (run_convert_Bs e30 22 5 9 Try.underlying22 Try.underlying5 Try.underlying9) ⟨Rb.refl _, rfl⟩
    refine Owed.cons ?_ ?_
    · -- 15: slot 32 := Op.move (Operand.tmp 7)
      intro a w hR F
      have e27 : a.eval (.tmp 27) = .bool true := F.new 10 27 (by kernel_rfl)
      have e7 : a.eval (.tmp 7) = strV (xs) := F.old 7 (by kernel_rfl)
      exact ok_move _ rfl (wanted_true (j := 10) (d := 27) rfl (by kernel_rfl) e27) ⟨Rb.refl _, e7⟩
    refine Owed.cons ?_ ?_
    · -- 16: slot 33 := Op.move (Operand.tmp 2)
      intro a w hR F
      have e27 : a.eval (.tmp 27) = .bool true := F.new 10 27 (by kernel_rfl)
      have e2 : a.eval (.tmp 2) = .int .i64 (m) := F.old 2 (by kernel_rfl)
      exact ok_move _ rfl (wanted_true (j := 10) (d := 27) rfl (by kernel_rfl) e27) ⟨Rb.refl _, e2⟩
    refine Owed.cons ?_ ?_
    · -- 17: slot 34 := Op.call { callee := Callee.value (Operand.func 13), args := #[Operand.tmp 33], argTypes := #[2] }
      intro a w hR F
      have e27 : a.eval (.tmp 27) = .bool true := F.new 10 27 (by kernel_rfl)
      have e33 : a.eval (.tmp 33) = .int .i64 (m) := F.new 16 33 (by kernel_rfl)
      refine ok_call 13 _ _ #[.int .i64 (m)] rfl (wanted_true (j := 10) (d := 27) rfl (by kernel_rfl) e27) (by simp [e33]) (Try.call13 _ _) ?_
      exact put_call (refint_any m w h2 h3)
    refine Owed.cons ?_ ?_
    · -- 18: slot 35 := Op.convert 22 9 (Operand.tmp 34)
      intro a w hR F
      have e27 : a.eval (.tmp 27) = .bool true := F.new 10 27 (by kernel_rfl)
      have e34 : Bs w (a.eval (.tmp 34)) (intB m) := F.new 17 34 (by kernel_rfl)
      exact ok_conv _ _ _ rfl (wanted_true (j := 10) (d := 27) rfl (by kernel_rfl) e27) (run_convert_Bs e34 22 5 9 Try.underlying22 Try.underlying5 Try.underlying9) ⟨Rb.refl _, rfl⟩
    refine Owed.cons ?_ ?_
    · -- 19: slot 36 := Op.binOp BinOp.add 9 (Operand.tmp 32) (Operand.tmp 35) 9
      intro a w hR F
      have e27 : a.eval (.tmp 27) = .bool true := F.new 10 27 (by kernel_rfl)
      have e32 : a.eval (.tmp 32) = strV (xs) := F.new 15 32 (by kernel_rfl)
      have e35 : a.eval (.tmp 35) = strV (intB m) := F.new 18 35 (by kernel_rfl)
      exact ok_bin _ _ _ _ _ rfl (wanted_true (j := 10) (d := 27) rfl (by kernel_rfl) e27) e32 e35 (run_add_strV _ _ _ _ _ (by have := intB_len h2 h3; omega)) ⟨Rb.refl _, rfl⟩
    refine Owed.cons ?_ ?_
    · -- 20: slot 37 := Op.binOp BinOp.eql 9 (Operand.tmp 31) (Operand.tmp 36) 9
      intro a w hR F
      have e27 : a.eval (.tmp 27) = .bool true := F.new 10 27 (by kernel_rfl)
      have e31 : a.eval (.tmp 31) = strV (xs ++ intB m) := F.new 14 31 (by kernel_rfl)
      have e36 : a.eval (.tmp 36) = strV (xs ++ (intB m)) := F.new 19 36 (by kernel_rfl)
      refine ok_bin _ _ _ _ _ rfl (wanted_true (j := 10) (d := 27) rfl (by kernel_rfl) e27) e31 e36 (run_eql_strV _ _ _ _ _) ⟨Rb.refl _, ?_⟩
      exact congrArg Value.bool (by simp)
    refine Owed.cons ?_ ?_
    · -- 21: slot 38 := Op.pick (Operand.tmp 27) (Operand.tmp 37) (Operand.const (Value.bool false))
      intro a w hR F
      have e27 : a.eval (.tmp 27) = .bool true := F.new 10 27 (by kernel_rfl)
      have e37 : a.eval (.tmp 37) = .bool true := F.new 20 37 (by kernel_rfl)
      exact ok_pick _ _ _ true rfl (wanted_none rfl) e27 ⟨Rb.refl _, e37⟩
    refine Owed.cons ?_ ?_
    · -- 22: slot 39 := Op.move (Operand.tmp 38)
      intro a w hR F
      have e38 : a.eval (.tmp 38) = .bool true := F.new 21 38 (by kernel_rfl)
      exact ok_move _ rfl (wanted_none rfl) ⟨Rb.refl _, e38⟩
    refine Owed.cons ?_ ?_
    · -- 23: slot 40 := Op.move (Operand.tmp 0)
      intro a w hR F
      have e39 : a.eval (.tmp 39) = .bool true := F.new 22 39 (by kernel_rfl)
      have e0 : a.eval (.tmp 0) = v := F.old 0 (by kernel_rfl)
      exact ok_move _ rfl (wanted_true (j := 22) (d := 39) rfl (by kernel_rfl) e39) ⟨Rb.refl _, e0⟩
    refine Owed.cons ?_ ?_
    · -- 24: slot 41 := Op.move (Operand.tmp 8)
      intro a w hR F
      have e39 : a.eval (.tmp 39) = .bool true := F.new 22 39 (by kernel_rfl)
      have e8 : a.eval (.tmp 8) = strV (xs) := F.old 8 (by kernel_rfl)
      exact ok_move _ rfl (wanted_true (j := 22) (d := 39) rfl (by kernel_rfl) e39) ⟨Rb.refl _, e8⟩
    refine Owed.cons ?_ ?_
    · -- 25: slot 42 := Op.call { callee := Callee.value (Operand.func 14), args := #[Operand.tmp 40, Operand.tmp 41], argTy
      intro a w hR F
      have e39 : a.eval (.tmp 39) = .bool true := F.new 22 39 (by kernel_rfl)
      have e40 : a.eval (.tmp 40) = v := F.new 23 40 (by kernel_rfl)
      have e41 : a.eval (.tmp 41) = strV (xs) := F.new 24 41 (by kernel_rfl)
      refine ok_call 14 _ _ #[v, strV (xs)] rfl (wanted_true (j := 22) (d := 39) rfl (by kernel_rfl) e39) (by simp [e40, e41]) (Try.call14 _ _) ?_
      exact put_call (puttext_any v xs (str xs) w (HX.out.below hR) (by omega) (by rw [str_size]; omega))
    refine Owed.cons ?_ ?_
    · -- 26: slot 43 := Op.convert 22 9 (Operand.tmp 42)
      intro a w hR F
      have e39 : a.eval (.tmp 39) = .bool true := F.new 22 39 (by kernel_rfl)
      have e42 : Bs w (a.eval (.tmp 42)) (xs ++ textB xs) := F.new 25 42 (by kernel_rfl)
      exact ok_conv _ _ _ rfl (wanted_true (j := 22) (d := 39) rfl (by kernel_rfl) e39) (run_convert_Bs e42 22 5 9 Try.underlying22 Try.underlying5 Try.underlying9) ⟨Rb.refl _, rfl⟩
    refine Owed.cons ?_ ?_
    · -- 27: slot 44 := Op.move (Operand.tmp 7)
      intro a w hR F
      have e39 : a.eval (.tmp 39) = .bool true := F.new 22 39 (by kernel_rfl)
      have e7 : a.eval (.tmp 7) = strV (xs) := F.old 7 (by kernel_rfl)
      exact ok_move _ rfl (wanted_true (j := 22) (d := 39) rfl (by kernel_rfl) e39) ⟨Rb.refl _, e7⟩
    refine Owed.cons ?_ ?_
    · -- 28: slot 45 := Op.move (Operand.tmp 8)
      intro a w hR F
      have e39 : a.eval (.tmp 39) = .bool true := F.new 22 39 (by kernel_rfl)
      have e8 : a.eval (.tmp 8) = strV (xs) := F.old 8 (by kernel_rfl)
      exact ok_move _ rfl (wanted_true (j := 22) (d := 39) rfl (by kernel_rfl) e39) ⟨Rb.refl _, e8⟩
    refine Owed.cons ?_ ?_
    · -- 29: slot 46 := Op.call { callee := Callee.value (Operand.func 15), args := #[Operand.tmp 45], argTypes := #[9] }
      intro a w hR F
      have e39 : a.eval (.tmp 39) = .bool true := F.new 22 39 (by kernel_rfl)
      have e45 : a.eval (.tmp 45) = strV (xs) := F.new 28 45 (by kernel_rfl)
      refine ok_call 15 _ _ #[strV (xs)] rfl (wanted_true (j := 22) (d := 39) rfl (by kernel_rfl) e39) (by simp [e45]) (Try.call15 _ _) ?_
      exact put_call (reftext_any (str xs) w (by rw [str_size]; omega))
    refine Owed.cons ?_ ?_
    · -- 30: slot 47 := Op.convert 22 9 (Operand.tmp 46)
      intro a w hR F
      have e39 : a.eval (.tmp 39) = .bool true := F.new 22 39 (by kernel_rfl)
      have e46 : Bs w (a.eval (.tmp 46)) (textB xs) := F.new 29 46 (by kernel_rfl)
      exact ok_conv _ _ _ rfl (wanted_true (j := 22) (d := 39) rfl (by kernel_rfl) e39) (run_convert_Bs e46 22 5 9 Try.underlying22 Try.underlying5 Try.underlying9) ⟨Rb.refl _, rfl⟩
    refine Owed.cons ?_ ?_
    · -- 31: slot 48 := Op.binOp BinOp.add 9 (Operand.tmp 44) (Operand.tmp 47) 9
      intro a w hR F
      have e39 : a.eval (.tmp 39) = .bool true := F.new 22 39 (by kernel_rfl)
      have e44 : a.eval (.tmp 44) = strV (xs) := F.new 27 44 (by kernel_rfl)
      have e47 : a.eval (.tmp 47) = strV (textB xs) := F.new 30 47 (by kernel_rfl)
      exact ok_bin _ _ _ _ _ rfl (wanted_true (j := 22) (d := 39) rfl (by kernel_rfl) e39) e44 e47 (run_add_strV _ _ _ _ _ (by have := textB_len xs hl; omega)) ⟨Rb.refl _, rfl⟩
    refine Owed.cons ?_ ?_
    · -- 32: slot 49 := Op.binOp BinOp.eql 9 (Operand.tmp 43) (Operand.tmp 48) 9
      intro a w hR F
      have e39 : a.eval (.tmp 39) = .bool true := F.new 22 39 (by kernel_rfl)
      have e43 : a.eval (.tmp 43) = strV (xs ++ textB xs) := F.new 26 43 (by kernel_rfl)
      have e48 : a.eval (.tmp 48) = strV (xs ++ (textB xs)) := F.new 31 48 (by kernel_rfl)
      refine ok_bin _ _ _ _ _ rfl (wanted_true (j := 22) (d := 39) rfl (by kernel_rfl) e39) e43 e48 (run_eql_strV _ _ _ _ _) ⟨Rb.refl _, ?_⟩
      exact congrArg Value.bool (by simp)
    refine Owed.cons ?_ ?_
    · -- 33: slot 50 := Op.pick (Operand.tmp 39) (Operand.tmp 49) (Operand.const (Value.bool false))
      intro a w hR F
      have e39 : a.eval (.tmp 39) = .bool true := F.new 22 39 (by kernel_rfl)
      have e49 : a.eval (.tmp 49) = .bool true := F.new 32 49 (by kernel_rfl)
      exact ok_pick _ _ _ true rfl (wanted_none rfl) e39 ⟨Rb.refl _, e49⟩
    refine Owed.cons ?_ ?_
    · -- 34: slot 51 := Op.move (Operand.tmp 50)
      intro a w hR F
      have e50 : a.eval (.tmp 50) = .bool true := F.new 33 50 (by kernel_rfl)
      exact ok_move _ rfl (wanted_none rfl) ⟨Rb.refl _, e50⟩
    refine Owed.cons ?_ ?_
    · -- 35: slot 52 := Op.move (Operand.tmp 0)
      intro a w hR F
      have e51 : a.eval (.tmp 51) = .bool true := F.new 34 51 (by kernel_rfl)
      have e0 : a.eval (.tmp 0) = v := F.old 0 (by kernel_rfl)
      exact ok_move _ rfl (wanted_true (j := 34) (d := 51) rfl (by kernel_rfl) e51) ⟨Rb.refl _, e0⟩
    refine Owed.cons ?_ ?_
    · -- 36: slot 53 := Op.move (Operand.tmp 9)
      intro a w hR F
      have e51 : a.eval (.tmp 51) = .bool true := F.new 34 51 (by kernel_rfl)
      have e9 : a.eval (.tmp 9) = .int .u32 (n % 4294967296) := F.old 9 (by kernel_rfl)
      exact ok_move _ rfl (wanted_true (j := 34) (d := 51) rfl (by kernel_rfl) e51) ⟨Rb.refl _, e9⟩
    refine Owed.cons ?_ ?_
    · -- 37: slot 54 := Op.call { callee := Callee.value (Operand.func 16), args := #[Operand.tmp 52, Operand.tmp 53], argTy
      intro a w hR F
      have e51 : a.eval (.tmp 51) = .bool true := F.new 34 51 (by kernel_rfl)
      have e52 : a.eval (.tmp 52) = v := F.new 35 52 (by kernel_rfl)
      have e53 : a.eval (.tmp 53) = .int .u32 (n % 4294967296) := F.new 36 53 (by kernel_rfl)
      refine ok_call 16 _ _ #[v, .int .u32 (n % 4294967296)] rfl (wanted_true (j := 34) (d := 51) rfl (by kernel_rfl) e51) (by simp [e52, e53]) (Try.call16 _ _) ?_
      exact put_call (putword_any v xs (n % 4294967296) w (HX.out.below hR) (by omega) (by omega) (by omega))
    refine Owed.cons ?_ ?_
    · -- 38: slot 55 := Op.convert 22 9 (Operand.tmp 54)
      intro a w hR F
      have e51 : a.eval (.tmp 51) = .bool true := F.new 34 51 (by kernel_rfl)
      have e54 : Bs w (a.eval (.tmp 54)) (xs ++ wordB (n % 4294967296).toNat) := F.new 37 54 (by kernel_rfl)
      exact ok_conv _ _ _ rfl (wanted_true (j := 34) (d := 51) rfl (by kernel_rfl) e51) (run_convert_Bs e54 22 5 9 Try.underlying22 Try.underlying5 Try.underlying9) ⟨Rb.refl _, rfl⟩
    refine Owed.cons ?_ ?_
    · -- 39: slot 56 := Op.move (Operand.tmp 7)
      intro a w hR F
      have e51 : a.eval (.tmp 51) = .bool true := F.new 34 51 (by kernel_rfl)
      have e7 : a.eval (.tmp 7) = strV (xs) := F.old 7 (by kernel_rfl)
      exact ok_move _ rfl (wanted_true (j := 34) (d := 51) rfl (by kernel_rfl) e51) ⟨Rb.refl _, e7⟩
    refine Owed.cons ?_ ?_
    · -- 40: slot 57 := Op.move (Operand.tmp 9)
      intro a w hR F
      have e51 : a.eval (.tmp 51) = .bool true := F.new 34 51 (by kernel_rfl)
      have e9 : a.eval (.tmp 9) = .int .u32 (n % 4294967296) := F.old 9 (by kernel_rfl)
      exact ok_move _ rfl (wanted_true (j := 34) (d := 51) rfl (by kernel_rfl) e51) ⟨Rb.refl _, e9⟩
    refine Owed.cons ?_ ?_
    · -- 41: slot 58 := Op.call { callee := Callee.value (Operand.func 17), args := #[Operand.tmp 57], argTypes := #[25] }
      intro a w hR F
      have e51 : a.eval (.tmp 51) = .bool true := F.new 34 51 (by kernel_rfl)
      have e57 : a.eval (.tmp 57) = .int .u32 (n % 4294967296) := F.new 40 57 (by kernel_rfl)
      refine ok_call 17 _ _ #[.int .u32 (n % 4294967296)] rfl (wanted_true (j := 34) (d := 51) rfl (by kernel_rfl) e51) (by simp [e57]) (Try.call17 _ _) ?_
      exact put_call (refword_any (n % 4294967296) w (by omega) (by omega))
    refine Owed.cons ?_ ?_
    · -- 42: slot 59 := Op.convert 22 9 (Operand.tmp 58)
      intro a w hR F
      have e51 : a.eval (.tmp 51) = .bool true := F.new 34 51 (by kernel_rfl)
      have e58 : Bs w (a.eval (.tmp 58)) (wordB (n % 4294967296).toNat) := F.new 41 58 (by kernel_rfl)
      exact ok_conv _ _ _ rfl (wanted_true (j := 34) (d := 51) rfl (by kernel_rfl) e51) (run_convert_Bs e58 22 5 9 Try.underlying22 Try.underlying5 Try.underlying9) ⟨Rb.refl _, rfl⟩
    refine Owed.cons ?_ ?_
    · -- 43: slot 60 := Op.binOp BinOp.add 9 (Operand.tmp 56) (Operand.tmp 59) 9
      intro a w hR F
      have e51 : a.eval (.tmp 51) = .bool true := F.new 34 51 (by kernel_rfl)
      have e56 : a.eval (.tmp 56) = strV (xs) := F.new 39 56 (by kernel_rfl)
      have e59 : a.eval (.tmp 59) = strV (wordB (n % 4294967296).toNat) := F.new 42 59 (by kernel_rfl)
      exact ok_bin _ _ _ _ _ rfl (wanted_true (j := 34) (d := 51) rfl (by kernel_rfl) e51) e56 e59 (run_add_strV _ _ _ _ _ (by simp [wordB]; omega)) ⟨Rb.refl _, rfl⟩
    refine Owed.cons ?_ ?_
    · -- 44: slot 61 := Op.binOp BinOp.eql 9 (Operand.tmp 55) (Operand.tmp 60) 9
      intro a w hR F
      have e51 : a.eval (.tmp 51) = .bool true := F.new 34 51 (by kernel_rfl)
      have e55 : a.eval (.tmp 55) = strV (xs ++ wordB (n % 4294967296).toNat) := F.new 38 55 (by kernel_rfl)
      have e60 : a.eval (.tmp 60) = strV (xs ++ (wordB (n % 4294967296).toNat)) := F.new 43 60 (by kernel_rfl)
      refine ok_bin _ _ _ _ _ rfl (wanted_true (j := 34) (d := 51) rfl (by kernel_rfl) e51) e55 e60 (run_eql_strV _ _ _ _ _) ⟨Rb.refl _, ?_⟩
      exact congrArg Value.bool (by simp)
    refine Owed.cons ?_ ?_
    · -- 45: slot 62 := Op.pick (Operand.tmp 51) (Operand.tmp 61) (Operand.const (Value.bool false))
      intro a w hR F
      have e51 : a.eval (.tmp 51) = .bool true := F.new 34 51 (by kernel_rfl)
      have e61 : a.eval (.tmp 61) = .bool true := F.new 44 61 (by kernel_rfl)
      exact ok_pick _ _ _ true rfl (wanted_none rfl) e51 ⟨Rb.refl _, e61⟩
    refine Owed.cons ?_ ?_
    · -- 46: slot 63 := Op.move (Operand.tmp 62)
      intro a w hR F
      have e62 : a.eval (.tmp 62) = .bool true := F.new 45 62 (by kernel_rfl)
      exact ok_move _ rfl (wanted_none rfl) ⟨Rb.refl _, e62⟩
    refine Owed.cons ?_ ?_
    · -- 47: slot 64 := Op.move (Operand.tmp 0)
      intro a w hR F
      have e63 : a.eval (.tmp 63) = .bool true := F.new 46 63 (by kernel_rfl)
      have e0 : a.eval (.tmp 0) = v := F.old 0 (by kernel_rfl)
      exact ok_move _ rfl (wanted_true (j := 46) (d := 63) rfl (by kernel_rfl) e63) ⟨Rb.refl _, e0⟩
    refine Owed.cons ?_ ?_
    · -- 48: slot 65 := Op.convert 22 9 (Operand.tmp 64)
      intro a w hR F
      have e63 : a.eval (.tmp 63) = .bool true := F.new 46 63 (by kernel_rfl)
      have e64 : a.eval (.tmp 64) = v := F.new 47 64 (by kernel_rfl)
      exact ok_conv _ _ _ rfl (wanted_true (j := 46) (d := 63) rfl (by kernel_rfl) e63) (run_convert_Bs (xs := xs) (by rw [e64]; exact HX.out.below hR) 22 5 9 Try.underlying22 Try.underlying5 Try.underlying9) ⟨Rb.refl _, rfl⟩
    refine Owed.cons ?_ ?_
    · -- 49: slot 66 := Op.move (Operand.tmp 7)
      intro a w hR F
      have e63 : a.eval (.tmp 63) = .bool true := F.new 46 63 (by kernel_rfl)
      have e7 : a.eval (.tmp 7) = strV (xs) := F.old 7 (by kernel_rfl)
      exact ok_move _ rfl (wanted_true (j := 46) (d := 63) rfl (by kernel_rfl) e63) ⟨Rb.refl _, e7⟩
    refine Owed.cons ?_ ?_
    · -- 50: slot 67 := Op.binOp BinOp.eql 9 (Operand.tmp 65) (Operand.tmp 66) 9
      intro a w hR F
      have e63 : a.eval (.tmp 63) = .bool true := F.new 46 63 (by kernel_rfl)
      have e65 : a.eval (.tmp 65) = strV (xs) := F.new 48 65 (by kernel_rfl)
      have e66 : a.eval (.tmp 66) = strV (xs) := F.new 49 66 (by kernel_rfl)
      refine ok_bin _ _ _ _ _ rfl (wanted_true (j := 46) (d := 63) rfl (by kernel_rfl) e63) e65 e66 (run_eql_strV _ _ _ _ _) ⟨Rb.refl _, ?_⟩
      exact congrArg Value.bool (by simp)
    refine Owed.cons ?_ ?_
    · -- 51: slot 68 := Op.pick (Operand.tmp 63) (Operand.tmp 67) (Operand.const (Value.bool false))
      intro a w hR F
      have e63 : a.eval (.tmp 63) = .bool true := F.new 46 63 (by kernel_rfl)
      have e67 : a.eval (.tmp 67) = .bool true := F.new 50 67 (by kernel_rfl)
      exact ok_pick _ _ _ true rfl (wanted_none rfl) e63 ⟨Rb.refl _, e67⟩
    refine Owed.cons ?_ ?_
    · -- 52: slot 69 := Op.move (Operand.tmp 68)
      intro a w hR F
      have e68 : a.eval (.tmp 68) = .bool true := F.new 51 68 (by kernel_rfl)
      exact ok_move _ rfl (wanted_none rfl) ⟨Rb.refl _, e68⟩
    refine Owed.cons ?_ ?_
    · -- 53: slot 70 := Op.move (Operand.tmp 1)
      intro a w hR F
      have e69 : a.eval (.tmp 69) = .bool true := F.new 52 69 (by kernel_rfl)
      have e1 : a.eval (.tmp 1) = .int .u64 (n) := F.old 1 (by kernel_rfl)
      exact ok_move _ rfl (wanted_true (j := 52) (d := 69) rfl (by kernel_rfl) e69) ⟨Rb.refl _, e1⟩
    refine Owed.cons ?_ ?_
    · -- 54: slot 71 := Op.call { callee := Callee.value (Operand.func 18), args := #[Operand.tmp 70], argTypes := #[23] }
      intro a w hR F
      have e69 : a.eval (.tmp 69) = .bool true := F.new 52 69 (by kernel_rfl)
      have e70 : a.eval (.tmp 70) = .int .u64 (n) := F.new 53 70 (by kernel_rfl)
      refine ok_call 18 _ _ #[.int .u64 (n)] rfl (wanted_true (j := 52) (d := 69) rfl (by kernel_rfl) e69) (by simp [e70]) (Try.call18 _ _) ?_
      exact val_call (size_int n w h0 H1.out)
    refine Owed.cons ?_ ?_
    · -- 55: slot 72 := Op.move (Operand.tmp 1)
      intro a w hR F
      have e69 : a.eval (.tmp 69) = .bool true := F.new 52 69 (by kernel_rfl)
      have e1 : a.eval (.tmp 1) = .int .u64 (n) := F.old 1 (by kernel_rfl)
      exact ok_move _ rfl (wanted_true (j := 52) (d := 69) rfl (by kernel_rfl) e69) ⟨Rb.refl _, e1⟩
    refine Owed.cons ?_ ?_
    · -- 56: slot 73 := Op.call { callee := Callee.value (Operand.func 11), args := #[Operand.tmp 72], argTypes := #[23] }
      intro a w hR F
      have e69 : a.eval (.tmp 69) = .bool true := F.new 52 69 (by kernel_rfl)
      have e72 : a.eval (.tmp 72) = .int .u64 (n) := F.new 55 72 (by kernel_rfl)
      refine ok_call 11 _ _ #[.int .u64 (n)] rfl (wanted_true (j := 52) (d := 69) rfl (by kernel_rfl) e69) (by simp [e72]) (Try.call11 _ _) ?_
      exact put_call (refuint_any n w h0 H1.out)
    refine Owed.cons ?_ ?_
    · -- 57: slot 74 := Op.call { callee := Callee.builtin Builtin.len, args := #[Operand.tmp 73], argTypes := #[22] }
      intro a w hR F
      have e69 : a.eval (.tmp 69) = .bool true := F.new 52 69 (by kernel_rfl)
      have e73 : Bs w (a.eval (.tmp 73)) (uintB n.toNat) := F.new 56 73 (by kernel_rfl)
      exact ok_len_bs _ _ 5 Try.underlying22 _ rfl (wanted_true (j := 52) (d := 69) rfl (by kernel_rfl) e69) e73 ⟨Rb.refl _, rfl⟩
    refine Owed.cons ?_ ?_
    · -- 58: slot 75 := Op.binOp BinOp.eql 3 (Operand.tmp 71) (Operand.tmp 74) 3
      intro a w hR F
      have e69 : a.eval (.tmp 69) = .bool true := F.new 52 69 (by kernel_rfl)
      have e71 : a.eval (.tmp 71) = .int .i64 ((sizeN n.toNat : Int)) := F.new 54 71 (by kernel_rfl)
      have e74 : a.eval (.tmp 74) = .int .i64 (((uintB n.toNat).length : Int)) := F.new 57 74 (by kernel_rfl)
      refine ok_bin _ _ _ _ _ rfl (wanted_true (j := 52) (d := 69) rfl (by kernel_rfl) e69) e71 e74 (run_eql_int _ _ _ _ _ _) ⟨Rb.refl _, ?_⟩
      exact congrArg Value.bool (by rw [uintB_length]; simp)
    refine Owed.cons ?_ ?_
    · -- 59: slot 76 := Op.pick (Operand.tmp 69) (Operand.tmp 75) (Operand.const (Value.bool false))
      intro a w hR F
      have e69 : a.eval (.tmp 69) = .bool true := F.new 52 69 (by kernel_rfl)
      have e75 : a.eval (.tmp 75) = .bool true := F.new 58 75 (by kernel_rfl)
      exact ok_pick _ _ _ true rfl (wanted_none rfl) e69 ⟨Rb.refl _, e75⟩
    refine Owed.cons ?_ ?_
    · -- 60: slot 77 := Op.move (Operand.tmp 76)
      intro a w hR F
      have e76 : a.eval (.tmp 76) = .bool true := F.new 59 76 (by kernel_rfl)
      exact ok_move _ rfl (wanted_none rfl) ⟨Rb.refl _, e76⟩
    refine Owed.cons ?_ ?_
    · -- 61: slot 78 := Op.call { callee := Callee.value (Operand.func 19), args := #[], argTypes := #[] }
      intro a w hR F
      have e77 : a.eval (.tmp 77) = .bool true := F.new 60 77 (by kernel_rfl)
      refine ok_call 19 _ _ #[] rfl (wanted_true (j := 60) (d := 77) rfl (by kernel_rfl) e77) (by simp) (Try.call19 _ _) ?_
      exact val_call_below (lives_any w)
    refine Owed.cons ?_ ?_
    · -- 62: slot 79 := Op.pick (Operand.tmp 77) (Operand.tmp 78) (Operand.const (Value.bool false))
      intro a w hR F
      have e77 : a.eval (.tmp 77) = .bool true := F.new 60 77 (by kernel_rfl)
      have e78 : a.eval (.tmp 78) = .bool true := F.new 61 78 (by kernel_rfl)
      exact ok_pick _ _ _ true rfl (wanted_none rfl) e77 ⟨Rb.refl _, e78⟩
    refine Owed.cons ?_ ?_
    · -- 63: slot 6 := Op.assign (Operand.tmp 79)
      intro a w hR F
      have e79 : a.eval (.tmp 79) = .bool true := F.new 62 79 (by kernel_rfl)
      exact ok_assign _ rfl (wanted_none rfl) ⟨Rb.refl _, e79⟩
    exact Owed.nil
  case fin =>
    intro y w2 hR hy
    have e63 : y 63 = .bool true := hy 63 _ rfl
    have HR := Lib.hid hR
    clear hy hR
    simp only [putAll, Act.put, List.setIfInBounds_toArray, List.set_cons_zero, List.set_cons_succ]
    go_wp2
    go_ret
    exact ⟨congrArg Ending.returned e63, HR.out⟩
end Go.Proofs.Ytkngemckhbgbjaa
