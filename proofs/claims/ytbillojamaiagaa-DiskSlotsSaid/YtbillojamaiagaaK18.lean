/-
  Layer 3: the walk of DiskSlots.
-/
import Derived.Test.YtbillojamaiagaaK17
namespace Go.Proofs.Ytbillojamaiagaa
open Go.ChangeShapes Go.WideShapes Go.ChangeAt Go.RowKit By Reg
set_option linter.unusedVariables false

theorem Bs.cutN {w : World} {ao : Option Addr} {n cap m : Nat} {xs : List UInt8} (h : Bs w (.slice ao n cap) xs) (hm : m = min n 200) : Bs w (.slice ao m cap) (xs.take 200) := by
  subst hm; exact Bs.cutv h

set_option maxRecDepth 100000 in
set_option maxHeartbeats 1000000 in
theorem slots_x (n0 : Int) (v1 v2 : Value) (xs ys : List UInt8) (w0 : World) (hx : Bs w0 v1 xs) (hy : Bs w0 v2 ys) (hs : decide (0 ≤ n0 ∧ n0 < 2) = false) :
    Calls Try.prog 6 #[.int .i64 n0, v1, v2] w0 fun e w' => e = .returned (.bool true) ∧ Below w0.heap.size w0 w' := by
  have hx0 := hx
  have hy0 := hy
  obtain ⟨ao1, cap1, rfl, hl1, hm1, -⟩ := hx0
  obtain ⟨ao2, cap2, rfl, hl2, hm2, -⟩ := hy0
  obtain ⟨n1, hn1⟩ : ∃ n1, n1 = min xs.length 200 := ⟨_, rfl⟩
  obtain ⟨n2, hn2⟩ : ∃ n2, n2 = min ys.length 200 := ⟨_, rfl⟩
  have M1 := Lib.hid (show min (xs.length : Int) 200 = (n1 : Int) by omega)
  have M2 := Lib.hid (show min (ys.length : Int) 200 = (n2 : Int) by omega)
  have HX := Lib.hid hx
  have HY := Lib.hid hy
  have HA0 := Lib.hid (Bs.cutN hx hn1)
  have HC0 := Lib.hid (Bs.cutN hy hn2)
  have hA : (xs.take 200).length ≤ 200 := by rw [List.length_take]; omega
  have hC : (ys.take 200).length ≤ 200 := by rw [List.length_take]; omega
  have hi1 : n1 ≤ cap1 := by omega
  have hi2 : n2 ≤ cap2 := by omega
  have HI1 := Lib.hid hi1
  have HI2 := Lib.hid hi2
  generalize xs.take 200 = A at *
  generalize ys.take 200 = C at *
  have HSL := Lib.hid hs
  clear hs
  clear hx hy hn1 hn2
  go_enter Try.func6, Try.ntmps6
  go_upto_region 2 with (fail)
  refine wp_region_specs (R := Rb) (S := [Spec.eq (.slice ao1 xs.length cap1), Spec.eq (.slice ao1 xs.length cap1), Spec.eq (.int .i64 (((xs).length : Int))), Spec.eq (.int .i64 (n1 : Nat)), Spec.eq (.slice ao1 n1 cap1), Spec.eq (.slice ao2 ys.length cap2), Spec.eq (.slice ao2 ys.length cap2), Spec.eq (.int .i64 (((ys).length : Int))), Spec.eq (.int .i64 (n2 : Nat)), Spec.eq (.slice ao2 n2 cap2), Spec.eq (.slice ao1 n1 cap1), Spec.eq (.slice ao2 n2 cap2)]) (n := 1) (size := 74) (by kernel_rfl) Rb.trans (Rb.drew _) rfl (by kernel_rfl) ?owed ?fin
  case owed =>
    refine Owed.cons ?_ ?_
    · -- 0: slot 12 := Op.move (Operand.tmp 1)
      intro a w hR F
      have e1 : a.eval (.tmp 1) = .slice ao1 xs.length cap1 := F.old 1 (by kernel_rfl)
      exact ok_move _ rfl (wanted_none rfl) ⟨Rb.refl _, e1⟩
    refine Owed.cons ?_ ?_
    · -- 1: slot 13 := Op.move (Operand.tmp 1)
      intro a w hR F
      have e1 : a.eval (.tmp 1) = .slice ao1 xs.length cap1 := F.old 1 (by kernel_rfl)
      exact ok_move _ rfl (wanted_none rfl) ⟨Rb.refl _, e1⟩
    refine Owed.cons ?_ ?_
    · -- 2: slot 14 := Op.call { callee := Callee.builtin Builtin.len, args := #[Operand.tmp 13], argTypes := #[32] }
      intro a w hR F
      have e13 : a.eval (.tmp 13) = .slice ao1 xs.length cap1 := F.new 1 13 (by kernel_rfl)
      exact ok_len_bs _ _ 5 Try.underlying32 (xs) rfl (wanted_none rfl) (by rw [e13]; exact HX.out.below hR) ⟨Rb.refl _, rfl⟩
    refine Owed.cons ?_ ?_
    · -- 3: slot 15 := Op.call { callee := Callee.builtin Builtin.min, args := #[Operand.tmp 14, Operand.const (Value.int I
      intro a w hR F
      have e14 : a.eval (.tmp 14) = .int .i64 (((xs).length : Int)) := F.new 2 14 (by kernel_rfl)
      exact ok_minI _ _ _ _ rfl (wanted_none rfl) e14 rfl ⟨Rb.refl _, congrArg (Value.int .i64) (M1.out)⟩
    refine Owed.cons ?_ ?_
    · -- 4: slot 16 := Op.slice 32 (Operand.tmp 12) none (some (Operand.tmp 15)) none
      intro a w hR F
      have e12 : a.eval (.tmp 12) = .slice ao1 xs.length cap1 := F.new 0 12 (by kernel_rfl)
      have e15 : a.eval (.tmp 15) = .int .i64 (n1 : Nat) := F.new 3 15 (by kernel_rfl)
      exact ok_sliceH _ _ rfl (wanted_none rfl) e12 e15 (by omega) ⟨Rb.refl _, rfl⟩
    refine Owed.cons ?_ ?_
    · -- 5: slot 17 := Op.move (Operand.tmp 2)
      intro a w hR F
      have e2 : a.eval (.tmp 2) = .slice ao2 ys.length cap2 := F.old 2 (by kernel_rfl)
      exact ok_move _ rfl (wanted_none rfl) ⟨Rb.refl _, e2⟩
    refine Owed.cons ?_ ?_
    · -- 6: slot 18 := Op.move (Operand.tmp 2)
      intro a w hR F
      have e2 : a.eval (.tmp 2) = .slice ao2 ys.length cap2 := F.old 2 (by kernel_rfl)
      exact ok_move _ rfl (wanted_none rfl) ⟨Rb.refl _, e2⟩
    refine Owed.cons ?_ ?_
    · -- 7: slot 19 := Op.call { callee := Callee.builtin Builtin.len, args := #[Operand.tmp 18], argTypes := #[32] }
      intro a w hR F
      have e18 : a.eval (.tmp 18) = .slice ao2 ys.length cap2 := F.new 6 18 (by kernel_rfl)
      exact ok_len_bs _ _ 5 Try.underlying32 (ys) rfl (wanted_none rfl) (by rw [e18]; exact HY.out.below hR) ⟨Rb.refl _, rfl⟩
    refine Owed.cons ?_ ?_
    · -- 8: slot 20 := Op.call { callee := Callee.builtin Builtin.min, args := #[Operand.tmp 19, Operand.const (Value.int I
      intro a w hR F
      have e19 : a.eval (.tmp 19) = .int .i64 (((ys).length : Int)) := F.new 7 19 (by kernel_rfl)
      exact ok_minI _ _ _ _ rfl (wanted_none rfl) e19 rfl ⟨Rb.refl _, congrArg (Value.int .i64) (M2.out)⟩
    refine Owed.cons ?_ ?_
    · -- 9: slot 21 := Op.slice 32 (Operand.tmp 17) none (some (Operand.tmp 20)) none
      intro a w hR F
      have e17 : a.eval (.tmp 17) = .slice ao2 ys.length cap2 := F.new 5 17 (by kernel_rfl)
      have e20 : a.eval (.tmp 20) = .int .i64 (n2 : Nat) := F.new 8 20 (by kernel_rfl)
      exact ok_sliceH _ _ rfl (wanted_none rfl) e17 e20 (by omega) ⟨Rb.refl _, rfl⟩
    refine Owed.cons ?_ ?_
    · -- 10: slot 1 := Op.assign (Operand.tmp 16)
      intro a w hR F
      have e16 : a.eval (.tmp 16) = .slice ao1 n1 cap1 := F.new 4 16 (by kernel_rfl)
      exact ok_assign _ rfl (wanted_none rfl) ⟨Rb.refl _, e16⟩
    refine Owed.cons ?_ ?_
    · -- 11: slot 2 := Op.assign (Operand.tmp 21)
      intro a w hR F
      have e21 : a.eval (.tmp 21) = .slice ao2 n2 cap2 := F.new 9 21 (by kernel_rfl)
      exact ok_assign _ rfl (wanted_none rfl) ⟨Rb.refl _, e21⟩
    exact Owed.nil
  case fin =>
    intro y w2 hR hy
    have e10 : y 10 = .slice ao1 n1 cap1 := hy 10 _ rfl
    have e11 : y 11 = .slice ao2 n2 cap2 := hy 11 _ rfl
    have HR := Lib.hid hR
    clear hy hR
    simp only [putAll, Act.put, List.setIfInBounds_toArray, List.set_cons_zero, List.set_cons_succ]
    rw [e10, e11]
    clear e10 e11
    have HA := Lib.hid (HA0.out.below HR.out)
    have HC := Lib.hid (HC0.out.below HR.out)
    have HSZ0 := Lib.hid HR.out.size
    clear hi1 hi2
    go_wp2_with fail
    refine (new_any 100 _).mono ?_
    rintro e w3 ⟨rfl, hk, hr⟩
    obtain ⟨b0, hb0⟩ : ∃ b0, b0 = w2.heap.size := ⟨_, rfl⟩
    rw [← hb0] at hk ⊢
    have O0 := Lib.hid (show Own w0.heap.size w0 (mem0 b0) (Dk.new 100) w3 from ⟨hk, Below.trans HR.out (Below.mono hr HR.out.size), fun k h => by rw [mem0_touch h, hb0]; exact HR.out.size, Nat.le_trans HR.out.size hr.size⟩)
    have HE0 := Lib.hid (show (mem0 b0).b = b0 from rfl)
    have HA3 := Lib.hid (HA.out.below hr)
    have HC3 := Lib.hid (HC.out.below hr)
    have HSZ := Lib.hid (show w0.heap.size ≤ b0 by rw [hb0]; exact HR.out.size)
    have hbl : b0 < w3.heap.size := hk.blk.lt
    have HBL := Lib.hid hbl
    clear hk hr hb0 hbl HA HC
    go_wp2_with fail
    have C0 := write_no (mem0 b0) w3 n0 (.slice ao1 n1 cap1) HSL.out
    refine C0.mono ?_
    rintro e w4 ⟨rfl, rfl⟩
    have k0 : (n0 == 0) = false := by have := HSL.out; simp at this ⊢; omega
    have k1 : (n0 == 1) = false := by have := HSL.out; simp at this ⊢; omega
    have k2 : (n0 != 0) = true := by have := HSL.out; simp at this ⊢; omega
    have k3 : (n0 != 1) = true := by have := HSL.out; simp at this ⊢; omega
    clear C0
    go_wp2_with fail
    refine (lives_any _).mono ?_
    rintro e w5 ⟨rfl, hb⟩
    have HB := Lib.hid (O0.out.b.trans (Below.mono hb O0.out.s))
    clear hb k0 k1 k2 k3
    go_wp2
    go_ret
    exact ⟨rfl, HB.out⟩

set_option maxRecDepth 100000 in
set_option maxHeartbeats 1000000 in
theorem slots_0 (v1 v2 : Value) (xs ys : List UInt8) (w0 : World) (hx : Bs w0 v1 xs) (hy : Bs w0 v2 ys) :
    Calls Try.prog 6 #[.int .i64 0, v1, v2] w0 fun e w' => e = .returned (.bool true) ∧ Below w0.heap.size w0 w' := by
  have hx0 := hx
  have hy0 := hy
  obtain ⟨ao1, cap1, rfl, hl1, hm1, -⟩ := hx0
  obtain ⟨ao2, cap2, rfl, hl2, hm2, -⟩ := hy0
  obtain ⟨n1, hn1⟩ : ∃ n1, n1 = min xs.length 200 := ⟨_, rfl⟩
  obtain ⟨n2, hn2⟩ : ∃ n2, n2 = min ys.length 200 := ⟨_, rfl⟩
  have M1 := Lib.hid (show min (xs.length : Int) 200 = (n1 : Int) by omega)
  have M2 := Lib.hid (show min (ys.length : Int) 200 = (n2 : Int) by omega)
  have HX := Lib.hid hx
  have HY := Lib.hid hy
  have HA0 := Lib.hid (Bs.cutN hx hn1)
  have HC0 := Lib.hid (Bs.cutN hy hn2)
  have hA : (xs.take 200).length ≤ 200 := by rw [List.length_take]; omega
  have hC : (ys.take 200).length ≤ 200 := by rw [List.length_take]; omega
  have hi1 : n1 ≤ cap1 := by omega
  have hi2 : n2 ≤ cap2 := by omega
  have HI1 := Lib.hid hi1
  have HI2 := Lib.hid hi2
  generalize xs.take 200 = A at *
  generalize ys.take 200 = C at *
  clear hx hy hn1 hn2
  go_enter Try.func6, Try.ntmps6
  go_upto_region 2 with (fail)
  refine wp_region_specs (R := Rb) (S := [Spec.eq (.slice ao1 xs.length cap1), Spec.eq (.slice ao1 xs.length cap1), Spec.eq (.int .i64 (((xs).length : Int))), Spec.eq (.int .i64 (n1 : Nat)), Spec.eq (.slice ao1 n1 cap1), Spec.eq (.slice ao2 ys.length cap2), Spec.eq (.slice ao2 ys.length cap2), Spec.eq (.int .i64 (((ys).length : Int))), Spec.eq (.int .i64 (n2 : Nat)), Spec.eq (.slice ao2 n2 cap2), Spec.eq (.slice ao1 n1 cap1), Spec.eq (.slice ao2 n2 cap2)]) (n := 1) (size := 74) (by kernel_rfl) Rb.trans (Rb.drew _) rfl (by kernel_rfl) ?owed ?fin
  case owed =>
    refine Owed.cons ?_ ?_
    · -- 0: slot 12 := Op.move (Operand.tmp 1)
      intro a w hR F
      have e1 : a.eval (.tmp 1) = .slice ao1 xs.length cap1 := F.old 1 (by kernel_rfl)
      exact ok_move _ rfl (wanted_none rfl) ⟨Rb.refl _, e1⟩
    refine Owed.cons ?_ ?_
    · -- 1: slot 13 := Op.move (Operand.tmp 1)
      intro a w hR F
      have e1 : a.eval (.tmp 1) = .slice ao1 xs.length cap1 := F.old 1 (by kernel_rfl)
      exact ok_move _ rfl (wanted_none rfl) ⟨Rb.refl _, e1⟩
    refine Owed.cons ?_ ?_
    · -- 2: slot 14 := Op.call { callee := Callee.builtin Builtin.len, args := #[Operand.tmp 13], argTypes := #[32] }
      intro a w hR F
      have e13 : a.eval (.tmp 13) = .slice ao1 xs.length cap1 := F.new 1 13 (by kernel_rfl)
      exact ok_len_bs _ _ 5 Try.underlying32 (xs) rfl (wanted_none rfl) (by rw [e13]; exact HX.out.below hR) ⟨Rb.refl _, rfl⟩
    refine Owed.cons ?_ ?_
    · -- 3: slot 15 := Op.call { callee := Callee.builtin Builtin.min, args := #[Operand.tmp 14, Operand.const (Value.int I
      intro a w hR F
      have e14 : a.eval (.tmp 14) = .int .i64 (((xs).length : Int)) := F.new 2 14 (by kernel_rfl)
      exact ok_minI _ _ _ _ rfl (wanted_none rfl) e14 rfl ⟨Rb.refl _, congrArg (Value.int .i64) (M1.out)⟩
    refine Owed.cons ?_ ?_
    · -- 4: slot 16 := Op.slice 32 (Operand.tmp 12) none (some (Operand.tmp 15)) none
      intro a w hR F
      have e12 : a.eval (.tmp 12) = .slice ao1 xs.length cap1 := F.new 0 12 (by kernel_rfl)
      have e15 : a.eval (.tmp 15) = .int .i64 (n1 : Nat) := F.new 3 15 (by kernel_rfl)
      exact ok_sliceH _ _ rfl (wanted_none rfl) e12 e15 (by omega) ⟨Rb.refl _, rfl⟩
    refine Owed.cons ?_ ?_
    · -- 5: slot 17 := Op.move (Operand.tmp 2)
      intro a w hR F
      have e2 : a.eval (.tmp 2) = .slice ao2 ys.length cap2 := F.old 2 (by kernel_rfl)
      exact ok_move _ rfl (wanted_none rfl) ⟨Rb.refl _, e2⟩
    refine Owed.cons ?_ ?_
    · -- 6: slot 18 := Op.move (Operand.tmp 2)
      intro a w hR F
      have e2 : a.eval (.tmp 2) = .slice ao2 ys.length cap2 := F.old 2 (by kernel_rfl)
      exact ok_move _ rfl (wanted_none rfl) ⟨Rb.refl _, e2⟩
    refine Owed.cons ?_ ?_
    · -- 7: slot 19 := Op.call { callee := Callee.builtin Builtin.len, args := #[Operand.tmp 18], argTypes := #[32] }
      intro a w hR F
      have e18 : a.eval (.tmp 18) = .slice ao2 ys.length cap2 := F.new 6 18 (by kernel_rfl)
      exact ok_len_bs _ _ 5 Try.underlying32 (ys) rfl (wanted_none rfl) (by rw [e18]; exact HY.out.below hR) ⟨Rb.refl _, rfl⟩
    refine Owed.cons ?_ ?_
    · -- 8: slot 20 := Op.call { callee := Callee.builtin Builtin.min, args := #[Operand.tmp 19, Operand.const (Value.int I
      intro a w hR F
      have e19 : a.eval (.tmp 19) = .int .i64 (((ys).length : Int)) := F.new 7 19 (by kernel_rfl)
      exact ok_minI _ _ _ _ rfl (wanted_none rfl) e19 rfl ⟨Rb.refl _, congrArg (Value.int .i64) (M2.out)⟩
    refine Owed.cons ?_ ?_
    · -- 9: slot 21 := Op.slice 32 (Operand.tmp 17) none (some (Operand.tmp 20)) none
      intro a w hR F
      have e17 : a.eval (.tmp 17) = .slice ao2 ys.length cap2 := F.new 5 17 (by kernel_rfl)
      have e20 : a.eval (.tmp 20) = .int .i64 (n2 : Nat) := F.new 8 20 (by kernel_rfl)
      exact ok_sliceH _ _ rfl (wanted_none rfl) e17 e20 (by omega) ⟨Rb.refl _, rfl⟩
    refine Owed.cons ?_ ?_
    · -- 10: slot 1 := Op.assign (Operand.tmp 16)
      intro a w hR F
      have e16 : a.eval (.tmp 16) = .slice ao1 n1 cap1 := F.new 4 16 (by kernel_rfl)
      exact ok_assign _ rfl (wanted_none rfl) ⟨Rb.refl _, e16⟩
    refine Owed.cons ?_ ?_
    · -- 11: slot 2 := Op.assign (Operand.tmp 21)
      intro a w hR F
      have e21 : a.eval (.tmp 21) = .slice ao2 n2 cap2 := F.new 9 21 (by kernel_rfl)
      exact ok_assign _ rfl (wanted_none rfl) ⟨Rb.refl _, e21⟩
    exact Owed.nil
  case fin =>
    intro y w2 hR hy
    have e10 : y 10 = .slice ao1 n1 cap1 := hy 10 _ rfl
    have e11 : y 11 = .slice ao2 n2 cap2 := hy 11 _ rfl
    have HR := Lib.hid hR
    clear hy hR
    simp only [putAll, Act.put, List.setIfInBounds_toArray, List.set_cons_zero, List.set_cons_succ]
    rw [e10, e11]
    clear e10 e11
    have HA := Lib.hid (HA0.out.below HR.out)
    have HC := Lib.hid (HC0.out.below HR.out)
    have HSZ0 := Lib.hid HR.out.size
    clear hi1 hi2
    go_wp2_with fail
    refine (new_any 100 _).mono ?_
    rintro e w3 ⟨rfl, hk, hr⟩
    obtain ⟨b0, hb0⟩ : ∃ b0, b0 = w2.heap.size := ⟨_, rfl⟩
    rw [← hb0] at hk ⊢
    have O0 := Lib.hid (show Own w0.heap.size w0 (mem0 b0) (Dk.new 100) w3 from ⟨hk, Below.trans HR.out (Below.mono hr HR.out.size), fun k h => by rw [mem0_touch h, hb0]; exact HR.out.size, Nat.le_trans HR.out.size hr.size⟩)
    have HE0 := Lib.hid (show (mem0 b0).b = b0 from rfl)
    have HA3 := Lib.hid (HA.out.below hr)
    have HC3 := Lib.hid (HC.out.below hr)
    have HSZ := Lib.hid (show w0.heap.size ≤ b0 by rw [hb0]; exact HR.out.size)
    have hbl : b0 < w3.heap.size := hk.blk.lt
    have HBL := Lib.hid hbl
    clear hk hr hb0 hbl HA HC
    go_wp2_with fail
    refine (write0_at (xs := A) HE0.out O0.out.k HA3.out (by omega)).mono ?_
    rintro e w4 ⟨rfl, ht⟩
    obtain ⟨m1, e1, o1⟩ := O0.out.turned ht
    have O1 := Lib.hid o1
    have HE1 := Lib.hid (e1.trans HE0.out)
    clear ht o1 e1 O0 HE0 HA3 HC3
    go_wp2_with fail
    refine (sync_at HE1.out O1.out.k).mono ?_
    rintro e w5 ⟨rfl, ht⟩
    obtain ⟨m2, e2, o2⟩ := O1.out.turned ht
    have O2 := Lib.hid o2
    have HE2 := Lib.hid (e2.trans HE1.out)
    have HC5 := Lib.hid (HC0.out.below O2.out.b)
    clear ht o2 e2 HE1
    go_wp2_with fail
    refine (write0_at HE2.out O2.out.k HC5.out (by omega)).mono ?_
    rintro e w6 ⟨rfl, ht⟩
    obtain ⟨m3, e3, o3⟩ := O2.out.turned ht
    have O3 := Lib.hid o3
    have HE3 := Lib.hid (e3.trans HE2.out)
    clear ht o3 e3 HE2 O1
    go_wp2_with fail
    refine (show Calls Try.prog _ _ _ (Put w6 5 C) from slot0_at HE3.out O3.out.k).mono ?_
    rintro e w7 ⟨g, cap, rfl, h2, h3⟩
    have hcv : (convert 32 9 (.slice (some ⟨g, 0, none⟩) C.length cap)).run Try.prog w7 = .ok (.string (str C)) w7 := run_convert_Bs (Bs.of_owns (xs := C) h2) 32 5 9 Try.underlying32 Try.underlying5 Try.underlying9
    have O4 := Lib.hid (O3.out.rb h3)
    clear h2 h3 O2 O3
    go_wp2_with fail
    clear hcv
    refine (crash_at (xs.length : Int) HE3.out O4.out.k).mono ?_
    rintro e w8 ⟨rfl, ht⟩
    obtain ⟨m5, e5, o5⟩ := O4.out.turned ht
    have HE := Lib.hid (e5.trans HE3.out)
    have HB := Lib.hid o5.b
    have HK := Lib.hid o5.k
    have HSZ := Lib.hid o5.s
    have HA := Lib.hid (HA0.out.below o5.b)
    have HC := Lib.hid (HC0.out.below o5.b)
    clear ht o5 e5 HE3 O4
    go_upto_region 10 with (fail)
    refine wp_region_specs (R := Rb) (S := [Spec.eq (strV (C)), Spec.eq (.slice ao2 n2 cap2), Spec.eq (strV (C)), Spec.eq (.bool true), Spec.eq (.bool true), Spec.eq (.pointer (some ⟨b0, 0, none⟩)), Spec.eq (.int .i64 (0)), bsSpec (A), Spec.eq (strV (A)), Spec.eq (.slice ao1 n1 cap1), Spec.eq (strV (A)), Spec.eq (.bool true), Spec.eq (.bool true), Spec.eq (.bool true), Spec.eq (.pointer (some ⟨b0, 0, none⟩)), Spec.eq (.int .i64 (0)), Spec.eq (.int .i64 (1)), bsSpec (([] : List UInt8)), Spec.eq (.int .i64 (((([] : List UInt8)).length : Int))), Spec.eq (.bool true), Spec.eq (.bool true), Spec.eq (.bool true), Spec.eq (.bool true), Spec.eq (.bool true), Spec.eq (.bool true)]) (n := 1) (size := 74) (by kernel_rfl) Rb.trans (Rb.drew _) rfl (by kernel_rfl) ?owed ?fin
    case owed =>
      refine Owed.cons ?_ ?_
      · -- 0: slot 50 := Op.move (Operand.tmp 9)
        intro a w hR F
        have e9 : a.eval (.tmp 9) = strV (C) := F.old 9 (by kernel_rfl)
        exact ok_move _ rfl (wanted_none rfl) ⟨Rb.refl _, e9⟩
      refine Owed.cons ?_ ?_
      · -- 1: slot 51 := Op.move (Operand.tmp 2)
        intro a w hR F
        have e2 : a.eval (.tmp 2) = .slice ao2 n2 cap2 := F.old 2 (by kernel_rfl)
        exact ok_move _ rfl (wanted_none rfl) ⟨Rb.refl _, e2⟩
      refine Owed.cons ?_ ?_
      · -- 2: slot 52 := Op.convert 32 9 (Operand.tmp 51)
        intro a w hR F
        have e51 : a.eval (.tmp 51) = .slice ao2 n2 cap2 := F.new 1 51 (by kernel_rfl)
        exact ok_conv _ _ _ rfl (wanted_none rfl) (run_convert_Bs (xs := C) (by rw [e51]; exact HC.out.below hR) 32 5 9 Try.underlying32 Try.underlying5 Try.underlying9) ⟨Rb.refl _, rfl⟩
      refine Owed.cons ?_ ?_
      · -- 3: slot 53 := Op.binOp BinOp.eql 9 (Operand.tmp 50) (Operand.tmp 52) 9
        intro a w hR F
        have e50 : a.eval (.tmp 50) = strV (C) := F.new 0 50 (by kernel_rfl)
        have e52 : a.eval (.tmp 52) = strV (C) := F.new 2 52 (by kernel_rfl)
        refine ok_bin _ _ _ _ _ rfl (wanted_none rfl) e50 e52 (run_eql_strV _ _ _ _ _) ⟨Rb.refl _, ?_⟩
        exact congrArg Value.bool (by simp)
      refine Owed.cons ?_ ?_
      · -- 4: slot 54 := Op.move (Operand.tmp 53)
        intro a w hR F
        have e53 : a.eval (.tmp 53) = .bool true := F.new 3 53 (by kernel_rfl)
        exact ok_move _ rfl (wanted_none rfl) ⟨Rb.refl _, e53⟩
      refine Owed.cons ?_ ?_
      · -- 5: slot 55 := Op.move (Operand.tmp 8)
        intro a w hR F
        have e54 : a.eval (.tmp 54) = .bool true := F.new 4 54 (by kernel_rfl)
        have e8 : a.eval (.tmp 8) = .pointer (some ⟨b0, 0, none⟩) := F.old 8 (by kernel_rfl)
        exact ok_move _ rfl (wanted_true (j := 4) (d := 54) rfl (by kernel_rfl) e54) ⟨Rb.refl _, e8⟩
      refine Owed.cons ?_ ?_
      · -- 6: slot 56 := Op.move (Operand.tmp 0)
        intro a w hR F
        have e54 : a.eval (.tmp 54) = .bool true := F.new 4 54 (by kernel_rfl)
        have e0 : a.eval (.tmp 0) = .int .i64 (0) := F.old 0 (by kernel_rfl)
        exact ok_move _ rfl (wanted_true (j := 4) (d := 54) rfl (by kernel_rfl) e54) ⟨Rb.refl _, e0⟩
      refine Owed.cons ?_ ?_
      · -- 7: slot 57 := Op.call { callee := Callee.value (Operand.func 24), args := #[Operand.tmp 55, Operand.tmp 56], argTy
        intro a w hR F
        have e54 : a.eval (.tmp 54) = .bool true := F.new 4 54 (by kernel_rfl)
        have e55 : a.eval (.tmp 55) = .pointer (some ⟨b0, 0, none⟩) := F.new 5 55 (by kernel_rfl)
        have e56 : a.eval (.tmp 56) = .int .i64 (0) := F.new 6 56 (by kernel_rfl)
        refine ok_call 24 _ _ #[.pointer (some ⟨b0, 0, none⟩), .int .i64 (0)] rfl (wanted_true (j := 4) (d := 54) rfl (by kernel_rfl) e54) (by simp [e55, e56]) (Try.call24 _ _) ?_
        exact put_call (slot0_at HE.out (HK.out.rb hR))
      refine Owed.cons ?_ ?_
      · -- 8: slot 58 := Op.convert 32 9 (Operand.tmp 57)
        intro a w hR F
        have e54 : a.eval (.tmp 54) = .bool true := F.new 4 54 (by kernel_rfl)
        have e57 : Bs w (a.eval (.tmp 57)) (A) := F.new 7 57 (by kernel_rfl)
        exact ok_conv _ _ _ rfl (wanted_true (j := 4) (d := 54) rfl (by kernel_rfl) e54) (run_convert_Bs e57 32 5 9 Try.underlying32 Try.underlying5 Try.underlying9) ⟨Rb.refl _, rfl⟩
      refine Owed.cons ?_ ?_
      · -- 9: slot 59 := Op.move (Operand.tmp 1)
        intro a w hR F
        have e54 : a.eval (.tmp 54) = .bool true := F.new 4 54 (by kernel_rfl)
        have e1 : a.eval (.tmp 1) = .slice ao1 n1 cap1 := F.old 1 (by kernel_rfl)
        exact ok_move _ rfl (wanted_true (j := 4) (d := 54) rfl (by kernel_rfl) e54) ⟨Rb.refl _, e1⟩
      refine Owed.cons ?_ ?_
      · -- 10: slot 60 := Op.convert 32 9 (Operand.tmp 59)
        intro a w hR F
        have e54 : a.eval (.tmp 54) = .bool true := F.new 4 54 (by kernel_rfl)
        have e59 : a.eval (.tmp 59) = .slice ao1 n1 cap1 := F.new 9 59 (by kernel_rfl)
        exact ok_conv _ _ _ rfl (wanted_true (j := 4) (d := 54) rfl (by kernel_rfl) e54) (run_convert_Bs (xs := A) (by rw [e59]; exact HA.out.below hR) 32 5 9 Try.underlying32 Try.underlying5 Try.underlying9) ⟨Rb.refl _, rfl⟩
      refine Owed.cons ?_ ?_
      · -- 11: slot 61 := Op.binOp BinOp.eql 9 (Operand.tmp 58) (Operand.tmp 60) 9
        intro a w hR F
        have e54 : a.eval (.tmp 54) = .bool true := F.new 4 54 (by kernel_rfl)
        have e58 : a.eval (.tmp 58) = strV (A) := F.new 8 58 (by kernel_rfl)
        have e60 : a.eval (.tmp 60) = strV (A) := F.new 10 60 (by kernel_rfl)
        refine ok_bin _ _ _ _ _ rfl (wanted_true (j := 4) (d := 54) rfl (by kernel_rfl) e54) e58 e60 (run_eql_strV _ _ _ _ _) ⟨Rb.refl _, ?_⟩
        exact congrArg Value.bool (by simp)
      refine Owed.cons ?_ ?_
      · -- 12: slot 62 := Op.pick (Operand.tmp 54) (Operand.tmp 61) (Operand.const (Value.bool false))
        intro a w hR F
        have e54 : a.eval (.tmp 54) = .bool true := F.new 4 54 (by kernel_rfl)
        have e61 : a.eval (.tmp 61) = .bool true := F.new 11 61 (by kernel_rfl)
        exact ok_pick _ _ _ true rfl (wanted_none rfl) e54 ⟨Rb.refl _, e61⟩
      refine Owed.cons ?_ ?_
      · -- 13: slot 63 := Op.move (Operand.tmp 62)
        intro a w hR F
        have e62 : a.eval (.tmp 62) = .bool true := F.new 12 62 (by kernel_rfl)
        exact ok_move _ rfl (wanted_none rfl) ⟨Rb.refl _, e62⟩
      refine Owed.cons ?_ ?_
      · -- 14: slot 64 := Op.move (Operand.tmp 8)
        intro a w hR F
        have e63 : a.eval (.tmp 63) = .bool true := F.new 13 63 (by kernel_rfl)
        have e8 : a.eval (.tmp 8) = .pointer (some ⟨b0, 0, none⟩) := F.old 8 (by kernel_rfl)
        exact ok_move _ rfl (wanted_true (j := 13) (d := 63) rfl (by kernel_rfl) e63) ⟨Rb.refl _, e8⟩
      refine Owed.cons ?_ ?_
      · -- 15: slot 65 := Op.move (Operand.tmp 0)
        intro a w hR F
        have e63 : a.eval (.tmp 63) = .bool true := F.new 13 63 (by kernel_rfl)
        have e0 : a.eval (.tmp 0) = .int .i64 (0) := F.old 0 (by kernel_rfl)
        exact ok_move _ rfl (wanted_true (j := 13) (d := 63) rfl (by kernel_rfl) e63) ⟨Rb.refl _, e0⟩
      refine Owed.cons ?_ ?_
      · -- 16: slot 66 := Op.binOp BinOp.sub 3 (Operand.const (Value.int IntKind.i64 1)) (Operand.tmp 65) 3
        intro a w hR F
        have e63 : a.eval (.tmp 63) = .bool true := F.new 13 63 (by kernel_rfl)
        have e65 : a.eval (.tmp 65) = .int .i64 (0) := F.new 15 65 (by kernel_rfl)
        exact ok_bin _ _ _ _ _ rfl (wanted_true (j := 13) (d := 63) rfl (by kernel_rfl) e63) rfl e65 (run_sub_i64 _ _ _ _ _ (by decide) (by decide)) ⟨Rb.refl _, rfl⟩
      refine Owed.cons ?_ ?_
      · -- 17: slot 67 := Op.call { callee := Callee.value (Operand.func 24), args := #[Operand.tmp 64, Operand.tmp 66], argTy
        intro a w hR F
        have e63 : a.eval (.tmp 63) = .bool true := F.new 13 63 (by kernel_rfl)
        have e64 : a.eval (.tmp 64) = .pointer (some ⟨b0, 0, none⟩) := F.new 14 64 (by kernel_rfl)
        have e66 : a.eval (.tmp 66) = .int .i64 (1) := F.new 16 66 (by kernel_rfl)
        refine ok_call 24 _ _ #[.pointer (some ⟨b0, 0, none⟩), .int .i64 (1)] rfl (wanted_true (j := 13) (d := 63) rfl (by kernel_rfl) e63) (by simp [e64, e66]) (Try.call24 _ _) ?_
        exact put_call (slot1_at HE.out (HK.out.rb hR))
      refine Owed.cons ?_ ?_
      · -- 18: slot 68 := Op.call { callee := Callee.builtin Builtin.len, args := #[Operand.tmp 67], argTypes := #[32] }
        intro a w hR F
        have e63 : a.eval (.tmp 63) = .bool true := F.new 13 63 (by kernel_rfl)
        have e67 : Bs w (a.eval (.tmp 67)) (([] : List UInt8)) := F.new 17 67 (by kernel_rfl)
        exact ok_len_bs _ _ 5 Try.underlying32 _ rfl (wanted_true (j := 13) (d := 63) rfl (by kernel_rfl) e63) e67 ⟨Rb.refl _, rfl⟩
      refine Owed.cons ?_ ?_
      · -- 19: slot 69 := Op.binOp BinOp.eql 3 (Operand.tmp 68) (Operand.const (Value.int IntKind.i64 0)) 3
        intro a w hR F
        have e63 : a.eval (.tmp 63) = .bool true := F.new 13 63 (by kernel_rfl)
        have e68 : a.eval (.tmp 68) = .int .i64 (((([] : List UInt8)).length : Int)) := F.new 18 68 (by kernel_rfl)
        refine ok_bin _ _ _ _ _ rfl (wanted_true (j := 13) (d := 63) rfl (by kernel_rfl) e63) e68 rfl (run_eql_int _ _ _ _ _ _) ⟨Rb.refl _, ?_⟩
        exact congrArg Value.bool (by simp)
      refine Owed.cons ?_ ?_
      · -- 20: slot 70 := Op.pick (Operand.tmp 63) (Operand.tmp 69) (Operand.const (Value.bool false))
        intro a w hR F
        have e63 : a.eval (.tmp 63) = .bool true := F.new 13 63 (by kernel_rfl)
        have e69 : a.eval (.tmp 69) = .bool true := F.new 19 69 (by kernel_rfl)
        exact ok_pick _ _ _ true rfl (wanted_none rfl) e63 ⟨Rb.refl _, e69⟩
      refine Owed.cons ?_ ?_
      · -- 21: slot 71 := Op.move (Operand.tmp 70)
        intro a w hR F
        have e70 : a.eval (.tmp 70) = .bool true := F.new 20 70 (by kernel_rfl)
        exact ok_move _ rfl (wanted_none rfl) ⟨Rb.refl _, e70⟩
      refine Owed.cons ?_ ?_
      · -- 22: slot 72 := Op.call { callee := Callee.value (Operand.func 13), args := #[], argTypes := #[] }
        intro a w hR F
        have e71 : a.eval (.tmp 71) = .bool true := F.new 21 71 (by kernel_rfl)
        refine ok_call 13 _ _ #[] rfl (wanted_true (j := 21) (d := 71) rfl (by kernel_rfl) e71) (by simp) (Try.call13 _ _) ?_
        exact val_call_rb (lives_any w)
      refine Owed.cons ?_ ?_
      · -- 23: slot 73 := Op.pick (Operand.tmp 71) (Operand.tmp 72) (Operand.const (Value.bool false))
        intro a w hR F
        have e71 : a.eval (.tmp 71) = .bool true := F.new 21 71 (by kernel_rfl)
        have e72 : a.eval (.tmp 72) = .bool true := F.new 22 72 (by kernel_rfl)
        exact ok_pick _ _ _ true rfl (wanted_none rfl) e71 ⟨Rb.refl _, e72⟩
      refine Owed.cons ?_ ?_
      · -- 24: slot 6 := Op.assign (Operand.tmp 73)
        intro a w hR F
        have e73 : a.eval (.tmp 73) = .bool true := F.new 23 73 (by kernel_rfl)
        exact ok_assign _ rfl (wanted_none rfl) ⟨Rb.refl _, e73⟩
      exact Owed.nil
    case fin =>
      intro y w2 hR hy
      have e24 : y 24 = .bool true := hy 24 _ rfl
      have HR := Lib.hid hR
      clear hy hR
      simp only [putAll, Act.put, List.setIfInBounds_toArray, List.set_cons_zero, List.set_cons_succ]
      rw [e24]
      clear e24
      go_wp2
      go_ret
      exact ⟨rfl, HB.out.trans (Below.mono HR.out (by have := HSZ.out; omega))⟩

set_option maxRecDepth 100000 in
set_option maxHeartbeats 1000000 in
theorem slots_1 (v1 v2 : Value) (xs ys : List UInt8) (w0 : World) (hx : Bs w0 v1 xs) (hy : Bs w0 v2 ys) :
    Calls Try.prog 6 #[.int .i64 1, v1, v2] w0 fun e w' => e = .returned (.bool true) ∧ Below w0.heap.size w0 w' := by
  have hx0 := hx
  have hy0 := hy
  obtain ⟨ao1, cap1, rfl, hl1, hm1, -⟩ := hx0
  obtain ⟨ao2, cap2, rfl, hl2, hm2, -⟩ := hy0
  obtain ⟨n1, hn1⟩ : ∃ n1, n1 = min xs.length 200 := ⟨_, rfl⟩
  obtain ⟨n2, hn2⟩ : ∃ n2, n2 = min ys.length 200 := ⟨_, rfl⟩
  have M1 := Lib.hid (show min (xs.length : Int) 200 = (n1 : Int) by omega)
  have M2 := Lib.hid (show min (ys.length : Int) 200 = (n2 : Int) by omega)
  have HX := Lib.hid hx
  have HY := Lib.hid hy
  have HA0 := Lib.hid (Bs.cutN hx hn1)
  have HC0 := Lib.hid (Bs.cutN hy hn2)
  have hA : (xs.take 200).length ≤ 200 := by rw [List.length_take]; omega
  have hC : (ys.take 200).length ≤ 200 := by rw [List.length_take]; omega
  have hi1 : n1 ≤ cap1 := by omega
  have hi2 : n2 ≤ cap2 := by omega
  have HI1 := Lib.hid hi1
  have HI2 := Lib.hid hi2
  generalize xs.take 200 = A at *
  generalize ys.take 200 = C at *
  clear hx hy hn1 hn2
  go_enter Try.func6, Try.ntmps6
  go_upto_region 2 with (fail)
  refine wp_region_specs (R := Rb) (S := [Spec.eq (.slice ao1 xs.length cap1), Spec.eq (.slice ao1 xs.length cap1), Spec.eq (.int .i64 (((xs).length : Int))), Spec.eq (.int .i64 (n1 : Nat)), Spec.eq (.slice ao1 n1 cap1), Spec.eq (.slice ao2 ys.length cap2), Spec.eq (.slice ao2 ys.length cap2), Spec.eq (.int .i64 (((ys).length : Int))), Spec.eq (.int .i64 (n2 : Nat)), Spec.eq (.slice ao2 n2 cap2), Spec.eq (.slice ao1 n1 cap1), Spec.eq (.slice ao2 n2 cap2)]) (n := 1) (size := 74) (by kernel_rfl) Rb.trans (Rb.drew _) rfl (by kernel_rfl) ?owed ?fin
  case owed =>
    refine Owed.cons ?_ ?_
    · -- 0: slot 12 := Op.move (Operand.tmp 1)
      intro a w hR F
      have e1 : a.eval (.tmp 1) = .slice ao1 xs.length cap1 := F.old 1 (by kernel_rfl)
      exact ok_move _ rfl (wanted_none rfl) ⟨Rb.refl _, e1⟩
    refine Owed.cons ?_ ?_
    · -- 1: slot 13 := Op.move (Operand.tmp 1)
      intro a w hR F
      have e1 : a.eval (.tmp 1) = .slice ao1 xs.length cap1 := F.old 1 (by kernel_rfl)
      exact ok_move _ rfl (wanted_none rfl) ⟨Rb.refl _, e1⟩
    refine Owed.cons ?_ ?_
    · -- 2: slot 14 := Op.call { callee := Callee.builtin Builtin.len, args := #[Operand.tmp 13], argTypes := #[32] }
      intro a w hR F
      have e13 : a.eval (.tmp 13) = .slice ao1 xs.length cap1 := F.new 1 13 (by kernel_rfl)
      exact ok_len_bs _ _ 5 Try.underlying32 (xs) rfl (wanted_none rfl) (by rw [e13]; exact HX.out.below hR) ⟨Rb.refl _, rfl⟩
    refine Owed.cons ?_ ?_
    · -- 3: slot 15 := Op.call { callee := Callee.builtin Builtin.min, args := #[Operand.tmp 14, Operand.const (Value.int I
      intro a w hR F
      have e14 : a.eval (.tmp 14) = .int .i64 (((xs).length : Int)) := F.new 2 14 (by kernel_rfl)
      exact ok_minI _ _ _ _ rfl (wanted_none rfl) e14 rfl ⟨Rb.refl _, congrArg (Value.int .i64) (M1.out)⟩
    refine Owed.cons ?_ ?_
    · -- 4: slot 16 := Op.slice 32 (Operand.tmp 12) none (some (Operand.tmp 15)) none
      intro a w hR F
      have e12 : a.eval (.tmp 12) = .slice ao1 xs.length cap1 := F.new 0 12 (by kernel_rfl)
      have e15 : a.eval (.tmp 15) = .int .i64 (n1 : Nat) := F.new 3 15 (by kernel_rfl)
      exact ok_sliceH _ _ rfl (wanted_none rfl) e12 e15 (by omega) ⟨Rb.refl _, rfl⟩
    refine Owed.cons ?_ ?_
    · -- 5: slot 17 := Op.move (Operand.tmp 2)
      intro a w hR F
      have e2 : a.eval (.tmp 2) = .slice ao2 ys.length cap2 := F.old 2 (by kernel_rfl)
      exact ok_move _ rfl (wanted_none rfl) ⟨Rb.refl _, e2⟩
    refine Owed.cons ?_ ?_
    · -- 6: slot 18 := Op.move (Operand.tmp 2)
      intro a w hR F
      have e2 : a.eval (.tmp 2) = .slice ao2 ys.length cap2 := F.old 2 (by kernel_rfl)
      exact ok_move _ rfl (wanted_none rfl) ⟨Rb.refl _, e2⟩
    refine Owed.cons ?_ ?_
    · -- 7: slot 19 := Op.call { callee := Callee.builtin Builtin.len, args := #[Operand.tmp 18], argTypes := #[32] }
      intro a w hR F
      have e18 : a.eval (.tmp 18) = .slice ao2 ys.length cap2 := F.new 6 18 (by kernel_rfl)
      exact ok_len_bs _ _ 5 Try.underlying32 (ys) rfl (wanted_none rfl) (by rw [e18]; exact HY.out.below hR) ⟨Rb.refl _, rfl⟩
    refine Owed.cons ?_ ?_
    · -- 8: slot 20 := Op.call { callee := Callee.builtin Builtin.min, args := #[Operand.tmp 19, Operand.const (Value.int I
      intro a w hR F
      have e19 : a.eval (.tmp 19) = .int .i64 (((ys).length : Int)) := F.new 7 19 (by kernel_rfl)
      exact ok_minI _ _ _ _ rfl (wanted_none rfl) e19 rfl ⟨Rb.refl _, congrArg (Value.int .i64) (M2.out)⟩
    refine Owed.cons ?_ ?_
    · -- 9: slot 21 := Op.slice 32 (Operand.tmp 17) none (some (Operand.tmp 20)) none
      intro a w hR F
      have e17 : a.eval (.tmp 17) = .slice ao2 ys.length cap2 := F.new 5 17 (by kernel_rfl)
      have e20 : a.eval (.tmp 20) = .int .i64 (n2 : Nat) := F.new 8 20 (by kernel_rfl)
      exact ok_sliceH _ _ rfl (wanted_none rfl) e17 e20 (by omega) ⟨Rb.refl _, rfl⟩
    refine Owed.cons ?_ ?_
    · -- 10: slot 1 := Op.assign (Operand.tmp 16)
      intro a w hR F
      have e16 : a.eval (.tmp 16) = .slice ao1 n1 cap1 := F.new 4 16 (by kernel_rfl)
      exact ok_assign _ rfl (wanted_none rfl) ⟨Rb.refl _, e16⟩
    refine Owed.cons ?_ ?_
    · -- 11: slot 2 := Op.assign (Operand.tmp 21)
      intro a w hR F
      have e21 : a.eval (.tmp 21) = .slice ao2 n2 cap2 := F.new 9 21 (by kernel_rfl)
      exact ok_assign _ rfl (wanted_none rfl) ⟨Rb.refl _, e21⟩
    exact Owed.nil
  case fin =>
    intro y w2 hR hy
    have e10 : y 10 = .slice ao1 n1 cap1 := hy 10 _ rfl
    have e11 : y 11 = .slice ao2 n2 cap2 := hy 11 _ rfl
    have HR := Lib.hid hR
    clear hy hR
    simp only [putAll, Act.put, List.setIfInBounds_toArray, List.set_cons_zero, List.set_cons_succ]
    rw [e10, e11]
    clear e10 e11
    have HA := Lib.hid (HA0.out.below HR.out)
    have HC := Lib.hid (HC0.out.below HR.out)
    have HSZ0 := Lib.hid HR.out.size
    clear hi1 hi2
    go_wp2_with fail
    refine (new_any 100 _).mono ?_
    rintro e w3 ⟨rfl, hk, hr⟩
    obtain ⟨b0, hb0⟩ : ∃ b0, b0 = w2.heap.size := ⟨_, rfl⟩
    rw [← hb0] at hk ⊢
    have O0 := Lib.hid (show Own w0.heap.size w0 (mem0 b0) (Dk.new 100) w3 from ⟨hk, Below.trans HR.out (Below.mono hr HR.out.size), fun k h => by rw [mem0_touch h, hb0]; exact HR.out.size, Nat.le_trans HR.out.size hr.size⟩)
    have HE0 := Lib.hid (show (mem0 b0).b = b0 from rfl)
    have HA3 := Lib.hid (HA.out.below hr)
    have HC3 := Lib.hid (HC.out.below hr)
    have HSZ := Lib.hid (show w0.heap.size ≤ b0 by rw [hb0]; exact HR.out.size)
    have hbl : b0 < w3.heap.size := hk.blk.lt
    have HBL := Lib.hid hbl
    clear hk hr hb0 hbl HA HC
    go_wp2_with fail
    refine (write1_at (xs := A) HE0.out O0.out.k HA3.out (by omega)).mono ?_
    rintro e w4 ⟨rfl, ht⟩
    obtain ⟨m1, e1, o1⟩ := O0.out.turned ht
    have O1 := Lib.hid o1
    have HE1 := Lib.hid (e1.trans HE0.out)
    clear ht o1 e1 O0 HE0 HA3 HC3
    go_wp2_with fail
    refine (sync_at HE1.out O1.out.k).mono ?_
    rintro e w5 ⟨rfl, ht⟩
    obtain ⟨m2, e2, o2⟩ := O1.out.turned ht
    have O2 := Lib.hid o2
    have HE2 := Lib.hid (e2.trans HE1.out)
    have HC5 := Lib.hid (HC0.out.below O2.out.b)
    clear ht o2 e2 HE1
    go_wp2_with fail
    refine (write1_at HE2.out O2.out.k HC5.out (by omega)).mono ?_
    rintro e w6 ⟨rfl, ht⟩
    obtain ⟨m3, e3, o3⟩ := O2.out.turned ht
    have O3 := Lib.hid o3
    have HE3 := Lib.hid (e3.trans HE2.out)
    clear ht o3 e3 HE2 O1
    go_wp2_with fail
    refine (show Calls Try.prog _ _ _ (Put w6 5 C) from slot1_at HE3.out O3.out.k).mono ?_
    rintro e w7 ⟨g, cap, rfl, h2, h3⟩
    have hcv : (convert 32 9 (.slice (some ⟨g, 0, none⟩) C.length cap)).run Try.prog w7 = .ok (.string (str C)) w7 := run_convert_Bs (Bs.of_owns (xs := C) h2) 32 5 9 Try.underlying32 Try.underlying5 Try.underlying9
    have O4 := Lib.hid (O3.out.rb h3)
    clear h2 h3 O2 O3
    go_wp2_with fail
    clear hcv
    refine (crash_at (xs.length : Int) HE3.out O4.out.k).mono ?_
    rintro e w8 ⟨rfl, ht⟩
    obtain ⟨m5, e5, o5⟩ := O4.out.turned ht
    have HE := Lib.hid (e5.trans HE3.out)
    have HB := Lib.hid o5.b
    have HK := Lib.hid o5.k
    have HSZ := Lib.hid o5.s
    have HA := Lib.hid (HA0.out.below o5.b)
    have HC := Lib.hid (HC0.out.below o5.b)
    clear ht o5 e5 HE3 O4
    go_upto_region 10 with (fail)
    refine wp_region_specs (R := Rb) (S := [Spec.eq (strV (C)), Spec.eq (.slice ao2 n2 cap2), Spec.eq (strV (C)), Spec.eq (.bool true), Spec.eq (.bool true), Spec.eq (.pointer (some ⟨b0, 0, none⟩)), Spec.eq (.int .i64 (1)), bsSpec (A), Spec.eq (strV (A)), Spec.eq (.slice ao1 n1 cap1), Spec.eq (strV (A)), Spec.eq (.bool true), Spec.eq (.bool true), Spec.eq (.bool true), Spec.eq (.pointer (some ⟨b0, 0, none⟩)), Spec.eq (.int .i64 (1)), Spec.eq (.int .i64 (0)), bsSpec (([] : List UInt8)), Spec.eq (.int .i64 (((([] : List UInt8)).length : Int))), Spec.eq (.bool true), Spec.eq (.bool true), Spec.eq (.bool true), Spec.eq (.bool true), Spec.eq (.bool true), Spec.eq (.bool true)]) (n := 1) (size := 74) (by kernel_rfl) Rb.trans (Rb.drew _) rfl (by kernel_rfl) ?owed ?fin
    case owed =>
      refine Owed.cons ?_ ?_
      · -- 0: slot 50 := Op.move (Operand.tmp 9)
        intro a w hR F
        have e9 : a.eval (.tmp 9) = strV (C) := F.old 9 (by kernel_rfl)
        exact ok_move _ rfl (wanted_none rfl) ⟨Rb.refl _, e9⟩
      refine Owed.cons ?_ ?_
      · -- 1: slot 51 := Op.move (Operand.tmp 2)
        intro a w hR F
        have e2 : a.eval (.tmp 2) = .slice ao2 n2 cap2 := F.old 2 (by kernel_rfl)
        exact ok_move _ rfl (wanted_none rfl) ⟨Rb.refl _, e2⟩
      refine Owed.cons ?_ ?_
      · -- 2: slot 52 := Op.convert 32 9 (Operand.tmp 51)
        intro a w hR F
        have e51 : a.eval (.tmp 51) = .slice ao2 n2 cap2 := F.new 1 51 (by kernel_rfl)
        exact ok_conv _ _ _ rfl (wanted_none rfl) (run_convert_Bs (xs := C) (by rw [e51]; exact HC.out.below hR) 32 5 9 Try.underlying32 Try.underlying5 Try.underlying9) ⟨Rb.refl _, rfl⟩
      refine Owed.cons ?_ ?_
      · -- 3: slot 53 := Op.binOp BinOp.eql 9 (Operand.tmp 50) (Operand.tmp 52) 9
        intro a w hR F
        have e50 : a.eval (.tmp 50) = strV (C) := F.new 0 50 (by kernel_rfl)
        have e52 : a.eval (.tmp 52) = strV (C) := F.new 2 52 (by kernel_rfl)
        refine ok_bin _ _ _ _ _ rfl (wanted_none rfl) e50 e52 (run_eql_strV _ _ _ _ _) ⟨Rb.refl _, ?_⟩
        exact congrArg Value.bool (by simp)
      refine Owed.cons ?_ ?_
      · -- 4: slot 54 := Op.move (Operand.tmp 53)
        intro a w hR F
        have e53 : a.eval (.tmp 53) = .bool true := F.new 3 53 (by kernel_rfl)
        exact ok_move _ rfl (wanted_none rfl) ⟨Rb.refl _, e53⟩
      refine Owed.cons ?_ ?_
      · -- 5: slot 55 := Op.move (Operand.tmp 8)
        intro a w hR F
        have e54 : a.eval (.tmp 54) = .bool true := F.new 4 54 (by kernel_rfl)
        have e8 : a.eval (.tmp 8) = .pointer (some ⟨b0, 0, none⟩) := F.old 8 (by kernel_rfl)
        exact ok_move _ rfl (wanted_true (j := 4) (d := 54) rfl (by kernel_rfl) e54) ⟨Rb.refl _, e8⟩
      refine Owed.cons ?_ ?_
      · -- 6: slot 56 := Op.move (Operand.tmp 0)
        intro a w hR F
        have e54 : a.eval (.tmp 54) = .bool true := F.new 4 54 (by kernel_rfl)
        have e0 : a.eval (.tmp 0) = .int .i64 (1) := F.old 0 (by kernel_rfl)
        exact ok_move _ rfl (wanted_true (j := 4) (d := 54) rfl (by kernel_rfl) e54) ⟨Rb.refl _, e0⟩
      refine Owed.cons ?_ ?_
      · -- 7: slot 57 := Op.call { callee := Callee.value (Operand.func 24), args := #[Operand.tmp 55, Operand.tmp 56], argTy
        intro a w hR F
        have e54 : a.eval (.tmp 54) = .bool true := F.new 4 54 (by kernel_rfl)
        have e55 : a.eval (.tmp 55) = .pointer (some ⟨b0, 0, none⟩) := F.new 5 55 (by kernel_rfl)
        have e56 : a.eval (.tmp 56) = .int .i64 (1) := F.new 6 56 (by kernel_rfl)
        refine ok_call 24 _ _ #[.pointer (some ⟨b0, 0, none⟩), .int .i64 (1)] rfl (wanted_true (j := 4) (d := 54) rfl (by kernel_rfl) e54) (by simp [e55, e56]) (Try.call24 _ _) ?_
        exact put_call (slot1_at HE.out (HK.out.rb hR))
      refine Owed.cons ?_ ?_
      · -- 8: slot 58 := Op.convert 32 9 (Operand.tmp 57)
        intro a w hR F
        have e54 : a.eval (.tmp 54) = .bool true := F.new 4 54 (by kernel_rfl)
        have e57 : Bs w (a.eval (.tmp 57)) (A) := F.new 7 57 (by kernel_rfl)
        exact ok_conv _ _ _ rfl (wanted_true (j := 4) (d := 54) rfl (by kernel_rfl) e54) (run_convert_Bs e57 32 5 9 Try.underlying32 Try.underlying5 Try.underlying9) ⟨Rb.refl _, rfl⟩
      refine Owed.cons ?_ ?_
      · -- 9: slot 59 := Op.move (Operand.tmp 1)
        intro a w hR F
        have e54 : a.eval (.tmp 54) = .bool true := F.new 4 54 (by kernel_rfl)
        have e1 : a.eval (.tmp 1) = .slice ao1 n1 cap1 := F.old 1 (by kernel_rfl)
        exact ok_move _ rfl (wanted_true (j := 4) (d := 54) rfl (by kernel_rfl) e54) ⟨Rb.refl _, e1⟩
      refine Owed.cons ?_ ?_
      · -- 10: slot 60 := Op.convert 32 9 (Operand.tmp 59)
        intro a w hR F
        have e54 : a.eval (.tmp 54) = .bool true := F.new 4 54 (by kernel_rfl)
        have e59 : a.eval (.tmp 59) = .slice ao1 n1 cap1 := F.new 9 59 (by kernel_rfl)
        exact ok_conv _ _ _ rfl (wanted_true (j := 4) (d := 54) rfl (by kernel_rfl) e54) (run_convert_Bs (xs := A) (by rw [e59]; exact HA.out.below hR) 32 5 9 Try.underlying32 Try.underlying5 Try.underlying9) ⟨Rb.refl _, rfl⟩
      refine Owed.cons ?_ ?_
      · -- 11: slot 61 := Op.binOp BinOp.eql 9 (Operand.tmp 58) (Operand.tmp 60) 9
        intro a w hR F
        have e54 : a.eval (.tmp 54) = .bool true := F.new 4 54 (by kernel_rfl)
        have e58 : a.eval (.tmp 58) = strV (A) := F.new 8 58 (by kernel_rfl)
        have e60 : a.eval (.tmp 60) = strV (A) := F.new 10 60 (by kernel_rfl)
        refine ok_bin _ _ _ _ _ rfl (wanted_true (j := 4) (d := 54) rfl (by kernel_rfl) e54) e58 e60 (run_eql_strV _ _ _ _ _) ⟨Rb.refl _, ?_⟩
        exact congrArg Value.bool (by simp)
      refine Owed.cons ?_ ?_
      · -- 12: slot 62 := Op.pick (Operand.tmp 54) (Operand.tmp 61) (Operand.const (Value.bool false))
        intro a w hR F
        have e54 : a.eval (.tmp 54) = .bool true := F.new 4 54 (by kernel_rfl)
        have e61 : a.eval (.tmp 61) = .bool true := F.new 11 61 (by kernel_rfl)
        exact ok_pick _ _ _ true rfl (wanted_none rfl) e54 ⟨Rb.refl _, e61⟩
      refine Owed.cons ?_ ?_
      · -- 13: slot 63 := Op.move (Operand.tmp 62)
        intro a w hR F
        have e62 : a.eval (.tmp 62) = .bool true := F.new 12 62 (by kernel_rfl)
        exact ok_move _ rfl (wanted_none rfl) ⟨Rb.refl _, e62⟩
      refine Owed.cons ?_ ?_
      · -- 14: slot 64 := Op.move (Operand.tmp 8)
        intro a w hR F
        have e63 : a.eval (.tmp 63) = .bool true := F.new 13 63 (by kernel_rfl)
        have e8 : a.eval (.tmp 8) = .pointer (some ⟨b0, 0, none⟩) := F.old 8 (by kernel_rfl)
        exact ok_move _ rfl (wanted_true (j := 13) (d := 63) rfl (by kernel_rfl) e63) ⟨Rb.refl _, e8⟩
      refine Owed.cons ?_ ?_
      · -- 15: slot 65 := Op.move (Operand.tmp 0)
        intro a w hR F
        have e63 : a.eval (.tmp 63) = .bool true := F.new 13 63 (by kernel_rfl)
        have e0 : a.eval (.tmp 0) = .int .i64 (1) := F.old 0 (by kernel_rfl)
        exact ok_move _ rfl (wanted_true (j := 13) (d := 63) rfl (by kernel_rfl) e63) ⟨Rb.refl _, e0⟩
      refine Owed.cons ?_ ?_
      · -- 16: slot 66 := Op.binOp BinOp.sub 3 (Operand.const (Value.int IntKind.i64 1)) (Operand.tmp 65) 3
        intro a w hR F
        have e63 : a.eval (.tmp 63) = .bool true := F.new 13 63 (by kernel_rfl)
        have e65 : a.eval (.tmp 65) = .int .i64 (1) := F.new 15 65 (by kernel_rfl)
        exact ok_bin _ _ _ _ _ rfl (wanted_true (j := 13) (d := 63) rfl (by kernel_rfl) e63) rfl e65 (run_sub_i64 _ _ _ _ _ (by decide) (by decide)) ⟨Rb.refl _, rfl⟩
      refine Owed.cons ?_ ?_
      · -- 17: slot 67 := Op.call { callee := Callee.value (Operand.func 24), args := #[Operand.tmp 64, Operand.tmp 66], argTy
        intro a w hR F
        have e63 : a.eval (.tmp 63) = .bool true := F.new 13 63 (by kernel_rfl)
        have e64 : a.eval (.tmp 64) = .pointer (some ⟨b0, 0, none⟩) := F.new 14 64 (by kernel_rfl)
        have e66 : a.eval (.tmp 66) = .int .i64 (0) := F.new 16 66 (by kernel_rfl)
        refine ok_call 24 _ _ #[.pointer (some ⟨b0, 0, none⟩), .int .i64 (0)] rfl (wanted_true (j := 13) (d := 63) rfl (by kernel_rfl) e63) (by simp [e64, e66]) (Try.call24 _ _) ?_
        exact put_call (slot0_at HE.out (HK.out.rb hR))
      refine Owed.cons ?_ ?_
      · -- 18: slot 68 := Op.call { callee := Callee.builtin Builtin.len, args := #[Operand.tmp 67], argTypes := #[32] }
        intro a w hR F
        have e63 : a.eval (.tmp 63) = .bool true := F.new 13 63 (by kernel_rfl)
        have e67 : Bs w (a.eval (.tmp 67)) (([] : List UInt8)) := F.new 17 67 (by kernel_rfl)
        exact ok_len_bs _ _ 5 Try.underlying32 _ rfl (wanted_true (j := 13) (d := 63) rfl (by kernel_rfl) e63) e67 ⟨Rb.refl _, rfl⟩
      refine Owed.cons ?_ ?_
      · -- 19: slot 69 := Op.binOp BinOp.eql 3 (Operand.tmp 68) (Operand.const (Value.int IntKind.i64 0)) 3
        intro a w hR F
        have e63 : a.eval (.tmp 63) = .bool true := F.new 13 63 (by kernel_rfl)
        have e68 : a.eval (.tmp 68) = .int .i64 (((([] : List UInt8)).length : Int)) := F.new 18 68 (by kernel_rfl)
        refine ok_bin _ _ _ _ _ rfl (wanted_true (j := 13) (d := 63) rfl (by kernel_rfl) e63) e68 rfl (run_eql_int _ _ _ _ _ _) ⟨Rb.refl _, ?_⟩
        exact congrArg Value.bool (by simp)
      refine Owed.cons ?_ ?_
      · -- 20: slot 70 := Op.pick (Operand.tmp 63) (Operand.tmp 69) (Operand.const (Value.bool false))
        intro a w hR F
        have e63 : a.eval (.tmp 63) = .bool true := F.new 13 63 (by kernel_rfl)
        have e69 : a.eval (.tmp 69) = .bool true := F.new 19 69 (by kernel_rfl)
        exact ok_pick _ _ _ true rfl (wanted_none rfl) e63 ⟨Rb.refl _, e69⟩
      refine Owed.cons ?_ ?_
      · -- 21: slot 71 := Op.move (Operand.tmp 70)
        intro a w hR F
        have e70 : a.eval (.tmp 70) = .bool true := F.new 20 70 (by kernel_rfl)
        exact ok_move _ rfl (wanted_none rfl) ⟨Rb.refl _, e70⟩
      refine Owed.cons ?_ ?_
      · -- 22: slot 72 := Op.call { callee := Callee.value (Operand.func 13), args := #[], argTypes := #[] }
        intro a w hR F
        have e71 : a.eval (.tmp 71) = .bool true := F.new 21 71 (by kernel_rfl)
        refine ok_call 13 _ _ #[] rfl (wanted_true (j := 21) (d := 71) rfl (by kernel_rfl) e71) (by simp) (Try.call13 _ _) ?_
        exact val_call_rb (lives_any w)
      refine Owed.cons ?_ ?_
      · -- 23: slot 73 := Op.pick (Operand.tmp 71) (Operand.tmp 72) (Operand.const (Value.bool false))
        intro a w hR F
        have e71 : a.eval (.tmp 71) = .bool true := F.new 21 71 (by kernel_rfl)
        have e72 : a.eval (.tmp 72) = .bool true := F.new 22 72 (by kernel_rfl)
        exact ok_pick _ _ _ true rfl (wanted_none rfl) e71 ⟨Rb.refl _, e72⟩
      refine Owed.cons ?_ ?_
      · -- 24: slot 6 := Op.assign (Operand.tmp 73)
        intro a w hR F
        have e73 : a.eval (.tmp 73) = .bool true := F.new 23 73 (by kernel_rfl)
        exact ok_assign _ rfl (wanted_none rfl) ⟨Rb.refl _, e73⟩
      exact Owed.nil
    case fin =>
      intro y w2 hR hy
      have e24 : y 24 = .bool true := hy 24 _ rfl
      have HR := Lib.hid hR
      clear hy hR
      simp only [putAll, Act.put, List.setIfInBounds_toArray, List.set_cons_zero, List.set_cons_succ]
      rw [e24]
      clear e24
      go_wp2
      go_ret
      exact ⟨rfl, HB.out.trans (Below.mono HR.out (by have := HSZ.out; omega))⟩
end Go.Proofs.Ytbillojamaiagaa
