/-
  Layer 2: the order of values.
-/
import Derived.Test.YtefjfiihfbkjoaaDoorVK
namespace Go.Proofs.YtefjfiihfbkjoaaDoor
open Go.ChangeShapes Go.WideShapes Go.ChangeAt Go.RowKit Oct By Reg Val

def orN (a b : Int) : Int := if a ≠ 0 then a else b
def cmpV (k n : Int) (l : List UInt8) (k' n' : Int) (l' : List UInt8) : Int := orN (Lib.compareInt k k') (orN (Lib.compareInt n n') (Lib.compareBytes l l'))

theorem ret_i64 {a b : Int} (h : a = b) : Ending.returned (.int .i64 a) = .returned (.int .i64 b) := by rw [h]

set_option maxRecDepth 100000 in
theorem or_any (b : Nat) (x y z : Int) (w : World) (c0 : w.cell? ⟨b, 0, none⟩ = some (.int .i64 x)) (c1 : w.cell? ⟨b, 1, none⟩ = some (.int .i64 y)) (c2 : w.cell? ⟨b, 2, none⟩ = some (.int .i64 z)) :
    Calls Tryd.prog 37 #[.slice (some ⟨b, 0, none⟩) 3 3] w fun e w' => e = .returned (.int .i64 (orN x (orN y z))) ∧ w = w' := by
  have hR := Lib.hid (show orN x (orN y z) = if x ≠ 0 then x else if y ≠ 0 then y else if z ≠ 0 then z else 0 by
    unfold orN; by_cases hz : z = 0 <;> simp [hz])
  go_enter Tryd.func37, Tryd.ntmps37
  go_wp2
  go_loop [8] (fun i => ∃ k : Nat, k ≤ 3 ∧ i = .int .i64 (k : Int) ∧ Hid ((0 < k → x = 0) ∧ (1 < k → y = 0) ∧ (2 < k → z = 0))) (fun i => 3 - (intOf i).toNat)
  case atStart => exact ⟨0, by omega, rfl, by omega, by omega, by omega⟩
  case round =>
    obtain ⟨k, hk, rfl, hz⟩ := hrel
    rcases (show k = 0 ∨ k = 1 ∨ k = 2 ∨ k = 3 by omega) with rfl | rfl | rfl | rfl
    · by_cases h : x = 0
      · have hn : Hid ((0 < 1 → x = 0) ∧ (1 < 1 → y = 0) ∧ (2 < 1 → z = 0)) := ⟨fun _ => h, fun h => by omega, fun h => by omega⟩
        have hb : (x != 0) = false := by simp [h]
        clear h hz
        go_wp2_with fail
        go_round
        case rel => exact ⟨1, by omega, by go_num, hn⟩
        case measure => simp [intOf]
      · have hb : (x != 0) = true := by simp [h]
        have hr : Hid (x = orN x (orN y z)) := by
          show x = orN x (orN y z)
          rw [hR.out]; simp [h]
        clear h hz
        go_wp2_with fail
        go_ret
        exact ⟨ret_i64 hr.out, rfl⟩
    · by_cases h : y = 0
      · have hn : Hid ((0 < 2 → x = 0) ∧ (1 < 2 → y = 0) ∧ (2 < 2 → z = 0)) := ⟨fun _ => hz.out.1 (by omega), fun _ => h, fun h => by omega⟩
        have hb : (y != 0) = false := by simp [h]
        clear h hz
        go_wp2_with fail
        go_round
        case rel => exact ⟨2, by omega, by go_num, hn⟩
        case measure => simp [intOf]
      · have hb : (y != 0) = true := by simp [h]
        have hr : Hid (y = orN x (orN y z)) := by
          show y = orN x (orN y z)
          rw [hR.out]; simp [hz.out.1 (by omega), h]
        clear h hz
        go_wp2_with fail
        go_ret
        exact ⟨ret_i64 hr.out, rfl⟩
    · by_cases h : z = 0
      · have hn : Hid ((0 < 3 → x = 0) ∧ (1 < 3 → y = 0) ∧ (2 < 3 → z = 0)) := ⟨fun _ => hz.out.1 (by omega), fun _ => hz.out.2.1 (by omega), fun _ => h⟩
        have hb : (z != 0) = false := by simp [h]
        clear h hz
        go_wp2_with fail
        go_round
        case rel => exact ⟨3, by omega, by go_num, hn⟩
        case measure => simp [intOf]
      · have hb : (z != 0) = true := by simp [h]
        have hr : Hid (z = orN x (orN y z)) := by
          show z = orN x (orN y z)
          rw [hR.out]; simp [hz.out.1 (by omega), hz.out.2.1 (by omega), h]
        clear h hz
        go_wp2_with fail
        go_ret
        exact ⟨ret_i64 hr.out, rfl⟩
    · have hr : Hid (0 = orN x (orN y z)) := by
        show 0 = orN x (orN y z)
        rw [hR.out]; simp [hz.out.1 (by omega), hz.out.2.1 (by omega), hz.out.2.2 (by omega)]
      clear hz
      go_wp2_with fail
      go_ret
      exact ⟨ret_i64 hr.out, rfl⟩

theorem cmp64_any (x y : Int) (w : World) : Calls Tryd.prog 39 #[.int .i64 x, .int .i64 y] w fun e w' => e = .returned (.int .i64 (Lib.compareInt x y)) ∧ w = w' := by
  unfold Lib.compareInt
  by_cases h1 : x < y
  · have hx : (x != x) = false := by simp
    go_enter Tryd.func39, Tryd.ntmps39
    go_wp2
    go_ret
    exact ⟨ret_i64 (by simp), rfl⟩
  · by_cases h2 : x > y
    · go_enter Tryd.func39, Tryd.ntmps39
      go_wp2
      go_ret
      exact ⟨ret_i64 (by simp), rfl⟩
    · go_enter Tryd.func39, Tryd.ntmps39
      go_wp2
      go_ret
      exact ⟨ret_i64 (by simp), rfl⟩

/-- a slice of three numbers -/
def orSpec (x y z : Int) : Reg.Spec Rb := ⟨fun w v => ∃ b, v = .slice (some ⟨b, 0, none⟩) 3 3 ∧ w.cell? ⟨b, 0, none⟩ = some (.int .i64 x) ∧ w.cell? ⟨b, 1, none⟩ = some (.int .i64 y) ∧ w.cell? ⟨b, 2, none⟩ = some (.int .i64 z),
  fun _ _ _ h ⟨b, h0, h1, h2, h3⟩ => ⟨b, h0, cell_rb h h1, cell_rb h h2, cell_rb h h3⟩⟩
theorem ok_bslice {ops : Array Oper} {o : Oper} {a : Act} {w w' : World} {T : World → Value → Prop} (T0 : TypeId) (n : Nat) (parts : Array (Nat × Operand)) (vs : Array (Nat × Value)) {v : Value} (ho : o.op = .buildSlice T0 n parts) (hw : Region.wanted o (yielded ops a.tmps) = true) (hp : (parts.map fun (i, x) => (i, a.eval x)) = vs)
    (hr : (Instr.buildSlice T0 n vs).run Tryd.prog w = .ok v w') (h : T w' v) : okAt Tryd.prog ops o a w T := by
  refine ok_value (w' := w') hw ?_ h
  simp only [execOp, ho, hp, Sem.run_bind, hr]
  simp [Result.andThen]
theorem run_bslice3 {w : World} (x y z : Int) : (Instr.buildSlice 69 3 #[(0, .int .i64 x), (1, .int .i64 y), (2, .int .i64 z)]).run Tryd.prog w = .ok (.slice (some ⟨w.heap.size, 0, none⟩) 3 3) (w.alloc (.cells #[.int .i64 x, .int .i64 y, .int .i64 z] 3)) := by
  simp [go_sem]

set_option maxRecDepth 100000 in
theorem compare_any (k n : Int) (s : ByteArray) (k' n' : Int) (s' : ByteArray) (w0 : World) :
    Calls Tryd.prog 24 #[vv k n s, vv k' n' s'] w0 fun e w' => e = .returned (.int .i64 (cmpV k n s.data.toList k' n' s'.data.toList)) ∧ Below w0.heap.size w0 w' := by
  have ha := (HeldV.new w0 k n s 23).rb ((Below.refl _ _).alloc (Nat.le_refl _) (.cells #[.int .i64 k', .int .i64 n', .string s'] 23))
  have hc := HeldV.new (w0.alloc (.cells #[.int .i64 k, .int .i64 n, .string s] 23)) k' n' s' 23
  rw [show (w0.alloc (.cells #[.int .i64 k, .int .i64 n, .string s] 23)).heap.size = w0.heap.size + 1 by simp] at hc
  have HA := Lib.hid ha; have HC := Lib.hid hc
  clear ha hc
  go_enter Tryd.func24, Tryd.ntmps24
  go_wp2_with fail
  refine wp_region_specs (R := Rb) (S := [Spec.eq (.pointer (some ⟨w0.heap.size, 0, none⟩)), Spec.eq (.int .i64 (k)), Spec.eq (.pointer (some ⟨w0.heap.size + 1, 0, none⟩)), Spec.eq (.int .i64 (k')), Spec.eq (.int .i64 (Lib.compareInt k k')), Spec.eq (.pointer (some ⟨w0.heap.size, 1, none⟩)), Spec.eq (.int .i64 (n)), Spec.eq (.pointer (some ⟨w0.heap.size + 1, 1, none⟩)), Spec.eq (.int .i64 (n')), Spec.eq (.int .i64 (Lib.compareInt n n')), Spec.eq (.pointer (some ⟨w0.heap.size, 2, none⟩)), Spec.eq (.string (s)), Spec.eq (.pointer (some ⟨w0.heap.size + 1, 2, none⟩)), Spec.eq (.string (s')), Spec.eq (.int .i64 (Lib.compareBytes s.data.toList s'.data.toList)), orSpec (Lib.compareInt k k') (Lib.compareInt n n') (Lib.compareBytes s.data.toList s'.data.toList), Spec.eq (.int .i64 (cmpV k n s.data.toList k' n' s'.data.toList)), Spec.eq (.int .i64 (cmpV k n s.data.toList k' n' s'.data.toList))]) (n := 1) (size := 22) (by kernel_rfl) Rb.trans (Rb.drew _) rfl (by kernel_rfl) ?owed ?fin
  case owed =>
    refine Owed.cons ?_ ?_
    · -- 0: slot 5 := Op.fieldAddr 23 (Operand.tmp 2) 0
      intro a w hR F
      have e2 : a.eval (.tmp 2) = .pointer (some ⟨w0.heap.size, 0, none⟩) := F.old 2 (by kernel_rfl)
      exact ok_field _ 0 _ (by decide) rfl (wanted_none rfl) e2 ⟨Rb.refl _, rfl⟩
    refine Owed.cons ?_ ?_
    · -- 1: slot 6 := Op.load 3 (Operand.tmp 5)
      intro a w hR F
      have e5 : a.eval (.tmp 5) = .pointer (some ⟨w0.heap.size, 0, none⟩) := F.new 0 5 (by kernel_rfl)
      exact ok_load _ _ rfl (wanted_none rfl) e5 (HA.out.rb hR).f0 ⟨Rb.refl _, rfl⟩
    refine Owed.cons ?_ ?_
    · -- 2: slot 7 := Op.fieldAddr 23 (Operand.tmp 3) 0
      intro a w hR F
      have e3 : a.eval (.tmp 3) = .pointer (some ⟨w0.heap.size + 1, 0, none⟩) := F.old 3 (by kernel_rfl)
      exact ok_field _ 0 _ (by decide) rfl (wanted_none rfl) e3 ⟨Rb.refl _, rfl⟩
    refine Owed.cons ?_ ?_
    · -- 3: slot 8 := Op.load 3 (Operand.tmp 7)
      intro a w hR F
      have e7 : a.eval (.tmp 7) = .pointer (some ⟨w0.heap.size + 1, 0, none⟩) := F.new 2 7 (by kernel_rfl)
      exact ok_load _ _ rfl (wanted_none rfl) e7 (HC.out.rb hR).f0 ⟨Rb.refl _, rfl⟩
    refine Owed.cons ?_ ?_
    · -- 4: slot 9 := Op.call { callee := Callee.value (Operand.func 38), args := #[Operand.tmp 6, Operand.tmp 8], argType
      intro a w hR F
      have e6 : a.eval (.tmp 6) = .int .i64 (k) := F.new 1 6 (by kernel_rfl)
      have e8 : a.eval (.tmp 8) = .int .i64 (k') := F.new 3 8 (by kernel_rfl)
      refine ok_call 38 _ _ #[.int .i64 (k), .int .i64 (k')] rfl (wanted_none rfl) (by simp [e6, e8]) (Tryd.call38 _ _) ?_
      exact val_call_same (Tryd.cmp_Compare_int k k' w)
    refine Owed.cons ?_ ?_
    · -- 5: slot 10 := Op.fieldAddr 23 (Operand.tmp 2) 1
      intro a w hR F
      have e2 : a.eval (.tmp 2) = .pointer (some ⟨w0.heap.size, 0, none⟩) := F.old 2 (by kernel_rfl)
      exact ok_field _ 1 _ (by decide) rfl (wanted_none rfl) e2 ⟨Rb.refl _, rfl⟩
    refine Owed.cons ?_ ?_
    · -- 6: slot 11 := Op.load 2 (Operand.tmp 10)
      intro a w hR F
      have e10 : a.eval (.tmp 10) = .pointer (some ⟨w0.heap.size, 1, none⟩) := F.new 5 10 (by kernel_rfl)
      exact ok_load _ _ rfl (wanted_none rfl) e10 (HA.out.rb hR).f1 ⟨Rb.refl _, rfl⟩
    refine Owed.cons ?_ ?_
    · -- 7: slot 12 := Op.fieldAddr 23 (Operand.tmp 3) 1
      intro a w hR F
      have e3 : a.eval (.tmp 3) = .pointer (some ⟨w0.heap.size + 1, 0, none⟩) := F.old 3 (by kernel_rfl)
      exact ok_field _ 1 _ (by decide) rfl (wanted_none rfl) e3 ⟨Rb.refl _, rfl⟩
    refine Owed.cons ?_ ?_
    · -- 8: slot 13 := Op.load 2 (Operand.tmp 12)
      intro a w hR F
      have e12 : a.eval (.tmp 12) = .pointer (some ⟨w0.heap.size + 1, 1, none⟩) := F.new 7 12 (by kernel_rfl)
      exact ok_load _ _ rfl (wanted_none rfl) e12 (HC.out.rb hR).f1 ⟨Rb.refl _, rfl⟩
    refine Owed.cons ?_ ?_
    · -- 9: slot 14 := Op.call { callee := Callee.value (Operand.func 39), args := #[Operand.tmp 11, Operand.tmp 13], argTy
      intro a w hR F
      have e11 : a.eval (.tmp 11) = .int .i64 (n) := F.new 6 11 (by kernel_rfl)
      have e13 : a.eval (.tmp 13) = .int .i64 (n') := F.new 8 13 (by kernel_rfl)
      refine ok_call 39 _ _ #[.int .i64 (n), .int .i64 (n')] rfl (wanted_none rfl) (by simp [e11, e13]) (Tryd.call39 _ _) ?_
      exact val_call (cmp64_any n n' w)
    refine Owed.cons ?_ ?_
    · -- 10: slot 15 := Op.fieldAddr 23 (Operand.tmp 2) 2
      intro a w hR F
      have e2 : a.eval (.tmp 2) = .pointer (some ⟨w0.heap.size, 0, none⟩) := F.old 2 (by kernel_rfl)
      exact ok_field _ 2 _ (by decide) rfl (wanted_none rfl) e2 ⟨Rb.refl _, rfl⟩
    refine Owed.cons ?_ ?_
    · -- 11: slot 16 := Op.load 9 (Operand.tmp 15)
      intro a w hR F
      have e15 : a.eval (.tmp 15) = .pointer (some ⟨w0.heap.size, 2, none⟩) := F.new 10 15 (by kernel_rfl)
      exact ok_load _ _ rfl (wanted_none rfl) e15 (HA.out.rb hR).f2 ⟨Rb.refl _, rfl⟩
    refine Owed.cons ?_ ?_
    · -- 12: slot 17 := Op.fieldAddr 23 (Operand.tmp 3) 2
      intro a w hR F
      have e3 : a.eval (.tmp 3) = .pointer (some ⟨w0.heap.size + 1, 0, none⟩) := F.old 3 (by kernel_rfl)
      exact ok_field _ 2 _ (by decide) rfl (wanted_none rfl) e3 ⟨Rb.refl _, rfl⟩
    refine Owed.cons ?_ ?_
    · -- 13: slot 18 := Op.load 9 (Operand.tmp 17)
      intro a w hR F
      have e17 : a.eval (.tmp 17) = .pointer (some ⟨w0.heap.size + 1, 2, none⟩) := F.new 12 17 (by kernel_rfl)
      exact ok_load _ _ rfl (wanted_none rfl) e17 (HC.out.rb hR).f2 ⟨Rb.refl _, rfl⟩
    refine Owed.cons ?_ ?_
    · -- 14: slot 19 := Op.call { callee := Callee.value (Operand.func 40), args := #[Operand.tmp 16, Operand.tmp 18], argTy
      intro a w hR F
      have e16 : a.eval (.tmp 16) = .string (s) := F.new 11 16 (by kernel_rfl)
      have e18 : a.eval (.tmp 18) = .string (s') := F.new 13 18 (by kernel_rfl)
      refine ok_call 40 _ _ #[.string (s), .string (s')] rfl (wanted_none rfl) (by simp [e16, e18]) (Tryd.call40 _ _) ?_
      exact val_call_same (Tryd.strings_Compare s s' w)
    refine Owed.cons ?_ ?_
    · -- 15: slot 20 := Op.buildSlice 69 3 #[(0, Operand.tmp 9), (1, Operand.tmp 14), (2, Operand.tmp 19)]
      intro a w hR F
      have e9 : a.eval (.tmp 9) = .int .i64 (Lib.compareInt k k') := F.new 4 9 (by kernel_rfl)
      have e14 : a.eval (.tmp 14) = .int .i64 (Lib.compareInt n n') := F.new 9 14 (by kernel_rfl)
      have e19 : a.eval (.tmp 19) = .int .i64 (Lib.compareBytes s.data.toList s'.data.toList) := F.new 14 19 (by kernel_rfl)
      refine ok_bslice _ _ _ #[(0, .int .i64 (Lib.compareInt k k')), (1, .int .i64 (Lib.compareInt n n')), (2, .int .i64 (Lib.compareBytes s.data.toList s'.data.toList))] rfl (wanted_none rfl) (by simp only [List.map_toArray, List.map_cons, List.map_nil, e9, e14, e19]) (run_bslice3 _ _ _) ⟨(Below.refl _ w).alloc (Nat.le_refl _) _, ?_⟩
      exact ⟨w.heap.size, rfl, by simp, by simp, by simp⟩
    refine Owed.cons ?_ ?_
    · -- 16: slot 21 := Op.call { callee := Callee.value (Operand.func 37), args := #[Operand.tmp 20], argTypes := #[69] }
      intro a w hR F
      have e20 := F.new 15 20 (by kernel_rfl)
      refine ok_call 37 _ _ #[a.eval (.tmp 20)] rfl (wanted_none rfl) (by simp) (Tryd.call37 _ _) ?_
      exact (by obtain ⟨b, hb, c0, c1, c2⟩ := e20; rw [hb]; exact val_call (or_any b _ _ _ w c0 c1 c2))
    refine Owed.cons ?_ ?_
    · -- 17: slot 4 := Op.assign (Operand.tmp 21)
      intro a w hR F
      have e21 : a.eval (.tmp 21) = .int .i64 (cmpV k n s.data.toList k' n' s'.data.toList) := F.new 16 21 (by kernel_rfl)
      exact ok_assign _ rfl (wanted_none rfl) ⟨Rb.refl _, e21⟩
    exact Owed.nil
  case fin =>
    intro y w2 hR hy
    have e17 : y 17 = .int .i64 (cmpV k n s.data.toList k' n' s'.data.toList) := hy 17 _ rfl
    have HR := Lib.hid hR
    clear hy hR
    simp only [putAll, Act.put, List.setIfInBounds_toArray, List.set_cons_zero, List.set_cons_succ]
    rw [e17]
    go_wp2
    go_ret
    exact ⟨rfl, (((Below.refl _ w0).alloc (Nat.le_refl _) _).alloc (by simp) _).trans (Below.mono HR.out (by simp; omega))⟩
end Go.Proofs.YtefjfiihfbkjoaaDoor
