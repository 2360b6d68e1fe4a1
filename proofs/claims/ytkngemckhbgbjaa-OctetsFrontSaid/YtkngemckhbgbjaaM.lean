import Derived.Test.YtkngemckhbgbjaaL
namespace Go.Proofs.Ytkngemckhbgbjaa
open Go.ChangeShapes Go.WideShapes Go.ChangeAt Go.RowKit Oct By Reg

def wacc (ys : List UInt8) : Nat → Nat
  | 0 => 0
  | k + 1 => wacc ys k * 256 + bt ys k
theorem wacc_lt (ys : List UInt8) : ∀ k, wacc ys k < 256 ^ k
  | 0 => by simp [wacc]
  | k + 1 => by
    have := wacc_lt ys k
    have hb := bt_lt ys k
    rw [wacc, Nat.pow_succ]
    omega
theorem or_byte : ∀ (x c : Nat), x < 16777216 → c < 256 → bits BinOp.or IntKind.u32 ((x : Int) * 256) (c : Int) = ((x * 256 + c : Nat) : Int) := by
  intro x c hx hc
  have e : (x : Int) * 256 = ((x * 256 : Nat) : Int) := by omega
  rw [e, u32_or_nat _ _ (by omega) (by omega)]
  congr 1
  rw [show x * 256 = x <<< 8 by rw [Nat.shiftLeft_eq]]
  rw [← Nat.shiftLeft_add_eq_or_of_lt (by omega)]

def tupW (xs : List UInt8) (i : Int) : Value := if 0 ≤ i ∧ i ≤ (xs.length : Int) - 4 then .tuple #[.int .u32 (wacc (xs.drop i.toNat) 4), .int .i64 (i + 4), .bool true] else .tuple #[.int .u32 0, .int .i64 0, .bool false]

theorem word_take (ys : List UInt8) (h : 4 ≤ ys.length) : wordB (wacc ys 4) = ys.take 4 := by
  match ys, h with
  | a :: b :: c :: d :: l, _ =>
    have ha := UInt8.toNat_lt a
    have hb := UInt8.toNat_lt b
    have hc := UInt8.toNat_lt c
    have hd := UInt8.toNat_lt d
    simp only [wacc, bt, wordB, List.take_succ_cons, List.take_zero]
    simp only [List.getD_cons_zero, List.getD_cons_succ, Nat.zero_mul, Nat.zero_add]
    have e : ∀ (n : Nat) (x : UInt8), n = x.toNat → UInt8.ofNat n = x := fun n x h => by subst h; simp
    simp only [List.cons.injEq, and_true]
    refine ⟨e _ _ (by omega), e _ _ (by omega), e _ _ (by omega), e _ _ (by omega)⟩

set_option maxRecDepth 100000 in
theorem getword_any (v : Value) (xs : List UInt8) (i : Int) (w : World) (hb : Bs w v xs) (hx : xs.length ≤ 100000000) :
    Calls Try.prog 26 #[v, .int .i64 i] w fun e w' => e = .returned (tupW xs i) ∧ w = w' := by
  unfold tupW
  by_cases h : 0 ≤ i ∧ i ≤ (xs.length : Int) - 4
  · rw [if_pos h]
    obtain ⟨j, rfl⟩ := Int.eq_ofNat_of_zero_le h.1
    rw [Int.toNat_natCast]
    have h4 : j + 4 ≤ xs.length := by omega
    obtain ⟨b, o, cap, rfl, h2, h3, hc⟩ := hb.form (by omega)
    have Hc := Lib.hid hc
    obtain ⟨ys, hys⟩ : ∃ ys, ys = xs.drop j := ⟨_, rfl⟩
    have Hys := Lib.hid hys
    rw [← hys]
    have hq : ¬ ((xs.length : Int) - 4 < j) := by omega
    clear hc hb h3 hys h
    go_enter Try.func26, Try.ntmps26
    go_wp2
    go_loop [4, 17] (fun n q => ∃ k : Nat, k ≤ 4 ∧ q = .int .i64 k ∧ n = .int .u32 (wacc ys k)) (fun _ q => 4 - (intOf q).toNat)
    case atStart => exact ⟨0, by omega, rfl, rfl⟩
    case round =>
      obtain ⟨k, hk, rfl, rfl⟩ := hrel
      by_cases hlt : k < 4
      · have hcell := Hc.out (j + k) (by omega)
        rw [← bt_drop, ← Hys.out] at hcell
        have hbt := bt_lt ys k
        have hwb : wacc ys k < 16777216 := Nat.lt_of_lt_of_le (wacc_lt ys k) (Nat.pow_le_pow_right (by decide) (by omega : k ≤ 3))
        have Hor := Lib.hid (or_byte (wacc ys k) (bt ys k) hwb hbt)
        go_wp2
        go_round
        case rel => exact ⟨k + 1, by omega, by go_num, by rw [Hor.out]; rfl⟩
        case measure => simp [intOf]; omega
      · have hk4 : k = 4 := by omega
        subst hk4
        go_wp2
        go_ret3
        exact ⟨rfl, rfl⟩
  · rw [if_neg h]
    obtain ⟨ao, cap, rfl, h2, h3⟩ := hb.len
    clear hb
    by_cases h0 : i < 0
    · go_enter Try.func26, Try.ntmps26
      go_wp2
      go_ret3
      exact ⟨rfl, rfl⟩
    · have hq : (xs.length : Int) - 4 < i := by omega
      clear h
      go_enter Try.func26, Try.ntmps26
      go_wp2
      go_ret3
      exact ⟨rfl, rfl⟩

theorem refword_nat (n : Nat) (w : World) (h : n < 4294967296) : Calls Try.prog 17 #[.int .u32 (n : Int)] w (Put w 5 (wordB n)) := by
  have := refword_any (n : Int) w (by omega) (by omega)
  rwa [Int.toNat_natCast] at this

set_option maxRecDepth 100000 in
theorem words_walk (u : Value) (zs : List UInt8) (i : Int) (w : World) (hb : Bs w u zs) (h0 : -9223372036854775808 ≤ i) (h1 : i ≤ 9223372036854775807) :
    Calls Try.prog 5 #[u, .int .i64 i] w fun e w' => e = .returned (.bool true) ∧ Below w.heap.size w w' := by
  go_enter Try.func5, Try.ntmps5
  go_wp2_with fail
  refine (cut_any u zs w hb).mono ?_
  rintro e w' ⟨⟨v, rfl, hx⟩, rfl⟩
  have hl : (zs.take 300).length ≤ 300 := by rw [List.length_take]; omega
  obtain ⟨xs, hxs⟩ : ∃ xs, xs = zs.take 300 := ⟨_, rfl⟩
  rw [← hxs] at hx hl
  clear hxs hb
  obtain ⟨ao, cap, ev, e2, e3⟩ := hx.len
  have HX := Lib.hid hx
  clear hx e2 e3
  have hl2 : xs.length ≤ 100000000 := by omega
  have Hev := Lib.hid ev
  have hlen : ∀ w, (Builtin.len_ #[22] 3 #[v]).run Try.prog w = .ok (.int .i64 xs.length) w := fun w => by
    rw [Hev.out]; simp [Builtin.len_, run_underlying Try.underlying22]; rfl
  clear ev
  go_wp2_with fail
  refine (getword_any v xs i w HX.out hl2).mono ?_
  rintro e w' ⟨rfl, rfl⟩
  unfold tupW
  by_cases h : 0 ≤ i ∧ i ≤ (xs.length : Int) - 4
  · rw [if_pos h]
    obtain ⟨j, rfl⟩ := Int.eq_ofNat_of_zero_le h.1
    rw [Int.toNat_natCast]
    obtain ⟨ys, hys⟩ : ∃ ys, ys = xs.drop j := ⟨_, rfl⟩
    have hy4 : 4 ≤ ys.length := by rw [hys, List.length_drop]; omega
    have Hys := Lib.hid hys
    rw [← hys]
    clear hys
    have hle : (j : Int) ≤ (xs.length : Int) - 4 := h.2
    have hw4 : wacc ys 4 < 4294967296 := wacc_lt ys 4
    clear h
    go_wp2_with fail
    refine wp_region_specs (R := Rb) (S := [Spec.eq (.bool true), Spec.eq (.bool true), Spec.eq (.bool false), Spec.eq (.bool false), Spec.eq (.bool true), Spec.eq (.bool false), Spec.eq (.bool false), Spec.eq (undef), Spec.eq (undef), Spec.eq (undef), Spec.eq (undef), Spec.eq (undef), Spec.eq (undef), Spec.eq (.bool false), Spec.eq (.bool false), Spec.eq (.bool false), Spec.eq (.bool true), Spec.eq (.bool true), Spec.eq (.int .i64 ((j : Int) + 4)), Spec.eq (.int .i64 ((j : Int))), Spec.eq (.int .i64 (((j : Int)) + 4)), Spec.eq (.bool false), Spec.eq (.bool false), Spec.eq (.int .u32 ((wacc ys 4 : Int))), bsSpec (wordB (wacc ys 4)), Spec.eq (strV (wordB (wacc ys 4))), Spec.eq (v), Spec.eq (.int .i64 ((j : Int))), Spec.eq (.int .i64 ((j : Int) + 4)), bsSpec (ys.take 4), Spec.eq (strV (ys.take 4)), Spec.eq (.bool false), Spec.eq (.bool false), Spec.eq (.bool false), Spec.eq (.bool false)]) (n := 1) (size := 70) (by kernel_rfl) Rb.trans (Rb.drew _) rfl (by kernel_rfl) ?owed ?fin
    case owed =>
      refine Owed.cons ?_ ?_
      · -- 0: slot 27 := Op.move (Operand.tmp 7)
        intro a w hR F
        have e7 : a.eval (.tmp 7) = .bool true := F.old 7 (by kernel_rfl)
        exact ok_move _ rfl (wanted_none rfl) ⟨Rb.refl _, e7⟩
      refine Owed.cons ?_ ?_
      · -- 1: slot 28 := Op.move (Operand.tmp 8)
        intro a w hR F
        have e8 : a.eval (.tmp 8) = .bool true := F.old 8 (by kernel_rfl)
        exact ok_move _ rfl (wanted_none rfl) ⟨Rb.refl _, e8⟩
      refine Owed.cons ?_ ?_
      · -- 2: slot 29 := Op.binOp BinOp.neq 4 (Operand.tmp 27) (Operand.tmp 28) 4
        intro a w hR F
        have e27 : a.eval (.tmp 27) = .bool true := F.new 0 27 (by kernel_rfl)
        have e28 : a.eval (.tmp 28) = .bool true := F.new 1 28 (by kernel_rfl)
        refine ok_bin _ _ _ _ _ rfl (wanted_none rfl) e27 e28 (run_neq_boolB _ _ _ _ _ Try.underlying4) ⟨Rb.refl _, ?_⟩
        exact congrArg Value.bool (by simp)
      refine Owed.cons ?_ ?_
      · -- 3: slot 30 := Op.move (Operand.tmp 29)
        intro a w hR F
        have e29 : a.eval (.tmp 29) = .bool false := F.new 2 29 (by kernel_rfl)
        exact ok_move _ rfl (wanted_none rfl) ⟨Rb.refl _, e29⟩
      refine Owed.cons ?_ ?_
      · -- 4: slot 31 := Op.move (Operand.tmp 7)
        intro a w hR F
        have e30 : a.eval (.tmp 30) = .bool false := F.new 3 30 (by kernel_rfl)
        have e7 : a.eval (.tmp 7) = .bool true := F.old 7 (by kernel_rfl)
        exact ok_move _ rfl (wanted_true (j := 3) (d := 30) rfl (by kernel_rfl) e30) ⟨Rb.refl _, e7⟩
      refine Owed.cons ?_ ?_
      · -- 5: slot 32 := Op.unOp UnOp.not 4 (Operand.tmp 31)
        intro a w hR F
        have e30 : a.eval (.tmp 30) = .bool false := F.new 3 30 (by kernel_rfl)
        have e31 : a.eval (.tmp 31) = .bool true := F.new 4 31 (by kernel_rfl)
        exact ok_not _ _ true rfl (wanted_true (j := 3) (d := 30) rfl (by kernel_rfl) e30) e31 ⟨Rb.refl _, rfl⟩
      refine Owed.cons ?_ ?_
      · -- 6: slot 33 := Op.move (Operand.tmp 32)
        intro a w hR F
        have e30 : a.eval (.tmp 30) = .bool false := F.new 3 30 (by kernel_rfl)
        have e32 : a.eval (.tmp 32) = .bool false := F.new 5 32 (by kernel_rfl)
        exact ok_move _ rfl (wanted_true (j := 3) (d := 30) rfl (by kernel_rfl) e30) ⟨Rb.refl _, e32⟩
      refine Owed.cons ?_ ?_
      · -- 7: slot 34 := Op.move (Operand.tmp 5)
        intro a w hR F
        have e33 : a.eval (.tmp 33) = .bool false := F.new 6 33 (by kernel_rfl)
        exact ok_skip (wanted_false (j := 6) (d := 33) rfl (by kernel_rfl) e33) ⟨Rb.refl _, rfl⟩
      refine Owed.cons ?_ ?_
      · -- 8: slot 35 := Op.binOp BinOp.neq 25 (Operand.tmp 34) (Operand.const (Value.int IntKind.u32 0)) 25
        intro a w hR F
        have e33 : a.eval (.tmp 33) = .bool false := F.new 6 33 (by kernel_rfl)
        exact ok_skip (wanted_false (j := 6) (d := 33) rfl (by kernel_rfl) e33) ⟨Rb.refl _, rfl⟩
      refine Owed.cons ?_ ?_
      · -- 9: slot 36 := Op.move (Operand.tmp 35)
        intro a w hR F
        have e33 : a.eval (.tmp 33) = .bool false := F.new 6 33 (by kernel_rfl)
        exact ok_skip (wanted_false (j := 6) (d := 33) rfl (by kernel_rfl) e33) ⟨Rb.refl _, rfl⟩
      refine Owed.cons ?_ ?_
      · -- 10: slot 37 := Op.move (Operand.tmp 6)
        intro a w hR F
        have e36 : a.eval (.tmp 36) = undef := F.new 9 36 (by kernel_rfl)
        exact ok_skip (wanted_undef (j := 9) (d := 36) rfl (by kernel_rfl) e36) ⟨Rb.refl _, rfl⟩
      refine Owed.cons ?_ ?_
      · -- 11: slot 38 := Op.binOp BinOp.neq 3 (Operand.tmp 37) (Operand.const (Value.int IntKind.i64 0)) 3
        intro a w hR F
        have e36 : a.eval (.tmp 36) = undef := F.new 9 36 (by kernel_rfl)
        exact ok_skip (wanted_undef (j := 9) (d := 36) rfl (by kernel_rfl) e36) ⟨Rb.refl _, rfl⟩
      refine Owed.cons ?_ ?_
      · -- 12: slot 39 := Op.pick (Operand.tmp 36) (Operand.const (Value.bool true)) (Operand.tmp 38)
        intro a w hR F
        have e33 : a.eval (.tmp 33) = .bool false := F.new 6 33 (by kernel_rfl)
        exact ok_skip (wanted_false (j := 6) (d := 33) rfl (by kernel_rfl) e33) ⟨Rb.refl _, rfl⟩
      refine Owed.cons ?_ ?_
      · -- 13: slot 40 := Op.pick (Operand.tmp 33) (Operand.tmp 39) (Operand.const (Value.bool false))
        intro a w hR F
        have e30 : a.eval (.tmp 30) = .bool false := F.new 3 30 (by kernel_rfl)
        have e33 : a.eval (.tmp 33) = .bool false := F.new 6 33 (by kernel_rfl)
        exact ok_pick _ _ _ false rfl (wanted_true (j := 3) (d := 30) rfl (by kernel_rfl) e30) e33 ⟨Rb.refl _, rfl⟩
      refine Owed.cons ?_ ?_
      · -- 14: slot 41 := Op.pick (Operand.tmp 30) (Operand.const (Value.bool true)) (Operand.tmp 40)
        intro a w hR F
        have e30 : a.eval (.tmp 30) = .bool false := F.new 3 30 (by kernel_rfl)
        have e40 : a.eval (.tmp 40) = .bool false := F.new 13 40 (by kernel_rfl)
        exact ok_pick _ _ _ false rfl (wanted_none rfl) e30 ⟨Rb.refl _, e40⟩
      refine Owed.cons ?_ ?_
      · -- 15: slot 42 := Op.move (Operand.tmp 41)
        intro a w hR F
        have e41 : a.eval (.tmp 41) = .bool false := F.new 14 41 (by kernel_rfl)
        exact ok_move _ rfl (wanted_none rfl) ⟨Rb.refl _, e41⟩
      refine Owed.cons ?_ ?_
      · -- 16: slot 43 := Op.move (Operand.tmp 7)
        intro a w hR F
        have e42 : a.eval (.tmp 42) = .bool false := F.new 15 42 (by kernel_rfl)
        have e7 : a.eval (.tmp 7) = .bool true := F.old 7 (by kernel_rfl)
        exact ok_move _ rfl (wanted_true (j := 15) (d := 42) rfl (by kernel_rfl) e42) ⟨Rb.refl _, e7⟩
      refine Owed.cons ?_ ?_
      · -- 17: slot 44 := Op.move (Operand.tmp 43)
        intro a w hR F
        have e42 : a.eval (.tmp 42) = .bool false := F.new 15 42 (by kernel_rfl)
        have e43 : a.eval (.tmp 43) = .bool true := F.new 16 43 (by kernel_rfl)
        exact ok_move _ rfl (wanted_true (j := 15) (d := 42) rfl (by kernel_rfl) e42) ⟨Rb.refl _, e43⟩
      refine Owed.cons ?_ ?_
      · -- 18: slot 45 := Op.move (Operand.tmp 6)
        intro a w hR F
        have e44 : a.eval (.tmp 44) = .bool true := F.new 17 44 (by kernel_rfl)
        have e6 : a.eval (.tmp 6) = .int .i64 ((j : Int) + 4) := F.old 6 (by kernel_rfl)
        exact ok_move _ rfl (wanted_true (j := 17) (d := 44) rfl (by kernel_rfl) e44) ⟨Rb.refl _, e6⟩
      refine Owed.cons ?_ ?_
      · -- 19: slot 46 := Op.move (Operand.tmp 1)
        intro a w hR F
        have e44 : a.eval (.tmp 44) = .bool true := F.new 17 44 (by kernel_rfl)
        have e1 : a.eval (.tmp 1) = .int .i64 ((j : Int)) := F.old 1 (by kernel_rfl)
        exact ok_move _ rfl (wanted_true (j := 17) (d := 44) rfl (by kernel_rfl) e44) ⟨Rb.refl _, e1⟩
      refine Owed.cons ?_ ?_
      · -- 20: slot 47 := Op.binOp BinOp.add 3 (Operand.tmp 46) (Operand.const (Value.int IntKind.i64 4)) 3
        intro a w hR F
        have e44 : a.eval (.tmp 44) = .bool true := F.new 17 44 (by kernel_rfl)
        have e46 : a.eval (.tmp 46) = .int .i64 ((j : Int)) := F.new 19 46 (by kernel_rfl)
        exact ok_bin _ _ _ _ _ rfl (wanted_true (j := 17) (d := 44) rfl (by kernel_rfl) e44) e46 rfl (run_add_i64 _ _ _ _ _ (by omega) (by omega)) ⟨Rb.refl _, rfl⟩
      refine Owed.cons ?_ ?_
      · -- 21: slot 48 := Op.binOp BinOp.neq 3 (Operand.tmp 45) (Operand.tmp 47) 3
        intro a w hR F
        have e44 : a.eval (.tmp 44) = .bool true := F.new 17 44 (by kernel_rfl)
        have e45 : a.eval (.tmp 45) = .int .i64 ((j : Int) + 4) := F.new 18 45 (by kernel_rfl)
        have e47 : a.eval (.tmp 47) = .int .i64 (((j : Int)) + 4) := F.new 20 47 (by kernel_rfl)
        refine ok_bin _ _ _ _ _ rfl (wanted_true (j := 17) (d := 44) rfl (by kernel_rfl) e44) e45 e47 (run_neq_int _ _ _ _ _ _) ⟨Rb.refl _, ?_⟩
        exact congrArg Value.bool (by simp)
      refine Owed.cons ?_ ?_
      · -- 22: slot 49 := Op.move (Operand.tmp 48)
        intro a w hR F
        have e44 : a.eval (.tmp 44) = .bool true := F.new 17 44 (by kernel_rfl)
        have e48 : a.eval (.tmp 48) = .bool false := F.new 21 48 (by kernel_rfl)
        exact ok_move _ rfl (wanted_true (j := 17) (d := 44) rfl (by kernel_rfl) e44) ⟨Rb.refl _, e48⟩
      refine Owed.cons ?_ ?_
      · -- 23: slot 50 := Op.move (Operand.tmp 5)
        intro a w hR F
        have e49 : a.eval (.tmp 49) = .bool false := F.new 22 49 (by kernel_rfl)
        have e5 : a.eval (.tmp 5) = .int .u32 ((wacc ys 4 : Int)) := F.old 5 (by kernel_rfl)
        exact ok_move _ rfl (wanted_true (j := 22) (d := 49) rfl (by kernel_rfl) e49) ⟨Rb.refl _, e5⟩
      refine Owed.cons ?_ ?_
      · -- 24: slot 51 := Op.call { callee := Callee.value (Operand.func 17), args := #[Operand.tmp 50], argTypes := #[25] }
        intro a w hR F
        have e49 : a.eval (.tmp 49) = .bool false := F.new 22 49 (by kernel_rfl)
        have e50 : a.eval (.tmp 50) = .int .u32 ((wacc ys 4 : Int)) := F.new 23 50 (by kernel_rfl)
        refine ok_call 17 _ _ #[.int .u32 ((wacc ys 4 : Int))] rfl (wanted_true (j := 22) (d := 49) rfl (by kernel_rfl) e49) (by simp [e50]) (Try.call17 _ _) ?_
        exact put_call (refword_nat (wacc ys 4) w hw4)
      refine Owed.cons ?_ ?_
      · -- 25: slot 52 := Op.convert 22 9 (Operand.tmp 51)
        intro a w hR F
        have e49 : a.eval (.tmp 49) = .bool false := F.new 22 49 (by kernel_rfl)
        have e51 : Bs w (a.eval (.tmp 51)) (wordB (wacc ys 4)) := F.new 24 51 (by kernel_rfl)
        exact ok_conv _ _ _ rfl (wanted_true (j := 22) (d := 49) rfl (by kernel_rfl) e49) (run_convert_Bs e51 22 5 9 Try.underlying22 Try.underlying5 Try.underlying9) ⟨Rb.refl _, rfl⟩
      refine Owed.cons ?_ ?_
      · -- 26: slot 53 := Op.move (Operand.tmp 0)
        intro a w hR F
        have e49 : a.eval (.tmp 49) = .bool false := F.new 22 49 (by kernel_rfl)
        have e0 : a.eval (.tmp 0) = v := F.old 0 (by kernel_rfl)
        exact ok_move _ rfl (wanted_true (j := 22) (d := 49) rfl (by kernel_rfl) e49) ⟨Rb.refl _, e0⟩
      refine Owed.cons ?_ ?_
      · -- 27: slot 54 := Op.move (Operand.tmp 1)
        intro a w hR F
        have e49 : a.eval (.tmp 49) = .bool false := F.new 22 49 (by kernel_rfl)
        have e1 : a.eval (.tmp 1) = .int .i64 ((j : Int)) := F.old 1 (by kernel_rfl)
        exact ok_move _ rfl (wanted_true (j := 22) (d := 49) rfl (by kernel_rfl) e49) ⟨Rb.refl _, e1⟩
      refine Owed.cons ?_ ?_
      · -- 28: slot 55 := Op.move (Operand.tmp 6)
        intro a w hR F
        have e49 : a.eval (.tmp 49) = .bool false := F.new 22 49 (by kernel_rfl)
        have e6 : a.eval (.tmp 6) = .int .i64 ((j : Int) + 4) := F.old 6 (by kernel_rfl)
        exact ok_move _ rfl (wanted_true (j := 22) (d := 49) rfl (by kernel_rfl) e49) ⟨Rb.refl _, e6⟩
      refine Owed.cons ?_ ?_
      · -- 29: slot 56 := Op.slice 22 (Operand.tmp 53) (some (Operand.tmp 54)) (some (Operand.tmp 55)) none
        intro a w hR F
        have e49 : a.eval (.tmp 49) = .bool false := F.new 22 49 (by kernel_rfl)
        have e53 : a.eval (.tmp 53) = v := F.new 26 53 (by kernel_rfl)
        have e54 : a.eval (.tmp 54) = .int .i64 ((j : Int)) := F.new 27 54 (by kernel_rfl)
        have e55 : a.eval (.tmp 55) = .int .i64 ((j : Int) + 4) := F.new 28 55 (by kernel_rfl)
        refine ok_slice_bs _ 5 _ _ _ (xs) (j) (j + 4) rfl (wanted_true (j := 22) (d := 49) rfl (by kernel_rfl) e49) Try.underlying22 sizeOf8 (by rw [e53]; exact HX.out.below hR) (e54) (by rw [e55]; exact congrArg (Value.int .i64) (by omega)) (by omega) (by omega) (fun v hv => ⟨Rb.refl _, ?_⟩)
        exact by have h := hv; rw [show j + 4 - j = 4 by omega, ← Hys.out] at h; exact h
      refine Owed.cons ?_ ?_
      · -- 30: slot 57 := Op.convert 22 9 (Operand.tmp 56)
        intro a w hR F
        have e49 : a.eval (.tmp 49) = .bool false := F.new 22 49 (by kernel_rfl)
        have e56 : Bs w (a.eval (.tmp 56)) (ys.take 4) := F.new 29 56 (by kernel_rfl)
        exact ok_conv _ _ _ rfl (wanted_true (j := 22) (d := 49) rfl (by kernel_rfl) e49) (run_convert_Bs e56 22 5 9 Try.underlying22 Try.underlying5 Try.underlying9) ⟨Rb.refl _, rfl⟩
      refine Owed.cons ?_ ?_
      · -- 31: slot 58 := Op.binOp BinOp.neq 9 (Operand.tmp 52) (Operand.tmp 57) 9
        intro a w hR F
        have e49 : a.eval (.tmp 49) = .bool false := F.new 22 49 (by kernel_rfl)
        have e52 : a.eval (.tmp 52) = strV (wordB (wacc ys 4)) := F.new 25 52 (by kernel_rfl)
        have e57 : a.eval (.tmp 57) = strV (ys.take 4) := F.new 30 57 (by kernel_rfl)
        refine ok_bin _ _ _ _ _ rfl (wanted_true (j := 22) (d := 49) rfl (by kernel_rfl) e49) e52 e57 (run_neq_strV _ _ _ _ _) ⟨Rb.refl _, ?_⟩
        exact congrArg Value.bool (by rw [word_take ys hy4]; simp)
      refine Owed.cons ?_ ?_
      · -- 32: slot 59 := Op.pick (Operand.tmp 49) (Operand.const (Value.bool true)) (Operand.tmp 58)
        intro a w hR F
        have e44 : a.eval (.tmp 44) = .bool true := F.new 17 44 (by kernel_rfl)
        have e49 : a.eval (.tmp 49) = .bool false := F.new 22 49 (by kernel_rfl)
        have e58 : a.eval (.tmp 58) = .bool false := F.new 31 58 (by kernel_rfl)
        exact ok_pick _ _ _ false rfl (wanted_true (j := 17) (d := 44) rfl (by kernel_rfl) e44) e49 ⟨Rb.refl _, e58⟩
      refine Owed.cons ?_ ?_
      · -- 33: slot 60 := Op.pick (Operand.tmp 44) (Operand.tmp 59) (Operand.const (Value.bool false))
        intro a w hR F
        have e42 : a.eval (.tmp 42) = .bool false := F.new 15 42 (by kernel_rfl)
        have e44 : a.eval (.tmp 44) = .bool true := F.new 17 44 (by kernel_rfl)
        have e59 : a.eval (.tmp 59) = .bool false := F.new 32 59 (by kernel_rfl)
        exact ok_pick _ _ _ true rfl (wanted_true (j := 15) (d := 42) rfl (by kernel_rfl) e42) e44 ⟨Rb.refl _, e59⟩
      refine Owed.cons ?_ ?_
      · -- 34: slot 61 := Op.pick (Operand.tmp 42) (Operand.const (Value.bool true)) (Operand.tmp 60)
        intro a w hR F
        have e42 : a.eval (.tmp 42) = .bool false := F.new 15 42 (by kernel_rfl)
        have e60 : a.eval (.tmp 60) = .bool false := F.new 33 60 (by kernel_rfl)
        exact ok_pick _ _ _ false rfl (wanted_none rfl) e42 ⟨Rb.refl _, e60⟩
      exact Owed.nil
    case fin =>
      intro y w2 hR hy
      have e34 : y 34 = .bool false := hy 34 _ rfl
      have HR := Lib.hid hR
      clear hy hR
      simp only [putAll, Act.put, List.setIfInBounds_toArray, List.set_cons_zero, List.set_cons_succ]
      rw [e34]
      go_wp2_with fail
      refine (sum_any v xs _ (HX.out.below HR.out) hl2).mono ?_
      rintro e w' ⟨rfl, rfl⟩
      go_wp2_with fail
      refine (refsum_any v xs _ (HX.out.below HR.out) hl2).mono ?_
      rintro e w' ⟨rfl, rfl⟩
      have hsum : ((sumN xs : Int) == (sumN xs : Int)) = true := by simp
      go_wp2_with fail
      refine (lives_any _).mono ?_
      rintro e w4 ⟨rfl, hb4⟩
      have HB4 := Lib.hid (Below.trans HR.out (hb4.mono HR.out.size))
      clear hb4
      go_wp2_with fail
      go_ret
      exact ⟨rfl, HB4.out⟩
  · rw [if_neg h]
    by_cases hn : 0 ≤ i
    · have hq : decide (i ≤ (xs.length : Int) - 4) = false := by simp; omega
      clear h
      go_wp2_with fail
      refine wp_region_specs (R := Rb) (S := [Spec.eq (.bool false), Spec.eq (.bool false), Spec.eq (.bool false), Spec.eq (.bool false), Spec.eq (.bool false), Spec.eq (.bool true), Spec.eq (.bool true), Spec.eq (.int .u32 (0)), Spec.eq (.bool false), Spec.eq (.bool false), Spec.eq (.int .i64 (0)), Spec.eq (.bool false), Spec.eq (.bool false), Spec.eq (.bool false), Spec.eq (.bool false), Spec.eq (.bool false), Spec.eq (.bool false), Spec.eq (.bool false), Spec.eq (undef), Spec.eq (undef), Spec.eq (undef), Spec.eq (undef), Spec.eq (undef), Spec.eq (undef), Spec.eq (undef), Spec.eq (undef), Spec.eq (undef), Spec.eq (undef), Spec.eq (undef), Spec.eq (undef), Spec.eq (undef), Spec.eq (undef), Spec.eq (undef), Spec.eq (.bool false), Spec.eq (.bool false)]) (n := 1) (size := 70) (by kernel_rfl) Rb.trans (Rb.drew _) rfl (by kernel_rfl) ?owed ?fin
      case owed =>
        refine Owed.cons ?_ ?_
        · -- 0: slot 27 := Op.move (Operand.tmp 7)
          intro a w hR F
          have e7 : a.eval (.tmp 7) = .bool false := F.old 7 (by kernel_rfl)
          exact ok_move _ rfl (wanted_none rfl) ⟨Rb.refl _, e7⟩
        refine Owed.cons ?_ ?_
        · -- 1: slot 28 := Op.move (Operand.tmp 8)
          intro a w hR F
          have e8 : a.eval (.tmp 8) = .bool false := F.old 8 (by kernel_rfl)
          exact ok_move _ rfl (wanted_none rfl) ⟨Rb.refl _, e8⟩
        refine Owed.cons ?_ ?_
        · -- 2: slot 29 := Op.binOp BinOp.neq 4 (Operand.tmp 27) (Operand.tmp 28) 4
          intro a w hR F
          have e27 : a.eval (.tmp 27) = .bool false := F.new 0 27 (by kernel_rfl)
          have e28 : a.eval (.tmp 28) = .bool false := F.new 1 28 (by kernel_rfl)
          refine ok_bin _ _ _ _ _ rfl (wanted_none rfl) e27 e28 (run_neq_boolB _ _ _ _ _ Try.underlying4) ⟨Rb.refl _, ?_⟩
          exact congrArg Value.bool (by simp)
        refine Owed.cons ?_ ?_
        · -- 3: slot 30 := Op.move (Operand.tmp 29)
          intro a w hR F
          have e29 : a.eval (.tmp 29) = .bool false := F.new 2 29 (by kernel_rfl)
          exact ok_move _ rfl (wanted_none rfl) ⟨Rb.refl _, e29⟩
        refine Owed.cons ?_ ?_
        · -- 4: slot 31 := Op.move (Operand.tmp 7)
          intro a w hR F
          have e30 : a.eval (.tmp 30) = .bool false := F.new 3 30 (by kernel_rfl)
          have e7 : a.eval (.tmp 7) = .bool false := F.old 7 (by kernel_rfl)
          exact ok_move _ rfl (wanted_true (j := 3) (d := 30) rfl (by kernel_rfl) e30) ⟨Rb.refl _, e7⟩
        refine Owed.cons ?_ ?_
        · -- 5: slot 32 := Op.unOp UnOp.not 4 (Operand.tmp 31)
          intro a w hR F
          have e30 : a.eval (.tmp 30) = .bool false := F.new 3 30 (by kernel_rfl)
          have e31 : a.eval (.tmp 31) = .bool false := F.new 4 31 (by kernel_rfl)
          exact ok_not _ _ false rfl (wanted_true (j := 3) (d := 30) rfl (by kernel_rfl) e30) e31 ⟨Rb.refl _, rfl⟩
        refine Owed.cons ?_ ?_
        · -- 6: slot 33 := Op.move (Operand.tmp 32)
          intro a w hR F
          have e30 : a.eval (.tmp 30) = .bool false := F.new 3 30 (by kernel_rfl)
          have e32 : a.eval (.tmp 32) = .bool true := F.new 5 32 (by kernel_rfl)
          exact ok_move _ rfl (wanted_true (j := 3) (d := 30) rfl (by kernel_rfl) e30) ⟨Rb.refl _, e32⟩
        refine Owed.cons ?_ ?_
        · -- 7: slot 34 := Op.move (Operand.tmp 5)
          intro a w hR F
          have e33 : a.eval (.tmp 33) = .bool true := F.new 6 33 (by kernel_rfl)
          have e5 : a.eval (.tmp 5) = .int .u32 (0) := F.old 5 (by kernel_rfl)
          exact ok_move _ rfl (wanted_true (j := 6) (d := 33) rfl (by kernel_rfl) e33) ⟨Rb.refl _, e5⟩
        refine Owed.cons ?_ ?_
        · -- 8: slot 35 := Op.binOp BinOp.neq 25 (Operand.tmp 34) (Operand.const (Value.int IntKind.u32 0)) 25
          intro a w hR F
          have e33 : a.eval (.tmp 33) = .bool true := F.new 6 33 (by kernel_rfl)
          have e34 : a.eval (.tmp 34) = .int .u32 (0) := F.new 7 34 (by kernel_rfl)
          refine ok_bin _ _ _ _ _ rfl (wanted_true (j := 6) (d := 33) rfl (by kernel_rfl) e33) e34 rfl (run_neq_int _ _ _ _ _ _) ⟨Rb.refl _, ?_⟩
          exact congrArg Value.bool (by simp)
        refine Owed.cons ?_ ?_
        · -- 9: slot 36 := Op.move (Operand.tmp 35)
          intro a w hR F
          have e33 : a.eval (.tmp 33) = .bool true := F.new 6 33 (by kernel_rfl)
          have e35 : a.eval (.tmp 35) = .bool false := F.new 8 35 (by kernel_rfl)
          exact ok_move _ rfl (wanted_true (j := 6) (d := 33) rfl (by kernel_rfl) e33) ⟨Rb.refl _, e35⟩
        refine Owed.cons ?_ ?_
        · -- 10: slot 37 := Op.move (Operand.tmp 6)
          intro a w hR F
          have e36 : a.eval (.tmp 36) = .bool false := F.new 9 36 (by kernel_rfl)
          have e6 : a.eval (.tmp 6) = .int .i64 (0) := F.old 6 (by kernel_rfl)
          exact ok_move _ rfl (wanted_true (j := 9) (d := 36) rfl (by kernel_rfl) e36) ⟨Rb.refl _, e6⟩
        refine Owed.cons ?_ ?_
        · -- 11: slot 38 := Op.binOp BinOp.neq 3 (Operand.tmp 37) (Operand.const (Value.int IntKind.i64 0)) 3
          intro a w hR F
          have e36 : a.eval (.tmp 36) = .bool false := F.new 9 36 (by kernel_rfl)
          have e37 : a.eval (.tmp 37) = .int .i64 (0) := F.new 10 37 (by kernel_rfl)
          refine ok_bin _ _ _ _ _ rfl (wanted_true (j := 9) (d := 36) rfl (by kernel_rfl) e36) e37 rfl (run_neq_int _ _ _ _ _ _) ⟨Rb.refl _, ?_⟩
          exact congrArg Value.bool (by simp)
        refine Owed.cons ?_ ?_
        · -- 12: slot 39 := Op.pick (Operand.tmp 36) (Operand.const (Value.bool true)) (Operand.tmp 38)
          intro a w hR F
          have e33 : a.eval (.tmp 33) = .bool true := F.new 6 33 (by kernel_rfl)
          have e36 : a.eval (.tmp 36) = .bool false := F.new 9 36 (by kernel_rfl)
          have e38 : a.eval (.tmp 38) = .bool false := F.new 11 38 (by kernel_rfl)
          exact ok_pick _ _ _ false rfl (wanted_true (j := 6) (d := 33) rfl (by kernel_rfl) e33) e36 ⟨Rb.refl _, e38⟩
        refine Owed.cons ?_ ?_
        · -- 13: slot 40 := Op.pick (Operand.tmp 33) (Operand.tmp 39) (Operand.const (Value.bool false))
          intro a w hR F
          have e30 : a.eval (.tmp 30) = .bool false := F.new 3 30 (by kernel_rfl)
          have e33 : a.eval (.tmp 33) = .bool true := F.new 6 33 (by kernel_rfl)
          have e39 : a.eval (.tmp 39) = .bool false := F.new 12 39 (by kernel_rfl)
          exact ok_pick _ _ _ true rfl (wanted_true (j := 3) (d := 30) rfl (by kernel_rfl) e30) e33 ⟨Rb.refl _, e39⟩
        refine Owed.cons ?_ ?_
        · -- 14: slot 41 := Op.pick (Operand.tmp 30) (Operand.const (Value.bool true)) (Operand.tmp 40)
          intro a w hR F
          have e30 : a.eval (.tmp 30) = .bool false := F.new 3 30 (by kernel_rfl)
          have e40 : a.eval (.tmp 40) = .bool false := F.new 13 40 (by kernel_rfl)
          exact ok_pick _ _ _ false rfl (wanted_none rfl) e30 ⟨Rb.refl _, e40⟩
        refine Owed.cons ?_ ?_
        · -- 15: slot 42 := Op.move (Operand.tmp 41)
          intro a w hR F
          have e41 : a.eval (.tmp 41) = .bool false := F.new 14 41 (by kernel_rfl)
          exact ok_move _ rfl (wanted_none rfl) ⟨Rb.refl _, e41⟩
        refine Owed.cons ?_ ?_
        · -- 16: slot 43 := Op.move (Operand.tmp 7)
          intro a w hR F
          have e42 : a.eval (.tmp 42) = .bool false := F.new 15 42 (by kernel_rfl)
          have e7 : a.eval (.tmp 7) = .bool false := F.old 7 (by kernel_rfl)
          exact ok_move _ rfl (wanted_true (j := 15) (d := 42) rfl (by kernel_rfl) e42) ⟨Rb.refl _, e7⟩
        refine Owed.cons ?_ ?_
        · -- 17: slot 44 := Op.move (Operand.tmp 43)
          intro a w hR F
          have e42 : a.eval (.tmp 42) = .bool false := F.new 15 42 (by kernel_rfl)
          have e43 : a.eval (.tmp 43) = .bool false := F.new 16 43 (by kernel_rfl)
          exact ok_move _ rfl (wanted_true (j := 15) (d := 42) rfl (by kernel_rfl) e42) ⟨Rb.refl _, e43⟩
        refine Owed.cons ?_ ?_
        · -- 18: slot 45 := Op.move (Operand.tmp 6)
          intro a w hR F
          have e44 : a.eval (.tmp 44) = .bool false := F.new 17 44 (by kernel_rfl)
          exact ok_skip (wanted_false (j := 17) (d := 44) rfl (by kernel_rfl) e44) ⟨Rb.refl _, rfl⟩
        refine Owed.cons ?_ ?_
        · -- 19: slot 46 := Op.move (Operand.tmp 1)
          intro a w hR F
          have e44 : a.eval (.tmp 44) = .bool false := F.new 17 44 (by kernel_rfl)
          exact ok_skip (wanted_false (j := 17) (d := 44) rfl (by kernel_rfl) e44) ⟨Rb.refl _, rfl⟩
        refine Owed.cons ?_ ?_
        · -- 20: slot 47 := Op.binOp BinOp.add 3 (Operand.tmp 46) (Operand.const (Value.int IntKind.i64 4)) 3
          intro a w hR F
          have e44 : a.eval (.tmp 44) = .bool false := F.new 17 44 (by kernel_rfl)
          exact ok_skip (wanted_false (j := 17) (d := 44) rfl (by kernel_rfl) e44) ⟨Rb.refl _, rfl⟩
        refine Owed.cons ?_ ?_
        · -- 21: slot 48 := Op.binOp BinOp.neq 3 (Operand.tmp 45) (Operand.tmp 47) 3
          intro a w hR F
          have e44 : a.eval (.tmp 44) = .bool false := F.new 17 44 (by kernel_rfl)
          exact ok_skip (wanted_false (j := 17) (d := 44) rfl (by kernel_rfl) e44) ⟨Rb.refl _, rfl⟩
        refine Owed.cons ?_ ?_
        · -- 22: slot 49 := Op.move (Operand.tmp 48)
          intro a w hR F
          have e44 : a.eval (.tmp 44) = .bool false := F.new 17 44 (by kernel_rfl)
          exact ok_skip (wanted_false (j := 17) (d := 44) rfl (by kernel_rfl) e44) ⟨Rb.refl _, rfl⟩
        refine Owed.cons ?_ ?_
        · -- 23: slot 50 := Op.move (Operand.tmp 5)
          intro a w hR F
          have e49 : a.eval (.tmp 49) = undef := F.new 22 49 (by kernel_rfl)
          exact ok_skip (wanted_undef (j := 22) (d := 49) rfl (by kernel_rfl) e49) ⟨Rb.refl _, rfl⟩
        refine Owed.cons ?_ ?_
        · -- 24: slot 51 := Op.call { callee := Callee.value (Operand.func 17), args := #[Operand.tmp 50], argTypes := #[25] }
          intro a w hR F
          have e49 : a.eval (.tmp 49) = undef := F.new 22 49 (by kernel_rfl)
          exact ok_skip (wanted_undef (j := 22) (d := 49) rfl (by kernel_rfl) e49) ⟨Rb.refl _, rfl⟩
        refine Owed.cons ?_ ?_
        · -- 25: slot 52 := Op.convert 22 9 (Operand.tmp 51)
          intro a w hR F
          have e49 : a.eval (.tmp 49) = undef := F.new 22 49 (by kernel_rfl)
          exact ok_skip (wanted_undef (j := 22) (d := 49) rfl (by kernel_rfl) e49) ⟨Rb.refl _, rfl⟩
        refine Owed.cons ?_ ?_
        · -- 26: slot 53 := Op.move (Operand.tmp 0)
          intro a w hR F
          have e49 : a.eval (.tmp 49) = undef := F.new 22 49 (by kernel_rfl)
          exact ok_skip (wanted_undef (j := 22) (d := 49) rfl (by kernel_rfl) e49) ⟨Rb.refl _, rfl⟩
        refine Owed.cons ?_ ?_
        · -- 27: slot 54 := Op.move (Operand.tmp 1)
          intro a w hR F
          have e49 : a.eval (.tmp 49) = undef := F.new 22 49 (by kernel_rfl)
          exact ok_skip (wanted_undef (j := 22) (d := 49) rfl (by kernel_rfl) e49) ⟨Rb.refl _, rfl⟩
        refine Owed.cons ?_ ?_
        · -- 28: slot 55 := Op.move (Operand.tmp 6)
          intro a w hR F
          have e49 : a.eval (.tmp 49) = undef := F.new 22 49 (by kernel_rfl)
          exact ok_skip (wanted_undef (j := 22) (d := 49) rfl (by kernel_rfl) e49) ⟨Rb.refl _, rfl⟩
        refine Owed.cons ?_ ?_
        · -- 29: slot 56 := Op.slice 22 (Operand.tmp 53) (some (Operand.tmp 54)) (some (Operand.tmp 55)) none
          intro a w hR F
          have e49 : a.eval (.tmp 49) = undef := F.new 22 49 (by kernel_rfl)
          exact ok_skip (wanted_undef (j := 22) (d := 49) rfl (by kernel_rfl) e49) ⟨Rb.refl _, rfl⟩
        refine Owed.cons ?_ ?_
        · -- 30: slot 57 := Op.convert 22 9 (Operand.tmp 56)
          intro a w hR F
          have e49 : a.eval (.tmp 49) = undef := F.new 22 49 (by kernel_rfl)
          exact ok_skip (wanted_undef (j := 22) (d := 49) rfl (by kernel_rfl) e49) ⟨Rb.refl _, rfl⟩
        refine Owed.cons ?_ ?_
        · -- 31: slot 58 := Op.binOp BinOp.neq 9 (Operand.tmp 52) (Operand.tmp 57) 9
          intro a w hR F
          have e49 : a.eval (.tmp 49) = undef := F.new 22 49 (by kernel_rfl)
          exact ok_skip (wanted_undef (j := 22) (d := 49) rfl (by kernel_rfl) e49) ⟨Rb.refl _, rfl⟩
        refine Owed.cons ?_ ?_
        · -- 32: slot 59 := Op.pick (Operand.tmp 49) (Operand.const (Value.bool true)) (Operand.tmp 58)
          intro a w hR F
          have e44 : a.eval (.tmp 44) = .bool false := F.new 17 44 (by kernel_rfl)
          exact ok_skip (wanted_false (j := 17) (d := 44) rfl (by kernel_rfl) e44) ⟨Rb.refl _, rfl⟩
        refine Owed.cons ?_ ?_
        · -- 33: slot 60 := Op.pick (Operand.tmp 44) (Operand.tmp 59) (Operand.const (Value.bool false))
          intro a w hR F
          have e42 : a.eval (.tmp 42) = .bool false := F.new 15 42 (by kernel_rfl)
          have e44 : a.eval (.tmp 44) = .bool false := F.new 17 44 (by kernel_rfl)
          exact ok_pick _ _ _ false rfl (wanted_true (j := 15) (d := 42) rfl (by kernel_rfl) e42) e44 ⟨Rb.refl _, rfl⟩
        refine Owed.cons ?_ ?_
        · -- 34: slot 61 := Op.pick (Operand.tmp 42) (Operand.const (Value.bool true)) (Operand.tmp 60)
          intro a w hR F
          have e42 : a.eval (.tmp 42) = .bool false := F.new 15 42 (by kernel_rfl)
          have e60 : a.eval (.tmp 60) = .bool false := F.new 33 60 (by kernel_rfl)
          exact ok_pick _ _ _ false rfl (wanted_none rfl) e42 ⟨Rb.refl _, e60⟩
        exact Owed.nil
      case fin =>
        intro y w2 hR hy
        have e34 : y 34 = .bool false := hy 34 _ rfl
        have HR := Lib.hid hR
        clear hy hR
        simp only [putAll, Act.put, List.setIfInBounds_toArray, List.set_cons_zero, List.set_cons_succ]
        rw [e34]
        go_wp2_with fail
        refine (sum_any v xs _ (HX.out.below HR.out) hl2).mono ?_
        rintro e w' ⟨rfl, rfl⟩
        go_wp2_with fail
        refine (refsum_any v xs _ (HX.out.below HR.out) hl2).mono ?_
        rintro e w' ⟨rfl, rfl⟩
        have hsum : ((sumN xs : Int) == (sumN xs : Int)) = true := by simp
        go_wp2_with fail
        refine (lives_any _).mono ?_
        rintro e w4 ⟨rfl, hb4⟩
        have HB4 := Lib.hid (Below.trans HR.out (hb4.mono HR.out.size))
        clear hb4
        go_wp2_with fail
        go_ret
        exact ⟨rfl, HB4.out⟩
    · clear h
      go_wp2_with fail
      refine wp_region_specs (R := Rb) (S := [Spec.eq (.bool false), Spec.eq (.bool false), Spec.eq (.bool false), Spec.eq (.bool false), Spec.eq (.bool false), Spec.eq (.bool true), Spec.eq (.bool true), Spec.eq (.int .u32 (0)), Spec.eq (.bool false), Spec.eq (.bool false), Spec.eq (.int .i64 (0)), Spec.eq (.bool false), Spec.eq (.bool false), Spec.eq (.bool false), Spec.eq (.bool false), Spec.eq (.bool false), Spec.eq (.bool false), Spec.eq (.bool false), Spec.eq (undef), Spec.eq (undef), Spec.eq (undef), Spec.eq (undef), Spec.eq (undef), Spec.eq (undef), Spec.eq (undef), Spec.eq (undef), Spec.eq (undef), Spec.eq (undef), Spec.eq (undef), Spec.eq (undef), Spec.eq (undef), Spec.eq (undef), Spec.eq (undef), Spec.eq (.bool false), Spec.eq (.bool false)]) (n := 1) (size := 70) (by kernel_rfl) Rb.trans (Rb.drew _) rfl (by kernel_rfl) ?owed ?fin
      case owed =>
        refine Owed.cons ?_ ?_
        · -- 0: slot 27 := Op.move (Operand.tmp 7)
          intro a w hR F
          have e7 : a.eval (.tmp 7) = .bool false := F.old 7 (by kernel_rfl)
          exact ok_move _ rfl (wanted_none rfl) ⟨Rb.refl _, e7⟩
        refine Owed.cons ?_ ?_
        · -- 1: slot 28 := Op.move (Operand.tmp 8)
          intro a w hR F
          have e8 : a.eval (.tmp 8) = .bool false := F.old 8 (by kernel_rfl)
          exact ok_move _ rfl (wanted_none rfl) ⟨Rb.refl _, e8⟩
        refine Owed.cons ?_ ?_
        · -- 2: slot 29 := Op.binOp BinOp.neq 4 (Operand.tmp 27) (Operand.tmp 28) 4
          intro a w hR F
          have e27 : a.eval (.tmp 27) = .bool false := F.new 0 27 (by kernel_rfl)
          have e28 : a.eval (.tmp 28) = .bool false := F.new 1 28 (by kernel_rfl)
          refine ok_bin _ _ _ _ _ rfl (wanted_none rfl) e27 e28 (run_neq_boolB _ _ _ _ _ Try.underlying4) ⟨Rb.refl _, ?_⟩
          exact congrArg Value.bool (by simp)
        refine Owed.cons ?_ ?_
        · -- 3: slot 30 := Op.move (Operand.tmp 29)
          intro a w hR F
          have e29 : a.eval (.tmp 29) = .bool false := F.new 2 29 (by kernel_rfl)
          exact ok_move _ rfl (wanted_none rfl) ⟨Rb.refl _, e29⟩
        refine Owed.cons ?_ ?_
        · -- 4: slot 31 := Op.move (Operand.tmp 7)
          intro a w hR F
          have e30 : a.eval (.tmp 30) = .bool false := F.new 3 30 (by kernel_rfl)
          have e7 : a.eval (.tmp 7) = .bool false := F.old 7 (by kernel_rfl)
          exact ok_move _ rfl (wanted_true (j := 3) (d := 30) rfl (by kernel_rfl) e30) ⟨Rb.refl _, e7⟩
        refine Owed.cons ?_ ?_
        · -- 5: slot 32 := Op.unOp UnOp.not 4 (Operand.tmp 31)
          intro a w hR F
          have e30 : a.eval (.tmp 30) = .bool false := F.new 3 30 (by kernel_rfl)
          have e31 : a.eval (.tmp 31) = .bool false := F.new 4 31 (by kernel_rfl)
          exact ok_not _ _ false rfl (wanted_true (j := 3) (d := 30) rfl (by kernel_rfl) e30) e31 ⟨Rb.refl _, rfl⟩
        refine Owed.cons ?_ ?_
        · -- 6: slot 33 := Op.move (Operand.tmp 32)
          intro a w hR F
          have e30 : a.eval (.tmp 30) = .bool false := F.new 3 30 (by kernel_rfl)
          have e32 : a.eval (.tmp 32) = .bool true := F.new 5 32 (by kernel_rfl)
          exact ok_move _ rfl (wanted_true (j := 3) (d := 30) rfl (by kernel_rfl) e30) ⟨Rb.refl _, e32⟩
        refine Owed.cons ?_ ?_
        · -- 7: slot 34 := Op.move (Operand.tmp 5)
          intro a w hR F
          have e33 : a.eval (.tmp 33) = .bool true := F.new 6 33 (by kernel_rfl)
          have e5 : a.eval (.tmp 5) = .int .u32 (0) := F.old 5 (by kernel_rfl)
          exact ok_move _ rfl (wanted_true (j := 6) (d := 33) rfl (by kernel_rfl) e33) ⟨Rb.refl _, e5⟩
        refine Owed.cons ?_ ?_
        · -- 8: slot 35 := Op.binOp BinOp.neq 25 (Operand.tmp 34) (Operand.const (Value.int IntKind.u32 0)) 25
          intro a w hR F
          have e33 : a.eval (.tmp 33) = .bool true := F.new 6 33 (by kernel_rfl)
          have e34 : a.eval (.tmp 34) = .int .u32 (0) := F.new 7 34 (by kernel_rfl)
          refine ok_bin _ _ _ _ _ rfl (wanted_true (j := 6) (d := 33) rfl (by kernel_rfl) e33) e34 rfl (run_neq_int _ _ _ _ _ _) ⟨Rb.refl _, ?_⟩
          exact congrArg Value.bool (by simp)
        refine Owed.cons ?_ ?_
        · -- 9: slot 36 := Op.move (Operand.tmp 35)
          intro a w hR F
          have e33 : a.eval (.tmp 33) = .bool true := F.new 6 33 (by kernel_rfl)
          have e35 : a.eval (.tmp 35) = .bool false := F.new 8 35 (by kernel_rfl)
          exact ok_move _ rfl (wanted_true (j := 6) (d := 33) rfl (by kernel_rfl) e33) ⟨Rb.refl _, e35⟩
        refine Owed.cons ?_ ?_
        · -- 10: slot 37 := Op.move (Operand.tmp 6)
          intro a w hR F
          have e36 : a.eval (.tmp 36) = .bool false := F.new 9 36 (by kernel_rfl)
          have e6 : a.eval (.tmp 6) = .int .i64 (0) := F.old 6 (by kernel_rfl)
          exact ok_move _ rfl (wanted_true (j := 9) (d := 36) rfl (by kernel_rfl) e36) ⟨Rb.refl _, e6⟩
        refine Owed.cons ?_ ?_
        · -- 11: slot 38 := Op.binOp BinOp.neq 3 (Operand.tmp 37) (Operand.const (Value.int IntKind.i64 0)) 3
          intro a w hR F
          have e36 : a.eval (.tmp 36) = .bool false := F.new 9 36 (by kernel_rfl)
          have e37 : a.eval (.tmp 37) = .int .i64 (0) := F.new 10 37 (by kernel_rfl)
          refine ok_bin _ _ _ _ _ rfl (wanted_true (j := 9) (d := 36) rfl (by kernel_rfl) e36) e37 rfl (run_neq_int _ _ _ _ _ _) ⟨Rb.refl _, ?_⟩
          exact congrArg Value.bool (by simp)
        refine Owed.cons ?_ ?_
        · -- 12: slot 39 := Op.pick (Operand.tmp 36) (Operand.const (Value.bool true)) (Operand.tmp 38)
          intro a w hR F
          have e33 : a.eval (.tmp 33) = .bool true := F.new 6 33 (by kernel_rfl)
          have e36 : a.eval (.tmp 36) = .bool false := F.new 9 36 (by kernel_rfl)
          have e38 : a.eval (.tmp 38) = .bool false := F.new 11 38 (by kernel_rfl)
          exact ok_pick _ _ _ false rfl (wanted_true (j := 6) (d := 33) rfl (by kernel_rfl) e33) e36 ⟨Rb.refl _, e38⟩
        refine Owed.cons ?_ ?_
        · -- 13: slot 40 := Op.pick (Operand.tmp 33) (Operand.tmp 39) (Operand.const (Value.bool false))
          intro a w hR F
          have e30 : a.eval (.tmp 30) = .bool false := F.new 3 30 (by kernel_rfl)
          have e33 : a.eval (.tmp 33) = .bool true := F.new 6 33 (by kernel_rfl)
          have e39 : a.eval (.tmp 39) = .bool false := F.new 12 39 (by kernel_rfl)
          exact ok_pick _ _ _ true rfl (wanted_true (j := 3) (d := 30) rfl (by kernel_rfl) e30) e33 ⟨Rb.refl _, e39⟩
        refine Owed.cons ?_ ?_
        · -- 14: slot 41 := Op.pick (Operand.tmp 30) (Operand.const (Value.bool true)) (Operand.tmp 40)
          intro a w hR F
          have e30 : a.eval (.tmp 30) = .bool false := F.new 3 30 (by kernel_rfl)
          have e40 : a.eval (.tmp 40) = .bool false := F.new 13 40 (by kernel_rfl)
          exact ok_pick _ _ _ false rfl (wanted_none rfl) e30 ⟨Rb.refl _, e40⟩
        refine Owed.cons ?_ ?_
        · -- 15: slot 42 := Op.move (Operand.tmp 41)
          intro a w hR F
          have e41 : a.eval (.tmp 41) = .bool false := F.new 14 41 (by kernel_rfl)
          exact ok_move _ rfl (wanted_none rfl) ⟨Rb.refl _, e41⟩
        refine Owed.cons ?_ ?_
        · -- 16: slot 43 := Op.move (Operand.tmp 7)
          intro a w hR F
          have e42 : a.eval (.tmp 42) = .bool false := F.new 15 42 (by kernel_rfl)
          have e7 : a.eval (.tmp 7) = .bool false := F.old 7 (by kernel_rfl)
          exact ok_move _ rfl (wanted_true (j := 15) (d := 42) rfl (by kernel_rfl) e42) ⟨Rb.refl _, e7⟩
        refine Owed.cons ?_ ?_
        · -- 17: slot 44 := Op.move (Operand.tmp 43)
          intro a w hR F
          have e42 : a.eval (.tmp 42) = .bool false := F.new 15 42 (by kernel_rfl)
          have e43 : a.eval (.tmp 43) = .bool false := F.new 16 43 (by kernel_rfl)
          exact ok_move _ rfl (wanted_true (j := 15) (d := 42) rfl (by kernel_rfl) e42) ⟨Rb.refl _, e43⟩
        refine Owed.cons ?_ ?_
        · -- 18: slot 45 := Op.move (Operand.tmp 6)
          intro a w hR F
          have e44 : a.eval (.tmp 44) = .bool false := F.new 17 44 (by kernel_rfl)
          exact ok_skip (wanted_false (j := 17) (d := 44) rfl (by kernel_rfl) e44) ⟨Rb.refl _, rfl⟩
        refine Owed.cons ?_ ?_
        · -- 19: slot 46 := Op.move (Operand.tmp 1)
          intro a w hR F
          have e44 : a.eval (.tmp 44) = .bool false := F.new 17 44 (by kernel_rfl)
          exact ok_skip (wanted_false (j := 17) (d := 44) rfl (by kernel_rfl) e44) ⟨Rb.refl _, rfl⟩
        refine Owed.cons ?_ ?_
        · -- 20: slot 47 := Op.binOp BinOp.add 3 (Operand.tmp 46) (Operand.const (Value.int IntKind.i64 4)) 3
          intro a w hR F
          have e44 : a.eval (.tmp 44) = .bool false := F.new 17 44 (by kernel_rfl)
          exact ok_skip (wanted_false (j := 17) (d := 44) rfl (by kernel_rfl) e44) ⟨Rb.refl _, rfl⟩
        refine Owed.cons ?_ ?_
        · -- 21: slot 48 := Op.binOp BinOp.neq 3 (Operand.tmp 45) (Operand.tmp 47) 3
          intro a w hR F
          have e44 : a.eval (.tmp 44) = .bool false := F.new 17 44 (by kernel_rfl)
          exact ok_skip (wanted_false (j := 17) (d := 44) rfl (by kernel_rfl) e44) ⟨Rb.refl _, rfl⟩
        refine Owed.cons ?_ ?_
        · -- 22: slot 49 := Op.move (Operand.tmp 48)
          intro a w hR F
          have e44 : a.eval (.tmp 44) = .bool false := F.new 17 44 (by kernel_rfl)
          exact ok_skip (wanted_false (j := 17) (d := 44) rfl (by kernel_rfl) e44) ⟨Rb.refl _, rfl⟩
        refine Owed.cons ?_ ?_
        · -- 23: slot 50 := Op.move (Operand.tmp 5)
          intro a w hR F
          have e49 : a.eval (.tmp 49) = undef := F.new 22 49 (by kernel_rfl)
          exact ok_skip (wanted_undef (j := 22) (d := 49) rfl (by kernel_rfl) e49) ⟨Rb.refl _, rfl⟩
        refine Owed.cons ?_ ?_
        · -- 24: slot 51 := Op.call { callee := Callee.value (Operand.func 17), args := #[Operand.tmp 50], argTypes := #[25] }
          intro a w hR F
          have e49 : a.eval (.tmp 49) = undef := F.new 22 49 (by kernel_rfl)
          exact ok_skip (wanted_undef (j := 22) (d := 49) rfl (by kernel_rfl) e49) ⟨Rb.refl _, rfl⟩
        refine Owed.cons ?_ ?_
        · -- 25: slot 52 := Op.convert 22 9 (Operand.tmp 51)
          intro a w hR F
          have e49 : a.eval (.tmp 49) = undef := F.new 22 49 (by kernel_rfl)
          exact ok_skip (wanted_undef (j := 22) (d := 49) rfl (by kernel_rfl) e49) ⟨Rb.refl _, rfl⟩
        refine Owed.cons ?_ ?_
        · -- 26: slot 53 := Op.move (Operand.tmp 0)
          intro a w hR F
          have e49 : a.eval (.tmp 49) = undef := F.new 22 49 (by kernel_rfl)
          exact ok_skip (wanted_undef (j := 22) (d := 49) rfl (by kernel_rfl) e49) ⟨Rb.refl _, rfl⟩
        refine Owed.cons ?_ ?_
        · -- 27: slot 54 := Op.move (Operand.tmp 1)
          intro a w hR F
          have e49 : a.eval (.tmp 49) = undef := F.new 22 49 (by kernel_rfl)
          exact ok_skip (wanted_undef (j := 22) (d := 49) rfl (by kernel_rfl) e49) ⟨Rb.refl _, rfl⟩
        refine Owed.cons ?_ ?_
        · -- 28: slot 55 := Op.move (Operand.tmp 6)
          intro a w hR F
          have e49 : a.eval (.tmp 49) = undef := F.new 22 49 (by kernel_rfl)
          exact ok_skip (wanted_undef (j := 22) (d := 49) rfl (by kernel_rfl) e49) ⟨Rb.refl _, rfl⟩
        refine Owed.cons ?_ ?_
        · -- 29: slot 56 := Op.slice 22 (Operand.tmp 53) (some (Operand.tmp 54)) (some (Operand.tmp 55)) none
          intro a w hR F
          have e49 : a.eval (.tmp 49) = undef := F.new 22 49 (by kernel_rfl)
          exact ok_skip (wanted_undef (j := 22) (d := 49) rfl (by kernel_rfl) e49) ⟨Rb.refl _, rfl⟩
        refine Owed.cons ?_ ?_
        · -- 30: slot 57 := Op.convert 22 9 (Operand.tmp 56)
          intro a w hR F
          have e49 : a.eval (.tmp 49) = undef := F.new 22 49 (by kernel_rfl)
          exact ok_skip (wanted_undef (j := 22) (d := 49) rfl (by kernel_rfl) e49) ⟨Rb.refl _, rfl⟩
        refine Owed.cons ?_ ?_
        · -- 31: slot 58 := Op.binOp BinOp.neq 9 (Operand.tmp 52) (Operand.tmp 57) 9
          intro a w hR F
          have e49 : a.eval (.tmp 49) = undef := F.new 22 49 (by kernel_rfl)
          exact ok_skip (wanted_undef (j := 22) (d := 49) rfl (by kernel_rfl) e49) ⟨Rb.refl _, rfl⟩
        refine Owed.cons ?_ ?_
        · -- 32: slot 59 := Op.pick (Operand.tmp 49) (Operand.const (Value.bool true)) (Operand.tmp 58)
          intro a w hR F
          have e44 : a.eval (.tmp 44) = .bool false := F.new 17 44 (by kernel_rfl)
          exact ok_skip (wanted_false (j := 17) (d := 44) rfl (by kernel_rfl) e44) ⟨Rb.refl _, rfl⟩
        refine Owed.cons ?_ ?_
        · -- 33: slot 60 := Op.pick (Operand.tmp 44) (Operand.tmp 59) (Operand.const (Value.bool false))
          intro a w hR F
          have e42 : a.eval (.tmp 42) = .bool false := F.new 15 42 (by kernel_rfl)
          have e44 : a.eval (.tmp 44) = .bool false := F.new 17 44 (by kernel_rfl)
          exact ok_pick _ _ _ false rfl (wanted_true (j := 15) (d := 42) rfl (by kernel_rfl) e42) e44 ⟨Rb.refl _, rfl⟩
        refine Owed.cons ?_ ?_
        · -- 34: slot 61 := Op.pick (Operand.tmp 42) (Operand.const (Value.bool true)) (Operand.tmp 60)
          intro a w hR F
          have e42 : a.eval (.tmp 42) = .bool false := F.new 15 42 (by kernel_rfl)
          have e60 : a.eval (.tmp 60) = .bool false := F.new 33 60 (by kernel_rfl)
          exact ok_pick _ _ _ false rfl (wanted_none rfl) e42 ⟨Rb.refl _, e60⟩
        exact Owed.nil
      case fin =>
        intro y w2 hR hy
        have e34 : y 34 = .bool false := hy 34 _ rfl
        have HR := Lib.hid hR
        clear hy hR
        simp only [putAll, Act.put, List.setIfInBounds_toArray, List.set_cons_zero, List.set_cons_succ]
        rw [e34]
        go_wp2_with fail
        refine (sum_any v xs _ (HX.out.below HR.out) hl2).mono ?_
        rintro e w' ⟨rfl, rfl⟩
        go_wp2_with fail
        refine (refsum_any v xs _ (HX.out.below HR.out) hl2).mono ?_
        rintro e w' ⟨rfl, rfl⟩
        have hsum : ((sumN xs : Int) == (sumN xs : Int)) = true := by simp
        go_wp2_with fail
        refine (lives_any _).mono ?_
        rintro e w4 ⟨rfl, hb4⟩
        have HB4 := Lib.hid (Below.trans HR.out (hb4.mono HR.out.size))
        clear hb4
        go_wp2_with fail
        go_ret
        exact ⟨rfl, HB4.out⟩
end Go.Proofs.Ytkngemckhbgbjaa
