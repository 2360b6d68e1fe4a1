import Derived.Test.YtkngemckhbgbjaaM
namespace Go.Proofs.Ytkngemckhbgbjaa
open Go.ChangeShapes Go.WideShapes Go.ChangeAt Go.RowKit Oct By Reg

theorem unzig_bd (p : Nat) (h : p < 18446744073709551616) : -9223372036854775808 ≤ unzig p ∧ unzig p ≤ 9223372036854775807 := by
  unfold unzig
  split <;> omega
theorem zig_unzig (p : Nat) : zig (unzig p) = p := by
  unfold zig unzig
  split <;> split <;> omega
theorem unzig_zig (n : Int) : unzig (zig n) = n := by
  unfold zig unzig
  split <;> split <;> omega
theorem int_unzig (p : Nat) : intB (unzig p) = uintB p := by rw [intB, zig_unzig]

theorem gu_at (xs ys zs : List UInt8) (n : Nat) (i : Int) (hn : n < 18446744073709551616) (h : ys = xs ++ (uintB n ++ zs)) (hi : i = xs.length) : gu ys i = some (n, sizeN n) := by
  subst h hi
  unfold gu
  rw [if_pos ⟨by omega, by rw [List.length_append]; omega⟩, Int.toNat_natCast, List.drop_left, getU_uintB n hn]
theorem gt_at (xs ys s zs : List UInt8) (i most : Int) (hs : s.length < 18446744073709551616) (hm : (s.length : Int) ≤ most) (h : ys = xs ++ (uintB s.length ++ (s ++ zs))) (hi : i = xs.length) : gt ys i most = some (s, sizeN s.length + s.length) := by
  have hg := gu_at xs ys (s ++ zs) s.length i hs h hi
  unfold gt
  rw [hg]
  simp only []
  have hul : (uintB s.length).length = sizeN s.length := rfl
  rw [if_pos ⟨hm, by subst h hi; simp only [List.length_append, hul]; omega⟩]
  subst h hi
  congr 2
  rw [Int.toNat_natCast, ← List.drop_drop, List.drop_left, ← hul, List.drop_left, List.take_left]

set_option maxRecDepth 100000 in
theorem back_walk (u : Value) (zs : List UInt8) (U : Nat) (m : Int) (w : World) (hb : Bs w u zs) (h1 : U < U64) (h2 : -9223372036854775808 ≤ m) (h3 : m ≤ 9223372036854775807) :
    Calls Try.prog 6 #[u, .int .u64 (U : Int), .int .i64 m] w fun e w' => e = .returned (.bool true) ∧ Below w.heap.size w w' := by
  have H1 := Lib.hid h1
  clear h1
  go_enter Try.func6, Try.ntmps6
  go_wp2_with fail
  refine (cut_any u zs w hb).mono ?_
  rintro e w' ⟨⟨v, rfl, hx⟩, rfl⟩
  have hl : (zs.take 300).length ≤ 300 := by rw [List.length_take]; omega
  obtain ⟨xs, hxs⟩ : ∃ xs, xs = zs.take 300 := ⟨_, rfl⟩
  rw [← hxs] at hx hl
  clear hxs hb
  obtain ⟨ao, cap, ev, e2, e3⟩ := hx.len
  have HX := Lib.hid hx
  clear hx e2 e3
  have hl2 : xs.length ≤ 100000000 := by omega
  have Hev := Lib.hid ev
  have hlen : ∀ w, (Builtin.len_ #[22] 3 #[v]).run Try.prog w = .ok (.int .i64 xs.length) w := fun w => by
    rw [Hev.out]; simp [Builtin.len_, run_underlying Try.underlying22]; rfl
  clear ev
  have hw : IntKind.i64.wrap ((U : Int) % 301) = (U : Int) % 301 := IntWalk.i64_in _ ⟨by omega, by omega⟩
  go_wp2_with fail
  clear hw
  refine wp_region_specs (R := Rb) (S := [Spec.eq (v), Spec.eq (.int .u64 ((U : Int))), bsSpec (xs ++ uintB U), Spec.eq (.int .i64 (m)), bsSpec (xs ++ uintB U ++ intB m), Spec.eq (v), Spec.eq (strV (xs)), bsSpec (xs ++ uintB U ++ intB m ++ textB xs), bsSpec (xs ++ uintB U ++ intB m ++ textB xs)]) (n := 1) (size := 121) (by kernel_rfl) Rb.trans (Rb.drew _) rfl (by kernel_rfl) ?owed ?fin
  case owed =>
    refine Owed.cons ?_ ?_
    · -- 0: slot 29 := Op.move (Operand.tmp 0)
      intro a w hR F
      have e0 : a.eval (.tmp 0) = v := F.old 0 (by kernel_rfl)
      exact ok_move _ rfl (wanted_none rfl) ⟨Rb.refl _, e0⟩
    refine Owed.cons ?_ ?_
    · -- 1: slot 30 := Op.move (Operand.tmp 1)
      intro a w hR F
      have e1 : a.eval (.tmp 1) = .int .u64 ((U : Int)) := F.old 1 (by kernel_rfl)
      exact ok_move _ rfl (wanted_none rfl) ⟨Rb.refl _, e1⟩
    refine Owed.cons ?_ ?_
    · -- 2: slot 31 := Op.call { callee := Callee.value (Operand.func 10), args := #[Operand.tmp 29, Operand.tmp 30], argTy
      intro a w hR F
      have e29 : a.eval (.tmp 29) = v := F.new 0 29 (by kernel_rfl)
      have e30 : a.eval (.tmp 30) = .int .u64 ((U : Int)) := F.new 1 30 (by kernel_rfl)
      refine ok_call 10 _ _ #[v, .int .u64 ((U : Int))] rfl (wanted_none rfl) (by simp [e29, e30]) (Try.call10 _ _) ?_
      exact put_call (putuint_any v xs U w (HX.out.below hR) (by omega) H1.out)
    refine Owed.cons ?_ ?_
    · -- 3: slot 32 := Op.move (Operand.tmp 2)
      intro a w hR F
      have e2 : a.eval (.tmp 2) = .int .i64 (m) := F.old 2 (by kernel_rfl)
      exact ok_move _ rfl (wanted_none rfl) ⟨Rb.refl _, e2⟩
    refine Owed.cons ?_ ?_
    · -- 4: slot 33 := Op.call { callee := Callee.value (Operand.func 12), args := #[Operand.tmp 31, Operand.tmp 32], argTy
      intro a w hR F
      have e31 : Bs w (a.eval (.tmp 31)) (xs ++ uintB U) := F.new 2 31 (by kernel_rfl)
      have e32 : a.eval (.tmp 32) = .int .i64 (m) := F.new 3 32 (by kernel_rfl)
      refine ok_call 12 _ _ #[a.eval (.tmp 31), .int .i64 (m)] rfl (wanted_none rfl) (by simp [e32]) (Try.call12 _ _) ?_
      exact put_call (putint_any (a.eval (.tmp 31)) (xs ++ uintB U) m w e31 (by rw [List.length_append, uintB_length]; have := sizeN_le10 H1.out; omega) h2 h3)
    refine Owed.cons ?_ ?_
    · -- 5: slot 34 := Op.move (Operand.tmp 0)
      intro a w hR F
      have e0 : a.eval (.tmp 0) = v := F.old 0 (by kernel_rfl)
      exact ok_move _ rfl (wanted_none rfl) ⟨Rb.refl _, e0⟩
    refine Owed.cons ?_ ?_
    · -- 6: slot 35 := Op.convert 22 9 (Operand.tmp 34)
      intro a w hR F
      have e34 : a.eval (.tmp 34) = v := F.new 5 34 (by kernel_rfl)
      exact ok_conv _ _ _ rfl (wanted_none rfl) (run_convert_Bs (xs := xs) (by rw [e34]; exact HX.out.below hR) 22 5 9 Try.underlying22 Try.underlying5 Try.underlying9) ⟨Rb.refl _, rfl⟩
    refine Owed.cons ?_ ?_
    · -- 7: slot 36 := Op.call { callee := Callee.value (Operand.func 14), args := #[Operand.tmp 33, Operand.tmp 35], argTy
      intro a w hR F
      have e33 : Bs w (a.eval (.tmp 33)) (xs ++ uintB U ++ intB m) := F.new 4 33 (by kernel_rfl)
      have e35 : a.eval (.tmp 35) = strV (xs) := F.new 6 35 (by kernel_rfl)
      refine ok_call 14 _ _ #[a.eval (.tmp 33), strV (xs)] rfl (wanted_none rfl) (by simp [e35]) (Try.call14 _ _) ?_
      exact put_call (puttext_any (a.eval (.tmp 33)) (xs ++ uintB U ++ intB m) (str xs) w e33 (by rw [List.length_append, List.length_append, uintB_length]; have := sizeN_le10 H1.out; have := intB_len h2 h3; omega) (by rw [str_size]; omega))
    refine Owed.cons ?_ ?_
    · -- 8: slot 9 := Op.assign (Operand.tmp 36)
      intro a w hR F
      have e36 : Bs w (a.eval (.tmp 36)) (xs ++ uintB U ++ intB m ++ textB xs) := F.new 7 36 (by kernel_rfl)
      exact ok_assign _ rfl (wanted_none rfl) ⟨Rb.refl _, e36⟩
    exact Owed.nil
  case fin =>
    intro y w2 hR hy
    have hc : Bs w2 (y 8) (xs ++ uintB U ++ intB m ++ textB xs) := hy 8 _ rfl
    have HR := Lib.hid hR
    clear hy hR
    simp only [putAll, Act.put, List.setIfInBounds_toArray, List.set_cons_zero, List.set_cons_succ]
    generalize y 8 = cv at *
    have hil := intB_len h2 h3
    have hul := sizeN_le10 H1.out
    have hzl := zig_lt h2 h3
    have hxl := sizeN_le10 (n := xs.length) (by omega)
    obtain ⟨cs, hcs⟩ : ∃ cs, cs = xs ++ uintB U ++ intB m ++ textB xs := ⟨_, rfl⟩
    rw [← hcs] at hc
    have g1 := gu_at xs cs (intB m ++ textB xs) U (xs.length : Int) H1.out (by rw [hcs]; simp) rfl
    have g2 := gu_at (xs ++ uintB U) cs (textB xs) (zig m) ((xs.length : Int) + sizeN U) hzl (by rw [hcs]; simp [intB]) (by rw [List.length_append, uintB_length]; omega)
    have g3 := gt_at (xs ++ uintB U ++ intB m) cs xs [] ((xs.length : Int) + sizeN U + sizeN (zig m)) 300 (by omega) (by omega) (by rw [hcs]; simp [textB]) (by rw [List.length_append, List.length_append, uintB_length, intB, uintB_length]; omega)
    have hcl : cs.length = xs.length + sizeN U + sizeN (zig m) + (sizeN xs.length + xs.length) := by
      rw [hcs]; simp only [List.length_append, textB, intB, uintB_length]
    have hcl2 : cs.length ≤ 100000000 := by rw [hcl]; rw [intB, uintB_length] at hil; omega
    have hz10 : sizeN (zig m) ≤ 10 := hil
    obtain ⟨aoc, capc, ec, _, _⟩ := hc.len
    have HC := Lib.hid hc
    have G1 := Lib.hid g1
    have G2 := Lib.hid g2
    have G3 := Lib.hid g3
    have Hcl := Lib.hid hcl
    have Hec := Lib.hid ec
    have hlenc : ∀ w, (Builtin.len_ #[22] 3 #[cv]).run Try.prog w = .ok (.int .i64 cs.length) w := fun w => by
      rw [Hec.out]; simp [Builtin.len_, run_underlying Try.underlying22]; rfl
    clear hc g1 g2 g3 hcs ec hcl hil hzl
    go_wp2_with fail
    refine (getuint_any cv cs _ w2 HC.out hcl2).mono ?_
    rintro e w' ⟨rfl, rfl⟩
    rw [G1.out]
    unfold tupU
    go_wp2_with fail
    refine (getint_any cv cs _ w2 HC.out hcl2).mono ?_
    rintro e w' ⟨rfl, rfl⟩
    rw [G2.out]
    simp only [tupI, unzig_zig]
    go_wp2_with fail
    refine (gettext_any cv cs _ 300 w2 HC.out hcl2).mono ?_
    rintro e w' ⟨rfl, rfl⟩
    rw [G3.out]
    unfold tupT
    have kc := run_convert_Bs (P := Try.prog) (HX.out.below HR.out) 22 5 9 Try.underlying22 Try.underlying5 Try.underlying9
    have he : ((xs.length : Int) + sizeN U + sizeN (zig m) + ((sizeN xs.length + xs.length : Nat) : Int) != (cs.length : Int)) = false := by
      rw [Hcl.out]; simp
    simp only [Int.natCast_add] at he
    go_wp2_with fail
    refine (size_any U w2 H1.out).mono ?_
    rintro e w' ⟨rfl, rfl⟩
    clear kc he hlenc
    go_wp2_with fail
    have HB := HR
    refine (getint_any v xs _ w2 (HX.out.below HR.out) hl2).mono ?_
    rintro e w' ⟨rfl, rfl⟩
    cases hg : gu xs ((U : Int) % 301) with
    | none =>
      clear hg
      unfold tupI
      go_wp2_with fail
      refine wp_region_specs (R := Rb) (S := [Spec.eq (.bool false), Spec.eq (.bool true), Spec.eq (.bool true), Spec.eq (undef), Spec.eq (undef), Spec.eq (undef), Spec.eq (undef), Spec.eq (undef), Spec.eq (undef), Spec.eq (undef), Spec.eq (undef), Spec.eq (undef), Spec.eq (.bool true), Spec.eq (.bool true), Spec.eq (.bool true), Spec.eq (.bool true), Spec.eq (.bool true)]) (n := 1) (size := 121) (by kernel_rfl) Rb.trans (Rb.drew _) rfl (by kernel_rfl) ?owed ?fin
      case owed =>
        refine Owed.cons ?_ ?_
        · -- 0: slot 105 := Op.move (Operand.tmp 21)
          intro a w hR F
          have e21 : a.eval (.tmp 21) = .bool false := F.old 21 (by kernel_rfl)
          exact ok_move _ rfl (wanted_none rfl) ⟨Rb.refl _, e21⟩
        refine Owed.cons ?_ ?_
        · -- 1: slot 106 := Op.unOp UnOp.not 4 (Operand.tmp 105)
          intro a w hR F
          have e105 : a.eval (.tmp 105) = .bool false := F.new 0 105 (by kernel_rfl)
          exact ok_not _ _ false rfl (wanted_none rfl) e105 ⟨Rb.refl _, rfl⟩
        refine Owed.cons ?_ ?_
        · -- 2: slot 107 := Op.move (Operand.tmp 106)
          intro a w hR F
          have e106 : a.eval (.tmp 106) = .bool true := F.new 1 106 (by kernel_rfl)
          exact ok_move _ rfl (wanted_none rfl) ⟨Rb.refl _, e106⟩
        refine Owed.cons ?_ ?_
        · -- 3: slot 108 := Op.move (Operand.tmp 19)
          intro a w hR F
          have e107 : a.eval (.tmp 107) = .bool true := F.new 2 107 (by kernel_rfl)
          exact ok_skip (wanted_false (j := 2) (d := 107) rfl (by kernel_rfl) e107) ⟨Rb.refl _, rfl⟩
        refine Owed.cons ?_ ?_
        · -- 4: slot 109 := Op.call { callee := Callee.value (Operand.func 12), args := #[Operand.const (Value.slice none 0 0), 
          intro a w hR F
          have e107 : a.eval (.tmp 107) = .bool true := F.new 2 107 (by kernel_rfl)
          exact ok_skip (wanted_false (j := 2) (d := 107) rfl (by kernel_rfl) e107) ⟨Rb.refl _, rfl⟩
        refine Owed.cons ?_ ?_
        · -- 5: slot 110 := Op.convert 22 9 (Operand.tmp 109)
          intro a w hR F
          have e107 : a.eval (.tmp 107) = .bool true := F.new 2 107 (by kernel_rfl)
          exact ok_skip (wanted_false (j := 2) (d := 107) rfl (by kernel_rfl) e107) ⟨Rb.refl _, rfl⟩
        refine Owed.cons ?_ ?_
        · -- 6: slot 111 := Op.move (Operand.tmp 0)
          intro a w hR F
          have e107 : a.eval (.tmp 107) = .bool true := F.new 2 107 (by kernel_rfl)
          exact ok_skip (wanted_false (j := 2) (d := 107) rfl (by kernel_rfl) e107) ⟨Rb.refl _, rfl⟩
        refine Owed.cons ?_ ?_
        · -- 7: slot 112 := Op.move (Operand.tmp 7)
          intro a w hR F
          have e107 : a.eval (.tmp 107) = .bool true := F.new 2 107 (by kernel_rfl)
          exact ok_skip (wanted_false (j := 2) (d := 107) rfl (by kernel_rfl) e107) ⟨Rb.refl _, rfl⟩
        refine Owed.cons ?_ ?_
        · -- 8: slot 113 := Op.move (Operand.tmp 20)
          intro a w hR F
          have e107 : a.eval (.tmp 107) = .bool true := F.new 2 107 (by kernel_rfl)
          exact ok_skip (wanted_false (j := 2) (d := 107) rfl (by kernel_rfl) e107) ⟨Rb.refl _, rfl⟩
        refine Owed.cons ?_ ?_
        · -- 9: slot 114 := Op.slice 22 (Operand.tmp 111) (some (Operand.tmp 112)) (some (Operand.tmp 113)) none
          intro a w hR F
          have e107 : a.eval (.tmp 107) = .bool true := F.new 2 107 (by kernel_rfl)
          exact ok_skip (wanted_false (j := 2) (d := 107) rfl (by kernel_rfl) e107) ⟨Rb.refl _, rfl⟩
        refine Owed.cons ?_ ?_
        · -- 10: slot 115 := Op.convert 22 9 (Operand.tmp 114)
          intro a w hR F
          have e107 : a.eval (.tmp 107) = .bool true := F.new 2 107 (by kernel_rfl)
          exact ok_skip (wanted_false (j := 2) (d := 107) rfl (by kernel_rfl) e107) ⟨Rb.refl _, rfl⟩
        refine Owed.cons ?_ ?_
        · -- 11: slot 116 := Op.binOp BinOp.eql 9 (Operand.tmp 110) (Operand.tmp 115) 9
          intro a w hR F
          have e107 : a.eval (.tmp 107) = .bool true := F.new 2 107 (by kernel_rfl)
          exact ok_skip (wanted_false (j := 2) (d := 107) rfl (by kernel_rfl) e107) ⟨Rb.refl _, rfl⟩
        refine Owed.cons ?_ ?_
        · -- 12: slot 117 := Op.pick (Operand.tmp 107) (Operand.const (Value.bool true)) (Operand.tmp 116)
          intro a w hR F
          have e107 : a.eval (.tmp 107) = .bool true := F.new 2 107 (by kernel_rfl)
          exact ok_pick _ _ _ true rfl (wanted_none rfl) e107 ⟨Rb.refl _, rfl⟩
        refine Owed.cons ?_ ?_
        · -- 13: slot 118 := Op.move (Operand.tmp 117)
          intro a w hR F
          have e117 : a.eval (.tmp 117) = .bool true := F.new 12 117 (by kernel_rfl)
          exact ok_move _ rfl (wanted_none rfl) ⟨Rb.refl _, e117⟩
        refine Owed.cons ?_ ?_
        · -- 14: slot 119 := Op.call { callee := Callee.value (Operand.func 19), args := #[], argTypes := #[] }
          intro a w hR F
          have e118 : a.eval (.tmp 118) = .bool true := F.new 13 118 (by kernel_rfl)
          refine ok_call 19 _ _ #[] rfl (wanted_true (j := 13) (d := 118) rfl (by kernel_rfl) e118) (by simp) (Try.call19 _ _) ?_
          exact val_call_below (lives_any w)
        refine Owed.cons ?_ ?_
        · -- 15: slot 120 := Op.pick (Operand.tmp 118) (Operand.tmp 119) (Operand.const (Value.bool false))
          intro a w hR F
          have e118 : a.eval (.tmp 118) = .bool true := F.new 13 118 (by kernel_rfl)
          have e119 : a.eval (.tmp 119) = .bool true := F.new 14 119 (by kernel_rfl)
          exact ok_pick _ _ _ true rfl (wanted_none rfl) e118 ⟨Rb.refl _, e119⟩
        refine Owed.cons ?_ ?_
        · -- 16: slot 6 := Op.assign (Operand.tmp 120)
          intro a w hR F
          have e120 : a.eval (.tmp 120) = .bool true := F.new 15 120 (by kernel_rfl)
          exact ok_assign _ rfl (wanted_none rfl) ⟨Rb.refl _, e120⟩
        exact Owed.nil
      case fin =>
        intro y w2 hR hy
        have e16 : y 16 = .bool true := hy 16 _ rfl
        have HR := Lib.hid hR
        clear hy hR
        simp only [putAll, Act.put, List.setIfInBounds_toArray, List.set_cons_zero, List.set_cons_succ]
        go_wp2
        go_ret
        exact ⟨congrArg Ending.returned e16, Below.trans HB.out (Below.mono HR.out HB.out.size)⟩
    | some pq =>
      obtain ⟨p, q⟩ := pq
      obtain ⟨g1, g2, g3, g4, g5, g6⟩ := gu_lt hg
      rw [show ((U : Int) % 301).toNat = U % 301 by omega] at g6
      clear hg
      have hbd := unzig_bd p g1
      unfold tupI
      go_wp2_with fail
      refine wp_region_specs (R := Rb) (S := [Spec.eq (.bool true), Spec.eq (.bool false), Spec.eq (.bool false), Spec.eq (.int .i64 (unzig p)), bsSpec ([] ++ intB (unzig p)), Spec.eq (strV ([] ++ intB (unzig p))), Spec.eq (v), Spec.eq (.int .i64 ((U : Int) % 301)), Spec.eq (.int .i64 ((U : Int) % 301 + (q : Int))), bsSpec ((xs.drop (U % 301)).take q), Spec.eq (strV ((xs.drop (U % 301)).take q)), Spec.eq (.bool true), Spec.eq (.bool true), Spec.eq (.bool true), Spec.eq (.bool true), Spec.eq (.bool true), Spec.eq (.bool true)]) (n := 1) (size := 121) (by kernel_rfl) Rb.trans (Rb.drew _) rfl (by kernel_rfl) ?owed ?fin
      case owed =>
        refine Owed.cons ?_ ?_
        · -- 0: slot 105 := Op.move (Operand.tmp 21)
          intro a w hR F
          have e21 : a.eval (.tmp 21) = .bool true := F.old 21 (by kernel_rfl)
          exact ok_move _ rfl (wanted_none rfl) ⟨Rb.refl _, e21⟩
        refine Owed.cons ?_ ?_
        · -- 1: slot 106 := Op.unOp UnOp.not 4 (Operand.tmp 105)
          intro a w hR F
          have e105 : a.eval (.tmp 105) = .bool true := F.new 0 105 (by kernel_rfl)
          exact ok_not _ _ true rfl (wanted_none rfl) e105 ⟨Rb.refl _, rfl⟩
        refine Owed.cons ?_ ?_
        · -- 2: slot 107 := Op.move (Operand.tmp 106)
          intro a w hR F
          have e106 : a.eval (.tmp 106) = .bool false := F.new 1 106 (by kernel_rfl)
          exact ok_move _ rfl (wanted_none rfl) ⟨Rb.refl _, e106⟩
        refine Owed.cons ?_ ?_
        · -- 3: slot 108 := Op.move (Operand.tmp 19)
          intro a w hR F
          have e107 : a.eval (.tmp 107) = .bool false := F.new 2 107 (by kernel_rfl)
          have e19 : a.eval (.tmp 19) = .int .i64 (unzig p) := F.old 19 (by kernel_rfl)
          exact ok_move _ rfl (wanted_true (j := 2) (d := 107) rfl (by kernel_rfl) e107) ⟨Rb.refl _, e19⟩
        refine Owed.cons ?_ ?_
        · -- 4: slot 109 := Op.call { callee := Callee.value (Operand.func 12), args := #[Operand.const (Value.slice none 0 0), 
          intro a w hR F
          have e107 : a.eval (.tmp 107) = .bool false := F.new 2 107 (by kernel_rfl)
          have e108 : a.eval (.tmp 108) = .int .i64 (unzig p) := F.new 3 108 (by kernel_rfl)
          refine ok_call 12 _ _ #[(.slice none 0 0), .int .i64 (unzig p)] rfl (wanted_true (j := 2) (d := 107) rfl (by kernel_rfl) e107) (by simp only [List.map_toArray, List.map_cons, List.map_nil, e108]; rfl) (Try.call12 _ _) ?_
          exact put_call (putint_any (.slice none 0 0) [] (unzig p) w (Bs.nil w) (by simp) hbd.1 hbd.2)
        refine Owed.cons ?_ ?_
        · -- 5: slot 110 := Op.convert 22 9 (Operand.tmp 109)
          intro a w hR F
          have e107 : a.eval (.tmp 107) = .bool false := F.new 2 107 (by kernel_rfl)
          have e109 : Bs w (a.eval (.tmp 109)) ([] ++ intB (unzig p)) := F.new 4 109 (by kernel_rfl)
          exact ok_conv _ _ _ rfl (wanted_true (j := 2) (d := 107) rfl (by kernel_rfl) e107) (run_convert_Bs e109 22 5 9 Try.underlying22 Try.underlying5 Try.underlying9) ⟨Rb.refl _, rfl⟩
        refine Owed.cons ?_ ?_
        · -- 6: slot 111 := Op.move (Operand.tmp 0)
          intro a w hR F
          have e107 : a.eval (.tmp 107) = .bool false := F.new 2 107 (by kernel_rfl)
          have e0 : a.eval (.tmp 0) = v := F.old 0 (by kernel_rfl)
          exact ok_move _ rfl (wanted_true (j := 2) (d := 107) rfl (by kernel_rfl) e107) ⟨Rb.refl _, e0⟩
        refine Owed.cons ?_ ?_
        · -- 7: slot 112 := Op.move (Operand.tmp 7)
          intro a w hR F
          have e107 : a.eval (.tmp 107) = .bool false := F.new 2 107 (by kernel_rfl)
          have e7 : a.eval (.tmp 7) = .int .i64 ((U : Int) % 301) := F.old 7 (by kernel_rfl)
          exact ok_move _ rfl (wanted_true (j := 2) (d := 107) rfl (by kernel_rfl) e107) ⟨Rb.refl _, e7⟩
        refine Owed.cons ?_ ?_
        · -- 8: slot 113 := Op.move (Operand.tmp 20)
          intro a w hR F
          have e107 : a.eval (.tmp 107) = .bool false := F.new 2 107 (by kernel_rfl)
          have e20 : a.eval (.tmp 20) = .int .i64 ((U : Int) % 301 + (q : Int)) := F.old 20 (by kernel_rfl)
          exact ok_move _ rfl (wanted_true (j := 2) (d := 107) rfl (by kernel_rfl) e107) ⟨Rb.refl _, e20⟩
        refine Owed.cons ?_ ?_
        · -- 9: slot 114 := Op.slice 22 (Operand.tmp 111) (some (Operand.tmp 112)) (some (Operand.tmp 113)) none
          intro a w hR F
          have e107 : a.eval (.tmp 107) = .bool false := F.new 2 107 (by kernel_rfl)
          have e111 : a.eval (.tmp 111) = v := F.new 6 111 (by kernel_rfl)
          have e112 : a.eval (.tmp 112) = .int .i64 ((U : Int) % 301) := F.new 7 112 (by kernel_rfl)
          have e113 : a.eval (.tmp 113) = .int .i64 ((U : Int) % 301 + (q : Int)) := F.new 8 113 (by kernel_rfl)
          refine ok_slice_bs _ 5 _ _ _ (xs) (U % 301) (U % 301 + q) rfl (wanted_true (j := 2) (d := 107) rfl (by kernel_rfl) e107) Try.underlying22 sizeOf8 (by rw [e111]; exact HX.out.below (Below.trans HB.out (Below.mono hR HB.out.size))) (by rw [e112]; rfl) (by rw [e113]; exact congrArg (Value.int .i64) (by omega)) (by omega) (by omega) (fun v hv => ⟨Rb.refl _, ?_⟩)
          exact by have h := hv; rw [show U % 301 + q - U % 301 = q by omega] at h; exact h
        refine Owed.cons ?_ ?_
        · -- 10: slot 115 := Op.convert 22 9 (Operand.tmp 114)
          intro a w hR F
          have e107 : a.eval (.tmp 107) = .bool false := F.new 2 107 (by kernel_rfl)
          have e114 : Bs w (a.eval (.tmp 114)) ((xs.drop (U % 301)).take q) := F.new 9 114 (by kernel_rfl)
          exact ok_conv _ _ _ rfl (wanted_true (j := 2) (d := 107) rfl (by kernel_rfl) e107) (run_convert_Bs e114 22 5 9 Try.underlying22 Try.underlying5 Try.underlying9) ⟨Rb.refl _, rfl⟩
        refine Owed.cons ?_ ?_
        · -- 11: slot 116 := Op.binOp BinOp.eql 9 (Operand.tmp 110) (Operand.tmp 115) 9
          intro a w hR F
          have e107 : a.eval (.tmp 107) = .bool false := F.new 2 107 (by kernel_rfl)
          have e110 : a.eval (.tmp 110) = strV ([] ++ intB (unzig p)) := F.new 5 110 (by kernel_rfl)
          have e115 : a.eval (.tmp 115) = strV ((xs.drop (U % 301)).take q) := F.new 10 115 (by kernel_rfl)
          refine ok_bin _ _ _ _ _ rfl (wanted_true (j := 2) (d := 107) rfl (by kernel_rfl) e107) e110 e115 (run_eql_strV _ _ _ _ _) ⟨Rb.refl _, ?_⟩
          exact congrArg Value.bool (by rw [List.nil_append, int_unzig p]; exact beq_iff_eq.2 g6.symm)
        refine Owed.cons ?_ ?_
        · -- 12: slot 117 := Op.pick (Operand.tmp 107) (Operand.const (Value.bool true)) (Operand.tmp 116)
          intro a w hR F
          have e107 : a.eval (.tmp 107) = .bool false := F.new 2 107 (by kernel_rfl)
          have e116 : a.eval (.tmp 116) = .bool true := F.new 11 116 (by kernel_rfl)
          exact ok_pick _ _ _ false rfl (wanted_none rfl) e107 ⟨Rb.refl _, e116⟩
        refine Owed.cons ?_ ?_
        · -- 13: slot 118 := Op.move (Operand.tmp 117)
          intro a w hR F
          have e117 : a.eval (.tmp 117) = .bool true := F.new 12 117 (by kernel_rfl)
          exact ok_move _ rfl (wanted_none rfl) ⟨Rb.refl _, e117⟩
        refine Owed.cons ?_ ?_
        · -- 14: slot 119 := Op.call { callee := Callee.value (Operand.func 19), args := #[], argTypes := #[] }
          intro a w hR F
          have e118 : a.eval (.tmp 118) = .bool true := F.new 13 118 (by kernel_rfl)
          refine ok_call 19 _ _ #[] rfl (wanted_true (j := 13) (d := 118) rfl (by kernel_rfl) e118) (by simp) (Try.call19 _ _) ?_
          exact val_call_below (lives_any w)
        refine Owed.cons ?_ ?_
        · -- 15: slot 120 := Op.pick (Operand.tmp 118) (Operand.tmp 119) (Operand.const (Value.bool false))
          intro a w hR F
          have e118 : a.eval (.tmp 118) = .bool true := F.new 13 118 (by kernel_rfl)
          have e119 : a.eval (.tmp 119) = .bool true := F.new 14 119 (by kernel_rfl)
          exact ok_pick _ _ _ true rfl (wanted_none rfl) e118 ⟨Rb.refl _, e119⟩
        refine Owed.cons ?_ ?_
        · -- 16: slot 6 := Op.assign (Operand.tmp 120)
          intro a w hR F
          have e120 : a.eval (.tmp 120) = .bool true := F.new 15 120 (by kernel_rfl)
          exact ok_assign _ rfl (wanted_none rfl) ⟨Rb.refl _, e120⟩
        exact Owed.nil
      case fin =>
        intro y w2 hR hy
        have e16 : y 16 = .bool true := hy 16 _ rfl
        have HR := Lib.hid hR
        clear hy hR
        simp only [putAll, Act.put, List.setIfInBounds_toArray, List.set_cons_zero, List.set_cons_succ]
        go_wp2
        go_ret
        exact ⟨congrArg Ending.returned e16, Below.trans HB.out (Below.mono HR.out HB.out.size)⟩
end Go.Proofs.Ytkngemckhbgbjaa
