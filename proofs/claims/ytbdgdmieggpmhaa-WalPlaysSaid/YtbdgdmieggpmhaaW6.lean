/-
  Layer 4: WalFrames' walk.
-/
import Derived.Test.YtbdgdmieggpmhaaW5
namespace Go.Proofs.Ytbdgdmieggpmhaa.L4
open Go.ChangeShapes Go.WideShapes Go.ChangeAt Go.RowKit Oct By Reg L3
set_option linter.unusedVariables false

def imgG (Y : List UInt8) : Nat := match imageF Y with | some (g, _) => g | none => 0
def imgS (Y : List UInt8) : List UInt8 := match imageF Y with | some (_, s) => s | none => []
def imgK (Y : List UInt8) : Bool := match imageF Y with | some _ => true | none => false

theorem readimage_flat (v : Value) (Y : List UInt8) (w : World) (hb : Bs w v Y) (hx : Y.length ≤ 100000000) : Calls Try.prog 12 #[v] w fun e w' => ∃ u, e = .returned (.tuple #[.int .u32 (imgG Y), u, .bool (imgK Y)]) ∧ Bs w' u (imgS Y) ∧ Rb w w' :=
  (readimage_any v Y w hb hx).mono fun e w' h => by
    unfold ImgQ at h
    unfold imgG imgS imgK
    cases hi : imageF Y with
    | none => rw [hi] at h; exact ⟨_, h.1, Bs.nil _, h.2⟩
    | some p =>
      obtain ⟨g, s⟩ := p
      rw [hi] at h
      obtain ⟨u, he, ⟨n, c, e1, hb, _⟩, hr⟩ := h
      exact ⟨u, he, hb, hr⟩
theorem rimage_flat (Y : List UInt8) (w : World) (hx : Y.length ≤ 10000000) : Calls Try.prog 13 #[.string (str Y)] w fun e w' => e = .returned (.tuple #[.int .u32 (imgG Y), .string (str (imgS Y)), .bool (imgK Y)]) ∧ Rb w w' :=
  (rimage_any Y w hx).mono fun e w' ⟨hr, he⟩ => by
    unfold imgG imgS imgK
    cases hi : imageF Y with
    | none => rw [hi] at he; exact ⟨he, hr⟩
    | some p =>
      obtain ⟨g, s⟩ := p
      rw [hi] at he
      exact ⟨he, hr⟩

set_option maxRecDepth 100000 in
theorem frames_walk (g : Nat) (u : Value) (zs : List UInt8) (n : Int) (w0 : World) (hb : Bs w0 u zs) (hg : g < 4294967296) (hn0 : -9223372036854775808 ≤ n) (hn1 : n ≤ 9223372036854775807) :
    Calls Try.prog 3 #[.int .u32 g, u, .int .i64 n] w0 fun e w' => e = .returned (.bool true) ∧ Below w0.heap.size w0 w' := by
  have HCut := Lib.hid (cut_any u zs w0 hb)
  have HG := Lib.hid hg
  obtain ⟨ao, cap, rfl, -⟩ := hb.len
  clear hb hg
  go_enter Try.func3, Try.ntmps3
  go_wp2_with fail
  refine HCut.out.mono ?_
  rintro e w1 ⟨⟨u1, rfl, hb1⟩, rfl⟩
  have hx : (zs.take 300).length ≤ 300 := by rw [List.length_take]; omega
  generalize zs.take 300 = xs at *
  have HX := Lib.hid hx
  have H1 := Lib.hid hb1
  clear hx hb1
  go_wp2_with fail
  refine (frame_any u1 g xs w0 H1.out (by have := HX.out; omega) HG.out).mono ?_
  rintro e w1 ⟨g1, cap1, rfl, h2, h3⟩
  have k1 := conv_bs (Bs.of_owns h2)
  have HR1 := Lib.hid (show Rb w0 w1 from h3)
  clear h2 h3
  go_wp2_with fail
  clear k1
  refine (readimage_flat u1 xs w1 (H1.out.below HR1.out) (by have := HX.out; omega)).mono ?_
  rintro e w2 ⟨v9, rfl, h9, hr⟩
  have HR2 := Lib.hid (Rb.trans _ _ _ HR1.out hr)
  have H9 := Lib.hid h9
  clear h9 hr HR1
  have k2 := conv_bs (H1.out.below HR2.out)
  go_wp2_with fail
  clear k2
  refine (rimage_flat xs w2 (by have := HX.out; omega)).mono ?_
  rintro e w3 ⟨rfl, hr⟩
  have HR3 := Lib.hid (Rb.trans _ _ _ HR2.out hr)
  have H9 := Lib.hid (H9.out.below hr)
  clear hr HR2
  generalize imgG xs = G at *
  generalize imgS xs = S at *
  generalize imgK xs = K at *
  go_upto_if 38 with (fail)
  go_cut [14] (fun p wx => p = .int .i64 (max n 0) ∧ wx = w3)
  case first =>
    by_cases h0 : n < 0
    · go_wp2
      go_meet
      exact ⟨by congr 1; omega, rfl⟩
    · go_wp2
      go_meet
      exact ⟨by congr 1; omega, rfl⟩
  case rest =>
    obtain ⟨rfl, rfl⟩ := hcut
    go_upto_if 40 with (fail)
    go_cut [14] (fun p wx => p = .int .i64 (clampN n : Int) ∧ wx = wc)
    case first =>
      by_cases h0 : 1048576 < n
      · go_wp2
        go_meet
        exact ⟨by congr 1; unfold clampN; omega, rfl⟩
      · go_wp2
        go_meet
        exact ⟨by congr 1; unfold clampN; omega, rfl⟩
    case rest =>
      obtain ⟨rfl, rfl⟩ := hcut
      have hcl := clampN_le n
      have HC2 := Lib.hid (show ((costN n : Int) == (clampN n : Int) + (sizeN (clampN n) : Int) + 8) = true by unfold costN; rw [beq_iff_eq]; omega)
      have HC1 := Lib.hid (show ((costN (xs.length : Int) : Int) == ((str (frameB g xs)).size : Int)) = true by rw [costN_frame g xs (by have := HX.out; omega), str_size, beq_iff_eq])
      generalize clampN n = c at *
      have hs10 := sizeN_le10 (n := c) (by omega)
      go_wp2
      go_loop [15, 16] (fun x y => ∃ a b : Nat, x = .int .i64 a ∧ y = .int .i64 b ∧ a + sizeN b = sizeN c + 1 ∧ b ≤ c) (fun _ y => (intOf y).toNat)
      case atStart => exact ⟨1, c, rfl, rfl, by omega, Nat.le_refl _⟩
      case round =>
        obtain ⟨a, b, rfl, rfl, hab, hbc⟩ := hrel
        have hzb := sizeN_pos b
        by_cases hb : 128 ≤ b
        · have e1 := sizeN_big hb
          have p1 : (b : Int) ≥ 128 := by omega
          have p2 : IntKind.i64.wrap ((b : Int) / 128) = ((b / 128 : Nat) : Int) := by rw [IntWalk.i64_in _ (by omega)]; omega
          have p3 : IntKind.i64.wrap ((a : Int) + 1) = ((a + 1 : Nat) : Int) := by rw [IntWalk.i64_in _ (by omega)]; omega
          have E := Lib.hid (show a + 1 + sizeN (b / 128) = sizeN c + 1 by omega)
          clear e1 hab hzb
          go_wp2
          go_roundw
          case rel => exact ⟨a + 1, b / 128, rfl, rfl, E.out, by omega⟩
          case measure => simp [intOf]; omega
        · have e1 : sizeN b = 1 := sizeN_small (by omega)
          have e2 : a = sizeN c := by omega
          subst e2
          have p1 : ¬ (b : Int) ≥ 128 := by omega
          have HS := Lib.hid hs10
          have HB := Lib.hid (show (c : Int) ≤ 1048576 ∧ (sizeN c : Int) ≤ 10 by omega)
          clear e1 hab hzb hs10 hcl
          generalize sizeN c = s at *
          go_upto_region 15 with (fail)
          have HR5 := HR3
          have H1 := Lib.hid (H1.out.below HR3.out)
          refine wp_region_plain_specs (R := Rb) (S := [Spec.eq (strV (frameB g xs)), Spec.eq (.int .u32 (g)), Spec.eq (u1), Spec.eq (strV (xs)), Spec.eq (strV (frameB g xs)), Spec.eq (.bool true), Spec.eq (.bool true), Spec.eq (.int .u32 (g)), Spec.eq (u1), bsSpec (frameB g xs), Spec.eq (strV (frameB g xs)), Spec.eq (strV (frameB g xs)), Spec.eq (.bool true), Spec.eq (.bool true), Spec.eq (.bool true), Spec.eq (u1), Spec.eq (.int .i64 (((xs).length : Int))), Spec.eq (.int .i64 (costN (xs.length : Int))), Spec.eq (strV (frameB g xs)), Spec.eq (.int .i64 (((str (frameB g xs)).size : Int))), Spec.eq (.bool true), Spec.eq (.bool true), Spec.eq (.bool true), Spec.eq (.int .i64 (n)), Spec.eq (.int .i64 (costN n)), Spec.eq (.int .i64 (c)), Spec.eq (.int .i64 (s)), Spec.eq (.int .i64 (c + s)), Spec.eq (.int .i64 ((c + s) + 8)), Spec.eq (.bool true), Spec.eq (.bool true), Spec.eq (.bool true), Spec.eq (.int .u32 (G)), Spec.eq (.int .u32 (G)), Spec.eq (.bool true), Spec.eq (.bool true), Spec.eq (.bool true), Spec.eq (v9), Spec.eq (strV (S)), Spec.eq (strV (S)), Spec.eq (.bool true), Spec.eq (.bool true), Spec.eq (.bool true), Spec.eq (.bool K), Spec.eq (.bool K), Spec.eq (.bool true), Spec.eq (.bool true), Spec.eq (.bool true), Spec.eq (.bool true), Spec.eq (.bool true), Spec.eq (.bool true)]) (n := 1) (size := 98) Rb.trans (Rb.refl _) rfl (by kernel_rfl) ?owed ?fin
          case owed =>
            refine Owed.cons ?_ ?_
            · -- 0: slot 48 := Op.move (Operand.tmp 7)
              intro a w hR F
              have e7 : a.eval (.tmp 7) = strV (frameB g xs) := F.old 7 (by kernel_rfl)
              exact ok_move _ rfl (wanted_none rfl) ⟨Rb.refl _, e7⟩
            refine Owed.cons ?_ ?_
            · -- 1: slot 49 := Op.move (Operand.tmp 0)
              intro a w hR F
              have e0 : a.eval (.tmp 0) = .int .u32 (g) := F.old 0 (by kernel_rfl)
              exact ok_move _ rfl (wanted_none rfl) ⟨Rb.refl _, e0⟩
            refine Owed.cons ?_ ?_
            · -- 2: slot 50 := Op.move (Operand.tmp 1)
              intro a w hR F
              have e1 : a.eval (.tmp 1) = u1 := F.old 1 (by kernel_rfl)
              exact ok_move _ rfl (wanted_none rfl) ⟨Rb.refl _, e1⟩
            refine Owed.cons ?_ ?_
            · -- 3: slot 51 := Op.convert 23 9 (Operand.tmp 50)
              intro a w hR F
              have e50 : a.eval (.tmp 50) = u1 := F.new 2 50 (by kernel_rfl)
              exact ok_conv _ _ _ rfl (wanted_none rfl) (run_convert_Bs (xs := xs) (by rw [e50]; exact H1.out.below hR) 23 5 9 Try.underlying23 Try.underlying5 Try.underlying9) ⟨Rb.refl _, rfl⟩
            refine Owed.cons ?_ ?_
            · -- 4: slot 52 := Op.call { callee := Callee.value (Operand.func 14), args := #[Operand.tmp 49, Operand.tmp 51], argTy
              intro a w hR F
              have e49 : a.eval (.tmp 49) = .int .u32 (g) := F.new 1 49 (by kernel_rfl)
              have e51 : a.eval (.tmp 51) = strV (xs) := F.new 3 51 (by kernel_rfl)
              refine ok_call 14 _ _ #[.int .u32 (g), strV (xs)] rfl (wanted_none rfl) (by simp [e49, e51]) (Try.call14 _ _) ?_
              exact val_call_rb (refframe_any g xs w (by have := HX.out; omega) HG.out)
            refine Owed.cons ?_ ?_
            · -- 5: slot 53 := Op.binOp BinOp.eql 9 (Operand.tmp 48) (Operand.tmp 52) 9
              intro a w hR F
              have e48 : a.eval (.tmp 48) = strV (frameB g xs) := F.new 0 48 (by kernel_rfl)
              have e52 : a.eval (.tmp 52) = strV (frameB g xs) := F.new 4 52 (by kernel_rfl)
              refine ok_bin _ _ _ _ _ rfl (wanted_none rfl) e48 e52 (run_eql_strV _ _ _ _ _) ⟨Rb.refl _, ?_⟩
              exact congrArg Value.bool (by simp)
            refine Owed.cons ?_ ?_
            · -- 6: slot 54 := Op.move (Operand.tmp 53)
              intro a w hR F
              have e53 : a.eval (.tmp 53) = .bool true := F.new 5 53 (by kernel_rfl)
              exact ok_move _ rfl (wanted_none rfl) ⟨Rb.refl _, e53⟩
            refine Owed.cons ?_ ?_
            · -- 7: slot 55 := Op.move (Operand.tmp 0)
              intro a w hR F
              have e54 : a.eval (.tmp 54) = .bool true := F.new 6 54 (by kernel_rfl)
              have e0 : a.eval (.tmp 0) = .int .u32 (g) := F.old 0 (by kernel_rfl)
              exact ok_move _ rfl (wanted_true (j := 6) (d := 54) rfl (by kernel_rfl) e54) ⟨Rb.refl _, e0⟩
            refine Owed.cons ?_ ?_
            · -- 8: slot 56 := Op.move (Operand.tmp 1)
              intro a w hR F
              have e54 : a.eval (.tmp 54) = .bool true := F.new 6 54 (by kernel_rfl)
              have e1 : a.eval (.tmp 1) = u1 := F.old 1 (by kernel_rfl)
              exact ok_move _ rfl (wanted_true (j := 6) (d := 54) rfl (by kernel_rfl) e54) ⟨Rb.refl _, e1⟩
            refine Owed.cons ?_ ?_
            · -- 9: slot 57 := Op.call { callee := Callee.value (Operand.func 15), args := #[Operand.tmp 55, Operand.tmp 56], argTy
              intro a w hR F
              have e54 : a.eval (.tmp 54) = .bool true := F.new 6 54 (by kernel_rfl)
              have e55 : a.eval (.tmp 55) = .int .u32 (g) := F.new 7 55 (by kernel_rfl)
              have e56 : a.eval (.tmp 56) = u1 := F.new 8 56 (by kernel_rfl)
              refine ok_call 15 _ _ #[.int .u32 (g), u1] rfl (wanted_true (j := 6) (d := 54) rfl (by kernel_rfl) e54) (by simp [e55, e56]) (Try.call15 _ _) ?_
              exact L3.put_call (image_any u1 g xs w (H1.out.below hR) (by have := HX.out; omega) HG.out)
            refine Owed.cons ?_ ?_
            · -- 10: slot 58 := Op.convert 23 9 (Operand.tmp 57)
              intro a w hR F
              have e54 : a.eval (.tmp 54) = .bool true := F.new 6 54 (by kernel_rfl)
              have e57 : Bs w (a.eval (.tmp 57)) (frameB g xs) := F.new 9 57 (by kernel_rfl)
              exact ok_conv _ _ _ rfl (wanted_true (j := 6) (d := 54) rfl (by kernel_rfl) e54) (run_convert_Bs e57 23 5 9 Try.underlying23 Try.underlying5 Try.underlying9) ⟨Rb.refl _, rfl⟩
            refine Owed.cons ?_ ?_
            · -- 11: slot 59 := Op.move (Operand.tmp 7)
              intro a w hR F
              have e54 : a.eval (.tmp 54) = .bool true := F.new 6 54 (by kernel_rfl)
              have e7 : a.eval (.tmp 7) = strV (frameB g xs) := F.old 7 (by kernel_rfl)
              exact ok_move _ rfl (wanted_true (j := 6) (d := 54) rfl (by kernel_rfl) e54) ⟨Rb.refl _, e7⟩
            refine Owed.cons ?_ ?_
            · -- 12: slot 60 := Op.binOp BinOp.eql 9 (Operand.tmp 58) (Operand.tmp 59) 9
              intro a w hR F
              have e54 : a.eval (.tmp 54) = .bool true := F.new 6 54 (by kernel_rfl)
              have e58 : a.eval (.tmp 58) = strV (frameB g xs) := F.new 10 58 (by kernel_rfl)
              have e59 : a.eval (.tmp 59) = strV (frameB g xs) := F.new 11 59 (by kernel_rfl)
              refine ok_bin _ _ _ _ _ rfl (wanted_true (j := 6) (d := 54) rfl (by kernel_rfl) e54) e58 e59 (run_eql_strV _ _ _ _ _) ⟨Rb.refl _, ?_⟩
              exact congrArg Value.bool (by simp)
            refine Owed.cons ?_ ?_
            · -- 13: slot 61 := Op.pick (Operand.tmp 54) (Operand.tmp 60) (Operand.const (Value.bool false))
              intro a w hR F
              have e54 : a.eval (.tmp 54) = .bool true := F.new 6 54 (by kernel_rfl)
              have e60 : a.eval (.tmp 60) = .bool true := F.new 12 60 (by kernel_rfl)
              exact ok_pick _ _ _ true rfl (wanted_none rfl) e54 ⟨Rb.refl _, e60⟩
            refine Owed.cons ?_ ?_
            · -- 14: slot 62 := Op.move (Operand.tmp 61)
              intro a w hR F
              have e61 : a.eval (.tmp 61) = .bool true := F.new 13 61 (by kernel_rfl)
              exact ok_move _ rfl (wanted_none rfl) ⟨Rb.refl _, e61⟩
            refine Owed.cons ?_ ?_
            · -- 15: slot 63 := Op.move (Operand.tmp 1)
              intro a w hR F
              have e62 : a.eval (.tmp 62) = .bool true := F.new 14 62 (by kernel_rfl)
              have e1 : a.eval (.tmp 1) = u1 := F.old 1 (by kernel_rfl)
              exact ok_move _ rfl (wanted_true (j := 14) (d := 62) rfl (by kernel_rfl) e62) ⟨Rb.refl _, e1⟩
            refine Owed.cons ?_ ?_
            · -- 16: slot 64 := Op.call { callee := Callee.builtin Builtin.len, args := #[Operand.tmp 63], argTypes := #[23] }
              intro a w hR F
              have e62 : a.eval (.tmp 62) = .bool true := F.new 14 62 (by kernel_rfl)
              have e63 : a.eval (.tmp 63) = u1 := F.new 15 63 (by kernel_rfl)
              exact ok_len_bs _ _ 5 Try.underlying23 (xs) rfl (wanted_true (j := 14) (d := 62) rfl (by kernel_rfl) e62) (by rw [e63]; exact H1.out.below hR) ⟨Rb.refl _, rfl⟩
            refine Owed.cons ?_ ?_
            · -- 17: slot 65 := Op.call { callee := Callee.value (Operand.func 16), args := #[Operand.tmp 64], argTypes := #[3] }
              intro a w hR F
              have e62 : a.eval (.tmp 62) = .bool true := F.new 14 62 (by kernel_rfl)
              have e64 : a.eval (.tmp 64) = .int .i64 (((xs).length : Int)) := F.new 16 64 (by kernel_rfl)
              refine ok_call 16 _ _ #[.int .i64 (((xs).length : Int))] rfl (wanted_true (j := 14) (d := 62) rfl (by kernel_rfl) e62) (by simp [e64]) (Try.call16 _ _) ?_
              exact val_call (cost_any _ w)
            refine Owed.cons ?_ ?_
            · -- 18: slot 66 := Op.move (Operand.tmp 7)
              intro a w hR F
              have e62 : a.eval (.tmp 62) = .bool true := F.new 14 62 (by kernel_rfl)
              have e7 : a.eval (.tmp 7) = strV (frameB g xs) := F.old 7 (by kernel_rfl)
              exact ok_move _ rfl (wanted_true (j := 14) (d := 62) rfl (by kernel_rfl) e62) ⟨Rb.refl _, e7⟩
            refine Owed.cons ?_ ?_
            · -- 19: slot 67 := Op.call { callee := Callee.builtin Builtin.len, args := #[Operand.tmp 66], argTypes := #[9] }
              intro a w hR F
              have e62 : a.eval (.tmp 62) = .bool true := F.new 14 62 (by kernel_rfl)
              have e66 : a.eval (.tmp 66) = strV (frameB g xs) := F.new 18 66 (by kernel_rfl)
              exact ok_len_str _ _ (str (frameB g xs)) Try.underlying9 rfl (wanted_true (j := 14) (d := 62) rfl (by kernel_rfl) e62) e66 ⟨Rb.refl _, rfl⟩
            refine Owed.cons ?_ ?_
            · -- 20: slot 68 := Op.binOp BinOp.eql 3 (Operand.tmp 65) (Operand.tmp 67) 3
              intro a w hR F
              have e62 : a.eval (.tmp 62) = .bool true := F.new 14 62 (by kernel_rfl)
              have e65 : a.eval (.tmp 65) = .int .i64 (costN (xs.length : Int)) := F.new 17 65 (by kernel_rfl)
              have e67 : a.eval (.tmp 67) = .int .i64 (((str (frameB g xs)).size : Int)) := F.new 19 67 (by kernel_rfl)
              refine ok_bin _ _ _ _ _ rfl (wanted_true (j := 14) (d := 62) rfl (by kernel_rfl) e62) e65 e67 (run_eql_int _ _ _ _ _ _) ⟨Rb.refl _, ?_⟩
              exact congrArg Value.bool (HC1.out)
            refine Owed.cons ?_ ?_
            · -- 21: slot 69 := Op.pick (Operand.tmp 62) (Operand.tmp 68) (Operand.const (Value.bool false))
              intro a w hR F
              have e62 : a.eval (.tmp 62) = .bool true := F.new 14 62 (by kernel_rfl)
              have e68 : a.eval (.tmp 68) = .bool true := F.new 20 68 (by kernel_rfl)
              exact ok_pick _ _ _ true rfl (wanted_none rfl) e62 ⟨Rb.refl _, e68⟩
            refine Owed.cons ?_ ?_
            · -- 22: slot 70 := Op.move (Operand.tmp 69)
              intro a w hR F
              have e69 : a.eval (.tmp 69) = .bool true := F.new 21 69 (by kernel_rfl)
              exact ok_move _ rfl (wanted_none rfl) ⟨Rb.refl _, e69⟩
            refine Owed.cons ?_ ?_
            · -- 23: slot 71 := Op.move (Operand.tmp 2)
              intro a w hR F
              have e70 : a.eval (.tmp 70) = .bool true := F.new 22 70 (by kernel_rfl)
              have e2 : a.eval (.tmp 2) = .int .i64 (n) := F.old 2 (by kernel_rfl)
              exact ok_move _ rfl (wanted_true (j := 22) (d := 70) rfl (by kernel_rfl) e70) ⟨Rb.refl _, e2⟩
            refine Owed.cons ?_ ?_
            · -- 24: slot 72 := Op.call { callee := Callee.value (Operand.func 16), args := #[Operand.tmp 71], argTypes := #[3] }
              intro a w hR F
              have e70 : a.eval (.tmp 70) = .bool true := F.new 22 70 (by kernel_rfl)
              have e71 : a.eval (.tmp 71) = .int .i64 (n) := F.new 23 71 (by kernel_rfl)
              refine ok_call 16 _ _ #[.int .i64 (n)] rfl (wanted_true (j := 22) (d := 70) rfl (by kernel_rfl) e70) (by simp [e71]) (Try.call16 _ _) ?_
              exact val_call (cost_any n w)
            refine Owed.cons ?_ ?_
            · -- 25: slot 73 := Op.move (Operand.tmp 14)
              intro a w hR F
              have e70 : a.eval (.tmp 70) = .bool true := F.new 22 70 (by kernel_rfl)
              have e14 : a.eval (.tmp 14) = .int .i64 (c) := F.old 14 (by kernel_rfl)
              exact ok_move _ rfl (wanted_true (j := 22) (d := 70) rfl (by kernel_rfl) e70) ⟨Rb.refl _, e14⟩
            refine Owed.cons ?_ ?_
            · -- 26: slot 74 := Op.move (Operand.tmp 15)
              intro a w hR F
              have e70 : a.eval (.tmp 70) = .bool true := F.new 22 70 (by kernel_rfl)
              have e15 : a.eval (.tmp 15) = .int .i64 (s) := F.old 15 (by kernel_rfl)
              exact ok_move _ rfl (wanted_true (j := 22) (d := 70) rfl (by kernel_rfl) e70) ⟨Rb.refl _, e15⟩
            refine Owed.cons ?_ ?_
            · -- 27: slot 75 := Op.binOp BinOp.add 3 (Operand.tmp 73) (Operand.tmp 74) 3
              intro a w hR F
              have e70 : a.eval (.tmp 70) = .bool true := F.new 22 70 (by kernel_rfl)
              have e73 : a.eval (.tmp 73) = .int .i64 (c) := F.new 25 73 (by kernel_rfl)
              have e74 : a.eval (.tmp 74) = .int .i64 (s) := F.new 26 74 (by kernel_rfl)
              exact ok_bin _ _ _ _ _ rfl (wanted_true (j := 22) (d := 70) rfl (by kernel_rfl) e70) e73 e74 (run_add_i64 _ _ _ _ _ (by have := HB.out; omega) (by have := HB.out; omega)) ⟨Rb.refl _, rfl⟩
            refine Owed.cons ?_ ?_
            · -- 28: slot 76 := Op.binOp BinOp.add 3 (Operand.tmp 75) (Operand.const (Value.int IntKind.i64 8)) 3
              intro a w hR F
              have e70 : a.eval (.tmp 70) = .bool true := F.new 22 70 (by kernel_rfl)
              have e75 : a.eval (.tmp 75) = .int .i64 (c + s) := F.new 27 75 (by kernel_rfl)
              exact ok_bin _ _ _ _ _ rfl (wanted_true (j := 22) (d := 70) rfl (by kernel_rfl) e70) e75 rfl (run_add_i64 _ _ _ _ _ (by have := HB.out; omega) (by have := HB.out; omega)) ⟨Rb.refl _, rfl⟩
            refine Owed.cons ?_ ?_
            · -- 29: slot 77 := Op.binOp BinOp.eql 3 (Operand.tmp 72) (Operand.tmp 76) 3
              intro a w hR F
              have e70 : a.eval (.tmp 70) = .bool true := F.new 22 70 (by kernel_rfl)
              have e72 : a.eval (.tmp 72) = .int .i64 (costN n) := F.new 24 72 (by kernel_rfl)
              have e76 : a.eval (.tmp 76) = .int .i64 ((c + s) + 8) := F.new 28 76 (by kernel_rfl)
              refine ok_bin _ _ _ _ _ rfl (wanted_true (j := 22) (d := 70) rfl (by kernel_rfl) e70) e72 e76 (run_eql_int _ _ _ _ _ _) ⟨Rb.refl _, ?_⟩
              exact congrArg Value.bool (HC2.out)
            refine Owed.cons ?_ ?_
            · -- 30: slot 78 := Op.pick (Operand.tmp 70) (Operand.tmp 77) (Operand.const (Value.bool false))
              intro a w hR F
              have e70 : a.eval (.tmp 70) = .bool true := F.new 22 70 (by kernel_rfl)
              have e77 : a.eval (.tmp 77) = .bool true := F.new 29 77 (by kernel_rfl)
              exact ok_pick _ _ _ true rfl (wanted_none rfl) e70 ⟨Rb.refl _, e77⟩
            refine Owed.cons ?_ ?_
            · -- 31: slot 79 := Op.move (Operand.tmp 78)
              intro a w hR F
              have e78 : a.eval (.tmp 78) = .bool true := F.new 30 78 (by kernel_rfl)
              exact ok_move _ rfl (wanted_none rfl) ⟨Rb.refl _, e78⟩
            refine Owed.cons ?_ ?_
            · -- 32: slot 80 := Op.move (Operand.tmp 8)
              intro a w hR F
              have e79 : a.eval (.tmp 79) = .bool true := F.new 31 79 (by kernel_rfl)
              have e8 : a.eval (.tmp 8) = .int .u32 (G) := F.old 8 (by kernel_rfl)
              exact ok_move _ rfl (wanted_true (j := 31) (d := 79) rfl (by kernel_rfl) e79) ⟨Rb.refl _, e8⟩
            refine Owed.cons ?_ ?_
            · -- 33: slot 81 := Op.move (Operand.tmp 11)
              intro a w hR F
              have e79 : a.eval (.tmp 79) = .bool true := F.new 31 79 (by kernel_rfl)
              have e11 : a.eval (.tmp 11) = .int .u32 (G) := F.old 11 (by kernel_rfl)
              exact ok_move _ rfl (wanted_true (j := 31) (d := 79) rfl (by kernel_rfl) e79) ⟨Rb.refl _, e11⟩
            refine Owed.cons ?_ ?_
            · -- 34: slot 82 := Op.binOp BinOp.eql 22 (Operand.tmp 80) (Operand.tmp 81) 22
              intro a w hR F
              have e79 : a.eval (.tmp 79) = .bool true := F.new 31 79 (by kernel_rfl)
              have e80 : a.eval (.tmp 80) = .int .u32 (G) := F.new 32 80 (by kernel_rfl)
              have e81 : a.eval (.tmp 81) = .int .u32 (G) := F.new 33 81 (by kernel_rfl)
              refine ok_bin _ _ _ _ _ rfl (wanted_true (j := 31) (d := 79) rfl (by kernel_rfl) e79) e80 e81 (run_eql_int _ _ _ _ _ _) ⟨Rb.refl _, ?_⟩
              exact congrArg Value.bool (by simp)
            refine Owed.cons ?_ ?_
            · -- 35: slot 83 := Op.pick (Operand.tmp 79) (Operand.tmp 82) (Operand.const (Value.bool false))
              intro a w hR F
              have e79 : a.eval (.tmp 79) = .bool true := F.new 31 79 (by kernel_rfl)
              have e82 : a.eval (.tmp 82) = .bool true := F.new 34 82 (by kernel_rfl)
              exact ok_pick _ _ _ true rfl (wanted_none rfl) e79 ⟨Rb.refl _, e82⟩
            refine Owed.cons ?_ ?_
            · -- 36: slot 84 := Op.move (Operand.tmp 83)
              intro a w hR F
              have e83 : a.eval (.tmp 83) = .bool true := F.new 35 83 (by kernel_rfl)
              exact ok_move _ rfl (wanted_none rfl) ⟨Rb.refl _, e83⟩
            refine Owed.cons ?_ ?_
            · -- 37: slot 85 := Op.move (Operand.tmp 9)
              intro a w hR F
              have e84 : a.eval (.tmp 84) = .bool true := F.new 36 84 (by kernel_rfl)
              have e9 : a.eval (.tmp 9) = v9 := F.old 9 (by kernel_rfl)
              exact ok_move _ rfl (wanted_true (j := 36) (d := 84) rfl (by kernel_rfl) e84) ⟨Rb.refl _, e9⟩
            refine Owed.cons ?_ ?_
            · -- 38: slot 86 := Op.convert 23 9 (Operand.tmp 85)
              intro a w hR F
              have e84 : a.eval (.tmp 84) = .bool true := F.new 36 84 (by kernel_rfl)
              have e85 : a.eval (.tmp 85) = v9 := F.new 37 85 (by kernel_rfl)
              exact ok_conv _ _ _ rfl (wanted_true (j := 36) (d := 84) rfl (by kernel_rfl) e84) (run_convert_Bs (xs := S) (by rw [e85]; exact H9.out.below hR) 23 5 9 Try.underlying23 Try.underlying5 Try.underlying9) ⟨Rb.refl _, rfl⟩
            refine Owed.cons ?_ ?_
            · -- 39: slot 87 := Op.move (Operand.tmp 12)
              intro a w hR F
              have e84 : a.eval (.tmp 84) = .bool true := F.new 36 84 (by kernel_rfl)
              have e12 : a.eval (.tmp 12) = strV (S) := F.old 12 (by kernel_rfl)
              exact ok_move _ rfl (wanted_true (j := 36) (d := 84) rfl (by kernel_rfl) e84) ⟨Rb.refl _, e12⟩
            refine Owed.cons ?_ ?_
            · -- 40: slot 88 := Op.binOp BinOp.eql 9 (Operand.tmp 86) (Operand.tmp 87) 9
              intro a w hR F
              have e84 : a.eval (.tmp 84) = .bool true := F.new 36 84 (by kernel_rfl)
              have e86 : a.eval (.tmp 86) = strV (S) := F.new 38 86 (by kernel_rfl)
              have e87 : a.eval (.tmp 87) = strV (S) := F.new 39 87 (by kernel_rfl)
              refine ok_bin _ _ _ _ _ rfl (wanted_true (j := 36) (d := 84) rfl (by kernel_rfl) e84) e86 e87 (run_eql_strV _ _ _ _ _) ⟨Rb.refl _, ?_⟩
              exact congrArg Value.bool (by simp)
            refine Owed.cons ?_ ?_
            · -- 41: slot 89 := Op.pick (Operand.tmp 84) (Operand.tmp 88) (Operand.const (Value.bool false))
              intro a w hR F
              have e84 : a.eval (.tmp 84) = .bool true := F.new 36 84 (by kernel_rfl)
              have e88 : a.eval (.tmp 88) = .bool true := F.new 40 88 (by kernel_rfl)
              exact ok_pick _ _ _ true rfl (wanted_none rfl) e84 ⟨Rb.refl _, e88⟩
            refine Owed.cons ?_ ?_
            · -- 42: slot 90 := Op.move (Operand.tmp 89)
              intro a w hR F
              have e89 : a.eval (.tmp 89) = .bool true := F.new 41 89 (by kernel_rfl)
              exact ok_move _ rfl (wanted_none rfl) ⟨Rb.refl _, e89⟩
            refine Owed.cons ?_ ?_
            · -- 43: slot 91 := Op.move (Operand.tmp 10)
              intro a w hR F
              have e90 : a.eval (.tmp 90) = .bool true := F.new 42 90 (by kernel_rfl)
              have e10 : a.eval (.tmp 10) = .bool K := F.old 10 (by kernel_rfl)
              exact ok_move _ rfl (wanted_true (j := 42) (d := 90) rfl (by kernel_rfl) e90) ⟨Rb.refl _, e10⟩
            refine Owed.cons ?_ ?_
            · -- 44: slot 92 := Op.move (Operand.tmp 13)
              intro a w hR F
              have e90 : a.eval (.tmp 90) = .bool true := F.new 42 90 (by kernel_rfl)
              have e13 : a.eval (.tmp 13) = .bool K := F.old 13 (by kernel_rfl)
              exact ok_move _ rfl (wanted_true (j := 42) (d := 90) rfl (by kernel_rfl) e90) ⟨Rb.refl _, e13⟩
            refine Owed.cons ?_ ?_
            · -- 45: slot 93 := Op.binOp BinOp.eql 4 (Operand.tmp 91) (Operand.tmp 92) 4
              intro a w hR F
              have e90 : a.eval (.tmp 90) = .bool true := F.new 42 90 (by kernel_rfl)
              have e91 : a.eval (.tmp 91) = .bool K := F.new 43 91 (by kernel_rfl)
              have e92 : a.eval (.tmp 92) = .bool K := F.new 44 92 (by kernel_rfl)
              refine ok_bin _ _ _ _ _ rfl (wanted_true (j := 42) (d := 90) rfl (by kernel_rfl) e90) e91 e92 (run_eql_boolB _ _ _ _ _ Try.underlying4) ⟨Rb.refl _, ?_⟩
              exact congrArg Value.bool (by simp)
            refine Owed.cons ?_ ?_
            · -- 46: slot 94 := Op.pick (Operand.tmp 90) (Operand.tmp 93) (Operand.const (Value.bool false))
              intro a w hR F
              have e90 : a.eval (.tmp 90) = .bool true := F.new 42 90 (by kernel_rfl)
              have e93 : a.eval (.tmp 93) = .bool true := F.new 45 93 (by kernel_rfl)
              exact ok_pick _ _ _ true rfl (wanted_none rfl) e90 ⟨Rb.refl _, e93⟩
            refine Owed.cons ?_ ?_
            · -- 47: slot 95 := Op.move (Operand.tmp 94)
              intro a w hR F
              have e94 : a.eval (.tmp 94) = .bool true := F.new 46 94 (by kernel_rfl)
              exact ok_move _ rfl (wanted_none rfl) ⟨Rb.refl _, e94⟩
            refine Owed.cons ?_ ?_
            · -- 48: slot 96 := Op.call { callee := Callee.value (Operand.func 17), args := #[], argTypes := #[] }
              intro a w hR F
              have e95 : a.eval (.tmp 95) = .bool true := F.new 47 95 (by kernel_rfl)
              refine ok_call 17 _ _ #[] rfl (wanted_true (j := 47) (d := 95) rfl (by kernel_rfl) e95) (by simp) (Try.call17 _ _) ?_
              exact val_call_rb (lives_any w)
            refine Owed.cons ?_ ?_
            · -- 49: slot 97 := Op.pick (Operand.tmp 95) (Operand.tmp 96) (Operand.const (Value.bool false))
              intro a w hR F
              have e95 : a.eval (.tmp 95) = .bool true := F.new 47 95 (by kernel_rfl)
              have e96 : a.eval (.tmp 96) = .bool true := F.new 48 96 (by kernel_rfl)
              exact ok_pick _ _ _ true rfl (wanted_none rfl) e95 ⟨Rb.refl _, e96⟩
            refine Owed.cons ?_ ?_
            · -- 50: slot 6 := Op.assign (Operand.tmp 97)
              intro a w hR F
              have e97 : a.eval (.tmp 97) = .bool true := F.new 49 97 (by kernel_rfl)
              exact ok_assign _ rfl (wanted_none rfl) ⟨Rb.refl _, e97⟩
            exact Owed.nil
          case fin =>
            intro y w2 hR hy
            have e50 : y 50 = .bool true := hy 50 _ rfl
            have HR := Lib.hid hR
            clear hy hR
            simp only [putAll, Act.put, List.setIfInBounds_toArray, List.set_cons_zero, List.set_cons_succ]
            rw [e50]
            clear e50
            go_wp2
            go_ret
            exact ⟨rfl, Rb.trans _ _ _ HR5.out HR.out⟩
end Go.Proofs.Ytbdgdmieggpmhaa.L4
