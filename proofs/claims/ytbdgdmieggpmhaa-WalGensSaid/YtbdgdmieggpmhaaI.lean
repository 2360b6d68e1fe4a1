import Derived.Test.YtbdgdmieggpmhaaH
import Derived.Test.YtbdgdmieggpmhaaGc
namespace Go.Proofs.Ytbdgdmieggpmhaa
open Go.ChangeShapes Go.WideShapes Go.ChangeAt Go.RowKit Oct By Reg

def tupR (r : Option (Nat × Nat)) : Value := match r with
  | none => .tuple #[.int .u64 0, .int .i64 0]
  | some (n, k) => .tuple #[.int .u64 n, .int .i64 k]

set_option maxRecDepth 100000 in
theorem refget_out (v : Value) (xs : List UInt8) (i : Int) (w : World) (hb : Bs w v xs) (h0 : ¬ (0 ≤ i ∧ i ≤ xs.length)) :
    Calls Try.prog 78 #[v, .int .i64 i] w fun e w' => e = .returned (tupR none) ∧ Below w.heap.size w w' := by
  obtain ⟨ao, cap, rfl, h2, h3⟩ := hb.len
  clear hb h3
  by_cases hn : i < 0
  · go_enter Try.func78, Try.ntmps78
    go_wp2
    go_ret2
    exact ⟨rfl, Below.refl _ _⟩
  · have hg : (xs.length : Int) < i := by omega
    clear h0
    go_enter Try.func78, Try.ntmps78
    go_wp2
    go_ret2
    exact ⟨rfl, Below.refl _ _⟩

theorem sizeOf8 : ∀ w, (Go.sizeOf 5).run Try.prog w = .ok 1 w := fun _ => by kernel_rfl

/-- the number of the bytes from j on -/
def back (ys : List UInt8) (k j : Nat) : Nat := val ((ys.take (k + 1)).drop j) % 18446744073709551616
theorem back_start (ys : List UInt8) (k : Nat) (h : k < ys.length) : back ys k (k + 1) = 0 := by
  unfold back; rw [List.drop_of_length_le (by simp; omega)]; rfl
theorem back_end (ys : List UInt8) (k : Nat) : back ys k 0 = acc ys (k + 1) := rfl
theorem back_step (ys : List UInt8) (k j : Nat) (h : k < ys.length) (hj : j ≤ k) : back ys k j = (back ys k (j + 1) * 128 + bt ys j % 128) % 18446744073709551616 := by
  have hlt : j < (ys.take (k + 1)).length := by simp; omega
  unfold back
  rw [List.drop_eq_getElem_cons hlt]
  simp only [val]
  have : ((ys.take (k + 1))[j]).toNat = bt ys j := by
    rw [List.getElem_take, bt, List.getD_eq_getElem?_getD, List.getElem?_eq_getElem (by omega)]; rfl
  rw [this]
  omega
theorem back_lt (ys : List UInt8) (k j : Nat) : back ys k j < 18446744073709551616 := Nat.mod_lt _ (by decide)

set_option maxRecDepth 100000 in
theorem refget_in (v : Value) (xs : List UInt8) (i : Nat) (w : World) (hb : Bs w v xs) (hx : xs.length ≤ 100000000) (hi : i ≤ xs.length) :
    Calls Try.prog 78 #[v, .int .i64 (i : Int)] w fun e w' => e = .returned (tupR (getU (xs.drop i))) ∧ Below w.heap.size w w' := by
  obtain ⟨ao, cap, rfl, h2, h3⟩ := hb.len
  have Hc : Hid (0 < xs.length → ∃ b o, ao = some ⟨b, o, none⟩ ∧ ∀ k, k < xs.length → w.cell? ⟨b, o + k, none⟩ = some (.int .u8 (bt xs k : Int))) := fun h => by
    obtain ⟨b, o, cap', e, _, _, hc⟩ := hb.form h
    cases e
    exact ⟨b, o, rfl, hc⟩
  have HB := Lib.hid hb
  obtain ⟨ys, hys⟩ : ∃ ys, ys = xs.drop i := ⟨_, rfl⟩
  have Hys := Lib.hid hys
  have Hyl := Lib.hid (show xs.length = i + ys.length by rw [hys, List.length_drop]; omega)
  rw [← hys]
  clear hb h3 hys
  have hd1 : decide (xs.length < i) = false := by simp; omega
  have hd2 : decide ((i : Int) < 0) = false := by simp
  go_enter Try.func78, Try.ntmps78
  go_wp2
  go_loop [6] (fun j => ∃ k : Nat, k ≤ 10 ∧ i + k ≤ xs.length ∧ j = .int .i64 ((k : Int) + 1) ∧ big ys k) (fun j => 11 - (intOf j).toNat)
  case atStart => exact ⟨0, by omega, by omega, rfl, fun _ h => by omega⟩
  case round =>
    obtain ⟨k, hk1, hk2, rfl, hbig⟩ := hrel
    by_cases hlt : k < 10 ∧ i + k < xs.length
    · obtain ⟨hl1, hl2⟩ := hlt
      obtain ⟨b, o, rfl, hc⟩ := Hc.out (by omega)
      have hcell := hc (i + k) (by omega)
      rw [← bt_drop, ← Hys.out] at hcell
      have HC : Hid (∀ j, j ≤ k → w.cell? ⟨b, o + (i + j), none⟩ = some (.int .u8 (bt ys j : Int))) := fun j hj => by
        have := hc (i + j) (by omega)
        rwa [← bt_drop, ← Hys.out] at this
      clear hc
      have hbt := bt_lt ys k
      have hys : k < ys.length := by have := Hyl.out; omega
      by_cases hge : 128 ≤ bt ys k
      · have hbig' := big_succ hbig (show 128 ≤ bt ys k from hge)
        go_wp2_with fail
        go_round
        case rel => exact ⟨k + 1, by omega, by omega, by go_num, hbig'⟩
        case measure => simp [intOf]; omega
      · have hbc : ¬ (128 : Int) ≤ bt ys k := by omega
        have hbs := Lib.hid (back_start ys k hys)
        go_wp2_with fail
        clear hcell
        go_loop [7, 8] (fun n j => ∃ m : Nat, m ≤ k + 1 ∧ j = .int .i64 ((m : Int) - 1) ∧ n = .int .u64 (back ys k m)) (fun _ j => (intOf j + 1).toNat)
        case atStart => exact ⟨k + 1, by omega, by go_num, by rw [hbs.out]; rfl⟩
        case round =>
          obtain ⟨m, hm, rfl, rfl⟩ := hrel
          cases m with
          | succ m =>
            have hcell := HC.out m (by omega)
            have hbm := bt_lt ys m
            have hst := Lib.hid (back_step ys k m hys (by omega))
            have hbl := back_lt ys k (m + 1)
            rw [show (((m + 1 : Nat) : Int) - 1) = (m : Int) by omega]
            go_wp2_with fail
            go_round
            case rel => exact ⟨m, by omega, by go_num, by rw [hst.out, IntKind.wrap_u64, IntKind.wrap_u64]; congr 1; omega⟩
            case measure => simp [intOf]
          | zero =>
            rw [back_end]
            go_wp2_with fail
            have hlo : (ys.getD k 0).toNat < 128 := by show bt ys k < 128; omega
            by_cases hme : mayEndB (ys.getD k 0).toNat k = true
            · have Hfin := Lib.hid (getU_yes ys k hys hl1 hbig hlo hme)
              refine wp_region_specs (R := Rb) (S := [Spec.eq (.int .u64 ((acc ys (k + 1) : Int))), bsSpec (uintB (acc ys (k + 1))), Spec.eq (strV (uintB (acc ys (k + 1)))), Spec.eq (.slice (some ⟨b, o, none⟩) xs.length cap), Spec.eq (.int .i64 ((i : Int))), Spec.eq (.int .i64 ((i : Int))), Spec.eq (.int .i64 ((k : Int) + 1)), Spec.eq (.int .i64 (((i : Int)) + ((k : Int) + 1))), bsSpec (ys.take (k + 1)), Spec.eq (strV (ys.take (k + 1))), Spec.eq (.bool true)]) (n := 1) (size := 67) (by kernel_rfl) Rb.trans (Rb.drew _) rfl (by kernel_rfl) ?owed ?fin
              case owed =>
                refine Owed.cons ?_ ?_
                · -- 0: slot 54 := Op.move (Operand.tmp 7)
                  intro a w hR F
                  have e7 : a.eval (.tmp 7) = .int .u64 ((acc ys (k + 1) : Int)) := F.old 7 (by kernel_rfl)
                  exact ok_move _ rfl (wanted_none rfl) ⟨Rb.refl _, e7⟩
                refine Owed.cons ?_ ?_
                · -- 1: slot 55 := Op.call { callee := Callee.value (Operand.func 11), args := #[Operand.tmp 54], argTypes := #[23] }
                  intro a w hR F
                  have e54 : a.eval (.tmp 54) = .int .u64 ((acc ys (k + 1) : Int)) := F.new 0 54 (by kernel_rfl)
                  refine ok_call 71 _ _ #[.int .u64 ((acc ys (k + 1) : Int))] rfl (wanted_none rfl) (by simp [e54]) (Try.call71 _ _) ?_
                  exact put_call (refuint_nat (acc ys (k + 1)) w (Nat.mod_lt _ (by decide)))
                refine Owed.cons ?_ ?_
                · -- 2: slot 56 := Op.convert 22 9 (Operand.tmp 55)
                  intro a w hR F
                  have e55 : Bs w (a.eval (.tmp 55)) (uintB (acc ys (k + 1))) := F.new 1 55 (by kernel_rfl)
                  exact ok_conv _ _ _ rfl (wanted_none rfl) (run_convert_Bs e55 23 5 9 Try.underlying23 Try.underlying5 Try.underlying9) ⟨Rb.refl _, rfl⟩
                refine Owed.cons ?_ ?_
                · -- 3: slot 57 := Op.move (Operand.tmp 0)
                  intro a w hR F
                  have e0 : a.eval (.tmp 0) = .slice (some ⟨b, o, none⟩) xs.length cap := F.old 0 (by kernel_rfl)
                  exact ok_move _ rfl (wanted_none rfl) ⟨Rb.refl _, e0⟩
                refine Owed.cons ?_ ?_
                · -- 4: slot 58 := Op.move (Operand.tmp 1)
                  intro a w hR F
                  have e1 : a.eval (.tmp 1) = .int .i64 ((i : Int)) := F.old 1 (by kernel_rfl)
                  exact ok_move _ rfl (wanted_none rfl) ⟨Rb.refl _, e1⟩
                refine Owed.cons ?_ ?_
                · -- 5: slot 59 := Op.move (Operand.tmp 1)
                  intro a w hR F
                  have e1 : a.eval (.tmp 1) = .int .i64 ((i : Int)) := F.old 1 (by kernel_rfl)
                  exact ok_move _ rfl (wanted_none rfl) ⟨Rb.refl _, e1⟩
                refine Owed.cons ?_ ?_
                · -- 6: slot 60 := Op.move (Operand.tmp 6)
                  intro a w hR F
                  have e6 : a.eval (.tmp 6) = .int .i64 ((k : Int) + 1) := F.old 6 (by kernel_rfl)
                  exact ok_move _ rfl (wanted_none rfl) ⟨Rb.refl _, e6⟩
                refine Owed.cons ?_ ?_
                · -- 7: slot 61 := Op.binOp BinOp.add 3 (Operand.tmp 59) (Operand.tmp 60) 3
                  intro a w hR F
                  have e59 : a.eval (.tmp 59) = .int .i64 ((i : Int)) := F.new 5 59 (by kernel_rfl)
                  have e60 : a.eval (.tmp 60) = .int .i64 ((k : Int) + 1) := F.new 6 60 (by kernel_rfl)
                  exact ok_bin _ _ _ _ _ rfl (wanted_none rfl) e59 e60 (run_add_i64 _ _ _ _ _ (by omega) (by omega)) ⟨Rb.refl _, rfl⟩
                refine Owed.cons ?_ ?_
                · -- 8: slot 62 := Op.slice 22 (Operand.tmp 57) (some (Operand.tmp 58)) (some (Operand.tmp 61)) none
                  intro a w hR F
                  have e57 : a.eval (.tmp 57) = .slice (some ⟨b, o, none⟩) xs.length cap := F.new 3 57 (by kernel_rfl)
                  have e58 : a.eval (.tmp 58) = .int .i64 ((i : Int)) := F.new 4 58 (by kernel_rfl)
                  have e61 : a.eval (.tmp 61) = .int .i64 (((i : Int)) + ((k : Int) + 1)) := F.new 7 61 (by kernel_rfl)
                  refine ok_slice_bs _ 5 _ _ _ (xs) (i) (i + (k + 1)) rfl (wanted_none rfl) Try.underlying23 sizeOf8 (by rw [e57]; exact HB.out.below hR) (e58) (by rw [e61]; exact congrArg (Value.int .i64) (by omega)) (by omega) (by omega) (fun v hv => ⟨Rb.refl _, ?_⟩)
                  exact by have h := hv; rw [show i + (k + 1) - i = k + 1 by omega, ← Hys.out] at h; exact h
                refine Owed.cons ?_ ?_
                · -- 9: slot 63 := Op.convert 22 9 (Operand.tmp 62)
                  intro a w hR F
                  have e62 : Bs w (a.eval (.tmp 62)) (ys.take (k + 1)) := F.new 8 62 (by kernel_rfl)
                  exact ok_conv _ _ _ rfl (wanted_none rfl) (run_convert_Bs e62 23 5 9 Try.underlying23 Try.underlying5 Try.underlying9) ⟨Rb.refl _, rfl⟩
                refine Owed.cons ?_ ?_
                · -- 10: slot 64 := Op.binOp BinOp.eql 9 (Operand.tmp 56) (Operand.tmp 63) 9
                  intro a w hR F
                  have e56 : a.eval (.tmp 56) = strV (uintB (acc ys (k + 1))) := F.new 2 56 (by kernel_rfl)
                  have e63 : a.eval (.tmp 63) = strV (ys.take (k + 1)) := F.new 9 63 (by kernel_rfl)
                  refine ok_bin _ _ _ _ _ rfl (wanted_none rfl) e56 e63 (run_eql_strV _ _ _ _ _) ⟨Rb.refl _, ?_⟩
                  exact congrArg Value.bool (beq_iff_eq.2 ((form_iff ys k hys hl1 hbig hlo).2 hme))
                exact Owed.nil
              case fin =>
                intro y w2 hR hy
                have e10 : y 10 = .bool true := hy 10 _ rfl
                have HR := Lib.hid hR
                clear hy hR
                simp only [putAll, Act.put, List.setIfInBounds_toArray, List.set_cons_zero, List.set_cons_succ]
                rw [e10]
                go_wp2
                go_ret2
                refine ⟨?_, HR.out⟩
                rw [Hfin.out]
                rfl
            · have Hfin := Lib.hid (getU_no ys k hys hl1 hbig hlo (Bool.eq_false_iff.2 hme))
              refine wp_region_specs (R := Rb) (S := [Spec.eq (.int .u64 ((acc ys (k + 1) : Int))), bsSpec (uintB (acc ys (k + 1))), Spec.eq (strV (uintB (acc ys (k + 1)))), Spec.eq (.slice (some ⟨b, o, none⟩) xs.length cap), Spec.eq (.int .i64 ((i : Int))), Spec.eq (.int .i64 ((i : Int))), Spec.eq (.int .i64 ((k : Int) + 1)), Spec.eq (.int .i64 (((i : Int)) + ((k : Int) + 1))), bsSpec (ys.take (k + 1)), Spec.eq (strV (ys.take (k + 1))), Spec.eq (.bool false)]) (n := 1) (size := 67) (by kernel_rfl) Rb.trans (Rb.drew _) rfl (by kernel_rfl) ?owed ?fin
              case owed =>
                refine Owed.cons ?_ ?_
                · -- 0: slot 54 := Op.move (Operand.tmp 7)
                  intro a w hR F
                  have e7 : a.eval (.tmp 7) = .int .u64 ((acc ys (k + 1) : Int)) := F.old 7 (by kernel_rfl)
                  exact ok_move _ rfl (wanted_none rfl) ⟨Rb.refl _, e7⟩
                refine Owed.cons ?_ ?_
                · -- 1: slot 55 := Op.call { callee := Callee.value (Operand.func 11), args := #[Operand.tmp 54], argTypes := #[23] }
                  intro a w hR F
                  have e54 : a.eval (.tmp 54) = .int .u64 ((acc ys (k + 1) : Int)) := F.new 0 54 (by kernel_rfl)
                  refine ok_call 71 _ _ #[.int .u64 ((acc ys (k + 1) : Int))] rfl (wanted_none rfl) (by simp [e54]) (Try.call71 _ _) ?_
                  exact put_call (refuint_nat (acc ys (k + 1)) w (Nat.mod_lt _ (by decide)))
                refine Owed.cons ?_ ?_
                · -- 2: slot 56 := Op.convert 22 9 (Operand.tmp 55)
                  intro a w hR F
                  have e55 : Bs w (a.eval (.tmp 55)) (uintB (acc ys (k + 1))) := F.new 1 55 (by kernel_rfl)
                  exact ok_conv _ _ _ rfl (wanted_none rfl) (run_convert_Bs e55 23 5 9 Try.underlying23 Try.underlying5 Try.underlying9) ⟨Rb.refl _, rfl⟩
                refine Owed.cons ?_ ?_
                · -- 3: slot 57 := Op.move (Operand.tmp 0)
                  intro a w hR F
                  have e0 : a.eval (.tmp 0) = .slice (some ⟨b, o, none⟩) xs.length cap := F.old 0 (by kernel_rfl)
                  exact ok_move _ rfl (wanted_none rfl) ⟨Rb.refl _, e0⟩
                refine Owed.cons ?_ ?_
                · -- 4: slot 58 := Op.move (Operand.tmp 1)
                  intro a w hR F
                  have e1 : a.eval (.tmp 1) = .int .i64 ((i : Int)) := F.old 1 (by kernel_rfl)
                  exact ok_move _ rfl (wanted_none rfl) ⟨Rb.refl _, e1⟩
                refine Owed.cons ?_ ?_
                · -- 5: slot 59 := Op.move (Operand.tmp 1)
                  intro a w hR F
                  have e1 : a.eval (.tmp 1) = .int .i64 ((i : Int)) := F.old 1 (by kernel_rfl)
                  exact ok_move _ rfl (wanted_none rfl) ⟨Rb.refl _, e1⟩
                refine Owed.cons ?_ ?_
                · -- 6: slot 60 := Op.move (Operand.tmp 6)
                  intro a w hR F
                  have e6 : a.eval (.tmp 6) = .int .i64 ((k : Int) + 1) := F.old 6 (by kernel_rfl)
                  exact ok_move _ rfl (wanted_none rfl) ⟨Rb.refl _, e6⟩
                refine Owed.cons ?_ ?_
                · -- 7: slot 61 := Op.binOp BinOp.add 3 (Operand.tmp 59) (Operand.tmp 60) 3
                  intro a w hR F
                  have e59 : a.eval (.tmp 59) = .int .i64 ((i : Int)) := F.new 5 59 (by kernel_rfl)
                  have e60 : a.eval (.tmp 60) = .int .i64 ((k : Int) + 1) := F.new 6 60 (by kernel_rfl)
                  exact ok_bin _ _ _ _ _ rfl (wanted_none rfl) e59 e60 (run_add_i64 _ _ _ _ _ (by omega) (by omega)) ⟨Rb.refl _, rfl⟩
                refine Owed.cons ?_ ?_
                · -- 8: slot 62 := Op.slice 22 (Operand.tmp 57) (some (Operand.tmp 58)) (some (Operand.tmp 61)) none
                  intro a w hR F
                  have e57 : a.eval (.tmp 57) = .slice (some ⟨b, o, none⟩) xs.length cap := F.new 3 57 (by kernel_rfl)
                  have e58 : a.eval (.tmp 58) = .int .i64 ((i : Int)) := F.new 4 58 (by kernel_rfl)
                  have e61 : a.eval (.tmp 61) = .int .i64 (((i : Int)) + ((k : Int) + 1)) := F.new 7 61 (by kernel_rfl)
                  refine ok_slice_bs _ 5 _ _ _ (xs) (i) (i + (k + 1)) rfl (wanted_none rfl) Try.underlying23 sizeOf8 (by rw [e57]; exact HB.out.below hR) (e58) (by rw [e61]; exact congrArg (Value.int .i64) (by omega)) (by omega) (by omega) (fun v hv => ⟨Rb.refl _, ?_⟩)
                  exact by have h := hv; rw [show i + (k + 1) - i = k + 1 by omega, ← Hys.out] at h; exact h
                refine Owed.cons ?_ ?_
                · -- 9: slot 63 := Op.convert 22 9 (Operand.tmp 62)
                  intro a w hR F
                  have e62 : Bs w (a.eval (.tmp 62)) (ys.take (k + 1)) := F.new 8 62 (by kernel_rfl)
                  exact ok_conv _ _ _ rfl (wanted_none rfl) (run_convert_Bs e62 23 5 9 Try.underlying23 Try.underlying5 Try.underlying9) ⟨Rb.refl _, rfl⟩
                refine Owed.cons ?_ ?_
                · -- 10: slot 64 := Op.binOp BinOp.eql 9 (Operand.tmp 56) (Operand.tmp 63) 9
                  intro a w hR F
                  have e56 : a.eval (.tmp 56) = strV (uintB (acc ys (k + 1))) := F.new 2 56 (by kernel_rfl)
                  have e63 : a.eval (.tmp 63) = strV (ys.take (k + 1)) := F.new 9 63 (by kernel_rfl)
                  refine ok_bin _ _ _ _ _ rfl (wanted_none rfl) e56 e63 (run_eql_strV _ _ _ _ _) ⟨Rb.refl _, ?_⟩
                  exact congrArg Value.bool (beq_eq_false_iff_ne.2 (fun h => hme ((form_iff ys k hys hl1 hbig hlo).1 h)))
                exact Owed.nil
              case fin =>
                intro y w2 hR hy
                have e10 : y 10 = .bool false := hy 10 _ rfl
                have HR := Lib.hid hR
                clear hy hR
                simp only [putAll, Act.put, List.setIfInBounds_toArray, List.set_cons_zero, List.set_cons_succ]
                rw [e10]
                go_wp2
                go_ret2
                refine ⟨?_, HR.out⟩
                rw [Hfin.out]
                rfl
    · have Hfin := Lib.hid (getU_end ys k (by have := Hyl.out; omega) hk1 (by have := Hyl.out; omega) hbig)
      by_cases h10 : k < 10
      · have hq : ¬ ((i : Int) + ((k : Int) + 1) ≤ xs.length) := by omega
        go_wp2_with fail
        go_ret2
        refine ⟨?_, Below.refl _ _⟩
        rw [Hfin.out]
        rfl
      · have hq : ¬ ((k : Int) + 1 ≤ 10) := by omega
        go_wp2_with fail
        go_ret2
        refine ⟨?_, Below.refl _ _⟩
        rw [Hfin.out]
        rfl
end Go.Proofs.Ytbdgdmieggpmhaa
