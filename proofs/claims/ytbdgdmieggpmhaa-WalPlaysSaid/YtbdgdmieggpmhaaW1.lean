/-
  Layer 4: frames: as plain bytes, and what makes them.
-/
import Derived.Test.YtbdgdmieggpmhaaL1
import Derived.Test.YtbdgdmieggpmhaaL3
import Derived.Deep.Cut
import Derived.Deep.DeepCutAuto
namespace Go.Proofs.Ytbdgdmieggpmhaa.L4
open Go.ChangeShapes Go.WideShapes Go.ChangeAt Go.RowKit Oct By Reg L3
set_option linter.unusedVariables false

/-! ### plain bytes -/
def headB (g : Nat) (b : List UInt8) : List UInt8 := wordB g ++ textB b
def frameB (g : Nat) (b : List UInt8) : List UInt8 := headB g b ++ wordB (sumN (headB g b))
theorem wordB_len (n : Nat) : (wordB n).length = 4 := rfl
theorem textB_len (b : List UInt8) : (textB b).length = sizeN b.length + b.length := by simp [textB, sizeN]
theorem headB_len (g : Nat) (b : List UInt8) : (headB g b).length = 4 + sizeN b.length + b.length := by simp [headB, textB_len, wordB_len]; omega
theorem frameB_len (g : Nat) (b : List UInt8) : (frameB g b).length = 8 + sizeN b.length + b.length := by simp [frameB, headB_len, wordB_len]; omega
theorem frameB_le (g : Nat) (b : List UInt8) (h : b.length < 18446744073709551616) : (frameB g b).length ≤ 18 + b.length := by
  have := sizeN_le10 h
  rw [frameB_len]; omega
theorem sumN_lt (l : List UInt8) : sumN l < 4294967296 := by
  obtain ⟨h1, h2⟩ := adl_lt l (1, 0) (by decide) (by decide)
  unfold sumN
  omega

section
variable {ops : Array Oper} {o : Oper} {a : Act} {w : World} {T : World → Value → Prop}
theorem ok_conv_bytes (x : Operand) {X : List UInt8} (ho : o.op = .convert 9 23 x) (hw : Region.wanted o (yielded ops a.tmps) = true) (hx : a.eval x = .string (str X)) (hl : X.length ≤ 100000000)
    (h : ∀ w' v, Rb w w' → Bs w' v X → T w' v) : okAt Try.prog ops o a w T := by
  have hr := Lib.run_convert_string_bytes (P := Try.prog) w 9 23 5 (str X) Try.underlying9 Try.underlying23 Try.underlying5
  refine ok_value (w' := Lib.bytesWorld w 5 (str X)) hw (by simp only [execOp, ho, hx]; simp [hr, Result.andThen]; rfl) (h _ _ (bytesWorld_below w _ _) ?_)
  have hz : (str X).size = X.length := str_size X
  refine ⟨_, _, by rw [hz], ?_, ?_, (fun h => by cases h), fun ad ha j u hu => ?_⟩
  · rw [← hz]; exact grownCap_ge _ _ _ _
  · exact grownCap_le_maxLen _ _ _ _ (by unfold maxLen; omega)
  · cases ha
    exact bytesWorld_cells w 5 (str X) j u hu
theorem ok_extract (x : Operand) (i : Nat) (vs : Array Value) {v : Value} (ho : o.op = .extract x i) (hw : Region.wanted o (yielded ops a.tmps) = true) (hx : a.eval x = .tuple vs) (hi : vs[i]? = some v) (h : T w v) : okAt Try.prog ops o a w T := by
  refine ok_value (w' := w) (v := v) hw ?_ h
  simp only [execOp, ho, hx]
  simp [go_sem, hi]
end
theorem sum_put {P : Program} {f : FuncId} {vs : Array Value} {w : World} {v : Value} (h : Calls P f vs w fun e w' => e = .returned v ∧ w = w') :
    Calls P f vs w fun e w'' => ∃ u, e = .returned u ∧ Rb w w'' ∧ (Spec.eq (R := Rb) v).V w'' u :=
  h.mono fun _ _ ⟨he, hw⟩ => ⟨_, he, hw ▸ Rb.refl _, rfl⟩

theorem Put.rb {w w1 w2 : World} {E : TypeId} {xs : List UInt8} {e : Ending} (h : Rb w w1) (p : Put w1 E xs e w2) : Put w E xs e w2 := by
  obtain ⟨g, cap, he, ho, hb⟩ := p
  exact ⟨g, cap, he, ho.mono h.size, Rb.trans _ _ _ h hb⟩

set_option maxRecDepth 100000 in
theorem frame_any (v : Value) (g : Nat) (b : List UInt8) (w0 : World) (hb : Bs w0 v b) (hl : b.length ≤ 10000000) (hg : g < 4294967296) :
    Calls Try.prog 11 #[.int .u32 g, v] w0 (Put w0 5 (frameB g b)) := by
  have hs := sizeN_le10 (n := b.length) (by omega)
  have hh := headB_len g b
  have HB := Lib.hid hb
  clear hb
  go_enter Try.func11, Try.ntmps11
  go_upto_region 1 with (fail)
  refine wp_region_specs (R := Rb) (S := [Spec.eq (.int .u32 (g)), bsSpec (wordB g), Spec.eq (v), Spec.eq (strV (b)), bsSpec (headB g b), bsSpec (headB g b)]) (n := 1) (size := 15) (by kernel_rfl) Rb.trans (Rb.drew _) rfl (by kernel_rfl) ?owed ?fin
  case owed =>
    refine Owed.cons ?_ ?_
    · -- 0: slot 6 := Op.move (Operand.tmp 0)
      intro a w hR F
      have e0 : a.eval (.tmp 0) = .int .u32 (g) := F.old 0 (by kernel_rfl)
      exact ok_move _ rfl (wanted_none rfl) ⟨Rb.refl _, e0⟩
    refine Owed.cons ?_ ?_
    · -- 1: slot 7 := Op.call { callee := Callee.value (Operand.func 46), args := #[Operand.const (Value.slice none 0 0), 
      intro a w hR F
      have e6 : a.eval (.tmp 6) = .int .u32 (g) := F.new 0 6 (by kernel_rfl)
      refine ok_call 46 _ _ #[(.slice none 0 0), .int .u32 (g)] rfl (wanted_none rfl) (by simp only [List.map_toArray, List.map_cons, List.map_nil, e6]; rfl) (Try.call46 _ _) ?_
      exact L3.put_call (by have h := putword_any _ [] (g : Int) w (Bs.nil w) (by simp) (by omega) (by omega); rwa [Int.toNat_natCast] at h)
    refine Owed.cons ?_ ?_
    · -- 2: slot 8 := Op.move (Operand.tmp 1)
      intro a w hR F
      have e1 : a.eval (.tmp 1) = v := F.old 1 (by kernel_rfl)
      exact ok_move _ rfl (wanted_none rfl) ⟨Rb.refl _, e1⟩
    refine Owed.cons ?_ ?_
    · -- 3: slot 9 := Op.convert 23 9 (Operand.tmp 8)
      intro a w hR F
      have e8 : a.eval (.tmp 8) = v := F.new 2 8 (by kernel_rfl)
      exact ok_conv _ _ _ rfl (wanted_none rfl) (run_convert_Bs (xs := b) (by rw [e8]; exact HB.out.below hR) 23 5 9 Try.underlying23 Try.underlying5 Try.underlying9) ⟨Rb.refl _, rfl⟩
    refine Owed.cons ?_ ?_
    · -- 4: slot 10 := Op.call { callee := Callee.value (Operand.func 45), args := #[Operand.tmp 7, Operand.tmp 9], argType
      intro a w hR F
      have e7 : Bs w (a.eval (.tmp 7)) (wordB g) := F.new 1 7 (by kernel_rfl)
      have e9 : a.eval (.tmp 9) = strV (b) := F.new 3 9 (by kernel_rfl)
      refine ok_call 45 _ _ #[a.eval (.tmp 7), strV (b)] rfl (wanted_none rfl) (by simp [e9]) (Try.call45 _ _) ?_
      exact L3.put_call (puttext_any _ (wordB g) (str b) w e7 (by rw [wordB_len]; omega) (by rw [str_size]; omega))
    refine Owed.cons ?_ ?_
    · -- 5: slot 5 := Op.assign (Operand.tmp 10)
      intro a w hR F
      have e10 : Bs w (a.eval (.tmp 10)) (headB g b) := F.new 4 10 (by kernel_rfl)
      exact ok_assign _ rfl (wanted_none rfl) ⟨Rb.refl _, e10⟩
    exact Owed.nil
  case fin =>
    intro y w2 hR hy
    have b5 : Bs w2 (y 5) (headB g b) := hy 5 _ rfl
    obtain ⟨u5, hu5⟩ : ∃ u, u = y 5 := ⟨_, rfl⟩
    rw [← hu5] at b5
    have HR := Lib.hid hR
    clear hy hR
    simp only [putAll, Act.put, List.setIfInBounds_toArray, List.set_cons_zero, List.set_cons_succ]
    rw [← hu5]
    clear hu5
    have S := Lib.hid (sum_any u5 (headB g b) w2 b5 (by rw [headB_len]; omega))
    have W := Lib.hid (putword_any u5 (headB g b) (sumN (headB g b) : Int) w2 b5 (by rw [headB_len]; omega) (by omega) (by have := sumN_lt (headB g b); omega))
    rw [Int.toNat_natCast] at W
    obtain ⟨ao, cap, rfl, -⟩ := id b5
    clear b5
    rw [show headB g b ++ wordB (sumN (headB g b)) = frameB g b from rfl] at W
    generalize frameB g b = FB at *
    generalize headB g b = H at *
    generalize H.length = n at *
    generalize sumN H = z at *
    clear hh hs
    go_wp2_with fail
    refine S.out.mono ?_
    rintro e w3 ⟨rfl, rfl⟩
    go_wp2_with fail
    refine W.out.mono ?_
    rintro e w3 ⟨g2, cap2, rfl, h2, h3⟩
    go_wp2
    go_ret
    exact Put.rb HR.out ⟨g2, cap2, rfl, h2, h3⟩

set_option maxRecDepth 100000 in
theorem refframe_any (g : Nat) (b : List UInt8) (w0 : World) (hl : b.length ≤ 10000000) (hg : g < 4294967296) :
    Calls Try.prog 14 #[.int .u32 g, .string (str b)] w0 fun e w' => e = .returned (.string (str (frameB g b))) ∧ Rb w0 w' := by
  have hs := sizeN_le10 (n := b.length) (by omega)
  have hh := headB_len g b
  go_enter Try.func14, Try.ntmps14
  go_upto_region 1 with (fail)
  refine wp_region_specs (R := Rb) (S := [Spec.eq (.int .u32 (g)), bsSpec (wordB g), Spec.eq (strV (wordB g)), Spec.eq (strV (b)), bsSpec (textB b), Spec.eq (strV (textB b)), Spec.eq (strV ((wordB g) ++ (textB b))), Spec.eq (strV ((wordB g) ++ (textB b)))]) (n := 1) (size := 20) (by kernel_rfl) Rb.trans (Rb.drew _) rfl (by kernel_rfl) ?owed ?fin
  case owed =>
    refine Owed.cons ?_ ?_
    · -- 0: slot 6 := Op.move (Operand.tmp 0)
      intro a w hR F
      have e0 : a.eval (.tmp 0) = .int .u32 (g) := F.old 0 (by kernel_rfl)
      exact ok_move _ rfl (wanted_none rfl) ⟨Rb.refl _, e0⟩
    refine Owed.cons ?_ ?_
    · -- 1: slot 7 := Op.call { callee := Callee.value (Operand.func 50), args := #[Operand.tmp 6], argTypes := #[22] }
      intro a w hR F
      have e6 : a.eval (.tmp 6) = .int .u32 (g) := F.new 0 6 (by kernel_rfl)
      refine ok_call 50 _ _ #[.int .u32 (g)] rfl (wanted_none rfl) (by simp [e6]) (Try.call50 _ _) ?_
      exact L3.put_call (refword_nat g w hg)
    refine Owed.cons ?_ ?_
    · -- 2: slot 8 := Op.convert 23 9 (Operand.tmp 7)
      intro a w hR F
      have e7 : Bs w (a.eval (.tmp 7)) (wordB g) := F.new 1 7 (by kernel_rfl)
      exact ok_conv _ _ _ rfl (wanted_none rfl) (run_convert_Bs e7 23 5 9 Try.underlying23 Try.underlying5 Try.underlying9) ⟨Rb.refl _, rfl⟩
    refine Owed.cons ?_ ?_
    · -- 3: slot 9 := Op.move (Operand.tmp 1)
      intro a w hR F
      have e1 : a.eval (.tmp 1) = strV (b) := F.old 1 (by kernel_rfl)
      exact ok_move _ rfl (wanted_none rfl) ⟨Rb.refl _, e1⟩
    refine Owed.cons ?_ ?_
    · -- 4: slot 10 := Op.call { callee := Callee.value (Operand.func 51), args := #[Operand.tmp 9], argTypes := #[9] }
      intro a w hR F
      have e9 : a.eval (.tmp 9) = strV (b) := F.new 3 9 (by kernel_rfl)
      refine ok_call 51 _ _ #[strV (b)] rfl (wanted_none rfl) (by simp [e9]) (Try.call51 _ _) ?_
      exact L3.put_call (reftext_any (str b) w (by rw [str_size]; omega))
    refine Owed.cons ?_ ?_
    · -- 5: slot 11 := Op.convert 23 9 (Operand.tmp 10)
      intro a w hR F
      have e10 : Bs w (a.eval (.tmp 10)) (textB b) := F.new 4 10 (by kernel_rfl)
      exact ok_conv _ _ _ rfl (wanted_none rfl) (run_convert_Bs e10 23 5 9 Try.underlying23 Try.underlying5 Try.underlying9) ⟨Rb.refl _, rfl⟩
    refine Owed.cons ?_ ?_
    · -- 6: slot 12 := Op.binOp BinOp.add 9 (Operand.tmp 8) (Operand.tmp 11) 9
      intro a w hR F
      have e8 : a.eval (.tmp 8) = strV (wordB g) := F.new 2 8 (by kernel_rfl)
      have e11 : a.eval (.tmp 11) = strV (textB b) := F.new 5 11 (by kernel_rfl)
      exact ok_bin _ _ _ _ _ rfl (wanted_none rfl) e8 e11 (run_add_strV _ _ _ _ _ (by rw [wordB_len, textB_len]; omega)) ⟨Rb.refl _, rfl⟩
    refine Owed.cons ?_ ?_
    · -- 7: slot 5 := Op.assign (Operand.tmp 12)
      intro a w hR F
      have e12 : a.eval (.tmp 12) = strV ((wordB g) ++ (textB b)) := F.new 6 12 (by kernel_rfl)
      exact ok_assign _ rfl (wanted_none rfl) ⟨Rb.refl _, e12⟩
    exact Owed.nil
  case fin =>
    intro y w2 hR hy
    have e7 : y 7 = strV (wordB g ++ textB b) := hy 7 _ rfl
    have HR := Lib.hid hR
    clear hy hR
    simp only [putAll, Act.put, List.setIfInBounds_toArray, List.set_cons_zero, List.set_cons_succ]
    rw [e7]
    clear e7
    rw [show wordB g ++ textB b = headB g b from rfl]
    go_upto_region 2 with (fail)
    refine wp_region_plain_specs (R := Rb) (S := [Spec.eq (strV (headB g b)), Spec.eq (strV (headB g b)), bsSpec (headB g b), Spec.eq (.int .u32 ((sumN (headB g b) : Int))), bsSpec (wordB (sumN (headB g b))), Spec.eq (strV (wordB (sumN (headB g b)))), Spec.eq (strV ((headB g b) ++ (wordB (sumN (headB g b))))), Spec.eq (strV ((headB g b) ++ (wordB (sumN (headB g b)))))]) (n := 1) (size := 20) Rb.trans (Rb.refl _) rfl (by kernel_rfl) ?owed ?fin
    case owed =>
      refine Owed.cons ?_ ?_
      · -- 0: slot 13 := Op.move (Operand.tmp 5)
        intro a w hR F
        have e5 : a.eval (.tmp 5) = strV (headB g b) := F.old 5 (by kernel_rfl)
        exact ok_move _ rfl (wanted_none rfl) ⟨Rb.refl _, e5⟩
      refine Owed.cons ?_ ?_
      · -- 1: slot 14 := Op.move (Operand.tmp 5)
        intro a w hR F
        have e5 : a.eval (.tmp 5) = strV (headB g b) := F.old 5 (by kernel_rfl)
        exact ok_move _ rfl (wanted_none rfl) ⟨Rb.refl _, e5⟩
      refine Owed.cons ?_ ?_
      · -- 2: slot 15 := Op.convert 9 23 (Operand.tmp 14)
        intro a w hR F
        have e14 : a.eval (.tmp 14) = strV (headB g b) := F.new 1 14 (by kernel_rfl)
        refine ok_conv_bytes _ rfl (wanted_none rfl) e14 (by rw [hh]; omega) (fun w2 v2 hr2 hb2 => ⟨hr2, hb2⟩)
      refine Owed.cons ?_ ?_
      · -- 3: slot 16 := Op.call { callee := Callee.value (Operand.func 52), args := #[Operand.tmp 15], argTypes := #[23] }
        intro a w hR F
        have e15 : Bs w (a.eval (.tmp 15)) (headB g b) := F.new 2 15 (by kernel_rfl)
        refine ok_call 52 _ _ #[a.eval (.tmp 15)] rfl (wanted_none rfl) (by simp) (Try.call52 _ _) ?_
        exact val_call (refsum_any _ _ w e15 (by rw [hh]; omega))
      refine Owed.cons ?_ ?_
      · -- 4: slot 17 := Op.call { callee := Callee.value (Operand.func 50), args := #[Operand.tmp 16], argTypes := #[22] }
        intro a w hR F
        have e16 : a.eval (.tmp 16) = .int .u32 ((sumN (headB g b) : Int)) := F.new 3 16 (by kernel_rfl)
        refine ok_call 50 _ _ #[.int .u32 ((sumN (headB g b) : Int))] rfl (wanted_none rfl) (by simp [e16]) (Try.call50 _ _) ?_
        exact L3.put_call (refword_nat _ w (sumN_lt _))
      refine Owed.cons ?_ ?_
      · -- 5: slot 18 := Op.convert 23 9 (Operand.tmp 17)
        intro a w hR F
        have e17 : Bs w (a.eval (.tmp 17)) (wordB (sumN (headB g b))) := F.new 4 17 (by kernel_rfl)
        exact ok_conv _ _ _ rfl (wanted_none rfl) (run_convert_Bs e17 23 5 9 Try.underlying23 Try.underlying5 Try.underlying9) ⟨Rb.refl _, rfl⟩
      refine Owed.cons ?_ ?_
      · -- 6: slot 19 := Op.binOp BinOp.add 9 (Operand.tmp 13) (Operand.tmp 18) 9
        intro a w hR F
        have e13 : a.eval (.tmp 13) = strV (headB g b) := F.new 0 13 (by kernel_rfl)
        have e18 : a.eval (.tmp 18) = strV (wordB (sumN (headB g b))) := F.new 5 18 (by kernel_rfl)
        exact ok_bin _ _ _ _ _ rfl (wanted_none rfl) e13 e18 (run_add_strV _ _ _ _ _ (by rw [hh, wordB_len]; omega)) ⟨Rb.refl _, rfl⟩
      refine Owed.cons ?_ ?_
      · -- 7: slot 4 := Op.assign (Operand.tmp 19)
        intro a w hR F
        have e19 : a.eval (.tmp 19) = strV ((headB g b) ++ (wordB (sumN (headB g b)))) := F.new 6 19 (by kernel_rfl)
        exact ok_assign _ rfl (wanted_none rfl) ⟨Rb.refl _, e19⟩
      exact Owed.nil
    case fin =>
      intro y w2 hR hy
      have e7 : y 7 = strV (frameB g b) := hy 7 _ rfl
      have HR2 := Lib.hid hR
      clear hy hR
      simp only [putAll, Act.put, List.setIfInBounds_toArray, List.set_cons_zero, List.set_cons_succ]
      rw [e7]
      clear e7
      go_wp2
      go_ret
      exact ⟨rfl, Rb.trans _ _ _ HR.out HR2.out⟩
end Go.Proofs.Ytbdgdmieggpmhaa.L4
