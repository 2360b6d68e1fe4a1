import Derived.Test.YtefjfiihfbkjoaaDoorVP
import Derived.Deep.DeepCutAuto
namespace Go.Proofs.YtefjfiihfbkjoaaDoor
open Go.ChangeShapes Go.WideShapes Go.ChangeAt Go.RowKit Oct By Reg Val

theorem own_call {P : Program} {f : FuncId} {vs : Array Value} {w : World} {bs : List UInt8} (h : Calls P f vs w fun e w' => ∃ v, e = .returned v ∧ Own w.heap.size w' v bs ∧ Below w.heap.size w w') : Calls P f vs w fun e w'' => ∃ v, e = .returned v ∧ Rb w w'' ∧ (bsSpec bs).V w'' v :=
  h.mono fun _ _ ⟨v, he, ho, hb⟩ => ⟨v, he, hb, Bs.of_owns ho⟩
theorem right_is {b : Bool} (k n : Int) (s : ByteArray) (w : World) (hs : s.size ≤ maxLen) (h : rightB k n s.data.toList = b) :
    Calls Tryd.prog 11 #[vv k n s] w fun e w' => e = .returned (.bool b) ∧ Below w.heap.size w w' := by rw [← h]; exact right_any k n s w hs
theorem righttype_is {b : Bool} (k m : Int) (w : World) (h : rightTypeB k m = b) :
    Calls Tryd.prog 13 #[tv k m] w fun e w' => e = .returned (.bool b) ∧ Below w.heap.size w w' := by rw [← h]; exact righttype_any k m w
theorem fits_is {b : Bool} (k n : Int) (s : ByteArray) (t m : Int) (w : World) (hs : s.size ≤ maxLen) (h : fitsB k n s.data.toList t m = b) :
    Calls Tryd.prog 17 #[vv k n s, tv t m] w fun e w' => e = .returned (.bool b) ∧ Below w.heap.size w w' := by rw [← h]; exact fits_any k n s t m w hs
theorem zero_is (k m : Int) (w : World) (h : rightTypeB k m = true) :
    Calls Tryd.prog 15 #[tv k m] w fun e w' => e = .returned (vv k 0 ⟨#[]⟩) ∧ Below w.heap.size w w' := by
  have c := zero_any k m w
  rw [h] at c
  exact c
theorem zero_fits {t m : Int} (h : rightTypeB t m = true) : fitsB t 0 (⟨#[]⟩ : ByteArray).data.toList t m = true := by
  have h2 := h
  unfold fitsB
  rw [h]
  unfold rightTypeB at h2
  split at h2
  · rename_i hk
    rcases hk with rfl | rfl <;> simp [rightB]
  · split at h2
    · rename_i hk
      subst hk
      have : 1 ≤ m := by simp at h2; omega
      simp [rightB, rightTextB]; omega
    · cases h2
theorem fits_right {k n t m : Int} {l : List UInt8} (h : fitsB k n l t m = true) : rightB k n l = true ∧ k = t := by
  unfold fitsB at h
  simp only [Bool.and_eq_true, decide_eq_true_eq] at h
  exact ⟨h.1.1.1, h.1.2⟩
theorem uint_pre {n m : Nat} {x y : List UInt8} (hn : n < 18446744073709551616) (hm : m < 18446744073709551616) (h : uintB n ++ x = uintB m ++ y) : n = m ∧ x = y := by
  have h1 := getU_uintB n hn x
  have h2 := getU_uintB m hm y
  rw [h, h2] at h1
  simp only [Option.some.injEq, Prod.mk.injEq] at h1
  obtain ⟨rfl, _⟩ := h1
  exact ⟨rfl, List.append_cancel_left h⟩
theorem zig_inj {a b : Int} (h : zig a = zig b) : a = b := by
  unfold zig at h
  split at h <;> split at h <;> omega
theorem right_n3 {n : Int} {l : List UInt8} (h : rightB 3 n l = true) : n = 0 ∧ l.length ≤ 32 := by
  unfold rightB rightTextB at h
  simp at h
  exact ⟨h.1, h.2.1⟩
theorem right_s {k n : Int} {l : List UInt8} (h : rightB k n l = true) (hk : k = 1 ∨ k = 2) : l = [] := by
  unfold rightB at h
  rcases hk with rfl | rfl
  · simpa using h
  · simp at h; exact h.1
theorem bytes_pre {k n k1 n1 : Int} {l l1 r : List UInt8} (h : rightB k n l = true) (h1 : rightB k1 n1 l1 = true) (hn0 : -9223372036854775808 ≤ n) (hn1 : n ≤ 9223372036854775807) (hm0 : -9223372036854775808 ≤ n1) (hm1 : n1 ≤ 9223372036854775807)
    (e : bytesV k1 n1 l1 = bytesV k n l ++ r) : k = k1 ∧ n = n1 ∧ l = l1 := by
  rcases kinds_of h with rfl | rfl | rfl <;> rcases kinds_of h1 with rfl | rfl | rfl
  · have e' : uintB (zig n1) ++ [] = uintB (zig n) ++ r := by rw [List.append_nil]; exact (List.cons.inj e).2
    have := uint_pre (zig_lt hm0 hm1) (zig_lt hn0 hn1) e'
    exact ⟨rfl, (zig_inj this.1).symm, by rw [right_s h (.inl rfl), right_s h1 (.inl rfl)]⟩
  · exact absurd (List.cons.inj e).1 (by decide)
  · exact absurd (List.cons.inj e).1 (by decide)
  · exact absurd (List.cons.inj e).1 (by decide)
  · have e' := (List.cons.inj (List.cons.inj e).2).1
    refine ⟨rfl, ?_, by rw [right_s h (.inr rfl), right_s h1 (.inr rfl)]⟩
    rcases truth_of h with rfl | rfl <;> rcases truth_of h1 with rfl | rfl <;> first | rfl | exact absurd e' (by decide)
  · exact absurd (List.cons.inj e).1 (by decide)
  · exact absurd (List.cons.inj e).1 (by decide)
  · exact absurd (List.cons.inj e).1 (by decide)
  · have h2 := right_n3 h
    have h3 := right_n3 h1
    have e' : uintB l1.length ++ l1 = uintB l.length ++ (l ++ r) := by
      have := (List.cons.inj e).2
      unfold textB at this
      rw [this]; exact List.append_assoc _ _ _
    have := uint_pre (by omega) (by omega) e'
    refine ⟨rfl, by omega, ?_⟩
    have hl : r = [] := by
      have := congrArg List.length this.2
      rw [List.length_append] at this
      exact List.eq_nil_of_length_eq_zero (by omega)
    rw [hl, List.append_nil] at this
    exact this.2.symm
theorem eqV_of {k n k1 n1 : Int} {s s1 : ByteArray} (h : k = k1 ∧ n = n1 ∧ s.data.toList = s1.data.toList) : eqVB k n s k1 n1 s1 = true := by
  obtain ⟨rfl, rfl, h⟩ := h
  unfold eqVB
  rw [ByteArray.toList_eq, ByteArray.toList_eq, h]; simp
theorem no_prefix {k n k1 n1 : Int} {s s1 : ByteArray} (r1 : rightB k n s.data.toList = true) (r2 : rightB k1 n1 s1.data.toList = true) (he : eqVB k n s k1 n1 s1 = false) (hn0 : -9223372036854775808 ≤ n) (hn1 : n ≤ 9223372036854775807) (hm0 : -9223372036854775808 ≤ n1) (hm1 : n1 ≤ 9223372036854775807) :
    (bytesR k1 n1 s1.data.toList).take (bytesR k n s.data.toList).length ≠ bytesR k n s.data.toList := by
  rw [bytesR_of r1, bytesR_of r2]
  intro h
  have e : bytesV k1 n1 s1.data.toList = bytesV k n s.data.toList ++ (bytesV k1 n1 s1.data.toList).drop (bytesV k n s.data.toList).length := by
    have := (List.take_append_drop (bytesV k n s.data.toList).length (bytesV k1 n1 s1.data.toList)).symm
    rwa [h] at this
  rw [eqV_of (bytes_pre r1 r2 hn0 hn1 hm0 hm1 e)] at he
  cases he
theorem str_extract (xs : List UInt8) (n : Nat) : (str xs).extract 0 n = str (xs.take n) := by
  have h : ((str xs).extract 0 n).data = (str (xs.take n)).data := by
    rw [ByteArray.data_extract]
    simp [str]
  exact ByteArray.ext h
theorem ok_slice_strh {ops : Array Oper} {o : Oper} {a : Act} {w : World} {T : World → Value → Prop} (t : TypeId) (x hi : Operand) (X : List UInt8) (n : Nat) (hn : n ≤ X.length) (ht : Tryd.prog.underlying t = some .string) (ho : o.op = .slice t x none (some hi) none) (hw : Region.wanted o (yielded ops a.tmps) = true)
    (hx : a.eval x = strV X) (hh : a.eval hi = .int .i64 (n : Int)) (h : T w (strV (X.take n))) : okAt Tryd.prog ops o a w T := by
  refine ok_value (w' := w) (v := strV (X.take n)) hw ?_ h
  have e : (str X).extract 0 n = str (X.take n) := str_extract X n
  have hsz : n ≤ (str X).size := by rw [str_size]; exact hn
  simp only [execOp, ho, Option.map_some, Option.map_none, hx, hh, Sem.run_bind, strV]
  simp [go_sem, ht, hsz, e, Result.andThen]

set_option maxRecDepth 100000 in
theorem apart_walk (k n : Int) (s : ByteArray) (k1 n1 : Int) (s1 : ByteArray) (t m : Int) (w0 : World) (hs : s.size ≤ maxLen) (hs1 : s1.size ≤ maxLen) (hn0 : -9223372036854775808 ≤ n) (hn1 : n ≤ 9223372036854775807) (hm0 : -9223372036854775808 ≤ n1) (hm1 : n1 ≤ 9223372036854775807) (htab : Tab w0) :
    Calls Tryd.prog 8 #[vv k n s, vv k1 n1 s1, tv t m] w0 fun e w' => e = .returned (.bool true) ∧ Below w0.heap.size w0 w' := by
  have HT := Lib.hid htab; clear htab
  have g := fun (w : World) (o : Obj) => (show Rb w (w.alloc o) from (Below.refl _ _).alloc (Nat.le_refl _) _)
  have HA := Lib.hid ((((HeldV.at w0 w0.heap.size k n s 23 rfl).rb (g _ (.cells #[.int .i64 k1, .int .i64 n1, .string s1] 23))).rb (g _ (.cells #[.int .i64 t, .int .i64 m] 25))))
  have HD := Lib.hid ((HeldV.at (w0.alloc (.cells #[.int .i64 k, .int .i64 n, .string s] 23)) (w0.heap.size + 1) k1 n1 s1 23 (by simp)).rb (g _ (.cells #[.int .i64 t, .int .i64 m] 25)))
  have HC := Lib.hid (HeldT.at ((w0.alloc (.cells #[.int .i64 k, .int .i64 n, .string s] 23)).alloc (.cells #[.int .i64 k1, .int .i64 n1, .string s1] 23)) (w0.heap.size + 1 + 1) t m 25 (by simp))
  clear g
  have HB := Lib.hid (show Rb w0 (((w0.alloc (.cells #[.int .i64 k, .int .i64 n, .string s] 23)).alloc (.cells #[.int .i64 k1, .int .i64 n1, .string s1] 23)).alloc (.cells #[.int .i64 t, .int .i64 m] 25)) from (((Below.refl w0.heap.size w0).alloc (Nat.le_refl _) _).alloc (by simp) _).alloc (by simp; omega) _)
  by_cases ha : s.size ≤ 100
  · by_cases hb : s1.size ≤ 100
    · go_enter Tryd.func8, Tryd.ntmps8
      go_upto_region 1 with (fail)
      refine wp_region_plain_specs (R := Rb) (S := [Spec.eq (vv (k) (n) (s)), Spec.eq (.bool true), Spec.eq (.bool false), Spec.eq (.bool false), Spec.eq (vv (k1) (n1) (s1)), Spec.eq (.bool true), Spec.eq (.bool false), Spec.eq (.bool false)]) (n := 1) (size := 77) Rb.trans (Rb.refl _) rfl (by kernel_rfl) ?owed ?fin
      case owed =>
        refine Owed.cons ?_ ?_
        · -- 0: slot 9 := Op.load 23 (Operand.tmp 3)
          intro a w hR F
          have e3 : a.eval (.tmp 3) = .pointer (some ⟨w0.heap.size, 0, none⟩) := F.old 3 (by kernel_rfl)
          exact ok_load _ _ rfl (wanted_none rfl) e3 (HA.out.rb hR).load ⟨Rb.refl _, rfl⟩
        refine Owed.cons ?_ ?_
        · -- 1: slot 10 := Op.call { callee := Callee.value (Operand.func 9), args := #[Operand.tmp 9], argTypes := #[23] }
          intro a w hR F
          have e9 : a.eval (.tmp 9) = vv (k) (n) (s) := F.new 0 9 (by kernel_rfl)
          refine ok_call 9 _ _ #[vv (k) (n) (s)] rfl (wanted_none rfl) (by simp [e9]) (Tryd.call9 _ _) ?_
          exact val_call_below (light_yes k n s w hs ha)
        refine Owed.cons ?_ ?_
        · -- 2: slot 11 := Op.unOp UnOp.not 4 (Operand.tmp 10)
          intro a w hR F
          have e10 : a.eval (.tmp 10) = .bool true := F.new 1 10 (by kernel_rfl)
          exact ok_not _ _ true rfl (wanted_none rfl) e10 ⟨Rb.refl _, rfl⟩
        refine Owed.cons ?_ ?_
        · -- 3: slot 12 := Op.move (Operand.tmp 11)
          intro a w hR F
          have e11 : a.eval (.tmp 11) = .bool false := F.new 2 11 (by kernel_rfl)
          exact ok_move _ rfl (wanted_none rfl) ⟨Rb.refl _, e11⟩
        refine Owed.cons ?_ ?_
        · -- 4: slot 13 := Op.load 23 (Operand.tmp 4)
          intro a w hR F
          have e12 : a.eval (.tmp 12) = .bool false := F.new 3 12 (by kernel_rfl)
          have e4 : a.eval (.tmp 4) = .pointer (some ⟨w0.heap.size + 1, 0, none⟩) := F.old 4 (by kernel_rfl)
          exact ok_load _ _ rfl (wanted_true (j := 3) (d := 12) rfl (by kernel_rfl) e12) e4 (HD.out.rb hR).load ⟨Rb.refl _, rfl⟩
        refine Owed.cons ?_ ?_
        · -- 5: slot 14 := Op.call { callee := Callee.value (Operand.func 9), args := #[Operand.tmp 13], argTypes := #[23] }
          intro a w hR F
          have e12 : a.eval (.tmp 12) = .bool false := F.new 3 12 (by kernel_rfl)
          have e13 : a.eval (.tmp 13) = vv (k1) (n1) (s1) := F.new 4 13 (by kernel_rfl)
          refine ok_call 9 _ _ #[vv (k1) (n1) (s1)] rfl (wanted_true (j := 3) (d := 12) rfl (by kernel_rfl) e12) (by simp [e13]) (Tryd.call9 _ _) ?_
          exact val_call_below (light_yes k1 n1 s1 w hs1 hb)
        refine Owed.cons ?_ ?_
        · -- 6: slot 15 := Op.unOp UnOp.not 4 (Operand.tmp 14)
          intro a w hR F
          have e12 : a.eval (.tmp 12) = .bool false := F.new 3 12 (by kernel_rfl)
          have e14 : a.eval (.tmp 14) = .bool true := F.new 5 14 (by kernel_rfl)
          exact ok_not _ _ true rfl (wanted_true (j := 3) (d := 12) rfl (by kernel_rfl) e12) e14 ⟨Rb.refl _, rfl⟩
        refine Owed.cons ?_ ?_
        · -- 7: slot 16 := Op.pick (Operand.tmp 12) (Operand.const (Value.bool true)) (Operand.tmp 15)
          intro a w hR F
          have e12 : a.eval (.tmp 12) = .bool false := F.new 3 12 (by kernel_rfl)
          have e15 : a.eval (.tmp 15) = .bool false := F.new 6 15 (by kernel_rfl)
          exact ok_pick _ _ _ false rfl (wanted_none rfl) e12 ⟨Rb.refl _, e15⟩
        exact Owed.nil
      case fin =>
        intro y w hR hy
        have e7 : y 7 = .bool false := hy 7 _ rfl
        have HA := Lib.hid (HA.out.rb hR)
        have HD := Lib.hid (HD.out.rb hR)
        have HC := Lib.hid (HC.out.rb hR)
        have HB := Lib.hid (Rb.trans _ _ _ HB.out hR)
        clear hy hR
        simp only [putAll, Act.put, List.setIfInBounds_toArray, List.set_cons_zero, List.set_cons_succ]
        rw [e7]
        clear e7
        go_upto_region 3 with (fail)
        refine wp_region_specs (R := Rb) (S := [Spec.eq (vv (k) (n) (s)), bsSpec (bytesR k n s.data.toList), Spec.eq (strV (bytesR k n s.data.toList)), Spec.eq (vv (k1) (n1) (s1)), bsSpec (bytesR k1 n1 s1.data.toList), Spec.eq (strV (bytesR k1 n1 s1.data.toList)), Spec.eq (strV (bytesR k n s.data.toList)), Spec.eq (strV (bytesR k1 n1 s1.data.toList))]) (n := 1) (size := 77) (by kernel_rfl) Rb.trans (Rb.drew _) rfl (by kernel_rfl) ?owed ?fin
        case owed =>
          refine Owed.cons ?_ ?_
          · -- 0: slot 18 := Op.load 23 (Operand.tmp 3)
            intro a w hR F
            have e3 : a.eval (.tmp 3) = .pointer (some ⟨w0.heap.size, 0, none⟩) := F.old 3 (by kernel_rfl)
            exact ok_load _ _ rfl (wanted_none rfl) e3 (HA.out.rb hR).load ⟨Rb.refl _, rfl⟩
          refine Owed.cons ?_ ?_
          · -- 1: slot 19 := Op.call { callee := Callee.value (Operand.func 28), args := #[Operand.const (Value.slice none 0 0), 
            intro a w hR F
            have e18 : a.eval (.tmp 18) = vv (k) (n) (s) := F.new 0 18 (by kernel_rfl)
            refine ok_call 28 _ _ #[(.slice none 0 0), vv (k) (n) (s)] rfl (wanted_none rfl) (by simp only [List.map_toArray, List.map_cons, List.map_nil, e18]; rfl) (Tryd.call28 _ _) ?_
            exact own_call (put_any (.slice none 0 0) [] k n s w (Bs.nil w) (by simp) hs hn0 hn1)
          refine Owed.cons ?_ ?_
          · -- 2: slot 20 := Op.convert 37 9 (Operand.tmp 19)
            intro a w hR F
            have e19 : Bs w (a.eval (.tmp 19)) (bytesR k n s.data.toList) := F.new 1 19 (by kernel_rfl)
            exact ok_conv _ _ _ rfl (wanted_none rfl) (run_convert_Bs e19 37 5 9 Tryd.underlying37 Tryd.underlying5 Tryd.underlying9) ⟨Rb.refl _, rfl⟩
          refine Owed.cons ?_ ?_
          · -- 3: slot 21 := Op.load 23 (Operand.tmp 4)
            intro a w hR F
            have e4 : a.eval (.tmp 4) = .pointer (some ⟨w0.heap.size + 1, 0, none⟩) := F.old 4 (by kernel_rfl)
            exact ok_load _ _ rfl (wanted_none rfl) e4 (HD.out.rb hR).load ⟨Rb.refl _, rfl⟩
          refine Owed.cons ?_ ?_
          · -- 4: slot 22 := Op.call { callee := Callee.value (Operand.func 28), args := #[Operand.const (Value.slice none 0 0), 
            intro a w hR F
            have e21 : a.eval (.tmp 21) = vv (k1) (n1) (s1) := F.new 3 21 (by kernel_rfl)
            refine ok_call 28 _ _ #[(.slice none 0 0), vv (k1) (n1) (s1)] rfl (wanted_none rfl) (by simp only [List.map_toArray, List.map_cons, List.map_nil, e21]; rfl) (Tryd.call28 _ _) ?_
            exact own_call (put_any (.slice none 0 0) [] k1 n1 s1 w (Bs.nil w) (by simp) hs1 hm0 hm1)
          refine Owed.cons ?_ ?_
          · -- 5: slot 23 := Op.convert 37 9 (Operand.tmp 22)
            intro a w hR F
            have e22 : Bs w (a.eval (.tmp 22)) (bytesR k1 n1 s1.data.toList) := F.new 4 22 (by kernel_rfl)
            exact ok_conv _ _ _ rfl (wanted_none rfl) (run_convert_Bs e22 37 5 9 Tryd.underlying37 Tryd.underlying5 Tryd.underlying9) ⟨Rb.refl _, rfl⟩
          refine Owed.cons ?_ ?_
          · -- 6: slot 7 := Op.assign (Operand.tmp 20)
            intro a w hR F
            have e20 : a.eval (.tmp 20) = strV (bytesR k n s.data.toList) := F.new 2 20 (by kernel_rfl)
            exact ok_assign _ rfl (wanted_none rfl) ⟨Rb.refl _, e20⟩
          refine Owed.cons ?_ ?_
          · -- 7: slot 8 := Op.assign (Operand.tmp 23)
            intro a w hR F
            have e23 : a.eval (.tmp 23) = strV (bytesR k1 n1 s1.data.toList) := F.new 5 23 (by kernel_rfl)
            exact ok_assign _ rfl (wanted_none rfl) ⟨Rb.refl _, e23⟩
          exact Owed.nil
        case fin =>
          intro y w hR hy
          have e6 : y 6 = strV (bytesR k n s.data.toList) := hy 6 _ rfl
          have e7 : y 7 = strV (bytesR k1 n1 s1.data.toList) := hy 7 _ rfl
          have HA := Lib.hid (HA.out.rb hR)
          have HD := Lib.hid (HD.out.rb hR)
          have HC := Lib.hid (HC.out.rb hR)
          have HB := Lib.hid (Rb.trans _ _ _ HB.out hR)
          clear hy hR
          simp only [putAll, Act.put, List.setIfInBounds_toArray, List.set_cons_zero, List.set_cons_succ]
          rw [e6, e7]
          clear e6 e7
          go_upto_region 4 with (fail)
          go_cut [49] (fun c wx => c = .bool false ∧ HeldV wx w0.heap.size k n s ∧ HeldV wx (w0.heap.size + 1) k1 n1 s1 ∧ HeldT wx (w0.heap.size + 1 + 1) t m ∧ Rb w0 wx)
          case first =>
            cases r1 : rightB k n s.data.toList
            · have HX := Lib.hid r1
              refine wp_region_plain_specs (R := Rb) (S := [Spec.eq (vv (k) (n) (s)), Spec.eq (.bool false), Spec.eq (.bool false), Spec.eq (undef), Spec.eq (undef), Spec.eq (.bool false), Spec.eq (.bool false), Spec.eq (undef), Spec.eq (undef), Spec.eq (undef), Spec.eq (.bool false), Spec.eq (.bool false), Spec.eq (undef), Spec.eq (undef), Spec.eq (undef), Spec.eq (undef), Spec.eq (undef), Spec.eq (.bool false), Spec.eq (.bool false), Spec.eq (undef), Spec.eq (undef), Spec.eq (undef), Spec.eq (undef), Spec.eq (undef), Spec.eq (undef), Spec.eq (.bool false)]) (n := 1) (size := 77) Rb.trans (Rb.refl _) rfl (by kernel_rfl) ?owed ?fin
              case owed =>
                refine Owed.cons ?_ ?_
                · -- 0: slot 24 := Op.load 23 (Operand.tmp 3)
                  intro a w hR F
                  have e3 : a.eval (.tmp 3) = .pointer (some ⟨w0.heap.size, 0, none⟩) := F.old 3 (by kernel_rfl)
                  exact ok_load _ _ rfl (wanted_none rfl) e3 (HA.out.rb hR).load ⟨Rb.refl _, rfl⟩
                refine Owed.cons ?_ ?_
                · -- 1: slot 25 := Op.call { callee := Callee.value (Operand.func 11), args := #[Operand.tmp 24], argTypes := #[23] }
                  intro a w hR F
                  have e24 : a.eval (.tmp 24) = vv (k) (n) (s) := F.new 0 24 (by kernel_rfl)
                  refine ok_call 11 _ _ #[vv (k) (n) (s)] rfl (wanted_none rfl) (by simp [e24]) (Tryd.call11 _ _) ?_
                  exact val_call_below (right_is k n s w hs r1)
                refine Owed.cons ?_ ?_
                · -- 2: slot 26 := Op.move (Operand.tmp 25)
                  intro a w hR F
                  have e25 : a.eval (.tmp 25) = .bool false := F.new 1 25 (by kernel_rfl)
                  exact ok_move _ rfl (wanted_none rfl) ⟨Rb.refl _, e25⟩
                refine Owed.cons ?_ ?_
                · -- 3: slot 27 := Op.load 23 (Operand.tmp 4)
                  intro a w hR F
                  have e26 : a.eval (.tmp 26) = .bool false := F.new 2 26 (by kernel_rfl)
                  exact ok_skip (wanted_false (j := 2) (d := 26) rfl (by kernel_rfl) e26) ⟨Rb.refl _, rfl⟩
                refine Owed.cons ?_ ?_
                · -- 4: slot 28 := Op.call { callee := Callee.value (Operand.func 11), args := #[Operand.tmp 27], argTypes := #[23] }
                  intro a w hR F
                  have e26 : a.eval (.tmp 26) = .bool false := F.new 2 26 (by kernel_rfl)
                  exact ok_skip (wanted_false (j := 2) (d := 26) rfl (by kernel_rfl) e26) ⟨Rb.refl _, rfl⟩
                refine Owed.cons ?_ ?_
                · -- 5: slot 29 := Op.pick (Operand.tmp 26) (Operand.tmp 28) (Operand.const (Value.bool false))
                  intro a w hR F
                  have e26 : a.eval (.tmp 26) = .bool false := F.new 2 26 (by kernel_rfl)
                  exact ok_pick _ _ _ false rfl (wanted_none rfl) e26 ⟨Rb.refl _, rfl⟩
                refine Owed.cons ?_ ?_
                · -- 6: slot 30 := Op.move (Operand.tmp 29)
                  intro a w hR F
                  have e29 : a.eval (.tmp 29) = .bool false := F.new 5 29 (by kernel_rfl)
                  exact ok_move _ rfl (wanted_none rfl) ⟨Rb.refl _, e29⟩
                refine Owed.cons ?_ ?_
                · -- 7: slot 31 := Op.load 23 (Operand.tmp 3)
                  intro a w hR F
                  have e30 : a.eval (.tmp 30) = .bool false := F.new 6 30 (by kernel_rfl)
                  exact ok_skip (wanted_false (j := 6) (d := 30) rfl (by kernel_rfl) e30) ⟨Rb.refl _, rfl⟩
                refine Owed.cons ?_ ?_
                · -- 8: slot 32 := Op.load 23 (Operand.tmp 4)
                  intro a w hR F
                  have e30 : a.eval (.tmp 30) = .bool false := F.new 6 30 (by kernel_rfl)
                  exact ok_skip (wanted_false (j := 6) (d := 30) rfl (by kernel_rfl) e30) ⟨Rb.refl _, rfl⟩
                refine Owed.cons ?_ ?_
                · -- 9: slot 33 := Op.binOp BinOp.neq 23 (Operand.tmp 31) (Operand.tmp 32) 23
                  intro a w hR F
                  have e30 : a.eval (.tmp 30) = .bool false := F.new 6 30 (by kernel_rfl)
                  exact ok_skip (wanted_false (j := 6) (d := 30) rfl (by kernel_rfl) e30) ⟨Rb.refl _, rfl⟩
                refine Owed.cons ?_ ?_
                · -- 10: slot 34 := Op.pick (Operand.tmp 30) (Operand.tmp 33) (Operand.const (Value.bool false))
                  intro a w hR F
                  have e30 : a.eval (.tmp 30) = .bool false := F.new 6 30 (by kernel_rfl)
                  exact ok_pick _ _ _ false rfl (wanted_none rfl) e30 ⟨Rb.refl _, rfl⟩
                refine Owed.cons ?_ ?_
                · -- 11: slot 35 := Op.move (Operand.tmp 34)
                  intro a w hR F
                  have e34 : a.eval (.tmp 34) = .bool false := F.new 10 34 (by kernel_rfl)
                  exact ok_move _ rfl (wanted_none rfl) ⟨Rb.refl _, e34⟩
                refine Owed.cons ?_ ?_
                · -- 12: slot 36 := Op.move (Operand.tmp 7)
                  intro a w hR F
                  have e35 : a.eval (.tmp 35) = .bool false := F.new 11 35 (by kernel_rfl)
                  exact ok_skip (wanted_false (j := 11) (d := 35) rfl (by kernel_rfl) e35) ⟨Rb.refl _, rfl⟩
                refine Owed.cons ?_ ?_
                · -- 13: slot 37 := Op.call { callee := Callee.builtin Builtin.len, args := #[Operand.tmp 36], argTypes := #[9] }
                  intro a w hR F
                  have e35 : a.eval (.tmp 35) = .bool false := F.new 11 35 (by kernel_rfl)
                  exact ok_skip (wanted_false (j := 11) (d := 35) rfl (by kernel_rfl) e35) ⟨Rb.refl _, rfl⟩
                refine Owed.cons ?_ ?_
                · -- 14: slot 38 := Op.move (Operand.tmp 8)
                  intro a w hR F
                  have e35 : a.eval (.tmp 35) = .bool false := F.new 11 35 (by kernel_rfl)
                  exact ok_skip (wanted_false (j := 11) (d := 35) rfl (by kernel_rfl) e35) ⟨Rb.refl _, rfl⟩
                refine Owed.cons ?_ ?_
                · -- 15: slot 39 := Op.call { callee := Callee.builtin Builtin.len, args := #[Operand.tmp 38], argTypes := #[9] }
                  intro a w hR F
                  have e35 : a.eval (.tmp 35) = .bool false := F.new 11 35 (by kernel_rfl)
                  exact ok_skip (wanted_false (j := 11) (d := 35) rfl (by kernel_rfl) e35) ⟨Rb.refl _, rfl⟩
                refine Owed.cons ?_ ?_
                · -- 16: slot 40 := Op.binOp BinOp.leq 3 (Operand.tmp 37) (Operand.tmp 39) 3
                  intro a w hR F
                  have e35 : a.eval (.tmp 35) = .bool false := F.new 11 35 (by kernel_rfl)
                  exact ok_skip (wanted_false (j := 11) (d := 35) rfl (by kernel_rfl) e35) ⟨Rb.refl _, rfl⟩
                refine Owed.cons ?_ ?_
                · -- 17: slot 41 := Op.pick (Operand.tmp 35) (Operand.tmp 40) (Operand.const (Value.bool false))
                  intro a w hR F
                  have e35 : a.eval (.tmp 35) = .bool false := F.new 11 35 (by kernel_rfl)
                  exact ok_pick _ _ _ false rfl (wanted_none rfl) e35 ⟨Rb.refl _, rfl⟩
                refine Owed.cons ?_ ?_
                · -- 18: slot 42 := Op.move (Operand.tmp 41)
                  intro a w hR F
                  have e41 : a.eval (.tmp 41) = .bool false := F.new 17 41 (by kernel_rfl)
                  exact ok_move _ rfl (wanted_none rfl) ⟨Rb.refl _, e41⟩
                refine Owed.cons ?_ ?_
                · -- 19: slot 43 := Op.move (Operand.tmp 8)
                  intro a w hR F
                  have e42 : a.eval (.tmp 42) = .bool false := F.new 18 42 (by kernel_rfl)
                  exact ok_skip (wanted_false (j := 18) (d := 42) rfl (by kernel_rfl) e42) ⟨Rb.refl _, rfl⟩
                refine Owed.cons ?_ ?_
                · -- 20: slot 44 := Op.move (Operand.tmp 7)
                  intro a w hR F
                  have e42 : a.eval (.tmp 42) = .bool false := F.new 18 42 (by kernel_rfl)
                  exact ok_skip (wanted_false (j := 18) (d := 42) rfl (by kernel_rfl) e42) ⟨Rb.refl _, rfl⟩
                refine Owed.cons ?_ ?_
                · -- 21: slot 45 := Op.call { callee := Callee.builtin Builtin.len, args := #[Operand.tmp 44], argTypes := #[9] }
                  intro a w hR F
                  have e42 : a.eval (.tmp 42) = .bool false := F.new 18 42 (by kernel_rfl)
                  exact ok_skip (wanted_false (j := 18) (d := 42) rfl (by kernel_rfl) e42) ⟨Rb.refl _, rfl⟩
                refine Owed.cons ?_ ?_
                · -- 22: slot 46 := Op.slice 9 (Operand.tmp 43) none (some (Operand.tmp 45)) none
                  intro a w hR F
                  have e42 : a.eval (.tmp 42) = .bool false := F.new 18 42 (by kernel_rfl)
                  exact ok_skip (wanted_false (j := 18) (d := 42) rfl (by kernel_rfl) e42) ⟨Rb.refl _, rfl⟩
                refine Owed.cons ?_ ?_
                · -- 23: slot 47 := Op.move (Operand.tmp 7)
                  intro a w hR F
                  have e42 : a.eval (.tmp 42) = .bool false := F.new 18 42 (by kernel_rfl)
                  exact ok_skip (wanted_false (j := 18) (d := 42) rfl (by kernel_rfl) e42) ⟨Rb.refl _, rfl⟩
                refine Owed.cons ?_ ?_
                · -- 24: slot 48 := Op.binOp BinOp.eql 9 (Operand.tmp 46) (Operand.tmp 47) 9
                  intro a w hR F
                  have e42 : a.eval (.tmp 42) = .bool false := F.new 18 42 (by kernel_rfl)
                  exact ok_skip (wanted_false (j := 18) (d := 42) rfl (by kernel_rfl) e42) ⟨Rb.refl _, rfl⟩
                refine Owed.cons ?_ ?_
                · -- 25: slot 49 := Op.pick (Operand.tmp 42) (Operand.tmp 48) (Operand.const (Value.bool false))
                  intro a w hR F
                  have e42 : a.eval (.tmp 42) = .bool false := F.new 18 42 (by kernel_rfl)
                  exact ok_pick _ _ _ false rfl (wanted_none rfl) e42 ⟨Rb.refl _, rfl⟩
                exact Owed.nil
              case fin =>
                intro y w hR hy
                have e25 : y 25 = .bool false := hy 25 _ rfl
                have HA := Lib.hid (HA.out.rb hR)
                have HD := Lib.hid (HD.out.rb hR)
                have HC := Lib.hid (HC.out.rb hR)
                have HB := Lib.hid (Rb.trans _ _ _ HB.out hR)
                clear hy hR
                simp only [putAll, Act.put, List.setIfInBounds_toArray, List.set_cons_zero, List.set_cons_succ]
                rw [e25]
                clear e25
                go_wp2_with fail
                go_meet
                exact ⟨rfl, HA.out, HD.out, HC.out, HB.out⟩
            cases r2 : rightB k1 n1 s1.data.toList
            · have HX := Lib.hid r1
              refine wp_region_plain_specs (R := Rb) (S := [Spec.eq (vv (k) (n) (s)), Spec.eq (.bool true), Spec.eq (.bool true), Spec.eq (vv (k1) (n1) (s1)), Spec.eq (.bool false), Spec.eq (.bool false), Spec.eq (.bool false), Spec.eq (undef), Spec.eq (undef), Spec.eq (undef), Spec.eq (.bool false), Spec.eq (.bool false), Spec.eq (undef), Spec.eq (undef), Spec.eq (undef), Spec.eq (undef), Spec.eq (undef), Spec.eq (.bool false), Spec.eq (.bool false), Spec.eq (undef), Spec.eq (undef), Spec.eq (undef), Spec.eq (undef), Spec.eq (undef), Spec.eq (undef), Spec.eq (.bool false)]) (n := 1) (size := 77) Rb.trans (Rb.refl _) rfl (by kernel_rfl) ?owed ?fin
              case owed =>
                refine Owed.cons ?_ ?_
                · -- 0: slot 24 := Op.load 23 (Operand.tmp 3)
                  intro a w hR F
                  have e3 : a.eval (.tmp 3) = .pointer (some ⟨w0.heap.size, 0, none⟩) := F.old 3 (by kernel_rfl)
                  exact ok_load _ _ rfl (wanted_none rfl) e3 (HA.out.rb hR).load ⟨Rb.refl _, rfl⟩
                refine Owed.cons ?_ ?_
                · -- 1: slot 25 := Op.call { callee := Callee.value (Operand.func 11), args := #[Operand.tmp 24], argTypes := #[23] }
                  intro a w hR F
                  have e24 : a.eval (.tmp 24) = vv (k) (n) (s) := F.new 0 24 (by kernel_rfl)
                  refine ok_call 11 _ _ #[vv (k) (n) (s)] rfl (wanted_none rfl) (by simp [e24]) (Tryd.call11 _ _) ?_
                  exact val_call_below (right_is k n s w hs r1)
                refine Owed.cons ?_ ?_
                · -- 2: slot 26 := Op.move (Operand.tmp 25)
                  intro a w hR F
                  have e25 : a.eval (.tmp 25) = .bool true := F.new 1 25 (by kernel_rfl)
                  exact ok_move _ rfl (wanted_none rfl) ⟨Rb.refl _, e25⟩
                refine Owed.cons ?_ ?_
                · -- 3: slot 27 := Op.load 23 (Operand.tmp 4)
                  intro a w hR F
                  have e26 : a.eval (.tmp 26) = .bool true := F.new 2 26 (by kernel_rfl)
                  have e4 : a.eval (.tmp 4) = .pointer (some ⟨w0.heap.size + 1, 0, none⟩) := F.old 4 (by kernel_rfl)
                  exact ok_load _ _ rfl (wanted_true (j := 2) (d := 26) rfl (by kernel_rfl) e26) e4 (HD.out.rb hR).load ⟨Rb.refl _, rfl⟩
                refine Owed.cons ?_ ?_
                · -- 4: slot 28 := Op.call { callee := Callee.value (Operand.func 11), args := #[Operand.tmp 27], argTypes := #[23] }
                  intro a w hR F
                  have e26 : a.eval (.tmp 26) = .bool true := F.new 2 26 (by kernel_rfl)
                  have e27 : a.eval (.tmp 27) = vv (k1) (n1) (s1) := F.new 3 27 (by kernel_rfl)
                  refine ok_call 11 _ _ #[vv (k1) (n1) (s1)] rfl (wanted_true (j := 2) (d := 26) rfl (by kernel_rfl) e26) (by simp [e27]) (Tryd.call11 _ _) ?_
                  exact val_call_below (right_is k1 n1 s1 w hs1 r2)
                refine Owed.cons ?_ ?_
                · -- 5: slot 29 := Op.pick (Operand.tmp 26) (Operand.tmp 28) (Operand.const (Value.bool false))
                  intro a w hR F
                  have e26 : a.eval (.tmp 26) = .bool true := F.new 2 26 (by kernel_rfl)
                  have e28 : a.eval (.tmp 28) = .bool false := F.new 4 28 (by kernel_rfl)
                  exact ok_pick _ _ _ true rfl (wanted_none rfl) e26 ⟨Rb.refl _, e28⟩
                refine Owed.cons ?_ ?_
                · -- 6: slot 30 := Op.move (Operand.tmp 29)
                  intro a w hR F
                  have e29 : a.eval (.tmp 29) = .bool false := F.new 5 29 (by kernel_rfl)
                  exact ok_move _ rfl (wanted_none rfl) ⟨Rb.refl _, e29⟩
                refine Owed.cons ?_ ?_
                · -- 7: slot 31 := Op.load 23 (Operand.tmp 3)
                  intro a w hR F
                  have e30 : a.eval (.tmp 30) = .bool false := F.new 6 30 (by kernel_rfl)
                  exact ok_skip (wanted_false (j := 6) (d := 30) rfl (by kernel_rfl) e30) ⟨Rb.refl _, rfl⟩
                refine Owed.cons ?_ ?_
                · -- 8: slot 32 := Op.load 23 (Operand.tmp 4)
                  intro a w hR F
                  have e30 : a.eval (.tmp 30) = .bool false := F.new 6 30 (by kernel_rfl)
                  exact ok_skip (wanted_false (j := 6) (d := 30) rfl (by kernel_rfl) e30) ⟨Rb.refl _, rfl⟩
                refine Owed.cons ?_ ?_
                · -- 9: slot 33 := Op.binOp BinOp.neq 23 (Operand.tmp 31) (Operand.tmp 32) 23
                  intro a w hR F
                  have e30 : a.eval (.tmp 30) = .bool false := F.new 6 30 (by kernel_rfl)
                  exact ok_skip (wanted_false (j := 6) (d := 30) rfl (by kernel_rfl) e30) ⟨Rb.refl _, rfl⟩
                refine Owed.cons ?_ ?_
                · -- 10: slot 34 := Op.pick (Operand.tmp 30) (Operand.tmp 33) (Operand.const (Value.bool false))
                  intro a w hR F
                  have e30 : a.eval (.tmp 30) = .bool false := F.new 6 30 (by kernel_rfl)
                  exact ok_pick _ _ _ false rfl (wanted_none rfl) e30 ⟨Rb.refl _, rfl⟩
                refine Owed.cons ?_ ?_
                · -- 11: slot 35 := Op.move (Operand.tmp 34)
                  intro a w hR F
                  have e34 : a.eval (.tmp 34) = .bool false := F.new 10 34 (by kernel_rfl)
                  exact ok_move _ rfl (wanted_none rfl) ⟨Rb.refl _, e34⟩
                refine Owed.cons ?_ ?_
                · -- 12: slot 36 := Op.move (Operand.tmp 7)
                  intro a w hR F
                  have e35 : a.eval (.tmp 35) = .bool false := F.new 11 35 (by kernel_rfl)
                  exact ok_skip (wanted_false (j := 11) (d := 35) rfl (by kernel_rfl) e35) ⟨Rb.refl _, rfl⟩
                refine Owed.cons ?_ ?_
                · -- 13: slot 37 := Op.call { callee := Callee.builtin Builtin.len, args := #[Operand.tmp 36], argTypes := #[9] }
                  intro a w hR F
                  have e35 : a.eval (.tmp 35) = .bool false := F.new 11 35 (by kernel_rfl)
                  exact ok_skip (wanted_false (j := 11) (d := 35) rfl (by kernel_rfl) e35) ⟨Rb.refl _, rfl⟩
                refine Owed.cons ?_ ?_
                · -- 14: slot 38 := Op.move (Operand.tmp 8)
                  intro a w hR F
                  have e35 : a.eval (.tmp 35) = .bool false := F.new 11 35 (by kernel_rfl)
                  exact ok_skip (wanted_false (j := 11) (d := 35) rfl (by kernel_rfl) e35) ⟨Rb.refl _, rfl⟩
                refine Owed.cons ?_ ?_
                · -- 15: slot 39 := Op.call { callee := Callee.builtin Builtin.len, args := #[Operand.tmp 38], argTypes := #[9] }
                  intro a w hR F
                  have e35 : a.eval (.tmp 35) = .bool false := F.new 11 35 (by kernel_rfl)
                  exact ok_skip (wanted_false (j := 11) (d := 35) rfl (by kernel_rfl) e35) ⟨Rb.refl _, rfl⟩
                refine Owed.cons ?_ ?_
                · -- 16: slot 40 := Op.binOp BinOp.leq 3 (Operand.tmp 37) (Operand.tmp 39) 3
                  intro a w hR F
                  have e35 : a.eval (.tmp 35) = .bool false := F.new 11 35 (by kernel_rfl)
                  exact ok_skip (wanted_false (j := 11) (d := 35) rfl (by kernel_rfl) e35) ⟨Rb.refl _, rfl⟩
                refine Owed.cons ?_ ?_
                · -- 17: slot 41 := Op.pick (Operand.tmp 35) (Operand.tmp 40) (Operand.const (Value.bool false))
                  intro a w hR F
                  have e35 : a.eval (.tmp 35) = .bool false := F.new 11 35 (by kernel_rfl)
                  exact ok_pick _ _ _ false rfl (wanted_none rfl) e35 ⟨Rb.refl _, rfl⟩
                refine Owed.cons ?_ ?_
                · -- 18: slot 42 := Op.move (Operand.tmp 41)
                  intro a w hR F
                  have e41 : a.eval (.tmp 41) = .bool false := F.new 17 41 (by kernel_rfl)
                  exact ok_move _ rfl (wanted_none rfl) ⟨Rb.refl _, e41⟩
                refine Owed.cons ?_ ?_
                · -- 19: slot 43 := Op.move (Operand.tmp 8)
                  intro a w hR F
                  have e42 : a.eval (.tmp 42) = .bool false := F.new 18 42 (by kernel_rfl)
                  exact ok_skip (wanted_false (j := 18) (d := 42) rfl (by kernel_rfl) e42) ⟨Rb.refl _, rfl⟩
                refine Owed.cons ?_ ?_
                · -- 20: slot 44 := Op.move (Operand.tmp 7)
                  intro a w hR F
                  have e42 : a.eval (.tmp 42) = .bool false := F.new 18 42 (by kernel_rfl)
                  exact ok_skip (wanted_false (j := 18) (d := 42) rfl (by kernel_rfl) e42) ⟨Rb.refl _, rfl⟩
                refine Owed.cons ?_ ?_
                · -- 21: slot 45 := Op.call { callee := Callee.builtin Builtin.len, args := #[Operand.tmp 44], argTypes := #[9] }
                  intro a w hR F
                  have e42 : a.eval (.tmp 42) = .bool false := F.new 18 42 (by kernel_rfl)
                  exact ok_skip (wanted_false (j := 18) (d := 42) rfl (by kernel_rfl) e42) ⟨Rb.refl _, rfl⟩
                refine Owed.cons ?_ ?_
                · -- 22: slot 46 := Op.slice 9 (Operand.tmp 43) none (some (Operand.tmp 45)) none
                  intro a w hR F
                  have e42 : a.eval (.tmp 42) = .bool false := F.new 18 42 (by kernel_rfl)
                  exact ok_skip (wanted_false (j := 18) (d := 42) rfl (by kernel_rfl) e42) ⟨Rb.refl _, rfl⟩
                refine Owed.cons ?_ ?_
                · -- 23: slot 47 := Op.move (Operand.tmp 7)
                  intro a w hR F
                  have e42 : a.eval (.tmp 42) = .bool false := F.new 18 42 (by kernel_rfl)
                  exact ok_skip (wanted_false (j := 18) (d := 42) rfl (by kernel_rfl) e42) ⟨Rb.refl _, rfl⟩
                refine Owed.cons ?_ ?_
                · -- 24: slot 48 := Op.binOp BinOp.eql 9 (Operand.tmp 46) (Operand.tmp 47) 9
                  intro a w hR F
                  have e42 : a.eval (.tmp 42) = .bool false := F.new 18 42 (by kernel_rfl)
                  exact ok_skip (wanted_false (j := 18) (d := 42) rfl (by kernel_rfl) e42) ⟨Rb.refl _, rfl⟩
                refine Owed.cons ?_ ?_
                · -- 25: slot 49 := Op.pick (Operand.tmp 42) (Operand.tmp 48) (Operand.const (Value.bool false))
                  intro a w hR F
                  have e42 : a.eval (.tmp 42) = .bool false := F.new 18 42 (by kernel_rfl)
                  exact ok_pick _ _ _ false rfl (wanted_none rfl) e42 ⟨Rb.refl _, rfl⟩
                exact Owed.nil
              case fin =>
                intro y w hR hy
                have e25 : y 25 = .bool false := hy 25 _ rfl
                have HA := Lib.hid (HA.out.rb hR)
                have HD := Lib.hid (HD.out.rb hR)
                have HC := Lib.hid (HC.out.rb hR)
                have HB := Lib.hid (Rb.trans _ _ _ HB.out hR)
                clear hy hR
                simp only [putAll, Act.put, List.setIfInBounds_toArray, List.set_cons_zero, List.set_cons_succ]
                rw [e25]
                clear e25
                go_wp2_with fail
                go_meet
                exact ⟨rfl, HA.out, HD.out, HC.out, HB.out⟩
            cases he : eqVB k n s k1 n1 s1
            · by_cases hl : ((bytesR k n s.data.toList).length : Int) ≤ (bytesR k1 n1 s1.data.toList).length
              · have HX := Lib.hid r1
                refine wp_region_plain_specs (R := Rb) (S := [Spec.eq (vv (k) (n) (s)), Spec.eq (.bool true), Spec.eq (.bool true), Spec.eq (vv (k1) (n1) (s1)), Spec.eq (.bool true), Spec.eq (.bool true), Spec.eq (.bool true), Spec.eq (vv (k) (n) (s)), Spec.eq (vv (k1) (n1) (s1)), Spec.eq (.bool true), Spec.eq (.bool true), Spec.eq (.bool true), Spec.eq (strV (bytesR k n s.data.toList)), Spec.eq (.int .i64 (((bytesR k n s.data.toList).length : Int))), Spec.eq (strV (bytesR k1 n1 s1.data.toList)), Spec.eq (.int .i64 (((bytesR k1 n1 s1.data.toList).length : Int))), Spec.eq (.bool true), Spec.eq (.bool true), Spec.eq (.bool true), Spec.eq (strV (bytesR k1 n1 s1.data.toList)), Spec.eq (strV (bytesR k n s.data.toList)), Spec.eq (.int .i64 (((bytesR k n s.data.toList).length : Int))), Spec.eq (strV ((bytesR k1 n1 s1.data.toList).take (bytesR k n s.data.toList).length)), Spec.eq (strV (bytesR k n s.data.toList)), Spec.eq (.bool false), Spec.eq (.bool false)]) (n := 1) (size := 77) Rb.trans (Rb.refl _) rfl (by kernel_rfl) ?owed ?fin
                case owed =>
                  refine Owed.cons ?_ ?_
                  · -- 0: slot 24 := Op.load 23 (Operand.tmp 3)
                    intro a w hR F
                    have e3 : a.eval (.tmp 3) = .pointer (some ⟨w0.heap.size, 0, none⟩) := F.old 3 (by kernel_rfl)
                    exact ok_load _ _ rfl (wanted_none rfl) e3 (HA.out.rb hR).load ⟨Rb.refl _, rfl⟩
                  refine Owed.cons ?_ ?_
                  · -- 1: slot 25 := Op.call { callee := Callee.value (Operand.func 11), args := #[Operand.tmp 24], argTypes := #[23] }
                    intro a w hR F
                    have e24 : a.eval (.tmp 24) = vv (k) (n) (s) := F.new 0 24 (by kernel_rfl)
                    refine ok_call 11 _ _ #[vv (k) (n) (s)] rfl (wanted_none rfl) (by simp [e24]) (Tryd.call11 _ _) ?_
                    exact val_call_below (right_is k n s w hs r1)
                  refine Owed.cons ?_ ?_
                  · -- 2: slot 26 := Op.move (Operand.tmp 25)
                    intro a w hR F
                    have e25 : a.eval (.tmp 25) = .bool true := F.new 1 25 (by kernel_rfl)
                    exact ok_move _ rfl (wanted_none rfl) ⟨Rb.refl _, e25⟩
                  refine Owed.cons ?_ ?_
                  · -- 3: slot 27 := Op.load 23 (Operand.tmp 4)
                    intro a w hR F
                    have e26 : a.eval (.tmp 26) = .bool true := F.new 2 26 (by kernel_rfl)
                    have e4 : a.eval (.tmp 4) = .pointer (some ⟨w0.heap.size + 1, 0, none⟩) := F.old 4 (by kernel_rfl)
                    exact ok_load _ _ rfl (wanted_true (j := 2) (d := 26) rfl (by kernel_rfl) e26) e4 (HD.out.rb hR).load ⟨Rb.refl _, rfl⟩
                  refine Owed.cons ?_ ?_
                  · -- 4: slot 28 := Op.call { callee := Callee.value (Operand.func 11), args := #[Operand.tmp 27], argTypes := #[23] }
                    intro a w hR F
                    have e26 : a.eval (.tmp 26) = .bool true := F.new 2 26 (by kernel_rfl)
                    have e27 : a.eval (.tmp 27) = vv (k1) (n1) (s1) := F.new 3 27 (by kernel_rfl)
                    refine ok_call 11 _ _ #[vv (k1) (n1) (s1)] rfl (wanted_true (j := 2) (d := 26) rfl (by kernel_rfl) e26) (by simp [e27]) (Tryd.call11 _ _) ?_
                    exact val_call_below (right_is k1 n1 s1 w hs1 r2)
                  refine Owed.cons ?_ ?_
                  · -- 5: slot 29 := Op.pick (Operand.tmp 26) (Operand.tmp 28) (Operand.const (Value.bool false))
                    intro a w hR F
                    have e26 : a.eval (.tmp 26) = .bool true := F.new 2 26 (by kernel_rfl)
                    have e28 : a.eval (.tmp 28) = .bool true := F.new 4 28 (by kernel_rfl)
                    exact ok_pick _ _ _ true rfl (wanted_none rfl) e26 ⟨Rb.refl _, e28⟩
                  refine Owed.cons ?_ ?_
                  · -- 6: slot 30 := Op.move (Operand.tmp 29)
                    intro a w hR F
                    have e29 : a.eval (.tmp 29) = .bool true := F.new 5 29 (by kernel_rfl)
                    exact ok_move _ rfl (wanted_none rfl) ⟨Rb.refl _, e29⟩
                  refine Owed.cons ?_ ?_
                  · -- 7: slot 31 := Op.load 23 (Operand.tmp 3)
                    intro a w hR F
                    have e30 : a.eval (.tmp 30) = .bool true := F.new 6 30 (by kernel_rfl)
                    have e3 : a.eval (.tmp 3) = .pointer (some ⟨w0.heap.size, 0, none⟩) := F.old 3 (by kernel_rfl)
                    exact ok_load _ _ rfl (wanted_true (j := 6) (d := 30) rfl (by kernel_rfl) e30) e3 (HA.out.rb hR).load ⟨Rb.refl _, rfl⟩
                  refine Owed.cons ?_ ?_
                  · -- 8: slot 32 := Op.load 23 (Operand.tmp 4)
                    intro a w hR F
                    have e30 : a.eval (.tmp 30) = .bool true := F.new 6 30 (by kernel_rfl)
                    have e4 : a.eval (.tmp 4) = .pointer (some ⟨w0.heap.size + 1, 0, none⟩) := F.old 4 (by kernel_rfl)
                    exact ok_load _ _ rfl (wanted_true (j := 6) (d := 30) rfl (by kernel_rfl) e30) e4 (HD.out.rb hR).load ⟨Rb.refl _, rfl⟩
                  refine Owed.cons ?_ ?_
                  · -- 9: slot 33 := Op.binOp BinOp.neq 23 (Operand.tmp 31) (Operand.tmp 32) 23
                    intro a w hR F
                    have e30 : a.eval (.tmp 30) = .bool true := F.new 6 30 (by kernel_rfl)
                    have e31 : a.eval (.tmp 31) = vv (k) (n) (s) := F.new 7 31 (by kernel_rfl)
                    have e32 : a.eval (.tmp 32) = vv (k1) (n1) (s1) := F.new 8 32 (by kernel_rfl)
                    refine ok_bin _ _ _ _ _ rfl (wanted_true (j := 6) (d := 30) rfl (by kernel_rfl) e30) e31 e32 (run_neqV _ _ _ _ _ _ _ _) ⟨Rb.refl _, ?_⟩
                    exact congrArg Value.bool (by rw [he]; rfl)
                  refine Owed.cons ?_ ?_
                  · -- 10: slot 34 := Op.pick (Operand.tmp 30) (Operand.tmp 33) (Operand.const (Value.bool false))
                    intro a w hR F
                    have e30 : a.eval (.tmp 30) = .bool true := F.new 6 30 (by kernel_rfl)
                    have e33 : a.eval (.tmp 33) = .bool true := F.new 9 33 (by kernel_rfl)
                    exact ok_pick _ _ _ true rfl (wanted_none rfl) e30 ⟨Rb.refl _, e33⟩
                  refine Owed.cons ?_ ?_
                  · -- 11: slot 35 := Op.move (Operand.tmp 34)
                    intro a w hR F
                    have e34 : a.eval (.tmp 34) = .bool true := F.new 10 34 (by kernel_rfl)
                    exact ok_move _ rfl (wanted_none rfl) ⟨Rb.refl _, e34⟩
                  refine Owed.cons ?_ ?_
                  · -- 12: slot 36 := Op.move (Operand.tmp 7)
                    intro a w hR F
                    have e35 : a.eval (.tmp 35) = .bool true := F.new 11 35 (by kernel_rfl)
                    have e7 : a.eval (.tmp 7) = strV (bytesR k n s.data.toList) := F.old 7 (by kernel_rfl)
                    exact ok_move _ rfl (wanted_true (j := 11) (d := 35) rfl (by kernel_rfl) e35) ⟨Rb.refl _, e7⟩
                  refine Owed.cons ?_ ?_
                  · -- 13: slot 37 := Op.call { callee := Callee.builtin Builtin.len, args := #[Operand.tmp 36], argTypes := #[9] }
                    intro a w hR F
                    have e35 : a.eval (.tmp 35) = .bool true := F.new 11 35 (by kernel_rfl)
                    have e36 : a.eval (.tmp 36) = strV (bytesR k n s.data.toList) := F.new 12 36 (by kernel_rfl)
                    exact ok_len_str _ _ (str (bytesR k n s.data.toList)) Tryd.underlying9 rfl (wanted_true (j := 11) (d := 35) rfl (by kernel_rfl) e35) e36 ⟨Rb.refl _, congrArg (fun x : Nat => Value.int .i64 (x : Int)) (str_size _)⟩
                  refine Owed.cons ?_ ?_
                  · -- 14: slot 38 := Op.move (Operand.tmp 8)
                    intro a w hR F
                    have e35 : a.eval (.tmp 35) = .bool true := F.new 11 35 (by kernel_rfl)
                    have e8 : a.eval (.tmp 8) = strV (bytesR k1 n1 s1.data.toList) := F.old 8 (by kernel_rfl)
                    exact ok_move _ rfl (wanted_true (j := 11) (d := 35) rfl (by kernel_rfl) e35) ⟨Rb.refl _, e8⟩
                  refine Owed.cons ?_ ?_
                  · -- 15: slot 39 := Op.call { callee := Callee.builtin Builtin.len, args := #[Operand.tmp 38], argTypes := #[9] }
                    intro a w hR F
                    have e35 : a.eval (.tmp 35) = .bool true := F.new 11 35 (by kernel_rfl)
                    have e38 : a.eval (.tmp 38) = strV (bytesR k1 n1 s1.data.toList) := F.new 14 38 (by kernel_rfl)
                    exact ok_len_str _ _ (str (bytesR k1 n1 s1.data.toList)) Tryd.underlying9 rfl (wanted_true (j := 11) (d := 35) rfl (by kernel_rfl) e35) e38 ⟨Rb.refl _, congrArg (fun x : Nat => Value.int .i64 (x : Int)) (str_size _)⟩
                  refine Owed.cons ?_ ?_
                  · -- 16: slot 40 := Op.binOp BinOp.leq 3 (Operand.tmp 37) (Operand.tmp 39) 3
                    intro a w hR F
                    have e35 : a.eval (.tmp 35) = .bool true := F.new 11 35 (by kernel_rfl)
                    have e37 : a.eval (.tmp 37) = .int .i64 (((bytesR k n s.data.toList).length : Int)) := F.new 13 37 (by kernel_rfl)
                    have e39 : a.eval (.tmp 39) = .int .i64 (((bytesR k1 n1 s1.data.toList).length : Int)) := F.new 15 39 (by kernel_rfl)
                    refine ok_bin _ _ _ _ _ rfl (wanted_true (j := 11) (d := 35) rfl (by kernel_rfl) e35) e37 e39 (run_leq_int _ _ _ _ _ _) ⟨Rb.refl _, ?_⟩
                    exact congrArg Value.bool (decide_eq_true hl)
                  refine Owed.cons ?_ ?_
                  · -- 17: slot 41 := Op.pick (Operand.tmp 35) (Operand.tmp 40) (Operand.const (Value.bool false))
                    intro a w hR F
                    have e35 : a.eval (.tmp 35) = .bool true := F.new 11 35 (by kernel_rfl)
                    have e40 : a.eval (.tmp 40) = .bool true := F.new 16 40 (by kernel_rfl)
                    exact ok_pick _ _ _ true rfl (wanted_none rfl) e35 ⟨Rb.refl _, e40⟩
                  refine Owed.cons ?_ ?_
                  · -- 18: slot 42 := Op.move (Operand.tmp 41)
                    intro a w hR F
                    have e41 : a.eval (.tmp 41) = .bool true := F.new 17 41 (by kernel_rfl)
                    exact ok_move _ rfl (wanted_none rfl) ⟨Rb.refl _, e41⟩
                  refine Owed.cons ?_ ?_
                  · -- 19: slot 43 := Op.move (Operand.tmp 8)
                    intro a w hR F
                    have e42 : a.eval (.tmp 42) = .bool true := F.new 18 42 (by kernel_rfl)
                    have e8 : a.eval (.tmp 8) = strV (bytesR k1 n1 s1.data.toList) := F.old 8 (by kernel_rfl)
                    exact ok_move _ rfl (wanted_true (j := 18) (d := 42) rfl (by kernel_rfl) e42) ⟨Rb.refl _, e8⟩
                  refine Owed.cons ?_ ?_
                  · -- 20: slot 44 := Op.move (Operand.tmp 7)
                    intro a w hR F
                    have e42 : a.eval (.tmp 42) = .bool true := F.new 18 42 (by kernel_rfl)
                    have e7 : a.eval (.tmp 7) = strV (bytesR k n s.data.toList) := F.old 7 (by kernel_rfl)
                    exact ok_move _ rfl (wanted_true (j := 18) (d := 42) rfl (by kernel_rfl) e42) ⟨Rb.refl _, e7⟩
                  refine Owed.cons ?_ ?_
                  · -- 21: slot 45 := Op.call { callee := Callee.builtin Builtin.len, args := #[Operand.tmp 44], argTypes := #[9] }
                    intro a w hR F
                    have e42 : a.eval (.tmp 42) = .bool true := F.new 18 42 (by kernel_rfl)
                    have e44 : a.eval (.tmp 44) = strV (bytesR k n s.data.toList) := F.new 20 44 (by kernel_rfl)
                    exact ok_len_str _ _ (str (bytesR k n s.data.toList)) Tryd.underlying9 rfl (wanted_true (j := 18) (d := 42) rfl (by kernel_rfl) e42) e44 ⟨Rb.refl _, congrArg (fun x : Nat => Value.int .i64 (x : Int)) (str_size _)⟩
                  refine Owed.cons ?_ ?_
                  · -- 22: slot 46 := Op.slice 9 (Operand.tmp 43) none (some (Operand.tmp 45)) none
                    intro a w hR F
                    have e42 : a.eval (.tmp 42) = .bool true := F.new 18 42 (by kernel_rfl)
                    have e43 : a.eval (.tmp 43) = strV (bytesR k1 n1 s1.data.toList) := F.new 19 43 (by kernel_rfl)
                    have e45 : a.eval (.tmp 45) = .int .i64 (((bytesR k n s.data.toList).length : Int)) := F.new 21 45 (by kernel_rfl)
                    exact ok_slice_strh _ _ _ (bytesR k1 n1 s1.data.toList) (bytesR k n s.data.toList).length (by omega) Tryd.underlying9 rfl (wanted_true (j := 18) (d := 42) rfl (by kernel_rfl) e42) e43 e45 ⟨Rb.refl _, rfl⟩
                  refine Owed.cons ?_ ?_
                  · -- 23: slot 47 := Op.move (Operand.tmp 7)
                    intro a w hR F
                    have e42 : a.eval (.tmp 42) = .bool true := F.new 18 42 (by kernel_rfl)
                    have e7 : a.eval (.tmp 7) = strV (bytesR k n s.data.toList) := F.old 7 (by kernel_rfl)
                    exact ok_move _ rfl (wanted_true (j := 18) (d := 42) rfl (by kernel_rfl) e42) ⟨Rb.refl _, e7⟩
                  refine Owed.cons ?_ ?_
                  · -- 24: slot 48 := Op.binOp BinOp.eql 9 (Operand.tmp 46) (Operand.tmp 47) 9
                    intro a w hR F
                    have e42 : a.eval (.tmp 42) = .bool true := F.new 18 42 (by kernel_rfl)
                    have e46 : a.eval (.tmp 46) = strV ((bytesR k1 n1 s1.data.toList).take (bytesR k n s.data.toList).length) := F.new 22 46 (by kernel_rfl)
                    have e47 : a.eval (.tmp 47) = strV (bytesR k n s.data.toList) := F.new 23 47 (by kernel_rfl)
                    refine ok_bin _ _ _ _ _ rfl (wanted_true (j := 18) (d := 42) rfl (by kernel_rfl) e42) e46 e47 (run_eql_strV _ _ _ _ _) ⟨Rb.refl _, ?_⟩
                    exact congrArg Value.bool (beq_eq_false_iff_ne.2 (no_prefix r1 r2 he hn0 hn1 hm0 hm1))
                  refine Owed.cons ?_ ?_
                  · -- 25: slot 49 := Op.pick (Operand.tmp 42) (Operand.tmp 48) (Operand.const (Value.bool false))
                    intro a w hR F
                    have e42 : a.eval (.tmp 42) = .bool true := F.new 18 42 (by kernel_rfl)
                    have e48 : a.eval (.tmp 48) = .bool false := F.new 24 48 (by kernel_rfl)
                    exact ok_pick _ _ _ true rfl (wanted_none rfl) e42 ⟨Rb.refl _, e48⟩
                  exact Owed.nil
                case fin =>
                  intro y w hR hy
                  have e25 : y 25 = .bool false := hy 25 _ rfl
                  have HA := Lib.hid (HA.out.rb hR)
                  have HD := Lib.hid (HD.out.rb hR)
                  have HC := Lib.hid (HC.out.rb hR)
                  have HB := Lib.hid (Rb.trans _ _ _ HB.out hR)
                  clear hy hR
                  simp only [putAll, Act.put, List.setIfInBounds_toArray, List.set_cons_zero, List.set_cons_succ]
                  rw [e25]
                  clear e25
                  go_wp2_with fail
                  go_meet
                  exact ⟨rfl, HA.out, HD.out, HC.out, HB.out⟩
              · have HX := Lib.hid r1
                refine wp_region_plain_specs (R := Rb) (S := [Spec.eq (vv (k) (n) (s)), Spec.eq (.bool true), Spec.eq (.bool true), Spec.eq (vv (k1) (n1) (s1)), Spec.eq (.bool true), Spec.eq (.bool true), Spec.eq (.bool true), Spec.eq (vv (k) (n) (s)), Spec.eq (vv (k1) (n1) (s1)), Spec.eq (.bool true), Spec.eq (.bool true), Spec.eq (.bool true), Spec.eq (strV (bytesR k n s.data.toList)), Spec.eq (.int .i64 (((bytesR k n s.data.toList).length : Int))), Spec.eq (strV (bytesR k1 n1 s1.data.toList)), Spec.eq (.int .i64 (((bytesR k1 n1 s1.data.toList).length : Int))), Spec.eq (.bool false), Spec.eq (.bool false), Spec.eq (.bool false), Spec.eq (undef), Spec.eq (undef), Spec.eq (undef), Spec.eq (undef), Spec.eq (undef), Spec.eq (undef), Spec.eq (.bool false)]) (n := 1) (size := 77) Rb.trans (Rb.refl _) rfl (by kernel_rfl) ?owed ?fin
                case owed =>
                  refine Owed.cons ?_ ?_
                  · -- 0: slot 24 := Op.load 23 (Operand.tmp 3)
                    intro a w hR F
                    have e3 : a.eval (.tmp 3) = .pointer (some ⟨w0.heap.size, 0, none⟩) := F.old 3 (by kernel_rfl)
                    exact ok_load _ _ rfl (wanted_none rfl) e3 (HA.out.rb hR).load ⟨Rb.refl _, rfl⟩
                  refine Owed.cons ?_ ?_
                  · -- 1: slot 25 := Op.call { callee := Callee.value (Operand.func 11), args := #[Operand.tmp 24], argTypes := #[23] }
                    intro a w hR F
                    have e24 : a.eval (.tmp 24) = vv (k) (n) (s) := F.new 0 24 (by kernel_rfl)
                    refine ok_call 11 _ _ #[vv (k) (n) (s)] rfl (wanted_none rfl) (by simp [e24]) (Tryd.call11 _ _) ?_
                    exact val_call_below (right_is k n s w hs r1)
                  refine Owed.cons ?_ ?_
                  · -- 2: slot 26 := Op.move (Operand.tmp 25)
                    intro a w hR F
                    have e25 : a.eval (.tmp 25) = .bool true := F.new 1 25 (by kernel_rfl)
                    exact ok_move _ rfl (wanted_none rfl) ⟨Rb.refl _, e25⟩
                  refine Owed.cons ?_ ?_
                  · -- 3: slot 27 := Op.load 23 (Operand.tmp 4)
                    intro a w hR F
                    have e26 : a.eval (.tmp 26) = .bool true := F.new 2 26 (by kernel_rfl)
                    have e4 : a.eval (.tmp 4) = .pointer (some ⟨w0.heap.size + 1, 0, none⟩) := F.old 4 (by kernel_rfl)
                    exact ok_load _ _ rfl (wanted_true (j := 2) (d := 26) rfl (by kernel_rfl) e26) e4 (HD.out.rb hR).load ⟨Rb.refl _, rfl⟩
                  refine Owed.cons ?_ ?_
                  · -- 4: slot 28 := Op.call { callee := Callee.value (Operand.func 11), args := #[Operand.tmp 27], argTypes := #[23] }
                    intro a w hR F
                    have e26 : a.eval (.tmp 26) = .bool true := F.new 2 26 (by kernel_rfl)
                    have e27 : a.eval (.tmp 27) = vv (k1) (n1) (s1) := F.new 3 27 (by kernel_rfl)
                    refine ok_call 11 _ _ #[vv (k1) (n1) (s1)] rfl (wanted_true (j := 2) (d := 26) rfl (by kernel_rfl) e26) (by simp [e27]) (Tryd.call11 _ _) ?_
                    exact val_call_below (right_is k1 n1 s1 w hs1 r2)
                  refine Owed.cons ?_ ?_
                  · -- 5: slot 29 := Op.pick (Operand.tmp 26) (Operand.tmp 28) (Operand.const (Value.bool false))
                    intro a w hR F
                    have e26 : a.eval (.tmp 26) = .bool true := F.new 2 26 (by kernel_rfl)
                    have e28 : a.eval (.tmp 28) = .bool true := F.new 4 28 (by kernel_rfl)
                    exact ok_pick _ _ _ true rfl (wanted_none rfl) e26 ⟨Rb.refl _, e28⟩
                  refine Owed.cons ?_ ?_
                  · -- 6: slot 30 := Op.move (Operand.tmp 29)
                    intro a w hR F
                    have e29 : a.eval (.tmp 29) = .bool true := F.new 5 29 (by kernel_rfl)
                    exact ok_move _ rfl (wanted_none rfl) ⟨Rb.refl _, e29⟩
                  refine Owed.cons ?_ ?_
                  · -- 7: slot 31 := Op.load 23 (Operand.tmp 3)
                    intro a w hR F
                    have e30 : a.eval (.tmp 30) = .bool true := F.new 6 30 (by kernel_rfl)
                    have e3 : a.eval (.tmp 3) = .pointer (some ⟨w0.heap.size, 0, none⟩) := F.old 3 (by kernel_rfl)
                    exact ok_load _ _ rfl (wanted_true (j := 6) (d := 30) rfl (by kernel_rfl) e30) e3 (HA.out.rb hR).load ⟨Rb.refl _, rfl⟩
                  refine Owed.cons ?_ ?_
                  · -- 8: slot 32 := Op.load 23 (Operand.tmp 4)
                    intro a w hR F
                    have e30 : a.eval (.tmp 30) = .bool true := F.new 6 30 (by kernel_rfl)
                    have e4 : a.eval (.tmp 4) = .pointer (some ⟨w0.heap.size + 1, 0, none⟩) := F.old 4 (by kernel_rfl)
                    exact ok_load _ _ rfl (wanted_true (j := 6) (d := 30) rfl (by kernel_rfl) e30) e4 (HD.out.rb hR).load ⟨Rb.refl _, rfl⟩
                  refine Owed.cons ?_ ?_
                  · -- 9: slot 33 := Op.binOp BinOp.neq 23 (Operand.tmp 31) (Operand.tmp 32) 23
                    intro a w hR F
                    have e30 : a.eval (.tmp 30) = .bool true := F.new 6 30 (by kernel_rfl)
                    have e31 : a.eval (.tmp 31) = vv (k) (n) (s) := F.new 7 31 (by kernel_rfl)
                    have e32 : a.eval (.tmp 32) = vv (k1) (n1) (s1) := F.new 8 32 (by kernel_rfl)
                    refine ok_bin _ _ _ _ _ rfl (wanted_true (j := 6) (d := 30) rfl (by kernel_rfl) e30) e31 e32 (run_neqV _ _ _ _ _ _ _ _) ⟨Rb.refl _, ?_⟩
                    exact congrArg Value.bool (by rw [he]; rfl)
                  refine Owed.cons ?_ ?_
                  · -- 10: slot 34 := Op.pick (Operand.tmp 30) (Operand.tmp 33) (Operand.const (Value.bool false))
                    intro a w hR F
                    have e30 : a.eval (.tmp 30) = .bool true := F.new 6 30 (by kernel_rfl)
                    have e33 : a.eval (.tmp 33) = .bool true := F.new 9 33 (by kernel_rfl)
                    exact ok_pick _ _ _ true rfl (wanted_none rfl) e30 ⟨Rb.refl _, e33⟩
                  refine Owed.cons ?_ ?_
                  · -- 11: slot 35 := Op.move (Operand.tmp 34)
                    intro a w hR F
                    have e34 : a.eval (.tmp 34) = .bool true := F.new 10 34 (by kernel_rfl)
                    exact ok_move _ rfl (wanted_none rfl) ⟨Rb.refl _, e34⟩
                  refine Owed.cons ?_ ?_
                  · -- 12: slot 36 := Op.move (Operand.tmp 7)
                    intro a w hR F
                    have e35 : a.eval (.tmp 35) = .bool true := F.new 11 35 (by kernel_rfl)
                    have e7 : a.eval (.tmp 7) = strV (bytesR k n s.data.toList) := F.old 7 (by kernel_rfl)
                    exact ok_move _ rfl (wanted_true (j := 11) (d := 35) rfl (by kernel_rfl) e35) ⟨Rb.refl _, e7⟩
                  refine Owed.cons ?_ ?_
                  · -- 13: slot 37 := Op.call { callee := Callee.builtin Builtin.len, args := #[Operand.tmp 36], argTypes := #[9] }
                    intro a w hR F
                    have e35 : a.eval (.tmp 35) = .bool true := F.new 11 35 (by kernel_rfl)
                    have e36 : a.eval (.tmp 36) = strV (bytesR k n s.data.toList) := F.new 12 36 (by kernel_rfl)
                    exact ok_len_str _ _ (str (bytesR k n s.data.toList)) Tryd.underlying9 rfl (wanted_true (j := 11) (d := 35) rfl (by kernel_rfl) e35) e36 ⟨Rb.refl _, congrArg (fun x : Nat => Value.int .i64 (x : Int)) (str_size _)⟩
                  refine Owed.cons ?_ ?_
                  · -- 14: slot 38 := Op.move (Operand.tmp 8)
                    intro a w hR F
                    have e35 : a.eval (.tmp 35) = .bool true := F.new 11 35 (by kernel_rfl)
                    have e8 : a.eval (.tmp 8) = strV (bytesR k1 n1 s1.data.toList) := F.old 8 (by kernel_rfl)
                    exact ok_move _ rfl (wanted_true (j := 11) (d := 35) rfl (by kernel_rfl) e35) ⟨Rb.refl _, e8⟩
                  refine Owed.cons ?_ ?_
                  · -- 15: slot 39 := Op.call { callee := Callee.builtin Builtin.len, args := #[Operand.tmp 38], argTypes := #[9] }
                    intro a w hR F
                    have e35 : a.eval (.tmp 35) = .bool true := F.new 11 35 (by kernel_rfl)
                    have e38 : a.eval (.tmp 38) = strV (bytesR k1 n1 s1.data.toList) := F.new 14 38 (by kernel_rfl)
                    exact ok_len_str _ _ (str (bytesR k1 n1 s1.data.toList)) Tryd.underlying9 rfl (wanted_true (j := 11) (d := 35) rfl (by kernel_rfl) e35) e38 ⟨Rb.refl _, congrArg (fun x : Nat => Value.int .i64 (x : Int)) (str_size _)⟩
                  refine Owed.cons ?_ ?_
                  · -- 16: slot 40 := Op.binOp BinOp.leq 3 (Operand.tmp 37) (Operand.tmp 39) 3
                    intro a w hR F
                    have e35 : a.eval (.tmp 35) = .bool true := F.new 11 35 (by kernel_rfl)
                    have e37 : a.eval (.tmp 37) = .int .i64 (((bytesR k n s.data.toList).length : Int)) := F.new 13 37 (by kernel_rfl)
                    have e39 : a.eval (.tmp 39) = .int .i64 (((bytesR k1 n1 s1.data.toList).length : Int)) := F.new 15 39 (by kernel_rfl)
                    refine ok_bin _ _ _ _ _ rfl (wanted_true (j := 11) (d := 35) rfl (by kernel_rfl) e35) e37 e39 (run_leq_int _ _ _ _ _ _) ⟨Rb.refl _, ?_⟩
                    exact congrArg Value.bool (decide_eq_false hl)
                  refine Owed.cons ?_ ?_
                  · -- 17: slot 41 := Op.pick (Operand.tmp 35) (Operand.tmp 40) (Operand.const (Value.bool false))
                    intro a w hR F
                    have e35 : a.eval (.tmp 35) = .bool true := F.new 11 35 (by kernel_rfl)
                    have e40 : a.eval (.tmp 40) = .bool false := F.new 16 40 (by kernel_rfl)
                    exact ok_pick _ _ _ true rfl (wanted_none rfl) e35 ⟨Rb.refl _, e40⟩
                  refine Owed.cons ?_ ?_
                  · -- 18: slot 42 := Op.move (Operand.tmp 41)
                    intro a w hR F
                    have e41 : a.eval (.tmp 41) = .bool false := F.new 17 41 (by kernel_rfl)
                    exact ok_move _ rfl (wanted_none rfl) ⟨Rb.refl _, e41⟩
                  refine Owed.cons ?_ ?_
                  · -- 19: slot 43 := Op.move (Operand.tmp 8)
                    intro a w hR F
                    have e42 : a.eval (.tmp 42) = .bool false := F.new 18 42 (by kernel_rfl)
                    exact ok_skip (wanted_false (j := 18) (d := 42) rfl (by kernel_rfl) e42) ⟨Rb.refl _, rfl⟩
                  refine Owed.cons ?_ ?_
                  · -- 20: slot 44 := Op.move (Operand.tmp 7)
                    intro a w hR F
                    have e42 : a.eval (.tmp 42) = .bool false := F.new 18 42 (by kernel_rfl)
                    exact ok_skip (wanted_false (j := 18) (d := 42) rfl (by kernel_rfl) e42) ⟨Rb.refl _, rfl⟩
                  refine Owed.cons ?_ ?_
                  · -- 21: slot 45 := Op.call { callee := Callee.builtin Builtin.len, args := #[Operand.tmp 44], argTypes := #[9] }
                    intro a w hR F
                    have e42 : a.eval (.tmp 42) = .bool false := F.new 18 42 (by kernel_rfl)
                    exact ok_skip (wanted_false (j := 18) (d := 42) rfl (by kernel_rfl) e42) ⟨Rb.refl _, rfl⟩
                  refine Owed.cons ?_ ?_
                  · -- 22: slot 46 := Op.slice 9 (Operand.tmp 43) none (some (Operand.tmp 45)) none
                    intro a w hR F
                    have e42 : a.eval (.tmp 42) = .bool false := F.new 18 42 (by kernel_rfl)
                    exact ok_skip (wanted_false (j := 18) (d := 42) rfl (by kernel_rfl) e42) ⟨Rb.refl _, rfl⟩
                  refine Owed.cons ?_ ?_
                  · -- 23: slot 47 := Op.move (Operand.tmp 7)
                    intro a w hR F
                    have e42 : a.eval (.tmp 42) = .bool false := F.new 18 42 (by kernel_rfl)
                    exact ok_skip (wanted_false (j := 18) (d := 42) rfl (by kernel_rfl) e42) ⟨Rb.refl _, rfl⟩
                  refine Owed.cons ?_ ?_
                  · -- 24: slot 48 := Op.binOp BinOp.eql 9 (Operand.tmp 46) (Operand.tmp 47) 9
                    intro a w hR F
                    have e42 : a.eval (.tmp 42) = .bool false := F.new 18 42 (by kernel_rfl)
                    exact ok_skip (wanted_false (j := 18) (d := 42) rfl (by kernel_rfl) e42) ⟨Rb.refl _, rfl⟩
                  refine Owed.cons ?_ ?_
                  · -- 25: slot 49 := Op.pick (Operand.tmp 42) (Operand.tmp 48) (Operand.const (Value.bool false))
                    intro a w hR F
                    have e42 : a.eval (.tmp 42) = .bool false := F.new 18 42 (by kernel_rfl)
                    exact ok_pick _ _ _ false rfl (wanted_none rfl) e42 ⟨Rb.refl _, rfl⟩
                  exact Owed.nil
                case fin =>
                  intro y w hR hy
                  have e25 : y 25 = .bool false := hy 25 _ rfl
                  have HA := Lib.hid (HA.out.rb hR)
                  have HD := Lib.hid (HD.out.rb hR)
                  have HC := Lib.hid (HC.out.rb hR)
                  have HB := Lib.hid (Rb.trans _ _ _ HB.out hR)
                  clear hy hR
                  simp only [putAll, Act.put, List.setIfInBounds_toArray, List.set_cons_zero, List.set_cons_succ]
                  rw [e25]
                  clear e25
                  go_wp2_with fail
                  go_meet
                  exact ⟨rfl, HA.out, HD.out, HC.out, HB.out⟩
            · have HX := Lib.hid r1
              refine wp_region_plain_specs (R := Rb) (S := [Spec.eq (vv (k) (n) (s)), Spec.eq (.bool true), Spec.eq (.bool true), Spec.eq (vv (k1) (n1) (s1)), Spec.eq (.bool true), Spec.eq (.bool true), Spec.eq (.bool true), Spec.eq (vv (k) (n) (s)), Spec.eq (vv (k1) (n1) (s1)), Spec.eq (.bool false), Spec.eq (.bool false), Spec.eq (.bool false), Spec.eq (undef), Spec.eq (undef), Spec.eq (undef), Spec.eq (undef), Spec.eq (undef), Spec.eq (.bool false), Spec.eq (.bool false), Spec.eq (undef), Spec.eq (undef), Spec.eq (undef), Spec.eq (undef), Spec.eq (undef), Spec.eq (undef), Spec.eq (.bool false)]) (n := 1) (size := 77) Rb.trans (Rb.refl _) rfl (by kernel_rfl) ?owed ?fin
              case owed =>
                refine Owed.cons ?_ ?_
                · -- 0: slot 24 := Op.load 23 (Operand.tmp 3)
                  intro a w hR F
                  have e3 : a.eval (.tmp 3) = .pointer (some ⟨w0.heap.size, 0, none⟩) := F.old 3 (by kernel_rfl)
                  exact ok_load _ _ rfl (wanted_none rfl) e3 (HA.out.rb hR).load ⟨Rb.refl _, rfl⟩
                refine Owed.cons ?_ ?_
                · -- 1: slot 25 := Op.call { callee := Callee.value (Operand.func 11), args := #[Operand.tmp 24], argTypes := #[23] }
                  intro a w hR F
                  have e24 : a.eval (.tmp 24) = vv (k) (n) (s) := F.new 0 24 (by kernel_rfl)
                  refine ok_call 11 _ _ #[vv (k) (n) (s)] rfl (wanted_none rfl) (by simp [e24]) (Tryd.call11 _ _) ?_
                  exact val_call_below (right_is k n s w hs r1)
                refine Owed.cons ?_ ?_
                · -- 2: slot 26 := Op.move (Operand.tmp 25)
                  intro a w hR F
                  have e25 : a.eval (.tmp 25) = .bool true := F.new 1 25 (by kernel_rfl)
                  exact ok_move _ rfl (wanted_none rfl) ⟨Rb.refl _, e25⟩
                refine Owed.cons ?_ ?_
                · -- 3: slot 27 := Op.load 23 (Operand.tmp 4)
                  intro a w hR F
                  have e26 : a.eval (.tmp 26) = .bool true := F.new 2 26 (by kernel_rfl)
                  have e4 : a.eval (.tmp 4) = .pointer (some ⟨w0.heap.size + 1, 0, none⟩) := F.old 4 (by kernel_rfl)
                  exact ok_load _ _ rfl (wanted_true (j := 2) (d := 26) rfl (by kernel_rfl) e26) e4 (HD.out.rb hR).load ⟨Rb.refl _, rfl⟩
                refine Owed.cons ?_ ?_
                · -- 4: slot 28 := Op.call { callee := Callee.value (Operand.func 11), args := #[Operand.tmp 27], argTypes := #[23] }
                  intro a w hR F
                  have e26 : a.eval (.tmp 26) = .bool true := F.new 2 26 (by kernel_rfl)
                  have e27 : a.eval (.tmp 27) = vv (k1) (n1) (s1) := F.new 3 27 (by kernel_rfl)
                  refine ok_call 11 _ _ #[vv (k1) (n1) (s1)] rfl (wanted_true (j := 2) (d := 26) rfl (by kernel_rfl) e26) (by simp [e27]) (Tryd.call11 _ _) ?_
                  exact val_call_below (right_is k1 n1 s1 w hs1 r2)
                refine Owed.cons ?_ ?_
                · -- 5: slot 29 := Op.pick (Operand.tmp 26) (Operand.tmp 28) (Operand.const (Value.bool false))
                  intro a w hR F
                  have e26 : a.eval (.tmp 26) = .bool true := F.new 2 26 (by kernel_rfl)
                  have e28 : a.eval (.tmp 28) = .bool true := F.new 4 28 (by kernel_rfl)
                  exact ok_pick _ _ _ true rfl (wanted_none rfl) e26 ⟨Rb.refl _, e28⟩
                refine Owed.cons ?_ ?_
                · -- 6: slot 30 := Op.move (Operand.tmp 29)
                  intro a w hR F
                  have e29 : a.eval (.tmp 29) = .bool true := F.new 5 29 (by kernel_rfl)
                  exact ok_move _ rfl (wanted_none rfl) ⟨Rb.refl _, e29⟩
                refine Owed.cons ?_ ?_
                · -- 7: slot 31 := Op.load 23 (Operand.tmp 3)
                  intro a w hR F
                  have e30 : a.eval (.tmp 30) = .bool true := F.new 6 30 (by kernel_rfl)
                  have e3 : a.eval (.tmp 3) = .pointer (some ⟨w0.heap.size, 0, none⟩) := F.old 3 (by kernel_rfl)
                  exact ok_load _ _ rfl (wanted_true (j := 6) (d := 30) rfl (by kernel_rfl) e30) e3 (HA.out.rb hR).load ⟨Rb.refl _, rfl⟩
                refine Owed.cons ?_ ?_
                · -- 8: slot 32 := Op.load 23 (Operand.tmp 4)
                  intro a w hR F
                  have e30 : a.eval (.tmp 30) = .bool true := F.new 6 30 (by kernel_rfl)
                  have e4 : a.eval (.tmp 4) = .pointer (some ⟨w0.heap.size + 1, 0, none⟩) := F.old 4 (by kernel_rfl)
                  exact ok_load _ _ rfl (wanted_true (j := 6) (d := 30) rfl (by kernel_rfl) e30) e4 (HD.out.rb hR).load ⟨Rb.refl _, rfl⟩
                refine Owed.cons ?_ ?_
                · -- 9: slot 33 := Op.binOp BinOp.neq 23 (Operand.tmp 31) (Operand.tmp 32) 23
                  intro a w hR F
                  have e30 : a.eval (.tmp 30) = .bool true := F.new 6 30 (by kernel_rfl)
                  have e31 : a.eval (.tmp 31) = vv (k) (n) (s) := F.new 7 31 (by kernel_rfl)
                  have e32 : a.eval (.tmp 32) = vv (k1) (n1) (s1) := F.new 8 32 (by kernel_rfl)
                  refine ok_bin _ _ _ _ _ rfl (wanted_true (j := 6) (d := 30) rfl (by kernel_rfl) e30) e31 e32 (run_neqV _ _ _ _ _ _ _ _) ⟨Rb.refl _, ?_⟩
                  exact congrArg Value.bool (by rw [he]; rfl)
                refine Owed.cons ?_ ?_
                · -- 10: slot 34 := Op.pick (Operand.tmp 30) (Operand.tmp 33) (Operand.const (Value.bool false))
                  intro a w hR F
                  have e30 : a.eval (.tmp 30) = .bool true := F.new 6 30 (by kernel_rfl)
                  have e33 : a.eval (.tmp 33) = .bool false := F.new 9 33 (by kernel_rfl)
                  exact ok_pick _ _ _ true rfl (wanted_none rfl) e30 ⟨Rb.refl _, e33⟩
                refine Owed.cons ?_ ?_
                · -- 11: slot 35 := Op.move (Operand.tmp 34)
                  intro a w hR F
                  have e34 : a.eval (.tmp 34) = .bool false := F.new 10 34 (by kernel_rfl)
                  exact ok_move _ rfl (wanted_none rfl) ⟨Rb.refl _, e34⟩
                refine Owed.cons ?_ ?_
                · -- 12: slot 36 := Op.move (Operand.tmp 7)
                  intro a w hR F
                  have e35 : a.eval (.tmp 35) = .bool false := F.new 11 35 (by kernel_rfl)
                  exact ok_skip (wanted_false (j := 11) (d := 35) rfl (by kernel_rfl) e35) ⟨Rb.refl _, rfl⟩
                refine Owed.cons ?_ ?_
                · -- 13: slot 37 := Op.call { callee := Callee.builtin Builtin.len, args := #[Operand.tmp 36], argTypes := #[9] }
                  intro a w hR F
                  have e35 : a.eval (.tmp 35) = .bool false := F.new 11 35 (by kernel_rfl)
                  exact ok_skip (wanted_false (j := 11) (d := 35) rfl (by kernel_rfl) e35) ⟨Rb.refl _, rfl⟩
                refine Owed.cons ?_ ?_
                · -- 14: slot 38 := Op.move (Operand.tmp 8)
                  intro a w hR F
                  have e35 : a.eval (.tmp 35) = .bool false := F.new 11 35 (by kernel_rfl)
                  exact ok_skip (wanted_false (j := 11) (d := 35) rfl (by kernel_rfl) e35) ⟨Rb.refl _, rfl⟩
                refine Owed.cons ?_ ?_
                · -- 15: slot 39 := Op.call { callee := Callee.builtin Builtin.len, args := #[Operand.tmp 38], argTypes := #[9] }
                  intro a w hR F
                  have e35 : a.eval (.tmp 35) = .bool false := F.new 11 35 (by kernel_rfl)
                  exact ok_skip (wanted_false (j := 11) (d := 35) rfl (by kernel_rfl) e35) ⟨Rb.refl _, rfl⟩
                refine Owed.cons ?_ ?_
                · -- 16: slot 40 := Op.binOp BinOp.leq 3 (Operand.tmp 37) (Operand.tmp 39) 3
                  intro a w hR F
                  have e35 : a.eval (.tmp 35) = .bool false := F.new 11 35 (by kernel_rfl)
                  exact ok_skip (wanted_false (j := 11) (d := 35) rfl (by kernel_rfl) e35) ⟨Rb.refl _, rfl⟩
                refine Owed.cons ?_ ?_
                · -- 17: slot 41 := Op.pick (Operand.tmp 35) (Operand.tmp 40) (Operand.const (Value.bool false))
                  intro a w hR F
                  have e35 : a.eval (.tmp 35) = .bool false := F.new 11 35 (by kernel_rfl)
                  exact ok_pick _ _ _ false rfl (wanted_none rfl) e35 ⟨Rb.refl _, rfl⟩
                refine Owed.cons ?_ ?_
                · -- 18: slot 42 := Op.move (Operand.tmp 41)
                  intro a w hR F
                  have e41 : a.eval (.tmp 41) = .bool false := F.new 17 41 (by kernel_rfl)
                  exact ok_move _ rfl (wanted_none rfl) ⟨Rb.refl _, e41⟩
                refine Owed.cons ?_ ?_
                · -- 19: slot 43 := Op.move (Operand.tmp 8)
                  intro a w hR F
                  have e42 : a.eval (.tmp 42) = .bool false := F.new 18 42 (by kernel_rfl)
                  exact ok_skip (wanted_false (j := 18) (d := 42) rfl (by kernel_rfl) e42) ⟨Rb.refl _, rfl⟩
                refine Owed.cons ?_ ?_
                · -- 20: slot 44 := Op.move (Operand.tmp 7)
                  intro a w hR F
                  have e42 : a.eval (.tmp 42) = .bool false := F.new 18 42 (by kernel_rfl)
                  exact ok_skip (wanted_false (j := 18) (d := 42) rfl (by kernel_rfl) e42) ⟨Rb.refl _, rfl⟩
                refine Owed.cons ?_ ?_
                · -- 21: slot 45 := Op.call { callee := Callee.builtin Builtin.len, args := #[Operand.tmp 44], argTypes := #[9] }
                  intro a w hR F
                  have e42 : a.eval (.tmp 42) = .bool false := F.new 18 42 (by kernel_rfl)
                  exact ok_skip (wanted_false (j := 18) (d := 42) rfl (by kernel_rfl) e42) ⟨Rb.refl _, rfl⟩
                refine Owed.cons ?_ ?_
                · -- 22: slot 46 := Op.slice 9 (Operand.tmp 43) none (some (Operand.tmp 45)) none
                  intro a w hR F
                  have e42 : a.eval (.tmp 42) = .bool false := F.new 18 42 (by kernel_rfl)
                  exact ok_skip (wanted_false (j := 18) (d := 42) rfl (by kernel_rfl) e42) ⟨Rb.refl _, rfl⟩
                refine Owed.cons ?_ ?_
                · -- 23: slot 47 := Op.move (Operand.tmp 7)
                  intro a w hR F
                  have e42 : a.eval (.tmp 42) = .bool false := F.new 18 42 (by kernel_rfl)
                  exact ok_skip (wanted_false (j := 18) (d := 42) rfl (by kernel_rfl) e42) ⟨Rb.refl _, rfl⟩
                refine Owed.cons ?_ ?_
                · -- 24: slot 48 := Op.binOp BinOp.eql 9 (Operand.tmp 46) (Operand.tmp 47) 9
                  intro a w hR F
                  have e42 : a.eval (.tmp 42) = .bool false := F.new 18 42 (by kernel_rfl)
                  exact ok_skip (wanted_false (j := 18) (d := 42) rfl (by kernel_rfl) e42) ⟨Rb.refl _, rfl⟩
                refine Owed.cons ?_ ?_
                · -- 25: slot 49 := Op.pick (Operand.tmp 42) (Operand.tmp 48) (Operand.const (Value.bool false))
                  intro a w hR F
                  have e42 : a.eval (.tmp 42) = .bool false := F.new 18 42 (by kernel_rfl)
                  exact ok_pick _ _ _ false rfl (wanted_none rfl) e42 ⟨Rb.refl _, rfl⟩
                exact Owed.nil
              case fin =>
                intro y w hR hy
                have e25 : y 25 = .bool false := hy 25 _ rfl
                have HA := Lib.hid (HA.out.rb hR)
                have HD := Lib.hid (HD.out.rb hR)
                have HC := Lib.hid (HC.out.rb hR)
                have HB := Lib.hid (Rb.trans _ _ _ HB.out hR)
                clear hy hR
                simp only [putAll, Act.put, List.setIfInBounds_toArray, List.set_cons_zero, List.set_cons_succ]
                rw [e25]
                clear e25
                go_wp2_with fail
                go_meet
                exact ⟨rfl, HA.out, HD.out, HC.out, HB.out⟩
          case rest =>
            obtain ⟨rfl, ha1, hd1, hc1, hb1⟩ := hcut
            clear HA HD HC HB
            have HA := Lib.hid ha1; have HD := Lib.hid hd1; have HC := Lib.hid hc1; have HB := Lib.hid hb1
            clear ha1 hd1 hc1 hb1
            go_upto_region 6 with (fail)
            go_cut [64] (fun c wx => c = .bool false ∧ HeldV wx w0.heap.size k n s ∧ HeldV wx (w0.heap.size + 1) k1 n1 s1 ∧ HeldT wx (w0.heap.size + 1 + 1) t m ∧ Rb w0 wx)
            case first =>
              cases hf : fitsB k n s.data.toList t m
              · have HX := Lib.hid hf
                refine wp_region_plain_specs (R := Rb) (S := [Spec.eq (vv (k) (n) (s)), Spec.eq (tv (t) (m)), Spec.eq (.bool false), Spec.eq (.bool false), Spec.eq (undef), Spec.eq (undef), Spec.eq (undef), Spec.eq (undef), Spec.eq (undef), Spec.eq (undef), Spec.eq (undef), Spec.eq (undef), Spec.eq (undef), Spec.eq (undef), Spec.eq (.bool false)]) (n := 1) (size := 77) Rb.trans (Rb.refl _) rfl (by kernel_rfl) ?owed ?fin
                case owed =>
                  refine Owed.cons ?_ ?_
                  · -- 0: slot 50 := Op.load 23 (Operand.tmp 3)
                    intro a w hR F
                    have e3 : a.eval (.tmp 3) = .pointer (some ⟨w0.heap.size, 0, none⟩) := F.old 3 (by kernel_rfl)
                    exact ok_load _ _ rfl (wanted_none rfl) e3 (HA.out.rb hR).load ⟨Rb.refl _, rfl⟩
                  refine Owed.cons ?_ ?_
                  · -- 1: slot 51 := Op.load 25 (Operand.tmp 5)
                    intro a w hR F
                    have e5 : a.eval (.tmp 5) = .pointer (some ⟨w0.heap.size + 1 + 1, 0, none⟩) := F.old 5 (by kernel_rfl)
                    exact ok_load _ _ rfl (wanted_none rfl) e5 (HC.out.rb hR).load ⟨Rb.refl _, rfl⟩
                  refine Owed.cons ?_ ?_
                  · -- 2: slot 52 := Op.call { callee := Callee.value (Operand.func 17), args := #[Operand.tmp 50, Operand.tmp 51], argTy
                    intro a w hR F
                    have e50 : a.eval (.tmp 50) = vv (k) (n) (s) := F.new 0 50 (by kernel_rfl)
                    have e51 : a.eval (.tmp 51) = tv (t) (m) := F.new 1 51 (by kernel_rfl)
                    refine ok_call 17 _ _ #[vv (k) (n) (s), tv (t) (m)] rfl (wanted_none rfl) (by simp [e50, e51]) (Tryd.call17 _ _) ?_
                    exact val_call_below (fits_is k n s t m w hs hf)
                  refine Owed.cons ?_ ?_
                  · -- 3: slot 53 := Op.move (Operand.tmp 52)
                    intro a w hR F
                    have e52 : a.eval (.tmp 52) = .bool false := F.new 2 52 (by kernel_rfl)
                    exact ok_move _ rfl (wanted_none rfl) ⟨Rb.refl _, e52⟩
                  refine Owed.cons ?_ ?_
                  · -- 4: slot 54 := Op.load 23 (Operand.tmp 3)
                    intro a w hR F
                    have e53 : a.eval (.tmp 53) = .bool false := F.new 3 53 (by kernel_rfl)
                    exact ok_skip (wanted_false (j := 3) (d := 53) rfl (by kernel_rfl) e53) ⟨Rb.refl _, rfl⟩
                  refine Owed.cons ?_ ?_
                  · -- 5: slot 55 := Op.call { callee := Callee.value (Operand.func 11), args := #[Operand.tmp 54], argTypes := #[23] }
                    intro a w hR F
                    have e53 : a.eval (.tmp 53) = .bool false := F.new 3 53 (by kernel_rfl)
                    exact ok_skip (wanted_false (j := 3) (d := 53) rfl (by kernel_rfl) e53) ⟨Rb.refl _, rfl⟩
                  refine Owed.cons ?_ ?_
                  · -- 6: slot 56 := Op.unOp UnOp.not 4 (Operand.tmp 55)
                    intro a w hR F
                    have e53 : a.eval (.tmp 53) = .bool false := F.new 3 53 (by kernel_rfl)
                    exact ok_skip (wanted_false (j := 3) (d := 53) rfl (by kernel_rfl) e53) ⟨Rb.refl _, rfl⟩
                  refine Owed.cons ?_ ?_
                  · -- 7: slot 57 := Op.move (Operand.tmp 56)
                    intro a w hR F
                    have e53 : a.eval (.tmp 53) = .bool false := F.new 3 53 (by kernel_rfl)
                    exact ok_skip (wanted_false (j := 3) (d := 53) rfl (by kernel_rfl) e53) ⟨Rb.refl _, rfl⟩
                  refine Owed.cons ?_ ?_
                  · -- 8: slot 58 := Op.fieldAddr 23 (Operand.tmp 3) 0
                    intro a w hR F
                    have e57 : a.eval (.tmp 57) = undef := F.new 7 57 (by kernel_rfl)
                    exact ok_skip (wanted_undef (j := 7) (d := 57) rfl (by kernel_rfl) e57) ⟨Rb.refl _, rfl⟩
                  refine Owed.cons ?_ ?_
                  · -- 9: slot 59 := Op.load 3 (Operand.tmp 58)
                    intro a w hR F
                    have e57 : a.eval (.tmp 57) = undef := F.new 7 57 (by kernel_rfl)
                    exact ok_skip (wanted_undef (j := 7) (d := 57) rfl (by kernel_rfl) e57) ⟨Rb.refl _, rfl⟩
                  refine Owed.cons ?_ ?_
                  · -- 10: slot 60 := Op.fieldAddr 25 (Operand.tmp 5) 0
                    intro a w hR F
                    have e57 : a.eval (.tmp 57) = undef := F.new 7 57 (by kernel_rfl)
                    exact ok_skip (wanted_undef (j := 7) (d := 57) rfl (by kernel_rfl) e57) ⟨Rb.refl _, rfl⟩
                  refine Owed.cons ?_ ?_
                  · -- 11: slot 61 := Op.load 3 (Operand.tmp 60)
                    intro a w hR F
                    have e57 : a.eval (.tmp 57) = undef := F.new 7 57 (by kernel_rfl)
                    exact ok_skip (wanted_undef (j := 7) (d := 57) rfl (by kernel_rfl) e57) ⟨Rb.refl _, rfl⟩
                  refine Owed.cons ?_ ?_
                  · -- 12: slot 62 := Op.binOp BinOp.neq 3 (Operand.tmp 59) (Operand.tmp 61) 3
                    intro a w hR F
                    have e57 : a.eval (.tmp 57) = undef := F.new 7 57 (by kernel_rfl)
                    exact ok_skip (wanted_undef (j := 7) (d := 57) rfl (by kernel_rfl) e57) ⟨Rb.refl _, rfl⟩
                  refine Owed.cons ?_ ?_
                  · -- 13: slot 63 := Op.pick (Operand.tmp 57) (Operand.const (Value.bool true)) (Operand.tmp 62)
                    intro a w hR F
                    have e53 : a.eval (.tmp 53) = .bool false := F.new 3 53 (by kernel_rfl)
                    exact ok_skip (wanted_false (j := 3) (d := 53) rfl (by kernel_rfl) e53) ⟨Rb.refl _, rfl⟩
                  refine Owed.cons ?_ ?_
                  · -- 14: slot 64 := Op.pick (Operand.tmp 53) (Operand.tmp 63) (Operand.const (Value.bool false))
                    intro a w hR F
                    have e53 : a.eval (.tmp 53) = .bool false := F.new 3 53 (by kernel_rfl)
                    exact ok_pick _ _ _ false rfl (wanted_none rfl) e53 ⟨Rb.refl _, rfl⟩
                  exact Owed.nil
                case fin =>
                  intro y w hR hy
                  have e14 : y 14 = .bool false := hy 14 _ rfl
                  have HA := Lib.hid (HA.out.rb hR)
                  have HD := Lib.hid (HD.out.rb hR)
                  have HC := Lib.hid (HC.out.rb hR)
                  have HB := Lib.hid (Rb.trans _ _ _ HB.out hR)
                  clear hy hR
                  simp only [putAll, Act.put, List.setIfInBounds_toArray, List.set_cons_zero, List.set_cons_succ]
                  rw [e14]
                  clear e14
                  go_wp2_with fail
                  go_meet
                  exact ⟨rfl, HA.out, HD.out, HC.out, HB.out⟩
              · have HX := Lib.hid hf
                refine wp_region_plain_specs (R := Rb) (S := [Spec.eq (vv (k) (n) (s)), Spec.eq (tv (t) (m)), Spec.eq (.bool true), Spec.eq (.bool true), Spec.eq (vv (k) (n) (s)), Spec.eq (.bool true), Spec.eq (.bool false), Spec.eq (.bool false), Spec.eq (.pointer (some ⟨w0.heap.size, 0, none⟩)), Spec.eq (.int .i64 (k)), Spec.eq (.pointer (some ⟨w0.heap.size + 1 + 1, 0, none⟩)), Spec.eq (.int .i64 (t)), Spec.eq (.bool false), Spec.eq (.bool false), Spec.eq (.bool false)]) (n := 1) (size := 77) Rb.trans (Rb.refl _) rfl (by kernel_rfl) ?owed ?fin
                case owed =>
                  refine Owed.cons ?_ ?_
                  · -- 0: slot 50 := Op.load 23 (Operand.tmp 3)
                    intro a w hR F
                    have e3 : a.eval (.tmp 3) = .pointer (some ⟨w0.heap.size, 0, none⟩) := F.old 3 (by kernel_rfl)
                    exact ok_load _ _ rfl (wanted_none rfl) e3 (HA.out.rb hR).load ⟨Rb.refl _, rfl⟩
                  refine Owed.cons ?_ ?_
                  · -- 1: slot 51 := Op.load 25 (Operand.tmp 5)
                    intro a w hR F
                    have e5 : a.eval (.tmp 5) = .pointer (some ⟨w0.heap.size + 1 + 1, 0, none⟩) := F.old 5 (by kernel_rfl)
                    exact ok_load _ _ rfl (wanted_none rfl) e5 (HC.out.rb hR).load ⟨Rb.refl _, rfl⟩
                  refine Owed.cons ?_ ?_
                  · -- 2: slot 52 := Op.call { callee := Callee.value (Operand.func 17), args := #[Operand.tmp 50, Operand.tmp 51], argTy
                    intro a w hR F
                    have e50 : a.eval (.tmp 50) = vv (k) (n) (s) := F.new 0 50 (by kernel_rfl)
                    have e51 : a.eval (.tmp 51) = tv (t) (m) := F.new 1 51 (by kernel_rfl)
                    refine ok_call 17 _ _ #[vv (k) (n) (s), tv (t) (m)] rfl (wanted_none rfl) (by simp [e50, e51]) (Tryd.call17 _ _) ?_
                    exact val_call_below (fits_is k n s t m w hs hf)
                  refine Owed.cons ?_ ?_
                  · -- 3: slot 53 := Op.move (Operand.tmp 52)
                    intro a w hR F
                    have e52 : a.eval (.tmp 52) = .bool true := F.new 2 52 (by kernel_rfl)
                    exact ok_move _ rfl (wanted_none rfl) ⟨Rb.refl _, e52⟩
                  refine Owed.cons ?_ ?_
                  · -- 4: slot 54 := Op.load 23 (Operand.tmp 3)
                    intro a w hR F
                    have e53 : a.eval (.tmp 53) = .bool true := F.new 3 53 (by kernel_rfl)
                    have e3 : a.eval (.tmp 3) = .pointer (some ⟨w0.heap.size, 0, none⟩) := F.old 3 (by kernel_rfl)
                    exact ok_load _ _ rfl (wanted_true (j := 3) (d := 53) rfl (by kernel_rfl) e53) e3 (HA.out.rb hR).load ⟨Rb.refl _, rfl⟩
                  refine Owed.cons ?_ ?_
                  · -- 5: slot 55 := Op.call { callee := Callee.value (Operand.func 11), args := #[Operand.tmp 54], argTypes := #[23] }
                    intro a w hR F
                    have e53 : a.eval (.tmp 53) = .bool true := F.new 3 53 (by kernel_rfl)
                    have e54 : a.eval (.tmp 54) = vv (k) (n) (s) := F.new 4 54 (by kernel_rfl)
                    refine ok_call 11 _ _ #[vv (k) (n) (s)] rfl (wanted_true (j := 3) (d := 53) rfl (by kernel_rfl) e53) (by simp [e54]) (Tryd.call11 _ _) ?_
                    exact val_call_below (right_is k n s w hs (fits_right hf).1)
                  refine Owed.cons ?_ ?_
                  · -- 6: slot 56 := Op.unOp UnOp.not 4 (Operand.tmp 55)
                    intro a w hR F
                    have e53 : a.eval (.tmp 53) = .bool true := F.new 3 53 (by kernel_rfl)
                    have e55 : a.eval (.tmp 55) = .bool true := F.new 5 55 (by kernel_rfl)
                    exact ok_not _ _ true rfl (wanted_true (j := 3) (d := 53) rfl (by kernel_rfl) e53) e55 ⟨Rb.refl _, rfl⟩
                  refine Owed.cons ?_ ?_
                  · -- 7: slot 57 := Op.move (Operand.tmp 56)
                    intro a w hR F
                    have e53 : a.eval (.tmp 53) = .bool true := F.new 3 53 (by kernel_rfl)
                    have e56 : a.eval (.tmp 56) = .bool false := F.new 6 56 (by kernel_rfl)
                    exact ok_move _ rfl (wanted_true (j := 3) (d := 53) rfl (by kernel_rfl) e53) ⟨Rb.refl _, e56⟩
                  refine Owed.cons ?_ ?_
                  · -- 8: slot 58 := Op.fieldAddr 23 (Operand.tmp 3) 0
                    intro a w hR F
                    have e57 : a.eval (.tmp 57) = .bool false := F.new 7 57 (by kernel_rfl)
                    have e3 : a.eval (.tmp 3) = .pointer (some ⟨w0.heap.size, 0, none⟩) := F.old 3 (by kernel_rfl)
                    exact ok_field _ 0 _ (by decide) rfl (wanted_true (j := 7) (d := 57) rfl (by kernel_rfl) e57) e3 ⟨Rb.refl _, rfl⟩
                  refine Owed.cons ?_ ?_
                  · -- 9: slot 59 := Op.load 3 (Operand.tmp 58)
                    intro a w hR F
                    have e57 : a.eval (.tmp 57) = .bool false := F.new 7 57 (by kernel_rfl)
                    have e58 : a.eval (.tmp 58) = .pointer (some ⟨w0.heap.size, 0, none⟩) := F.new 8 58 (by kernel_rfl)
                    exact ok_load _ _ rfl (wanted_true (j := 7) (d := 57) rfl (by kernel_rfl) e57) e58 (HA.out.rb hR).f0 ⟨Rb.refl _, rfl⟩
                  refine Owed.cons ?_ ?_
                  · -- 10: slot 60 := Op.fieldAddr 25 (Operand.tmp 5) 0
                    intro a w hR F
                    have e57 : a.eval (.tmp 57) = .bool false := F.new 7 57 (by kernel_rfl)
                    have e5 : a.eval (.tmp 5) = .pointer (some ⟨w0.heap.size + 1 + 1, 0, none⟩) := F.old 5 (by kernel_rfl)
                    exact ok_field _ 0 _ (by decide) rfl (wanted_true (j := 7) (d := 57) rfl (by kernel_rfl) e57) e5 ⟨Rb.refl _, rfl⟩
                  refine Owed.cons ?_ ?_
                  · -- 11: slot 61 := Op.load 3 (Operand.tmp 60)
                    intro a w hR F
                    have e57 : a.eval (.tmp 57) = .bool false := F.new 7 57 (by kernel_rfl)
                    have e60 : a.eval (.tmp 60) = .pointer (some ⟨w0.heap.size + 1 + 1, 0, none⟩) := F.new 10 60 (by kernel_rfl)
                    exact ok_load _ _ rfl (wanted_true (j := 7) (d := 57) rfl (by kernel_rfl) e57) e60 (HC.out.rb hR).f0 ⟨Rb.refl _, rfl⟩
                  refine Owed.cons ?_ ?_
                  · -- 12: slot 62 := Op.binOp BinOp.neq 3 (Operand.tmp 59) (Operand.tmp 61) 3
                    intro a w hR F
                    have e57 : a.eval (.tmp 57) = .bool false := F.new 7 57 (by kernel_rfl)
                    have e59 : a.eval (.tmp 59) = .int .i64 (k) := F.new 9 59 (by kernel_rfl)
                    have e61 : a.eval (.tmp 61) = .int .i64 (t) := F.new 11 61 (by kernel_rfl)
                    refine ok_bin _ _ _ _ _ rfl (wanted_true (j := 7) (d := 57) rfl (by kernel_rfl) e57) e59 e61 (run_neq_int _ _ _ _ _ _) ⟨Rb.refl _, ?_⟩
                    exact congrArg Value.bool (by rw [(fits_right hf).2]; simp)
                  refine Owed.cons ?_ ?_
                  · -- 13: slot 63 := Op.pick (Operand.tmp 57) (Operand.const (Value.bool true)) (Operand.tmp 62)
                    intro a w hR F
                    have e53 : a.eval (.tmp 53) = .bool true := F.new 3 53 (by kernel_rfl)
                    have e57 : a.eval (.tmp 57) = .bool false := F.new 7 57 (by kernel_rfl)
                    have e62 : a.eval (.tmp 62) = .bool false := F.new 12 62 (by kernel_rfl)
                    exact ok_pick _ _ _ false rfl (wanted_true (j := 3) (d := 53) rfl (by kernel_rfl) e53) e57 ⟨Rb.refl _, e62⟩
                  refine Owed.cons ?_ ?_
                  · -- 14: slot 64 := Op.pick (Operand.tmp 53) (Operand.tmp 63) (Operand.const (Value.bool false))
                    intro a w hR F
                    have e53 : a.eval (.tmp 53) = .bool true := F.new 3 53 (by kernel_rfl)
                    have e63 : a.eval (.tmp 63) = .bool false := F.new 13 63 (by kernel_rfl)
                    exact ok_pick _ _ _ true rfl (wanted_none rfl) e53 ⟨Rb.refl _, e63⟩
                  exact Owed.nil
                case fin =>
                  intro y w hR hy
                  have e14 : y 14 = .bool false := hy 14 _ rfl
                  have HA := Lib.hid (HA.out.rb hR)
                  have HD := Lib.hid (HD.out.rb hR)
                  have HC := Lib.hid (HC.out.rb hR)
                  have HB := Lib.hid (Rb.trans _ _ _ HB.out hR)
                  clear hy hR
                  simp only [putAll, Act.put, List.setIfInBounds_toArray, List.set_cons_zero, List.set_cons_succ]
                  rw [e14]
                  clear e14
                  go_wp2_with fail
                  go_meet
                  exact ⟨rfl, HA.out, HD.out, HC.out, HB.out⟩
            case rest =>
              obtain ⟨rfl, ha1, hd1, hc1, hb1⟩ := hcut
              clear HA HD HC HB
              have HA := Lib.hid ha1; have HD := Lib.hid hd1; have HC := Lib.hid hc1; have HB := Lib.hid hb1
              clear ha1 hd1 hc1 hb1
              go_upto_region 8 with (fail)
              cases ht : rightTypeB t m
              · have HX := Lib.hid ht
                refine wp_region_specs (R := Rb) (S := [Spec.eq (tv (t) (m)), Spec.eq (.bool false), Spec.eq (.bool true), Spec.eq (.bool true), Spec.eq (undef), Spec.eq (undef), Spec.eq (undef), Spec.eq (undef), Spec.eq (.bool true), Spec.eq (.bool true), Spec.eq (.bool true), Spec.eq (.bool true), Spec.eq (.bool true)]) (n := 1) (size := 77) (by kernel_rfl) Rb.trans (Rb.drew _) rfl (by kernel_rfl) ?owed ?fin
                case owed =>
                  refine Owed.cons ?_ ?_
                  · -- 0: slot 65 := Op.load 25 (Operand.tmp 5)
                    intro a w hR F
                    have e5 : a.eval (.tmp 5) = .pointer (some ⟨w0.heap.size + 1 + 1, 0, none⟩) := F.old 5 (by kernel_rfl)
                    exact ok_load _ _ rfl (wanted_none rfl) e5 (HC.out.rb hR).load ⟨Rb.refl _, rfl⟩
                  refine Owed.cons ?_ ?_
                  · -- 1: slot 66 := Op.call { callee := Callee.value (Operand.func 13), args := #[Operand.tmp 65], argTypes := #[25] }
                    intro a w hR F
                    have e65 : a.eval (.tmp 65) = tv (t) (m) := F.new 0 65 (by kernel_rfl)
                    refine ok_call 13 _ _ #[tv (t) (m)] rfl (wanted_none rfl) (by simp [e65]) (Tryd.call13 _ _) ?_
                    exact val_call_below (righttype_is t m w ht)
                  refine Owed.cons ?_ ?_
                  · -- 2: slot 67 := Op.unOp UnOp.not 4 (Operand.tmp 66)
                    intro a w hR F
                    have e66 : a.eval (.tmp 66) = .bool false := F.new 1 66 (by kernel_rfl)
                    exact ok_not _ _ false rfl (wanted_none rfl) e66 ⟨Rb.refl _, rfl⟩
                  refine Owed.cons ?_ ?_
                  · -- 3: slot 68 := Op.move (Operand.tmp 67)
                    intro a w hR F
                    have e67 : a.eval (.tmp 67) = .bool true := F.new 2 67 (by kernel_rfl)
                    exact ok_move _ rfl (wanted_none rfl) ⟨Rb.refl _, e67⟩
                  refine Owed.cons ?_ ?_
                  · -- 4: slot 69 := Op.load 25 (Operand.tmp 5)
                    intro a w hR F
                    have e68 : a.eval (.tmp 68) = .bool true := F.new 3 68 (by kernel_rfl)
                    exact ok_skip (wanted_false (j := 3) (d := 68) rfl (by kernel_rfl) e68) ⟨Rb.refl _, rfl⟩
                  refine Owed.cons ?_ ?_
                  · -- 5: slot 70 := Op.call { callee := Callee.value (Operand.func 15), args := #[Operand.tmp 69], argTypes := #[25] }
                    intro a w hR F
                    have e68 : a.eval (.tmp 68) = .bool true := F.new 3 68 (by kernel_rfl)
                    exact ok_skip (wanted_false (j := 3) (d := 68) rfl (by kernel_rfl) e68) ⟨Rb.refl _, rfl⟩
                  refine Owed.cons ?_ ?_
                  · -- 6: slot 71 := Op.load 25 (Operand.tmp 5)
                    intro a w hR F
                    have e68 : a.eval (.tmp 68) = .bool true := F.new 3 68 (by kernel_rfl)
                    exact ok_skip (wanted_false (j := 3) (d := 68) rfl (by kernel_rfl) e68) ⟨Rb.refl _, rfl⟩
                  refine Owed.cons ?_ ?_
                  · -- 7: slot 72 := Op.call { callee := Callee.value (Operand.func 17), args := #[Operand.tmp 70, Operand.tmp 71], argTy
                    intro a w hR F
                    have e68 : a.eval (.tmp 68) = .bool true := F.new 3 68 (by kernel_rfl)
                    exact ok_skip (wanted_false (j := 3) (d := 68) rfl (by kernel_rfl) e68) ⟨Rb.refl _, rfl⟩
                  refine Owed.cons ?_ ?_
                  · -- 8: slot 73 := Op.pick (Operand.tmp 68) (Operand.const (Value.bool true)) (Operand.tmp 72)
                    intro a w hR F
                    have e68 : a.eval (.tmp 68) = .bool true := F.new 3 68 (by kernel_rfl)
                    exact ok_pick _ _ _ true rfl (wanted_none rfl) e68 ⟨Rb.refl _, rfl⟩
                  refine Owed.cons ?_ ?_
                  · -- 9: slot 74 := Op.move (Operand.tmp 73)
                    intro a w hR F
                    have e73 : a.eval (.tmp 73) = .bool true := F.new 8 73 (by kernel_rfl)
                    exact ok_move _ rfl (wanted_none rfl) ⟨Rb.refl _, e73⟩
                  refine Owed.cons ?_ ?_
                  · -- 10: slot 75 := Op.call { callee := Callee.value (Operand.func 10), args := #[], argTypes := #[] }
                    intro a w hR F
                    have e74 : a.eval (.tmp 74) = .bool true := F.new 9 74 (by kernel_rfl)
                    refine ok_call 10 _ _ #[] rfl (wanted_true (j := 9) (d := 74) rfl (by kernel_rfl) e74) (by simp) (Tryd.call10 _ _) ?_
                    exact val_call_below (lives_any w (HT.out.rb (Rb.trans _ _ _ HB.out hR)))
                  refine Owed.cons ?_ ?_
                  · -- 11: slot 76 := Op.pick (Operand.tmp 74) (Operand.tmp 75) (Operand.const (Value.bool false))
                    intro a w hR F
                    have e74 : a.eval (.tmp 74) = .bool true := F.new 9 74 (by kernel_rfl)
                    have e75 : a.eval (.tmp 75) = .bool true := F.new 10 75 (by kernel_rfl)
                    exact ok_pick _ _ _ true rfl (wanted_none rfl) e74 ⟨Rb.refl _, e75⟩
                  refine Owed.cons ?_ ?_
                  · -- 12: slot 6 := Op.assign (Operand.tmp 76)
                    intro a w hR F
                    have e76 : a.eval (.tmp 76) = .bool true := F.new 11 76 (by kernel_rfl)
                    exact ok_assign _ rfl (wanted_none rfl) ⟨Rb.refl _, e76⟩
                  exact Owed.nil
                case fin =>
                  intro y w hR hy
                  have e12 : y 12 = .bool true := hy 12 _ rfl
                  have HB := Lib.hid (Rb.trans _ _ _ HB.out hR)
                  clear hy hR
                  simp only [putAll, Act.put, List.setIfInBounds_toArray, List.set_cons_zero, List.set_cons_succ]
                  rw [e12]
                  clear e12
                  go_wp2
                  go_ret
                  exact ⟨rfl, HB.out⟩
              · have HX := Lib.hid ht
                refine wp_region_specs (R := Rb) (S := [Spec.eq (tv (t) (m)), Spec.eq (.bool true), Spec.eq (.bool false), Spec.eq (.bool false), Spec.eq (tv (t) (m)), Spec.eq (vv (t) (0) (⟨#[]⟩)), Spec.eq (tv (t) (m)), Spec.eq (.bool true), Spec.eq (.bool true), Spec.eq (.bool true), Spec.eq (.bool true), Spec.eq (.bool true), Spec.eq (.bool true)]) (n := 1) (size := 77) (by kernel_rfl) Rb.trans (Rb.drew _) rfl (by kernel_rfl) ?owed ?fin
                case owed =>
                  refine Owed.cons ?_ ?_
                  · -- 0: slot 65 := Op.load 25 (Operand.tmp 5)
                    intro a w hR F
                    have e5 : a.eval (.tmp 5) = .pointer (some ⟨w0.heap.size + 1 + 1, 0, none⟩) := F.old 5 (by kernel_rfl)
                    exact ok_load _ _ rfl (wanted_none rfl) e5 (HC.out.rb hR).load ⟨Rb.refl _, rfl⟩
                  refine Owed.cons ?_ ?_
                  · -- 1: slot 66 := Op.call { callee := Callee.value (Operand.func 13), args := #[Operand.tmp 65], argTypes := #[25] }
                    intro a w hR F
                    have e65 : a.eval (.tmp 65) = tv (t) (m) := F.new 0 65 (by kernel_rfl)
                    refine ok_call 13 _ _ #[tv (t) (m)] rfl (wanted_none rfl) (by simp [e65]) (Tryd.call13 _ _) ?_
                    exact val_call_below (righttype_is t m w ht)
                  refine Owed.cons ?_ ?_
                  · -- 2: slot 67 := Op.unOp UnOp.not 4 (Operand.tmp 66)
                    intro a w hR F
                    have e66 : a.eval (.tmp 66) = .bool true := F.new 1 66 (by kernel_rfl)
                    exact ok_not _ _ true rfl (wanted_none rfl) e66 ⟨Rb.refl _, rfl⟩
                  refine Owed.cons ?_ ?_
                  · -- 3: slot 68 := Op.move (Operand.tmp 67)
                    intro a w hR F
                    have e67 : a.eval (.tmp 67) = .bool false := F.new 2 67 (by kernel_rfl)
                    exact ok_move _ rfl (wanted_none rfl) ⟨Rb.refl _, e67⟩
                  refine Owed.cons ?_ ?_
                  · -- 4: slot 69 := Op.load 25 (Operand.tmp 5)
                    intro a w hR F
                    have e68 : a.eval (.tmp 68) = .bool false := F.new 3 68 (by kernel_rfl)
                    have e5 : a.eval (.tmp 5) = .pointer (some ⟨w0.heap.size + 1 + 1, 0, none⟩) := F.old 5 (by kernel_rfl)
                    exact ok_load _ _ rfl (wanted_true (j := 3) (d := 68) rfl (by kernel_rfl) e68) e5 (HC.out.rb hR).load ⟨Rb.refl _, rfl⟩
                  refine Owed.cons ?_ ?_
                  · -- 5: slot 70 := Op.call { callee := Callee.value (Operand.func 15), args := #[Operand.tmp 69], argTypes := #[25] }
                    intro a w hR F
                    have e68 : a.eval (.tmp 68) = .bool false := F.new 3 68 (by kernel_rfl)
                    have e69 : a.eval (.tmp 69) = tv (t) (m) := F.new 4 69 (by kernel_rfl)
                    refine ok_call 15 _ _ #[tv (t) (m)] rfl (wanted_true (j := 3) (d := 68) rfl (by kernel_rfl) e68) (by simp [e69]) (Tryd.call15 _ _) ?_
                    exact val_call_below (zero_is t m w ht)
                  refine Owed.cons ?_ ?_
                  · -- 6: slot 71 := Op.load 25 (Operand.tmp 5)
                    intro a w hR F
                    have e68 : a.eval (.tmp 68) = .bool false := F.new 3 68 (by kernel_rfl)
                    have e5 : a.eval (.tmp 5) = .pointer (some ⟨w0.heap.size + 1 + 1, 0, none⟩) := F.old 5 (by kernel_rfl)
                    exact ok_load _ _ rfl (wanted_true (j := 3) (d := 68) rfl (by kernel_rfl) e68) e5 (HC.out.rb hR).load ⟨Rb.refl _, rfl⟩
                  refine Owed.cons ?_ ?_
                  · -- 7: slot 72 := Op.call { callee := Callee.value (Operand.func 17), args := #[Operand.tmp 70, Operand.tmp 71], argTy
                    intro a w hR F
                    have e68 : a.eval (.tmp 68) = .bool false := F.new 3 68 (by kernel_rfl)
                    have e70 : a.eval (.tmp 70) = vv (t) (0) (⟨#[]⟩) := F.new 5 70 (by kernel_rfl)
                    have e71 : a.eval (.tmp 71) = tv (t) (m) := F.new 6 71 (by kernel_rfl)
                    refine ok_call 17 _ _ #[vv (t) (0) (⟨#[]⟩), tv (t) (m)] rfl (wanted_true (j := 3) (d := 68) rfl (by kernel_rfl) e68) (by simp [e70, e71]) (Tryd.call17 _ _) ?_
                    exact val_call_below (fits_is t 0 ⟨#[]⟩ t m w (by decide) (zero_fits ht))
                  refine Owed.cons ?_ ?_
                  · -- 8: slot 73 := Op.pick (Operand.tmp 68) (Operand.const (Value.bool true)) (Operand.tmp 72)
                    intro a w hR F
                    have e68 : a.eval (.tmp 68) = .bool false := F.new 3 68 (by kernel_rfl)
                    have e72 : a.eval (.tmp 72) = .bool true := F.new 7 72 (by kernel_rfl)
                    exact ok_pick _ _ _ false rfl (wanted_none rfl) e68 ⟨Rb.refl _, e72⟩
                  refine Owed.cons ?_ ?_
                  · -- 9: slot 74 := Op.move (Operand.tmp 73)
                    intro a w hR F
                    have e73 : a.eval (.tmp 73) = .bool true := F.new 8 73 (by kernel_rfl)
                    exact ok_move _ rfl (wanted_none rfl) ⟨Rb.refl _, e73⟩
                  refine Owed.cons ?_ ?_
                  · -- 10: slot 75 := Op.call { callee := Callee.value (Operand.func 10), args := #[], argTypes := #[] }
                    intro a w hR F
                    have e74 : a.eval (.tmp 74) = .bool true := F.new 9 74 (by kernel_rfl)
                    refine ok_call 10 _ _ #[] rfl (wanted_true (j := 9) (d := 74) rfl (by kernel_rfl) e74) (by simp) (Tryd.call10 _ _) ?_
                    exact val_call_below (lives_any w (HT.out.rb (Rb.trans _ _ _ HB.out hR)))
                  refine Owed.cons ?_ ?_
                  · -- 11: slot 76 := Op.pick (Operand.tmp 74) (Operand.tmp 75) (Operand.const (Value.bool false))
                    intro a w hR F
                    have e74 : a.eval (.tmp 74) = .bool true := F.new 9 74 (by kernel_rfl)
                    have e75 : a.eval (.tmp 75) = .bool true := F.new 10 75 (by kernel_rfl)
                    exact ok_pick _ _ _ true rfl (wanted_none rfl) e74 ⟨Rb.refl _, e75⟩
                  refine Owed.cons ?_ ?_
                  · -- 12: slot 6 := Op.assign (Operand.tmp 76)
                    intro a w hR F
                    have e76 : a.eval (.tmp 76) = .bool true := F.new 11 76 (by kernel_rfl)
                    exact ok_assign _ rfl (wanted_none rfl) ⟨Rb.refl _, e76⟩
                  exact Owed.nil
                case fin =>
                  intro y w hR hy
                  have e12 : y 12 = .bool true := hy 12 _ rfl
                  have HB := Lib.hid (Rb.trans _ _ _ HB.out hR)
                  clear hy hR
                  simp only [putAll, Act.put, List.setIfInBounds_toArray, List.set_cons_zero, List.set_cons_succ]
                  rw [e12]
                  clear e12
                  go_wp2
                  go_ret
                  exact ⟨rfl, HB.out⟩
    · go_enter Tryd.func8, Tryd.ntmps8
      go_upto_region 1 with (fail)
      refine wp_region_plain_specs (R := Rb) (S := [Spec.eq (vv (k) (n) (s)), Spec.eq (.bool true), Spec.eq (.bool false), Spec.eq (.bool false), Spec.eq (vv (k1) (n1) (s1)), Spec.eq (.bool false), Spec.eq (.bool true), Spec.eq (.bool true)]) (n := 1) (size := 77) Rb.trans (Rb.refl _) rfl (by kernel_rfl) ?owed ?fin
      case owed =>
        refine Owed.cons ?_ ?_
        · -- 0: slot 9 := Op.load 23 (Operand.tmp 3)
          intro a w hR F
          have e3 : a.eval (.tmp 3) = .pointer (some ⟨w0.heap.size, 0, none⟩) := F.old 3 (by kernel_rfl)
          exact ok_load _ _ rfl (wanted_none rfl) e3 (HA.out.rb hR).load ⟨Rb.refl _, rfl⟩
        refine Owed.cons ?_ ?_
        · -- 1: slot 10 := Op.call { callee := Callee.value (Operand.func 9), args := #[Operand.tmp 9], argTypes := #[23] }
          intro a w hR F
          have e9 : a.eval (.tmp 9) = vv (k) (n) (s) := F.new 0 9 (by kernel_rfl)
          refine ok_call 9 _ _ #[vv (k) (n) (s)] rfl (wanted_none rfl) (by simp [e9]) (Tryd.call9 _ _) ?_
          exact val_call_below (light_yes k n s w hs ha)
        refine Owed.cons ?_ ?_
        · -- 2: slot 11 := Op.unOp UnOp.not 4 (Operand.tmp 10)
          intro a w hR F
          have e10 : a.eval (.tmp 10) = .bool true := F.new 1 10 (by kernel_rfl)
          exact ok_not _ _ true rfl (wanted_none rfl) e10 ⟨Rb.refl _, rfl⟩
        refine Owed.cons ?_ ?_
        · -- 3: slot 12 := Op.move (Operand.tmp 11)
          intro a w hR F
          have e11 : a.eval (.tmp 11) = .bool false := F.new 2 11 (by kernel_rfl)
          exact ok_move _ rfl (wanted_none rfl) ⟨Rb.refl _, e11⟩
        refine Owed.cons ?_ ?_
        · -- 4: slot 13 := Op.load 23 (Operand.tmp 4)
          intro a w hR F
          have e12 : a.eval (.tmp 12) = .bool false := F.new 3 12 (by kernel_rfl)
          have e4 : a.eval (.tmp 4) = .pointer (some ⟨w0.heap.size + 1, 0, none⟩) := F.old 4 (by kernel_rfl)
          exact ok_load _ _ rfl (wanted_true (j := 3) (d := 12) rfl (by kernel_rfl) e12) e4 (HD.out.rb hR).load ⟨Rb.refl _, rfl⟩
        refine Owed.cons ?_ ?_
        · -- 5: slot 14 := Op.call { callee := Callee.value (Operand.func 9), args := #[Operand.tmp 13], argTypes := #[23] }
          intro a w hR F
          have e12 : a.eval (.tmp 12) = .bool false := F.new 3 12 (by kernel_rfl)
          have e13 : a.eval (.tmp 13) = vv (k1) (n1) (s1) := F.new 4 13 (by kernel_rfl)
          refine ok_call 9 _ _ #[vv (k1) (n1) (s1)] rfl (wanted_true (j := 3) (d := 12) rfl (by kernel_rfl) e12) (by simp [e13]) (Tryd.call9 _ _) ?_
          exact val_call_below (light_no k1 n1 s1 w hs1 hb)
        refine Owed.cons ?_ ?_
        · -- 6: slot 15 := Op.unOp UnOp.not 4 (Operand.tmp 14)
          intro a w hR F
          have e12 : a.eval (.tmp 12) = .bool false := F.new 3 12 (by kernel_rfl)
          have e14 : a.eval (.tmp 14) = .bool false := F.new 5 14 (by kernel_rfl)
          exact ok_not _ _ false rfl (wanted_true (j := 3) (d := 12) rfl (by kernel_rfl) e12) e14 ⟨Rb.refl _, rfl⟩
        refine Owed.cons ?_ ?_
        · -- 7: slot 16 := Op.pick (Operand.tmp 12) (Operand.const (Value.bool true)) (Operand.tmp 15)
          intro a w hR F
          have e12 : a.eval (.tmp 12) = .bool false := F.new 3 12 (by kernel_rfl)
          have e15 : a.eval (.tmp 15) = .bool true := F.new 6 15 (by kernel_rfl)
          exact ok_pick _ _ _ false rfl (wanted_none rfl) e12 ⟨Rb.refl _, e15⟩
        exact Owed.nil
      case fin =>
        intro y w hR hy
        have e7 : y 7 = .bool true := hy 7 _ rfl
        have HA := Lib.hid (HA.out.rb hR)
        have HD := Lib.hid (HD.out.rb hR)
        have HC := Lib.hid (HC.out.rb hR)
        have HB := Lib.hid (Rb.trans _ _ _ HB.out hR)
        clear hy hR
        simp only [putAll, Act.put, List.setIfInBounds_toArray, List.set_cons_zero, List.set_cons_succ]
        rw [e7]
        clear e7
        go_wp2_with fail
        refine (lives_any _ (HT.out.rb HB.out)).mono ?_
        rintro e w1 ⟨rfl, hb⟩
        have HB := Lib.hid (Rb.trans _ _ _ HB.out hb)
        clear hb
        go_wp2
        go_ret
        exact ⟨rfl, HB.out⟩
  · go_enter Tryd.func8, Tryd.ntmps8
    go_upto_region 1 with (fail)
    refine wp_region_plain_specs (R := Rb) (S := [Spec.eq (vv (k) (n) (s)), Spec.eq (.bool false), Spec.eq (.bool true), Spec.eq (.bool true), Spec.eq (undef), Spec.eq (undef), Spec.eq (undef), Spec.eq (.bool true)]) (n := 1) (size := 77) Rb.trans (Rb.refl _) rfl (by kernel_rfl) ?owed ?fin
    case owed =>
      refine Owed.cons ?_ ?_
      · -- 0: slot 9 := Op.load 23 (Operand.tmp 3)
        intro a w hR F
        have e3 : a.eval (.tmp 3) = .pointer (some ⟨w0.heap.size, 0, none⟩) := F.old 3 (by kernel_rfl)
        exact ok_load _ _ rfl (wanted_none rfl) e3 (HA.out.rb hR).load ⟨Rb.refl _, rfl⟩
      refine Owed.cons ?_ ?_
      · -- 1: slot 10 := Op.call { callee := Callee.value (Operand.func 9), args := #[Operand.tmp 9], argTypes := #[23] }
        intro a w hR F
        have e9 : a.eval (.tmp 9) = vv (k) (n) (s) := F.new 0 9 (by kernel_rfl)
        refine ok_call 9 _ _ #[vv (k) (n) (s)] rfl (wanted_none rfl) (by simp [e9]) (Tryd.call9 _ _) ?_
        exact val_call_below (light_no k n s w hs ha)
      refine Owed.cons ?_ ?_
      · -- 2: slot 11 := Op.unOp UnOp.not 4 (Operand.tmp 10)
        intro a w hR F
        have e10 : a.eval (.tmp 10) = .bool false := F.new 1 10 (by kernel_rfl)
        exact ok_not _ _ false rfl (wanted_none rfl) e10 ⟨Rb.refl _, rfl⟩
      refine Owed.cons ?_ ?_
      · -- 3: slot 12 := Op.move (Operand.tmp 11)
        intro a w hR F
        have e11 : a.eval (.tmp 11) = .bool true := F.new 2 11 (by kernel_rfl)
        exact ok_move _ rfl (wanted_none rfl) ⟨Rb.refl _, e11⟩
      refine Owed.cons ?_ ?_
      · -- 4: slot 13 := Op.load 23 (Operand.tmp 4)
        intro a w hR F
        have e12 : a.eval (.tmp 12) = .bool true := F.new 3 12 (by kernel_rfl)
        exact ok_skip (wanted_false (j := 3) (d := 12) rfl (by kernel_rfl) e12) ⟨Rb.refl _, rfl⟩
      refine Owed.cons ?_ ?_
      · -- 5: slot 14 := Op.call { callee := Callee.value (Operand.func 9), args := #[Operand.tmp 13], argTypes := #[23] }
        intro a w hR F
        have e12 : a.eval (.tmp 12) = .bool true := F.new 3 12 (by kernel_rfl)
        exact ok_skip (wanted_false (j := 3) (d := 12) rfl (by kernel_rfl) e12) ⟨Rb.refl _, rfl⟩
      refine Owed.cons ?_ ?_
      · -- 6: slot 15 := Op.unOp UnOp.not 4 (Operand.tmp 14)
        intro a w hR F
        have e12 : a.eval (.tmp 12) = .bool true := F.new 3 12 (by kernel_rfl)
        exact ok_skip (wanted_false (j := 3) (d := 12) rfl (by kernel_rfl) e12) ⟨Rb.refl _, rfl⟩
      refine Owed.cons ?_ ?_
      · -- 7: slot 16 := Op.pick (Operand.tmp 12) (Operand.const (Value.bool true)) (Operand.tmp 15)
        intro a w hR F
        have e12 : a.eval (.tmp 12) = .bool true := F.new 3 12 (by kernel_rfl)
        exact ok_pick _ _ _ true rfl (wanted_none rfl) e12 ⟨Rb.refl _, rfl⟩
      exact Owed.nil
    case fin =>
      intro y w hR hy
      have e7 : y 7 = .bool true := hy 7 _ rfl
      have HA := Lib.hid (HA.out.rb hR)
      have HD := Lib.hid (HD.out.rb hR)
      have HC := Lib.hid (HC.out.rb hR)
      have HB := Lib.hid (Rb.trans _ _ _ HB.out hR)
      clear hy hR
      simp only [putAll, Act.put, List.setIfInBounds_toArray, List.set_cons_zero, List.set_cons_succ]
      rw [e7]
      clear e7
      go_wp2_with fail
      refine (lives_any _ (HT.out.rb HB.out)).mono ?_
      rintro e w1 ⟨rfl, hb⟩
      have HB := Lib.hid (Rb.trans _ _ _ HB.out hb)
      clear hb
      go_wp2
      go_ret
      exact ⟨rfl, HB.out⟩
end Go.Proofs.YtefjfiihfbkjoaaDoor
