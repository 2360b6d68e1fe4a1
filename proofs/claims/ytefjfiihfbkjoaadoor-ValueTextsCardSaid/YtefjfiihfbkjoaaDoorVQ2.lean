/-
  Layer 2: the value of a text, by the document's own answer: the loop over a text in quotes.
-/
import Derived.Test.YtefjfiihfbkjoaaDoorVS2
import Derived.StillTailTactics
namespace Go.Proofs.YtefjfiihfbkjoaaDoor
open Go.ChangeShapes Go.WideShapes Go.ChangeAt Go.RowKit Oct By Reg Val

def unr (l : List UInt8) : Nat → Nat → List UInt8
  | 0, _ => []
  | f + 1, i => if i + 1 < l.length then (if l.getD i 0 = 92 ∧ i + 2 < l.length then l.getD (i + 1) 0 :: unr l f (i + 2) else l.getD i 0 :: unr l f (i + 1)) else []
def unrB (l : List UInt8) : List UInt8 := unr l l.length 1
theorem unr_end (l : List UInt8) (f i : Nat) (h : ¬ i + 1 < l.length) : unr l f i = [] := by
  cases f with
  | zero => rfl
  | succ f => rw [unr, if_neg h]

/-- the guess's value in a text's branch, while the loop runs -/
structure TextS (w wx : World) (k : Int) (s : ByteArray) : Prop where
  res : HeldV wx w.heap.size 0 0 ⟨#[]⟩
  var : HeldV wx (w.heap.size + 1) k 0 s
  fz : ∀ o, wx.frozen? ⟨w.heap.size, o, none⟩ = false ∧ wx.frozen? ⟨w.heap.size + 1, o, none⟩ = false
  below : Rb w wx
theorem TextS.rb {w wx w1 : World} {k : Int} {s : ByteArray} (h : TextS w wx k s) (hb : Below wx.heap.size wx w1) : TextS w w1 k s :=
  ⟨h.res.rb hb, h.var.rb hb, fun o => ⟨fz_rb hb h.res.1 (h.fz o).1, fz_rb hb h.var.1 (h.fz o).2⟩, Rb.trans _ _ _ h.below hb⟩
theorem TextS.set2 {w wx : World} {k : Int} {s : ByteArray} (h : TextS w wx k s) (t : ByteArray) : TextS w (wx.setCell ⟨w.heap.size + 1, 2, none⟩ (.string t)) k t :=
  ⟨setx_held h.res (by omega), set2_held h.var t, fun o => by simp [h.fz o], Below.setCell h.below (by simp) _⟩
theorem TextS.start (w : World) : TextS w ((w.alloc (.cells #[.int .i64 0, .int .i64 0, .string ⟨#[]⟩] 23)).alloc (.cells #[.int .i64 3, .int .i64 0, .string ⟨#[]⟩] 23)) 3 ⟨#[]⟩ := by
  have g := fun (w : World) (o : Obj) => (show Rb w (w.alloc o) from (Below.refl _ _).alloc (Nat.le_refl _) _)
  refine ⟨(HeldV.at w w.heap.size 0 0 ⟨#[]⟩ 23 rfl).rb (g _ _), HeldV.at _ _ 3 0 ⟨#[]⟩ 23 (by simp), fun o => ⟨?_, ?_⟩, Rb.trans _ _ _ (g _ _) (g _ _)⟩
  · exact fz_keep (cs := #[.int .i64 0, .int .i64 0, .string ⟨#[]⟩]) (T := 23) (w := w) (B := w.heap.size) (g _ _)
  · have h := fz_keep (cs := #[.int .i64 3, .int .i64 0, .string ⟨#[]⟩]) (T := 23) (w := w.alloc (.cells #[.int .i64 0, .int .i64 0, .string ⟨#[]⟩] 23)) (B := w.heap.size + 1) (o := o) (Below.refl _ _) (by simp)
    exact h

set_option maxRecDepth 100000 in
theorem refparse_text (s : ByteArray) (w0 : World) (hs : s.size ≤ 200) (h2 : 2 ≤ s.size) (hq : s.data.toList.getD 0 0 = 34) (ht : s.data.toList ≠ trueL) (hf : s.data.toList ≠ falseL) :
    Calls Tryd.prog 31 #[.string s] w0 fun e w' => e = .returned (.tuple #[vv 3 0 (str (unrB s.data.toList)), .bool (rightB 3 0 (unrB s.data.toList) && ((str (printV 3 0 (unrB s.data.toList))).toList == s.toList))]) ∧ Below w0.heap.size w0 w' := by
  have Hlen := Lib.hid (show s.data.toList.length = s.size from Array.length_toList)
  have h1 : (s.toList == [116, 114, 117, 101]) = false := by rw [ByteArray.toList_eq]; exact beq_eq_false_iff_ne.2 ht
  have h2' : (s.toList == [102, 97, 108, 115, 101]) = false := by rw [ByteArray.toList_eq]; exact beq_eq_false_iff_ne.2 hf
  have hgd : s.data.toList.getD 0 0 = s[0] := by
    rw [List.getD_eq_getElem?_getD, List.getElem?_eq_getElem (by rw [Array.length_toList]; show 0 < s.size; omega)]; rfl
  have h34 : ((s[0].toNat : Int) == 34) = true := by rw [← hgd, hq]; rfl
  have hst : Hid ([] ++ unr s.data.toList s.data.toList.length 1 = unrB s.data.toList) := rfl
  clear ht hf hgd hq
  go_enter Tryd.func31, Tryd.ntmps31
  go_wp2
  go_loopw [6] (fun i wr => ∃ (k f : Nat) (xs : List UInt8), 1 ≤ k ∧ k ≤ 300 ∧ i = .int .i64 (k : Int) ∧ xs.length ≤ k ∧ s.size ≤ f + k ∧ Hid (xs ++ unr s.data.toList f k = unrB s.data.toList) ∧ TextS w0 wr 3 (str xs)) (fun i _ => 400 - (intOf i).toNat)
  case atStart => exact ⟨1, s.data.toList.length, [], by omega, by omega, rfl, by simp, by rw [Hlen.out]; omega, hst, TextS.start w0⟩
  case round =>
    obtain ⟨k, f, xs, hk1, hk2, rfl, hxl, hf, hu, hS⟩ := hrel
    have HS := Lib.hid hS
    clear hS
    have z2 := HS.out.var.2.2
    have zf := fun o => (HS.out.fz o).2
    by_cases hlt : k + 1 < s.size
    · have hl : k < s.data.toList.length := by rw [Hlen.out]; omega
      have hl1 : k + 1 < s.data.toList.length := by rw [Hlen.out]; omega
      have hgd : s.data.toList.getD k 0 = s[k] := by
        rw [List.getD_eq_getElem?_getD, List.getElem?_eq_getElem hl]; rfl
      have hgd1 : s.data.toList.getD (k + 1) 0 = s[k + 1] := by
        rw [List.getD_eq_getElem?_getD, List.getElem?_eq_getElem hl1]; rfl
      obtain ⟨f', rfl⟩ : ∃ f', f = f' + 1 := ⟨f - 1, by omega⟩
      have hu2 := hu.out
      rw [unr, if_pos hl1, hgd, hgd1, Hlen.out] at hu2
      clear hu hgd hgd1
      have hlt' : k < s.size := by omega
      by_cases hq : s[k] = 92 ∧ k + 2 < s.size
      · obtain ⟨hq1, hq2⟩ := hq
        have hb1 : ((s[k].toNat : Int) == 92) = true := by rw [hq1]; rfl
        rw [if_pos ⟨hq1, hq2⟩] at hu2
        have Hu2 := Lib.hid hu2
        clear hu2 hq1
        have hx := ext1 s (k + 1) (by omega)
        have hd1 : (str [s[k + 1]]).size = 1 := str_size _
        have hqs : (str xs).size ≤ 301 := by rw [str_size]; omega
        obtain ⟨d, hd⟩ : ∃ d, d = str [s[k + 1]] := ⟨_, rfl⟩
        rw [← hd] at hx hd1
        obtain ⟨q, hqq⟩ : ∃ q, q = str xs := ⟨_, rfl⟩
        rw [← hqq] at hqs z2
        have hsum : ¬ 9223372036854775807 < q.size + d.size := by omega
        have Hd1 := Lib.hid hd1
        have Hd := Lib.hid hd
        have Hq := Lib.hid hqq
        clear hd hd1 hqq
        have e1 : IntKind.i64.wrap ((k : Int) + 1 + 1) = (k : Int) + 1 + 1 := by rw [IntKind.wrap_i64]; omega
        have e2 : (0 : Int) ≤ (k : Int) + 1 + 1 := by omega
        have e3 : (k : Int) + 1 + 1 ≤ s.size := by omega
        have e4 : ((k : Int) + 1 + 1).toNat = k + 1 + 1 := by omega
        have e5 : (k : Int) + 1 ≤ (k : Int) + 1 + 1 := by omega
        have e6 : ((k : Int) + 1).toNat = k + 1 := by omega
        have e7 : (0 : Int) ≤ (k : Int) + 1 := by omega
        go_wp2_with fail
        go_still_tail 9, (by kernel_rfl)
        change wpList _ _ _ _ _ wr.drew
        go_wp2_with fail
        refine ⟨⟨k + 2, f', xs ++ [s[k + 1]], by omega, by omega, by congr 1, by rw [List.length_append, List.length_singleton]; omega, by omega, Lib.hid (by rw [List.append_assoc]; exact Hu2.out), ?_⟩, by simp only [intOf]; omega⟩
        have := (HS.out.set2 (q ++ d)).rb (Rb.drew _)
        rw [Hq.out, Hd.out, str_append] at this ⊢
        exact this
      · rw [if_neg hq] at hu2
        have Hu2 := Lib.hid hu2
        clear hu2
        have hx := ext1 s k (by omega)
        have hd1 : (str [s[k]]).size = 1 := str_size _
        have hqs : (str xs).size ≤ 301 := by rw [str_size]; omega
        obtain ⟨d, hd⟩ : ∃ d, d = str [s[k]] := ⟨_, rfl⟩
        rw [← hd] at hx hd1
        obtain ⟨q, hqq⟩ : ∃ q, q = str xs := ⟨_, rfl⟩
        rw [← hqq] at hqs z2
        have hsum : ¬ 9223372036854775807 < q.size + d.size := by omega
        have Hd1 := Lib.hid hd1
        have Hd := Lib.hid hd
        have Hq := Lib.hid hqq
        clear hd hd1 hqq
        have e1 : IntKind.i64.wrap ((k : Int) + 1) = (k : Int) + 1 := by rw [IntKind.wrap_i64]; omega
        have e2 : (0 : Int) ≤ (k : Int) + 1 := by omega
        have e3 : (k : Int) + 1 ≤ s.size := by omega
        have e4 : ((k : Int) + 1).toNat = k + 1 := by omega
        have e5 : (k : Int) ≤ (k : Int) + 1 := by omega
        by_cases h92 : s[k] = 92
        · have hb1 : ((s[k].toNat : Int) == 92) = true := by rw [h92]; rfl
          have hge : ¬ k + 2 < s.size := fun h => hq ⟨h92, h⟩
          clear hq h92
          go_wp2_with fail
          go_still_tail 9, (by kernel_rfl)
          change wpList _ _ _ _ _ wr.drew
          go_wp2_with fail
          refine ⟨⟨k + 1, f', xs ++ [s[k]], by omega, by omega, rfl, by rw [List.length_append, List.length_singleton]; omega, by omega, Lib.hid (by rw [List.append_assoc]; exact Hu2.out), ?_⟩, by simp only [intOf]; omega⟩
          have := (HS.out.set2 (q ++ d)).rb (Rb.drew _)
          rw [Hq.out, Hd.out, str_append] at this ⊢
          exact this
        · have hb1 : ((s[k].toNat : Int) == 92) = false := beq_eq_false_iff_ne.2 fun e => h92 (UInt8.toNat_inj.1 (by have := Int.natCast_inj.1 (show ((s[k].toNat : Nat) : Int) = ((92 : Nat) : Int) from e); exact this))
          clear hq h92
          go_wp2_with fail
          go_still_tail 9, (by kernel_rfl)
          change wpList _ _ _ _ _ wr.drew
          go_wp2_with fail
          refine ⟨⟨k + 1, f', xs ++ [s[k]], by omega, by omega, rfl, by rw [List.length_append, List.length_singleton]; omega, by omega, Lib.hid (by rw [List.append_assoc]; exact Hu2.out), ?_⟩, by simp only [intOf]; omega⟩
          have := (HS.out.set2 (q ++ d)).rb (Rb.drew _)
          rw [Hq.out, Hd.out, str_append] at this ⊢
          exact this
    · rw [unr_end _ _ _ (by rw [Hlen.out]; exact hlt), List.append_nil] at hu
      rw [hu.out] at HS hxl
      have hqs : (str (unrB s.data.toList)).size ≤ 301 := by rw [str_size]; omega
      clear z2 hu hxl xs
      obtain ⟨q, hqq⟩ : ∃ q, q = str (unrB s.data.toList) := ⟨_, rfl⟩
      rw [← hqq] at HS hqs
      have hm : q.data.toList = unrB s.data.toList := by rw [hqq]; simp [str]
      have Hq := Lib.hid hqq
      have Hm := Lib.hid hm
      have HV := Lib.hid HS.out.var
      have HRES := Lib.hid (show ResB w0.heap.size wr from ⟨⟨_, _, _, HS.out.res⟩, fun o => (HS.out.fz o).1⟩)
      clear hqq hm zf
      cases hr : rightB 3 0 q.data.toList
      · have Hr := Lib.hid hr
        go_wp2_with fail
        refine wp_region_store_specs (R := RT (w0.heap.size) (w0.heap.size) (w0.heap.size + 1) 3 0 q) (S := [Spec.eq (vv (3) (0) (q)), Spec.eq (vv (3) (0) (q)), Spec.eq (.bool false), Spec.eq (.bool false), Spec.eq (undef), Spec.eq (undef), Spec.eq (undef), Spec.eq (undef), Spec.eq (.bool false), ⟨fun w _ => HeldV w (w0.heap.size) 3 0 q, fun _ _ _ h k => h.2.2.1 k⟩, Spec.eq (.bool false)]) (n := 1) (size := 113) (by kernel_rfl) RT.trans (RT.drew _) rfl (by kernel_rfl) ?owed ?fin
        case owed =>
          refine Owed.cons ?_ ?_
          · -- 0: slot 59 := Op.load 23 (Operand.tmp 5)
            intro a w hR F
            have e5 : a.eval (.tmp 5) = .pointer (some ⟨w0.heap.size + 1, 0, none⟩) := F.old 5 (by kernel_rfl)
            exact ok_load _ _ rfl (wanted_none rfl) e5 (hR.2.1 HV.out).load ⟨RT.refl _, rfl⟩
          refine Owed.cons ?_ ?_
          · -- 1: slot 60 := Op.load 23 (Operand.tmp 5)
            intro a w hR F
            have e5 : a.eval (.tmp 5) = .pointer (some ⟨w0.heap.size + 1, 0, none⟩) := F.old 5 (by kernel_rfl)
            exact ok_load _ _ rfl (wanted_none rfl) e5 (hR.2.1 HV.out).load ⟨RT.refl _, rfl⟩
          refine Owed.cons ?_ ?_
          · -- 2: slot 61 := Op.call { callee := Callee.value (Operand.func 12), args := #[Operand.tmp 60], argTypes := #[23] }
            intro a w hR F
            have e60 : a.eval (.tmp 60) = vv (3) (0) (q) := F.new 1 60 (by kernel_rfl)
            refine ok_call 12 _ _ #[vv (3) (0) (q)] rfl (wanted_none rfl) (by simp [e60]) (Tryd.call12 _ _) ?_
            exact rt_call (held_lt (hR.2.1 HV.out)) (hr ▸ refright_any 3 0 q w (Nat.le_trans hqs (by decide)))
          refine Owed.cons ?_ ?_
          · -- 3: slot 62 := Op.move (Operand.tmp 61)
            intro a w hR F
            have e61 : a.eval (.tmp 61) = .bool false := F.new 2 61 (by kernel_rfl)
            exact ok_move _ rfl (wanted_none rfl) ⟨RT.refl _, e61⟩
          refine Owed.cons ?_ ?_
          · -- 4: slot 63 := Op.load 23 (Operand.tmp 5)
            intro a w hR F
            have e62 : a.eval (.tmp 62) = .bool false := F.new 3 62 (by kernel_rfl)
            exact ok_skip (wanted_false (j := 3) (d := 62) rfl (by kernel_rfl) e62) ⟨RT.refl _, rfl⟩
          refine Owed.cons ?_ ?_
          · -- 5: slot 64 := Op.call { callee := Callee.value (Operand.func 33), args := #[Operand.tmp 63], argTypes := #[23] }
            intro a w hR F
            have e62 : a.eval (.tmp 62) = .bool false := F.new 3 62 (by kernel_rfl)
            exact ok_skip (wanted_false (j := 3) (d := 62) rfl (by kernel_rfl) e62) ⟨RT.refl _, rfl⟩
          refine Owed.cons ?_ ?_
          · -- 6: slot 65 := Op.move (Operand.tmp 0)
            intro a w hR F
            have e62 : a.eval (.tmp 62) = .bool false := F.new 3 62 (by kernel_rfl)
            exact ok_skip (wanted_false (j := 3) (d := 62) rfl (by kernel_rfl) e62) ⟨RT.refl _, rfl⟩
          refine Owed.cons ?_ ?_
          · -- 7: slot 66 := Op.binOp BinOp.eql 9 (Operand.tmp 64) (Operand.tmp 65) 9
            intro a w hR F
            have e62 : a.eval (.tmp 62) = .bool false := F.new 3 62 (by kernel_rfl)
            exact ok_skip (wanted_false (j := 3) (d := 62) rfl (by kernel_rfl) e62) ⟨RT.refl _, rfl⟩
          refine Owed.cons ?_ ?_
          · -- 8: slot 67 := Op.pick (Operand.tmp 62) (Operand.tmp 66) (Operand.const (Value.bool false))
            intro a w hR F
            have e62 : a.eval (.tmp 62) = .bool false := F.new 3 62 (by kernel_rfl)
            exact ok_pick _ _ _ false rfl (wanted_none rfl) e62 ⟨RT.refl _, rfl⟩
          refine Owed.cons ?_ ?_
          · -- 9: slot None := Op.store 23 (Operand.tmp 2) (Operand.tmp 59)
            intro a w hR F
            have e2 : a.eval (.tmp 2) = .pointer (some ⟨w0.heap.size, 0, none⟩) := F.old 2 (by kernel_rfl)
            have e59 : a.eval (.tmp 59) = vv (3) (0) (q) := F.new 0 59 (by kernel_rfl)
            exact ok_store3 _ _ rfl (wanted_none rfl) e2 e59 (hR.2.2.2 HRES.out) fun _ => ⟨RT.put3 (hR.2.2.2 HRES.out) (Nat.le_refl _) (by omega), put3_held (hR.2.2.2 HRES.out)⟩
          refine Owed.cons ?_ ?_
          · -- 10: slot 3 := Op.assign (Operand.tmp 67)
            intro a w hR F
            have e67 : a.eval (.tmp 67) = .bool false := F.new 8 67 (by kernel_rfl)
            exact ok_assign _ rfl (wanted_none rfl) ⟨RT.refl _, e67⟩
          exact Owed.nil
        case fin =>
          intro y w hR hy
          have e9 : HeldV w (w0.heap.size) 3 0 q := hy 9 _ rfl
          have e10 : y 10 = .bool false := hy 10 _ rfl
          have HB := Lib.hid (Below.trans HS.out.below hR.1)
          clear hy hR
          simp only [putAll, Act.put, List.setIfInBounds_toArray, List.set_cons_zero, List.set_cons_succ]
          rw [e10]
          clear e10
          have z0 := e9.1
          have z1 := e9.2.1
          have z2 := e9.2.2
          clear e9
          go_wp2
          refine bodyPost_ret (v := .tuple #[vv 3 0 q, .bool false]) (by simp [results, Tryd.results31, go_sem, vv, z0, z1, z2]) rfl ⟨?_, HB.out⟩
          rw [← Hm.out, Hr.out, str_toList]; rfl
      · have Hr := Lib.hid hr
        go_wp2_with fail
        refine wp_region_store_specs (R := RT (w0.heap.size) (w0.heap.size) (w0.heap.size + 1) 3 0 q) (S := [Spec.eq (vv (3) (0) (q)), Spec.eq (vv (3) (0) (q)), Spec.eq (.bool true), Spec.eq (.bool true), Spec.eq (vv (3) (0) (q)), Spec.eq (strV (printV 3 0 q.data.toList)), Spec.eq (.string (s)), Spec.eq (.bool ((str (printV 3 0 q.data.toList)).toList == s.toList)), Spec.eq (.bool ((str (printV 3 0 q.data.toList)).toList == s.toList)), ⟨fun w _ => HeldV w (w0.heap.size) 3 0 q, fun _ _ _ h k => h.2.2.1 k⟩, Spec.eq (.bool ((str (printV 3 0 q.data.toList)).toList == s.toList))]) (n := 1) (size := 113) (by kernel_rfl) RT.trans (RT.drew _) rfl (by kernel_rfl) ?owed ?fin
        case owed =>
          refine Owed.cons ?_ ?_
          · -- 0: slot 59 := Op.load 23 (Operand.tmp 5)
            intro a w hR F
            have e5 : a.eval (.tmp 5) = .pointer (some ⟨w0.heap.size + 1, 0, none⟩) := F.old 5 (by kernel_rfl)
            exact ok_load _ _ rfl (wanted_none rfl) e5 (hR.2.1 HV.out).load ⟨RT.refl _, rfl⟩
          refine Owed.cons ?_ ?_
          · -- 1: slot 60 := Op.load 23 (Operand.tmp 5)
            intro a w hR F
            have e5 : a.eval (.tmp 5) = .pointer (some ⟨w0.heap.size + 1, 0, none⟩) := F.old 5 (by kernel_rfl)
            exact ok_load _ _ rfl (wanted_none rfl) e5 (hR.2.1 HV.out).load ⟨RT.refl _, rfl⟩
          refine Owed.cons ?_ ?_
          · -- 2: slot 61 := Op.call { callee := Callee.value (Operand.func 12), args := #[Operand.tmp 60], argTypes := #[23] }
            intro a w hR F
            have e60 : a.eval (.tmp 60) = vv (3) (0) (q) := F.new 1 60 (by kernel_rfl)
            refine ok_call 12 _ _ #[vv (3) (0) (q)] rfl (wanted_none rfl) (by simp [e60]) (Tryd.call12 _ _) ?_
            exact rt_call (held_lt (hR.2.1 HV.out)) (hr ▸ refright_any 3 0 q w (Nat.le_trans hqs (by decide)))
          refine Owed.cons ?_ ?_
          · -- 3: slot 62 := Op.move (Operand.tmp 61)
            intro a w hR F
            have e61 : a.eval (.tmp 61) = .bool true := F.new 2 61 (by kernel_rfl)
            exact ok_move _ rfl (wanted_none rfl) ⟨RT.refl _, e61⟩
          refine Owed.cons ?_ ?_
          · -- 4: slot 63 := Op.load 23 (Operand.tmp 5)
            intro a w hR F
            have e62 : a.eval (.tmp 62) = .bool true := F.new 3 62 (by kernel_rfl)
            have e5 : a.eval (.tmp 5) = .pointer (some ⟨w0.heap.size + 1, 0, none⟩) := F.old 5 (by kernel_rfl)
            exact ok_load _ _ rfl (wanted_true (j := 3) (d := 62) rfl (by kernel_rfl) e62) e5 (hR.2.1 HV.out).load ⟨RT.refl _, rfl⟩
          refine Owed.cons ?_ ?_
          · -- 5: slot 64 := Op.call { callee := Callee.value (Operand.func 33), args := #[Operand.tmp 63], argTypes := #[23] }
            intro a w hR F
            have e62 : a.eval (.tmp 62) = .bool true := F.new 3 62 (by kernel_rfl)
            have e63 : a.eval (.tmp 63) = vv (3) (0) (q) := F.new 4 63 (by kernel_rfl)
            refine ok_call 33 _ _ #[vv (3) (0) (q)] rfl (wanted_true (j := 3) (d := 62) rfl (by kernel_rfl) e62) (by simp [e63]) (Tryd.call33 _ _) ?_
            exact rt_call (held_lt (hR.2.1 HV.out)) (refprint_any 3 0 q w (Nat.le_trans hqs (by decide)) (by omega) (by omega))
          refine Owed.cons ?_ ?_
          · -- 6: slot 65 := Op.move (Operand.tmp 0)
            intro a w hR F
            have e62 : a.eval (.tmp 62) = .bool true := F.new 3 62 (by kernel_rfl)
            have e0 : a.eval (.tmp 0) = .string (s) := F.old 0 (by kernel_rfl)
            exact ok_move _ rfl (wanted_true (j := 3) (d := 62) rfl (by kernel_rfl) e62) ⟨RT.refl _, e0⟩
          refine Owed.cons ?_ ?_
          · -- 7: slot 66 := Op.binOp BinOp.eql 9 (Operand.tmp 64) (Operand.tmp 65) 9
            intro a w hR F
            have e62 : a.eval (.tmp 62) = .bool true := F.new 3 62 (by kernel_rfl)
            have e64 : a.eval (.tmp 64) = strV (printV 3 0 q.data.toList) := F.new 5 64 (by kernel_rfl)
            have e65 : a.eval (.tmp 65) = .string (s) := F.new 6 65 (by kernel_rfl)
            exact ok_bin _ _ _ _ _ rfl (wanted_true (j := 3) (d := 62) rfl (by kernel_rfl) e62) e64 e65 (run_eql_S _ _ _ _ _) ⟨RT.refl _, rfl⟩
          refine Owed.cons ?_ ?_
          · -- 8: slot 67 := Op.pick (Operand.tmp 62) (Operand.tmp 66) (Operand.const (Value.bool false))
            intro a w hR F
            have e62 : a.eval (.tmp 62) = .bool true := F.new 3 62 (by kernel_rfl)
            have e66 : a.eval (.tmp 66) = .bool ((str (printV 3 0 q.data.toList)).toList == s.toList) := F.new 7 66 (by kernel_rfl)
            exact ok_pick _ _ _ true rfl (wanted_none rfl) e62 ⟨RT.refl _, e66⟩
          refine Owed.cons ?_ ?_
          · -- 9: slot None := Op.store 23 (Operand.tmp 2) (Operand.tmp 59)
            intro a w hR F
            have e2 : a.eval (.tmp 2) = .pointer (some ⟨w0.heap.size, 0, none⟩) := F.old 2 (by kernel_rfl)
            have e59 : a.eval (.tmp 59) = vv (3) (0) (q) := F.new 0 59 (by kernel_rfl)
            exact ok_store3 _ _ rfl (wanted_none rfl) e2 e59 (hR.2.2.2 HRES.out) fun _ => ⟨RT.put3 (hR.2.2.2 HRES.out) (Nat.le_refl _) (by omega), put3_held (hR.2.2.2 HRES.out)⟩
          refine Owed.cons ?_ ?_
          · -- 10: slot 3 := Op.assign (Operand.tmp 67)
            intro a w hR F
            have e67 : a.eval (.tmp 67) = .bool ((str (printV 3 0 q.data.toList)).toList == s.toList) := F.new 8 67 (by kernel_rfl)
            exact ok_assign _ rfl (wanted_none rfl) ⟨RT.refl _, e67⟩
          exact Owed.nil
        case fin =>
          intro y w hR hy
          have e9 : HeldV w (w0.heap.size) 3 0 q := hy 9 _ rfl
          have e10 : y 10 = .bool ((str (printV 3 0 q.data.toList)).toList == s.toList) := hy 10 _ rfl
          have HB := Lib.hid (Below.trans HS.out.below hR.1)
          clear hy hR
          simp only [putAll, Act.put, List.setIfInBounds_toArray, List.set_cons_zero, List.set_cons_succ]
          rw [e10]
          clear e10
          have z0 := e9.1
          have z1 := e9.2.1
          have z2 := e9.2.2
          clear e9
          go_wp2
          refine bodyPost_ret (v := .tuple #[vv 3 0 q, .bool ((str (printV 3 0 q.data.toList)).toList == s.toList)]) (by simp [results, Tryd.results31, go_sem, vv, z0, z1, z2]) rfl ⟨?_, HB.out⟩
          rw [← Hm.out, Hr.out, str_toList]; rfl

end Go.Proofs.YtefjfiihfbkjoaaDoor
