/-
  Layer 3: the document's Append, Write.
-/
import Derived.Test.YtbdgdmieggpmhaaK9
import Derived.Test.YtbdgdmieggpmhaaKR
namespace Go.Proofs.Ytbdgdmieggpmhaa.L3
open Go.ChangeShapes Go.WideShapes Go.ChangeAt Go.RowKit By Reg
set_option linter.unusedVariables false

set_option maxRecDepth 100000 in
theorem rappend_full (n : Int) (p q s : ByteArray) (nv sv : Value) (w0 : World) (hs : ¬ 9223372036854775807 < p.size + q.size) (hl : (p ++ q).size ≤ 1048576) (hl2 : s.size ≤ 1048576) (h1 : nv.oneCell' = true) (h2 : sv.oneCell' = true) (hf : n < ((p ++ q).size : Int) + (s.size : Int)) :
    Calls Try.prog 74 #[rawv n p q nv sv, .string s] w0 fun e w' => e = .returned (.tuple #[rawv n p q nv sv, .int .i64 4]) ∧ Rb w0 w' := by
  obtain ⟨c, hc⟩ : ∃ c, c = p ++ q := ⟨_, rfl⟩
  have Hlog := Lib.hid (fun w => rlog_raw n p q nv sv w hs)
  rw [← hc] at Hlog hl hf
  have HO := Lib.hid h1
  have HO2 := Lib.hid h2
  clear hc hs h1 h2
  go_enter Try.func74, Try.ntmps74
  go_wp2_with fail
  have T0 := Two.start w0 [.int .i64 n, .string p, .string q, nv, sv] zero5
  generalize (w0.alloc (Obj.cells [Value.int .i64 n, .string p, .string q, nv, sv].toArray 50)).alloc (Obj.cells zero5.toArray 50) = wt at *
  have T := Lib.hid T0
  have TX := Lib.hid T0.x
  clear T0
  refine wp_region_specs (R := Rb) (S := [Spec.eq (rawv n p q nv sv), Spec.eq (.string (c)), Spec.eq (.int .i64 (((c).size : Int))), Spec.eq (.string (s)), Spec.eq (.int .i64 (((s).size : Int))), Spec.eq (.int .i64 ((((c).size : Int)) + (((s).size : Int)))), Spec.eq (.pointer (some ⟨w0.heap.size, 0, none⟩)), Spec.eq (.int .i64 (n)), Spec.eq (.bool true)]) (n := 1) (size := 22) (by kernel_rfl) Rb.trans (Rb.drew _) rfl (by kernel_rfl) ?owed ?fin
  case owed =>
    refine Owed.cons ?_ ?_
    · -- 0: slot 6 := Op.load 50 (Operand.tmp 2)
      intro a w hR F
      have e2 : a.eval (.tmp 2) = .pointer (some ⟨w0.heap.size, 0, none⟩) := F.old 2 (by kernel_rfl)
      exact ok_load _ _ rfl (wanted_none rfl) e2 (load_ref (TX.out.rb hR)) ⟨Rb.refl _, rfl⟩
    refine Owed.cons ?_ ?_
    · -- 1: slot 7 := Op.call { callee := Callee.value (Operand.func 32), args := #[Operand.tmp 6], argTypes := #[50] }
      intro a w hR F
      have e6 : a.eval (.tmp 6) = rawv n p q nv sv := F.new 0 6 (by kernel_rfl)
      refine ok_call 32 _ _ #[rawv n p q nv sv] rfl (wanted_none rfl) (by simp [e6]) (Try.call32 _ _) ?_
      exact val_call_rb (Hlog.out w)
    refine Owed.cons ?_ ?_
    · -- 2: slot 8 := Op.call { callee := Callee.builtin Builtin.len, args := #[Operand.tmp 7], argTypes := #[9] }
      intro a w hR F
      have e7 : a.eval (.tmp 7) = .string (c) := F.new 1 7 (by kernel_rfl)
      exact ok_len_str _ _ (c) Try.underlying9 rfl (wanted_none rfl) e7 ⟨Rb.refl _, rfl⟩
    refine Owed.cons ?_ ?_
    · -- 3: slot 9 := Op.move (Operand.tmp 1)
      intro a w hR F
      have e1 : a.eval (.tmp 1) = .string (s) := F.old 1 (by kernel_rfl)
      exact ok_move _ rfl (wanted_none rfl) ⟨Rb.refl _, e1⟩
    refine Owed.cons ?_ ?_
    · -- 4: slot 10 := Op.call { callee := Callee.builtin Builtin.len, args := #[Operand.tmp 9], argTypes := #[9] }
      intro a w hR F
      have e9 : a.eval (.tmp 9) = .string (s) := F.new 3 9 (by kernel_rfl)
      exact ok_len_str _ _ (s) Try.underlying9 rfl (wanted_none rfl) e9 ⟨Rb.refl _, rfl⟩
    refine Owed.cons ?_ ?_
    · -- 5: slot 11 := Op.binOp BinOp.add 3 (Operand.tmp 8) (Operand.tmp 10) 3
      intro a w hR F
      have e8 : a.eval (.tmp 8) = .int .i64 (((c).size : Int)) := F.new 2 8 (by kernel_rfl)
      have e10 : a.eval (.tmp 10) = .int .i64 (((s).size : Int)) := F.new 4 10 (by kernel_rfl)
      exact ok_bin _ _ _ _ _ rfl (wanted_none rfl) e8 e10 (run_add_i64 _ _ _ _ _ (by omega) (by omega)) ⟨Rb.refl _, rfl⟩
    refine Owed.cons ?_ ?_
    · -- 6: slot 12 := Op.fieldAddr 50 (Operand.tmp 2) 0
      intro a w hR F
      have e2 : a.eval (.tmp 2) = .pointer (some ⟨w0.heap.size, 0, none⟩) := F.old 2 (by kernel_rfl)
      exact ok_fieldR _ 0 (by decide) rfl (wanted_none rfl) e2 ⟨Rb.refl _, rfl⟩
    refine Owed.cons ?_ ?_
    · -- 7: slot 13 := Op.load 3 (Operand.tmp 12)
      intro a w hR F
      have e12 : a.eval (.tmp 12) = .pointer (some ⟨w0.heap.size, 0, none⟩) := F.new 6 12 (by kernel_rfl)
      exact ok_load _ _ rfl (wanted_none rfl) e12 (load_int ((TX.out.rb hR).cell 0)) ⟨Rb.refl _, rfl⟩
    refine Owed.cons ?_ ?_
    · -- 8: slot 14 := Op.binOp BinOp.gtr 3 (Operand.tmp 11) (Operand.tmp 13) 3
      intro a w hR F
      have e11 : a.eval (.tmp 11) = .int .i64 ((((c).size : Int)) + (((s).size : Int))) := F.new 5 11 (by kernel_rfl)
      have e13 : a.eval (.tmp 13) = .int .i64 (n) := F.new 7 13 (by kernel_rfl)
      refine ok_bin _ _ _ _ _ rfl (wanted_none rfl) e11 e13 (run_gtr_int _ _ _ _ _ _) ⟨Rb.refl _, ?_⟩
      exact congrArg Value.bool (decide_eq_true (by omega))
    exact Owed.nil
  case fin =>
    intro y w2 hR hy
    have e8 : y 8 = .bool true := hy 8 _ rfl
    have HR := Lib.hid hR
    clear hy hR
    simp only [putAll, Act.put, List.setIfInBounds_toArray, List.set_cons_zero, List.set_cons_succ]
    rw [e8]
    clear e8
    have T2 := Lib.hid (T.out.rbs HR.out)
    obtain ⟨y0, y1, y2, y3, y4⟩ := T2.out.x.cells5
    clear hf
    go_wp2_with (refine wpList_store rfl 50 _ _ rfl (w0.heap.size + 1) 0 _ _ [_, _, _, _, _] _ rfl rfl T2.out.y rfl sizeref (by simp) (five_one HO.out HO2.out) ?_)
    intro w5 hb hw
    have T5 := T2.out.storeY hb hw
    obtain ⟨x0, x1, x2, x3, x4⟩ := T5.y.cells5
    have R5 := Lib.hid T5.rb
    clear hb hw T5 y0 y1 y2 y3 y4
    go_wp2
    exact bodyPost_ret (v := .tuple #[rawv n p q nv sv, .int .i64 4]) (by simp [results, Try.results74, go_sem, x0, x1, x2, x3, x4]) rfl ⟨rfl, R5.out⟩

set_option maxRecDepth 100000 in
theorem rappend_fits (n : Int) (p q s : ByteArray) (nv sv : Value) (w0 : World) (hs : ¬ 9223372036854775807 < p.size + q.size) (hl : (p ++ q).size ≤ 1048576) (hl2 : s.size ≤ 1048576) (h1 : nv.oneCell' = true) (h2 : sv.oneCell' = true) (hf : ((p ++ q).size : Int) + (s.size : Int) ≤ n) (hn : n ≤ 1048576) :
    Calls Try.prog 74 #[rawv n p q nv sv, .string s] w0 fun e w' => e = .returned (.tuple #[rawv n p (q ++ s) nv sv, .int .i64 0]) ∧ Rb w0 w' := by
  obtain ⟨c, hc⟩ : ∃ c, c = p ++ q := ⟨_, rfl⟩
  have Hlog := Lib.hid (fun w => rlog_raw n p q nv sv w hs)
  rw [← hc] at Hlog hl hf
  have hsum : ¬ 9223372036854775807 < q.size + s.size := by rw [hc] at hf; rw [ByteArray.size_append] at hf; omega
  have HO := Lib.hid h1
  have HO2 := Lib.hid h2
  clear hc hs h1 h2
  go_enter Try.func74, Try.ntmps74
  go_wp2_with fail
  have T0 := Two.start w0 [.int .i64 n, .string p, .string q, nv, sv] zero5
  generalize (w0.alloc (Obj.cells [Value.int .i64 n, .string p, .string q, nv, sv].toArray 50)).alloc (Obj.cells zero5.toArray 50) = wt at *
  have T := Lib.hid T0
  have TX := Lib.hid T0.x
  clear T0
  refine wp_region_specs (R := Rb) (S := [Spec.eq (rawv n p q nv sv), Spec.eq (.string (c)), Spec.eq (.int .i64 (((c).size : Int))), Spec.eq (.string (s)), Spec.eq (.int .i64 (((s).size : Int))), Spec.eq (.int .i64 ((((c).size : Int)) + (((s).size : Int)))), Spec.eq (.pointer (some ⟨w0.heap.size, 0, none⟩)), Spec.eq (.int .i64 (n)), Spec.eq (.bool false)]) (n := 1) (size := 22) (by kernel_rfl) Rb.trans (Rb.drew _) rfl (by kernel_rfl) ?owed ?fin
  case owed =>
    refine Owed.cons ?_ ?_
    · -- 0: slot 6 := Op.load 50 (Operand.tmp 2)
      intro a w hR F
      have e2 : a.eval (.tmp 2) = .pointer (some ⟨w0.heap.size, 0, none⟩) := F.old 2 (by kernel_rfl)
      exact ok_load _ _ rfl (wanted_none rfl) e2 (load_ref (TX.out.rb hR)) ⟨Rb.refl _, rfl⟩
    refine Owed.cons ?_ ?_
    · -- 1: slot 7 := Op.call { callee := Callee.value (Operand.func 32), args := #[Operand.tmp 6], argTypes := #[50] }
      intro a w hR F
      have e6 : a.eval (.tmp 6) = rawv n p q nv sv := F.new 0 6 (by kernel_rfl)
      refine ok_call 32 _ _ #[rawv n p q nv sv] rfl (wanted_none rfl) (by simp [e6]) (Try.call32 _ _) ?_
      exact val_call_rb (Hlog.out w)
    refine Owed.cons ?_ ?_
    · -- 2: slot 8 := Op.call { callee := Callee.builtin Builtin.len, args := #[Operand.tmp 7], argTypes := #[9] }
      intro a w hR F
      have e7 : a.eval (.tmp 7) = .string (c) := F.new 1 7 (by kernel_rfl)
      exact ok_len_str _ _ (c) Try.underlying9 rfl (wanted_none rfl) e7 ⟨Rb.refl _, rfl⟩
    refine Owed.cons ?_ ?_
    · -- 3: slot 9 := Op.move (Operand.tmp 1)
      intro a w hR F
      have e1 : a.eval (.tmp 1) = .string (s) := F.old 1 (by kernel_rfl)
      exact ok_move _ rfl (wanted_none rfl) ⟨Rb.refl _, e1⟩
    refine Owed.cons ?_ ?_
    · -- 4: slot 10 := Op.call { callee := Callee.builtin Builtin.len, args := #[Operand.tmp 9], argTypes := #[9] }
      intro a w hR F
      have e9 : a.eval (.tmp 9) = .string (s) := F.new 3 9 (by kernel_rfl)
      exact ok_len_str _ _ (s) Try.underlying9 rfl (wanted_none rfl) e9 ⟨Rb.refl _, rfl⟩
    refine Owed.cons ?_ ?_
    · -- 5: slot 11 := Op.binOp BinOp.add 3 (Operand.tmp 8) (Operand.tmp 10) 3
      intro a w hR F
      have e8 : a.eval (.tmp 8) = .int .i64 (((c).size : Int)) := F.new 2 8 (by kernel_rfl)
      have e10 : a.eval (.tmp 10) = .int .i64 (((s).size : Int)) := F.new 4 10 (by kernel_rfl)
      exact ok_bin _ _ _ _ _ rfl (wanted_none rfl) e8 e10 (run_add_i64 _ _ _ _ _ (by omega) (by omega)) ⟨Rb.refl _, rfl⟩
    refine Owed.cons ?_ ?_
    · -- 6: slot 12 := Op.fieldAddr 50 (Operand.tmp 2) 0
      intro a w hR F
      have e2 : a.eval (.tmp 2) = .pointer (some ⟨w0.heap.size, 0, none⟩) := F.old 2 (by kernel_rfl)
      exact ok_fieldR _ 0 (by decide) rfl (wanted_none rfl) e2 ⟨Rb.refl _, rfl⟩
    refine Owed.cons ?_ ?_
    · -- 7: slot 13 := Op.load 3 (Operand.tmp 12)
      intro a w hR F
      have e12 : a.eval (.tmp 12) = .pointer (some ⟨w0.heap.size, 0, none⟩) := F.new 6 12 (by kernel_rfl)
      exact ok_load _ _ rfl (wanted_none rfl) e12 (load_int ((TX.out.rb hR).cell 0)) ⟨Rb.refl _, rfl⟩
    refine Owed.cons ?_ ?_
    · -- 8: slot 14 := Op.binOp BinOp.gtr 3 (Operand.tmp 11) (Operand.tmp 13) 3
      intro a w hR F
      have e11 : a.eval (.tmp 11) = .int .i64 ((((c).size : Int)) + (((s).size : Int))) := F.new 5 11 (by kernel_rfl)
      have e13 : a.eval (.tmp 13) = .int .i64 (n) := F.new 7 13 (by kernel_rfl)
      refine ok_bin _ _ _ _ _ rfl (wanted_none rfl) e11 e13 (run_gtr_int _ _ _ _ _ _) ⟨Rb.refl _, ?_⟩
      exact congrArg Value.bool (decide_eq_false (by omega))
    exact Owed.nil
  case fin =>
    intro y w2 hR hy
    have e8 : y 8 = .bool false := hy 8 _ rfl
    have HR := Lib.hid hR
    clear hy hR
    simp only [putAll, Act.put, List.setIfInBounds_toArray, List.set_cons_zero, List.set_cons_succ]
    rw [e8]
    clear e8
    have T2 := Lib.hid (T.out.rbs HR.out)
    have y2 := T2.out.x.cells5.e2
    clear hf
    go_wp2_with (refine wpList_store rfl 9 _ _ rfl w0.heap.size 2 _ _ [.string (q ++ s)] _ rfl rfl T2.out.x rfl sizestr (by simp) (str_one _) ?_)
    intro w3 hb hw
    have T3 := Lib.hid (T2.out.storeX hb hw)
    obtain ⟨y0, y1, y2, y3, y4⟩ := T3.out.x.cells5
    clear hb hw
    go_wp2_with (refine wpList_store rfl 50 _ _ rfl (w0.heap.size + 1) 0 _ _ [_, _, _, _, _] _ rfl rfl T3.out.y rfl sizeref (by simp) (five_one HO.out HO2.out) ?_)
    intro w5 hb hw
    have T5 := T3.out.storeY hb hw
    obtain ⟨x0, x1, x2, x3, x4⟩ := T5.y.cells5
    have R5 := Lib.hid T5.rb
    clear hb hw T5 y0 y1 y2 y3 y4
    go_wp2
    exact bodyPost_ret (v := .tuple #[rawv n p (q ++ s) nv sv, .int .i64 0]) (by simp [results, Try.results74, go_sem, x0, x1, x2, x3, x4]) rfl ⟨rfl, R5.out⟩

set_option maxRecDepth 100000 in
theorem rwrite_no (n : Int) (a b s : ByteArray) (nv sv : Value) (k : Int) (w : World) (h1 : nv.oneCell' = true) (h2 : sv.oneCell' = true) (hk : decide (0 ≤ k ∧ k < 2) = false) :
    Calls Try.prog 75 #[rawv n a b nv sv, .int .i64 k, .string s] w fun e w' => e = .returned (.tuple #[rawv n a b nv sv, .int .i64 1]) ∧ Rb w w' := by
  have hk' : ¬ (0 ≤ k ∧ k < 2) := by simpa using hk
  have k0 : (k == 0) = false := by simp; omega
  have k1 : (k == 1) = false := by simp; omega
  have k2 : (k != 0) = true := by simp; omega
  have k3 : (k != 1) = true := by simp; omega
  have HO := Lib.hid h1
  have HO2 := Lib.hid h2
  clear hk hk' h1 h2
  go_enter Try.func75, Try.ntmps75
  go_wp2_with (refine wpList_store rfl 50 _ _ rfl (w.heap.size + 1) 0 _ _ [_, _, _, _, _] _ rfl rfl (Two.start w [.int .i64 n, .string a, .string b, nv, sv] zero5).y rfl sizeref (by simp) (five_one HO.out HO2.out) ?_)
  intro w5 hb hw
  have T5 := (Two.start w [.int .i64 n, .string a, .string b, nv, sv] zero5).storeY hb hw
  obtain ⟨x0, x1, x2, x3, x4⟩ := T5.y.cells5
  have R5 := Lib.hid T5.rb
  clear hb hw T5 k0 k1 k2 k3
  go_wp2
  exact bodyPost_ret (v := .tuple #[rawv n a b nv sv, .int .i64 1]) (by simp [results, Try.results75, go_sem, x0, x1, x2, x3, x4]) rfl ⟨rfl, R5.out⟩

theorem owned_two {w : World} {B : Nat} {e : TypeId} {v : Value} {x y : Value} (h : w.ownsRow B e 1 v 2 [x, y]) : ∃ g cap tl, v = .slice (some ⟨g, 0, none⟩) 2 cap ∧ B ≤ g ∧ 2 ≤ cap ∧ cap ≤ maxLen ∧ Blk w g e (x :: y :: tl) := by
  rcases h.2 with ⟨_, h0⟩ | ⟨g, cap, cur, rfl, h2, h3, h4, h5, h6, h7⟩
  · omega
  · refine ⟨g, cap, cur.toList.drop 2, rfl, h2, h4, h5, ?_⟩
    have e : cur.toList = x :: y :: cur.toList.drop 2 := by
      have := List.take_append_drop (2 * 1) cur.toList
      rw [h7] at this
      simpa using this.symm
    unfold Blk
    rw [← e, Array.toArray_toList]
    exact h3

theorem rb_grown {w w' : World} (h : w.grownBy w' none) : Rb w w' := ⟨h.os, h.tape, h.output, h.size, fun k hk => h.block k hk (by simp)⟩
theorem Two.other {w w1 w2 : World} {x y : List Value} {g : Nat} (h : Two w w1 x y) (hw : Wrote g w1 w2) (hg : w.heap.size + 1 < g) : Two w w2 x y :=
  ⟨h.x.same (hw.block _ (by omega)), h.y.same (hw.block _ (by omega)), Wrote.below h.rb hw (by omega)⟩
/-- what a Write of the document leaves: the other row is as it was, this one is new -/
def WroteR (w : World) (n : Int) (a b : ByteArray) (sv : Value) (x y : ByteArray) (e : Ending) (w' : World) : Prop :=
  ∃ g cap, e = .returned (.tuple #[rawv n a b (.slice (some ⟨g, 0, none⟩) 2 cap) sv, .int .i64 0]) ∧ w.heap.size ≤ g ∧ 2 ≤ cap ∧ cap ≤ maxLen ∧ w'.cell? ⟨g, 0, none⟩ = some (.string x) ∧ w'.cell? ⟨g, 1, none⟩ = some (.string y) ∧ Rb w w'

set_option maxRecDepth 100000 in
theorem rwrite_0 (n : Int) (a b s x y : ByteArray) (g0 cap0 : Nat) (sv : Value) (w : World) (h2 : sv.oneCell' = true) (hx : w.cell? ⟨g0, 0, none⟩ = some (.string x)) (hy : w.cell? ⟨g0, 1, none⟩ = some (.string y)) :
    Calls Try.prog 75 #[rawv n a b (.slice (some ⟨g0, 0, none⟩) 2 cap0) sv, .int .i64 0, .string s] w (WroteR w n a b sv s y) := by
  have HO2 := Lib.hid h2
  obtain ⟨i0, hi0, hz0, hz1, hz2⟩ := info_parts info9
  have Hi := Lib.hid hi0
  have Hz := Lib.hid hz0
  have Hz1 := Lib.hid hz1
  have Hz2 := Lib.hid hz2
  have HX := Lib.hid hx
  have HY := Lib.hid hy
  clear hi0 hz0 hz1 hz2 h2 hx hy
  have hc : ∀ w', Rb w w' → ∀ j u, [Value.string x, .string y][j]? = some u → w'.cell? ((⟨g0, 0, none⟩ : Addr).add j) = some u := by
    intro w' hr j u hu
    match j, hu with
    | 0, hu => simp at hu; subst hu; rw [Addr.add_lit]; exact cell_rb hr HX.out
    | 1, hu => simp at hu; subst hu; rw [Addr.add_lit]; exact cell_rb hr HY.out
    | j + 2, hu => simp at hu
  have HC := Lib.hid hc
  have h1c : ∀ u ∈ [Value.string x, .string y], u.oneCell' = true := by intro u hu; simp at hu; rcases hu with rfl | rfl <;> rfl
  have H1 := Lib.hid h1c
  clear hc h1c
  go_enter Try.func75, Try.ntmps75
  go_wp2_with (at_builtin; (refine wpList_append_grows _ rfl _ _ 37 rfl 9 i0 (.string ⟨#[]⟩) 1 16 Try.underlying37 Hi.out Hz.out Hz1.out Hz2.out rfl (by decide) (some ⟨w.heap.size + 1 + 1, 0, none⟩) 0 0 [] rfl (fun h => ⟨rfl, rfl⟩) rfl (fun _ _ j u h => by simp at h) ⟨g0, 0, none⟩ 2 cap0 [.string x, .string y] rfl rfl (HC.out _ ((((Below.refl _ _).alloc (Nat.le_refl _) _).alloc (by simp) _).alloc (by simp; omega) _)) H1.out (by omega) (by decide) (by decide) ?_))
  intro v' w3 ho hg
  obtain ⟨g, cap, tl, rfl, hB, hc2, hcm, hblk⟩ := owned_two ho
  have hB' : w.heap.size + 1 + 1 + 1 ≤ g := by simpa using hB
  have T3 := Lib.hid (((Two.start w [.int .i64 n, .string a, .string b, .slice (some ⟨g0, 0, none⟩) 2 cap0, sv] zero5).rbs ((Below.refl _ _).alloc (Nat.le_refl _) _)).rbs (rb_grown hg))
  have HB := Lib.hid hblk
  clear ho hg hblk hB
  go_wp2_with (refine wpList_store rfl 37 _ _ rfl w.heap.size 3 _ _ [_] _ rfl rfl T3.out.x rfl sizestrs (by simp) (sl_one _ _ _) ?_)
  intro w4 hb hw
  have HB4 := Lib.hid (HB.out.same (hw.block g (by omega)))
  have T4 := Lib.hid (T3.out.storeX hb hw)
  have y3 := T4.out.x.cells5.e3
  clear hb hw T3 HB
  go_wp2_with (refine wpList_store rfl 9 _ _ rfl g 0 _ _ [_] _ rfl rfl HB4.out rfl sizestr (by simp) (str_one _) ?_)
  intro w5 hb hw
  have T5 := Lib.hid (T4.out.other hw (by omega))
  have HB5 := Lib.hid (show Blk w5 g 9 (.string s :: .string y :: tl) from hb)
  obtain ⟨y0, y1, y2, y3, y4⟩ := T5.out.x.cells5
  clear hb hw T4 HB4
  go_wp2_with (refine wpList_store rfl 50 _ _ rfl (w.heap.size + 1) 0 _ _ [_, _, _, _, _] _ rfl rfl T5.out.y rfl sizeref (by simp) (five_one rfl HO2.out) ?_)
  intro w6 hb hw
  have T6 := T5.out.storeY hb hw
  obtain ⟨x0, x1, x2, x3, x4⟩ := T6.y.cells5
  have R6 := Lib.hid T6.rb
  have HB6 := Lib.hid (HB5.out.same (hw.block g (by omega)))
  clear hb hw T5 T6 HB5 y0 y1 y2 y3 y4
  go_wp2
  exact bodyPost_ret (v := .tuple #[rawv n a b (.slice (some ⟨g, 0, none⟩) 2 cap) sv, .int .i64 0]) (by simp [results, Try.results75, go_sem, x0, x1, x2, x3, x4]) rfl ⟨g, cap, rfl, by omega, hc2, hcm, HB6.out.cell 0, HB6.out.cell 1, R6.out⟩

set_option maxRecDepth 100000 in
theorem rwrite_1 (n : Int) (a b s x y : ByteArray) (g0 cap0 : Nat) (sv : Value) (w : World) (h2 : sv.oneCell' = true) (hx : w.cell? ⟨g0, 0, none⟩ = some (.string x)) (hy : w.cell? ⟨g0, 1, none⟩ = some (.string y)) :
    Calls Try.prog 75 #[rawv n a b (.slice (some ⟨g0, 0, none⟩) 2 cap0) sv, .int .i64 1, .string s] w (WroteR w n a b sv x s) := by
  have HO2 := Lib.hid h2
  obtain ⟨i0, hi0, hz0, hz1, hz2⟩ := info_parts info9
  have Hi := Lib.hid hi0
  have Hz := Lib.hid hz0
  have Hz1 := Lib.hid hz1
  have Hz2 := Lib.hid hz2
  have HX := Lib.hid hx
  have HY := Lib.hid hy
  clear hi0 hz0 hz1 hz2 h2 hx hy
  have hc : ∀ w', Rb w w' → ∀ j u, [Value.string x, .string y][j]? = some u → w'.cell? ((⟨g0, 0, none⟩ : Addr).add j) = some u := by
    intro w' hr j u hu
    match j, hu with
    | 0, hu => simp at hu; subst hu; rw [Addr.add_lit]; exact cell_rb hr HX.out
    | 1, hu => simp at hu; subst hu; rw [Addr.add_lit]; exact cell_rb hr HY.out
    | j + 2, hu => simp at hu
  have HC := Lib.hid hc
  have h1c : ∀ u ∈ [Value.string x, .string y], u.oneCell' = true := by intro u hu; simp at hu; rcases hu with rfl | rfl <;> rfl
  have H1 := Lib.hid h1c
  clear hc h1c
  go_enter Try.func75, Try.ntmps75
  go_wp2_with (at_builtin; (refine wpList_append_grows _ rfl _ _ 37 rfl 9 i0 (.string ⟨#[]⟩) 1 16 Try.underlying37 Hi.out Hz.out Hz1.out Hz2.out rfl (by decide) (some ⟨w.heap.size + 1 + 1, 0, none⟩) 0 0 [] rfl (fun h => ⟨rfl, rfl⟩) rfl (fun _ _ j u h => by simp at h) ⟨g0, 0, none⟩ 2 cap0 [.string x, .string y] rfl rfl (HC.out _ ((((Below.refl _ _).alloc (Nat.le_refl _) _).alloc (by simp) _).alloc (by simp; omega) _)) H1.out (by omega) (by decide) (by decide) ?_))
  intro v' w3 ho hg
  obtain ⟨g, cap, tl, rfl, hB, hc2, hcm, hblk⟩ := owned_two ho
  have hB' : w.heap.size + 1 + 1 + 1 ≤ g := by simpa using hB
  have T3 := Lib.hid (((Two.start w [.int .i64 n, .string a, .string b, .slice (some ⟨g0, 0, none⟩) 2 cap0, sv] zero5).rbs ((Below.refl _ _).alloc (Nat.le_refl _) _)).rbs (rb_grown hg))
  have HB := Lib.hid hblk
  clear ho hg hblk hB
  go_wp2_with (refine wpList_store rfl 37 _ _ rfl w.heap.size 3 _ _ [_] _ rfl rfl T3.out.x rfl sizestrs (by simp) (sl_one _ _ _) ?_)
  intro w4 hb hw
  have HB4 := Lib.hid (HB.out.same (hw.block g (by omega)))
  have T4 := Lib.hid (T3.out.storeX hb hw)
  have y3 := T4.out.x.cells5.e3
  clear hb hw T3 HB
  go_wp2_with (refine wpList_store rfl 9 _ _ rfl g 1 _ _ [_] _ rfl rfl HB4.out rfl sizestr (by simp) (str_one _) ?_)
  intro w5 hb hw
  have T5 := Lib.hid (T4.out.other hw (by omega))
  have HB5 := Lib.hid (show Blk w5 g 9 (.string x :: .string s :: tl) from hb)
  obtain ⟨y0, y1, y2, y3, y4⟩ := T5.out.x.cells5
  clear hb hw T4 HB4
  go_wp2_with (refine wpList_store rfl 50 _ _ rfl (w.heap.size + 1) 0 _ _ [_, _, _, _, _] _ rfl rfl T5.out.y rfl sizeref (by simp) (five_one rfl HO2.out) ?_)
  intro w6 hb hw
  have T6 := T5.out.storeY hb hw
  obtain ⟨x0, x1, x2, x3, x4⟩ := T6.y.cells5
  have R6 := Lib.hid T6.rb
  have HB6 := Lib.hid (HB5.out.same (hw.block g (by omega)))
  clear hb hw T5 T6 HB5 y0 y1 y2 y3 y4
  go_wp2
  exact bodyPost_ret (v := .tuple #[rawv n a b (.slice (some ⟨g, 0, none⟩) 2 cap) sv, .int .i64 0]) (by simp [results, Try.results75, go_sem, x0, x1, x2, x3, x4]) rfl ⟨g, cap, rfl, by omega, hc2, hcm, HB6.out.cell 0, HB6.out.cell 1, R6.out⟩
end Go.Proofs.Ytbdgdmieggpmhaa.L3
