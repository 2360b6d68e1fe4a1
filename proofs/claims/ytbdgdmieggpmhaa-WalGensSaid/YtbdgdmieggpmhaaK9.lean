/-
  Layer 3: the document's Crash, Append, Write.
-/
import Derived.Test.YtbdgdmieggpmhaaK8
namespace Go.Proofs.Ytbdgdmieggpmhaa.L3
open Go.ChangeShapes Go.WideShapes Go.ChangeAt Go.RowKit By Reg
set_option linter.unusedVariables false

theorem extract_str (xs : List UInt8) (k : Nat) : (str xs).extract 0 k = str (xs.take k) := by
  apply ByteArray.ext
  apply Array.toList_inj.1
  simp [str, ByteArray.data_extract]

set_option maxRecDepth 100000 in
theorem rcrash_1 (n : Int) (a b : ByteArray) (nv sv : Value) (k : Int) (w : World) (hs : ¬ 9223372036854775807 < a.size + b.size) (hv : sv.cells = #[sv] ∧ sv.oneCell' = true) (hk : k < 0) :
    Calls Try.prog 60 #[rawv n a b nv sv, .int .i64 k] w fun e w' => e = .returned (rawv n (a) ⟨#[]⟩ sv sv) ∧ Rb w w' := by
  have HC := Lib.hid hv.1
  have HO := Lib.hid hv.2
  have hb0 : ¬ (b.size : Int) < 0 := by omega
  have h1 : ¬ 9223372036854775807 < a.size := by omega
  clear hv hs
  go_enter Try.func60, Try.ntmps60
  go_wp2_with fail
  have T0 := Two.start w [.int .i64 n, .string a, .string b, nv, sv] zero5
  generalize (w.alloc (Obj.cells [Value.int .i64 n, .string a, .string b, nv, sv].toArray 50)).alloc (Obj.cells zero5.toArray 50) = wt at *
  obtain ⟨z0, z1, z2, z3, z4⟩ := T0.x.cells5
  have T := Lib.hid T0
  clear T0
  go_still_tail 8, (by kernel_rfl)
  change wpList _ _ _ _ _ wt.drew
  have Td := Lib.hid (T.out.rbs (Rb.drew wt))
  go_wp2_with (refine wpList_store rfl 9 _ _ rfl w.heap.size 1 _ _ [.string (a)] _ rfl rfl Td.out.x rfl sizestr (by simp) (str_one _) ?_)
  intro w2 hb hw
  have T2 := Lib.hid (Td.out.storeX hb hw)
  clear T Td hb hw z0 z1 z2 z3 z4
  go_wp2_with (refine wpList_store rfl 9 _ _ rfl w.heap.size 2 _ _ [_] _ rfl rfl T2.out.x rfl sizestr (by simp) (str_one _) ?_)
  intro w3 hb hw
  have T3 := Lib.hid (T2.out.storeX hb hw)
  have z4 := T3.out.x.cells5.e4
  clear T2 hb hw
  go_wp2_with (refine wpList_store rfl 37 _ _ rfl w.heap.size 3 _ _ [sv] _ rfl rfl T3.out.x HC.out sizestrs (by simp) (one_of HO.out) ?_)
  intro w4 hb hw
  have T4 := Lib.hid (T3.out.storeX hb hw)
  obtain ⟨y0, y1, y2, y3, y4⟩ := T4.out.x.cells5
  clear T3 hb hw z4
  go_wp2_with (refine wpList_store rfl 50 _ _ rfl (w.heap.size + 1) 0 _ _ [_, _, _, _, _] _ rfl rfl T4.out.y rfl sizeref (by simp) (five_one HO.out HO.out) ?_)
  intro w5 hb hw
  have T5 := T4.out.storeY hb hw
  obtain ⟨x0, x1, x2, x3, x4⟩ := T5.y.cells5
  have R5 := Lib.hid T5.rb
  clear T4 hb hw T5 y0 y1 y2 y3 y4
  go_wp2
  exact bodyPost_ret (v := rawv n (a) ⟨#[]⟩ sv sv) (by simp [results, Try.results60, go_sem, x0, x1, x2, x3, x4]) rfl ⟨rfl, R5.out⟩

set_option maxRecDepth 100000 in
theorem rcrash_2 (n : Int) (a b : ByteArray) (nv sv : Value) (k : Nat) (w : World) (hs : ¬ 9223372036854775807 < a.size + b.size) (hv : sv.cells = #[sv] ∧ sv.oneCell' = true) (hk : k ≤ b.size) :
    Calls Try.prog 60 #[rawv n a b nv sv, .int .i64 k] w fun e w' => e = .returned (rawv n (a ++ b.extract 0 k) ⟨#[]⟩ sv sv) ∧ Rb w w' := by
  have HC := Lib.hid hv.1
  have HO := Lib.hid hv.2
  have hb0 : ¬ (b.size : Int) < (k : Int) := by omega
  have h1 : ¬ 9223372036854775807 < a.size + (b.extract 0 k).size := by rw [ByteArray.size_extract]; omega
  have h2 : ¬ 9223372036854775807 < a.size + min k b.size := by omega
  have h3 : ¬ 9223372036854775807 < a.size + k := by omega
  have p1 : (k : Int) ≤ (b.size : Int) := by omega
  have p2 : (0 : Int) ≤ (k : Int) := by omega
  clear hv hs
  go_enter Try.func60, Try.ntmps60
  go_wp2_with fail
  have T0 := Two.start w [.int .i64 n, .string a, .string b, nv, sv] zero5
  generalize (w.alloc (Obj.cells [Value.int .i64 n, .string a, .string b, nv, sv].toArray 50)).alloc (Obj.cells zero5.toArray 50) = wt at *
  obtain ⟨z0, z1, z2, z3, z4⟩ := T0.x.cells5
  have T := Lib.hid T0
  clear T0
  go_still_tail 8, (by kernel_rfl)
  change wpList _ _ _ _ _ wt.drew
  have Td := Lib.hid (T.out.rbs (Rb.drew wt))
  go_wp2_with (refine wpList_store rfl 9 _ _ rfl w.heap.size 1 _ _ [.string (a ++ b.extract 0 k)] _ rfl rfl Td.out.x rfl sizestr (by simp) (str_one _) ?_)
  intro w2 hb hw
  have T2 := Lib.hid (Td.out.storeX hb hw)
  clear T Td hb hw z0 z1 z2 z3 z4
  go_wp2_with (refine wpList_store rfl 9 _ _ rfl w.heap.size 2 _ _ [_] _ rfl rfl T2.out.x rfl sizestr (by simp) (str_one _) ?_)
  intro w3 hb hw
  have T3 := Lib.hid (T2.out.storeX hb hw)
  have z4 := T3.out.x.cells5.e4
  clear T2 hb hw
  go_wp2_with (refine wpList_store rfl 37 _ _ rfl w.heap.size 3 _ _ [sv] _ rfl rfl T3.out.x HC.out sizestrs (by simp) (one_of HO.out) ?_)
  intro w4 hb hw
  have T4 := Lib.hid (T3.out.storeX hb hw)
  obtain ⟨y0, y1, y2, y3, y4⟩ := T4.out.x.cells5
  clear T3 hb hw z4
  go_wp2_with (refine wpList_store rfl 50 _ _ rfl (w.heap.size + 1) 0 _ _ [_, _, _, _, _] _ rfl rfl T4.out.y rfl sizeref (by simp) (five_one HO.out HO.out) ?_)
  intro w5 hb hw
  have T5 := T4.out.storeY hb hw
  obtain ⟨x0, x1, x2, x3, x4⟩ := T5.y.cells5
  have R5 := Lib.hid T5.rb
  clear T4 hb hw T5 y0 y1 y2 y3 y4
  go_wp2
  exact bodyPost_ret (v := rawv n (a ++ b.extract 0 k) ⟨#[]⟩ sv sv) (by simp [results, Try.results60, go_sem, x0, x1, x2, x3, x4]) rfl ⟨rfl, R5.out⟩

set_option maxRecDepth 100000 in
theorem rcrash_3 (n : Int) (a b : ByteArray) (nv sv : Value) (k : Int) (w : World) (hs : ¬ 9223372036854775807 < a.size + b.size) (hv : sv.cells = #[sv] ∧ sv.oneCell' = true) (hk : (b.size : Int) < k) :
    Calls Try.prog 60 #[rawv n a b nv sv, .int .i64 k] w fun e w' => e = .returned (rawv n (a ++ b) ⟨#[]⟩ sv sv) ∧ Rb w w' := by
  have HC := Lib.hid hv.1
  have HO := Lib.hid hv.2
  have hb0 : ¬ k < 0 := by omega
  have h1 : ¬ 9223372036854775807 < a.size + b.size := hs
  have p1 : (b.size : Int) ≤ (b.size : Int) := by omega
  have p2 : (0 : Int) ≤ (b.size : Int) := by omega
  clear hv hs
  go_enter Try.func60, Try.ntmps60
  go_wp2_with fail
  have T0 := Two.start w [.int .i64 n, .string a, .string b, nv, sv] zero5
  generalize (w.alloc (Obj.cells [Value.int .i64 n, .string a, .string b, nv, sv].toArray 50)).alloc (Obj.cells zero5.toArray 50) = wt at *
  obtain ⟨z0, z1, z2, z3, z4⟩ := T0.x.cells5
  have T := Lib.hid T0
  clear T0
  go_still_tail 8, (by kernel_rfl)
  change wpList _ _ _ _ _ wt.drew
  have Td := Lib.hid (T.out.rbs (Rb.drew wt))
  go_wp2_with (refine wpList_store rfl 9 _ _ rfl w.heap.size 1 _ _ [.string (a ++ b)] _ rfl rfl Td.out.x rfl sizestr (by simp) (str_one _) ?_)
  intro w2 hb hw
  have T2 := Lib.hid (Td.out.storeX hb hw)
  clear T Td hb hw z0 z1 z2 z3 z4
  go_wp2_with (refine wpList_store rfl 9 _ _ rfl w.heap.size 2 _ _ [_] _ rfl rfl T2.out.x rfl sizestr (by simp) (str_one _) ?_)
  intro w3 hb hw
  have T3 := Lib.hid (T2.out.storeX hb hw)
  have z4 := T3.out.x.cells5.e4
  clear T2 hb hw
  go_wp2_with (refine wpList_store rfl 37 _ _ rfl w.heap.size 3 _ _ [sv] _ rfl rfl T3.out.x HC.out sizestrs (by simp) (one_of HO.out) ?_)
  intro w4 hb hw
  have T4 := Lib.hid (T3.out.storeX hb hw)
  obtain ⟨y0, y1, y2, y3, y4⟩ := T4.out.x.cells5
  clear T3 hb hw z4
  go_wp2_with (refine wpList_store rfl 50 _ _ rfl (w.heap.size + 1) 0 _ _ [_, _, _, _, _] _ rfl rfl T4.out.y rfl sizeref (by simp) (five_one HO.out HO.out) ?_)
  intro w5 hb hw
  have T5 := T4.out.storeY hb hw
  obtain ⟨x0, x1, x2, x3, x4⟩ := T5.y.cells5
  have R5 := Lib.hid T5.rb
  clear T4 hb hw T5 y0 y1 y2 y3 y4
  go_wp2
  exact bodyPost_ret (v := rawv n (a ++ b) ⟨#[]⟩ sv sv) (by simp [results, Try.results60, go_sem, x0, x1, x2, x3, x4]) rfl ⟨rfl, R5.out⟩

end Go.Proofs.Ytbdgdmieggpmhaa.L3
