import Derived.Test.YtbdgdmieggpmhaaM
namespace Go.Proofs.Ytbdgdmieggpmhaa
open Go.ChangeShapes Go.WideShapes Go.ChangeAt Go.RowKit Oct By Reg

theorem unzig_bd (p : Nat) (h : p < 18446744073709551616) : -9223372036854775808 ≤ unzig p ∧ unzig p ≤ 9223372036854775807 := by
  unfold unzig
  split <;> omega
theorem zig_unzig (p : Nat) : zig (unzig p) = p := by
  unfold zig unzig
  split <;> split <;> omega
theorem unzig_zig (n : Int) : unzig (zig n) = n := by
  unfold zig unzig
  split <;> split <;> omega
theorem int_unzig (p : Nat) : intB (unzig p) = uintB p := by rw [intB, zig_unzig]

theorem gu_at (xs ys zs : List UInt8) (n : Nat) (i : Int) (hn : n < 18446744073709551616) (h : ys = xs ++ (uintB n ++ zs)) (hi : i = xs.length) : gu ys i = some (n, sizeN n) := by
  subst h hi
  unfold gu
  rw [if_pos ⟨by omega, by rw [List.length_append]; omega⟩, Int.toNat_natCast, List.drop_left, getU_uintB n hn]
theorem gt_at (xs ys s zs : List UInt8) (i most : Int) (hs : s.length < 18446744073709551616) (hm : (s.length : Int) ≤ most) (h : ys = xs ++ (uintB s.length ++ (s ++ zs))) (hi : i = xs.length) : gt ys i most = some (s, sizeN s.length + s.length) := by
  have hg := gu_at xs ys (s ++ zs) s.length i hs h hi
  unfold gt
  rw [hg]
  simp only []
  have hul : (uintB s.length).length = sizeN s.length := rfl
  rw [if_pos ⟨hm, by subst h hi; simp only [List.length_append, hul]; omega⟩]
  subst h hi
  congr 2
  rw [Int.toNat_natCast, ← List.drop_drop, List.drop_left, ← hul, List.drop_left, List.take_left]

end Go.Proofs.Ytbdgdmieggpmhaa
