import Derived.Test.YtkngemckhbgbjaaE
import Derived.Lib.SlBytesConst
namespace Go.Proofs.Ytkngemckhbgbjaa
open Go.ChangeShapes Go.WideShapes Go.ChangeAt Go.RowKit Oct By

theorem Put.conv {w w' : World} {xs : List UInt8} {v : Value} (h : w'.ownsRow w.heap.size 5 1 v xs.length (xs.map c8)) : (convert 22 9 v).run Try.prog w' = .ok (.string (str xs)) w' :=
  run_convert_Bs (Bs.of_owns h) 22 5 9 Try.underlying22 Try.underlying5 Try.underlying9

theorem u300 : [] ++ uintB (300 : Nat) = [172, 2] := by
  rw [uintB_big (by decide), uintB_small (by decide)]; rfl
theorem i3 : [] ++ intB (-3) = [5] := by
  unfold intB zig; rw [if_neg (by decide)]
  rw [show (-2 * -3 - 1 : Int).toNat = 5 from rfl, uintB_small (by decide)]; rfl
theorem tab : [] ++ textB [97, 98] = [2, 97, 98] := by
  unfold textB; rw [uintB_small (by decide)]; rfl
theorem sumWiki : sumN [87, 105, 107, 105, 112, 101, 100, 105, 97] = 300286872 := by decide
theorem sumNil : sumN [] = 1 := by decide

set_option maxRecDepth 100000 in
theorem lives_any (w : World) : Calls Try.prog 19 #[] w fun e w' => e = .returned (.bool true) ∧ Below w.heap.size w w' := by
  have hts : ∀ xs, (str xs).toList = xs := fun xs => Lib.toList_data _
  go_enter Try.func19, Try.ntmps19
  go_wp2_with fail
  have c1 := putuint_any (.slice none 0 0) [] 300 w (Bs.nil w) (by simp) (by unfold U64; omega)
  rw [u300] at c1
  refine c1.mono ?_
  rintro e w1 ⟨g, cap, rfl, h2, h3⟩
  have k1 := Put.conv h2
  simp only [List.length_cons, List.length_nil, Nat.reduceAdd] at k1
  have H3 := Lib.hid h3
  clear c1 h2 h3
  go_wp2_with fail
  clear k1
  have c1 := putint_any (.slice none 0 0) [] (-3) w1 (Bs.nil w1) (by simp) (by omega) (by omega)
  rw [i3] at c1
  refine c1.mono ?_
  rintro e w2 ⟨g2, cap2, rfl, h2, h3⟩
  have k1 := Put.conv h2
  simp only [List.length_cons, List.length_nil, Nat.reduceAdd] at k1
  have H4 := Lib.hid (H3.out.trans (h3.mono H3.out.size))
  clear c1 h2 h3 H3
  go_wp2_with fail
  clear k1
  have c1 := puttext_any (.slice none 0 0) [] ⟨#[97, 98]⟩ w2 (Bs.nil w2) (by simp) (by decide)
  rw [show (⟨#[97, 98]⟩ : ByteArray).data.toList = [97, 98] from rfl, tab] at c1
  refine c1.mono ?_
  rintro e w3 ⟨g3, cap3, rfl, h2, h3⟩
  have k1 := Put.conv h2
  simp only [List.length_cons, List.length_nil, Nat.reduceAdd] at k1
  have H5 := Lib.hid (H4.out.trans (h3.mono H4.out.size))
  clear c1 h2 h3 H4
  have kcs := fun (w : World) (C : Array Value) (n c : Nat) => Lib.run_convert_bytes_const (P := Try.prog) w 22 5 C n c Try.underlying22 Try.underlying5
  go_wp2_with fail
  clear kcs
  clear k1
  have hL := Bs.marked w3 5 (9, 10) [87, 105, 107, 105, 112, 101, 100, 105, 97] (by simp [maxLen])
  have c1 := sum_any _ _ _ hL (by simp)
  rw [sumWiki] at c1
  refine c1.mono ?_
  rintro e w4 ⟨rfl, rfl⟩
  have H6 := Lib.hid (H5.out.alloc H5.out.size (.cells (List.map c8 [87, 105, 107, 105, 112, 101, 100, 105, 97]).toArray 5 (9, 10)))
  clear c1 hL H5
  go_wp2_with fail
  refine (sum_any (.slice none 0 0) [] _ (Bs.nil _) (by simp)).mono ?_
  rintro e w5 ⟨rfl, rfl⟩
  rw [sumNil]
  go_wp2_with fail
  go_ret
  exact ⟨rfl, H6.out⟩
end Go.Proofs.Ytkngemckhbgbjaa
