/-
  Layer 2: Put; the document's examples.
-/
import Derived.Test.YtefjfiihfbkjoaaDoorVJ
namespace Go.Proofs.YtefjfiihfbkjoaaDoor
open Go.ChangeShapes Go.WideShapes Go.ChangeAt Go.RowKit Oct By Reg Val

theorem bytesR_len (k n : Int) (s : ByteArray) (h0 : -9223372036854775808 ≤ n) (h1 : n ≤ 9223372036854775807) : (bytesR k n s.data.toList).length ≤ 200 := by
  cases hr : rightB k n s.data.toList
  · rw [bytesR_no hr]; simp
  · rw [bytesR_of hr]
    have hi := intB_len h0 h1
    rcases kinds_of hr with rfl | rfl | rfl
    · show (1 :: intB n).length ≤ 200
      simp; omega
    · show ([2, UInt8.ofNat n.toNat] : List UInt8).length ≤ 200
      simp
    · show (3 :: textB s.data.toList).length ≤ 200
      have hlen : s.data.toList.length = s.size := Array.length_toList
      have := text_size hr
      unfold textB
      rw [List.length_cons, List.length_append, uintB_length]
      have := sizeN_le10 (n := s.data.toList.length) (by omega)
      omega

set_option maxRecDepth 100000 in
theorem put_any (b : Value) (xs : List UInt8) (k n : Int) (s : ByteArray) (w0 : World) (hb0 : Bs w0 b xs) (hx : xs.length ≤ 1000) (hs : s.size ≤ maxLen) (h0 : -9223372036854775808 ≤ n) (h1 : n ≤ 9223372036854775807) :
    Calls Tryd.prog 28 #[b, vv k n s] w0 fun e w' => ∃ v, e = .returned v ∧ Own w0.heap.size w' v (xs ++ bytesR k n s.data.toList) ∧ Below w0.heap.size w0 w' := by
  have hl := bytesR_len k n s h0 h1
  have C := Lib.hid (fun w => bytesof_any k n s w hs h0 h1)
  obtain ⟨ys, hys⟩ : ∃ ys, ys = bytesR k n s.data.toList := ⟨_, rfl⟩
  rw [← hys] at hl C ⊢
  clear hys
  obtain ⟨ao, cap, rfl, _, _⟩ := hb0.len
  have HB0 := Lib.hid hb0; clear hb0
  go_enter Tryd.func28, Tryd.ntmps28
  go_wp2_with fail
  refine (C.out _).mono ?_
  rintro e w1 ⟨u, rfl, hu, hb⟩
  have HB := Lib.hid (((Below.refl w0.heap.size w0).alloc (Nat.le_refl _) (.cells #[.int .i64 k, .int .i64 n, .string s] 23)).trans (hb.mono (by simp))); clear hb
  have hsz := HB.out.size
  obtain ⟨ao1, cap1, rfl, _, _⟩ := hu.len
  have HU := Lib.hid hu; clear hu
  have CC := Lib.hid (concat_any w1.heap.size (.slice ao xs.length cap) (.slice ao1 ys.length cap1) xs ys (w1.alloc (.cells #[.slice ao xs.length cap, .slice ao1 ys.length cap1] 37)) (by simp) (by simp) ((HB0.out.below HB.out).below ((Below.refl _ _).alloc (Nat.le_refl _) _)) (HU.out.below ((Below.refl _ _).alloc (Nat.le_refl _) _)) hx (by omega))
  go_wp2_with fail
  refine CC.out.mono ?_
  rintro e w2 ⟨v, rfl, ho, hb⟩
  have HO := Lib.hid ho; have HB2 := Lib.hid hb
  clear ho hb CC
  go_wp2
  go_ret
  refine ⟨_, rfl, ?_, HB.out.trans (((Below.refl _ w1).alloc hsz _).trans (HB2.out.mono (by simp; omega)))⟩
  exact HO.out.mono (by simp; omega)

theorem light_any (k n : Int) (s : ByteArray) (w : World) (hs : s.size ≤ maxLen) :
    Calls Tryd.prog 9 #[vv k n s] w fun e w' => e = .returned (.bool (decide (s.size ≤ 100))) ∧ Below w.heap.size w w' := by
  have hb := Lib.hid ((Below.refl w.heap.size w).alloc (Nat.le_refl _) (.cells #[.int .i64 k, .int .i64 n, .string s] 23))
  unfold maxLen at hs
  go_enter Tryd.func9, Tryd.ntmps9
  go_wp2
  go_ret
  exact ⟨ret_bool (by rw [Bool.eq_iff_iff]; simp; omega), hb.out⟩

set_option maxRecDepth 100000 in
theorem lives_any (w : World) (htab : Tab w) : Calls Tryd.prog 10 #[] w fun e w' => e = .returned (.bool true) ∧ Below w.heap.size w w' := by
  have HT := Lib.hid htab; clear htab
  have hts : ∀ xs, (str xs).toList = xs := fun xs => Lib.toList_data _
  have Ht := Lib.hid hts; clear hts
  go_enter Tryd.func10, Tryd.ntmps10
  go_wp2_with fail
  refine (vtext_any _ _).mono ?_
  rintro e w1 ⟨rfl, hb⟩
  have HB := Lib.hid hb; clear hb
  go_wp2_with fail
  refine (print_any _ _ _ _ (by decide) (by omega) (by omega) (HT.out.rb HB.out)).mono ?_
  rintro e w2 ⟨rfl, hb⟩
  have HB2 := Lib.hid (Rb.trans _ _ _ HB.out hb); clear hb HB
  rw [show strV (printV 3 0 (⟨#[97, 34, 98]⟩ : ByteArray).data.toList) = .string ⟨#[34, 97, 92, 34, 98, 34]⟩ from rfl]
  go_wp2_with fail
  refine (vbool_any _ _).mono ?_
  rintro e w3 ⟨rfl, hb⟩
  have HB3 := Lib.hid (Rb.trans _ _ _ HB2.out hb); clear hb HB2
  go_wp2_with fail
  refine (put_any (.slice none 0 0) [] _ _ _ _ (Bs.nil _) (by simp) (by decide) (by decide) (by decide)).mono ?_
  rintro e w4 ⟨v, rfl, ho, hb⟩
  have HB4 := Lib.hid (Rb.trans _ _ _ HB3.out hb); clear hb HB3
  have kc := run_convert_Bs (P := Tryd.prog) (Bs.of_owns ho) 37 5 9 Tryd.underlying37 Tryd.underlying5 Tryd.underlying9
  clear ho
  rw [show str ([] ++ bytesR 2 1 (⟨#[]⟩ : ByteArray).data.toList) = ⟨#[2, 1]⟩ from rfl] at kc
  go_wp2_with fail
  clear kc
  refine (vint_any _ _).mono ?_
  rintro e w5 ⟨rfl, hb⟩
  have HB5 := Lib.hid (Rb.trans _ _ _ HB4.out hb); clear hb HB4
  go_wp2_with fail
  refine (print_any _ _ _ _ (by decide) (by omega) (by omega) (HT.out.rb HB5.out)).mono ?_
  rintro e w6 ⟨rfl, hb⟩
  have HB6 := Lib.hid (Rb.trans _ _ _ HB5.out hb); clear hb HB5
  rw [show strV (printV 1 (-7) (⟨#[]⟩ : ByteArray).data.toList) = .string ⟨#[45, 55]⟩ by
    unfold printV textV; rw [if_pos (by decide), if_pos rfl, Lib.itoa, if_pos (by decide), show (-7 : Int).natAbs = 7 from rfl, dec_small (by decide)]; rfl]
  go_wp2_with fail
  go_ret
  exact ⟨rfl, HB6.out⟩
end Go.Proofs.YtefjfiihfbkjoaaDoor
