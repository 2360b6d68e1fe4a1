/-
  Layer 2: Put; the document's examples.
-/
import Derived.Test.YtolfeellcdoopaaDoorVJ
namespace Go.Proofs.YtolfeellcdoopaaDoor
open Go.ChangeShapes Go.WideShapes Go.ChangeAt Go.RowKit Oct By Reg Val

theorem bytesR_len (k n : Int) (s : ByteArray) (h0 : -9223372036854775808 ≤ n) (h1 : n ≤ 9223372036854775807) : (bytesR k n s.data.toList).length ≤ 200 := by
  cases hr : rightB k n s.data.toList
  · rw [bytesR_no hr]; simp
  · rw [bytesR_of hr]
    have hi := intB_len h0 h1
    rcases kinds_of hr with rfl | rfl | rfl
    · show (1 :: intB n).length ≤ 200
      simp; omega
    · show ([2, UInt8.ofNat n.toNat] : List UInt8).length ≤ 200
      simp
    · show (3 :: textB s.data.toList).length ≤ 200
      have hlen : s.data.toList.length = s.size := Array.length_toList
      have := text_size hr
      unfold textB
      rw [List.length_cons, List.length_append, uintB_length]
      have := sizeN_le10 (n := s.data.toList.length) (by omega)
      omega

set_option maxRecDepth 100000 in
theorem put_any (b : Value) (xs : List UInt8) (k n : Int) (s : ByteArray) (w0 : World) (hb0 : Bs w0 b xs) (hx : xs.length ≤ 1000) (hs : s.size ≤ maxLen) (h0 : -9223372036854775808 ≤ n) (h1 : n ≤ 9223372036854775807) :
    Calls Tryd.prog 60 #[b, vv k n s] w0 fun e w' => ∃ v, e = .returned v ∧ Own w0.heap.size w' v (xs ++ bytesR k n s.data.toList) ∧ Below w0.heap.size w0 w' := by
  have hl := bytesR_len k n s h0 h1
  have C := Lib.hid (fun w => bytesof_any k n s w hs h0 h1)
  obtain ⟨ys, hys⟩ : ∃ ys, ys = bytesR k n s.data.toList := ⟨_, rfl⟩
  rw [← hys] at hl C ⊢
  clear hys
  obtain ⟨ao, cap, rfl, _, _⟩ := hb0.len
  have HB0 := Lib.hid hb0; clear hb0
  go_enter Tryd.func60, Tryd.ntmps60
  go_wp2_with fail
  refine (C.out _).mono ?_
  rintro e w1 ⟨u, rfl, hu, hb⟩
  have HB := Lib.hid (((Below.refl w0.heap.size w0).alloc (Nat.le_refl _) (.cells #[.int .i64 k, .int .i64 n, .string s] 70)).trans (hb.mono (by simp))); clear hb
  have hsz := HB.out.size
  obtain ⟨ao1, cap1, rfl, _, _⟩ := hu.len
  have HU := Lib.hid hu; clear hu
  have CC := Lib.hid (concat_any w1.heap.size (.slice ao xs.length cap) (.slice ao1 ys.length cap1) xs ys (w1.alloc (.cells #[.slice ao xs.length cap, .slice ao1 ys.length cap1] 44)) (by simp) (by simp) ((HB0.out.below HB.out).below ((Below.refl _ _).alloc (Nat.le_refl _) _)) (HU.out.below ((Below.refl _ _).alloc (Nat.le_refl _) _)) hx (by omega))
  go_wp2_with fail
  refine CC.out.mono ?_
  rintro e w2 ⟨v, rfl, ho, hb⟩
  have HO := Lib.hid ho; have HB2 := Lib.hid hb
  clear ho hb CC
  go_wp2
  go_ret
  refine ⟨_, rfl, ?_, HB.out.trans (((Below.refl _ w1).alloc hsz _).trans (HB2.out.mono (by simp; omega)))⟩
  exact HO.out.mono (by simp; omega)

end Go.Proofs.YtolfeellcdoopaaDoor
