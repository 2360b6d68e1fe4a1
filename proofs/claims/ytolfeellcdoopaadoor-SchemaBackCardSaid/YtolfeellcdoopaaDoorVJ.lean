/-
  Layer 2: the bytes of a value.
-/
import Derived.Test.YtolfeellcdoopaaDoorVI
namespace Go.Proofs.YtolfeellcdoopaaDoor
open Go.ChangeShapes Go.WideShapes Go.ChangeAt Go.RowKit Oct By Reg Val

theorem bytesR_of {k n : Int} {l : List UInt8} (h : rightB k n l = true) : bytesR k n l = bytesV k n l := by unfold bytesR; rw [if_pos h]
theorem bytesR_no {k n : Int} {l : List UInt8} (h : rightB k n l = false) : bytesR k n l = [] := by unfold bytesR; rw [h]; rfl
theorem truth_of {n : Int} {l : List UInt8} (h : rightB 2 n l = true) : n = 0 ∨ n = 1 := by
  unfold rightB at h
  simp only [show ¬ ((2 : Int) = 1) by decide, if_false, if_pos, Bool.and_eq_true, decide_eq_true_eq] at h
  omega
theorem lit1 (w : World) (c : UInt8) : Own w.heap.size (w.alloc (.cells #[c8 c] 5)) (.slice (some ⟨w.heap.size, 0, none⟩) 1 1) [c] :=
  owns_lit w w.heap.size 5 [c] (Nat.le_refl _) (by simp [maxLen])

set_option maxRecDepth 100000 in
theorem bytesof_any (k n : Int) (s : ByteArray) (w0 : World) (hs : s.size ≤ maxLen) (h0 : -9223372036854775808 ≤ n) (h1 : n ≤ 9223372036854775807) :
    Calls Tryd.prog 79 #[vv k n s] w0 fun e w' => ∃ v, e = .returned v ∧ Bs w' v (bytesR k n s.data.toList) ∧ Below w0.heap.size w0 w' := by
  have c := fun w => right_any k n s w hs
  cases hr : rightB k n s.data.toList
  · rw [bytesR_no hr]
    rw [hr] at c
    have C := Lib.hid c; clear c hr
    go_enter Tryd.func79, Tryd.ntmps79
    go_wp2_with fail
    refine (C.out _).mono ?_
    rintro e w' ⟨rfl, hb⟩
    have HB := Lib.hid hb; clear hb
    go_wp2
    go_ret
    exact ⟨_, rfl, Bs.nil _, ((Below.refl _ _).alloc (Nat.le_refl _) _).trans (HB.out.mono (by simp))⟩
  rw [bytesR_of hr]
  rcases kinds_of hr with rfl | rfl | rfl
  · rw [hr] at c
    have C := Lib.hid c; clear c hr
    go_enter Tryd.func79, Tryd.ntmps79
    go_wp2_with fail
    refine (C.out _).mono ?_
    rintro e w1 ⟨rfl, hb⟩
    obtain ⟨hc, hf⟩ := bcell hb
    have HB := Lib.hid (((Below.refl w0.heap.size w0).alloc (Nat.le_refl _) (.cells #[.int .i64 1, .int .i64 n, .string s] 70)).trans (hb.mono (by simp))); clear hb
    have hL := Bs.of_owns (lit1 w1 1)
    have CP := Lib.hid (putint_any _ [1] n _ hL (by simp) h0 h1)
    clear hL
    have hz : w0.heap.size < w1.heap.size := World.block_lt_of_cell? w1 _ (show w1.cell? ⟨w0.heap.size, 0, none⟩ = some (.int .i64 1) by rw [hc _ _ (by simp)]; simp)
    go_wp2_with fail
    refine CP.out.mono ?_
    rintro e w2 ⟨g, cap, rfl, h2, h3⟩
    have H2 := Lib.hid h2; have H3 := Lib.hid h3
    clear h2 h3 hc hf CP
    go_wp2
    go_ret
    exact ⟨_, rfl, Bs.of_owns H2.out, HB.out.trans (((Below.refl _ w1).alloc (by omega) _).trans (H3.out.mono (by simp; omega)))⟩
  · have hn := truth_of hr
    have hN : Hid (bytesV 2 n s.data.toList = [2] ++ [UInt8.ofNat n.toNat]) := rfl
    have hcn : Hid (c8 (UInt8.ofNat n.toNat) = .int .u8 n) := by
      show c8 (UInt8.ofNat n.toNat) = .int .u8 n
      rw [c8_nat]; congr 1; omega
    have hn0 : 0 ≤ n := by omega
    have hn1 : n ≤ 1 := by omega
    clear hn
    rw [hr] at c
    have C := Lib.hid c; clear c hr
    go_enter Tryd.func79, Tryd.ntmps79
    go_wp2_with fail
    refine (C.out _).mono ?_
    rintro e w1 ⟨rfl, hb⟩
    obtain ⟨hc, hf⟩ := bcell hb
    have HB := Lib.hid (((Below.refl w0.heap.size w0).alloc (Nat.le_refl _) (.cells #[.int .i64 2, .int .i64 n, .string s] 70)).trans (hb.mono (by simp))); clear hb
    have hz : w0.heap.size < w1.heap.size := World.block_lt_of_cell? w1 _ (show w1.cell? ⟨w0.heap.size, 0, none⟩ = some (.int .i64 2) by rw [hc _ _ (by simp)]; simp)
    have hO := (lit1 w1 2)
    have hO2 := owns_below hO (((Below.refl _ _).alloc (Nat.le_refl _) (.cells #[.int .u8 n] 5)))
    have HO := Lib.hid hO2
    have hL2 : Bs ((w1.alloc (.cells #[c8 2] 5)).alloc (.cells #[.int .u8 n] 5)) (.slice (some ⟨(w1.alloc (.cells #[c8 2] 5)).heap.size, 0, none⟩) 1 1) [UInt8.ofNat n.toNat] := by
      rw [← hcn.out]; exact Bs.of_owns (lit1 _ _)
    rw [show (w1.alloc (.cells #[c8 2] 5)).heap.size = w1.heap.size + 1 by simp] at hL2
    have HL := Lib.hid hL2
    clear hO hO2 hL2
    go_wp2_with (at_builtin; go_must (refine wpList_append_bs rfl _ _ rfl w1.heap.size _ _ [2] _ rfl HO.out rfl HL.out (by simp; omega) (by simp) ?_))
    intro v' w2 hown hb2
    have HO3 := Lib.hid hown
    have HB3 := Lib.hid hb2
    clear hown hb2 hc hf HO HL
    go_wp2
    go_ret
    exact ⟨_, rfl, by rw [hN.out]; exact Bs.of_owns HO3.out, HB.out.trans ((((Below.refl _ w1).alloc (by omega) _).alloc (by simp; omega) _).trans (HB3.out.mono (by omega)))⟩
  · rw [hr] at c
    have hsz := text_size hr
    have C := Lib.hid c; clear c hr
    go_enter Tryd.func79, Tryd.ntmps79
    go_wp2_with fail
    refine (C.out _).mono ?_
    rintro e w1 ⟨rfl, hb⟩
    obtain ⟨hc, hf⟩ := bcell hb
    have HB := Lib.hid (((Below.refl w0.heap.size w0).alloc (Nat.le_refl _) (.cells #[.int .i64 3, .int .i64 n, .string s] 70)).trans (hb.mono (by simp))); clear hb
    have hL := Bs.of_owns (lit1 w1 3)
    have CP := Lib.hid (puttext_any _ [3] s _ hL (by simp) (by omega))
    clear hL
    have hz : w0.heap.size < w1.heap.size := World.block_lt_of_cell? w1 _ (show w1.cell? ⟨w0.heap.size, 0, none⟩ = some (.int .i64 3) by rw [hc _ _ (by simp)]; simp)
    go_wp2_with fail
    refine CP.out.mono ?_
    rintro e w2 ⟨g, cap, rfl, h2, h3⟩
    have H2 := Lib.hid h2; have H3 := Lib.hid h3
    clear h2 h3 hc hf CP
    go_wp2
    go_ret
    exact ⟨_, rfl, Bs.of_owns H2.out, HB.out.trans (((Below.refl _ w1).alloc (by omega) _).trans (H3.out.mono (by simp; omega)))⟩
end Go.Proofs.YtolfeellcdoopaaDoor
