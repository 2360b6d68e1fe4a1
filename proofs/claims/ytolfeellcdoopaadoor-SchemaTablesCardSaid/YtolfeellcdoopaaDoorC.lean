import Derived.Test.YtolfeellcdoopaaDoorB
import Derived.Lib.Zigzag
namespace Go.Proofs.YtolfeellcdoopaaDoor
open Go.ChangeShapes Go.WideShapes Go.ChangeAt Go.RowKit Oct By

theorem uintB_length (n : Nat) : (uintB n).length = sizeN n := rfl

theorem zig_pos {n : Int} (h0 : 0 ≤ n) (h1 : n ≤ 9223372036854775807) : bits BinOp.xor IntKind.u64 (n * 2) (n / 9223372036854775808) = ((zig n : Nat) : Int) := by
  have e : n / 9223372036854775808 = ((0 : Nat) : Int) := by omega
  have e2 : n * 2 = ((2 * n).toNat : Int) := by omega
  rw [e, e2, bits_xor_u64_nat _ _ (by omega) (by decide), Nat.xor_zero]
  simp only [zig, if_pos h0]
theorem zig_neg {n : Int} (h0 : n < 0) (h1 : -9223372036854775808 ≤ n) :
    bits BinOp.xor IntKind.u64 (IntKind.u64.wrap (IntKind.u64.wrap n * 2)) (IntKind.u64.wrap (n / 9223372036854775808)) = ((zig n : Nat) : Int) := by
  have e1 : IntKind.u64.wrap (IntKind.u64.wrap n * 2) = (((2 * n + 18446744073709551616).toNat : Nat) : Int) := by
    rw [IntKind.wrap_u64, IntKind.wrap_u64]
    omega
  have e2 : IntKind.u64.wrap (n / 9223372036854775808) = ((2 ^ 64 - 1 : Nat) : Int) := by
    rw [IntKind.wrap_u64]
    omega
  rw [e1, e2, bits_xor_u64_nat _ _ (by omega) (by decide), Nat.xor_comm, Lib.xor_ones64 _ (by omega)]
  simp only [zig, if_neg (show ¬ 0 ≤ n by omega)]
  omega
theorem zig_lt {n : Int} (h0 : -9223372036854775808 ≤ n) (h1 : n ≤ 9223372036854775807) : zig n < U64 := by
  unfold zig U64
  split <;> omega

set_option maxRecDepth 100000 in
theorem putint_any (v : Value) (xs : List UInt8) (n : Int) (w : World) (hb : Bs w v xs) (hx : xs.length ≤ 100000000) (h0 : -9223372036854775808 ≤ n) (h1 : n ≤ 9223372036854775807) :
    Calls Tryd.prog 94 #[v, .int .i64 n] w (Put w 5 (xs ++ intB n)) := by
  obtain ⟨zs, hzs⟩ : ∃ zs, zs = xs ++ intB n := ⟨_, rfl⟩
  have Hput := Lib.hid (putuint_any v xs (zig n) w hb hx (zig_lt h0 h1))
  rw [show xs ++ uintB (zig n) = zs from hzs.symm] at Hput
  rw [← hzs]
  clear hzs
  by_cases hn : 0 ≤ n
  · have Hz := Lib.hid (zig_pos hn h1)
    go_enter Tryd.func94, Tryd.ntmps94
    go_wp2_with fail
    rw [Hz.out]
    refine Hput.out.mono ?_
    rintro e w' ⟨g, cap, rfl, h2, h3⟩
    go_wp2
    go_ret
    exact ⟨g, cap, rfl, h2, h3⟩
  · have hn' : n < 0 := by omega
    have Hz := Lib.hid (zig_neg hn' h0)
    go_enter Tryd.func94, Tryd.ntmps94
    go_wp2_with fail
    rw [Hz.out]
    refine Hput.out.mono ?_
    rintro e w' ⟨g, cap, rfl, h2, h3⟩
    go_wp2
    go_ret
    exact ⟨g, cap, rfl, h2, h3⟩

theorem c8_nat (m : Nat) : c8 (UInt8.ofNat m) = .int .u8 ((m : Int) % 256) := by
  unfold c8; rw [UInt8.toNat_ofNat']; rfl

set_option maxRecDepth 100000 in
theorem refuint_nat : ∀ (n : Nat) (w : World), n < U64 → Calls Tryd.prog 96 #[.int .u64 n] w (Put w 5 (uintB n)) := by
  intro n
  induction n using Nat.strongRecOn with
  | ind n ih =>
    intro w hn
    obtain ⟨i0, hi, hz0, hz1, hz2⟩ := info_parts info8
    by_cases hlt : n < 128
    · have Hc := Lib.hid (show c8 (UInt8.ofNat n) = .int .u8 (n : Int) by rw [c8_nat]; congr 1; omega)
      clear hn ih
      go_enter Tryd.func96, Tryd.ntmps96
      go_wp2_with fail
      go_ret
      rw [uintB_small hlt]
      refine Put.mk (v := .slice (some ⟨w.heap.size, 0, none⟩) 1 1) ?_ (by simp) ((Below.refl _ _).alloc (Nat.le_refl _) _)
      rw [← Hc.out]
      exact owns_lit w w.heap.size _ [UInt8.ofNat n] (Nat.le_refl _) (by simp [maxLen])
    · have hge : 128 ≤ n := by omega
      have h10 := sizeN_le10 hn
      have hs := sizeN_big hge
      have hp := sizeN_pos (n / 128)
      rw [← uintB_length] at hp hs h10
      have Hc := Lib.hid (show c8 (UInt8.ofNat (n % 128 + 128)) = .int .u8 ((n : Int) % 128 + 128) by rw [c8_nat]; congr 1; omega)
      have Hih := Lib.hid (fun w => ih (n / 128) (by omega) w (by unfold U64 at *; omega))
      clear ih
      have Hw : IntKind.u64.wrap ((n : Int) / 128) = (n : Int) / 128 := by rw [IntKind.wrap_u64]; unfold U64 at hn; omega
      rw [uintB_big hge]
      obtain ⟨x, hx⟩ : ∃ x, x = UInt8.ofNat (n % 128 + 128) := ⟨_, rfl⟩
      rw [← hx] at Hc ⊢
      clear hx
      have ez : ∃ zs, zs = uintB (n / 128) := ⟨_, rfl⟩
      obtain ⟨zs, hzs⟩ := ez
      rw [← hzs] at Hih hp ⊢
      rw [hs, ← uintB_length, ← hzs] at h10
      clear hn hzs hs
      go_enter Tryd.func96, Tryd.ntmps96
      go_wp2_with fail
      clear Hw
      refine (Hih.out _).mono ?_
      rintro e w' ⟨g, cap, rfl, h2, h3⟩
      have hL := owns_lit w w.heap.size 5 [x] (Nat.le_refl _) (by simp [maxLen])
      have hL2 := Lib.hid (owns_below hL (by rw [show (w.alloc (Obj.cells ([x].map c8).toArray 5)) = w.alloc (.cells #[.int .u8 ((n : Int) % 128 + 128)] 5) by rw [← Hc.out]; rfl]; exact h3))
      clear hL
      have hsz : w.heap.size ≤ w'.heap.size := by have := h3.size; simp at this; omega
      have H2 := Lib.hid h2
      have H3 := Lib.hid h3
      clear h2 h3
      go_wp2_with (at_builtin; go_must (refine wpList_append_fo _ rfl _ _ 44 rfl 5 i0 (.int .u8 0) 1 1 Tryd.underlying44 hi hz0 hz1 hz2 rfl (by decide) w.heap.size _ 1 _ rfl (.inr hL2.out) ⟨g, 0, none⟩ zs.length cap (zs.map c8) rfl ?c0 ?c1 c8_one (by omega) ?c3 ?c4 hsz ?_))
      case c0 => simp
      case c1 => exact H2.out.cells rfl
      case c3 => unfold maxLen; omega
      case c4 => omega
      intro v' w1 hown hb1
      have HP := Lib.hid (Put.mk (E := 5) (xs := x :: zs) (w := w) (v := v') (w' := w1) (by rw [show (x :: zs).length = 1 + zs.length from Nat.add_comm _ _]; exact hown) (by simp)
        ((((Below.refl _ _).alloc (Nat.le_refl _) _).trans (H3.out.mono (by simp))).trans hb1))
      clear hown hb1
      go_wp2
      go_ret
      exact HP.out

theorem refuint_any (m : Int) (w : World) (h0 : 0 ≤ m) (h1 : m.toNat < U64) : Calls Tryd.prog 96 #[.int .u64 m] w (Put w 5 (uintB m.toNat)) := by
  obtain ⟨n, rfl⟩ := Int.eq_ofNat_of_zero_le h0
  exact refuint_nat n w h1
end Go.Proofs.YtolfeellcdoopaaDoor
