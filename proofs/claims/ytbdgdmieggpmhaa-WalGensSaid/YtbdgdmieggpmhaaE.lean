import Derived.Test.YtbdgdmieggpmhaaD
namespace Go.Proofs.Ytbdgdmieggpmhaa
open Go.ChangeShapes Go.WideShapes Go.ChangeAt Go.RowKit Oct By

theorem or_sum : ∀ (x y : Nat), x < 65536 → y < 65536 → bits BinOp.or IntKind.u32 ((y : Int) * 65536) (x : Int) = ((y * 65536 + x : Nat) : Int) := by
  intro x y hx hy
  have e : (y : Int) * 65536 = ((y * 65536 : Nat) : Int) := by omega
  rw [e, u32_or_nat _ _ (by omega) (by omega)]
  congr 1
  rw [show y * 65536 = y <<< 16 by rw [Nat.shiftLeft_eq]]
  rw [← Nat.shiftLeft_add_eq_or_of_lt (by omega)]

def s1 (xs : List UInt8) (k : Nat) : Nat := (adl (xs.take k) (1, 0)).1
def s2 (xs : List UInt8) (k : Nat) : Nat := (adl (xs.take k) (1, 0)).2
theorem s1_lt (xs : List UInt8) (k : Nat) : s1 xs k < 65521 := (adl_lt _ _ (by decide) (by decide)).1
theorem s2_lt (xs : List UInt8) (k : Nat) : s2 xs k < 65521 := (adl_lt _ _ (by decide) (by decide)).2
theorem s1_succ (xs : List UInt8) (k : Nat) (h : k < xs.length) : s1 xs (k + 1) = (s1 xs k + bt xs k) % 65521 := by
  unfold s1; rw [adl_take xs k h]; rfl
theorem s2_succ (xs : List UInt8) (k : Nat) (h : k < xs.length) : s2 xs (k + 1) = (s2 xs k + s1 xs (k + 1)) % 65521 := by
  rw [s1_succ xs k h]; unfold s2; rw [adl_take xs k h]; rfl
theorem s_all (xs : List UInt8) (k : Nat) (h : xs.length ≤ k) : s2 xs k * 65536 + s1 xs k = sumN xs := by
  unfold s1 s2 sumN; rw [List.take_of_length_le h]

set_option maxRecDepth 100000 in
theorem sum_any (v : Value) (xs : List UInt8) (w : World) (hb : Bs w v xs) (hx : xs.length ≤ 100000000) :
    Calls Try.prog 47 #[v] w fun e w' => e = .returned (.int .u32 (sumN xs)) ∧ w = w' := by
  obtain ⟨ao, cap, rfl, h2, h3⟩ := hb.len
  have Hc : Hid (0 < xs.length → ∃ b o, ao = some ⟨b, o, none⟩ ∧ ∀ k, k < xs.length → w.cell? ⟨b, o + k, none⟩ = some (.int .u8 (bt xs k : Int))) := fun h => by
    obtain ⟨b, o, cap', e, _, _, hc⟩ := hb.form h
    cases e
    exact ⟨b, o, rfl, hc⟩
  clear hb h3
  go_enter Try.func47, Try.ntmps47
  go_wp2
  go_loop [3, 4, 8] (fun x y i => ∃ k : Nat, k ≤ xs.length ∧ i = .int .i64 k ∧ x = .int .u32 (s1 xs k) ∧ y = .int .u32 (s2 xs k)) (fun _ _ i => xs.length - (intOf i).toNat)
  case atStart => exact ⟨0, Nat.zero_le _, rfl, rfl, rfl⟩
  case round =>
    obtain ⟨k, hk, rfl, rfl, rfl⟩ := hrel
    have b1 := s1_lt xs k
    have b2 := s2_lt xs k
    have b3 := bt_lt xs k
    by_cases hlt : k < xs.length
    · obtain ⟨b, o, rfl, hc⟩ := Hc.out (by omega)
      have hcell := hc k hlt
      clear hc
      go_wp2
      go_round
      case rel => exact ⟨k + 1, by omega, by go_num, by rw [s1_succ xs k hlt]; go_num, by rw [s2_succ xs k hlt, s1_succ xs k hlt]; go_num⟩
      case measure => simp [intOf]; omega
    · have ho := Lib.hid (or_sum (s1 xs k) (s2 xs k) (by omega) (by omega))
      have hs := Lib.hid (s_all xs k (by omega))
      go_wp2
      go_ret
      refine ⟨?_, rfl⟩
      rw [ho.out, hs.out]
      rfl

set_option maxRecDepth 100000 in
theorem refsum_any (v : Value) (xs : List UInt8) (w : World) (hb : Bs w v xs) (hx : xs.length ≤ 100000000) :
    Calls Try.prog 52 #[v] w fun e w' => e = .returned (.int .u32 (sumN xs)) ∧ w = w' := by
  obtain ⟨ao, cap, rfl, h2, h3⟩ := hb.len
  have Hc : Hid (0 < xs.length → ∃ b o, ao = some ⟨b, o, none⟩ ∧ ∀ k, k < xs.length → w.cell? ⟨b, o + k, none⟩ = some (.int .u8 (bt xs k : Int))) := fun h => by
    obtain ⟨b, o, cap', e, _, _, hc⟩ := hb.form h
    cases e
    exact ⟨b, o, rfl, hc⟩
  clear hb h3
  go_enter Try.func52, Try.ntmps52
  go_wp2
  go_loop [3, 4, 9] (fun x y i => ∃ k : Nat, k ≤ xs.length ∧ i = .int .i64 k ∧ x = .int .i64 (s1 xs k) ∧ y = .int .i64 (s2 xs k)) (fun _ _ i => xs.length - (intOf i).toNat)
  case atStart => exact ⟨0, Nat.zero_le _, rfl, rfl, rfl⟩
  case round =>
    obtain ⟨k, hk, rfl, rfl, rfl⟩ := hrel
    have b1 := s1_lt xs k
    have b2 := s2_lt xs k
    have b3 := bt_lt xs k
    by_cases hlt : k < xs.length
    · obtain ⟨b, o, rfl, hc⟩ := Hc.out (by omega)
      have hcell := hc k hlt
      clear hc
      go_wp2
      go_round
      case rel => exact ⟨k + 1, by omega, by go_num, by rw [s1_succ xs k hlt]; go_num, by rw [s2_succ xs k hlt, s1_succ xs k hlt]; go_num⟩
      case measure => simp [intOf]; omega
    · have hs := Lib.hid (s_all xs k (by omega))
      go_wp2
      go_ret
      refine ⟨?_, rfl⟩
      rw [← hs.out]
      go_num
end Go.Proofs.Ytbdgdmieggpmhaa
