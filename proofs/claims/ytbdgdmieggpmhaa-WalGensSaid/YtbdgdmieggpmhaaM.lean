import Derived.Test.YtbdgdmieggpmhaaL
namespace Go.Proofs.Ytbdgdmieggpmhaa
open Go.ChangeShapes Go.WideShapes Go.ChangeAt Go.RowKit Oct By Reg

def wacc (ys : List UInt8) : Nat → Nat
  | 0 => 0
  | k + 1 => wacc ys k * 256 + bt ys k
theorem wacc_lt (ys : List UInt8) : ∀ k, wacc ys k < 256 ^ k
  | 0 => by simp [wacc]
  | k + 1 => by
    have := wacc_lt ys k
    have hb := bt_lt ys k
    rw [wacc, Nat.pow_succ]
    omega
theorem or_byte : ∀ (x c : Nat), x < 16777216 → c < 256 → bits BinOp.or IntKind.u32 ((x : Int) * 256) (c : Int) = ((x * 256 + c : Nat) : Int) := by
  intro x c hx hc
  have e : (x : Int) * 256 = ((x * 256 : Nat) : Int) := by omega
  rw [e, u32_or_nat _ _ (by omega) (by omega)]
  congr 1
  rw [show x * 256 = x <<< 8 by rw [Nat.shiftLeft_eq]]
  rw [← Nat.shiftLeft_add_eq_or_of_lt (by omega)]

def tupW (xs : List UInt8) (i : Int) : Value := if 0 ≤ i ∧ i ≤ (xs.length : Int) - 4 then .tuple #[.int .u32 (wacc (xs.drop i.toNat) 4), .int .i64 (i + 4), .bool true] else .tuple #[.int .u32 0, .int .i64 0, .bool false]

theorem word_take (ys : List UInt8) (h : 4 ≤ ys.length) : wordB (wacc ys 4) = ys.take 4 := by
  match ys, h with
  | a :: b :: c :: d :: l, _ =>
    have ha := UInt8.toNat_lt a
    have hb := UInt8.toNat_lt b
    have hc := UInt8.toNat_lt c
    have hd := UInt8.toNat_lt d
    simp only [wacc, bt, wordB, List.take_succ_cons, List.take_zero]
    simp only [List.getD_cons_zero, List.getD_cons_succ, Nat.zero_mul, Nat.zero_add]
    have e : ∀ (n : Nat) (x : UInt8), n = x.toNat → UInt8.ofNat n = x := fun n x h => by subst h; simp
    simp only [List.cons.injEq, and_true]
    refine ⟨e _ _ (by omega), e _ _ (by omega), e _ _ (by omega), e _ _ (by omega)⟩

set_option maxRecDepth 100000 in
theorem getword_any (v : Value) (xs : List UInt8) (i : Int) (w : World) (hb : Bs w v xs) (hx : xs.length ≤ 100000000) :
    Calls Try.prog 68 #[v, .int .i64 i] w fun e w' => e = .returned (tupW xs i) ∧ w = w' := by
  unfold tupW
  by_cases h : 0 ≤ i ∧ i ≤ (xs.length : Int) - 4
  · rw [if_pos h]
    obtain ⟨j, rfl⟩ := Int.eq_ofNat_of_zero_le h.1
    rw [Int.toNat_natCast]
    have h4 : j + 4 ≤ xs.length := by omega
    obtain ⟨b, o, cap, rfl, h2, h3, hc⟩ := hb.form (by omega)
    have Hc := Lib.hid hc
    obtain ⟨ys, hys⟩ : ∃ ys, ys = xs.drop j := ⟨_, rfl⟩
    have Hys := Lib.hid hys
    rw [← hys]
    have hq : ¬ ((xs.length : Int) - 4 < j) := by omega
    clear hc hb h3 hys h
    go_enter Try.func68, Try.ntmps68
    go_wp2
    go_loop [4, 17] (fun n q => ∃ k : Nat, k ≤ 4 ∧ q = .int .i64 k ∧ n = .int .u32 (wacc ys k)) (fun _ q => 4 - (intOf q).toNat)
    case atStart => exact ⟨0, by omega, rfl, rfl⟩
    case round =>
      obtain ⟨k, hk, rfl, rfl⟩ := hrel
      by_cases hlt : k < 4
      · have hcell := Hc.out (j + k) (by omega)
        rw [← bt_drop, ← Hys.out] at hcell
        have hbt := bt_lt ys k
        have hwb : wacc ys k < 16777216 := Nat.lt_of_lt_of_le (wacc_lt ys k) (Nat.pow_le_pow_right (by decide) (by omega : k ≤ 3))
        have Hor := Lib.hid (or_byte (wacc ys k) (bt ys k) hwb hbt)
        go_wp2
        go_round
        case rel => exact ⟨k + 1, by omega, by go_num, by rw [Hor.out]; rfl⟩
        case measure => simp [intOf]; omega
      · have hk4 : k = 4 := by omega
        subst hk4
        go_wp2
        go_ret3
        exact ⟨rfl, rfl⟩
  · rw [if_neg h]
    obtain ⟨ao, cap, rfl, h2, h3⟩ := hb.len
    clear hb
    by_cases h0 : i < 0
    · go_enter Try.func68, Try.ntmps68
      go_wp2
      go_ret3
      exact ⟨rfl, rfl⟩
    · have hq : (xs.length : Int) - 4 < i := by omega
      clear h
      go_enter Try.func68, Try.ntmps68
      go_wp2
      go_ret3
      exact ⟨rfl, rfl⟩

theorem refword_nat (n : Nat) (w : World) (h : n < 4294967296) : Calls Try.prog 50 #[.int .u32 (n : Int)] w (Put w 5 (wordB n)) := by
  have := refword_any (n : Int) w (by omega) (by omega)
  rwa [Int.toNat_natCast] at this

end Go.Proofs.Ytbdgdmieggpmhaa
