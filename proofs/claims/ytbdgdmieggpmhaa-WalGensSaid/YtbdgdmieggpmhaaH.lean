import Derived.Test.YtbdgdmieggpmhaaD
import Derived.Test.YtbdgdmieggpmhaaOctGet
import Derived.BigQuiet
namespace Go.Proofs.Ytbdgdmieggpmhaa
open Go.ChangeShapes Go.WideShapes Go.ChangeAt Go.RowKit Oct By

set_option maxRecDepth 100000 in
theorem mayend_any (c i : Nat) (w : World) (hc : c < 256) (hi : i ≤ 100) :
    Calls Try.prog 79 #[.int .u8 c, .int .i64 i] w fun e w' => e = .returned (.bool (mayEndB c i)) ∧ w = w' := by
  by_cases h9 : i = 9
  · subst h9
    by_cases h1 : 1 < c
    · go_enter Try.func79, Try.ntmps79
      go_wp2
      go_ret
      exact ⟨by simp [mayEndB, h1], rfl⟩
    · by_cases h0 : c = 0
      · subst h0
        go_enter Try.func79, Try.ntmps79
        go_wp2
        go_ret
        exact ⟨by simp [mayEndB], rfl⟩
      · have h0' : ((c : Int) != 0) = true := by simp; omega
        have h1' : ¬ (1 : Int) < c := by omega
        go_enter Try.func79, Try.ntmps79
        go_wp2
        go_ret
        exact ⟨by simp [mayEndB, h0, h1], rfl⟩
  · have h9' : ((i : Int) == 9) = false := by simp; omega
    by_cases h0 : c = 0
    · subst h0
      by_cases hz : i = 0
      · subst hz
        go_enter Try.func79, Try.ntmps79
        go_wp2
        go_ret
        exact ⟨by simp [mayEndB], rfl⟩
      · have hz' : ((i : Int) == 0) = false := by simp; omega
        go_enter Try.func79, Try.ntmps79
        go_wp2
        go_ret
        exact ⟨by simp [mayEndB, hz], rfl⟩
    · have h0' : ((c : Int) != 0) = true := by simp; omega
      go_enter Try.func79, Try.ntmps79
      go_wp2
      go_ret
      exact ⟨by simp [mayEndB, h0, h9], rfl⟩

def gu (xs : List UInt8) (i : Int) : Option (Nat × Nat) := if 0 ≤ i ∧ i ≤ xs.length then getU (xs.drop i.toNat) else none
def tupU (r : Option (Nat × Nat)) (i : Int) : Value := match r with
  | none => .tuple #[.int .u64 0, .int .i64 0, .bool false]
  | some (n, k) => .tuple #[.int .u64 n, .int .i64 (i + k), .bool true]
def acc (ys : List UInt8) (k : Nat) : Nat := val (ys.take k) % 18446744073709551616

set_option maxRecDepth 100000 in
theorem getuint_out (v : Value) (xs : List UInt8) (i : Int) (w : World) (hb : Bs w v xs) (h0 : ¬ (0 ≤ i ∧ i ≤ xs.length)) :
    Calls Try.prog 77 #[v, .int .i64 i] w fun e w' => e = .returned (tupU none i) ∧ w = w' := by
  obtain ⟨ao, cap, rfl, h2, h3⟩ := hb.len
  clear hb h3
  by_cases hn : i < 0
  · go_enter Try.func77, Try.ntmps77
    go_wp2
    go_ret3
    exact ⟨rfl, rfl⟩
  · have hg : (xs.length : Int) < i := by omega
    clear h0
    go_enter Try.func77, Try.ntmps77
    go_wp2
    go_ret3
    exact ⟨rfl, rfl⟩

set_option maxRecDepth 100000 in
theorem getuint_end (v : Value) (xs : List UInt8) (w : World) (hb : Bs w v xs) (_hx : xs.length ≤ 100000000) :
    Calls Try.prog 77 #[v, .int .i64 (xs.length : Int)] w fun e w' => e = .returned (tupU none 0) ∧ w = w' := by
  obtain ⟨ao, cap, rfl, h2, h3⟩ := hb.len
  clear hb h3
  go_enter Try.func77, Try.ntmps77
  go_wp2
  all_goals
    go_loop [24] (fun j => j = .int .i64 0) (fun _ => 0)
    case atStart => rfl
    case round =>
      subst hrel
      go_wp2
      go_ret3
      exact ⟨rfl, rfl⟩

theorem bt_drop (xs : List UInt8) (i k : Nat) : bt (xs.drop i) k = bt xs (i + k) := by
  simp [bt, List.getD_eq_getElem?_getD]

theorem andnot128 : ∀ x : Fin 256, bits BinOp.andNot IntKind.u8 (x.val : Int) 128 = ((x.val % 128 : Nat) : Int) := by decide +kernel

theorem or_add (a q i : Nat) (h : a < 2 ^ i) (hb : 2 ^ i * q < 18446744073709551616) (ha : a < 18446744073709551616) : bits BinOp.or IntKind.u64 (a : Int) ((2 ^ i * q : Nat) : Int) = ((a + 2 ^ i * q : Nat) : Int) := by
  rw [u64_or_nat _ _ ha hb]
  congr 1
  rw [Nat.or_comm, ← Nat.two_pow_add_eq_or_of_lt h, Nat.add_comm]

theorem acc_succ (ys : List UInt8) (k : Nat) (hk : k < ys.length) : acc ys (k + 1) = (val (ys.take k) + 128 ^ k * (bt ys k % 128)) % 18446744073709551616 := by
  have hsplit : ys.take (k + 1) = ys.take k ++ [ys.getD k 0] := by
    rw [List.take_succ_eq_append_getElem hk, List.getD_eq_getElem?_getD, List.getElem?_eq_getElem hk]; rfl
  unfold acc
  rw [hsplit, val_append, List.length_take, Nat.min_eq_left (by omega)]
  simp [val, bt]

theorem acc_step (ys : List UInt8) (k : Nat) (hk : k < ys.length) (h10 : k < 10) :
    bits BinOp.or IntKind.u64 (acc ys k : Int) (IntKind.u64.wrap (IntKind.u64.wrap (bits BinOp.andNot IntKind.u8 (bt ys k : Int) 128) * 2 ^ (7 * k))) = (acc ys (k + 1) : Int) := by
  have hb := bt_lt ys k
  have ha := andnot128 ⟨bt ys k, hb⟩
  have hv : val (ys.take k) < 128 ^ k := by
    have := val_lt (ys.take k)
    rwa [List.length_take, Nat.min_eq_left (by omega)] at this
  rw [acc_succ ys k hk]
  rw [show bits BinOp.andNot IntKind.u8 (bt ys k : Int) 128 = ((bt ys k % 128 : Nat) : Int) from ha]
  unfold acc
  generalize val (ys.take k) = v at *
  generalize bt ys k = c at *
  clear ha
  rw [pow_cast]
  have key : ∀ q : Nat, v < 2 ^ (7 * k) → 2 ^ (7 * k) * q < 18446744073709551616 → v < 18446744073709551616 → IntKind.u64.wrap (IntKind.u64.wrap ((c % 128 : Nat) : Int) * ((128 ^ k : Nat) : Int)) = ((2 ^ (7 * k) * q : Nat) : Int) →
      v + 2 ^ (7 * k) * q = (v + 128 ^ k * (c % 128)) % 18446744073709551616 →
      bits BinOp.or IntKind.u64 ((v % 18446744073709551616 : Nat) : Int) (IntKind.u64.wrap (IntKind.u64.wrap ((c % 128 : Nat) : Int) * ((128 ^ k : Nat) : Int))) = (((v + 128 ^ k * (c % 128)) % 18446744073709551616 : Nat) : Int) := by
    intro q h1 h2 h3 h4 h5
    rw [h4, ← h5, Nat.mod_eq_of_lt h3]
    exact or_add v q (7 * k) h1 h2 h3
  have hk : k = 0 ∨ k = 1 ∨ k = 2 ∨ k = 3 ∨ k = 4 ∨ k = 5 ∨ k = 6 ∨ k = 7 ∨ k = 8 ∨ k = 9 := by omega
  rcases hk with rfl | rfl | rfl | rfl | rfl | rfl | rfl | rfl | rfl | rfl
  all_goals simp only [Nat.reducePow, Nat.reduceMul, Nat.mul_zero, Nat.pow_zero] at hv key ⊢
  all_goals first
    | exact key (c % 128) (by omega) (by omega) (by omega) (by rw [IntKind.wrap_u64, IntKind.wrap_u64]; omega) (by omega)
    | exact key (c % 2) (by omega) (by omega) (by omega) (by rw [IntKind.wrap_u64, IntKind.wrap_u64]; omega) (by omega)

theorem getU_yes (ys : List UInt8) (k : Nat) (hk : k < ys.length) (h10 : k < 10) (hb : big ys k) (hc : bt ys k < 128) (hm : mayEndB (bt ys k) k = true) : getU ys = some (acc ys (k + 1), k + 1) := by
  have hf := congrArg val ((form_iff ys k hk h10 hb hc).2 hm)
  rw [val_uintB] at hf
  unfold getU
  rw [scan_some ys 10 k hk h10 hb hc]
  simp only [Nat.add_sub_cancel]
  rw [if_pos (show mayEndB (ys.getD k 0).toNat k = true from hm)]
  unfold acc
  rw [hf]
theorem getU_no (ys : List UInt8) (k : Nat) (hk : k < ys.length) (h10 : k < 10) (hb : big ys k) (hc : bt ys k < 128) (hm : mayEndB (bt ys k) k = false) : getU ys = none := by
  unfold getU
  rw [scan_some ys 10 k hk h10 hb hc]
  simp only [Nat.add_sub_cancel]
  rw [if_neg (by rw [show (ys.getD k 0).toNat = bt ys k from rfl, hm]; exact Bool.false_ne_true)]
theorem getU_end (ys : List UInt8) (k : Nat) (h1 : k ≤ ys.length) (h2 : k ≤ 10) (h3 : ys.length ≤ k ∨ 10 ≤ k) (hb : big ys k) : getU ys = none := by
  unfold getU
  rw [scan_none ys 10 (by rw [show min ys.length 10 = k by omega]; exact hb)]

set_option maxRecDepth 100000 in
theorem getuint_in (v : Value) (xs : List UInt8) (i : Nat) (w : World) (hb : Bs w v xs) (hx : xs.length ≤ 100000000) (hi : i < xs.length) :
    Calls Try.prog 77 #[v, .int .i64 (i : Int)] w fun e w' => e = .returned (tupU (getU (xs.drop i)) i) ∧ w = w' := by
  obtain ⟨b, o, cap, rfl, h2, h3, hc⟩ := hb.form (by omega)
  have hne : ¬ cap = i := by omega
  have Hc := Lib.hid hc
  obtain ⟨ys, hys⟩ : ∃ ys, ys = xs.drop i := ⟨_, rfl⟩
  have Hys := Lib.hid hys
  have hyl : xs.length = i + ys.length := by rw [hys, List.length_drop]; omega
  rw [← hys]
  have Hyl := Lib.hid hyl
  have hyd : xs.length - i = ys.length := by omega
  have Hyd := Lib.hid hyd
  clear hc hb h3 hys hyl hyd
  go_enter Try.func77, Try.ntmps77
  go_wp2
  all_goals
    go_loop [4, 24] (fun n j => ∃ k : Nat, k ≤ 10 ∧ k ≤ xs.length - i ∧ j = .int .i64 k ∧ n = .int .u64 (acc ys k) ∧ big ys k) (fun _ j => 10 - (intOf j).toNat)
    case atStart => exact ⟨0, by omega, by omega, rfl, rfl, fun _ h => by omega⟩
    case round =>
      obtain ⟨k, hk1, hk2, rfl, rfl, hbig⟩ := hrel
      by_cases hlt : k < 10 ∧ k < xs.length - i
      · obtain ⟨hl1, hl2⟩ := hlt
        have hcell := Hc.out (i + k) (by omega)
        rw [← bt_drop, ← Hys.out, ← Nat.add_assoc] at hcell
        have hbt := bt_lt ys k
        have hys : k < ys.length := by have := Hyd.out; omega
        have Hacc := Lib.hid (acc_step ys k hys hl1)
        by_cases hc : bt ys k < 128
        · have hcu : (bt ys k : Int) < 128 := by omega
          by_cases hme : mayEndB (bt ys k) k = true
          · have Hfin := Lib.hid (getU_yes ys k hys hl1 hbig hc hme)
            have Hme := Lib.hid hme
            clear hme
            go_wp2_with fail
            refine (mayend_any (bt ys k) k _ hbt (by omega)).mono ?_
            rintro e w' ⟨rfl, rfl⟩
            rw [Hme.out]
            go_wp2
            go_ret3
            refine ⟨?_, rfl⟩
            rw [Hacc.out, Hfin.out]
            exact congrArg Ending.returned (by simp only [tupU]; go_num)
          · have Hfin := Lib.hid (getU_no ys k hys hl1 hbig hc (by simpa using hme))
            have Hme := Lib.hid (show mayEndB (bt ys k) k = false by simpa using hme)
            clear hme
            go_wp2_with fail
            refine (mayend_any (bt ys k) k _ hbt (by omega)).mono ?_
            rintro e w' ⟨rfl, rfl⟩
            rw [Hme.out]
            go_wp2
            go_ret3
            refine ⟨?_, rfl⟩
            rw [Hfin.out]
            rfl
        · have hcu : ¬ (bt ys k : Int) < 128 := by omega
          have hbig' := big_succ hbig (show 128 ≤ bt ys k by omega)
          have hd := Lib.hid (show ys.length = xs.length - i from Hyd.out.symm)
          go_wp2
          go_round
          case rel => exact ⟨k + 1, by omega, by omega, by go_num, by rw [Hacc.out], hbig'⟩
          case measure => simp [intOf]; omega
      · have Hfin := Lib.hid (getU_end ys k (by have := Hyd.out; omega) hk1 (by have := Hyd.out; omega) hbig)
        go_wp2
        go_ret3
        refine ⟨?_, rfl⟩
        rw [Hfin.out]
        rfl

theorem getuint_any (v : Value) (xs : List UInt8) (i : Int) (w : World) (hb : Bs w v xs) (hx : xs.length ≤ 100000000) :
    Calls Try.prog 77 #[v, .int .i64 i] w fun e w' => e = .returned (tupU (gu xs i) i) ∧ w = w' := by
  by_cases h : 0 ≤ i ∧ i ≤ xs.length
  · unfold gu
    rw [if_pos h]
    obtain ⟨k, rfl⟩ := Int.eq_ofNat_of_zero_le h.1
    rw [Int.toNat_natCast]
    by_cases hk : k < xs.length
    · exact getuint_in v xs k w hb hx hk
    · obtain rfl : k = xs.length := by omega
      rw [List.drop_of_length_le (Nat.le_refl _)]
      exact getuint_end v xs w hb hx
  · unfold gu
    rw [if_neg h]
    exact getuint_out v xs i w hb h
end Go.Proofs.Ytbdgdmieggpmhaa
