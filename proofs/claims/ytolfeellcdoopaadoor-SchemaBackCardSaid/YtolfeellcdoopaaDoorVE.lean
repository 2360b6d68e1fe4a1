/-
  Layer 2: a number's decimal text, by the document's own answer.
-/
import Derived.Test.YtolfeellcdoopaaDoorVD
namespace Go.Proofs.YtolfeellcdoopaaDoor
open Go.ChangeShapes Go.WideShapes Go.ChangeAt Go.RowKit Oct By Reg Val

theorem ret_str {a b : ByteArray} (h : a = b) : Ending.returned (.string a) = .returned (.string b) := by rw [h]
theorem dec_small {v : Nat} (h : v < 10) : Lib.decDigits v = [UInt8.ofNat (48 + v)] := by rw [Lib.decDigits, dif_pos h]
theorem dec_big {v : Nat} (h : 10 ≤ v) : Lib.decDigits v = Lib.decDigits (v / 10) ++ [UInt8.ofNat (48 + v % 10)] := by rw [Lib.decDigits, dif_neg (by omega)]
theorem lit_bs (w : World) (c : Nat) (hc : c < 10) : Bs (w.alloc (.cells #[.int .u8 (48 + (c : Int))] 5)) (.slice (some ⟨w.heap.size, 0, none⟩) 1 1) [UInt8.ofNat (48 + c)] := by
  have h := Bs.of_owns (owns_lit w w.heap.size 5 [UInt8.ofNat (48 + c)] (Nat.le_refl _) (by simp [maxLen]))
  simp only [List.map_cons, List.map_nil, c8_nat, List.length_cons, List.length_nil, Nat.zero_add] at h
  rw [show ((48 + c : Nat) : Int) % 256 = 48 + (c : Int) by omega] at h
  exact h

set_option maxRecDepth 100000 in
theorem refdec_pos (u : Nat) (w : World) (hu : u ≤ 9223372036854775807) :
    Calls Tryd.prog 46 #[.int .i64 (u : Int)] w fun e w' => e = .returned (strV (Lib.decDigits u)) ∧ Below w.heap.size w w' := by
  have hts : ∀ xs, (str xs).toList = xs := fun xs => Lib.toList_data _
  have hst : Hid (Lib.decDigits u ++ [] = Lib.decDigits u ∧ u < 10 ^ 20) := ⟨by simp, by omega⟩
  go_enter Tryd.func46, Tryd.ntmps46
  go_wp2
  go_loopw [0, 3, 4] (fun n s i wr => ∃ (v k : Nat) (ds : List UInt8), n = .int .i64 (v : Int) ∧ s = .string (str ds) ∧ i = .int .i64 (k : Int) ∧ k < 20 ∧ ds.length = k ∧ v ≤ u ∧ Hid (Lib.decDigits v ++ ds = Lib.decDigits u ∧ v < 10 ^ (20 - k)) ∧ Below w.heap.size w wr) (fun _ _ i _ => 20 - (intOf i).toNat)
  case atStart => exact ⟨u, 0, [], rfl, rfl, rfl, by omega, rfl, Nat.le_refl _, hst, Below.refl _ _⟩
  case round =>
    obtain ⟨v, k, ds, rfl, rfl, rfl, hk, hl, hv, hd, hb⟩ := hrel
    have HB := Lib.hid hb
    have hsz := hb.size
    clear hb
    obtain ⟨c, hc⟩ : ∃ c, c = v % 10 := ⟨_, rfl⟩
    have hc10 : c < 10 := by omega
    have hm : (v : Int) % 10 = (c : Int) := by omega
    obtain ⟨d, hd0⟩ : ∃ d, d = UInt8.ofNat (48 + c) := ⟨_, rfl⟩
    have hlit := fun w => lit_bs w c hc10
    rw [← hd0] at hlit
    have Hd := Lib.hid hd0; clear hd0
    have hsum : (str [d]).size + (str ds).size ≤ 9223372036854775807 := by rw [str_size, str_size]; simp; omega
    have kc := fun w => run_convert_Bs (P := Tryd.prog) (hlit w) 44 5 9 Tryd.underlying44 Tryd.underlying5 Tryd.underlying9
    clear hlit
    have Hl := Lib.hid hl; clear hl
    have Hc := Lib.hid hc; clear hc
    by_cases h10 : v < 10
    · have hfin : Hid (str [d] ++ str ds = str (Lib.decDigits u)) := by
        show str [d] ++ str ds = str (Lib.decDigits u)
        have e := hd.out.1
        rw [dec_small h10] at e
        rw [str_append, ← e, Hd.out, Hc.out, Nat.mod_eq_of_lt h10]
      go_wp2_with fail
      go_ret
      exact ⟨ret_str hfin.out, Below.trans HB.out ((Below.refl _ _).alloc hsz _)⟩
    · have hbig : 10 ≤ v := by omega
      have hq : Hid (Lib.decDigits (v / 10) ++ d :: ds = Lib.decDigits u ∧ v / 10 < 10 ^ (20 - (k + 1))) := by
        have e := hd.out
        rw [dec_big hbig] at e
        refine ⟨by rw [← e.1, Hd.out, Hc.out]; simp, ?_⟩
        have e2 := e.2
        rw [show 20 - k = (20 - (k + 1)) + 1 by omega, Nat.pow_succ] at e2
        omega
      have hk19 : k < 19 := by
        by_cases h : k < 19
        · exact h
        · have e2 := hd.out.2
          rw [show 20 - k = 1 by omega] at e2
          omega
      go_wp2_with fail
      go_roundw
      case rel => exact ⟨v / 10, k + 1, d :: ds, by go_num, by rw [str_append]; rfl, by go_num, by omega, by simp [Hl.out], by omega, hq, Below.trans HB.out ((Below.refl _ _).alloc hsz _)⟩
      case measure => simp [intOf]; omega

theorem tmod_neg (v c : Nat) (h : c = v % 10) : (-(v : Int)).tmod 10 = -(c : Int) := by
  rw [Int.neg_tmod, Int.tmod_eq_emod_of_nonneg (by omega)]; omega
theorem tdiv_neg (v : Nat) : (-(v : Int)).tdiv 10 = -((v / 10 : Nat) : Int) := by
  rw [Int.neg_tdiv, Int.tdiv_eq_ediv_of_nonneg (by omega)]; rfl

set_option maxRecDepth 100000 in
theorem refdec_neg (u : Nat) (w : World) (hu0 : 1 ≤ u) (hu : u ≤ 9223372036854775808) :
    Calls Tryd.prog 46 #[.int .i64 (-(u : Int))] w fun e w' => e = .returned (strV (45 :: Lib.decDigits u)) ∧ Below w.heap.size w w' := by
  have hts : ∀ xs, (str xs).toList = xs := fun xs => Lib.toList_data _
  have hst : Hid (Lib.decDigits u ++ [] = Lib.decDigits u ∧ u < 10 ^ 20) := ⟨by simp, by omega⟩
  go_enter Tryd.func46, Tryd.ntmps46
  go_wp2
  go_loopw [0, 3, 4] (fun n s i wr => ∃ (v k : Nat) (ds : List UInt8), n = .int .i64 (-(v : Int)) ∧ s = .string (str ds) ∧ i = .int .i64 (k : Int) ∧ k < 20 ∧ ds.length = k ∧ 1 ≤ v ∧ v ≤ u ∧ Hid (Lib.decDigits v ++ ds = Lib.decDigits u ∧ v < 10 ^ (20 - k)) ∧ Below w.heap.size w wr) (fun _ _ i _ => 20 - (intOf i).toNat)
  case atStart => exact ⟨u, 0, [], rfl, rfl, rfl, by omega, rfl, hu0, Nat.le_refl _, hst, Below.refl _ _⟩
  case round =>
    obtain ⟨v, k, ds, rfl, rfl, rfl, hk, hl, hv1, hv, hd, hb⟩ := hrel
    have HB := Lib.hid hb
    have hsz := hb.size
    clear hb
    obtain ⟨c, hc⟩ : ∃ c, c = v % 10 := ⟨_, rfl⟩
    have hc10 : c < 10 := by omega
    have hm := tmod_neg v c hc
    have hqq := tdiv_neg v
    have hw : IntKind.i64.wrap (-((v / 10 : Nat) : Int)) = -((v / 10 : Nat) : Int) := IntWalk.i64_in _ ⟨by omega, by omega⟩
    obtain ⟨d, hd0⟩ : ∃ d, d = UInt8.ofNat (48 + c) := ⟨_, rfl⟩
    have hlit := fun w => lit_bs w c hc10
    rw [← hd0] at hlit
    have Hd := Lib.hid hd0; clear hd0
    have hsum : (str [d]).size + (str ds).size ≤ 9223372036854775807 := by rw [str_size, str_size]; simp; omega
    have hsum2 : 1 + ((str [d]).size + (str ds).size) ≤ 9223372036854775807 := by rw [str_size, str_size]; simp; omega
    have kc := fun w => run_convert_Bs (P := Tryd.prog) (hlit w) 44 5 9 Tryd.underlying44 Tryd.underlying5 Tryd.underlying9
    clear hlit
    have Hl := Lib.hid hl; clear hl
    have Hc := Lib.hid hc; clear hc
    have Hfin : v < 10 → Hid (str [45] ++ (str [d] ++ str ds) = str (45 :: Lib.decDigits u)) := fun h10 => by
      show str [45] ++ (str [d] ++ str ds) = str (45 :: Lib.decDigits u)
      have e := hd.out.1
      rw [dec_small h10] at e
      rw [str_append, str_append, ← e, Hd.out, Hc.out, Nat.mod_eq_of_lt h10]; rfl
    have Hq : 10 ≤ v → Hid (Lib.decDigits (v / 10) ++ d :: ds = Lib.decDigits u ∧ v / 10 < 10 ^ (20 - (k + 1))) := fun hbig => by
      have e := hd.out
      rw [dec_big hbig] at e
      refine ⟨by rw [← e.1, Hd.out, Hc.out]; simp, ?_⟩
      have e2 := e.2
      rw [show 20 - k = (20 - (k + 1)) + 1 by omega, Nat.pow_succ] at e2
      omega
    have Hk19 : 10 ≤ v → k < 19 := fun hbig => by
      by_cases h : k < 19
      · exact h
      · have e2 := hd.out.2
        rw [show 20 - k = 1 by omega] at e2
        omega
    by_cases hc0 : c = 0
    · subst hc0
      by_cases h10 : v < 10
      · exact absurd Hc.out (by omega)
      · have hbig : 10 ≤ v := by omega
        have hq := Hq hbig
        have hk19 := Hk19 hbig
        have hd2 : decide (-(v : Int) > -10) = false := by simp; omega
        clear Hfin Hq Hk19
        simp only [Int.natCast_zero, Int.neg_zero, Int.add_zero] at hm kc
        go_wp2_with fail
        go_roundw
        case rel => exact ⟨v / 10, k + 1, d :: ds, by go_num, by rw [str_append]; rfl, by go_num, by omega, by simp [Hl.out], by omega, by omega, hq, Below.trans HB.out ((Below.refl _ _).alloc hsz _)⟩
        case measure => simp [intOf]; omega
    · have hcp : -(c : Int) < 0 := by omega
      have hcw : IntKind.i64.wrap (c : Int) = (c : Int) := IntWalk.i64_in _ ⟨by omega, by omega⟩
      by_cases h10 : v < 10
      · have hfin := Hfin h10
        clear Hfin Hq Hk19
        go_wp2_with fail
        go_ret
        exact ⟨ret_str hfin.out, Below.trans HB.out ((Below.refl _ _).alloc hsz _)⟩
      · have hbig : 10 ≤ v := by omega
        have hq := Hq hbig
        have hk19 := Hk19 hbig
        have hd2 : decide (-(v : Int) > -10) = false := by simp; omega
        clear Hfin Hq Hk19
        go_wp2_with fail
        go_roundw
        case rel => exact ⟨v / 10, k + 1, d :: ds, by go_num, by rw [str_append]; rfl, by go_num, by omega, by simp [Hl.out], by omega, by omega, hq, Below.trans HB.out ((Below.refl _ _).alloc hsz _)⟩
        case measure => simp [intOf]; omega

theorem refdec_any (n : Int) (w : World) (h0 : -9223372036854775808 ≤ n) (h1 : n ≤ 9223372036854775807) :
    Calls Tryd.prog 46 #[.int .i64 n] w fun e w' => e = .returned (strV (Lib.itoa n)) ∧ Below w.heap.size w w' := by
  unfold Lib.itoa
  by_cases hn : n < 0
  · rw [if_pos hn]
    obtain ⟨u, rfl⟩ : ∃ u : Nat, n = -(u : Int) := ⟨n.natAbs, by omega⟩
    rw [show (-(u : Int)).natAbs = u by omega]
    exact refdec_neg u w (by omega) (by omega)
  · rw [if_neg hn]
    obtain ⟨u, rfl⟩ := Int.eq_ofNat_of_zero_le (show 0 ≤ n by omega)
    exact refdec_pos u w (by omega)
end Go.Proofs.YtolfeellcdoopaaDoor
