/-
  Layer 2: the value of a text, by the document's own answer: a number.
-/
import Derived.Test.YtefjfiihfbkjoaaDoorVP2
import Derived.Test.YtefjfiihfbkjoaaDoorVB2
import Derived.Lib.ItoaLen
namespace Go.Proofs.YtefjfiihfbkjoaaDoor
open Go.ChangeShapes Go.WideShapes Go.ChangeAt Go.RowKit Oct By Reg Val

def stepN (n : Int) (c : UInt8) : Int := IntKind.i64.wrap (IntKind.i64.wrap (IntKind.i64.wrap (n * 10) - (c.toNat : Int)) + 48)
def digN (n : Int) (c : UInt8) : Int := if 48 ≤ c.toNat ∧ c.toNat ≤ 57 then stepN n c else n
def accN (l : List UInt8) : Int := (l.take 21).foldl digN 0
def decR (l : List UInt8) : Int := if l.getD 0 0 = 45 then accN l else IntKind.i64.wrap (-(accN l))
theorem wrap_bd (n : Int) : -9223372036854775808 ≤ IntKind.i64.wrap n ∧ IntKind.i64.wrap n ≤ 9223372036854775807 := by
  rw [IntKind.wrap_i64]; omega
theorem stepN64 (n : Int) (c : UInt8) : stepN n c = wrap64 (wrap64 (wrap64 (n * 10) - (c.toNat : Int)) + 48) := by
  unfold stepN; simp only [IntWalk.i64_left]
theorem digN_bd (n : Int) (c : UInt8) (h : -9223372036854775808 ≤ n ∧ n ≤ 9223372036854775807) : -9223372036854775808 ≤ digN n c ∧ digN n c ≤ 9223372036854775807 := by
  unfold digN
  split
  · exact wrap_bd _
  · exact h
theorem fold_bd : ∀ (l : List UInt8) (n : Int), (-9223372036854775808 ≤ n ∧ n ≤ 9223372036854775807) → -9223372036854775808 ≤ l.foldl digN n ∧ l.foldl digN n ≤ 9223372036854775807
  | [], _, h => h
  | c :: l, n, h => fold_bd l _ (digN_bd n c h)
theorem accN_bd (l : List UInt8) : -9223372036854775808 ≤ accN l ∧ accN l ≤ 9223372036854775807 := fold_bd _ _ (by omega)
theorem decR_bd (l : List UInt8) : -9223372036854775808 ≤ decR l ∧ decR l ≤ 9223372036854775807 := by
  unfold decR
  split
  · exact accN_bd _
  · exact wrap_bd _
theorem fold_dec (u : Nat) : u ≤ 9223372036854775808 → (Lib.decDigits u).foldl digN 0 = -(u : Int) := by
  induction u using Nat.strongRecOn with
  | ind u ih =>
    intro hu
    by_cases h : u < 10
    · rw [dec_small h]
      have hc : (UInt8.ofNat (48 + u)).toNat = 48 + u := by rw [UInt8.toNat_ofNat']; omega
      show digN 0 (UInt8.ofNat (48 + u)) = _
      unfold digN stepN
      rw [hc, if_pos (by omega), IntKind.wrap_i64, IntKind.wrap_i64, IntKind.wrap_i64]
      omega
    · rw [dec_big (by omega), List.foldl_append, ih (u / 10) (by omega) (by omega)]
      have hc : (UInt8.ofNat (48 + u % 10)).toNat = 48 + u % 10 := by rw [UInt8.toNat_ofNat']; omega
      show digN (-((u / 10 : Nat) : Int)) (UInt8.ofNat (48 + u % 10)) = _
      unfold digN stepN
      rw [hc, if_pos (by omega), IntKind.wrap_i64, IntKind.wrap_i64, IntKind.wrap_i64]
      omega
theorem ba_ne {p s : ByteArray} (h : ¬ p = s) : (p.toList == s.toList) = false := by
  refine beq_eq_false_iff_ne.2 fun e => h ?_
  rw [ByteArray.toList_eq, ByteArray.toList_eq] at e
  rw [← str_toList p, ← str_toList s, e]
theorem fold_step (l : List UInt8) (k : Nat) (h : k < l.length) : (l.take (k + 1)).foldl digN 0 = digN ((l.take k).foldl digN 0) (l.getD k 0) := by
  rw [List.take_succ_eq_append_getElem h, List.foldl_append]
  rw [List.getD_eq_getElem?_getD, List.getElem?_eq_getElem h]
  rfl
theorem decR_itoa (n : Int) (h0 : -9223372036854775808 ≤ n) (h1 : n ≤ 9223372036854775807) : decR (Lib.itoa n) = n := by
  have hl := Lib.itoa_length_le n h0 h1
  have ha : accN (Lib.itoa n) = (Lib.itoa n).foldl digN 0 := by
    unfold accN; rw [List.take_of_length_le (by omega)]
  unfold decR
  rw [ha]
  unfold Lib.itoa
  split
  · rw [if_pos (show (45 :: Lib.decDigits n.natAbs).getD 0 0 = 45 from rfl)]
    show (Lib.decDigits n.natAbs).foldl digN (digN 0 45) = n
    rw [show digN 0 45 = 0 from rfl, fold_dec _ (by omega)]; omega
  · obtain ⟨c, r, h, h2, h3⟩ := dec_head n.toNat
    rw [fold_dec _ (by omega), h, if_neg (by intro e; have e' : c = 45 := e; subst e'; revert h2; decide), IntKind.wrap_i64]
    omega
def numT (s : ByteArray) : Value := if str (Lib.itoa (decR s.data.toList)) = s then .tuple #[vv 1 (decR s.data.toList) ⟨#[]⟩, .bool true] else .tuple #[vv 0 0 ⟨#[]⟩, .bool false]

set_option maxRecDepth 100000 in
set_option maxHeartbeats 400000 in
theorem refparse_num (s : ByteArray) (w0 : World) (hs : s.size ≤ 200) (hq : ¬ (2 ≤ s.size ∧ s.data.toList.getD 0 0 = 34)) (ht : s.data.toList ≠ trueL) (hf : s.data.toList ≠ falseL) :
    Calls Tryd.prog 31 #[.string s] w0 fun e w' => e = .returned (numT s) ∧ Below w0.heap.size w0 w' := by
  have Hlen := Lib.hid (show s.data.toList.length = s.size from Array.length_toList)
  have h1 : (s.toList == [116, 114, 117, 101]) = false := by rw [ByteArray.toList_eq]; exact beq_eq_false_iff_ne.2 ht
  have h2' : (s.toList == [102, 97, 108, 115, 101]) = false := by rw [ByteArray.toList_eq]; exact beq_eq_false_iff_ne.2 hf
  clear ht hf
  have hd : ∀ h : 0 < s.size, s.data.toList.getD 0 0 = s[0] := fun h => by
    rw [List.getD_eq_getElem?_getD, List.getElem?_eq_getElem (by rw [Array.length_toList]; exact h)]; rfl
  have hac : Hid (accN s.data.toList = (s.data.toList.take 21).foldl digN 0) := rfl
  by_cases h2 : 2 ≤ s.size
  · have h34 : ((s[0].toNat : Int) == 34) = false := beq_eq_false_iff_ne.2 fun e => hq ⟨h2, by rw [hd (by omega)]; exact UInt8.toNat_inj.1 (Int.natCast_inj.1 (show ((s[0].toNat : Nat) : Int) = ((34 : Nat) : Int) from e))⟩
    have HD := Lib.hid (hd (by omega))
    have hz0 : ((s.size : Int) == 0) = false := beq_eq_false_iff_ne.2 (by omega)
    have hz1 : ¬ s = ByteArray.empty := fun e => by rw [e] at h2; revert h2; decide
    clear hd hq
    go_enter Tryd.func31, Tryd.ntmps31
    go_wp2_with fail
    go_loop [7, 8] (fun m i => ∃ (k : Nat) (n : Int), k ≤ s.size ∧ k ≤ 21 ∧ m = .int .i64 n ∧ i = .int .i64 (k : Int) ∧ (-9223372036854775808 ≤ n ∧ n ≤ 9223372036854775807) ∧ Hid ((s.data.toList.take k).foldl digN 0 = n)) (fun _ i => 21 - (intOf i).toNat)
    case atStart => exact ⟨0, 0, Nat.zero_le _, by omega, rfl, rfl, by omega, rfl⟩
    case round =>
      obtain ⟨k, n, hk, hk21, rfl, rfl, hnb, hn⟩ := hrel
      have HN := Lib.hid hn.out
      clear hn
      by_cases hlt : k < s.size ∧ k < 21
      · obtain ⟨hlt, h21⟩ := hlt
        have hl : k < s.data.toList.length := by rw [Hlen.out]; exact hlt
        have hgd : s.data.toList.getD k 0 = s[k] := by
          rw [List.getD_eq_getElem?_getD, List.getElem?_eq_getElem hl]; rfl
        have hfs := fold_step s.data.toList k hl
        rw [hgd, HN.out] at hfs
        have hbd := digN_bd n s[k] hnb
        clear hgd
        by_cases hc1 : 48 ≤ s[k].toNat
        · by_cases hc2 : s[k].toNat ≤ 57
          · rw [show digN n s[k] = _ from if_pos ⟨hc1, hc2⟩, stepN64] at hfs hbd
            have HF := Lib.hid hfs
            have HBD := Lib.hid hbd
            clear hfs hbd hnb
            have hi1 : (48 : Int) ≤ s[k].toNat := by omega
            have hi2 : (s[k].toNat : Int) ≤ 57 := by omega
            go_wp2
            exact ⟨⟨k + 1, _, by omega, by omega, rfl, rfl, HBD.out, HF.out⟩, by simp only [intOf]; omega⟩
          · rw [show digN n s[k] = _ from if_neg (fun h => hc2 h.2)] at hfs hbd
            have HF := Lib.hid hfs
            clear hfs hbd
            have hi1 : (48 : Int) ≤ s[k].toNat := by omega
            have hi2 : ¬ (s[k].toNat : Int) ≤ 57 := by omega
            go_wp2
            exact ⟨⟨k + 1, _, by omega, by omega, rfl, rfl, hnb, HF.out⟩, by simp only [intOf]; omega⟩
        · rw [show digN n s[k] = _ from if_neg (fun h => hc1 h.1)] at hfs hbd
          have HF := Lib.hid hfs
          clear hfs hbd
          have hi1 : ¬ (48 : Int) ≤ s[k].toNat := by omega
          go_wp2
          exact ⟨⟨k + 1, _, by omega, by omega, rfl, rfl, hnb, HF.out⟩, by simp only [intOf]; omega⟩
      · have HX := Lib.hid (show accN s.data.toList = n by
          rw [hac.out, ← HN.out]
          by_cases h21 : k = 21
          · rw [h21]
          · rw [List.take_of_length_le (by rw [Hlen.out]; omega), List.take_of_length_le (by rw [Hlen.out]; omega)])
        clear HN
        by_cases hlt2 : k < s.size
        · have h21 : k = 21 := by omega
          have hnl : ¬ (k : Int) < 21 := by omega
          by_cases h45 : s[0] = 45
          · have hb45 : ((s[0].toNat : Int) == 45) = true := by rw [h45]; rfl
            have Hv := Lib.hid (show n = decR s.data.toList by unfold decR; rw [if_pos (by rw [HD.out, h45]), HX.out])
            have hbd := hnb
            go_wp2_with fail
            refine (refdec_any n _ hbd.1 hbd.2).mono ?_
            rintro e w1 ⟨rfl, hb⟩
            have hh := HeldV.rb (HeldV.at w0 w0.heap.size 0 0 ⟨#[]⟩ 23 rfl) hb
            have z0 := hh.1
            have z1 := hh.2.1
            have z2 := hh.2.2
            have zf : ∀ o, w1.frozen? ⟨w0.heap.size, o, none⟩ = false := fun o => fz_keep hb
            have HB := Lib.hid (Rb.trans _ _ _ (show Rb w0 _ from (Below.refl _ _).alloc (Nat.le_refl _) _) hb)
            clear hb hh
            unfold strV
            obtain ⟨p, hp⟩ : ∃ p, p = str (Lib.itoa n) := ⟨_, rfl⟩
            rw [← hp]
            have Hp := Lib.hid hp
            clear hp
            by_cases hps : p = s
            · subst hps
              go_wp2
              refine bodyPost_ret (v := .tuple #[vv 1 n ⟨#[]⟩, .bool true]) (by simp [results, Tryd.results31, go_sem, vv, z0, z1, z2]) rfl ⟨?_, ?_⟩
              · unfold numT; rw [← Hv.out, ← Hp.out, if_pos rfl]
              · exact Below.setCell (Below.setCell (Below.setCell HB.out (Nat.le_refl _) _) (Nat.le_refl _) _) (Nat.le_refl _) _
            · have hne := ba_ne hps
              go_wp2
              refine bodyPost_ret (v := .tuple #[vv 0 0 ⟨#[]⟩, .bool false]) (by simp [results, Tryd.results31, go_sem, vv, z0, z1, z2]) rfl ⟨?_, ?_⟩
              · unfold numT; rw [← Hv.out, ← Hp.out, if_neg hps]
              · exact Below.setCell (Below.setCell (Below.setCell HB.out (Nat.le_refl _) _) (Nat.le_refl _) _) (Nat.le_refl _) _
          · have hb45 : ((s[0].toNat : Int) == 45) = false := beq_eq_false_iff_ne.2 fun e => h45 (UInt8.toNat_inj.1 (Int.natCast_inj.1 (show ((s[0].toNat : Nat) : Int) = ((45 : Nat) : Int) from e)))
            have Hv := Lib.hid (show wrap64 (-n) = decR s.data.toList by unfold decR; rw [if_neg (by rw [HD.out]; exact h45), HX.out, IntWalk.i64_left])
            have hbd := wrap_bd (-n)
            rw [IntWalk.i64_left] at hbd
            go_wp2_with fail
            refine (refdec_any (wrap64 (-n)) _ hbd.1 hbd.2).mono ?_
            rintro e w1 ⟨rfl, hb⟩
            have hh := HeldV.rb (HeldV.at w0 w0.heap.size 0 0 ⟨#[]⟩ 23 rfl) hb
            have z0 := hh.1
            have z1 := hh.2.1
            have z2 := hh.2.2
            have zf : ∀ o, w1.frozen? ⟨w0.heap.size, o, none⟩ = false := fun o => fz_keep hb
            have HB := Lib.hid (Rb.trans _ _ _ (show Rb w0 _ from (Below.refl _ _).alloc (Nat.le_refl _) _) hb)
            clear hb hh
            unfold strV
            obtain ⟨p, hp⟩ : ∃ p, p = str (Lib.itoa (wrap64 (-n))) := ⟨_, rfl⟩
            rw [← hp]
            have Hp := Lib.hid hp
            clear hp
            by_cases hps : p = s
            · subst hps
              go_wp2
              refine bodyPost_ret (v := .tuple #[vv 1 (wrap64 (-n)) ⟨#[]⟩, .bool true]) (by simp [results, Tryd.results31, go_sem, vv, z0, z1, z2]) rfl ⟨?_, ?_⟩
              · unfold numT; rw [← Hv.out, ← Hp.out, if_pos rfl]
              · exact Below.setCell (Below.setCell (Below.setCell HB.out (Nat.le_refl _) _) (Nat.le_refl _) _) (Nat.le_refl _) _
            · have hne := ba_ne hps
              go_wp2
              refine bodyPost_ret (v := .tuple #[vv 0 0 ⟨#[]⟩, .bool false]) (by simp [results, Tryd.results31, go_sem, vv, z0, z1, z2]) rfl ⟨?_, ?_⟩
              · unfold numT; rw [← Hv.out, ← Hp.out, if_neg hps]
              · exact Below.setCell (Below.setCell (Below.setCell HB.out (Nat.le_refl _) _) (Nat.le_refl _) _) (Nat.le_refl _) _
        · have hnl : ¬ (k : Int) < s.size := by omega
          by_cases h45 : s[0] = 45
          · have hb45 : ((s[0].toNat : Int) == 45) = true := by rw [h45]; rfl
            have Hv := Lib.hid (show n = decR s.data.toList by unfold decR; rw [if_pos (by rw [HD.out, h45]), HX.out])
            have hbd := hnb
            go_wp2_with fail
            refine (refdec_any n _ hbd.1 hbd.2).mono ?_
            rintro e w1 ⟨rfl, hb⟩
            have hh := HeldV.rb (HeldV.at w0 w0.heap.size 0 0 ⟨#[]⟩ 23 rfl) hb
            have z0 := hh.1
            have z1 := hh.2.1
            have z2 := hh.2.2
            have zf : ∀ o, w1.frozen? ⟨w0.heap.size, o, none⟩ = false := fun o => fz_keep hb
            have HB := Lib.hid (Rb.trans _ _ _ (show Rb w0 _ from (Below.refl _ _).alloc (Nat.le_refl _) _) hb)
            clear hb hh
            unfold strV
            obtain ⟨p, hp⟩ : ∃ p, p = str (Lib.itoa n) := ⟨_, rfl⟩
            rw [← hp]
            have Hp := Lib.hid hp
            clear hp
            by_cases hps : p = s
            · subst hps
              go_wp2
              refine bodyPost_ret (v := .tuple #[vv 1 n ⟨#[]⟩, .bool true]) (by simp [results, Tryd.results31, go_sem, vv, z0, z1, z2]) rfl ⟨?_, ?_⟩
              · unfold numT; rw [← Hv.out, ← Hp.out, if_pos rfl]
              · exact Below.setCell (Below.setCell (Below.setCell HB.out (Nat.le_refl _) _) (Nat.le_refl _) _) (Nat.le_refl _) _
            · have hne := ba_ne hps
              go_wp2
              refine bodyPost_ret (v := .tuple #[vv 0 0 ⟨#[]⟩, .bool false]) (by simp [results, Tryd.results31, go_sem, vv, z0, z1, z2]) rfl ⟨?_, ?_⟩
              · unfold numT; rw [← Hv.out, ← Hp.out, if_neg hps]
              · exact Below.setCell (Below.setCell (Below.setCell HB.out (Nat.le_refl _) _) (Nat.le_refl _) _) (Nat.le_refl _) _
          · have hb45 : ((s[0].toNat : Int) == 45) = false := beq_eq_false_iff_ne.2 fun e => h45 (UInt8.toNat_inj.1 (Int.natCast_inj.1 (show ((s[0].toNat : Nat) : Int) = ((45 : Nat) : Int) from e)))
            have Hv := Lib.hid (show wrap64 (-n) = decR s.data.toList by unfold decR; rw [if_neg (by rw [HD.out]; exact h45), HX.out, IntWalk.i64_left])
            have hbd := wrap_bd (-n)
            rw [IntWalk.i64_left] at hbd
            go_wp2_with fail
            refine (refdec_any (wrap64 (-n)) _ hbd.1 hbd.2).mono ?_
            rintro e w1 ⟨rfl, hb⟩
            have hh := HeldV.rb (HeldV.at w0 w0.heap.size 0 0 ⟨#[]⟩ 23 rfl) hb
            have z0 := hh.1
            have z1 := hh.2.1
            have z2 := hh.2.2
            have zf : ∀ o, w1.frozen? ⟨w0.heap.size, o, none⟩ = false := fun o => fz_keep hb
            have HB := Lib.hid (Rb.trans _ _ _ (show Rb w0 _ from (Below.refl _ _).alloc (Nat.le_refl _) _) hb)
            clear hb hh
            unfold strV
            obtain ⟨p, hp⟩ : ∃ p, p = str (Lib.itoa (wrap64 (-n))) := ⟨_, rfl⟩
            rw [← hp]
            have Hp := Lib.hid hp
            clear hp
            by_cases hps : p = s
            · subst hps
              go_wp2
              refine bodyPost_ret (v := .tuple #[vv 1 (wrap64 (-n)) ⟨#[]⟩, .bool true]) (by simp [results, Tryd.results31, go_sem, vv, z0, z1, z2]) rfl ⟨?_, ?_⟩
              · unfold numT; rw [← Hv.out, ← Hp.out, if_pos rfl]
              · exact Below.setCell (Below.setCell (Below.setCell HB.out (Nat.le_refl _) _) (Nat.le_refl _) _) (Nat.le_refl _) _
            · have hne := ba_ne hps
              go_wp2
              refine bodyPost_ret (v := .tuple #[vv 0 0 ⟨#[]⟩, .bool false]) (by simp [results, Tryd.results31, go_sem, vv, z0, z1, z2]) rfl ⟨?_, ?_⟩
              · unfold numT; rw [← Hv.out, ← Hp.out, if_neg hps]
              · exact Below.setCell (Below.setCell (Below.setCell HB.out (Nat.le_refl _) _) (Nat.le_refl _) _) (Nat.le_refl _) _
  · have h2i : ¬ (2 : Int) ≤ s.size := by omega
    clear hq
    by_cases hz : s.size = 0
    · clear hd
      have hz0 : ((s.size : Int) == 0) = true := by rw [hz]; rfl
      have HZ := Lib.hid (show ¬ s.data.toList.getD 0 0 = 45 by
          have : s.data.toList = [] := List.eq_nil_of_length_eq_zero (by rw [Hlen.out]; exact hz)
          rw [this]; decide)
      go_enter Tryd.func31, Tryd.ntmps31
      go_wp2_with fail
      go_loop [7, 8] (fun m i => ∃ (k : Nat) (n : Int), k ≤ s.size ∧ k ≤ 21 ∧ m = .int .i64 n ∧ i = .int .i64 (k : Int) ∧ (-9223372036854775808 ≤ n ∧ n ≤ 9223372036854775807) ∧ Hid ((s.data.toList.take k).foldl digN 0 = n)) (fun _ i => 21 - (intOf i).toNat)
      case atStart => exact ⟨0, 0, Nat.zero_le _, by omega, rfl, rfl, by omega, rfl⟩
      case round =>
        obtain ⟨k, n, hk, hk21, rfl, rfl, hnb, hn⟩ := hrel
        have HN := Lib.hid hn.out
        clear hn
        by_cases hlt : k < s.size ∧ k < 21
        · obtain ⟨hlt, h21⟩ := hlt
          have hl : k < s.data.toList.length := by rw [Hlen.out]; exact hlt
          have hgd : s.data.toList.getD k 0 = s[k] := by
            rw [List.getD_eq_getElem?_getD, List.getElem?_eq_getElem hl]; rfl
          have hfs := fold_step s.data.toList k hl
          rw [hgd, HN.out] at hfs
          have hbd := digN_bd n s[k] hnb
          clear hgd
          by_cases hc1 : 48 ≤ s[k].toNat
          · by_cases hc2 : s[k].toNat ≤ 57
            · rw [show digN n s[k] = _ from if_pos ⟨hc1, hc2⟩, stepN64] at hfs hbd
              have HF := Lib.hid hfs
              have HBD := Lib.hid hbd
              clear hfs hbd hnb
              have hi1 : (48 : Int) ≤ s[k].toNat := by omega
              have hi2 : (s[k].toNat : Int) ≤ 57 := by omega
              go_wp2
              try exact ⟨⟨k + 1, _, by omega, by omega, rfl, rfl, HBD.out, HF.out⟩, by simp only [intOf]; omega⟩
            · rw [show digN n s[k] = _ from if_neg (fun h => hc2 h.2)] at hfs hbd
              have HF := Lib.hid hfs
              clear hfs hbd
              have hi1 : (48 : Int) ≤ s[k].toNat := by omega
              have hi2 : ¬ (s[k].toNat : Int) ≤ 57 := by omega
              go_wp2
              try exact ⟨⟨k + 1, _, by omega, by omega, rfl, rfl, hnb, HF.out⟩, by simp only [intOf]; omega⟩
          · rw [show digN n s[k] = _ from if_neg (fun h => hc1 h.1)] at hfs hbd
            have HF := Lib.hid hfs
            clear hfs hbd
            have hi1 : ¬ (48 : Int) ≤ s[k].toNat := by omega
            go_wp2
            try exact ⟨⟨k + 1, _, by omega, by omega, rfl, rfl, hnb, HF.out⟩, by simp only [intOf]; omega⟩
        · have HX := Lib.hid (show accN s.data.toList = n by
            rw [hac.out, ← HN.out]
            by_cases h21 : k = 21
            · rw [h21]
            · rw [List.take_of_length_le (by rw [Hlen.out]; omega), List.take_of_length_le (by rw [Hlen.out]; omega)])
          clear HN
          have Hv := Lib.hid (show wrap64 (-n) = decR s.data.toList by unfold decR; rw [if_neg (HZ.out), HX.out, IntWalk.i64_left])
          have hbd := wrap_bd (-n)
          rw [IntWalk.i64_left] at hbd
          go_wp2_with fail
          refine (refdec_any (wrap64 (-n)) _ hbd.1 hbd.2).mono ?_
          rintro e w1 ⟨rfl, hb⟩
          have hh := HeldV.rb (HeldV.at w0 w0.heap.size 0 0 ⟨#[]⟩ 23 rfl) hb
          have z0 := hh.1
          have z1 := hh.2.1
          have z2 := hh.2.2
          have zf : ∀ o, w1.frozen? ⟨w0.heap.size, o, none⟩ = false := fun o => fz_keep hb
          have HB := Lib.hid (Rb.trans _ _ _ (show Rb w0 _ from (Below.refl _ _).alloc (Nat.le_refl _) _) hb)
          clear hb hh
          unfold strV
          obtain ⟨p, hp⟩ : ∃ p, p = str (Lib.itoa (wrap64 (-n))) := ⟨_, rfl⟩
          rw [← hp]
          have Hp := Lib.hid hp
          clear hp
          by_cases hps : p = s
          · subst hps
            go_wp2
            refine bodyPost_ret (v := .tuple #[vv 1 (wrap64 (-n)) ⟨#[]⟩, .bool true]) (by simp [results, Tryd.results31, go_sem, vv, z0, z1, z2]) rfl ⟨?_, ?_⟩
            · unfold numT; rw [← Hv.out, ← Hp.out, if_pos rfl]
            · exact Below.setCell (Below.setCell (Below.setCell HB.out (Nat.le_refl _) _) (Nat.le_refl _) _) (Nat.le_refl _) _
          · have hne := ba_ne hps
            go_wp2
            refine bodyPost_ret (v := .tuple #[vv 0 0 ⟨#[]⟩, .bool false]) (by simp [results, Tryd.results31, go_sem, vv, z0, z1, z2]) rfl ⟨?_, ?_⟩
            · unfold numT; rw [← Hv.out, ← Hp.out, if_neg hps]
            · exact Below.setCell (Below.setCell (Below.setCell HB.out (Nat.le_refl _) _) (Nat.le_refl _) _) (Nat.le_refl _) _
    · have HD := Lib.hid (hd (by omega))
      have hz0 : ((s.size : Int) == 0) = false := beq_eq_false_iff_ne.2 (by omega)
      have hz1 : ¬ s = ByteArray.empty := fun e => hz (by rw [e]; rfl)
      clear hd
      go_enter Tryd.func31, Tryd.ntmps31
      go_wp2_with fail
      go_loop [7, 8] (fun m i => ∃ (k : Nat) (n : Int), k ≤ s.size ∧ k ≤ 21 ∧ m = .int .i64 n ∧ i = .int .i64 (k : Int) ∧ (-9223372036854775808 ≤ n ∧ n ≤ 9223372036854775807) ∧ Hid ((s.data.toList.take k).foldl digN 0 = n)) (fun _ i => 21 - (intOf i).toNat)
      case atStart => exact ⟨0, 0, Nat.zero_le _, by omega, rfl, rfl, by omega, rfl⟩
      case round =>
        obtain ⟨k, n, hk, hk21, rfl, rfl, hnb, hn⟩ := hrel
        have HN := Lib.hid hn.out
        clear hn
        by_cases hlt : k < s.size ∧ k < 21
        · obtain ⟨hlt, h21⟩ := hlt
          have hl : k < s.data.toList.length := by rw [Hlen.out]; exact hlt
          have hgd : s.data.toList.getD k 0 = s[k] := by
            rw [List.getD_eq_getElem?_getD, List.getElem?_eq_getElem hl]; rfl
          have hfs := fold_step s.data.toList k hl
          rw [hgd, HN.out] at hfs
          have hbd := digN_bd n s[k] hnb
          clear hgd
          by_cases hc1 : 48 ≤ s[k].toNat
          · by_cases hc2 : s[k].toNat ≤ 57
            · rw [show digN n s[k] = _ from if_pos ⟨hc1, hc2⟩, stepN64] at hfs hbd
              have HF := Lib.hid hfs
              have HBD := Lib.hid hbd
              clear hfs hbd hnb
              have hi1 : (48 : Int) ≤ s[k].toNat := by omega
              have hi2 : (s[k].toNat : Int) ≤ 57 := by omega
              go_wp2
              exact ⟨⟨k + 1, _, by omega, by omega, rfl, rfl, HBD.out, HF.out⟩, by simp only [intOf]; omega⟩
            · rw [show digN n s[k] = _ from if_neg (fun h => hc2 h.2)] at hfs hbd
              have HF := Lib.hid hfs
              clear hfs hbd
              have hi1 : (48 : Int) ≤ s[k].toNat := by omega
              have hi2 : ¬ (s[k].toNat : Int) ≤ 57 := by omega
              go_wp2
              exact ⟨⟨k + 1, _, by omega, by omega, rfl, rfl, hnb, HF.out⟩, by simp only [intOf]; omega⟩
          · rw [show digN n s[k] = _ from if_neg (fun h => hc1 h.1)] at hfs hbd
            have HF := Lib.hid hfs
            clear hfs hbd
            have hi1 : ¬ (48 : Int) ≤ s[k].toNat := by omega
            go_wp2
            exact ⟨⟨k + 1, _, by omega, by omega, rfl, rfl, hnb, HF.out⟩, by simp only [intOf]; omega⟩
        · have HX := Lib.hid (show accN s.data.toList = n by
            rw [hac.out, ← HN.out]
            by_cases h21 : k = 21
            · rw [h21]
            · rw [List.take_of_length_le (by rw [Hlen.out]; omega), List.take_of_length_le (by rw [Hlen.out]; omega)])
          clear HN
          have h21 : ¬ (k : Int) < s.size := by omega
          by_cases h45 : s[0] = 45
          · have hb45 : ((s[0].toNat : Int) == 45) = true := by rw [h45]; rfl
            have Hv := Lib.hid (show n = decR s.data.toList by unfold decR; rw [if_pos (by rw [HD.out, h45]), HX.out])
            have hbd := hnb
            go_wp2_with fail
            refine (refdec_any n _ hbd.1 hbd.2).mono ?_
            rintro e w1 ⟨rfl, hb⟩
            have hh := HeldV.rb (HeldV.at w0 w0.heap.size 0 0 ⟨#[]⟩ 23 rfl) hb
            have z0 := hh.1
            have z1 := hh.2.1
            have z2 := hh.2.2
            have zf : ∀ o, w1.frozen? ⟨w0.heap.size, o, none⟩ = false := fun o => fz_keep hb
            have HB := Lib.hid (Rb.trans _ _ _ (show Rb w0 _ from (Below.refl _ _).alloc (Nat.le_refl _) _) hb)
            clear hb hh
            unfold strV
            obtain ⟨p, hp⟩ : ∃ p, p = str (Lib.itoa n) := ⟨_, rfl⟩
            rw [← hp]
            have Hp := Lib.hid hp
            clear hp
            by_cases hps : p = s
            · subst hps
              go_wp2
              refine bodyPost_ret (v := .tuple #[vv 1 n ⟨#[]⟩, .bool true]) (by simp [results, Tryd.results31, go_sem, vv, z0, z1, z2]) rfl ⟨?_, ?_⟩
              · unfold numT; rw [← Hv.out, ← Hp.out, if_pos rfl]
              · exact Below.setCell (Below.setCell (Below.setCell HB.out (Nat.le_refl _) _) (Nat.le_refl _) _) (Nat.le_refl _) _
            · have hne := ba_ne hps
              go_wp2
              refine bodyPost_ret (v := .tuple #[vv 0 0 ⟨#[]⟩, .bool false]) (by simp [results, Tryd.results31, go_sem, vv, z0, z1, z2]) rfl ⟨?_, ?_⟩
              · unfold numT; rw [← Hv.out, ← Hp.out, if_neg hps]
              · exact Below.setCell (Below.setCell (Below.setCell HB.out (Nat.le_refl _) _) (Nat.le_refl _) _) (Nat.le_refl _) _
          · have hb45 : ((s[0].toNat : Int) == 45) = false := beq_eq_false_iff_ne.2 fun e => h45 (UInt8.toNat_inj.1 (Int.natCast_inj.1 (show ((s[0].toNat : Nat) : Int) = ((45 : Nat) : Int) from e)))
            have Hv := Lib.hid (show wrap64 (-n) = decR s.data.toList by unfold decR; rw [if_neg (by rw [HD.out]; exact h45), HX.out, IntWalk.i64_left])
            have hbd := wrap_bd (-n)
            rw [IntWalk.i64_left] at hbd
            go_wp2_with fail
            refine (refdec_any (wrap64 (-n)) _ hbd.1 hbd.2).mono ?_
            rintro e w1 ⟨rfl, hb⟩
            have hh := HeldV.rb (HeldV.at w0 w0.heap.size 0 0 ⟨#[]⟩ 23 rfl) hb
            have z0 := hh.1
            have z1 := hh.2.1
            have z2 := hh.2.2
            have zf : ∀ o, w1.frozen? ⟨w0.heap.size, o, none⟩ = false := fun o => fz_keep hb
            have HB := Lib.hid (Rb.trans _ _ _ (show Rb w0 _ from (Below.refl _ _).alloc (Nat.le_refl _) _) hb)
            clear hb hh
            unfold strV
            obtain ⟨p, hp⟩ : ∃ p, p = str (Lib.itoa (wrap64 (-n))) := ⟨_, rfl⟩
            rw [← hp]
            have Hp := Lib.hid hp
            clear hp
            by_cases hps : p = s
            · subst hps
              go_wp2
              refine bodyPost_ret (v := .tuple #[vv 1 (wrap64 (-n)) ⟨#[]⟩, .bool true]) (by simp [results, Tryd.results31, go_sem, vv, z0, z1, z2]) rfl ⟨?_, ?_⟩
              · unfold numT; rw [← Hv.out, ← Hp.out, if_pos rfl]
              · exact Below.setCell (Below.setCell (Below.setCell HB.out (Nat.le_refl _) _) (Nat.le_refl _) _) (Nat.le_refl _) _
            · have hne := ba_ne hps
              go_wp2
              refine bodyPost_ret (v := .tuple #[vv 0 0 ⟨#[]⟩, .bool false]) (by simp [results, Tryd.results31, go_sem, vv, z0, z1, z2]) rfl ⟨?_, ?_⟩
              · unfold numT; rw [← Hv.out, ← Hp.out, if_neg hps]
              · exact Below.setCell (Below.setCell (Below.setCell HB.out (Nat.le_refl _) _) (Nat.le_refl _) _) (Nat.le_refl _) _
end Go.Proofs.YtefjfiihfbkjoaaDoor
