/-
  Layer 2: the text of a value, by the document's own answer.
-/
import Derived.Test.YtefjfiihfbkjoaaDoorVH
namespace Go.Proofs.YtefjfiihfbkjoaaDoor
open Go.ChangeShapes Go.WideShapes Go.ChangeAt Go.RowKit Oct By Reg Val

theorem ext1 (s : ByteArray) (k : Nat) (h : k < s.size) : s.extract k (k + 1) = str [s[k]] := by
  have e : (s.extract k (k + 1)).data = (str [s[k]]).data := by
    rw [ByteArray.data_extract]
    apply Array.ext'
    rw [Array.toList_extract]
    have hl : k < s.data.toList.length := by rw [Array.length_toList]; exact h
    show (s.data.toList.extract k (k + 1)) = [s[k]]
    rw [List.extract_eq_take_drop, List.drop_eq_getElem_cons hl, show k + 1 - k = 1 by omega]
    rfl
  exact ByteArray.ext e

set_option maxRecDepth 100000 in
theorem refprint_any (k n : Int) (s : ByteArray) (w0 : World) (hs : s.size ≤ maxLen) (h0 : -9223372036854775808 ≤ n) (h1 : n ≤ 9223372036854775807) :
    Calls Tryd.prog 33 #[vv k n s] w0 fun e w' => e = .returned (strV (printV k n s.data.toList)) ∧ Below w0.heap.size w0 w' := by
  have c := fun w => refright_any k n s w hs
  cases hr : rightB k n s.data.toList
  · have hR := Lib.hid (show (⟨#[]⟩ : ByteArray) = str (printV k n s.data.toList) by unfold printV; rw [hr]; rfl)
    rw [hr] at c
    have C := Lib.hid c; clear c hr
    go_enter Tryd.func33, Tryd.ntmps33
    go_wp2_with fail
    refine (C.out _).mono ?_
    rintro e w' ⟨rfl, hb⟩
    have HB := Lib.hid hb; clear hb
    go_wp2
    go_ret
    exact ⟨ret_str hR.out, ((Below.refl _ _).alloc (Nat.le_refl _) _).trans (HB.out.mono (by simp))⟩
  have hk := kinds_of hr
  rcases hk with rfl | rfl | rfl
  · have hR := Lib.hid (show str (Lib.itoa n) = str (printV 1 n s.data.toList) by unfold printV; rw [hr]; rfl)
    rw [hr] at c
    have C := Lib.hid c; clear c hr
    go_enter Tryd.func33, Tryd.ntmps33
    go_wp2_with fail
    refine (C.out _).mono ?_
    rintro e w1 ⟨rfl, hb⟩
    obtain ⟨hc, hf⟩ := bcell hb
    have HB := Lib.hid (((Below.refl w0.heap.size w0).alloc (Nat.le_refl _) (.cells #[.int .i64 1, .int .i64 n, .string s] 23)).trans (hb.mono (by simp))); clear hb
    have CF := Lib.hid (refdec_any n w1 h0 h1)
    go_wp2_with fail
    refine CF.out.mono ?_
    rintro e w2 ⟨rfl, hb2⟩
    have HB2 := Lib.hid hb2; clear hb2 hc hf CF
    unfold strV
    go_wp2
    go_ret
    exact ⟨ret_str hR.out, Below.trans HB.out (Below.mono HB2.out HB.out.size)⟩
  · by_cases hn : n = 1
    · subst hn
      have hR := Lib.hid (show (⟨#[116, 114, 117, 101]⟩ : ByteArray) = str (printV 2 1 s.data.toList) by unfold printV; rw [hr, if_pos rfl]; rfl)
      rw [hr] at c
      have C := Lib.hid c; clear c hr
      go_enter Tryd.func33, Tryd.ntmps33
      go_wp2_with fail
      refine (C.out _).mono ?_
      rintro e w1 ⟨rfl, hb⟩
      obtain ⟨hc, hf⟩ := bcell hb
      have HB := Lib.hid (((Below.refl w0.heap.size w0).alloc (Nat.le_refl _) (.cells #[.int .i64 2, .int .i64 1, .string s] 23)).trans (hb.mono (by simp))); clear hb
      go_wp2
      go_ret
      exact ⟨ret_str hR.out, HB.out⟩
    · have hR := Lib.hid (show (⟨#[102, 97, 108, 115, 101]⟩ : ByteArray) = str (printV 2 n s.data.toList) by unfold printV; rw [hr, if_pos rfl]; unfold textV; simp [hn]; rfl)
      have hb1 : (n == 1) = false := by simp [hn]
      rw [hr] at c
      have C := Lib.hid c; clear c hr hn
      go_enter Tryd.func33, Tryd.ntmps33
      go_wp2_with fail
      refine (C.out _).mono ?_
      rintro e w1 ⟨rfl, hb⟩
      obtain ⟨hc, hf⟩ := bcell hb
      have HB := Lib.hid (((Below.refl w0.heap.size w0).alloc (Nat.le_refl _) (.cells #[.int .i64 2, .int .i64 n, .string s] 23)).trans (hb.mono (by simp))); clear hb
      go_wp2
      go_ret
      exact ⟨ret_str hR.out, HB.out⟩
  · have hR := Lib.hid (show str (quoteB s.data.toList) = str (printV 3 n s.data.toList) by unfold printV; rw [hr]; rfl)
    have h100 := text_size hr
    have Hlen := Lib.hid (show s.data.toList.length = s.size from Array.length_toList)
    rw [hr] at c
    have C := Lib.hid c; clear c hr
    go_enter Tryd.func33, Tryd.ntmps33
    go_wp2_with fail
    refine (C.out _).mono ?_
    rintro e w1 ⟨rfl, hb⟩
    have hh := (HeldV.new w0 3 n s 23).rb hb
    have HB := Lib.hid (((Below.refl w0.heap.size w0).alloc (Nat.le_refl _) (.cells #[.int .i64 3, .int .i64 n, .string s] 23)).trans (hb.mono (by simp))); clear hb
    have z0 := hh.1
    have z1 := hh.2.1
    have z2 := hh.2.2
    clear hh
    go_wp2_with fail
    go_loop [3, 4] (fun q i => ∃ k : Nat, k ≤ s.size ∧ i = .int .i64 (k : Int) ∧ q = .string (str (34 :: esc (s.data.toList.take k)))) (fun _ i => s.size - (intOf i).toNat)
    case atStart => exact ⟨0, Nat.zero_le _, rfl, rfl⟩
    case round =>
      obtain ⟨k, hk, rfl, rfl⟩ := hrel
      obtain ⟨A, hA⟩ : ∃ A, A = 34 :: esc (s.data.toList.take k) := ⟨_, rfl⟩
      have hal : A.length ≤ 201 := by
        rw [hA, List.length_cons]; have := esc_len (s.data.toList.take k); have := List.length_take_le k s.data.toList; omega
      have hqs : (str A).size ≤ 201 := by rw [str_size]; exact hal
      rw [← hA]
      have HA := Lib.hid hA
      clear hA
      obtain ⟨q, hq⟩ : ∃ q, q = str A := ⟨_, rfl⟩
      rw [← hq] at hqs ⊢
      have HQ := Lib.hid hq
      clear hq
      by_cases hlt : k < s.size
      · have hl : k < s.data.toList.length := by rw [Hlen.out]; exact hlt
        have hgd : s.data.toList.getD k 0 = s[k] := by
          rw [List.getD_eq_getElem?_getD, List.getElem?_eq_getElem hl]; rfl
        have het := esc_take s.data.toList k hl
        rw [hgd] at het
        have Het := Lib.hid het
        have hx := ext1 s k hlt
        have hd1 : (str [s[k]]).size = 1 := str_size _
        obtain ⟨d, hd⟩ : ∃ d, d = str [s[k]] := ⟨_, rfl⟩
        rw [← hd] at hx hd1
        have HD := Lib.hid hd
        clear het hgd hd
        have hs1 : q.size + 1 ≤ 9223372036854775807 := by omega
        have hs2 : q.size + d.size ≤ 9223372036854775807 := by omega
        have hs3 : q.size + 1 + d.size ≤ 9223372036854775807 := by omega
        have Hd1 := Lib.hid hd1
        clear hd1
        by_cases hqq : s[k] = 34 ∨ s[k] = 92
        · have hn : Hid (q ++ ⟨#[92]⟩ ++ d = str (34 :: esc (s.data.toList.take (k + 1)))) := by
            show q ++ ⟨#[92]⟩ ++ d = str (34 :: esc (s.data.toList.take (k + 1)))
            rw [Het.out, if_pos hqq, HQ.out, HD.out, show (⟨#[92]⟩ : ByteArray) = str [92] from rfl, str_append, str_append, HA.out]; simp
          by_cases h34 : s[k] = 34
          · have h1 : ((s[k].toNat : Int) == 34) = true := by rw [h34]; rfl
            clear hqq h34
            go_wp2_with fail
            go_round
            case rel => exact ⟨k + 1, by omega, by go_num, congrArg Value.string hn.out⟩
            case measure => simp [intOf]; omega
          · have h92 : s[k] = 92 := by rcases hqq with h | h; exact absurd h h34; exact h
            have h1 : ((s[k].toNat : Int) == 34) = false := by rw [h92]; rfl
            have h2 : ((s[k].toNat : Int) == 92) = true := by rw [h92]; rfl
            clear hqq h34 h92
            go_wp2_with fail
            go_round
            case rel => exact ⟨k + 1, by omega, by go_num, congrArg Value.string hn.out⟩
            case measure => simp [intOf]; omega
        · have h1 : ((s[k].toNat : Int) == 34) = false := by
            rw [beq_eq_false_iff_ne]; intro h; exact hqq (.inl (UInt8.toNat_inj.1 (by rw [show s[k].toNat = 34 by omega]; rfl)))
          have h2 : ((s[k].toNat : Int) == 92) = false := by
            rw [beq_eq_false_iff_ne]; intro h; exact hqq (.inr (UInt8.toNat_inj.1 (by rw [show s[k].toNat = 92 by omega]; rfl)))
          have hn : Hid (q ++ d = str (34 :: esc (s.data.toList.take (k + 1)))) := by
            show q ++ d = str (34 :: esc (s.data.toList.take (k + 1)))
            rw [Het.out, if_neg hqq, HQ.out, HD.out, str_append, HA.out]; rfl
          clear hqq
          go_wp2_with fail
          go_round
          case rel => exact ⟨k + 1, by omega, by go_num, congrArg Value.string hn.out⟩
          case measure => simp [intOf]; omega
      · have hfin : Hid (q ++ ⟨#[34]⟩ = str (quoteB s.data.toList)) := by
          show q ++ ⟨#[34]⟩ = str (quoteB s.data.toList)
          rw [HQ.out, HA.out, List.take_of_length_le (by rw [Hlen.out]; omega), show (⟨#[34]⟩ : ByteArray) = str [34] from rfl, str_append]; rfl
        have hs1 : q.size + 1 ≤ 9223372036854775807 := by omega
        go_wp2_with fail
        go_ret
        exact ⟨ret_str (hfin.out.trans hR.out), HB.out⟩
end Go.Proofs.YtefjfiihfbkjoaaDoor
