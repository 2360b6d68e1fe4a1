/-
  Layer 6: the walk of SchemaNames.
-/
import Derived.Test.YtolfeellcdoopaaDoorS11
namespace Go.Proofs.YtolfeellcdoopaaDoor.L6
open Go.ChangeShapes Go.WideShapes Go.ChangeAt Go.RowKit Oct By Reg Val
set_option linter.unusedVariables false
set_option linter.unusedSimpArgs false

theorem name_more (t : ByteArray) (c : UInt8) (h : nameB t = true) : nameB (t ++ str [c]) = (signB c && decide (t.size + 1 ≤ 16) && !wordB (t ++ str [c])) := by
  unfold nameB at h ⊢
  rw [Bool.and_eq_true] at h
  congr 1
  obtain ⟨h, -⟩ := h
  unfold nameL at h ⊢
  simp only [Bool.and_eq_true, decide_eq_true_eq] at h
  obtain ⟨⟨⟨h1, h2⟩, h3⟩, h4⟩ := h
  have e : (t ++ str [c]).data.toList = t.data.toList ++ [c] := by simp [ByteArray.data_append, str]
  have hl : t.data.toList.length = t.size := Array.length_toList
  rw [e]
  cases hh : t.data.toList with
  | nil => rw [hh] at h1; simp at h1
  | cons a r =>
    rw [hh] at h2 h3 h4 hl
    have hg : ((a :: r) ++ [c]).getD 0 0 = (a :: r).getD 0 0 := rfl
    rw [hg, h2, List.all_append, h3]
    simp only [List.cons_append, List.isEmpty_cons, Bool.not_false, Bool.true_and, List.all_cons, List.all_nil, Bool.and_true]
    congr 1
    rw [← hl]
    simp
theorem table_name : nameB ⟨#[116, 97, 98, 108, 101]⟩ = false := by unfold nameB; rw [wordB_data]; rfl
theorem empty_name : nameB ⟨#[]⟩ = false := rfl

set_option maxRecDepth 100000 in
set_option maxHeartbeats 4000000 in
theorem names_walk (s : ByteArray) (c : UInt8) (w0 : World) (hs : s.size ≤ maxLen) (htab : Tab w0) :
    Calls Tryd.prog 7 #[.string s, .int .u8 (c.toNat : Int)] w0 fun e w' => e = .returned (.bool true) ∧ Below w0.heap.size w0 w' := by
  have HT := Lib.hid htab; clear htab
  have hu := UInt8.toNat_lt c
  unfold maxLen at hs
  go_enter Tryd.func7, Tryd.ntmps7
  go_upto_region 1 with (fail)
  go_cut [0] from 7 (fun p wx => ∃ t : ByteArray, p = .string t ∧ t.size ≤ 40 ∧ w0 = wx)
  case first =>
    go_wp2_with fail
    all_goals
      go_meet
      exact ⟨_, rfl, by simp only [ByteArray.size_extract]; omega, rfl⟩
  obtain ⟨t, rfl, ht, rfl⟩ := hcut
  have hmt : t.size ≤ maxLen := by unfold maxLen; omega
  have hn := fun w => isname_any t w hmt
  cases hb : nameB t with
  | false =>
    rw [hb] at hn
    go_wp2_with fail
    refine (hn _).mono ?_
    rintro e w1 ⟨rfl, rfl⟩
    clear hn
    go_wp2_with fail
    refine (lives_any _ HT.out).mono ?_
    rintro e w2 ⟨rfl, hb2⟩
    have HB2 := Lib.hid hb2
    clear hb2
    go_wp2
    go_ret
    exact ⟨rfl, HB2.out⟩
  | true =>
    have HM := Lib.hid (name_more t c hb)
    rw [hb] at hn
    clear hb
    go_wp2_with fail
    refine (hn _).mono ?_
    rintro e w1 ⟨rfl, rfl⟩
    clear hn
    go_upto_region 4 with (fail)
    go_cut [5] from 16 (fun p wx => p = .bool (signB c) ∧ w0 = wx)
    case first =>
      by_cases c1 : 97 ≤ c.toNat <;> by_cases c2 : c.toNat ≤ 122 <;> by_cases c3 : 48 ≤ c.toNat <;> by_cases c4 : c.toNat ≤ 57 <;> by_cases c5 : c.toNat = 95 <;> first | (exfalso; omega) | skip
      all_goals
        have HG := Lib.hid (show signB c = (decide (97 ≤ c.toNat) && decide (c.toNat ≤ 122) || decide (48 ≤ c.toNat) && decide (c.toNat ≤ 57) || decide (c.toNat = 95)) from rfl)
        simp only [c1, c2, c3, c4, c5, decide_true, decide_false, Bool.and_self, Bool.and_false, Bool.false_and, Bool.or_self, Bool.or_false, Bool.false_or, Bool.true_or, Bool.or_true, Bool.and_true] at HG
        have c6 : ((c.toNat : Int) == 95) = decide (c.toNat = 95) := by rw [Bool.eq_iff_iff]; simp; omega
        simp only [c5, decide_true, decide_false] at c6
        have C5 := Lib.hid c5
        clear c5
        go_wp2_with fail
        go_meet
        exact ⟨by rw [HG.out] <;> (first | done | rfl | (have := C5.out; simp; omega) | (simp [*]; done)), rfl⟩
    obtain ⟨rfl, rfl⟩ := hcut
    generalize signB c = good at *
    obtain ⟨M, hM⟩ : ∃ M, M = t ++ str [c] := ⟨_, rfl⟩
    have hMz : M.size = t.size + 1 := by rw [hM, ByteArray.size_append, str_size]; rfl
    have HMM := Lib.hid hM
    rw [← hM] at HM
    have hmm : M.size ≤ maxLen := by unfold maxLen; omega
    have hnM := fun w => isname_any M w hmm
    have hwM := fun w => isword_any M w hmm
    have htab := fun w => isname_any ⟨#[116, 97, 98, 108, 101]⟩ w (by decide)
    have hemp := fun w => isname_any ⟨#[]⟩ w (by decide)
    rw [table_name] at htab
    rw [empty_name] at hemp
    have n1 : ¬ 9223372036854775807 < t.size + 1 := by omega
    have hcv : (convert 44 9 (.slice (some ⟨w0.heap.size, 0, none⟩) 1 1)).run Tryd.prog (w0.alloc (.cells #[.int .u8 (c.toNat : Int)] 5)) = .ok (.string (str [c])) (w0.alloc (.cells #[.int .u8 (c.toNat : Int)] 5)) :=
      run_convert_Bs (xs := [c]) (Bs.of_owns (owns_lit w0 0 5 [c] (Nat.zero_le _) (by simp [maxLen]))) 44 5 9 Tryd.underlying44 Tryd.underlying5 Tryd.underlying9
    have n2 : ¬ 9223372036854775807 < t.size + (str [c]).size := by rw [str_size]; exact n1
    have HRA := Lib.hid (show Rb w0 (w0.alloc (.cells #[.int .u8 (c.toNat : Int)] 5)) from (Below.refl _ _).alloc (Nat.le_refl _) _)
    clear hM n1
    go_upto_region 6 with (fail)
    rw [← HMM.out]
    generalize w0.alloc (.cells #[.int .u8 (c.toNat : Int)] 5) = w1 at *
    clear hcv n2
    go_wp2_with fail
    refine (hnM _).mono ?_
    rintro e w2 ⟨rfl, rfl⟩
    clear hnM
    cases good with
    | false =>
      have hf : nameB M = false := by rw [HM.out]; rfl
      rw [hf]
      have HB2 := HRA
      clear hf hwM
      go_wp2_with fail
      refine (htab _).mono ?_
      rintro e w9 ⟨rfl, rfl⟩
      go_wp2_with fail
      refine (hemp _).mono ?_
      rintro e w9 ⟨rfl, rfl⟩
      clear htab hemp
      go_wp2_with fail
      refine (lives_any _ (HT.out.rb HB2.out)).mono ?_
      rintro e w9 ⟨rfl, hb9⟩
      have HB9 := Lib.hid (Rb.trans _ _ _ HB2.out hb9)
      clear hb9
      go_wp2
      go_ret
      exact ⟨rfl, HB9.out⟩
    | true =>
      by_cases h16 : M.size ≤ 16
      · have hf : nameB M = !wordB M := by rw [HM.out, decide_eq_true (by omega : t.size + 1 ≤ 16)]; rfl
        rw [hf]
        have h16' : (M.size : Int) ≤ 16 := by omega
        clear hf
        go_wp2_with fail
        refine (hwM _).mono ?_
        rintro e w2 ⟨rfl, hb2⟩
        have HB2 := Lib.hid (Rb.trans _ _ _ HRA.out hb2)
        clear hb2 hwM
        generalize wordB M = wd at *
        cases wd
        all_goals
          go_wp2_with fail
          refine (htab _).mono ?_
          rintro e w9 ⟨rfl, rfl⟩
          go_wp2_with fail
          refine (hemp _).mono ?_
          rintro e w9 ⟨rfl, rfl⟩
          clear htab hemp
          go_wp2_with fail
          refine (lives_any _ (HT.out.rb HB2.out)).mono ?_
          rintro e w9 ⟨rfl, hb9⟩
          have HB9 := Lib.hid (Rb.trans _ _ _ HB2.out hb9)
          clear hb9
          go_wp2
          go_ret
          exact ⟨rfl, HB9.out⟩
      · have hf : nameB M = false := by rw [HM.out, decide_eq_false (by omega : ¬ t.size + 1 ≤ 16)]; rfl
        rw [hf]
        have HB2 := HRA
        have h16' : ¬ (M.size : Int) ≤ 16 := by omega
        clear hf hwM
        go_wp2_with fail
        refine (htab _).mono ?_
        rintro e w9 ⟨rfl, rfl⟩
        go_wp2_with fail
        refine (hemp _).mono ?_
        rintro e w9 ⟨rfl, rfl⟩
        clear htab hemp
        go_wp2_with fail
        refine (lives_any _ (HT.out.rb HB2.out)).mono ?_
        rintro e w9 ⟨rfl, hb9⟩
        have HB9 := Lib.hid (Rb.trans _ _ _ HB2.out hb9)
        clear hb9
        go_wp2
        go_ret
        exact ⟨rfl, HB9.out⟩
end Go.Proofs.YtolfeellcdoopaaDoor.L6
