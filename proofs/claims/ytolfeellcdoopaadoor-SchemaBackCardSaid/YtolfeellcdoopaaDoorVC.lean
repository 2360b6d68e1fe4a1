/-
  Layer 2: the document's own answer to which values are right; types; zero values; which value fits which type.
-/
import Derived.Test.YtolfeellcdoopaaDoorVB
namespace Go.Proofs.YtolfeellcdoopaaDoor
open Go.ChangeShapes Go.WideShapes Go.ChangeAt Go.RowKit Oct By Reg Val

def AllOk (l : List UInt8) : Prop := l.all okB = true
set_option maxRecDepth 100000 in
theorem refright_any (k n : Int) (s : ByteArray) (w : World) (hs : s.size ≤ maxLen) :
    Calls Tryd.prog 78 #[vv k n s] w fun e w' => e = .returned (.bool (rightB k n s.data.toList)) ∧ Below w.heap.size w w' := by
  have hb := (Below.refl w.heap.size w).alloc (Nat.le_refl _) (.cells #[.int .i64 k, .int .i64 n, .string s] 70)
  have hem := empty_iff s
  by_cases h1 : k = 1
  · subst h1
    have Hr : Hid ((s.toList == (⟨#[]⟩ : ByteArray).toList) = rightB 1 n s.data.toList) := by
      show (s.toList == (⟨#[]⟩ : ByteArray).toList) = rightB 1 n s.data.toList
      unfold rightB; rw [hem, if_pos rfl]
    have Hb := Lib.hid hb; clear hb hem
    go_enter Tryd.func78, Tryd.ntmps78
    go_wp2
    go_ret
    exact ⟨ret_bool (by rw [← Hr.out]; rw [Bool.eq_iff_iff]; simp), Hb.out⟩
  by_cases h2 : k = 2
  · subst h2
    clear h1
    have Hr : Hid (((s.toList == (⟨#[]⟩ : ByteArray).toList) && decide (0 ≤ n ∧ n ≤ 1)) = rightB 2 n s.data.toList) := by
      show ((s.toList == (⟨#[]⟩ : ByteArray).toList) && decide (0 ≤ n ∧ n ≤ 1)) = rightB 2 n s.data.toList
      unfold rightB; rw [hem, if_neg (by decide), if_pos rfl]
    have Hb := Lib.hid hb; clear hb hem
    go_enter Tryd.func78, Tryd.ntmps78
    go_wp2
    all_goals
      go_ret
      subst_vars
      refine ⟨ret_bool ?_, Hb.out⟩
      rw [← Hr.out, Bool.eq_iff_iff]
      simp_all
      try omega
  · have Hb := Lib.hid hb; clear hb hem
    unfold maxLen at hs
    have Hlen := Lib.hid (show s.data.toList.length = s.size from Array.length_toList)
    go_enter Tryd.func78, Tryd.ntmps78
    go_wp2
    go_loop [3] (fun i => ∃ j : Nat, j ≤ s.size ∧ i = .int .i64 j ∧ AllOk (s.data.toList.take j)) (fun i => s.size - (intOf i).toNat)
    case atStart => exact ⟨0, Nat.zero_le _, rfl, rfl⟩
    case round =>
      obtain ⟨j, hk, rfl, ha⟩ := hrel
      by_cases hlt : j < s.size
      · have hl : j < s.data.toList.length := by rw [Hlen.out]; exact hlt
        have hgd : s.data.toList.getD j 0 = s[j] := by
          rw [List.getD_eq_getElem?_getD, List.getElem?_eq_getElem hl]; rfl
        by_cases hok : okB s[j] = true
        · have hok' := hok
          unfold okB at hok'
          simp only [Bool.and_eq_true, decide_eq_true_eq] at hok'
          obtain ⟨h1, h2⟩ := hok'
          have ha' : AllOk (s.data.toList.take (j + 1)) := by
            show (s.data.toList.take (j + 1)).all okB = true
            rw [all_take_succ hl, show (s.data.toList.take j).all okB = true from ha, hgd, hok]; rfl
          clear hok ha hgd
          go_wp2
          go_round
          case rel => exact ⟨j + 1, by omega, by go_num, ha'⟩
          case measure => simp [intOf]; omega
        · have Hr : Hid (false = rightB k n s.data.toList) := by
            show false = rightB k n s.data.toList
            unfold rightB rightTextB
            rw [if_neg h1, if_neg h2, all_false_of hl (by rw [hgd]; exact Bool.eq_false_iff.2 hok), Bool.and_false, Bool.and_false]
            simp
          have hok' := hok
          unfold okB at hok'
          simp only [Bool.and_eq_true, decide_eq_true_eq] at hok'
          clear hok ha hgd
          by_cases h1 : s[j].toNat < 32
          · clear hok'
            go_wp2
            go_ret
            exact ⟨ret_bool Hr.out, Hb.out⟩
          · have h2 : 126 < s[j].toNat := by omega
            clear hok'
            go_wp2
            go_ret
            exact ⟨ret_bool Hr.out, Hb.out⟩
      · have Hr : Hid ((decide (k = 3) && (decide (n = 0) && decide (s.size ≤ 32))) = rightB k n s.data.toList) := by
          show (decide (k = 3) && (decide (n = 0) && decide (s.size ≤ 32))) = rightB k n s.data.toList
          have h : (s.data.toList.take j).all okB = true := ha
          rw [List.take_of_length_le (by rw [Hlen.out]; omega)] at h
          unfold rightB rightTextB
          rw [if_neg h1, if_neg h2, Hlen.out, h]
          by_cases h3 : k = 3 <;> simp [h3]
        clear ha
        go_wp2
        all_goals
          go_ret
          subst_vars
          refine ⟨ret_bool ?_, Hb.out⟩
          rw [← Hr.out, Bool.eq_iff_iff]
          simp [*]
          try omega

theorem righttype_any (k m : Int) (w : World) :
    Calls Tryd.prog 70 #[tv k m] w fun e w' => e = .returned (.bool (rightTypeB k m)) ∧ Below w.heap.size w w' := by
  have hb := (Below.refl w.heap.size w).alloc (Nat.le_refl _) (.cells #[.int .i64 k, .int .i64 m] 55)
  have Hb := Lib.hid hb; clear hb
  by_cases h1 : k = 1
  · subst h1
    go_enter Tryd.func70, Tryd.ntmps70
    go_wp2
    all_goals
      go_ret
      subst_vars
      refine ⟨ret_bool ?_, Hb.out⟩
      unfold rightTypeB
      simp [*]
      try omega
  by_cases h2 : k = 2
  · subst h2
    clear h1
    go_enter Tryd.func70, Tryd.ntmps70
    go_wp2
    all_goals
      go_ret
      subst_vars
      refine ⟨ret_bool ?_, Hb.out⟩
      unfold rightTypeB
      simp [*]
      try omega
  by_cases h3 : k = 3
  · subst h3
    clear h1 h2
    go_enter Tryd.func70, Tryd.ntmps70
    go_wp2
    all_goals
      go_ret
      subst_vars
      refine ⟨ret_bool ?_, Hb.out⟩
      unfold rightTypeB
      simp [*]
      try omega
  · go_enter Tryd.func70, Tryd.ntmps70
    go_wp2
    go_ret
    exact ⟨ret_bool (by unfold rightTypeB; rw [if_neg (by omega), if_neg h3]), Hb.out⟩

theorem refrighttype_any (k m : Int) (w : World) :
    Calls Tryd.prog 36 #[tv k m] w fun e w' => e = .returned (.bool (rightTypeB k m)) ∧ Below w.heap.size w w' := by
  have hb := (Below.refl w.heap.size w).alloc (Nat.le_refl _) (.cells #[.int .i64 k, .int .i64 m] 55)
  have Hb := Lib.hid hb; clear hb
  by_cases h1 : k = 1
  · subst h1
    go_enter Tryd.func36, Tryd.ntmps36
    go_wp2
    all_goals
      go_ret
      subst_vars
      refine ⟨ret_bool ?_, Hb.out⟩
      unfold rightTypeB
      first | (simp [*]; done) | (simp [*]; omega) | (rw [Bool.eq_iff_iff]; simp [*]; omega)
  by_cases h2 : k = 2
  · subst h2
    clear h1
    go_enter Tryd.func36, Tryd.ntmps36
    go_wp2
    all_goals
      go_ret
      subst_vars
      refine ⟨ret_bool ?_, Hb.out⟩
      unfold rightTypeB
      first | (simp [*]; done) | (simp [*]; omega) | (rw [Bool.eq_iff_iff]; simp [*]; omega)
  by_cases h3 : k = 3
  · subst h3
    clear h1 h2
    go_enter Tryd.func36, Tryd.ntmps36
    go_wp2
    all_goals
      go_ret
      subst_vars
      refine ⟨ret_bool ?_, Hb.out⟩
      unfold rightTypeB
      first | (simp [*]; done) | (simp [*]; omega) | (rw [Bool.eq_iff_iff]; simp [*]; omega)
  · go_enter Tryd.func36, Tryd.ntmps36
    go_wp2
    all_goals
      go_ret
      subst_vars
      refine ⟨ret_bool ?_, Hb.out⟩
      unfold rightTypeB
      simp [*]

end Go.Proofs.YtolfeellcdoopaaDoor
