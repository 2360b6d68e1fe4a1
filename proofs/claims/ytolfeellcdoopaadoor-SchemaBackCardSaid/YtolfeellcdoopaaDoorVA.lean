/-
  Layer 2, the first contracts: the makers of values, which values are right.
-/
import Derived.Test.YtolfeellcdoopaaDoorEnv
import Derived.Test.YtolfeellcdoopaaDoorVMath
import Derived.BigQuiet
import Derived.Deep.QuietTactic
namespace Go.Proofs.YtolfeellcdoopaaDoor
open Go.ChangeShapes Go.WideShapes Go.ChangeAt Go.RowKit Oct By Reg Val

abbrev vv (k n : Int) (s : ByteArray) : Value := .agg #[.int .i64 k, .int .i64 n, .string s]
theorem ret_bool {a b : Bool} (h : a = b) : Ending.returned (.bool a) = .returned (.bool b) := by rw [h]

set_option maxRecDepth 100000 in
theorem righttext_any (s : ByteArray) (w : World) (hs : s.size ≤ maxLen) :
    Calls Tryd.prog 92 #[.string s] w fun e w' => e = .returned (.bool (rightTextB s.data.toList)) ∧ w = w' := by
  unfold maxLen at hs
  have hlen : s.data.toList.length = s.size := Array.length_toList
  by_cases hbig : 32 < s.size
  · have Hr : Hid (false = rightTextB s.data.toList) := by unfold rightTextB; rw [hlen, decide_eq_false (by omega)]; rfl
    clear hlen
    go_enter Tryd.func92, Tryd.ntmps92
    go_wp2
    go_ret
    exact ⟨ret_bool Hr.out, rfl⟩
  · have Hlen := Lib.hid hlen; clear hlen
    go_enter Tryd.func92, Tryd.ntmps92
    go_wp2
    go_loop [9] (fun i => ∃ k : Nat, k ≤ s.size ∧ i = .int .i64 k ∧ Hid ((s.data.toList.take k).all okB = true)) (fun i => s.size - (intOf i).toNat)
    case atStart => exact ⟨0, Nat.zero_le _, rfl, rfl⟩
    case round =>
      obtain ⟨k, hk, rfl, ha⟩ := hrel
      by_cases hlt : k < s.size
      · have hl : k < s.data.toList.length := by rw [Hlen.out]; exact hlt
        have hgd : s.data.toList.getD k 0 = s[k] := by
          rw [List.getD_eq_getElem?_getD, List.getElem?_eq_getElem hl]; rfl
        by_cases hok : okB s[k] = true
        · have hok' := hok
          unfold okB at hok'
          simp only [Bool.and_eq_true, decide_eq_true_eq] at hok'
          obtain ⟨h1, h2⟩ := hok'
          have ha' : Hid ((s.data.toList.take (k + 1)).all okB = true) := by
            show (s.data.toList.take (k + 1)).all okB = true
            rw [all_take_succ hl, ha.out, hgd, hok]; rfl
          clear hok ha hgd
          go_wp2
          go_round
          case rel => exact ⟨k + 1, by omega, by go_num, ha'⟩
          case measure => simp [intOf]; omega
        · have Hr : Hid (false = rightTextB s.data.toList) := by
            show false = rightTextB s.data.toList
            unfold rightTextB
            rw [all_false_of hl (by rw [hgd]; exact Bool.eq_false_iff.2 hok), Bool.and_false]
          have hok' := hok
          unfold okB at hok'
          simp only [Bool.and_eq_true, decide_eq_true_eq] at hok'
          clear hok ha hgd
          by_cases h1 : s[k].toNat < 32
          · clear hok'
            go_wp2
            go_ret
            exact ⟨ret_bool Hr.out, rfl⟩
          · have h2 : 126 < s[k].toNat := by omega
            clear hok'
            go_wp2
            go_ret
            exact ⟨ret_bool Hr.out, rfl⟩
      · have Hr : Hid (true = rightTextB s.data.toList) := by
          show true = rightTextB s.data.toList
          have h := ha.out
          rw [List.take_of_length_le (by rw [Hlen.out]; omega)] at h
          unfold rightTextB
          rw [Hlen.out, h, decide_eq_true (by omega)]; rfl
        clear ha
        go_wp2
        go_ret
        exact ⟨ret_bool Hr.out, rfl⟩

theorem vint_any (n : Int) (w : World) : Calls Tryd.prog 89 #[.int .i64 n] w fun e w' => e = .returned (vv 1 n ⟨#[]⟩) ∧ Below w.heap.size w w' := by
  go_enter Tryd.func89, Tryd.ntmps89
  go_wp2
  exact bodyPost_ret (v := vv 1 n ⟨#[]⟩) (by simp [results, Tryd.results89, go_sem]) rfl ⟨rfl, (Below.refl _ _).alloc (Nat.le_refl _) _⟩
theorem vtext_any (s : ByteArray) (w : World) : Calls Tryd.prog 91 #[.string s] w fun e w' => e = .returned (vv 3 0 s) ∧ Below w.heap.size w w' := by
  go_enter Tryd.func91, Tryd.ntmps91
  go_wp2
  exact bodyPost_ret (v := vv 3 0 s) (by simp [results, Tryd.results91, go_sem]) rfl ⟨rfl, (Below.refl _ _).alloc (Nat.le_refl _) _⟩
theorem vbool_any (b : Bool) (w : World) : Calls Tryd.prog 90 #[.bool b] w fun e w' => e = .returned (vv 2 (if b then 1 else 0) ⟨#[]⟩) ∧ Below w.heap.size w w' := by
  cases b
  · go_enter Tryd.func90, Tryd.ntmps90
    go_wp2
    exact bodyPost_ret (v := vv 2 0 ⟨#[]⟩) (by simp [results, Tryd.results90, go_sem]) rfl ⟨rfl, ((Below.refl _ _).alloc (Nat.le_refl _) _).alloc (by simp) _⟩
  · go_enter Tryd.func90, Tryd.ntmps90
    go_wp2
    exact bodyPost_ret (v := vv 2 1 ⟨#[]⟩) (by simp [results, Tryd.results90, go_sem]) rfl ⟨rfl, ((Below.refl _ _).alloc (Nat.le_refl _) _).alloc (by simp) _⟩
end Go.Proofs.YtolfeellcdoopaaDoor
