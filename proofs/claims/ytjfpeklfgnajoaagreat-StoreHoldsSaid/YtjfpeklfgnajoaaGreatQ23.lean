/-
  Layer 7: is a number below 0?
-/
import Derived.Test.YtjfpeklfgnajoaaGreatQ22
namespace Go.Proofs.YtjfpeklfgnajoaaGreat.L6
open Go.ChangeShapes Go.WideShapes Go.ChangeAt Go.RowKit By Reg Val
set_option linter.unusedVariables false
set_option linter.unusedSimpArgs false

theorem below1_any (x : Int) (w : World) : Calls Tryz.prog 65 #[i64 x] w fun e w' => e = .returned (.bool (decide (x < 0))) ∧ w' = w := by
  go_enter Tryz.func65, Tryz.ntmps65
  go_wp2
  go_ret
  exact ⟨rfl, rfl⟩

def firstNeg : List Int → Int
  | [] => -1
  | x :: l => if x < 0 then 0 else if firstNeg l < 0 then -1 else firstNeg l + 1

set_option maxRecDepth 100000 in
theorem indexNeg_any (w : World) (v : Value) (l : List Int) (h : Row w 3 v (l.map i64)) :
    Calls Tryz.prog 93 #[v, .func (.func 65) #[] #[]] w fun e w' => (∃ i : Int, e = .returned (i64 i) ∧ -1 ≤ i ∧ i ≤ 9223372036854775807 ∧ (0 ≤ i ↔ ∃ x ∈ l, x < 0)) ∧ w = w' := by
  obtain ⟨ao, cap, hv, hc1, hc2⟩ : ∃ ao cap, v = .slice ao l.length cap ∧ l.length ≤ cap ∧ cap ≤ maxLen := by simpa using h.form
  have HR := Lib.hid h
  unfold maxLen at hc2
  subst hv
  obtain ⟨n, hn⟩ : ∃ n, n = l.length := ⟨_, rfl⟩
  rw [← hn] at HR hc1 ⊢
  have HN := Lib.hid hn
  clear hn h
  go_enter Tryz.func93, Tryz.ntmps93
  go_wp2_with fail
  go_loopw [8] (fun p wr => ∃ (i : Nat), p = .int .i64 i ∧ i ≤ n ∧ Hid (wr = w) ∧ Hid (∀ j, j < i → 0 ≤ l.getD j 0)) (fun p _ => n - (intOf p).toNat)
  case atStart => exact ⟨0, rfl, Nat.zero_le _, rfl, fun j hj => absurd hj (Nat.not_lt_zero _)⟩
  case round =>
    obtain ⟨i, rfl, hin, hw, hno⟩ := hrel
    have e1 : wr = w := hw.out
    clear hw
    subst e1
    by_cases hlt : i < n
    · obtain ⟨g, cap', q1, q2⟩ := int_at HR.out i (by rw [← HN.out]; exact hlt)
      simp only [Value.slice.injEq] at q1
      obtain ⟨rfl, -, -⟩ := q1
      obtain ⟨z, hz⟩ : ∃ z, z = l.getD i 0 := ⟨_, rfl⟩
      rw [← hz] at q2
      have C := Lib.hid (below1_any z wr)
      have HZ := Lib.hid hz
      clear hz
      go_wp2_with fail
      refine C.out.mono ?_
      rintro e w' ⟨rfl, rfl⟩
      by_cases hz0 : z < 0
      · rw [decide_eq_true hz0]
        go_wp2_with fail
        go_ret
        refine ⟨⟨_, rfl, by omega, by omega, ⟨fun _ => ⟨z, ?_, hz0⟩, fun _ => by omega⟩⟩, rfl⟩
        rw [HZ.out, List.getD_eq_getElem?_getD, List.getElem?_eq_getElem (by rw [← HN.out]; exact hlt)]
        exact List.getElem_mem _
      · rw [decide_eq_false hz0]
        have hz1 : ∀ j, j < i + 1 → 0 ≤ l.getD j 0 := fun j hj => by
          by_cases e : j = i
          · rw [e, ← HZ.out]; omega
          · exact hno.out j (by omega)
        have HZ1 := Lib.hid hz1
        clear hz1
        go_wp2
        go_roundw
        case rel => exact ⟨i + 1, by go_num, by omega, Lib.hid trivial, HZ1⟩
        case measure => simp [intOf]; omega
    · have hni : i = n := by omega
      subst hni
      go_wp2
      go_ret
      refine ⟨⟨_, rfl, by omega, by omega, ⟨fun h => by omega, fun ⟨x, hx, hx0⟩ => ?_⟩⟩, rfl⟩
      exfalso
      obtain ⟨j, hj, rfl⟩ := List.getElem_of_mem hx
      have := hno.out j (by rw [HN.out]; exact hj)
      rw [List.getD_eq_getElem?_getD, List.getElem?_eq_getElem hj] at this
      simp only [Option.getD_some] at this
      omega

theorem anyNeg_any (w : World) (v : Value) (l : List Int) (h : Row w 3 v (l.map i64)) :
    Calls Tryz.prog 64 #[v, .func (.func 65) #[] #[]] w fun e w' => e = .returned (.bool (l.any fun x => decide (x < 0))) ∧ w = w' := by
  have C := Lib.hid (indexNeg_any w v l h)
  clear h
  obtain ⟨b, hb⟩ : ∃ b, b = l.any fun x => decide (x < 0) := ⟨_, rfl⟩
  have HB := Lib.hid hb
  rw [← hb]
  clear hb
  go_enter Tryz.func64, Tryz.ntmps64
  go_wp2_with fail
  refine C.out.mono ?_
  rintro e w' ⟨⟨i, rfl, h1, h2, h3⟩, rfl⟩
  have H3 := Lib.hid h3
  clear h3
  go_wp2_with fail
  go_ret
  refine ⟨?_, rfl⟩
  have : decide (i ≥ 0) = b := by
    rw [HB.out, Bool.eq_iff_iff, decide_eq_true_eq, List.any_eq_true]
    have := H3.out
    constructor
    · intro h
      obtain ⟨x, hx, h0⟩ := this.1 h
      exact ⟨x, hx, by simpa using h0⟩
    · rintro ⟨x, hx, h0⟩
      exact this.2 ⟨x, hx, by simpa using h0⟩
  rw [← this]
  first | rfl | (simp; done) | skip
end Go.Proofs.YtjfpeklfgnajoaaGreat.L6
