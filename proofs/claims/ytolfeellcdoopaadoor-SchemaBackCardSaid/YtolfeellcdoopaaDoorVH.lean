/-
  Layer 2: the text of a value.
-/
import Derived.Test.YtolfeellcdoopaaDoorVG
namespace Go.Proofs.YtolfeellcdoopaaDoor
open Go.ChangeShapes Go.WideShapes Go.ChangeAt Go.RowKit Oct By Reg Val

theorem val_call_same {P : Program} {f : FuncId} {vs : Array Value} {w : World} {v : Value} (h : Calls P f vs w fun e w' => e = .returned v ∧ w' = w) : Calls P f vs w fun e w'' => ∃ u, e = .returned u ∧ Rb w w'' ∧ (Spec.eq (R := Rb) v).V w'' u :=
  h.mono fun _ _ ⟨he, hw⟩ => ⟨_, he, by rw [hw]; exact Rb.refl _, rfl⟩
theorem text_size {n : Int} {s : ByteArray} (h : rightB 3 n s.data.toList = true) : s.size ≤ 100 := by
  have hlen : s.data.toList.length = s.size := Array.length_toList
  unfold rightB rightTextB at h
  simp [hlen] at h
  omega
theorem kinds_of {k n : Int} {l : List UInt8} (h : rightB k n l = true) : k = 1 ∨ k = 2 ∨ k = 3 := by
  unfold rightB at h
  split at h
  · exact .inl (by assumption)
  · split at h
    · exact .inr (.inl (by assumption))
    · split at h
      · exact .inr (.inr (by assumption))
      · cases h
theorem bool_of {n : Int} {s : ByteArray} (h : rightB 2 n s.data.toList = true) : eqVB 2 n s 2 1 ⟨#[]⟩ = decide (n = 1) := by
  unfold rightB at h
  simp only [show ¬ ((2 : Int) = 1) by decide, if_false, if_pos, Bool.and_eq_true] at h
  unfold eqVB
  rw [empty_iff, h.1]
  by_cases h1 : n = 1 <;> simp [h1]

end Go.Proofs.YtolfeellcdoopaaDoor
