/-
  Layer 5: the form's reading of a slice of numbers.
-/
import Derived.Test.YtjdlicphmflnkaaT1
namespace Go.Proofs.Ytjdlicphmflnkaa.L5
open Go.RowKit Reg
set_option linter.unusedVariables false

theorem Sl.of_row {w : World} {a : Option Addr} {len cap : Nat} {zs : List Int}
    (h : (a = none ∧ len = 0 ∧ cap = 0 ∧ zs = []) ∨ ∃ x, a = some x ∧ len ≤ cap ∧ cap ≤ maxLen ∧ zs.length = cap ∧ (∀ i, i < zs.length → w.cell? (x.add i) = some (.int .i64 (zs.getD i 0)))) :
    ∃ ks : List Int, ks.length = len ∧ Sl w (.slice a len cap) (ks.map i64) := by
  rcases h with ⟨rfl, rfl, rfl, rfl⟩ | ⟨x, rfl, hl, hm, hz, hc⟩
  · exact ⟨[], rfl, none, 0, rfl, Nat.le_refl _, Nat.zero_le _, fun _ => rfl, fun _ h => by cases h⟩
  · have e : ((zs.take len).map i64).length = len := by simp; omega
    refine ⟨zs.take len, by simp; omega, some x, cap, by rw [e], by omega, hm, (fun h => by cases h), fun ad ha j u hu => ?_⟩
    cases ha
    simp only [List.getElem?_map, List.getElem?_take] at hu
    split at hu
    · rename_i hj
      have hjz : j < zs.length := by omega
      simp only [List.getElem?_eq_getElem hjz, Option.map_some, Option.some.injEq] at hu
      subst hu
      rw [hc j hjz, List.getD_eq_getElem?_getD, List.getElem?_eq_getElem hjz, Option.getD_some]
    · cases hu
end Go.Proofs.Ytjdlicphmflnkaa.L5
