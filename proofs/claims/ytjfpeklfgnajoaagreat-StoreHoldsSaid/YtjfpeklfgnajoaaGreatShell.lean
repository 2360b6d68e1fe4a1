/-
  The form's shell: what a slice of bytes reads as.
-/
import Derived.Test.YtjfpeklfgnajoaaGreatL2
namespace Go.Proofs.YtjfpeklfgnajoaaGreat.By
open Go Go.RowKit

def ofNums (zs : List Int) : List UInt8 := zs.map fun n => UInt8.ofNat n.toNat

theorem wf_u8 {n : Int} (h : (Lit.int .u8 n).wf = true) : 0 ≤ n ∧ n < 256 := by
  simp [Lit.wf, IntKind.min, IntKind.max, IntKind.signed, IntKind.bits] at h; omega
theorem wf_u32 {n : Int} (h : (Lit.int .u32 n).wf = true) : 0 ≤ n ∧ n < 4294967296 := by
  simp [Lit.wf, IntKind.min, IntKind.max, IntKind.signed, IntKind.bits] at h; omega
theorem wf_u64 {n : Int} (h : (Lit.int .u64 n).wf = true) : 0 ≤ n ∧ n < 18446744073709551616 := by
  simp [Lit.wf, IntKind.min, IntKind.max, IntKind.signed, IntKind.bits] at h; omega
theorem wf_i64 {n : Int} (h : (Lit.int .i64 n).wf = true) : -9223372036854775808 ≤ n ∧ n ≤ 9223372036854775807 := by
  simp [Lit.wf, IntKind.min, IntKind.max, IntKind.signed, IntKind.bits] at h; omega

theorem Bs.of_row {w : World} {a : Option Addr} {len cap : Nat} {zs : List Int}
    (h : (a = none ∧ len = 0 ∧ cap = 0 ∧ zs = []) ∨ ∃ x, a = some x ∧ len ≤ cap ∧ cap ≤ maxLen ∧ zs.length = cap ∧ (∀ i, i < zs.length → w.cell? (x.add i) = some (.int .u8 (zs.getD i 0))) ∧ ∀ n ∈ zs, (Lit.int .u8 n).wf = true) :
    Bs w (.slice a len cap) (ofNums (zs.take len)) := by
  rcases h with ⟨rfl, rfl, rfl, rfl⟩ | ⟨x, rfl, hl, hm, hz, hc, hw⟩
  · exact Bs.nil w
  · have e : (ofNums (zs.take len)).length = len := by simp [ofNums]; omega
    have hb : Bs w (.slice (some x) (ofNums (zs.take len)).length cap) (ofNums (zs.take len)) := by
      refine ⟨_, cap, rfl, by omega, hm, (fun h => by cases h), fun ad ha j u hu => ?_⟩
      cases ha
      simp only [ofNums, List.getElem?_map, List.getElem?_take] at hu
      split at hu
      · rename_i hj
        have hjz : j < zs.length := by omega
        simp only [List.getElem?_eq_getElem hjz, Option.map_some, Option.some.injEq] at hu
        subst hu
        rw [hc j hjz, List.getD_eq_getElem?_getD, List.getElem?_eq_getElem hjz, Option.getD_some]
        have hb := wf_u8 (hw zs[j] (List.getElem_mem hjz))
        unfold c8
        rw [UInt8.toNat_ofNat']
        congr 2
        omega
      · cases hu
    rwa [e] at hb
end Go.Proofs.YtjfpeklfgnajoaaGreat.By
