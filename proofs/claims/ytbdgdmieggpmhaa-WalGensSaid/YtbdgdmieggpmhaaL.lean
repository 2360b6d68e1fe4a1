import Derived.Test.YtbdgdmieggpmhaaK
namespace Go.Proofs.Ytbdgdmieggpmhaa
open Go.ChangeShapes Go.WideShapes Go.ChangeAt Go.RowKit Oct By Reg

theorem gt_lt {xs : List UInt8} {i most : Int} {s : List UInt8} {m : Nat} (h : gt xs i most = some (s, m)) : (0 : Int) < m ∧ i + m ≤ xs.length := by
  unfold gt at h
  cases hg : gu xs i with
  | none => rw [hg] at h; cases h
  | some p =>
    obtain ⟨n, k⟩ := p
    obtain ⟨g1, g2, g3, g4, g5, _⟩ := gu_lt hg
    rw [hg] at h
    simp only [] at h
    split at h
    · rename_i hc
      cases h
      omega
    · cases h

end Go.Proofs.Ytbdgdmieggpmhaa
