import Derived.Test.YtbdgdmieggpmhaaN
namespace Go.Proofs.Ytbdgdmieggpmhaa
open Go.ChangeShapes Go.WideShapes Go.ChangeAt Go.RowKit Oct By Reg

theorem gu_front {xs : List UInt8} {n k : Nat} (ms : List UInt8) (h : gu xs 0 = some (n, k)) : gu (xs ++ ms) 0 = some (n, k) := by
  unfold gu at h ⊢
  rw [if_pos ⟨by omega, by omega⟩] at h ⊢
  exact getU_front h ms
theorem gt_front {xs : List UInt8} {most : Int} {s : List UInt8} {m : Nat} (ms : List UInt8) (h : gt xs 0 most = some (s, m)) : gt (xs ++ ms) 0 most = some (s, m) := by
  unfold gt at h ⊢
  cases hg : gu xs 0 with
  | none => rw [hg] at h; cases h
  | some p =>
    obtain ⟨n, k⟩ := p
    rw [gu_front ms hg]
    rw [hg] at h
    simp only [] at h ⊢
    split at h
    · rename_i hc
      rw [if_pos ⟨hc.1, by rw [List.length_append]; omega⟩]
      rw [← h]
      congr 2
      rw [List.drop_append_of_le_length (by simp; omega), List.take_append_of_le_length (by rw [List.length_drop]; simp; omega)]
    · cases h

end Go.Proofs.Ytbdgdmieggpmhaa
