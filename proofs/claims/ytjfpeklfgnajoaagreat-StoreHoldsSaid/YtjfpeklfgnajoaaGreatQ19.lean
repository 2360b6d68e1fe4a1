/-
  Layer 7: back of one row; Back.
-/
import Derived.Test.YtjfpeklfgnajoaaGreatQ18
namespace Go.Proofs.YtjfpeklfgnajoaaGreat.L6
open Go.ChangeShapes Go.WideShapes Go.ChangeAt Go.RowKit By Reg Val
set_option linter.unusedVariables false
set_option linter.unusedSimpArgs false

set_option maxRecDepth 100000 in
set_option maxHeartbeats 1000000 in
theorem back1_any (w : World) (st : Nat) (v : Value) (A B : List Sh) (s : Sh) (k : Int) (y : SV) (h : StAt w st v (A ++ s :: B)) (hA : A.length ≤ 1000) (hL : s.L.length ≤ 1000) (hy : y.ao.isNone = false → VIn w y) :
    Calls Tryz.prog 74 #[ptrv st, spV (A.length, k), sv y] w fun e w' => (∃ v, e = .returned v) ∧ ∃ W s', Rb w W ∧ Laid7 W s k y w' s' := by
  obtain ⟨W, hW⟩ : ∃ W, W = w.alloc (.cells #[i64 A.length, i64 k] 111) := ⟨_, rfl⟩
  have rW : Rb w W := by rw [hW]; exact (Below.refl _ w).alloc (Nat.le_refl _) _
  have bW : Blk W w.heap.size 111 [i64 A.length, i64 k] := by rw [hW]; exact Blk.new w _ [i64 A.length, i64 k]
  have D := h.rb rW
  have hm : s ∈ A ++ s :: B := by simp
  have S := D.at_ s hm
  have hi : A.length < (A ++ s :: B).length := by simp
  obtain ⟨gs, caps, es, es1, es2, es3⟩ := D.shelf A.length hi
  have hsb : (A ++ s :: B)[A.length] = s := by simp
  rw [hsb] at es3
  have b0 : W.cell? ⟨st, 0, none⟩ = some v := D.blk.cell 0
  have x0 : W.cell? ⟨w.heap.size, 0, none⟩ = some (i64 A.length) := bW.cell 0
  have x1 : W.cell? ⟨w.heap.size, 1, none⟩ = some (i64 k) := bW.cell 1
  rw [es] at b0
  have rD : Rb w W.drew := Rb.trans _ _ _ rW (Rb.drew W)
  have CL := Lib.hid (lay_any W.drew s k y ((h.at_ s hm).rb rD) (fun e => (hy e).rb rD) hL)
  have HR := Lib.hid rD
  have HW := Lib.hid hW
  have hlen : A.length < (A ++ s :: B).length := hi
  clear D rW bW S hm hi es hsb h rD hy
  generalize (A ++ s :: B).length = ln at *
  generalize A.length = ix at *
  obtain ⟨bx, hbx⟩ : ∃ bx, bx = w.heap.size := ⟨_, rfl⟩
  rw [← hbx] at x0 x1
  have HBX := Lib.hid hbx
  clear hbx hW
  go_enter Tryz.func74, Tryz.ntmps74
  go_wp2_with (rw [← HW.out, ← HBX.out])
  go_still_tail 11, (by kernel_rfl)
  change wpList _ _ _ _ _ W.drew
  obtain ⟨W2, hW2⟩ : ∃ W2, W2 = W.drew := ⟨_, rfl⟩
  rw [← hW2] at CL HR ⊢
  clear hW2 x0 x1 b0 es3
  go_wp2_with (go_at_call 43; refine CL.out.mono ?_)
  first | (rintro e w' u rfl s' hs') | (rintro e w' ⟨⟨u, rfl⟩, s', hs'⟩)
  have HL := Lib.hid hs'
  clear hs'
  go_wp2
  go_end0
  exact ⟨⟨_, rfl⟩, _, _, HR.out, HL.out⟩
end Go.Proofs.YtjfpeklfgnajoaaGreat.L6
