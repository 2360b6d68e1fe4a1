/-
  Layer 7: lives.
-/
import Derived.Test.YtjfpeklfgnajoaaGreatQ28
namespace Go.Proofs.YtjfpeklfgnajoaaGreat.L6
open Go.ChangeShapes Go.WideShapes Go.ChangeAt Go.RowKit By Reg Val
set_option linter.unusedVariables false
set_option linter.unusedSimpArgs false

set_option maxRecDepth 100000 in
set_option maxHeartbeats 2000000 in
theorem lives_any (w : World) : Calls Tryz.prog 9 #[] w fun e w' => e = .returned (.bool true) ∧ Rb w w' := by
  have CE := Lib.hid (example_any w)
  go_enter Tryz.func9, Tryz.ntmps9
  go_wp2_with fail
  refine CE.out.mono ?_
  first | (rintro e w1 cv rfl hc hb) | (rintro e w1 ⟨cv, rfl, hc, hb⟩)
  obtain ⟨ao, cap, hcv, _, _, _⟩ := id hc
  have HC := Lib.hid hc
  have HCV := Lib.hid hcv
  have hlen2 : exCols.length = 2 := rfl
  rw [hlen2] at hcv HCV
  subst hcv
  have HB1 := Lib.hid hb
  clear hc hb CE
  obtain ⟨W1, hW1⟩ : ∃ W1, W1 = w1.alloc (.cells #[.string accS, .int .i64 8, .slice ao 2 cap] 69) := ⟨_, rfl⟩
  obtain ⟨bt, hbt⟩ : ∃ bt, bt = w1.heap.size := ⟨_, rfl⟩
  have b1 : Blk W1 bt 69 [.string accS, .int .i64 8, .slice ao 2 cap] := by rw [hW1, hbt]; exact Blk.new w1 _ [_, _, _]
  have r1 : Rb w1 W1 := by rw [hW1]; exact (Below.refl _ w1).alloc (Nat.le_refl _) _
  obtain ⟨b2, hw2⟩ := blk_setCells bt 69 [.int .i64 2] 1 W1 _ b1 (by simp)
  obtain ⟨W2, hW2⟩ : ∃ W2, W2 = W1.setCell ⟨bt, 1, none⟩ (.int .i64 2) := ⟨_, rfl⟩
  have b2' : Blk W2 bt 69 [.string accS, .int .i64 2, .slice ao 2 cap] := by rw [hW2]; simpa [World.setCells, splice_eq] using b2
  have hw2' : Wrote bt W1 W2 := by rw [hW2]; simpa [World.setCells] using hw2
  have r2 : Rb w1 W2 := by
    have := (Fr.of_rb (F := fun _ => False) r1).wrote hw2' (.inr (by rw [hbt]; exact Nat.le_refl _))
    exact this.rb fun k hk => hk.elim
  have c11 := b1.cell 1
  have f11 : W1.frozen? ⟨bt, 1, none⟩ = false := by
    have h0 := b1
    unfold Blk at h0
    simp [World.frozen?, h0]
  have c20 := b2'.cell 0
  have c21 := b2'.cell 1
  have c22 := b2'.cell 2
  simp only [List.getElem?_cons_zero, List.getElem?_cons_succ] at c11 c20 c21 c22
  obtain ⟨W3, hW3⟩ : ∃ W3, W3 = W2.alloc (.cells #[.string accS, .int .i64 2, .slice ao 2 cap] 69) := ⟨_, rfl⟩
  have r3 : Rb W2 W3 := by rw [hW3]; exact (Below.refl _ W2).alloc (Nat.le_refl _) _
  have b3 : Blk W3 W2.heap.size 69 [.string accS, .int .i64 2, .slice ao 2 cap] := by rw [hW3]; exact Blk.new W2 _ [_, _, _]
  have T3 : Tabs W3 (.slice (some ⟨W2.heap.size, 0, none⟩) 1 1) [⟨accS, 2, .slice ao 2 cap, exCols⟩] := by
    refine ⟨⟨_, 1, rfl, Nat.le_refl _, by decide, fun _ => ⟨W2.heap.size, 0, rfl, fun k hk => ?_⟩⟩, fun t ht => ?_⟩
    · have : k = 0 := by simp at hk; exact hk
      subst this
      exact ⟨b3.cell 0, b3.cell 1, b3.cell 2⟩
    · simp only [List.mem_singleton] at ht
      subst ht
      exact Row3.rb HC.out (Rb.trans _ _ _ r2 r3)
  have CN := Lib.hid (lives_new W3 _ _ T3)
  have HR3 := Lib.hid (Rb.trans _ _ _ HB1.out (Rb.trans _ _ _ r2 r3))
  have HW := Lib.hid (And.intro hW1 (And.intro hbt (And.intro hW2 hW3)))
  have l2 := World.block_lt_of_cell? _ _ c20
  clear b1 r1 b2 hw2 b2' hw2' r2 r3 b3 T3 hW1 hbt hW2 hW3
  go_wp2_with (first | (rw [← HW.out.1, ← HW.out.2.1]) | (rw [← HW.out.2.2.1]) | (rw [← HW.out.2.2.2]))
  refine CN.out.mono ?_
  first | (rintro e w4 st v s rfl hst hlv hl hb4 hn4) | (rintro e w4 ⟨st, v, s, rfl, hst, hlv, hl, hb4, hn4⟩)
  obtain ⟨W5, hW5⟩ : ∃ W5, W5 = w4.alloc (.cells #[.int .i64 1] 3) := ⟨_, rfl⟩
  have r5 : Rb w4 W5 := by rw [hW5]; exact (Below.refl _ w4).alloc (Nat.le_refl _) _
  have b5 : Blk W5 w4.heap.size 3 [i64 1] := by rw [hW5]; exact Blk.new w4 _ [i64 1]
  have R5 : Row W5 3 (.slice (some ⟨w4.heap.size, 0, none⟩) 1 1) [i64 1] := by
    refine ⟨rfl, .inr ⟨w4.heap.size, 1, #[i64 1], rfl, Nat.zero_le _, b5, Nat.le_refl _, by decide, rfl, rfl⟩⟩
  have hb05 : Rb w W5 := Rb.trans _ _ _ (Rb.trans _ _ _ HR3.out hb4) r5
  have CL := Lib.hid (lives_claim w W5 hb05 st v _ s (fun k hk => by have := hn4 k hk; have := HR3.out.size; omega) (hst.rb r5) hlv hl R5)
  have HW5 := Lib.hid hW5
  clear hb4 hn4 hb05 hst hlv hl hW5 r5 b5 R5 CN c11 c20 c21 c22 f11 l2
  go_wp2_with (rw [← HW5.out])
  refine CL.out.mono ?_
  first | (rintro e w6 s1 c1 rfl hD hcs hlv hl hh hf ht) | (rintro e w6 ⟨s1, c1, rfl, hD, hcs, hlv, hl, hh, hf, ht⟩)
  have F1 := free_any w6 c1.st v [s1] 0 hD.duo.st (fun x hx => by simp only [List.mem_singleton] at hx; subst hx; exact hlv.small (by omega) (by rw [hl]; decide))
  have hfr : freeSh [s1] 0 = 1 := by
    rw [free_one]
    unfold freeS
    rw [hlv.r, hl, hlv.h]
    decide
  rw [hcs, hfr] at F1
  have CF := Lib.hid F1
  have HD := Lib.hid (And.intro hD (And.intro hcs (And.intro hlv (And.intro hl (And.intro hh (And.intro hf ht))))))
  clear F1 hfr hD hcs hlv hl hh hf ht CL
  go_wp2_with fail
  refine CF.out.mono ?_
  rintro e w7 ⟨rfl, hb7⟩
  have CS := lives_set w w7 v s1 c1 (HD.out.1.then_rb hb7) HD.out.2.2.1 HD.out.2.2.2.1 HD.out.2.2.2.2.1 HD.out.2.2.2.2.2.1 HD.out.2.2.2.2.2.2
  have CSH := Lib.hid CS
  clear CS CF hb7
  go_wp2_with fail
  refine CSH.out.mono ?_
  first | (rintro e w8 rfl s2 c2 y hD hb hcs hlv hl hy hh hf ht) | (rintro e w8 ⟨rfl, s2, c2, y, hD, hb, hcs, hlv, hl, hy, hh, hf, ht⟩)
  have hst2 : c2.st = st := hcs.trans HD.out.2.1
  have C1 := held_any w8 c2 0 hD.duo.cl
  rw [hb, hh, show heldOf [0] 0 = 0 from rfl] at C1
  have hyl : y.row.length = s2.t.cols.length := by rw [hy, hlv.c]; rfl
  have C2 := cell_row w8 c2.st v [s2] 0 s2 5 y 0 hD.duo.st rfl (by rw [hlv.c]; decide) (by rw [hl]; rfl) hyl (by rw [hy]; decide)
  have hy0 : y.row[0]'(by rw [hy]; decide) = ⟨1, 3, ⟨#[]⟩⟩ := by simp only [hy]; rfl
  rw [hst2, hy0] at C2
  have CH1 := Lib.hid C1
  have CC2 := Lib.hid C2
  have HD2 := Lib.hid (And.intro hD (And.intro hb (And.intro hst2 (And.intro hlv (And.intro hl (And.intro hh (And.intro hf ht)))))))
  clear C1 C2 hD hb hcs hlv hl hy hh hf ht hst2 hyl hy0 CSH
  go_wp2_with (first | (refine CH1.out.mono ?_; rintro e w' ⟨rfl, rfl⟩))
  refine CC2.out.mono ?_
  rintro e w9 ⟨rfl, hb9⟩
  obtain ⟨W10, hW10⟩ : ∃ W10, W10 = w9.alloc (.cells #[.int .i64 1, .int .i64 3, .string ⟨#[]⟩] 60) := ⟨_, rfl⟩
  obtain ⟨bv, hbv⟩ : ∃ bv, bv = w9.heap.size := ⟨_, rfl⟩
  have r10 : Rb w9 W10 := by rw [hW10]; exact (Below.refl _ w9).alloc (Nat.le_refl _) _
  have b10 : Blk W10 bv 60 [.int .i64 1, .int .i64 3, .string ⟨#[]⟩] := by rw [hW10, hbv]; exact Blk.new w9 _ [_, _, _]
  have r810 : Rb w8 W10 := Rb.trans _ _ _ hb9 r10
  have CB := lives_back w W10 v s2 c2 y (HD2.out.1.then_rb r810) HD2.out.2.2.2.1 HD2.out.2.2.2.2.1 HD2.out.2.2.2.2.2.1 HD2.out.2.2.2.2.2.2.1 HD2.out.2.2.2.2.2.2.2
  rw [HD2.out.2.1] at CB
  have CBH := Lib.hid CB
  have HW10 := Lib.hid (And.intro hW10 (And.intro hbv b10))
  clear CB hW10 hbv r10 b10 r810 hb9 CC2 CH1
  go_wp2_with (rw [← HW10.out.1, ← HW10.out.2.1])
  refine CBH.out.mono ?_
  first | (rintro e w11 u rfl s3 c3 hD hb hcs hl hh hkeep) | (rintro e w11 ⟨⟨u, rfl⟩, s3, c3, hD, hb, hcs, hl, hh, hkeep⟩)
  have B11 := hkeep _ _ _ HW10.out.2.2 notV
  have c111 := B11.cell 1
  simp only [List.getElem?_cons_zero, List.getElem?_cons_succ] at c111
  have C1 := held_any w11 c3 0 hD.duo.cl
  rw [hb, hh, show heldOf [1] 0 = 1 from rfl] at C1
  have C2 := len_any w11 c3.st v [s3] 0 hD.duo.st
  rw [hcs, HD2.out.2.2.1, show lenSh [s3] 0 = s3.L.length from rfl, hl] at C2
  have CH1 := Lib.hid C1
  have CL2 := Lib.hid C2
  have HFIN := Lib.hid hD.rb
  clear C1 C2 hD hb hcs hl hh hkeep B11 CBH
  go_wp2_with (first | (go_at_call 29; refine CH1.out.mono ?_; rintro e w' ⟨rfl, rfl⟩) | (go_at_call 32; refine CL2.out.mono ?_; rintro e w' ⟨rfl, rfl⟩))
  go_ret
  exact ⟨rfl, HFIN.out⟩
end Go.Proofs.YtjfpeklfgnajoaaGreat.L6
