/-
  Layer 4: WalGens' walk.
-/
import Derived.Test.YtbdgdmieggpmhaaW15
namespace Go.Proofs.Ytbdgdmieggpmhaa.L4
open Go.ChangeShapes Go.WideShapes Go.ChangeAt Go.RowKit Oct By Reg L3
set_option linter.unusedVariables false

theorem gens_last (D : Dk) (xi xb xc : List UInt8) (hi : xi.length ≤ 300) (hb : xb.length ≤ 300) (hc : xc.length ≤ 300) (h0 : D.n0 = []) (h1 : D.n1 = frameB 1 xi) (hl : D.log = frameB 1 xc ++ frameB 0 xb) :
    newN D = (1, xi) ∧ openG D = 1 ∧ openR D = [xc] ∧ (openD D).log = frameB 1 xc := by
  have hn : newN D = (1, xi) := newN_of (.inr ⟨by rw [h1]; exact imageF_frame 1 xi (by omega) (by omega), fun g' s' h => by rw [h0, imageF_nil] at h; cases h⟩)
  have hg : openG D = 1 := by unfold openG; rw [hn]
  have hr : openR D = [xc] := by
    have hf := headF_frame 0 xb [] (by omega) (by omega)
    rw [List.append_nil] at hf
    have e := rowsL_frames 1 (by omega) (frameB 0 xb) [xc] (fun s hs => by simp at hs; subst hs; omega)
    rw [rowsL_other hf (by omega)] at e
    unfold openR
    rw [hg, hl]
    simpa [frames] using e
  refine ⟨hn, hg, hr, ?_⟩
  unfold openD
  rw [hg, hr]
  simp [frames, Dk.log]

theorem strs_lit {w : World} (x : List UInt8) : StrsR (w.alloc (.cells #[.string (str x)] 9)) (.slice (some ⟨w.heap.size, 0, none⟩) 1 1) [x] := by
  refine ⟨_, 1, rfl, Nat.le_refl _, by decide, fun _ => ⟨w.heap.size, 0, rfl, fun k hk => ?_⟩⟩
  have : k = 0 := by simp at hk; omega
  subst this
  have h := Blk.new w 9 [.string (str x)]
  exact h.cell 0

set_option maxRecDepth 100000 in
set_option maxHeartbeats 1000000 in
theorem gens_walk (u0 u1 u2 : Value) (z0 z1 z2 : List UInt8) (w0 : World) (hb0 : Bs w0 u0 z0) (hb1 : Bs w0 u1 z1) (hb2 : Bs w0 u2 z2) :
    Calls Try.prog 9 #[u0, u1, u2] w0 fun e w' => e = .returned (.bool true) ∧ Below w0.heap.size w0 w' := by
  have C0 := Lib.hid (cut_any u0 z0 w0 hb0)
  have C1 := Lib.hid (cut_any u1 z1 w0 hb1)
  have C2 := Lib.hid (cut_any u2 z2 w0 hb2)
  obtain ⟨a0, c0, rfl, -⟩ := hb0.len
  obtain ⟨a1, c1, rfl, -⟩ := hb1.len
  obtain ⟨a2, c2, rfl, -⟩ := hb2.len
  clear hb0 hb1 hb2
  go_enter Try.func9, Try.ntmps9
  go_wp2_with fail
  refine C0.out.mono ?_
  rintro e w1 ⟨⟨v0, rfl, hv0⟩, rfl⟩
  have hx0 : (z0.take 300).length ≤ 300 := by rw [List.length_take]; omega
  generalize z0.take 300 = xi at *
  have HI := Lib.hid hv0
  have HLI := Lib.hid hx0
  clear hv0 hx0 C0
  go_wp2_with fail
  refine C1.out.mono ?_
  rintro e w1 ⟨⟨v1, rfl, hv1⟩, rfl⟩
  have hx1 : (z1.take 300).length ≤ 300 := by rw [List.length_take]; omega
  generalize z1.take 300 = xb at *
  have HB := Lib.hid hv1
  have HLB := Lib.hid hx1
  clear hv1 hx1 C1
  go_wp2_with fail
  refine C2.out.mono ?_
  rintro e w1 ⟨⟨v2, rfl, hv2⟩, rfl⟩
  have hx2 : (z2.take 300).length ≤ 300 := by rw [List.length_take]; omega
  generalize z2.take 300 = xc at *
  have HC := Lib.hid hv2
  have HLC := Lib.hid hx2
  clear hv2 hx2 C2
  go_wp2_with fail
  refine (new_any 4096 w0).mono ?_
  rintro e w1 ⟨rfl, hk1, hr1⟩
  have hd1 := DwM.new hk1 hr1
  rw [show clampN 4096 = 4096 from rfl] at hd1
  have H1 := Lib.hid hd1
  clear hk1 hr1 hd1
  go_wp2_with fail
  refine (open_w H1.out).mono ?_
  rintro e w2 ⟨lb, m2, vi, vr, rfl, hl2, -, -⟩
  rw [(open_new 4096).1, (open_new 4096).2] at hl2
  have H2 := Lib.hid hl2
  clear hl2 H1
  go_wp2_with fail
  refine (gen_w H2.out).mono ?_
  rintro e w3 ⟨rfl, rfl⟩
  have hW2 := H2.out.below (B := w0.heap.size) (fun j hj => hj)
  have hol := frameB_le 0 xb (by have := HLB.out; omega)
  have hol2 := frameB_le 1 xc (by have := HLC.out; omega)
  have HOL := Lib.hid (show (frameB 0 xb).length ≤ 318 ∧ (frameB 1 xc).length ≤ 318 by have := HLB.out; have := HLC.out; omega)
  have CF := Lib.hid (frame_any v1 0 xb w2 (HB.out.below hW2) (by have := HLB.out; omega) (by omega))
  clear hW2 hol hol2
  go_wp2_with fail
  refine CF.out.mono ?_
  rintro e w3 ⟨n3, c3, rfl, ho3, hr3⟩
  have H3 := Lib.hid (H2.out.rb hr3)
  -- the old frame's bytes are in a block that nothing turns
  have hsz : w0.heap.size ≤ n3 := Nat.le_trans H2.out.size (ho3.lt n3 rfl).1
  have hn3 : n3 < w3.heap.size ∧ ¬ m2.has n3 ∧ n3 ≠ lb := ⟨(ho3.lt n3 rfl).2, fun e => by have := H2.out.held.disk.lt n3 e; have := (ho3.lt n3 rfl).1; omega, fun e => by have := H2.out.held.blk.lt; have := (ho3.lt n3 rfl).1; omega⟩
  have H3 := Lib.hid (H3.out.rebase (S' := fun j => j < w0.heap.size ∨ j = n3) (fun j hj => by
    rcases hj with hj | rfl
    · have hs := H3.out.s j hj
      exact ⟨Nat.lt_of_lt_of_le hs.1 H3.out.size, hs.2.1, H3.out.l j hj⟩
    · exact hn3))
  have HOB := Lib.hid (Bs.of_owns ho3)
  have HW3 := Lib.hid (show Below w0.heap.size w0 w3 from (H2.out.below (fun j hj => hj)).trans (Below.mono hr3 H2.out.size))
  clear ho3 hr3 hsz hn3 H2
  go_wp2_with fail
  refine (add_w H3.out (HB.out.below HW3.out) (by have := HLB.out; omega) (by have := HOL.out; simp [freeN, Dk.new, Dk.log]; omega)).mono ?_
  rintro e w4 ⟨rfl, m4, h4⟩
  have H4 := Lib.hid h4
  have HW4 := Lib.hid (HW3.out.trans (h4.below fun j hj => .inl hj))
  clear h4
  go_wp2_with fail
  refine (check_w H4.out (HI.out.below HW4.out) (by have := HLI.out; omega) (by omega)).mono ?_
  rintro e w5 ⟨rfl, m5, h5⟩
  have H5 := Lib.hid h5
  have HW5 := Lib.hid (HW3.out.trans (h5.below fun j hj => .inl hj))
  clear h5
  have hD5 : ckD ((Dk.new 4096).append (frameB 0 xb)) 0 (frameB (0 + 1) xi) = ⟨4096, [], [], [], frameB 1 xi, [], frameB 1 xi⟩ := rfl
  rw [hD5] at H5
  clear hD5
  go_wp2_with fail
  refine (add_w H5.out (HC.out.below HW5.out) (by have := HLC.out; omega) (by have := HOL.out; simp [freeN, Dk.log]; omega)).mono ?_
  rintro e w6 ⟨rfl, m6, h6⟩
  have H6 := Lib.hid h6
  have HW6 := Lib.hid (HW3.out.trans (h6.below fun j hj => .inl hj))
  have HO6 := Lib.hid (Bs.same HOB.out fun q hq => by simp [Value.ownBlock] at hq; subst hq; exact (h6.s n3 (.inr rfl)).2.2)
  clear h6
  go_wp2_with fail
  refine (dappend_w H6.out HO6.out (by have := HOL.out; simp [Dk.append, Dk.log]; omega)).mono ?_
  rintro e w7 ⟨rfl, m7, h7⟩
  have H7 := Lib.hid h7
  clear h7
  go_wp2_with fail
  refine (dsync_w H7.out).mono ?_
  rintro e w8 ⟨rfl, m8, h8⟩
  have H8 := Lib.hid h8
  clear h8
  obtain ⟨D8, hD8⟩ : ∃ D8 : Dk, D8 = (((⟨4096, [], [], [], frameB 1 xi, [], frameB 1 xi⟩ : Dk).append (frameB (0 + 1) xc)).append (frameB 0 xb)).sync := ⟨_, rfl⟩
  have hlast := gens_last D8 xi xb xc HLI.out HLB.out HLC.out (by rw [hD8]; rfl) (by rw [hD8]; rfl) (by rw [hD8]; simp [Dk.append, Dk.sync, Dk.log])
  rw [← hD8] at H8
  have HL := Lib.hid hlast
  clear hD8 hlast
  go_wp2_with fail
  refine (open_w H8.out.disk).mono ?_
  rintro e w9 ⟨lb9, m9, vi9, vr9, rfl, h9, hi9, hr9⟩
  rw [HL.out.2.1] at h9
  rw [HL.out.1] at hi9
  rw [HL.out.2.2.1] at hr9
  have hlog : (openD D8).log = frameB 1 xc := HL.out.2.2.2
  have HLG := Lib.hid hlog
  have H9 := Lib.hid h9
  have HW9 := Lib.hid (HW3.out.trans (h9.below fun j hj => .inl hj))
  have HR9 := Lib.hid hr9.reads
  have k1 := conv_bs hi9.1
  have k2 := conv_bs (HI.out.below HW9.out)
  have k3 := conv_bs (HC.out.below HW9.out)
  have hts : ∀ xs, (str xs).toList = xs := fun xs => Lib.toList_data _
  clear h9 hi9 hr9 hlog HL
  go_wp2_with fail
  refine (same_any vr9 _ [xc] _ (HR9.out.rb ((Below.refl _ w9).alloc (Nat.le_refl _) _)) (strs_lit xc)).mono ?_
  rintro e w10 ⟨rfl, hr⟩
  have hr10 : Rb w9 w10 := Rb.trans _ _ _ ((Below.refl _ w9).alloc (Nat.le_refl _) _) hr
  have H10 := Lib.hid (H9.out.rb hr10)
  clear hr hr10 k1 k2 k3
  go_wp2_with fail
  refine (gen_w H10.out).mono ?_
  rintro e w11 ⟨rfl, rfl⟩
  have CL := log_any m9 _ w10 H10.out.held.disk
  rw [H10.out.hb, HLG.out] at CL
  have CL := Lib.hid CL
  go_wp2_with fail
  refine CL.out.mono ?_
  rintro e w11 ⟨n11, c11, rfl, ho, hr⟩
  have H11 := Lib.hid (H10.out.rb hr)
  have hc := Lib.hid (cost_any (xc.length : Int) w11)
  rw [costN_frame 1 xc (by have := HLC.out; omega)] at hc
  generalize (frameB 1 xc).length = n at *
  obtain ⟨x2, y2, hv2, -⟩ := HC.out.len
  subst hv2
  clear ho hr CL
  go_wp2_with fail
  refine hc.out.mono ?_
  rintro e w12 ⟨rfl, rfl⟩
  go_wp2_with fail
  refine (lives_any w11).mono ?_
  rintro e w13 ⟨rfl, hr⟩
  have HW13 := Lib.hid (HW3.out.trans ((H11.out.rb hr).below fun j hj => .inl hj))
  clear hr
  go_wp2
  go_ret
  exact ⟨rfl, HW13.out⟩
end Go.Proofs.Ytbdgdmieggpmhaa.L4
