/-
  Layer 4: WalPlays' walk.
-/
import Derived.Test.YtbdgdmieggpmhaaW28
namespace Go.Proofs.Ytbdgdmieggpmhaa.L4
open Go.ChangeShapes Go.WideShapes Go.ChangeAt Go.RowKit Oct By Reg L3
set_option linter.unusedVariables false

theorem do_any (ws w0 : World) (S : Nat → Prop) (b lb : Nat) (D : Dk) (g k : Nat) (m : Mem) (r : Rm) (p : Op3) (xs : List UInt8) (h : LwM ws S b lb D g k w0 m) (hr : HeldR w0 r D) (ho : ∀ q, r.has q → ¬ m.has q ∧ q ≠ lb) (hf : D.log.length + k ≤ D.room)
    (hbw : ∀ w' m' lb' D' g' k', LwM ws S b lb' D' g' k' w' m' → Bs w' p.v xs) (hx : xs.length ≤ 200) :
    Calls Try.prog 26 #[.pointer (some ⟨b, 0, none⟩), .pointer (some ⟨lb, 0, none⟩), Lv D r g k, opv p] w0 (DoQ ws S b) := by
  have e : ∀ c : Nat, p.k % 8 = c → (p.k : Int).tmod 8 = (c : Int) := fun c hc => by rw [Int.tmod_eq_emod_of_nonneg (by omega)]; omega
  rcases (by omega : p.k % 8 = 0 ∨ p.k % 8 = 1 ∨ p.k % 8 = 2 ∨ p.k % 8 = 3 ∨ p.k % 8 = 4 ∨ p.k % 8 = 5 ∨ p.k % 8 = 6 ∨ p.k % 8 = 7) with hc | hc | hc | hc | hc | hc | hc | hc
  · by_cases hl : (frameB g xs).length ≤ freeN D k
    · exact do_fits0 ws w0 S b lb D g k m r p xs h hr ho hf hbw hx (e 0 hc) hl (by have := frameB_pos g xs; omega)
    · exact do_full0 ws w0 S b lb D g k m r p xs h hr ho hf hbw hx (e 0 hc) (by omega)
  · by_cases hl : (frameB g xs).length ≤ freeN D k
    · exact do_fits1 ws w0 S b lb D g k m r p xs h hr ho hf hbw hx (e 1 hc) hl (by have := frameB_pos g xs; omega)
    · exact do_full1 ws w0 S b lb D g k m r p xs h hr ho hf hbw hx (e 1 hc) (by omega)
  · by_cases hl : (frameB g xs).length ≤ k
    · exact do_kept ws w0 S b lb D g k m r p xs h hr ho hf hbw hx (e 2 hc) hl
    · exact do_no ws w0 S b lb D g k m r p xs h hr ho hf hbw hx (e 2 hc) (by omega)
  · by_cases hn : p.n < 0
    · exact do_keepneg ws w0 S b lb D g k m r p xs h hr ho hf hbw hx (e 3 hc) hn
    · by_cases hl : (freeN D k : Int) < p.n
      · exact do_keepbusy ws w0 S b lb D g k m r p xs h hr ho hf hbw hx (e 3 hc) hn hl
      · exact do_keepok ws w0 S b lb D g k m r p xs h hr ho hf hbw hx (e 3 hc) hn hl
  · exact do_let ws w0 S b lb D g k m r p xs h hr ho hf hbw hx (e 4 hc)
  · exact do_sync ws w0 S b lb D g k m r p xs h hr ho hf hbw hx (e 5 hc)
  · have := h.held.hg
    by_cases hl : g = 4294967295
    · exact do_ckfull ws w0 S b lb D g k m r p xs h hr ho hf hbw hx (e 6 hc) hl
    · exact do_ckok ws w0 S b lb D g k m r p xs h hr ho hf hbw hx (e 6 hc) (by omega)
  · exact do_open ws w0 S b lb D g k m r p xs h hr ho hf hbw hx (e 7 hc)

theorem run_eqn (x y : Operand) (p : Addr) (w : World) : (binSem .eql 45 x y (.pointer (some p)) (.pointer none)).run Try.prog w = .ok (.bool false) w := by simp [binSem, go_sem]

/-! ### what a round keeps -/
structure Px (ws w : World) (S : Nat → Prop) (b xb lb : Nat) (D : Dk) (g k : Nat) (m : Mem) (r : Rm) : Prop where
  l : LwM ws S b lb D g k w m
  held : HeldR w r D
  x : Blk w xb 52 (lcs D r g k)
  off : ∀ q, r.has q → ¬ m.has q ∧ q ≠ lb
  offx : ¬ m.has xb ∧ xb ≠ lb
  sx : ¬ S xb
  fits : D.log.length + k ≤ D.room
section
variable {ws w w' : World} {S : Nat → Prop} {b xb lb lb' : Nat} {D D' : Dk} {g k g' k' : Nat} {m m' : Mem} {r r' : Rm}
theorem heldR_no {cs : List Value} {n : Int} (h : HeldR w r D) (hb : Blk w xb 52 (.int .i64 n :: cs)) : ¬ r.has xb := fun hh => by
  have hc : w.cell? ⟨xb, 0, none⟩ = some (.int .i64 n) := hb.cell 0
  rcases hh with hh | hh
  · obtain ⟨q, cap, e, -, -, h1, -⟩ := h.n
    rw [e] at hh
    simp [Value.ownBlock] at hh
    subst hh
    rw [h1] at hc
    cases hc
  · obtain ⟨q, cap, e, -, -, h1, -⟩ := h.s
    rw [e] at hh
    simp [Value.ownBlock] at hh
    subst hh
    rw [h1] at hc
    cases hc
theorem Px.rb (h : Px ws w S b xb lb D g k m r) (hr : Rb w w') : Px ws w' S b xb lb D g k m r := ⟨h.l.rb hr, h.held.rb hr, h.x.rb hr, h.off, h.offx, h.sx, h.fits⟩
def Sy (S : Nat → Prop) (xb q : Nat) : Prop := S q ∨ q = xb
theorem Px.step (h : Px ws w S b xb lb D g k m r) : LwM w (Sy S xb) b lb D g k w m := h.l.rebase fun j hj => by
  rcases hj with hj | rfl
  · have hs := h.l.s j hj
    exact ⟨Nat.lt_of_lt_of_le hs.1 h.l.size, hs.2.1, h.l.l j hj⟩
  · exact ⟨h.x.lt, h.offx⟩
/-- behind 'do': the block of the document's log is as it was -/
theorem Px.after (h : Px ws w S b xb lb D g k m r) (h' : LwM w (Sy S xb) b lb' D' g' k' w' m') : LwM ws S b lb' D' g' k' w' m' ∧ Blk w' xb 52 (lcs D r g k) ∧ ¬ m'.has xb ∧ xb ≠ lb' :=
  ⟨⟨h'.hb, h'.held, Nat.le_trans h.l.size h'.size, h'.os.trans h.l.os, h'.tape.trans h.l.tape, h'.output.trans h.l.output, fun j hj => by
      have h1 := h.l.s j hj
      have h2 := h'.s j (.inl hj)
      exact ⟨h1.1, h2.2.1, h2.2.2.trans h1.2.2⟩, fun j hj => h'.l j (.inl hj)⟩, h.x.same (h'.s xb (.inr rfl)).2.2, (h'.s xb (.inr rfl)).2.1, h'.l xb (.inr rfl)⟩
theorem Px.next {L : List Value} (h : LwM ws S b lb D g k w m) (hr : HeldR w r D) (ho : ∀ q, r.has q → ¬ m.has q ∧ q ≠ lb) (hox : ¬ m.has xb ∧ xb ≠ lb) (hnr : ¬ r.has xb) (hs : ¬ S xb) (hf : D.log.length + k ≤ D.room) (hw : RN xb L w w') (hb : Blk w' xb 52 (lcs D r g k)) :
    Px ws w' S b xb lb D g k m r :=
  ⟨⟨h.hb, ⟨h.held.disk.same hw.size fun q hq => hw.block q (h.held.disk.lt q hq) fun e => hox.1 (e ▸ hq), hw.blk' h.held.blk fun e => hox.2 e.symm, h.held.off, h.held.hg, h.held.hk⟩, Nat.le_trans h.size hw.size, hw.os.trans h.os, hw.tape.trans h.tape, hw.output.trans h.output, fun j hj => by
      obtain ⟨i1, i2, i3⟩ := h.s j hj
      exact ⟨i1, i2, (hw.block j (Nat.lt_of_lt_of_le i1 h.size) fun e => hs (e ▸ hj)).trans i3⟩, h.l⟩,
    ⟨hr.n.same fun q hq => hw.block q (hr.n.lt q hq) fun e => hnr (.inl (e ▸ hq)), hr.s.same fun q hq => hw.block q (hr.s.lt q hq) fun e => hnr (.inr (e ▸ hq))⟩, hb, ho, hox, hs, hf⟩
end

set_option maxRecDepth 100000 in
set_option maxHeartbeats 2000000 in
theorem plays_walk (room : Int) (ao : Option Addr) (n cap : Nat) (l : List OX) (w0 : World) (h : OpsIn w0 ao n l) (hn : n ≤ 9223372036854775807) :
    Calls Try.prog 5 #[.int .i64 room, .slice ao n cap] w0 fun e w' => e = .returned (.bool true) ∧ Below w0.heap.size w0 w' := by
  have HO := Lib.hid h
  clear h
  go_enter Try.func5, Try.ntmps5
  go_wp2_with fail
  refine (new_any room w0).mono ?_
  rintro e w1 ⟨rfl, hk1, hr1⟩
  have hd1 := DwM.new hk1 hr1
  have H1 := Lib.hid hd1
  clear hk1 hr1 hd1
  go_wp2_with fail
  refine (open_w H1.out).mono ?_
  rintro e w2 ⟨lb, m2, vi, vr, rfl, hl2, -, -⟩
  rw [(open_new (clampN room)).1, (open_new (clampN room)).2] at hl2
  have H2 := Lib.hid hl2
  clear hl2 H1
  go_wp2_with fail
  refine (rnew_any room w2).mono ?_
  rintro e w3 ⟨r1, rfl, hq, hb, hold⟩
  have H3 := Lib.hid (H2.out.rb hb)
  have HO3 := Lib.hid hold
  have HSZ := Lib.hid hb.size
  have hok3 := H2.out.held.disk.ok
  have HOK3 := Lib.hid hok3
  have CO := Lib.hid (ropen_any (Dk.new (clampN room)) r1 w3 hq hok3)
  clear hq hb hold hok3
  go_wp2_with fail
  refine CO.out.mono ?_
  rintro e w4 ⟨r2, vs, rfl, ⟨hq4, hb4, hold4⟩, -⟩
  rw [(open_new (clampN room)).1] at hq4
  rw [(open_new (clampN room)).1, (open_new (clampN room)).2]
  have HH4 := Lib.hid (show ∀ q, r2.has q → w2.heap.size ≤ q from fun q hq => by
    rcases hold4 q hq with h | h
    · rcases HO3.out q h with h | h
      · exact h.elim
      · exact h
    · exact Nat.le_trans HSZ.out h)
  have H4 := Lib.hid (H3.out.rb hb4)
  have HQ4 := Lib.hid hq4
  have HONE4 := Lib.hid (lcs_one (g := 0) (k := 0) hq4)
  clear hq4 hb4 hold4 CO HO3
  generalize hD0 : Dk.new (clampN room) = D0 at *
  have HD0 := Lib.hid hD0
  clear hD0
  go_wp2_with (refine wpList_store rfl 52 _ _ rfl w4.heap.size 0 _ _ [_, _, _, _, _, _, _] _ rfl rfl (Blk.new w4 52 zero7) rfl sizeX (by simp) HONE4.out ?_)
  intro w5 hb5 hw5
  have hr5 : Rb w4 w5 := Wrote.below ((Below.refl _ _).alloc (Nat.le_refl _) _) hw5 (Nat.le_refl _)
  have HB5 := Lib.hid (show Blk w5 w4.heap.size 52 (lcs D0 r2 0 0) from hb5)
  have H5 := Lib.hid (H4.out.rb hr5)
  have HQ5 := Lib.hid (HQ4.out.rb hr5)
  have hW5 := H5.out.below (B := w0.heap.size) fun j hj => hj
  have HW5 := Lib.hid hW5
  have CR := Lib.hid (row_any ao n cap l w5 (OpsIn.belowB HO.out hW5) hn)
  clear hb5 hw5 hr5 hW5
  go_wp2_with fail
  refine CR.out.mono ?_
  rintro e w6 ⟨cv, rfl, ho4, hb4⟩
  obtain ⟨co, ccap, rfl⟩ := row_form ho4
  obtain ⟨C, hC⟩ : ∃ C, C = cutL l := ⟨_, rfl⟩
  rw [← hC] at ho4 ⊢
  have hbs := cutL_bs HO.out.bs
  rw [← hC] at hbs
  have HBS := Lib.hid hbs
  obtain ⟨N, hN⟩ : ∃ N, N = C.length := ⟨_, rfl⟩
  rw [← hN] at ho4 ⊢
  have hN40 : N ≤ 40 := by rw [hN, hC, cutL_len]; omega
  have HN := Lib.hid hN
  have HO4 := Lib.hid ho4
  have HW6 := Lib.hid (show Below w0.heap.size w0 w6 from HW5.out.trans (Below.mono hb4 HW5.out.size))
  have H6 := Lib.hid ((H5.out.rb hb4).rebase (S' := Sx w0.heap.size (.slice co N ccap)) (fun j hj => by
    rcases hj with hj | hj
    · have hs := H5.out.s j hj
      exact ⟨Nat.lt_of_lt_of_le hs.1 (H5.out.rb hb4).size, hs.2.1, H5.out.l j hj⟩
    · have hl := ho4.lt j hj
      exact ⟨hl.2, fun e => by have := H5.out.held.disk.lt j e; omega, fun e => by have := H5.out.held.blk.lt; omega⟩))
  obtain ⟨xb, hxb⟩ : ∃ xb, xb = w4.heap.size := ⟨_, rfl⟩
  have hm4 := H4.out.held.disk.lt
  have hl4 := H4.out.held.blk.lt
  have PX := Lib.hid (show Px w6 w6 (Sx w0.heap.size (.slice co N ccap)) w0.heap.size xb lb D0 0 0 m2 r2 from
    ⟨H6.out, (HQ5.out.rb hb4), by rw [hxb]; exact HB5.out.rb hb4, fun q hq => by
      have h1 := HH4.out q hq
      exact ⟨fun e => by have := H2.out.held.disk.lt q e; omega, fun e => by have := H2.out.held.blk.lt; omega⟩, ⟨fun e => by have := hm4 _ e; omega, by omega⟩, fun e => by
      rcases e with e | e
      · have := H4.out.size; omega
      · have := (ho4.lt _ e).1
        have := HB5.out.lt
        omega, by rw [← HD0.out]; simp [Dk.new, Dk.log]⟩)
  rw [← hxb]
  clear ho4 hb4 hbs hN hC CR H2 H3 H4 H5 hm4 hl4 hxb HB5 HQ4 HQ5 H6 HW5 HONE4 HH4 HSZ HOK3 HD0
  go_wp2_with fail
  go_loopw [6, 43] (fun lp i wr => ∃ (k : Nat) (lb : Nat) (D : Dk) (g kk : Nat) (m : Mem) (r : Rm), k ≤ N ∧ lp = .pointer (some ⟨lb, 0, none⟩) ∧ i = .int .i64 k ∧ Px w6 wr (Sx w0.heap.size (.slice co N ccap)) w0.heap.size xb lb D g kk m r) (fun _ i _ => N - (intOf i).toNat)
  case atStart => exact ⟨0, lb, D0, 0, 0, m2, r2, Nat.zero_le _, rfl, rfl, PX.out⟩
  case round =>
    obtain ⟨k, lb1, D, g, kk, m, r, hk, rfl, rfl, hp⟩ := hrel
    have HP := Lib.hid hp
    have hWr := HW6.out.trans (hp.l.below (B := w0.heap.size) fun j hj => .inl hj)
    have HWR := Lib.hid hWr
    by_cases hlt : k < N
    · obtain ⟨q, hq⟩ : ∃ q, C[k]? = some q := ⟨_, List.getElem?_eq_getElem (by rw [← HN.out]; exact hlt)⟩
      obtain ⟨⟨gg, rfl, y0, y1, y2⟩, hqb, hql⟩ := reads_step (fun j hj => (hp.l.s j hj).2.2) hWr HO4.out HBS.out hq
      have HQ0 := Lib.hid (HBS.out q (List.mem_of_getElem? hq)).1
      have HQL := Lib.hid hql
      obtain ⟨q1, q2⟩ := q
      obtain ⟨qk, qn, qv⟩ := q1
      have hq1 : qv.oneCell' = true := (bs_one hqb).1
      have HQ1 := Lib.hid hq1
      clear hp hWr hqb hql hq hq1
      go_wp2_with (refine wpList_store rfl 59 _ _ rfl wr.heap.size 0 _ _ [_, _, _] _ rfl rfl (Blk.new wr 59 [_, _, _]) rfl sizeop (by simp) (op_one (p := ⟨qk, qn, qv⟩) HQ1.out) ?_)
      intro w7 hb7 hw7
      have hr7 : Rb wr w7 := Wrote.below ((Below.refl _ _).alloc (Nat.le_refl _) _) hw7 (Nat.le_refl _)
      obtain ⟨o0, o1, o2⟩ := Blk.cells3 (show Blk w7 wr.heap.size 59 (opcs ⟨qk, qn, qv⟩) from hb7)
      have HP7 := Lib.hid (HP.out.rb hr7)
      have HW7 := Lib.hid (HWR.out.trans (Below.mono hr7 HWR.out.size))
      have CD := Lib.hid (do_any w7 w7 (Sy (Sx w0.heap.size (.slice (some ⟨gg, 0, none⟩) N ccap)) xb) w0.heap.size lb1 D g kk m r ⟨qk, qn, qv⟩ q2 HP7.out.step HP7.out.held HP7.out.off HP7.out.fits
        (fun w' m' lb' D' g' k' h' => HQ0.out.below (HW7.out.trans (h'.below (B := w0.heap.size) fun j hj => .inl (.inl hj)))) HQL.out)
      obtain ⟨x0, x1, x2, x3, x4, x5, x6⟩ := HP7.out.x.cells7
      clear hb7 hw7 hr7 y0 y1 y2
      go_wp2_with fail
      refine CD.out.mono ?_
      rintro e w8 ⟨lb2, D2, g2, k2, mz, rz, rfl, hl8, hr8, ho8, hf8⟩
      have hx8 := HP7.out.after hl8
      have HL8 := Lib.hid hx8.1
      have HX8 := Lib.hid hx8.2.1
      have HOX := Lib.hid hx8.2.2
      have HR8 := Lib.hid hr8
      have HOF := Lib.hid ho8
      have HFT := Lib.hid hf8
      have HSX := Lib.hid HP7.out.sx
      have HNR := Lib.hid (heldR_no hr8 hx8.2.1)
      have HONE := Lib.hid (lcs_one (g := g2) (k := k2) hr8)
      have HOK := Lib.hid hl8.held.disk.ok
      clear hl8 hr8 ho8 hf8 hx8 o0 o1 o2 x0 x1 x2 x3 x4 x5 x6 CD
      go_wp2_with (refine wpList_store rfl 52 _ _ rfl w8.heap.size 0 _ _ [_, _, _, _, _, _, _] _ rfl rfl (Blk.new w8 52 zero7) rfl sizeX (by simp) HONE.out ?_)
      intro w9 hb9 hw9
      have hr9 : Rb w8 w9 := Wrote.below ((Below.refl _ _).alloc (Nat.le_refl _) _) hw9 (Nat.le_refl _)
      obtain ⟨yb, hyb⟩ : ∃ yb, yb = w8.heap.size := ⟨_, rfl⟩
      rw [← hyb] at hb9 ⊢
      have HB := Lib.hid (show Blk w9 yb 52 (lcs D2 rz g2 k2) from hb9)
      have HL := Lib.hid (HL8.out.rb hr9)
      have HRR := Lib.hid (HR8.out.rb hr9)
      have HY := Lib.hid (HX8.out.rb hr9)
      have HNE := Lib.hid (show yb ≠ xb by have := HX8.out.lt; omega)
      clear hb9 hw9 hr9 hyb
      go_upto_region 10 with (fail)
      refine wp_region_specs (R := Rb) (S := [Spec.eq (.bool true), Spec.eq (.bool false), Spec.eq (.bool false), Spec.eq (.pointer (some ⟨lb2, 0, none⟩)), Spec.eq (.bool false), Spec.eq (.bool false), Spec.eq (.bool false), Spec.eq (.pointer (some ⟨lb2, 0, none⟩)), Spec.eq (.int .i64 (((freeN D2 k2 : Nat) : Int))), Spec.eq (Lv D2 rz g2 k2), Spec.eq (.int .i64 (((freeN D2 k2 : Nat) : Int))), Spec.eq (.bool false), Spec.eq (.bool false), Spec.eq (.bool false), Spec.eq (.pointer (some ⟨lb2, 0, none⟩)), Spec.eq (.int .i64 ((k2 : Int))), Spec.eq (.pointer (some ⟨yb, 6, none⟩)), Spec.eq (.int .i64 ((k2 : Int))), Spec.eq (.bool false), Spec.eq (.bool false), Spec.eq (.bool false), Spec.eq (.pointer (some ⟨lb2, 0, none⟩)), Spec.eq (.int .u32 ((g2 : Int))), Spec.eq (.pointer (some ⟨yb, 5, none⟩)), Spec.eq (.int .u32 ((g2 : Int))), Spec.eq (.bool false), Spec.eq (.bool false), Spec.eq (.bool false), Spec.eq (.pointer (some ⟨w0.heap.size, 0, none⟩)), bsSpec (D2.log), Spec.eq (strV (D2.log)), Spec.eq (.pointer (some ⟨yb, 0, none⟩)), Spec.eq (refv D2 rz), Spec.eq (strV (D2.log)), Spec.eq (.bool false), Spec.eq (.bool false), Spec.eq (.bool false), Spec.eq (.pointer (some ⟨w0.heap.size, 0, none⟩)), Spec.eq (.int .i64 ((D2.sure.length : Int))), Spec.eq (.pointer (some ⟨yb, 0, none⟩)), Spec.eq (.pointer (some ⟨yb, 1, none⟩)), Spec.eq (strV (D2.sure)), Spec.eq (.int .i64 (((str (D2.sure)).size : Int))), Spec.eq (.bool false), Spec.eq (.bool false)]) (n := 1) (size := 105) (by kernel_rfl) Rb.trans (Rb.drew _) rfl (by kernel_rfl) ?owed ?fin
      case owed =>
        refine Owed.cons ?_ ?_
        · -- 0: slot 56 := Op.move (Operand.tmp 17)
          intro a w hR F
          have e17 : a.eval (.tmp 17) = .bool true := F.old 17 (by kernel_rfl)
          exact ok_move _ rfl (wanted_none rfl) ⟨Rb.refl _, e17⟩
        refine Owed.cons ?_ ?_
        · -- 1: slot 57 := Op.unOp UnOp.not 4 (Operand.tmp 56)
          intro a w hR F
          have e56 : a.eval (.tmp 56) = .bool true := F.new 0 56 (by kernel_rfl)
          exact ok_not _ _ true rfl (wanted_none rfl) e56 ⟨Rb.refl _, rfl⟩
        refine Owed.cons ?_ ?_
        · -- 2: slot 58 := Op.move (Operand.tmp 57)
          intro a w hR F
          have e57 : a.eval (.tmp 57) = .bool false := F.new 1 57 (by kernel_rfl)
          exact ok_move _ rfl (wanted_none rfl) ⟨Rb.refl _, e57⟩
        refine Owed.cons ?_ ?_
        · -- 3: slot 59 := Op.move (Operand.tmp 15)
          intro a w hR F
          have e58 : a.eval (.tmp 58) = .bool false := F.new 2 58 (by kernel_rfl)
          have e15 : a.eval (.tmp 15) = .pointer (some ⟨lb2, 0, none⟩) := F.old 15 (by kernel_rfl)
          exact ok_move _ rfl (wanted_true (j := 2) (d := 58) rfl (by kernel_rfl) e58) ⟨Rb.refl _, e15⟩
        refine Owed.cons ?_ ?_
        · -- 4: slot 60 := Op.binOp BinOp.eql 45 (Operand.tmp 59) (Operand.const (Value.pointer none)) 45
          intro a w hR F
          have e58 : a.eval (.tmp 58) = .bool false := F.new 2 58 (by kernel_rfl)
          have e59 : a.eval (.tmp 59) = .pointer (some ⟨lb2, 0, none⟩) := F.new 3 59 (by kernel_rfl)
          exact ok_bin _ _ _ _ _ rfl (wanted_true (j := 2) (d := 58) rfl (by kernel_rfl) e58) e59 (u2 := .pointer none) rfl (run_eqn _ _ _ _) ⟨Rb.refl _, rfl⟩
        refine Owed.cons ?_ ?_
        · -- 5: slot 61 := Op.pick (Operand.tmp 58) (Operand.const (Value.bool true)) (Operand.tmp 60)
          intro a w hR F
          have e58 : a.eval (.tmp 58) = .bool false := F.new 2 58 (by kernel_rfl)
          have e60 : a.eval (.tmp 60) = .bool false := F.new 4 60 (by kernel_rfl)
          exact ok_pick _ _ _ false rfl (wanted_none rfl) e58 ⟨Rb.refl _, e60⟩
        refine Owed.cons ?_ ?_
        · -- 6: slot 62 := Op.move (Operand.tmp 61)
          intro a w hR F
          have e61 : a.eval (.tmp 61) = .bool false := F.new 5 61 (by kernel_rfl)
          exact ok_move _ rfl (wanted_none rfl) ⟨Rb.refl _, e61⟩
        refine Owed.cons ?_ ?_
        · -- 7: slot 63 := Op.move (Operand.tmp 15)
          intro a w hR F
          have e62 : a.eval (.tmp 62) = .bool false := F.new 6 62 (by kernel_rfl)
          have e15 : a.eval (.tmp 15) = .pointer (some ⟨lb2, 0, none⟩) := F.old 15 (by kernel_rfl)
          exact ok_move _ rfl (wanted_true (j := 6) (d := 62) rfl (by kernel_rfl) e62) ⟨Rb.refl _, e15⟩
        refine Owed.cons ?_ ?_
        · -- 8: slot 64 := Op.call { callee := Callee.value (Operand.func 27), args := #[Operand.tmp 63], argTypes := #[45] }
          intro a w hR F
          have e62 : a.eval (.tmp 62) = .bool false := F.new 6 62 (by kernel_rfl)
          have e63 : a.eval (.tmp 63) = .pointer (some ⟨lb2, 0, none⟩) := F.new 7 63 (by kernel_rfl)
          refine ok_call 27 _ _ #[.pointer (some ⟨lb2, 0, none⟩)] rfl (wanted_true (j := 6) (d := 62) rfl (by kernel_rfl) e62) (by simp [e63]) (Try.call27 _ _) ?_
          exact val_call_rb (free_any lb2 mz D2 g2 k2 w (HL.out.held.rb hR))
        refine Owed.cons ?_ ?_
        · -- 9: slot 65 := Op.load 52 (Operand.tmp 16)
          intro a w hR F
          have e62 : a.eval (.tmp 62) = .bool false := F.new 6 62 (by kernel_rfl)
          have e16 : a.eval (.tmp 16) = .pointer (some ⟨yb, 0, none⟩) := F.old 16 (by kernel_rfl)
          exact ok_load _ _ rfl (wanted_true (j := 6) (d := 62) rfl (by kernel_rfl) e62) e16 (load_X (HB.out.rb hR)) ⟨Rb.refl _, rfl⟩
        refine Owed.cons ?_ ?_
        · -- 10: slot 66 := Op.call { callee := Callee.value (Operand.func 28), args := #[Operand.tmp 65], argTypes := #[52] }
          intro a w hR F
          have e62 : a.eval (.tmp 62) = .bool false := F.new 6 62 (by kernel_rfl)
          have e65 : a.eval (.tmp 65) = Lv D2 rz g2 k2 := F.new 9 65 (by kernel_rfl)
          refine ok_call 28 _ _ #[Lv D2 rz g2 k2] rfl (wanted_true (j := 6) (d := 62) rfl (by kernel_rfl) e62) (by simp [e65]) (Try.call28 _ _) ?_
          exact val_call_rb (rfree_any D2 rz g2 k2 w HOK.out HL.out.held.hk)
        refine Owed.cons ?_ ?_
        · -- 11: slot 67 := Op.binOp BinOp.neq 3 (Operand.tmp 64) (Operand.tmp 66) 3
          intro a w hR F
          have e62 : a.eval (.tmp 62) = .bool false := F.new 6 62 (by kernel_rfl)
          have e64 : a.eval (.tmp 64) = .int .i64 (((freeN D2 k2 : Nat) : Int)) := F.new 8 64 (by kernel_rfl)
          have e66 : a.eval (.tmp 66) = .int .i64 (((freeN D2 k2 : Nat) : Int)) := F.new 10 66 (by kernel_rfl)
          refine ok_bin _ _ _ _ _ rfl (wanted_true (j := 6) (d := 62) rfl (by kernel_rfl) e62) e64 e66 (run_neq_int _ _ _ _ _ _) ⟨Rb.refl _, ?_⟩
          exact congrArg Value.bool (by simp)
        refine Owed.cons ?_ ?_
        · -- 12: slot 68 := Op.pick (Operand.tmp 62) (Operand.const (Value.bool true)) (Operand.tmp 67)
          intro a w hR F
          have e62 : a.eval (.tmp 62) = .bool false := F.new 6 62 (by kernel_rfl)
          have e67 : a.eval (.tmp 67) = .bool false := F.new 11 67 (by kernel_rfl)
          exact ok_pick _ _ _ false rfl (wanted_none rfl) e62 ⟨Rb.refl _, e67⟩
        refine Owed.cons ?_ ?_
        · -- 13: slot 69 := Op.move (Operand.tmp 68)
          intro a w hR F
          have e68 : a.eval (.tmp 68) = .bool false := F.new 12 68 (by kernel_rfl)
          exact ok_move _ rfl (wanted_none rfl) ⟨Rb.refl _, e68⟩
        refine Owed.cons ?_ ?_
        · -- 14: slot 70 := Op.move (Operand.tmp 15)
          intro a w hR F
          have e69 : a.eval (.tmp 69) = .bool false := F.new 13 69 (by kernel_rfl)
          have e15 : a.eval (.tmp 15) = .pointer (some ⟨lb2, 0, none⟩) := F.old 15 (by kernel_rfl)
          exact ok_move _ rfl (wanted_true (j := 13) (d := 69) rfl (by kernel_rfl) e69) ⟨Rb.refl _, e15⟩
        refine Owed.cons ?_ ?_
        · -- 15: slot 71 := Op.call { callee := Callee.value (Operand.func 29), args := #[Operand.tmp 70], argTypes := #[45] }
          intro a w hR F
          have e69 : a.eval (.tmp 69) = .bool false := F.new 13 69 (by kernel_rfl)
          have e70 : a.eval (.tmp 70) = .pointer (some ⟨lb2, 0, none⟩) := F.new 14 70 (by kernel_rfl)
          refine ok_call 29 _ _ #[.pointer (some ⟨lb2, 0, none⟩)] rfl (wanted_true (j := 13) (d := 69) rfl (by kernel_rfl) e69) (by simp [e70]) (Try.call29 _ _) ?_
          exact val_call (kept_any lb2 mz D2 g2 k2 w (HL.out.held.rb hR))
        refine Owed.cons ?_ ?_
        · -- 16: slot 72 := Op.fieldAddr 52 (Operand.tmp 16) 2
          intro a w hR F
          have e69 : a.eval (.tmp 69) = .bool false := F.new 13 69 (by kernel_rfl)
          have e16 : a.eval (.tmp 16) = .pointer (some ⟨yb, 0, none⟩) := F.old 16 (by kernel_rfl)
          exact ok_fieldX _ 2 6 (by decide) rfl (wanted_true (j := 13) (d := 69) rfl (by kernel_rfl) e69) e16 ⟨Rb.refl _, rfl⟩
        refine Owed.cons ?_ ?_
        · -- 17: slot 73 := Op.load 3 (Operand.tmp 72)
          intro a w hR F
          have e69 : a.eval (.tmp 69) = .bool false := F.new 13 69 (by kernel_rfl)
          have e72 : a.eval (.tmp 72) = .pointer (some ⟨yb, 6, none⟩) := F.new 16 72 (by kernel_rfl)
          exact ok_load _ _ rfl (wanted_true (j := 13) (d := 69) rfl (by kernel_rfl) e69) e72 (load_int ((HB.out.rb hR).cell 6)) ⟨Rb.refl _, rfl⟩
        refine Owed.cons ?_ ?_
        · -- 18: slot 74 := Op.binOp BinOp.neq 3 (Operand.tmp 71) (Operand.tmp 73) 3
          intro a w hR F
          have e69 : a.eval (.tmp 69) = .bool false := F.new 13 69 (by kernel_rfl)
          have e71 : a.eval (.tmp 71) = .int .i64 ((k2 : Int)) := F.new 15 71 (by kernel_rfl)
          have e73 : a.eval (.tmp 73) = .int .i64 ((k2 : Int)) := F.new 17 73 (by kernel_rfl)
          refine ok_bin _ _ _ _ _ rfl (wanted_true (j := 13) (d := 69) rfl (by kernel_rfl) e69) e71 e73 (run_neq_int _ _ _ _ _ _) ⟨Rb.refl _, ?_⟩
          exact congrArg Value.bool (by simp)
        refine Owed.cons ?_ ?_
        · -- 19: slot 75 := Op.pick (Operand.tmp 69) (Operand.const (Value.bool true)) (Operand.tmp 74)
          intro a w hR F
          have e69 : a.eval (.tmp 69) = .bool false := F.new 13 69 (by kernel_rfl)
          have e74 : a.eval (.tmp 74) = .bool false := F.new 18 74 (by kernel_rfl)
          exact ok_pick _ _ _ false rfl (wanted_none rfl) e69 ⟨Rb.refl _, e74⟩
        refine Owed.cons ?_ ?_
        · -- 20: slot 76 := Op.move (Operand.tmp 75)
          intro a w hR F
          have e75 : a.eval (.tmp 75) = .bool false := F.new 19 75 (by kernel_rfl)
          exact ok_move _ rfl (wanted_none rfl) ⟨Rb.refl _, e75⟩
        refine Owed.cons ?_ ?_
        · -- 21: slot 77 := Op.move (Operand.tmp 15)
          intro a w hR F
          have e76 : a.eval (.tmp 76) = .bool false := F.new 20 76 (by kernel_rfl)
          have e15 : a.eval (.tmp 15) = .pointer (some ⟨lb2, 0, none⟩) := F.old 15 (by kernel_rfl)
          exact ok_move _ rfl (wanted_true (j := 20) (d := 76) rfl (by kernel_rfl) e76) ⟨Rb.refl _, e15⟩
        refine Owed.cons ?_ ?_
        · -- 22: slot 78 := Op.call { callee := Callee.value (Operand.func 30), args := #[Operand.tmp 77], argTypes := #[45] }
          intro a w hR F
          have e76 : a.eval (.tmp 76) = .bool false := F.new 20 76 (by kernel_rfl)
          have e77 : a.eval (.tmp 77) = .pointer (some ⟨lb2, 0, none⟩) := F.new 21 77 (by kernel_rfl)
          refine ok_call 30 _ _ #[.pointer (some ⟨lb2, 0, none⟩)] rfl (wanted_true (j := 20) (d := 76) rfl (by kernel_rfl) e76) (by simp [e77]) (Try.call30 _ _) ?_
          exact val_call (gen_any lb2 mz D2 g2 k2 w (HL.out.held.rb hR))
        refine Owed.cons ?_ ?_
        · -- 23: slot 79 := Op.fieldAddr 52 (Operand.tmp 16) 1
          intro a w hR F
          have e76 : a.eval (.tmp 76) = .bool false := F.new 20 76 (by kernel_rfl)
          have e16 : a.eval (.tmp 16) = .pointer (some ⟨yb, 0, none⟩) := F.old 16 (by kernel_rfl)
          exact ok_fieldX _ 1 5 (by decide) rfl (wanted_true (j := 20) (d := 76) rfl (by kernel_rfl) e76) e16 ⟨Rb.refl _, rfl⟩
        refine Owed.cons ?_ ?_
        · -- 24: slot 80 := Op.load 22 (Operand.tmp 79)
          intro a w hR F
          have e76 : a.eval (.tmp 76) = .bool false := F.new 20 76 (by kernel_rfl)
          have e79 : a.eval (.tmp 79) = .pointer (some ⟨yb, 5, none⟩) := F.new 23 79 (by kernel_rfl)
          exact ok_load _ _ rfl (wanted_true (j := 20) (d := 76) rfl (by kernel_rfl) e76) e79 (load_u32 ((HB.out.rb hR).cell 5)) ⟨Rb.refl _, rfl⟩
        refine Owed.cons ?_ ?_
        · -- 25: slot 81 := Op.binOp BinOp.neq 22 (Operand.tmp 78) (Operand.tmp 80) 22
          intro a w hR F
          have e76 : a.eval (.tmp 76) = .bool false := F.new 20 76 (by kernel_rfl)
          have e78 : a.eval (.tmp 78) = .int .u32 ((g2 : Int)) := F.new 22 78 (by kernel_rfl)
          have e80 : a.eval (.tmp 80) = .int .u32 ((g2 : Int)) := F.new 24 80 (by kernel_rfl)
          refine ok_bin _ _ _ _ _ rfl (wanted_true (j := 20) (d := 76) rfl (by kernel_rfl) e76) e78 e80 (run_neq_int _ _ _ _ _ _) ⟨Rb.refl _, ?_⟩
          exact congrArg Value.bool (by simp)
        refine Owed.cons ?_ ?_
        · -- 26: slot 82 := Op.pick (Operand.tmp 76) (Operand.const (Value.bool true)) (Operand.tmp 81)
          intro a w hR F
          have e76 : a.eval (.tmp 76) = .bool false := F.new 20 76 (by kernel_rfl)
          have e81 : a.eval (.tmp 81) = .bool false := F.new 25 81 (by kernel_rfl)
          exact ok_pick _ _ _ false rfl (wanted_none rfl) e76 ⟨Rb.refl _, e81⟩
        refine Owed.cons ?_ ?_
        · -- 27: slot 83 := Op.move (Operand.tmp 82)
          intro a w hR F
          have e82 : a.eval (.tmp 82) = .bool false := F.new 26 82 (by kernel_rfl)
          exact ok_move _ rfl (wanted_none rfl) ⟨Rb.refl _, e82⟩
        refine Owed.cons ?_ ?_
        · -- 28: slot 84 := Op.move (Operand.tmp 5)
          intro a w hR F
          have e83 : a.eval (.tmp 83) = .bool false := F.new 27 83 (by kernel_rfl)
          have e5 : a.eval (.tmp 5) = .pointer (some ⟨w0.heap.size, 0, none⟩) := F.old 5 (by kernel_rfl)
          exact ok_move _ rfl (wanted_true (j := 27) (d := 83) rfl (by kernel_rfl) e83) ⟨Rb.refl _, e5⟩
        refine Owed.cons ?_ ?_
        · -- 29: slot 85 := Op.call { callee := Callee.value (Operand.func 31), args := #[Operand.tmp 84], argTypes := #[43] }
          intro a w hR F
          have e83 : a.eval (.tmp 83) = .bool false := F.new 27 83 (by kernel_rfl)
          have e84 : a.eval (.tmp 84) = .pointer (some ⟨w0.heap.size, 0, none⟩) := F.new 28 84 (by kernel_rfl)
          refine ok_call 31 _ _ #[.pointer (some ⟨w0.heap.size, 0, none⟩)] rfl (wanted_true (j := 27) (d := 83) rfl (by kernel_rfl) e83) (by simp [e84]) (Try.call31 _ _) ?_
          exact L3.put_call (log_at HL.out.hb (HL.out.held.disk.rb hR))
        refine Owed.cons ?_ ?_
        · -- 30: slot 86 := Op.convert 23 9 (Operand.tmp 85)
          intro a w hR F
          have e83 : a.eval (.tmp 83) = .bool false := F.new 27 83 (by kernel_rfl)
          have e85 : Bs w (a.eval (.tmp 85)) (D2.log) := F.new 29 85 (by kernel_rfl)
          exact ok_conv _ _ _ rfl (wanted_true (j := 27) (d := 83) rfl (by kernel_rfl) e83) (run_convert_Bs e85 23 5 9 Try.underlying23 Try.underlying5 Try.underlying9) ⟨Rb.refl _, rfl⟩
        refine Owed.cons ?_ ?_
        · -- 31: slot 87 := Op.fieldAddr 52 (Operand.tmp 16) 0
          intro a w hR F
          have e83 : a.eval (.tmp 83) = .bool false := F.new 27 83 (by kernel_rfl)
          have e16 : a.eval (.tmp 16) = .pointer (some ⟨yb, 0, none⟩) := F.old 16 (by kernel_rfl)
          exact ok_fieldX _ 0 0 (by decide) rfl (wanted_true (j := 27) (d := 83) rfl (by kernel_rfl) e83) e16 ⟨Rb.refl _, rfl⟩
        refine Owed.cons ?_ ?_
        · -- 32: slot 88 := Op.load 50 (Operand.tmp 87)
          intro a w hR F
          have e83 : a.eval (.tmp 83) = .bool false := F.new 27 83 (by kernel_rfl)
          have e87 : a.eval (.tmp 87) = .pointer (some ⟨yb, 0, none⟩) := F.new 31 87 (by kernel_rfl)
          exact ok_load _ _ rfl (wanted_true (j := 27) (d := 83) rfl (by kernel_rfl) e83) e87 (load_XD (HB.out.rb hR)) ⟨Rb.refl _, rfl⟩
        refine Owed.cons ?_ ?_
        · -- 33: slot 89 := Op.call { callee := Callee.value (Operand.func 32), args := #[Operand.tmp 88], argTypes := #[50] }
          intro a w hR F
          have e83 : a.eval (.tmp 83) = .bool false := F.new 27 83 (by kernel_rfl)
          have e88 : a.eval (.tmp 88) = refv D2 rz := F.new 32 88 (by kernel_rfl)
          refine ok_call 32 _ _ #[refv D2 rz] rfl (wanted_true (j := 27) (d := 83) rfl (by kernel_rfl) e83) (by simp [e88]) (Try.call32 _ _) ?_
          exact val_call_rb (rlog_any D2 rz w HOK.out)
        refine Owed.cons ?_ ?_
        · -- 34: slot 90 := Op.binOp BinOp.neq 9 (Operand.tmp 86) (Operand.tmp 89) 9
          intro a w hR F
          have e83 : a.eval (.tmp 83) = .bool false := F.new 27 83 (by kernel_rfl)
          have e86 : a.eval (.tmp 86) = strV (D2.log) := F.new 30 86 (by kernel_rfl)
          have e89 : a.eval (.tmp 89) = strV (D2.log) := F.new 33 89 (by kernel_rfl)
          refine ok_bin _ _ _ _ _ rfl (wanted_true (j := 27) (d := 83) rfl (by kernel_rfl) e83) e86 e89 (run_neq_strV _ _ _ _ _) ⟨Rb.refl _, ?_⟩
          exact congrArg Value.bool (by simp)
        refine Owed.cons ?_ ?_
        · -- 35: slot 91 := Op.pick (Operand.tmp 83) (Operand.const (Value.bool true)) (Operand.tmp 90)
          intro a w hR F
          have e83 : a.eval (.tmp 83) = .bool false := F.new 27 83 (by kernel_rfl)
          have e90 : a.eval (.tmp 90) = .bool false := F.new 34 90 (by kernel_rfl)
          exact ok_pick _ _ _ false rfl (wanted_none rfl) e83 ⟨Rb.refl _, e90⟩
        refine Owed.cons ?_ ?_
        · -- 36: slot 92 := Op.move (Operand.tmp 91)
          intro a w hR F
          have e91 : a.eval (.tmp 91) = .bool false := F.new 35 91 (by kernel_rfl)
          exact ok_move _ rfl (wanted_none rfl) ⟨Rb.refl _, e91⟩
        refine Owed.cons ?_ ?_
        · -- 37: slot 93 := Op.move (Operand.tmp 5)
          intro a w hR F
          have e92 : a.eval (.tmp 92) = .bool false := F.new 36 92 (by kernel_rfl)
          have e5 : a.eval (.tmp 5) = .pointer (some ⟨w0.heap.size, 0, none⟩) := F.old 5 (by kernel_rfl)
          exact ok_move _ rfl (wanted_true (j := 36) (d := 92) rfl (by kernel_rfl) e92) ⟨Rb.refl _, e5⟩
        refine Owed.cons ?_ ?_
        · -- 38: slot 94 := Op.call { callee := Callee.value (Operand.func 33), args := #[Operand.tmp 93], argTypes := #[43] }
          intro a w hR F
          have e92 : a.eval (.tmp 92) = .bool false := F.new 36 92 (by kernel_rfl)
          have e93 : a.eval (.tmp 93) = .pointer (some ⟨w0.heap.size, 0, none⟩) := F.new 37 93 (by kernel_rfl)
          refine ok_call 33 _ _ #[.pointer (some ⟨w0.heap.size, 0, none⟩)] rfl (wanted_true (j := 36) (d := 92) rfl (by kernel_rfl) e92) (by simp [e93]) (Try.call33 _ _) ?_
          exact val_call (sure_at HL.out.hb (HL.out.held.disk.rb hR))
        refine Owed.cons ?_ ?_
        · -- 39: slot 95 := Op.fieldAddr 52 (Operand.tmp 16) 0
          intro a w hR F
          have e92 : a.eval (.tmp 92) = .bool false := F.new 36 92 (by kernel_rfl)
          have e16 : a.eval (.tmp 16) = .pointer (some ⟨yb, 0, none⟩) := F.old 16 (by kernel_rfl)
          exact ok_fieldX _ 0 0 (by decide) rfl (wanted_true (j := 36) (d := 92) rfl (by kernel_rfl) e92) e16 ⟨Rb.refl _, rfl⟩
        refine Owed.cons ?_ ?_
        · -- 40: slot 96 := Op.fieldAddr 50 (Operand.tmp 95) 1
          intro a w hR F
          have e92 : a.eval (.tmp 92) = .bool false := F.new 36 92 (by kernel_rfl)
          have e95 : a.eval (.tmp 95) = .pointer (some ⟨yb, 0, none⟩) := F.new 39 95 (by kernel_rfl)
          exact ok_fieldR _ 1 (by decide) rfl (wanted_true (j := 36) (d := 92) rfl (by kernel_rfl) e92) e95 ⟨Rb.refl _, rfl⟩
        refine Owed.cons ?_ ?_
        · -- 41: slot 97 := Op.load 9 (Operand.tmp 96)
          intro a w hR F
          have e92 : a.eval (.tmp 92) = .bool false := F.new 36 92 (by kernel_rfl)
          have e96 : a.eval (.tmp 96) = .pointer (some ⟨yb, 1, none⟩) := F.new 40 96 (by kernel_rfl)
          exact ok_load _ _ rfl (wanted_true (j := 36) (d := 92) rfl (by kernel_rfl) e92) e96 (load_string ((HB.out.rb hR).cell 1)) ⟨Rb.refl _, rfl⟩
        refine Owed.cons ?_ ?_
        · -- 42: slot 98 := Op.call { callee := Callee.builtin Builtin.len, args := #[Operand.tmp 97], argTypes := #[9] }
          intro a w hR F
          have e92 : a.eval (.tmp 92) = .bool false := F.new 36 92 (by kernel_rfl)
          have e97 : a.eval (.tmp 97) = strV (D2.sure) := F.new 41 97 (by kernel_rfl)
          exact ok_len_str _ _ (str (D2.sure)) Try.underlying9 rfl (wanted_true (j := 36) (d := 92) rfl (by kernel_rfl) e92) e97 ⟨Rb.refl _, rfl⟩
        refine Owed.cons ?_ ?_
        · -- 43: slot 99 := Op.binOp BinOp.neq 3 (Operand.tmp 94) (Operand.tmp 98) 3
          intro a w hR F
          have e92 : a.eval (.tmp 92) = .bool false := F.new 36 92 (by kernel_rfl)
          have e94 : a.eval (.tmp 94) = .int .i64 ((D2.sure.length : Int)) := F.new 38 94 (by kernel_rfl)
          have e98 : a.eval (.tmp 98) = .int .i64 (((str (D2.sure)).size : Int)) := F.new 42 98 (by kernel_rfl)
          refine ok_bin _ _ _ _ _ rfl (wanted_true (j := 36) (d := 92) rfl (by kernel_rfl) e92) e94 e98 (run_neq_int _ _ _ _ _ _) ⟨Rb.refl _, ?_⟩
          exact congrArg Value.bool (by rw [str_size]; simp)
        refine Owed.cons ?_ ?_
        · -- 44: slot 100 := Op.pick (Operand.tmp 92) (Operand.const (Value.bool true)) (Operand.tmp 99)
          intro a w hR F
          have e92 : a.eval (.tmp 92) = .bool false := F.new 36 92 (by kernel_rfl)
          have e99 : a.eval (.tmp 99) = .bool false := F.new 43 99 (by kernel_rfl)
          exact ok_pick _ _ _ false rfl (wanted_none rfl) e92 ⟨Rb.refl _, e99⟩
        exact Owed.nil
      case fin =>
        intro y w2 hR hy
        have e44 : y 44 = .bool false := hy 44 _ rfl
        have HR := Lib.hid hR
        clear hy hR
        simp only [putAll, Act.put, List.setIfInBounds_toArray, List.set_cons_zero, List.set_cons_succ]
        rw [e44]
        clear e44
        have HL0 := HL
        have HL := Lib.hid (HL0.out.rb HR.out)
        have HRR := Lib.hid (HRR.out.rb HR.out)
        have HB := Lib.hid (HB.out.rb HR.out)
        have HY := Lib.hid (HY.out.rb HR.out)
        clear HL0
        go_upto_region 12 with (fail)
        refine wp_region_store_specs (R := RN (xb) (lcs D2 rz g2 k2)) (S := [Spec.eq (.pointer (some ⟨lb2, 0, none⟩)), Spec.eq (Lv D2 rz g2 k2), Spec.eq (.pointer (some ⟨lb2, 0, none⟩)), blkSpec (xb) (lcs D2 rz g2 k2)]) (n := 1) (size := 105) (by kernel_rfl) RN.trans (RN.of_rb (Rb.drew _)) rfl (by kernel_rfl) ?owed ?fin
        case owed =>
          refine Owed.cons ?_ ?_
          · -- 0: slot 101 := Op.move (Operand.tmp 15)
            intro a w hR F
            have e15 : a.eval (.tmp 15) = .pointer (some ⟨lb2, 0, none⟩) := F.old 15 (by kernel_rfl)
            exact ok_move _ rfl (wanted_none rfl) ⟨RN.refl _, e15⟩
          refine Owed.cons ?_ ?_
          · -- 1: slot 102 := Op.load 52 (Operand.tmp 16)
            intro a w hR F
            have e16 : a.eval (.tmp 16) = .pointer (some ⟨yb, 0, none⟩) := F.old 16 (by kernel_rfl)
            exact ok_load _ _ rfl (wanted_none rfl) e16 (load_X (hR.blk HB.out HNE.out)) ⟨RN.refl _, rfl⟩
          refine Owed.cons ?_ ?_
          · -- 2: slot 6 := Op.assign (Operand.tmp 101)
            intro a w hR F
            have e101 : a.eval (.tmp 101) = .pointer (some ⟨lb2, 0, none⟩) := F.new 0 101 (by kernel_rfl)
            exact ok_assign _ rfl (wanted_none rfl) ⟨RN.refl _, e101⟩
          refine Owed.cons ?_ ?_
          · -- 3: slot None := Op.store 52 (Operand.tmp 10) (Operand.tmp 102)
            intro a w hR F
            have e10 : a.eval (.tmp 10) = .pointer (some ⟨xb, 0, none⟩) := F.old 10 (by kernel_rfl)
            have e102 : a.eval (.tmp 102) = Lv D2 rz g2 k2 := F.new 1 102 (by kernel_rfl)
            exact ok_storeX (L := lcs D2 rz g2 k2) _ _ rfl (wanted_none rfl) e10 e102 rfl (hR.seven ⟨_, HY.out, rfl⟩) rfl HONE.out (fun w9 _ hb hw => ⟨RN.of_wrote hw hb rfl, hb⟩)
          exact Owed.nil
        case fin =>
          intro y w2 hR hy
          have e2 : y 2 = .pointer (some ⟨lb2, 0, none⟩) := hy 2 _ rfl
          have HR := Lib.hid hR
          have hz : Blk w2 xb 52 (lcs D2 rz g2 k2) := hy 3 _ rfl
          have PN := Lib.hid (Px.next HL.out HRR.out HOF.out HOX.out HNR.out HSX.out HFT.out HR.out hz)
          clear hy hR hz
          simp only [putAll, Act.put, List.setIfInBounds_toArray, List.set_cons_zero, List.set_cons_succ]
          rw [e2]
          clear e2
          go_wp2
          go_roundw
          case rel => exact ⟨k + 1, lb2, D2, g2, k2, mz, rz, by omega, rfl, by go_num, PN.out⟩
          case measure => simp [intOf]; omega
    · have HE := Lib.hid (show k = N by omega)
      clear hp hWr
      go_wp2_with fail
      refine (lives_any wr).mono ?_
      rintro e w7 ⟨rfl, hr⟩
      have HW7 := Lib.hid (HWR.out.trans (Below.mono hr HWR.out.size))
      clear hr
      go_wp2
      go_ret
      exact ⟨rfl, HW7.out⟩
end Go.Proofs.Ytbdgdmieggpmhaa.L4
