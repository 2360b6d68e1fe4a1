/-
  Layer 3: the walk of DiskTwice.
-/
import Derived.Test.YtbillojamaiagaaK21
namespace Go.Proofs.Ytbillojamaiagaa
open Go.ChangeShapes Go.WideShapes Go.ChangeAt Go.RowKit By Reg
set_option linter.unusedVariables false

def refSpec (D : Dk) : Reg.Spec Rb := ⟨fun w v => ∃ r, v = refv D r ∧ HeldR w r D, fun w w' v hb ⟨r, h, k⟩ => ⟨r, h, k.rb hb⟩⟩
theorem ref_call {f : FuncId} {vs : Array Value} {w : World} {old : Nat → Prop} {D : Dk} (h : Calls Try.prog f vs w (RefE w old D)) : Calls Try.prog f vs w fun e w'' => ∃ v, e = .returned v ∧ Rb w w'' ∧ (refSpec D).V w'' v :=
  h.mono fun _ _ ⟨r, he, hr, hb, _⟩ => ⟨_, he, hb, r, rfl, hr⟩
theorem alike_spec {m : Mem} {D : Dk} {b : Nat} {w : World} {v : Value} (hb : m.b = b) (h1 : HeldK w m D) (h2 : (refSpec D).V w v) : Calls Try.prog 10 #[.pointer (some ⟨b, 0, none⟩), v] w fun e w' => e = .returned (.bool true) ∧ Rb w w' := by
  obtain ⟨r, rfl, hr⟩ := h2
  exact alike_at hb h1 hr
theorem crash_crash (D : Dk) (a b : Nat) : (D.crash a).crash b = D.crash a := by simp [Dk.crash]

set_option maxRecDepth 100000 in
set_option maxHeartbeats 1000000 in
theorem twice_walk (ao : Option Addr) (n cap : Nat) (l : List OX) (keep again : Int) (w0 : World) (h : OpsIn w0 ao n l) (hn : n ≤ 9223372036854775807) :
    Calls Try.prog 7 #[.slice ao n cap, .int .i64 keep, .int .i64 again] w0 fun e w' => e = .returned (.bool true) ∧ Below w0.heap.size w0 w' := by
  have HO := Lib.hid h
  clear h
  go_enter Try.func7, Try.ntmps7
  go_wp2_with fail
  refine (new_any 4096 w0).mono ?_
  rintro e w1 ⟨rfl, hk1, hr1⟩
  replace hk1 : HeldK w1 (mem0 w0.heap.size) (Dk.new 4096) := hk1
  have HK1 := Lib.hid hk1
  have HR1 := Lib.hid hr1
  clear hk1 hr1
  go_wp2_with fail
  refine (rnew_any 4096 w1).mono ?_
  rintro e w2 ⟨r, rfl, hr2, hb2, hh2⟩
  replace hr2 : HeldR w2 r (Dk.new 4096) := hr2
  have HQ2 := Lib.hid hr2
  have HR2 := Lib.hid hb2
  have HH2 := Lib.hid hh2
  have H5 := Lib.hid (five_one (n := (4096 : Nat)) (a := str []) (b := str []) hr2.n.one.2 hr2.s.one.2)
  clear hr2 hb2 hh2
  go_wp2_with (refine wpList_store rfl 27 _ _ rfl w2.heap.size 0 _ _ [_, _, _, _, _] _ rfl rfl (Blk.new w2 27 zero5) rfl sizeref (by simp) H5.out ?_)
  intro w3 hb3 hw3
  have HB3 := Lib.hid (show Blk w3 w2.heap.size 27 (refcs (Dk.new 4096) r) from hb3)
  have HR3 := Lib.hid (show Rb w2 w3 from Wrote.below ((Below.refl _ _).alloc (Nat.le_refl _) _) hw3 (Nat.le_refl _))
  clear hb3 hw3
  go_wp2_with fail
  refine (cut_any ao n cap l _ (HO.out.below (Rb.trans _ _ _ HR1.out (Rb.trans _ _ _ HR2.out HR3.out))) hn).mono ?_
  rintro e w4 ⟨cv, rfl, ho4, hb4⟩
  obtain ⟨co, ccap, rfl⟩ := row_form ho4
  obtain ⟨C, hC⟩ : ∃ C, C = cutL l := ⟨_, rfl⟩
  rw [← hC] at ho4 ⊢
  have hbs := cutL_bs HO.out.bs
  rw [← hC] at hbs
  have HBS := Lib.hid hbs
  obtain ⟨N, hN⟩ : ∃ N, N = C.length := ⟨_, rfl⟩
  rw [← hN] at ho4 ⊢
  have hN40 : N ≤ 40 := by rw [hN, hC, cutL_len]; omega
  have HN := Lib.hid hN
  have HL := Lib.hid (lp_start HK1.out HR1.out HQ2.out HR2.out HH2.out HB3.out HR3.out ho4 hb4)
  have HO4 := Lib.hid ho4
  have HW4 := Lib.hid (Rb.trans _ _ _ HR1.out (Rb.trans _ _ _ HR2.out (Rb.trans _ _ _ HR3.out hb4)))
  have hb0 : w0.heap.size < w4.heap.size := Nat.lt_of_lt_of_le HK1.out.blk.lt (Nat.le_trans HR2.out.size (Nat.le_trans (HR3.out).size hb4.size))
  clear ho4 hb4 hbs hN hC HK1 HR1 HQ2 HR2 HH2 HB3 HR3 H5 hb0
  go_wp2_with fail
  go_loopw [17] (fun i wr => ∃ k : Nat, k ≤ N ∧ i = .int .i64 k ∧ Lp w4 (Sx w0.heap.size (.slice co N ccap)) w0.heap.size w2.heap.size (runD (Dk.new 4096) (C.take k)) (runD (Dk.new 4096) (C.take k)) wr) (fun i _ => N - (intOf i).toNat)
  case atStart => exact ⟨0, Nat.zero_le _, rfl, HL.out⟩
  case round =>
    obtain ⟨k, hk, rfl, hlp⟩ := hrel
    by_cases hlt : k < N
    · obtain ⟨m, r, hm, hX⟩ := hlp
      obtain ⟨q, hq⟩ : ∃ q, C[k]? = some q := ⟨_, List.getElem?_eq_getElem (by rw [← HN.out]; exact hlt)⟩
      obtain ⟨⟨⟨g, rfl, y0, y1, y2⟩, hqb, hql⟩, hqo⟩ := round_reads hm HW4.out HO4.out HBS.out hq
      have HS := Lib.hid (show runD (Dk.new 4096) (C.take (k + 1)) = stepD (runD (Dk.new 4096) (C.take k)) q.1.k q.1.n q.2 by
        have hkc : k < C.length := by rw [← HN.out]; exact hlt
        have e : C[k] = q := by rw [List.getElem?_eq_getElem hkc] at hq; exact Option.some.inj hq
        rw [runD_succ _ hkc, e])
      have HQ := Lib.hid hqb
      have HQL := Lib.hid hql
      have HQO := Lib.hid hqo
      have HM := Lib.hid hm
      have HX := Lib.hid hX
      obtain ⟨q1, q2⟩ := q
      obtain ⟨qk, qn, qv⟩ := q1
      have hq1 : qv.oneCell' = true := (bs_one hqb).1
      have HQ1 := Lib.hid hq1
      clear hm hX hqb hql hqo hq hq1
      generalize runD (Dk.new 4096) (C.take k) = D at *
      go_wp2_with (refine wpList_store rfl 34 _ _ rfl wr.heap.size 0 _ _ [_, _, _] _ rfl rfl (Blk.new wr 34 [_, _, _]) rfl sizeop (by simp) (op_one (p := ⟨qk, qn, qv⟩) HQ1.out) ?_)
      intro w5 hb5 hw5
      have hr5 : Rb wr w5 := Wrote.below ((Below.refl _ _).alloc (Nat.le_refl _) _) hw5 (Nat.le_refl _)
      obtain ⟨o0, o1, o2⟩ := Blk.cells3 (show Blk w5 wr.heap.size 34 (opcs ⟨qk, qn, qv⟩) from hb5)
      obtain ⟨x0, x1, x2, x3, x4⟩ := Blk.cells5 (HX.out.rb hr5)
      have HX5 := Lib.hid (HX.out.rb hr5)
      have HM5 := Lib.hid (HM.out.rb hr5)
      have HQ5 := Lib.hid (HQ.out.below hr5)
      clear hb5 hw5 hr5 y0 y1 y2
      go_wp2_with fail
      refine (do_at (r := r) (o := ⟨qk, qn, qv⟩) (xs := q2) HM5.out.hb HM5.out.both HQ5.out HQO.out HQL.out).mono ?_
      rintro e w6 ⟨m', r', rfl, hB, hn6, hk6, hs6⟩
      have HX6 := Lib.hid (blk_step HM5.out HX5.out hk6)
      have HM6 := Lib.hid (HM5.out.step HX5.out.lt hB hn6 hk6 hs6)
      have H6 := Lib.hid (five_one (n := D.room) (a := str (stepD D qk qn q2).sure) (b := str (stepD D qk qn q2).rest) hB.rr.n.one.2 hB.rr.s.one.2)
      clear hB hn6 hk6 hs6 o0 o1 o2 x0 x1 x2 x3 x4
      go_wp2_with (refine wpList_store rfl 27 _ _ rfl w2.heap.size 0 _ _ [_, _, _, _, _] _ rfl rfl HX6.out rfl sizeref (by simp) (five_one HM6.out.both.rr.n.one.2 HM6.out.both.rr.s.one.2) ?_)
      intro w7 hb7 hw7
      have HL7 := Lib.hid (HM6.out.stored hw7 hb7)
      clear hb7 hw7
      go_wp2
      go_roundw
      case rel => exact ⟨k + 1, by omega, by go_num, by rw [HS.out]; exact HL7.out⟩
      case measure => simp [intOf]; omega
    · obtain ⟨m, r, hm, hX⟩ := hlp
      have HM := Lib.hid hm
      have HX := Lib.hid hX
      have OK := Lib.hid hm.both.kk.ok
      have hW := hm.below (B := w0.heap.size) fun k hk => .inl hk
      have HWr := Lib.hid (Below.trans HW4.out hW)
      have HSr := Lib.hid (Nat.le_trans HW4.out.size hm.size)
      have HAb := Lib.hid (fun k (hk : m.touch k) => (by
        rcases Nat.lt_or_ge k w0.heap.size with h' | h'
        · exact absurd hk (hm.s k (.inl h')).2.1
        · exact h' : w0.heap.size ≤ k))
      clear hm hX hW
      generalize runD (Dk.new 4096) (C.take k) = D at *
      go_wp2_with fail
      refine (crash_at keep HM.out.hb HM.out.both.kk).mono ?_
      rintro e wa ⟨rfl, m1, hk1, hn1, hp1, hh1⟩
      have HD1 := Lib.hid hk1
      have HDb := Lib.hid (hn1.1.trans HM.out.hb)
      have HXa := Lib.hid (blk_step HM.out HX.out hp1)
      have HRa := Lib.hid (HM.out.both.rr.kp hp1 HM.out.both.off)
      have HWa := Lib.hid (HWr.out.trans (hp1.below HSr.out HAb.out))
      have HSa := Lib.hid (Nat.le_trans HSr.out hp1.size)
      clear hk1 hn1 hp1 hh1
      go_wp2_with fail
      refine (clone_at HDb.out HD1.out).mono ?_
      rintro e wb ⟨lv, rfl, hkb, hlv, hrb⟩
      obtain ⟨cb, hcb⟩ : ∃ cb, cb = wa.heap.size := ⟨_, rfl⟩
      rw [← hcb] at hkb hlv ⊢
      have HCB := Lib.hid hcb
      have HKb := Lib.hid hkb
      have HLV := Lib.hid hlv
      have HRb := Lib.hid hrb
      clear hcb hkb hlv hrb
      go_wp2_with fail
      refine (crash_at again (show (⟨cb, lv, m1.v0, m1.v1, m1.u0, m1.u1⟩ : Mem).b = cb from rfl) HKb.out).mono ?_
      rintro e wc ⟨rfl, m2, hk2, hn2, hp2, hh2⟩
      rw [crash_crash] at hk2
      have htc : ∀ k, (⟨cb, lv, m1.v0, m1.v1, m1.u0, m1.u1⟩ : Mem).touch k → wa.heap.size ≤ k := fun k hk => by
        have := HCB.out
        rcases hk with hk | hk
        · show wa.heap.size ≤ k; have hk' : k = cb := hk; omega
        · have := HLV.out k hk; omega
      have hbc : Below wa.heap.size wb wc := hp2.below HRb.out.size htc
      have hac : Rb wa wc := Below.trans HRb.out hbc
      have HC := Lib.hid hk2
      have HCb := Lib.hid (show m2.b = cb from hn2.1)
      have HD := Lib.hid (HD1.out.rb hac)
      have HXc := Lib.hid (HXa.out.rb hac)
      have HRc := Lib.hid (HRa.out.rb hac)
      have HB := Lib.hid (HWa.out.trans (Below.mono hac HSa.out))
      have HSZ := Lib.hid (Nat.le_trans HSa.out hac.size)
      clear hk2 hn2 hp2 hh2 htc hbc hac
      go_upto_region 11 with (fail)
      refine wp_region_plain_specs (R := Rb) (S := [Spec.eq (.pointer (some ⟨cb, 0, none⟩)), Spec.eq (.pointer (some ⟨w0.heap.size, 0, none⟩)), Spec.eq (.bool true), Spec.eq (.bool true), Spec.eq (.pointer (some ⟨w0.heap.size, 0, none⟩)), Spec.eq (refv D r), Spec.eq (.int .i64 (keep)), refSpec (D.crash keep.toNat), Spec.eq (.bool true), Spec.eq (.bool true), Spec.eq (.bool true), Spec.eq (.bool true), Spec.eq (.bool true), Spec.eq (.bool true)]) (n := 1) (size := 50) Rb.trans (Rb.refl _) rfl (by kernel_rfl) ?owed ?fin
      case owed =>
        refine Owed.cons ?_ ?_
        · -- 0: slot 37 := Op.move (Operand.tmp 11)
          intro a w hR F
          have e11 : a.eval (.tmp 11) = .pointer (some ⟨cb, 0, none⟩) := F.old 11 (by kernel_rfl)
          exact ok_move _ rfl (wanted_none rfl) ⟨Rb.refl _, e11⟩
        refine Owed.cons ?_ ?_
        · -- 1: slot 38 := Op.move (Operand.tmp 7)
          intro a w hR F
          have e7 : a.eval (.tmp 7) = .pointer (some ⟨w0.heap.size, 0, none⟩) := F.old 7 (by kernel_rfl)
          exact ok_move _ rfl (wanted_none rfl) ⟨Rb.refl _, e7⟩
        refine Owed.cons ?_ ?_
        · -- 2: slot 39 := Op.call { callee := Callee.value (Operand.func 19), args := #[Operand.tmp 37, Operand.tmp 38], argTy
          intro a w hR F
          have e37 : a.eval (.tmp 37) = .pointer (some ⟨cb, 0, none⟩) := F.new 0 37 (by kernel_rfl)
          have e38 : a.eval (.tmp 38) = .pointer (some ⟨w0.heap.size, 0, none⟩) := F.new 1 38 (by kernel_rfl)
          refine ok_call 19 _ _ #[.pointer (some ⟨cb, 0, none⟩), .pointer (some ⟨w0.heap.size, 0, none⟩)] rfl (wanted_none rfl) (by simp [e37, e38]) (Try.call19 _ _) ?_
          exact val_call_rb (same_at HCb.out HDb.out (HC.out.rb hR) (HD.out.rb hR))
        refine Owed.cons ?_ ?_
        · -- 3: slot 40 := Op.move (Operand.tmp 39)
          intro a w hR F
          have e39 : a.eval (.tmp 39) = .bool true := F.new 2 39 (by kernel_rfl)
          exact ok_move _ rfl (wanted_none rfl) ⟨Rb.refl _, e39⟩
        refine Owed.cons ?_ ?_
        · -- 4: slot 41 := Op.move (Operand.tmp 7)
          intro a w hR F
          have e40 : a.eval (.tmp 40) = .bool true := F.new 3 40 (by kernel_rfl)
          have e7 : a.eval (.tmp 7) = .pointer (some ⟨w0.heap.size, 0, none⟩) := F.old 7 (by kernel_rfl)
          exact ok_move _ rfl (wanted_true (j := 3) (d := 40) rfl (by kernel_rfl) e40) ⟨Rb.refl _, e7⟩
        refine Owed.cons ?_ ?_
        · -- 5: slot 42 := Op.load 27 (Operand.tmp 8)
          intro a w hR F
          have e40 : a.eval (.tmp 40) = .bool true := F.new 3 40 (by kernel_rfl)
          have e8 : a.eval (.tmp 8) = .pointer (some ⟨w2.heap.size, 0, none⟩) := F.old 8 (by kernel_rfl)
          exact ok_load _ _ rfl (wanted_true (j := 3) (d := 40) rfl (by kernel_rfl) e40) e8 (load_ref (HXc.out.rb hR)) ⟨Rb.refl _, rfl⟩
        refine Owed.cons ?_ ?_
        · -- 6: slot 43 := Op.move (Operand.tmp 1)
          intro a w hR F
          have e40 : a.eval (.tmp 40) = .bool true := F.new 3 40 (by kernel_rfl)
          have e1 : a.eval (.tmp 1) = .int .i64 (keep) := F.old 1 (by kernel_rfl)
          exact ok_move _ rfl (wanted_true (j := 3) (d := 40) rfl (by kernel_rfl) e40) ⟨Rb.refl _, e1⟩
        refine Owed.cons ?_ ?_
        · -- 7: slot 44 := Op.call { callee := Callee.value (Operand.func 25), args := #[Operand.tmp 42, Operand.tmp 43], argTy
          intro a w hR F
          have e40 : a.eval (.tmp 40) = .bool true := F.new 3 40 (by kernel_rfl)
          have e42 : a.eval (.tmp 42) = refv D r := F.new 5 42 (by kernel_rfl)
          have e43 : a.eval (.tmp 43) = .int .i64 (keep) := F.new 6 43 (by kernel_rfl)
          refine ok_call 25 _ _ #[refv D r, .int .i64 (keep)] rfl (wanted_true (j := 3) (d := 40) rfl (by kernel_rfl) e40) (by simp [e42, e43]) (Try.call25 _ _) ?_
          exact ref_call (rcrash_any D r keep w (HRc.out.rb hR) OK.out)
        refine Owed.cons ?_ ?_
        · -- 8: slot 45 := Op.call { callee := Callee.value (Operand.func 10), args := #[Operand.tmp 41, Operand.tmp 44], argTy
          intro a w hR F
          have e40 : a.eval (.tmp 40) = .bool true := F.new 3 40 (by kernel_rfl)
          have e41 : a.eval (.tmp 41) = .pointer (some ⟨w0.heap.size, 0, none⟩) := F.new 4 41 (by kernel_rfl)
          have e44 := F.new 7 44 (by kernel_rfl)
          refine ok_call 10 _ _ #[.pointer (some ⟨w0.heap.size, 0, none⟩), a.eval (.tmp 44)] rfl (wanted_true (j := 3) (d := 40) rfl (by kernel_rfl) e40) (by simp [e41]) (Try.call10 _ _) ?_
          exact val_call_rb (alike_spec HDb.out (HD.out.rb hR) e44)
        refine Owed.cons ?_ ?_
        · -- 9: slot 46 := Op.pick (Operand.tmp 40) (Operand.tmp 45) (Operand.const (Value.bool false))
          intro a w hR F
          have e40 : a.eval (.tmp 40) = .bool true := F.new 3 40 (by kernel_rfl)
          have e45 : a.eval (.tmp 45) = .bool true := F.new 8 45 (by kernel_rfl)
          exact ok_pick _ _ _ true rfl (wanted_none rfl) e40 ⟨Rb.refl _, e45⟩
        refine Owed.cons ?_ ?_
        · -- 10: slot 47 := Op.move (Operand.tmp 46)
          intro a w hR F
          have e46 : a.eval (.tmp 46) = .bool true := F.new 9 46 (by kernel_rfl)
          exact ok_move _ rfl (wanted_none rfl) ⟨Rb.refl _, e46⟩
        refine Owed.cons ?_ ?_
        · -- 11: slot 48 := Op.call { callee := Callee.value (Operand.func 13), args := #[], argTypes := #[] }
          intro a w hR F
          have e47 : a.eval (.tmp 47) = .bool true := F.new 10 47 (by kernel_rfl)
          refine ok_call 13 _ _ #[] rfl (wanted_true (j := 10) (d := 47) rfl (by kernel_rfl) e47) (by simp) (Try.call13 _ _) ?_
          exact val_call_rb (lives_any w)
        refine Owed.cons ?_ ?_
        · -- 12: slot 49 := Op.pick (Operand.tmp 47) (Operand.tmp 48) (Operand.const (Value.bool false))
          intro a w hR F
          have e47 : a.eval (.tmp 47) = .bool true := F.new 10 47 (by kernel_rfl)
          have e48 : a.eval (.tmp 48) = .bool true := F.new 11 48 (by kernel_rfl)
          exact ok_pick _ _ _ true rfl (wanted_none rfl) e47 ⟨Rb.refl _, e48⟩
        refine Owed.cons ?_ ?_
        · -- 13: slot 6 := Op.assign (Operand.tmp 49)
          intro a w hR F
          have e49 : a.eval (.tmp 49) = .bool true := F.new 12 49 (by kernel_rfl)
          exact ok_assign _ rfl (wanted_none rfl) ⟨Rb.refl _, e49⟩
        exact Owed.nil
      case fin =>
        intro y w2 hR hy
        have e13 : y 13 = .bool true := hy 13 _ rfl
        have HR := Lib.hid hR
        clear hy hR
        simp only [putAll, Act.put, List.setIfInBounds_toArray, List.set_cons_zero, List.set_cons_succ]
        rw [e13]
        clear e13
        go_wp2
        go_ret
        exact ⟨rfl, HB.out.trans (Below.mono HR.out HSZ.out)⟩
end Go.Proofs.Ytbillojamaiagaa
