/-
  Layer 3: the walk of DiskSure.
-/
import Derived.Test.YtbillojamaiagaaK21
namespace Go.Proofs.Ytbillojamaiagaa
open Go.ChangeShapes Go.WideShapes Go.ChangeAt Go.RowKit By Reg
set_option linter.unusedVariables false

theorem LpM.turned {ws w w' : World} {S : Nat → Prop} {b X : Nat} {D D' E : Dk} {m m' : Mem} {r : Rm} (h : LpM ws S b X D E w m r) (hX : X < w.heap.size) (hk : HeldK w' m' D') (hn : New w m m') (hp : Kp m w w') (hh : ∀ k, m'.has k → m.has k ∨ w.heap.size ≤ k) : LpM ws S b X D' E w' m' r := by
  have hrl : ∀ k, r.has k → k < w.heap.size := fun k hk => hk.elim (h.both.rr.n.lt k) (h.both.rr.s.lt k)
  refine h.step hX ⟨hk, h.both.rr.kp hp h.both.off, h.both.rr.off hn h.both.off, h.both.oke⟩ hn hp fun k hk => ?_
  rcases hk with hk | hk
  · rcases hh k hk with h | h
    · exact .inl (.inl h)
    · exact .inr h
  · exact .inl (.inr hk)
theorem lpm_again {ws w w' : World} {S : Nat → Prop} {b X B n : Nat} {D E : Dk} {m : Mem} {r : Rm} {cv : Value} {xs : List Value} (h : LpM ws S b X D E w m r) (hX : X < w.heap.size) (hS : ∀ k, k < B → S k) (hb : Rb w w') (ho : w'.ownsRow w.heap.size 34 3 cv n xs) : LpM w' (Sx B cv) b X D E w' m r := by
  have h' := h.rb hb
  refine ⟨h'.hb, h'.both, h'.sx, Nat.le_refl _, rfl, rfl, rfl, fun k hk => ?_⟩
  rcases hk with hk | hk
  · obtain ⟨h1, h2, h3, _⟩ := h.s k (hS k hk)
    exact ⟨Nat.lt_of_lt_of_le h1 (Nat.le_trans h.size hb.size), h2, h3, rfl⟩
  · have hc := ho.lt k hk
    exact ⟨hc.2, fun e => by have := h.both.kk.lt k (.inl e); omega, by omega, rfl⟩
theorem stepD_sure {D : Dk} {k : Nat} {n : Int} {xs p : List UInt8} (h : p <+: D.sure) (hk : ¬ k % 7 = 6) : p <+: (stepD D k n xs).sure := by
  unfold stepD
  split
  · exact h.trans (List.prefix_append _ _)
  split
  · exact h.trans (List.prefix_append _ _)
  split
  · split
    · exact h
    split <;> exact h

  split <;> exact h
theorem ok_sliceS {ops : Array Oper} {o : Oper} {a : Act} {w : World} {T : World → Value → Prop} (x hi : Operand) {X : List UInt8} {h : Nat} (ho : o.op = .slice 9 x none (some hi) none) (hw : Region.wanted o (yielded ops a.tmps) = true) (hx : a.eval x = strV X) (hh : a.eval hi = .int .i64 (h : Int)) (hc : h ≤ X.length) (hT : T w (strV (X.take h))) : okAt Try.prog ops o a w T := by
  have p1 : (h : Int) ≤ ((str X).size : Int) := by rw [str_size]; omega
  have p2 : (0 : Int) ≤ (h : Int) := by omega
  refine ok_value (w' := w) (v := strV (X.take h)) hw ?_ hT
  have hx' : a.eval x = .string (str X) := hx
  simp only [execOp, ho, hx', hh, Option.map_none, Option.map_some]
  simp [go_sem, p1, p2, Result.andThen, extract_str, strV]

set_option maxRecDepth 100000 in
set_option maxHeartbeats 2000000 in
theorem sure_walk (ao : Option Addr) (n cap : Nat) (l : List OX) (ao2 : Option Addr) (n2 cap2 : Nat) (l2 : List OX) (keep : Int) (w0 : World) (h : OpsIn w0 ao n l) (hn : n ≤ 9223372036854775807) (h2 : OpsIn w0 ao2 n2 l2) (hn2 : n2 ≤ 9223372036854775807) :
    Calls Try.prog 4 #[.slice ao n cap, .slice ao2 n2 cap2, .int .i64 keep] w0 fun e w' => e = .returned (.bool true) ∧ Below w0.heap.size w0 w' := by
  have HO := Lib.hid h
  have HO2 := Lib.hid h2
  clear h h2
  go_enter Try.func4, Try.ntmps4
  go_wp2_with fail
  refine (new_any 4096 w0).mono ?_
  rintro e w1 ⟨rfl, hk1, hr1⟩
  replace hk1 : HeldK w1 (mem0 w0.heap.size) (Dk.new 4096) := hk1
  have HK1 := Lib.hid hk1
  have HR1 := Lib.hid hr1
  clear hk1 hr1
  go_wp2_with fail
  refine (rnew_any 4096 w1).mono ?_
  rintro e w2 ⟨r, rfl, hr2, hb2, hh2⟩
  replace hr2 : HeldR w2 r (Dk.new 4096) := hr2
  have HQ2 := Lib.hid hr2
  have HR2 := Lib.hid hb2
  have HH2 := Lib.hid hh2
  have H5 := Lib.hid (five_one (n := (4096 : Nat)) (a := str []) (b := str []) hr2.n.one.2 hr2.s.one.2)
  clear hr2 hb2 hh2
  go_wp2_with (refine wpList_store rfl 27 _ _ rfl w2.heap.size 0 _ _ [_, _, _, _, _] _ rfl rfl (Blk.new w2 27 zero5) rfl sizeref (by simp) H5.out ?_)
  intro w3 hb3 hw3
  have HB3 := Lib.hid (show Blk w3 w2.heap.size 27 (refcs (Dk.new 4096) r) from hb3)
  have HR3 := Lib.hid (show Rb w2 w3 from Wrote.below ((Below.refl _ _).alloc (Nat.le_refl _) _) hw3 (Nat.le_refl _))
  clear hb3 hw3
  go_wp2_with fail
  refine (cut_any ao n cap l _ (HO.out.below (Rb.trans _ _ _ HR1.out (Rb.trans _ _ _ HR2.out HR3.out))) hn).mono ?_
  rintro e w4 ⟨cv, rfl, ho4, hb4⟩
  obtain ⟨co, ccap, rfl⟩ := row_form ho4
  obtain ⟨C, hC⟩ : ∃ C, C = cutL l := ⟨_, rfl⟩
  rw [← hC] at ho4 ⊢
  have hbs := cutL_bs HO.out.bs
  rw [← hC] at hbs
  have HBS := Lib.hid hbs
  obtain ⟨N, hN⟩ : ∃ N, N = C.length := ⟨_, rfl⟩
  rw [← hN] at ho4 ⊢
  have hN40 : N ≤ 40 := by rw [hN, hC, cutL_len]; omega
  have HN := Lib.hid hN
  have HL := Lib.hid (lp_start HK1.out HR1.out HQ2.out HR2.out HH2.out HB3.out HR3.out ho4 hb4)
  have HO4 := Lib.hid ho4
  have HW4 := Lib.hid (Rb.trans _ _ _ HR1.out (Rb.trans _ _ _ HR2.out (Rb.trans _ _ _ HR3.out hb4)))
  have hb0 : w0.heap.size < w4.heap.size := Nat.lt_of_lt_of_le HK1.out.blk.lt (Nat.le_trans HR2.out.size (Nat.le_trans (HR3.out).size hb4.size))
  clear ho4 hb4 hbs hN hC HK1 HR1 HQ2 HR2 HH2 HB3 HR3 H5 hb0
  go_wp2_with fail
  go_loopw [21] (fun i wr => ∃ k : Nat, k ≤ N ∧ i = .int .i64 k ∧ Lp w4 (Sx w0.heap.size (.slice co N ccap)) w0.heap.size w2.heap.size (runD (Dk.new 4096) (C.take k)) (runD (Dk.new 4096) (C.take k)) wr) (fun i _ => N - (intOf i).toNat)
  case atStart => exact ⟨0, Nat.zero_le _, rfl, HL.out⟩
  case round =>
    obtain ⟨k, hk, rfl, hlp⟩ := hrel
    by_cases hlt : k < N
    · obtain ⟨m, r, hm, hX⟩ := hlp
      obtain ⟨q, hq⟩ : ∃ q, C[k]? = some q := ⟨_, List.getElem?_eq_getElem (by rw [← HN.out]; exact hlt)⟩
      obtain ⟨⟨⟨g, rfl, y0, y1, y2⟩, hqb, hql⟩, hqo⟩ := round_reads hm HW4.out HO4.out HBS.out hq
      have HS := Lib.hid (show runD (Dk.new 4096) (C.take (k + 1)) = stepD (runD (Dk.new 4096) (C.take k)) q.1.k q.1.n q.2 by
        have hkc : k < C.length := by rw [← HN.out]; exact hlt
        have e : C[k] = q := by rw [List.getElem?_eq_getElem hkc] at hq; exact Option.some.inj hq
        rw [runD_succ _ hkc, e])
      have HQ := Lib.hid hqb
      have HQL := Lib.hid hql
      have HQO := Lib.hid hqo
      have HM := Lib.hid hm
      have HX := Lib.hid hX
      obtain ⟨q1, q2⟩ := q
      obtain ⟨qk, qn, qv⟩ := q1
      have hq1 : qv.oneCell' = true := (bs_one hqb).1
      have HQ1 := Lib.hid hq1
      clear hm hX hqb hql hqo hq hq1
      generalize runD (Dk.new 4096) (C.take k) = D at *
      go_wp2_with (refine wpList_store rfl 34 _ _ rfl wr.heap.size 0 _ _ [_, _, _] _ rfl rfl (Blk.new wr 34 [_, _, _]) rfl sizeop (by simp) (op_one (p := ⟨qk, qn, qv⟩) HQ1.out) ?_)
      intro w5 hb5 hw5
      have hr5 : Rb wr w5 := Wrote.below ((Below.refl _ _).alloc (Nat.le_refl _) _) hw5 (Nat.le_refl _)
      obtain ⟨o0, o1, o2⟩ := Blk.cells3 (show Blk w5 wr.heap.size 34 (opcs ⟨qk, qn, qv⟩) from hb5)
      obtain ⟨x0, x1, x2, x3, x4⟩ := Blk.cells5 (HX.out.rb hr5)
      have HX5 := Lib.hid (HX.out.rb hr5)
      have HM5 := Lib.hid (HM.out.rb hr5)
      have HQ5 := Lib.hid (HQ.out.below hr5)
      clear hb5 hw5 hr5 y0 y1 y2
      go_wp2_with fail
      refine (do_at (r := r) (o := ⟨qk, qn, qv⟩) (xs := q2) HM5.out.hb HM5.out.both HQ5.out HQO.out HQL.out).mono ?_
      rintro e w6 ⟨m', r', rfl, hB, hn6, hk6, hs6⟩
      have HX6 := Lib.hid (blk_step HM5.out HX5.out hk6)
      have HM6 := Lib.hid (HM5.out.step HX5.out.lt hB hn6 hk6 hs6)
      have H6 := Lib.hid (five_one (n := D.room) (a := str (stepD D qk qn q2).sure) (b := str (stepD D qk qn q2).rest) hB.rr.n.one.2 hB.rr.s.one.2)
      clear hB hn6 hk6 hs6 o0 o1 o2 x0 x1 x2 x3 x4
      go_wp2_with (refine wpList_store rfl 27 _ _ rfl w2.heap.size 0 _ _ [_, _, _, _, _] _ rfl rfl HX6.out rfl sizeref (by simp) (five_one HM6.out.both.rr.n.one.2 HM6.out.both.rr.s.one.2) ?_)
      intro w7 hb7 hw7
      have HL7 := Lib.hid (HM6.out.stored hw7 hb7)
      clear hb7 hw7
      go_wp2
      go_roundw
      case rel => exact ⟨k + 1, by omega, by go_num, by rw [HS.out]; exact HL7.out⟩
      case measure => simp [intOf]; omega
    · obtain ⟨m, r, hm, hX⟩ := hlp
      have HM := Lib.hid hm
      have HX := Lib.hid hX
      clear hm hX
      generalize runD (Dk.new 4096) (C.take k) = D at *
      go_wp2_with fail
      refine (sync_at HM.out.hb HM.out.both.kk).mono ?_
      rintro e wa ⟨rfl, m1, hk1, hn1, hp1, hh1⟩
      have HMa := Lib.hid (HM.out.turned HX.out.lt hk1 hn1 hp1 hh1)
      have HXa := Lib.hid (blk_step HM.out HX.out hp1)
      clear hk1 hn1 hp1 hh1
      obtain ⟨was, hwas⟩ : ∃ was, was = D.sync.log := ⟨_, rfl⟩
      have hp0 : was <+: D.sync.sure := by rw [hwas, sync_log]; exact List.prefix_refl _
      go_wp2_with fail
      have CL := log_at HMa.out.hb HMa.out.both.kk
      rw [← hwas] at CL
      refine CL.mono ?_
      rintro e wb ⟨g, cap', rfl, h2, h3⟩
      have hcv : (convert 32 9 (.slice (some ⟨g, 0, none⟩) was.length cap')).run Try.prog wb = .ok (.string (str was)) wb := run_convert_Bs (Bs.of_owns (xs := was) h2) 32 5 9 Try.underlying32 Try.underlying5 Try.underlying9
      have HMb := Lib.hid (HMa.out.rb h3)
      have HXb := Lib.hid (HXa.out.rb h3)
      have hW := HMb.out.below (B := w0.heap.size) fun k hk => .inl hk
      have HWb := Lib.hid (Below.trans HW4.out hW)
      have HP0 := Lib.hid hp0
      clear h2 h3 hW CL hwas hp0
      go_wp2_with fail
      clear hcv
      refine (cut_any ao2 n2 cap2 l2 _ (HO2.out.below HWb.out) hn2).mono ?_
      rintro e wd ⟨cv2, rfl, hod, hbd⟩
      obtain ⟨co2, ccap2, rfl⟩ := row_form hod
      obtain ⟨C2, hC2⟩ : ∃ C, C = cutL l2 := ⟨_, rfl⟩
      rw [← hC2] at hod ⊢
      have hbs2 := cutL_bs HO2.out.bs
      rw [← hC2] at hbs2
      have HBS2 := Lib.hid hbs2
      obtain ⟨N2, hN2⟩ : ∃ N, N = C2.length := ⟨_, rfl⟩
      rw [← hN2] at hod ⊢
      have hN240 : N2 ≤ 40 := by rw [hN2, hC2, cutL_len]; omega
      have HN2 := Lib.hid hN2
      have HL2 := Lib.hid (show Lp wd (Sx w0.heap.size (.slice co2 N2 ccap2)) w0.heap.size w2.heap.size D.sync D wd from ⟨m1, r, lpm_again HMb.out HXb.out.lt (fun k hk => .inl hk) hbd hod, HXb.out.rb hbd⟩)
      have HOd := Lib.hid hod
      have HWd := Lib.hid (show Below w0.heap.size w0 wd from HWb.out.trans (Below.mono hbd (by have := HMb.out.size; have := HW4.out.size; omega)))
      clear hod hbd hbs2 hN2 hC2
      go_wp2_with fail
      go_loopw [41] (fun i wr => ∃ (k : Nat) (D' E' : Dk), k ≤ N2 ∧ i = .int .i64 k ∧ was <+: D'.sure ∧ Lp wd (Sx w0.heap.size (.slice co2 N2 ccap2)) w0.heap.size w2.heap.size D' E' wr) (fun i _ => N2 - (intOf i).toNat)
      case atStart => exact ⟨0, D.sync, D, Nat.zero_le _, rfl, HP0.out, HL2.out⟩
      case round =>
        obtain ⟨k, D1, E1, hk, rfl, hpf, hlp⟩ := hrel
        have HPF := Lib.hid hpf
        clear hpf
        by_cases hlt : k < N2
        · obtain ⟨m, r, hm, hX⟩ := hlp
          obtain ⟨q, hq⟩ : ∃ q, C2[k]? = some q := ⟨_, List.getElem?_eq_getElem (by rw [← HN2.out]; exact hlt)⟩
          obtain ⟨⟨⟨g, rfl, y0, y1, y2⟩, hqb, hql⟩, hqo⟩ := round_reads hm HWd.out HOd.out HBS2.out hq
          have HQ := Lib.hid hqb
          have HQL := Lib.hid hql
          have HQO := Lib.hid hqo
          have HM := Lib.hid hm
          have HX := Lib.hid hX
          obtain ⟨q1, q2⟩ := q
          obtain ⟨qk, qn, qv⟩ := q1
          have HQ1 := Lib.hid (bs_one hqb).1
          clear hm hX hqb hql hqo hq
          by_cases h6 : qk % 7 = 6
          · have e6 : ((qk : Int) % 7) = 6 := by omega
            have b6 : ((qk : Int) % 7 == 6) = true := by rw [e6]; rfl
            have b7 : ((qk : Int) % 7 != 6) = false := by rw [e6]; rfl
            clear h6
            go_wp2_with (refine wpList_store rfl 34 _ _ rfl wr.heap.size 0 _ _ [_, _, _] _ rfl rfl (Blk.new wr 34 [_, _, _]) rfl sizeop (by simp) (op_one (p := ⟨qk, qn, qv⟩) HQ1.out) ?_)
            intro w5 hb5 hw5
            have hr5 : Rb wr w5 := Wrote.below ((Below.refl _ _).alloc (Nat.le_refl _) _) hw5 (Nat.le_refl _)
            obtain ⟨o0, o1, o2⟩ := Blk.cells3 (show Blk w5 wr.heap.size 34 (opcs ⟨qk, qn, qv⟩) from hb5)
            have HL5 := Lib.hid (show Lp wd (Sx w0.heap.size (.slice (some ⟨g, 0, none⟩) N2 ccap2)) w0.heap.size w2.heap.size D1 E1 w5 from ⟨m, r, HM.out.rb hr5, HX.out.rb hr5⟩)
            clear hb5 hw5 hr5 y0 y1 y2
            go_wp2
            go_roundw
            case rel => exact ⟨k + 1, D1, E1, by omega, by go_num, HPF.out, HL5.out⟩
            case measure => simp [intOf]; omega
          · have e6 : ¬ ((qk : Int) % 7) = 6 := by omega
            have b6 : ((qk : Int) % 7 == 6) = false := by simp; omega
            have b7 : ((qk : Int) % 7 != 6) = true := by simp; omega
            have HPG := Lib.hid (stepD_sure (n := qn) (xs := q2) HPF.out h6)
            clear h6
            go_wp2_with (refine wpList_store rfl 34 _ _ rfl wr.heap.size 0 _ _ [_, _, _] _ rfl rfl (Blk.new wr 34 [_, _, _]) rfl sizeop (by simp) (op_one (p := ⟨qk, qn, qv⟩) HQ1.out) ?_)
            intro w5 hb5 hw5
            have hr5 : Rb wr w5 := Wrote.below ((Below.refl _ _).alloc (Nat.le_refl _) _) hw5 (Nat.le_refl _)
            obtain ⟨o0, o1, o2⟩ := Blk.cells3 (show Blk w5 wr.heap.size 34 (opcs ⟨qk, qn, qv⟩) from hb5)
            obtain ⟨x0, x1, x2, x3, x4⟩ := Blk.cells5 (HX.out.rb hr5)
            have HX5 := Lib.hid (HX.out.rb hr5)
            have HM5 := Lib.hid (HM.out.rb hr5)
            have HQ5 := Lib.hid (HQ.out.below hr5)
            clear hb5 hw5 hr5 y0 y1 y2
            go_wp2_with fail
            refine (do2_at (r := r) (o := ⟨qk, qn, qv⟩) (xs := q2) HM5.out.hb HM5.out.both HQ5.out HQO.out HQL.out).mono ?_
            rintro e w6 ⟨m', r', rfl, hB, hn6, hk6, hs6⟩
            generalize (errD D1 _ _ _ == errD E1 _ _ _) = tt at *
            have HX6 := Lib.hid (blk_step HM5.out HX5.out hk6)
            have HM6 := Lib.hid (HM5.out.step HX5.out.lt hB hn6 hk6 hs6)
            clear hB hn6 hk6 hs6 o0 o1 o2 x0 x1 x2 x3 x4 b6 b7 e6
            go_wp2_with (refine wpList_store rfl 27 _ _ rfl w2.heap.size 0 _ _ [_, _, _, _, _] _ rfl rfl HX6.out rfl sizeref (by simp) (five_one HM6.out.both.rr.n.one.2 HM6.out.both.rr.s.one.2) ?_)
            intro w7 hb7 hw7
            have HL7 := Lib.hid (HM6.out.stored hw7 hb7)
            clear hb7 hw7
            go_wp2
            go_roundw
            case rel => exact ⟨k + 1, _, _, by omega, by go_num, HPG.out, HL7.out⟩
            case measure => simp [intOf]; omega
        · obtain ⟨m, r, hm, hX⟩ := hlp
          have HM := Lib.hid hm
          clear hm hX
          obtain ⟨all, hall⟩ : ∃ all, all = D1.log := ⟨_, rfl⟩
          obtain ⟨D3, hD3⟩ : ∃ D3, D3 = D1.crash keep.toNat := ⟨_, rfl⟩
          obtain ⟨now, hnow⟩ : ∃ now, now = D3.log := ⟨_, rfl⟩
          have hnow' : now = D1.sure ++ D1.rest.take keep.toNat := by rw [hnow, hD3]; simp [Dk.crash, Dk.log]
          have hpn : was <+: now := by rw [hnow']; exact HPF.out.trans (List.prefix_append _ _)
          have hpa : now <+: all := by
            rw [hnow', hall, show D1.log = D1.sure ++ D1.rest from rfl]
            exact (List.prefix_append_right_inj _).2 (List.take_prefix _ _)
          have H1 := Lib.hid hpn.length_le
          have H2 := Lib.hid (List.prefix_iff_eq_take.1 hpn).symm
          have H3 := Lib.hid hpa.length_le
          have H4 := Lib.hid (List.prefix_iff_eq_take.1 hpa).symm
          have Q5 := Lib.hid (show D3.sure.length = now.length by rw [hnow, hD3]; simp [Dk.crash, Dk.log])
          have HALL := Lib.hid hall
          have HD3 := Lib.hid hD3
          have HNOW := Lib.hid hnow
          clear hpn hpa hnow hnow' hall hD3
          go_wp2_with fail
          have CL := log_at HM.out.hb HM.out.both.kk
          rw [← HALL.out] at CL
          refine CL.mono ?_
          rintro e wb2 ⟨g, cap', rfl, h2, h3⟩
          have hcv : (convert 32 9 (.slice (some ⟨g, 0, none⟩) all.length cap')).run Try.prog wb2 = .ok (.string (str all)) wb2 := run_convert_Bs (Bs.of_owns (xs := all) h2) 32 5 9 Try.underlying32 Try.underlying5 Try.underlying9
          have HMb2 := Lib.hid (HM.out.rb h3)
          clear h2 h3 CL
          go_wp2_with fail
          clear hcv
          have hAb : ∀ k, m.touch k → w0.heap.size ≤ k := fun k hk => by
            rcases Nat.lt_or_ge k w0.heap.size with h' | h'
            · exact absurd hk (HMb2.out.s k (.inl h')).2.1
            · exact h'
          have hWb2 : Below w0.heap.size w0 wb2 := HWd.out.trans (HMb2.out.below (B := w0.heap.size) fun k hk => .inl hk)
          have HSb2 := Lib.hid (show w0.heap.size ≤ wb2.heap.size from hWb2.size)
          have CR := crash_at keep HMb2.out.hb HMb2.out.both.kk
          rw [← HD3.out] at CR
          have HAB := Lib.hid hAb
          have HWB2 := Lib.hid hWb2
          clear hAb hWb2
          refine CR.mono ?_
          rintro e wc ⟨rfl, m1, hk1, hn1, hp1, hh1⟩
          have HD := Lib.hid hk1
          have HDb := Lib.hid (hn1.1.trans HMb2.out.hb)
          have HB := Lib.hid (HWB2.out.trans (hp1.below HSb2.out HAB.out))
          have HSZ := Lib.hid (Nat.le_trans HSb2.out hp1.size)
          clear hk1 hn1 hp1 hh1 CR
          go_wp2_with fail
          have CL := log_at HDb.out HD.out
          rw [← HNOW.out] at CL
          refine CL.mono ?_
          rintro e we ⟨g, cap', rfl, h2, h3⟩
          have hcv : (convert 32 9 (.slice (some ⟨g, 0, none⟩) now.length cap')).run Try.prog we = .ok (.string (str now)) we := run_convert_Bs (Bs.of_owns (xs := now) h2) 32 5 9 Try.underlying32 Try.underlying5 Try.underlying9
          have HD := Lib.hid (HD.out.rb h3)
          have HB := Lib.hid (HB.out.trans (Below.mono h3 HSZ.out))
          have HSZ := Lib.hid (Nat.le_trans HSZ.out h3.size)
          clear h2 h3 CL
          go_upto_region 19 with (fail)
          refine wp_region_plain_specs (R := Rb) (S := [Spec.eq (strV (now)), Spec.eq (.int .i64 (((str (now)).size : Int))), Spec.eq (strV (was)), Spec.eq (.int .i64 (((str (was)).size : Int))), Spec.eq (.bool true), Spec.eq (.bool true), Spec.eq (strV (now)), Spec.eq (strV (was)), Spec.eq (.int .i64 (((str (was)).size : Int))), Spec.eq (strV (was)), Spec.eq (strV (was)), Spec.eq (.bool true), Spec.eq (.bool true), Spec.eq (.bool true), Spec.eq (strV (all)), Spec.eq (.int .i64 (((str (all)).size : Int))), Spec.eq (strV (now)), Spec.eq (.int .i64 (((str (now)).size : Int))), Spec.eq (.bool true), Spec.eq (.bool true), Spec.eq (.bool true), Spec.eq (strV (all)), Spec.eq (strV (now)), Spec.eq (.int .i64 (((str (now)).size : Int))), Spec.eq (strV (now)), Spec.eq (strV (now)), Spec.eq (.bool true), Spec.eq (.bool true), Spec.eq (.bool true), Spec.eq (.pointer (some ⟨w0.heap.size, 0, none⟩)), Spec.eq (.int .i64 ((D3.sure.length : Int))), Spec.eq (strV (now)), Spec.eq (.int .i64 (((str (now)).size : Int))), Spec.eq (.bool true), Spec.eq (.bool true), Spec.eq (.bool true), Spec.eq (.bool true), Spec.eq (.bool true), Spec.eq (.bool true)]) (n := 1) (size := 104) Rb.trans (Rb.refl _) rfl (by kernel_rfl) ?owed ?fin
          case owed =>
            refine Owed.cons ?_ ?_
            · -- 0: slot 66 := Op.move (Operand.tmp 15)
              intro a w hR F
              have e15 : a.eval (.tmp 15) = strV (now) := F.old 15 (by kernel_rfl)
              exact ok_move _ rfl (wanted_none rfl) ⟨Rb.refl _, e15⟩
            refine Owed.cons ?_ ?_
            · -- 1: slot 67 := Op.call { callee := Callee.builtin Builtin.len, args := #[Operand.tmp 66], argTypes := #[9] }
              intro a w hR F
              have e66 : a.eval (.tmp 66) = strV (now) := F.new 0 66 (by kernel_rfl)
              exact ok_len_str _ _ (str (now)) Try.underlying9 rfl (wanted_none rfl) e66 ⟨Rb.refl _, rfl⟩
            refine Owed.cons ?_ ?_
            · -- 2: slot 68 := Op.move (Operand.tmp 11)
              intro a w hR F
              have e11 : a.eval (.tmp 11) = strV (was) := F.old 11 (by kernel_rfl)
              exact ok_move _ rfl (wanted_none rfl) ⟨Rb.refl _, e11⟩
            refine Owed.cons ?_ ?_
            · -- 3: slot 69 := Op.call { callee := Callee.builtin Builtin.len, args := #[Operand.tmp 68], argTypes := #[9] }
              intro a w hR F
              have e68 : a.eval (.tmp 68) = strV (was) := F.new 2 68 (by kernel_rfl)
              exact ok_len_str _ _ (str (was)) Try.underlying9 rfl (wanted_none rfl) e68 ⟨Rb.refl _, rfl⟩
            refine Owed.cons ?_ ?_
            · -- 4: slot 70 := Op.binOp BinOp.geq 3 (Operand.tmp 67) (Operand.tmp 69) 3
              intro a w hR F
              have e67 : a.eval (.tmp 67) = .int .i64 (((str (now)).size : Int)) := F.new 1 67 (by kernel_rfl)
              have e69 : a.eval (.tmp 69) = .int .i64 (((str (was)).size : Int)) := F.new 3 69 (by kernel_rfl)
              refine ok_bin _ _ _ _ _ rfl (wanted_none rfl) e67 e69 (run_geq_int _ _ _ _ _ _) ⟨Rb.refl _, ?_⟩
              exact congrArg Value.bool (by have := H1.out; simp [str_size]; omega)
            refine Owed.cons ?_ ?_
            · -- 5: slot 71 := Op.move (Operand.tmp 70)
              intro a w hR F
              have e70 : a.eval (.tmp 70) = .bool true := F.new 4 70 (by kernel_rfl)
              exact ok_move _ rfl (wanted_none rfl) ⟨Rb.refl _, e70⟩
            refine Owed.cons ?_ ?_
            · -- 6: slot 72 := Op.move (Operand.tmp 15)
              intro a w hR F
              have e71 : a.eval (.tmp 71) = .bool true := F.new 5 71 (by kernel_rfl)
              have e15 : a.eval (.tmp 15) = strV (now) := F.old 15 (by kernel_rfl)
              exact ok_move _ rfl (wanted_true (j := 5) (d := 71) rfl (by kernel_rfl) e71) ⟨Rb.refl _, e15⟩
            refine Owed.cons ?_ ?_
            · -- 7: slot 73 := Op.move (Operand.tmp 11)
              intro a w hR F
              have e71 : a.eval (.tmp 71) = .bool true := F.new 5 71 (by kernel_rfl)
              have e11 : a.eval (.tmp 11) = strV (was) := F.old 11 (by kernel_rfl)
              exact ok_move _ rfl (wanted_true (j := 5) (d := 71) rfl (by kernel_rfl) e71) ⟨Rb.refl _, e11⟩
            refine Owed.cons ?_ ?_
            · -- 8: slot 74 := Op.call { callee := Callee.builtin Builtin.len, args := #[Operand.tmp 73], argTypes := #[9] }
              intro a w hR F
              have e71 : a.eval (.tmp 71) = .bool true := F.new 5 71 (by kernel_rfl)
              have e73 : a.eval (.tmp 73) = strV (was) := F.new 7 73 (by kernel_rfl)
              exact ok_len_str _ _ (str (was)) Try.underlying9 rfl (wanted_true (j := 5) (d := 71) rfl (by kernel_rfl) e71) e73 ⟨Rb.refl _, rfl⟩
            refine Owed.cons ?_ ?_
            · -- 9: slot 75 := Op.slice 9 (Operand.tmp 72) none (some (Operand.tmp 74)) none
              intro a w hR F
              have e71 : a.eval (.tmp 71) = .bool true := F.new 5 71 (by kernel_rfl)
              have e72 : a.eval (.tmp 72) = strV (now) := F.new 6 72 (by kernel_rfl)
              have e74 : a.eval (.tmp 74) = .int .i64 (((str (was)).size : Int)) := F.new 8 74 (by kernel_rfl)
              refine ok_sliceS (X := now) (h := was.length) _ _ rfl (wanted_true (j := 5) (d := 71) rfl (by kernel_rfl) e71) e72 (by rw [e74, str_size]) (H1.out) ⟨Rb.refl _, ?_⟩
              rw [H2.out]; rfl
            refine Owed.cons ?_ ?_
            · -- 10: slot 76 := Op.move (Operand.tmp 11)
              intro a w hR F
              have e71 : a.eval (.tmp 71) = .bool true := F.new 5 71 (by kernel_rfl)
              have e11 : a.eval (.tmp 11) = strV (was) := F.old 11 (by kernel_rfl)
              exact ok_move _ rfl (wanted_true (j := 5) (d := 71) rfl (by kernel_rfl) e71) ⟨Rb.refl _, e11⟩
            refine Owed.cons ?_ ?_
            · -- 11: slot 77 := Op.binOp BinOp.eql 9 (Operand.tmp 75) (Operand.tmp 76) 9
              intro a w hR F
              have e71 : a.eval (.tmp 71) = .bool true := F.new 5 71 (by kernel_rfl)
              have e75 : a.eval (.tmp 75) = strV (was) := F.new 9 75 (by kernel_rfl)
              have e76 : a.eval (.tmp 76) = strV (was) := F.new 10 76 (by kernel_rfl)
              refine ok_bin _ _ _ _ _ rfl (wanted_true (j := 5) (d := 71) rfl (by kernel_rfl) e71) e75 e76 (run_eql_strV _ _ _ _ _) ⟨Rb.refl _, ?_⟩
              exact congrArg Value.bool (by simp)
            refine Owed.cons ?_ ?_
            · -- 12: slot 78 := Op.pick (Operand.tmp 71) (Operand.tmp 77) (Operand.const (Value.bool false))
              intro a w hR F
              have e71 : a.eval (.tmp 71) = .bool true := F.new 5 71 (by kernel_rfl)
              have e77 : a.eval (.tmp 77) = .bool true := F.new 11 77 (by kernel_rfl)
              exact ok_pick _ _ _ true rfl (wanted_none rfl) e71 ⟨Rb.refl _, e77⟩
            refine Owed.cons ?_ ?_
            · -- 13: slot 79 := Op.move (Operand.tmp 78)
              intro a w hR F
              have e78 : a.eval (.tmp 78) = .bool true := F.new 12 78 (by kernel_rfl)
              exact ok_move _ rfl (wanted_none rfl) ⟨Rb.refl _, e78⟩
            refine Owed.cons ?_ ?_
            · -- 14: slot 80 := Op.move (Operand.tmp 14)
              intro a w hR F
              have e79 : a.eval (.tmp 79) = .bool true := F.new 13 79 (by kernel_rfl)
              have e14 : a.eval (.tmp 14) = strV (all) := F.old 14 (by kernel_rfl)
              exact ok_move _ rfl (wanted_true (j := 13) (d := 79) rfl (by kernel_rfl) e79) ⟨Rb.refl _, e14⟩
            refine Owed.cons ?_ ?_
            · -- 15: slot 81 := Op.call { callee := Callee.builtin Builtin.len, args := #[Operand.tmp 80], argTypes := #[9] }
              intro a w hR F
              have e79 : a.eval (.tmp 79) = .bool true := F.new 13 79 (by kernel_rfl)
              have e80 : a.eval (.tmp 80) = strV (all) := F.new 14 80 (by kernel_rfl)
              exact ok_len_str _ _ (str (all)) Try.underlying9 rfl (wanted_true (j := 13) (d := 79) rfl (by kernel_rfl) e79) e80 ⟨Rb.refl _, rfl⟩
            refine Owed.cons ?_ ?_
            · -- 16: slot 82 := Op.move (Operand.tmp 15)
              intro a w hR F
              have e79 : a.eval (.tmp 79) = .bool true := F.new 13 79 (by kernel_rfl)
              have e15 : a.eval (.tmp 15) = strV (now) := F.old 15 (by kernel_rfl)
              exact ok_move _ rfl (wanted_true (j := 13) (d := 79) rfl (by kernel_rfl) e79) ⟨Rb.refl _, e15⟩
            refine Owed.cons ?_ ?_
            · -- 17: slot 83 := Op.call { callee := Callee.builtin Builtin.len, args := #[Operand.tmp 82], argTypes := #[9] }
              intro a w hR F
              have e79 : a.eval (.tmp 79) = .bool true := F.new 13 79 (by kernel_rfl)
              have e82 : a.eval (.tmp 82) = strV (now) := F.new 16 82 (by kernel_rfl)
              exact ok_len_str _ _ (str (now)) Try.underlying9 rfl (wanted_true (j := 13) (d := 79) rfl (by kernel_rfl) e79) e82 ⟨Rb.refl _, rfl⟩
            refine Owed.cons ?_ ?_
            · -- 18: slot 84 := Op.binOp BinOp.geq 3 (Operand.tmp 81) (Operand.tmp 83) 3
              intro a w hR F
              have e79 : a.eval (.tmp 79) = .bool true := F.new 13 79 (by kernel_rfl)
              have e81 : a.eval (.tmp 81) = .int .i64 (((str (all)).size : Int)) := F.new 15 81 (by kernel_rfl)
              have e83 : a.eval (.tmp 83) = .int .i64 (((str (now)).size : Int)) := F.new 17 83 (by kernel_rfl)
              refine ok_bin _ _ _ _ _ rfl (wanted_true (j := 13) (d := 79) rfl (by kernel_rfl) e79) e81 e83 (run_geq_int _ _ _ _ _ _) ⟨Rb.refl _, ?_⟩
              exact congrArg Value.bool (by have := H3.out; simp [str_size]; omega)
            refine Owed.cons ?_ ?_
            · -- 19: slot 85 := Op.pick (Operand.tmp 79) (Operand.tmp 84) (Operand.const (Value.bool false))
              intro a w hR F
              have e79 : a.eval (.tmp 79) = .bool true := F.new 13 79 (by kernel_rfl)
              have e84 : a.eval (.tmp 84) = .bool true := F.new 18 84 (by kernel_rfl)
              exact ok_pick _ _ _ true rfl (wanted_none rfl) e79 ⟨Rb.refl _, e84⟩
            refine Owed.cons ?_ ?_
            · -- 20: slot 86 := Op.move (Operand.tmp 85)
              intro a w hR F
              have e85 : a.eval (.tmp 85) = .bool true := F.new 19 85 (by kernel_rfl)
              exact ok_move _ rfl (wanted_none rfl) ⟨Rb.refl _, e85⟩
            refine Owed.cons ?_ ?_
            · -- 21: slot 87 := Op.move (Operand.tmp 14)
              intro a w hR F
              have e86 : a.eval (.tmp 86) = .bool true := F.new 20 86 (by kernel_rfl)
              have e14 : a.eval (.tmp 14) = strV (all) := F.old 14 (by kernel_rfl)
              exact ok_move _ rfl (wanted_true (j := 20) (d := 86) rfl (by kernel_rfl) e86) ⟨Rb.refl _, e14⟩
            refine Owed.cons ?_ ?_
            · -- 22: slot 88 := Op.move (Operand.tmp 15)
              intro a w hR F
              have e86 : a.eval (.tmp 86) = .bool true := F.new 20 86 (by kernel_rfl)
              have e15 : a.eval (.tmp 15) = strV (now) := F.old 15 (by kernel_rfl)
              exact ok_move _ rfl (wanted_true (j := 20) (d := 86) rfl (by kernel_rfl) e86) ⟨Rb.refl _, e15⟩
            refine Owed.cons ?_ ?_
            · -- 23: slot 89 := Op.call { callee := Callee.builtin Builtin.len, args := #[Operand.tmp 88], argTypes := #[9] }
              intro a w hR F
              have e86 : a.eval (.tmp 86) = .bool true := F.new 20 86 (by kernel_rfl)
              have e88 : a.eval (.tmp 88) = strV (now) := F.new 22 88 (by kernel_rfl)
              exact ok_len_str _ _ (str (now)) Try.underlying9 rfl (wanted_true (j := 20) (d := 86) rfl (by kernel_rfl) e86) e88 ⟨Rb.refl _, rfl⟩
            refine Owed.cons ?_ ?_
            · -- 24: slot 90 := Op.slice 9 (Operand.tmp 87) none (some (Operand.tmp 89)) none
              intro a w hR F
              have e86 : a.eval (.tmp 86) = .bool true := F.new 20 86 (by kernel_rfl)
              have e87 : a.eval (.tmp 87) = strV (all) := F.new 21 87 (by kernel_rfl)
              have e89 : a.eval (.tmp 89) = .int .i64 (((str (now)).size : Int)) := F.new 23 89 (by kernel_rfl)
              refine ok_sliceS (X := all) (h := now.length) _ _ rfl (wanted_true (j := 20) (d := 86) rfl (by kernel_rfl) e86) e87 (by rw [e89, str_size]) (H3.out) ⟨Rb.refl _, ?_⟩
              rw [H4.out]; rfl
            refine Owed.cons ?_ ?_
            · -- 25: slot 91 := Op.move (Operand.tmp 15)
              intro a w hR F
              have e86 : a.eval (.tmp 86) = .bool true := F.new 20 86 (by kernel_rfl)
              have e15 : a.eval (.tmp 15) = strV (now) := F.old 15 (by kernel_rfl)
              exact ok_move _ rfl (wanted_true (j := 20) (d := 86) rfl (by kernel_rfl) e86) ⟨Rb.refl _, e15⟩
            refine Owed.cons ?_ ?_
            · -- 26: slot 92 := Op.binOp BinOp.eql 9 (Operand.tmp 90) (Operand.tmp 91) 9
              intro a w hR F
              have e86 : a.eval (.tmp 86) = .bool true := F.new 20 86 (by kernel_rfl)
              have e90 : a.eval (.tmp 90) = strV (now) := F.new 24 90 (by kernel_rfl)
              have e91 : a.eval (.tmp 91) = strV (now) := F.new 25 91 (by kernel_rfl)
              refine ok_bin _ _ _ _ _ rfl (wanted_true (j := 20) (d := 86) rfl (by kernel_rfl) e86) e90 e91 (run_eql_strV _ _ _ _ _) ⟨Rb.refl _, ?_⟩
              exact congrArg Value.bool (by simp)
            refine Owed.cons ?_ ?_
            · -- 27: slot 93 := Op.pick (Operand.tmp 86) (Operand.tmp 92) (Operand.const (Value.bool false))
              intro a w hR F
              have e86 : a.eval (.tmp 86) = .bool true := F.new 20 86 (by kernel_rfl)
              have e92 : a.eval (.tmp 92) = .bool true := F.new 26 92 (by kernel_rfl)
              exact ok_pick _ _ _ true rfl (wanted_none rfl) e86 ⟨Rb.refl _, e92⟩
            refine Owed.cons ?_ ?_
            · -- 28: slot 94 := Op.move (Operand.tmp 93)
              intro a w hR F
              have e93 : a.eval (.tmp 93) = .bool true := F.new 27 93 (by kernel_rfl)
              exact ok_move _ rfl (wanted_none rfl) ⟨Rb.refl _, e93⟩
            refine Owed.cons ?_ ?_
            · -- 29: slot 95 := Op.move (Operand.tmp 7)
              intro a w hR F
              have e94 : a.eval (.tmp 94) = .bool true := F.new 28 94 (by kernel_rfl)
              have e7 : a.eval (.tmp 7) = .pointer (some ⟨w0.heap.size, 0, none⟩) := F.old 7 (by kernel_rfl)
              exact ok_move _ rfl (wanted_true (j := 28) (d := 94) rfl (by kernel_rfl) e94) ⟨Rb.refl _, e7⟩
            refine Owed.cons ?_ ?_
            · -- 30: slot 96 := Op.call { callee := Callee.value (Operand.func 17), args := #[Operand.tmp 95], argTypes := #[23] }
              intro a w hR F
              have e94 : a.eval (.tmp 94) = .bool true := F.new 28 94 (by kernel_rfl)
              have e95 : a.eval (.tmp 95) = .pointer (some ⟨w0.heap.size, 0, none⟩) := F.new 29 95 (by kernel_rfl)
              refine ok_call 17 _ _ #[.pointer (some ⟨w0.heap.size, 0, none⟩)] rfl (wanted_true (j := 28) (d := 94) rfl (by kernel_rfl) e94) (by simp [e95]) (Try.call17 _ _) ?_
              exact val_call (sure_at HDb.out (HD.out.rb hR))
            refine Owed.cons ?_ ?_
            · -- 31: slot 97 := Op.move (Operand.tmp 15)
              intro a w hR F
              have e94 : a.eval (.tmp 94) = .bool true := F.new 28 94 (by kernel_rfl)
              have e15 : a.eval (.tmp 15) = strV (now) := F.old 15 (by kernel_rfl)
              exact ok_move _ rfl (wanted_true (j := 28) (d := 94) rfl (by kernel_rfl) e94) ⟨Rb.refl _, e15⟩
            refine Owed.cons ?_ ?_
            · -- 32: slot 98 := Op.call { callee := Callee.builtin Builtin.len, args := #[Operand.tmp 97], argTypes := #[9] }
              intro a w hR F
              have e94 : a.eval (.tmp 94) = .bool true := F.new 28 94 (by kernel_rfl)
              have e97 : a.eval (.tmp 97) = strV (now) := F.new 31 97 (by kernel_rfl)
              exact ok_len_str _ _ (str (now)) Try.underlying9 rfl (wanted_true (j := 28) (d := 94) rfl (by kernel_rfl) e94) e97 ⟨Rb.refl _, rfl⟩
            refine Owed.cons ?_ ?_
            · -- 33: slot 99 := Op.binOp BinOp.eql 3 (Operand.tmp 96) (Operand.tmp 98) 3
              intro a w hR F
              have e94 : a.eval (.tmp 94) = .bool true := F.new 28 94 (by kernel_rfl)
              have e96 : a.eval (.tmp 96) = .int .i64 ((D3.sure.length : Int)) := F.new 30 96 (by kernel_rfl)
              have e98 : a.eval (.tmp 98) = .int .i64 (((str (now)).size : Int)) := F.new 32 98 (by kernel_rfl)
              refine ok_bin _ _ _ _ _ rfl (wanted_true (j := 28) (d := 94) rfl (by kernel_rfl) e94) e96 e98 (run_eql_int _ _ _ _ _ _) ⟨Rb.refl _, ?_⟩
              exact congrArg Value.bool (by have := Q5.out; simp [str_size, this])
            refine Owed.cons ?_ ?_
            · -- 34: slot 100 := Op.pick (Operand.tmp 94) (Operand.tmp 99) (Operand.const (Value.bool false))
              intro a w hR F
              have e94 : a.eval (.tmp 94) = .bool true := F.new 28 94 (by kernel_rfl)
              have e99 : a.eval (.tmp 99) = .bool true := F.new 33 99 (by kernel_rfl)
              exact ok_pick _ _ _ true rfl (wanted_none rfl) e94 ⟨Rb.refl _, e99⟩
            refine Owed.cons ?_ ?_
            · -- 35: slot 101 := Op.move (Operand.tmp 100)
              intro a w hR F
              have e100 : a.eval (.tmp 100) = .bool true := F.new 34 100 (by kernel_rfl)
              exact ok_move _ rfl (wanted_none rfl) ⟨Rb.refl _, e100⟩
            refine Owed.cons ?_ ?_
            · -- 36: slot 102 := Op.call { callee := Callee.value (Operand.func 13), args := #[], argTypes := #[] }
              intro a w hR F
              have e101 : a.eval (.tmp 101) = .bool true := F.new 35 101 (by kernel_rfl)
              refine ok_call 13 _ _ #[] rfl (wanted_true (j := 35) (d := 101) rfl (by kernel_rfl) e101) (by simp) (Try.call13 _ _) ?_
              exact val_call_rb (lives_any w)
            refine Owed.cons ?_ ?_
            · -- 37: slot 103 := Op.pick (Operand.tmp 101) (Operand.tmp 102) (Operand.const (Value.bool false))
              intro a w hR F
              have e101 : a.eval (.tmp 101) = .bool true := F.new 35 101 (by kernel_rfl)
              have e102 : a.eval (.tmp 102) = .bool true := F.new 36 102 (by kernel_rfl)
              exact ok_pick _ _ _ true rfl (wanted_none rfl) e101 ⟨Rb.refl _, e102⟩
            refine Owed.cons ?_ ?_
            · -- 38: slot 6 := Op.assign (Operand.tmp 103)
              intro a w hR F
              have e103 : a.eval (.tmp 103) = .bool true := F.new 37 103 (by kernel_rfl)
              exact ok_assign _ rfl (wanted_none rfl) ⟨Rb.refl _, e103⟩
            exact Owed.nil
          case fin =>
            intro y w2 hR hy
            have e38 : y 38 = .bool true := hy 38 _ rfl
            have HR := Lib.hid hR
            clear hy hR
            simp only [putAll, Act.put, List.setIfInBounds_toArray, List.set_cons_zero, List.set_cons_succ]
            rw [e38]
            clear e38
            go_wp2
            go_ret
            exact ⟨rfl, HB.out.trans (Below.mono HR.out HSZ.out)⟩
end Go.Proofs.Ytbillojamaiagaa
