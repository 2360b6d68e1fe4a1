/-
  Layer 3: the walk of DiskPlays.
-/
import Derived.Test.YtbillojamaiagaaK21
namespace Go.Proofs.Ytbillojamaiagaa
open Go.ChangeShapes Go.WideShapes Go.ChangeAt Go.RowKit By Reg
set_option linter.unusedVariables false

set_option maxRecDepth 100000 in
set_option maxHeartbeats 1000000 in
theorem plays_walk (room : Int) (ao : Option Addr) (n cap : Nat) (l : List OX) (w0 : World) (h : OpsIn w0 ao n l) (hn : n ≤ 9223372036854775807) :
    Calls Try.prog 3 #[.int .i64 room, .slice ao n cap] w0 fun e w' => e = .returned (.bool true) ∧ Below w0.heap.size w0 w' := by
  have HO := Lib.hid h
  clear h
  go_enter Try.func3, Try.ntmps3
  go_wp2_with fail
  refine (new_any room w0).mono ?_
  rintro e w1 ⟨rfl, hk1, hr1⟩
  have HK1 := Lib.hid hk1
  have HR1 := Lib.hid hr1
  clear hk1 hr1
  go_wp2_with fail
  refine (rnew_any room w1).mono ?_
  rintro e w2 ⟨r, rfl, hr2, hb2, hh2⟩
  have HQ2 := Lib.hid hr2
  have HR2 := Lib.hid hb2
  have HH2 := Lib.hid hh2
  have H5 := Lib.hid (five_one (n := ((clampN room) : Nat)) (a := str []) (b := str []) hr2.n.one.2 hr2.s.one.2)
  clear hr2 hb2 hh2
  go_wp2_with (refine wpList_store rfl 27 _ _ rfl w2.heap.size 0 _ _ [_, _, _, _, _] _ rfl rfl (Blk.new w2 27 zero5) rfl sizeref (by simp) H5.out ?_)
  intro w3 hb3 hw3
  have HB3 := Lib.hid (show Blk w3 w2.heap.size 27 (refcs (Dk.new (clampN room)) r) from hb3)
  have HR3 := Lib.hid (show Rb w2 w3 from Wrote.below ((Below.refl _ _).alloc (Nat.le_refl _) _) hw3 (Nat.le_refl _))
  clear hb3 hw3
  obtain ⟨y0, y1, y2, y3, y4⟩ := HB3.out.cells5
  go_wp2_with fail
  clear y0 y1 y2 y3 y4
  refine (alike_at (m := mem0 w0.heap.size) (D := Dk.new (clampN room)) rfl (HK1.out.rb (Rb.trans _ _ _ HR2.out HR3.out)) (HQ2.out.rb HR3.out)).mono ?_
  rintro e w3b ⟨rfl, hb3b⟩
  have HB3b := Lib.hid (HB3.out.rb hb3b)
  have HR3b := Lib.hid (Rb.trans _ _ _ HR3.out hb3b)
  clear hb3b
  go_wp2_with fail
  refine (cut_any ao n cap l _ (HO.out.below (Rb.trans _ _ _ HR1.out (Rb.trans _ _ _ HR2.out HR3b.out))) hn).mono ?_
  rintro e w4 ⟨cv, rfl, ho4, hb4⟩
  obtain ⟨co, ccap, rfl⟩ := row_form ho4
  obtain ⟨C, hC⟩ : ∃ C, C = cutL l := ⟨_, rfl⟩
  rw [← hC] at ho4 ⊢
  have hbs := cutL_bs HO.out.bs
  rw [← hC] at hbs
  have HBS := Lib.hid hbs
  obtain ⟨N, hN⟩ : ∃ N, N = C.length := ⟨_, rfl⟩
  rw [← hN] at ho4 ⊢
  have hN40 : N ≤ 40 := by rw [hN, hC, cutL_len]; omega
  have HN := Lib.hid hN
  have HL := Lib.hid (lp_start HK1.out HR1.out HQ2.out HR2.out HH2.out HB3b.out HR3b.out ho4 hb4)
  have HO4 := Lib.hid ho4
  have HW4 := Lib.hid (Rb.trans _ _ _ HR1.out (Rb.trans _ _ _ HR2.out (Rb.trans _ _ _ HR3b.out hb4)))
  have hb0 : w0.heap.size < w4.heap.size := Nat.lt_of_lt_of_le HK1.out.blk.lt (Nat.le_trans HR2.out.size (Nat.le_trans (HR3b.out).size hb4.size))
  clear ho4 hb4 hbs hN hC HK1 HR1 HQ2 HR2 HH2 HB3 HR3 H5 hb0
  go_wp2_with fail
  go_loopw [26] (fun i wr => ∃ k : Nat, k ≤ N ∧ i = .int .i64 k ∧ Lp w4 (Sx w0.heap.size (.slice co N ccap)) w0.heap.size w2.heap.size (runD (Dk.new (clampN room)) (C.take k)) (runD (Dk.new (clampN room)) (C.take k)) wr) (fun i _ => N - (intOf i).toNat)
  case atStart => exact ⟨0, Nat.zero_le _, rfl, HL.out⟩
  case round =>
    obtain ⟨k, hk, rfl, hlp⟩ := hrel
    by_cases hlt : k < N
    · obtain ⟨m, r, hm, hX⟩ := hlp
      obtain ⟨q, hq⟩ : ∃ q, C[k]? = some q := ⟨_, List.getElem?_eq_getElem (by rw [← HN.out]; exact hlt)⟩
      obtain ⟨⟨⟨g, rfl, y0, y1, y2⟩, hqb, hql⟩, hqo⟩ := round_reads hm HW4.out HO4.out HBS.out hq
      have HS := Lib.hid (show runD (Dk.new (clampN room)) (C.take (k + 1)) = stepD (runD (Dk.new (clampN room)) (C.take k)) q.1.k q.1.n q.2 by
        have hkc : k < C.length := by rw [← HN.out]; exact hlt
        have e : C[k] = q := by rw [List.getElem?_eq_getElem hkc] at hq; exact Option.some.inj hq
        rw [runD_succ _ hkc, e])
      have HQ := Lib.hid hqb
      have HQL := Lib.hid hql
      have HQO := Lib.hid hqo
      have HM := Lib.hid hm
      have HX := Lib.hid hX
      obtain ⟨q1, q2⟩ := q
      obtain ⟨qk, qn, qv⟩ := q1
      have hq1 : qv.oneCell' = true := (bs_one hqb).1
      have HQ1 := Lib.hid hq1
      clear hm hX hqb hql hqo hq hq1
      generalize runD (Dk.new (clampN room)) (C.take k) = D at *
      go_wp2_with (refine wpList_store rfl 34 _ _ rfl wr.heap.size 0 _ _ [_, _, _] _ rfl rfl (Blk.new wr 34 [_, _, _]) rfl sizeop (by simp) (op_one (p := ⟨qk, qn, qv⟩) HQ1.out) ?_)
      intro w5 hb5 hw5
      have hr5 : Rb wr w5 := Wrote.below ((Below.refl _ _).alloc (Nat.le_refl _) _) hw5 (Nat.le_refl _)
      obtain ⟨o0, o1, o2⟩ := Blk.cells3 (show Blk w5 wr.heap.size 34 (opcs ⟨qk, qn, qv⟩) from hb5)
      obtain ⟨x0, x1, x2, x3, x4⟩ := Blk.cells5 (HX.out.rb hr5)
      have HX5 := Lib.hid (HX.out.rb hr5)
      have HM5 := Lib.hid (HM.out.rb hr5)
      have HQ5 := Lib.hid (HQ.out.below hr5)
      clear hb5 hw5 hr5 y0 y1 y2
      go_wp2_with fail
      refine (do_at (r := r) (o := ⟨qk, qn, qv⟩) (xs := q2) HM5.out.hb HM5.out.both HQ5.out HQO.out HQL.out).mono ?_
      rintro e w6 ⟨m', r', rfl, hB, hn6, hk6, hs6⟩
      have HX6 := Lib.hid (blk_step HM5.out HX5.out hk6)
      have HM6 := Lib.hid (HM5.out.step HX5.out.lt hB hn6 hk6 hs6)
      have H6 := Lib.hid (five_one (n := D.room) (a := str (stepD D qk qn q2).sure) (b := str (stepD D qk qn q2).rest) hB.rr.n.one.2 hB.rr.s.one.2)
      clear hB hn6 hk6 hs6 o0 o1 o2 x0 x1 x2 x3 x4
      go_wp2_with (refine wpList_store rfl 27 _ _ rfl w6.heap.size 0 _ _ [_, _, _, _, _] _ rfl rfl (Blk.new w6 27 zero5) rfl sizeref (by simp) (five_one HM6.out.both.rr.n.one.2 HM6.out.both.rr.s.one.2) ?_)
      intro w7 hb7 hw7
      have hr7 : Rb w6 w7 := Wrote.below ((Below.refl _ _).alloc (Nat.le_refl _) _) hw7 (Nat.le_refl _)
      have HY7 := Lib.hid (show Blk w7 w6.heap.size 27 (refcs (stepD D qk qn q2) r') from hb7)
      have HM7 := Lib.hid (HM6.out.rb hr7)
      have HX7 := Lib.hid (HX6.out.rb hr7)
      obtain ⟨y0, y1, y2, y3, y4⟩ := HY7.out.cells5
      clear hb7 hw7 hr7
      go_wp2_with fail
      refine (alike_at HM7.out.hb HM7.out.both.kk HM7.out.both.rr).mono ?_
      rintro e w8 ⟨rfl, hr8⟩
      have HM8 := Lib.hid (HM7.out.rb hr8)
      have HX8 := Lib.hid (HX7.out.rb hr8)
      have HY8 := Lib.hid (HY7.out.rb hr8)
      clear y0 y1 y2 y3 y4 hr8
      obtain ⟨y0, y1, y2, y3, y4⟩ := HY8.out.cells5
      go_wp2_with (refine wpList_store rfl 27 _ _ rfl w2.heap.size 0 _ _ [_, _, _, _, _] _ rfl rfl HX8.out rfl sizeref (by simp) (five_one HM8.out.both.rr.n.one.2 HM8.out.both.rr.s.one.2) ?_)
      intro w9 hb9 hw9
      have HL9 := Lib.hid (HM8.out.stored hw9 hb9)
      clear hb9 hw9 y0 y1 y2 y3 y4
      go_wp2
      go_roundw
      case rel => exact ⟨k + 1, by omega, by go_num, by rw [HS.out]; exact HL9.out⟩
      case measure => simp [intOf]; omega
    · obtain ⟨m, r, hm, hX⟩ := hlp
      have hW := hm.below (B := w0.heap.size) fun k hk => .inl hk
      have HWr := Lib.hid (Below.trans HW4.out hW)
      have HSr := Lib.hid (Nat.le_trans HW4.out.size hm.size)
      clear hm hX hW
      go_wp2_with fail
      refine (lives_any _).mono ?_
      rintro e w5 ⟨rfl, hb⟩
      have HB := Lib.hid (HWr.out.trans (Below.mono hb HSr.out))
      clear hb
      go_wp2
      go_ret
      exact ⟨rfl, HB.out⟩
end Go.Proofs.Ytbillojamaiagaa
