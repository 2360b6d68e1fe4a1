/-
  Layer 3: the walk of DiskClones.
-/
import Derived.Test.YtbillojamaiagaaK21
namespace Go.Proofs.Ytbillojamaiagaa
open Go.ChangeShapes Go.WideShapes Go.ChangeAt Go.RowKit By Reg
set_option linter.unusedVariables false

theorem run_eql_nils (x y : Operand) (w : World) : (binSem .eql 23 x y (.pointer none) (.pointer none)).run Try.prog w = .ok (.bool true) w := by
  simp [binSem, go_sem]
def Sc (B : Nat) (v : Value) (m n : Mem) (k : Nat) : Prop := Sx B v k ∨ m.has k ∨ n.has k
theorem round_reads2 {W ws w : World} {b X n cap : Nat} {D E : Dk} {m a c : Mem} {r : Rm} {co : Option Addr} {C : List OX} {B0 : Nat} (h : LpM ws (Sc W.heap.size (.slice co n cap) a c) b X D E w m r) (hWs : Below W.heap.size W ws)
    (ho : ws.ownsRow B0 34 3 (.slice co n cap) n (flat C)) (hC : ∀ p ∈ C, Bs W p.1.v p.2 ∧ p.2.length ≤ 200) {k : Nat} {q : OX} (hq : C[k]? = some q) :
    Rd w co k q ∧ (0 < q.2.length → VOff m q.1.v) :=
  round_reads (m := m) (r := r) (b := b) (X := X) (D := D) (E := E) ⟨h.hb, h.both, h.sx, h.size, h.os, h.tape, h.output, fun k hk => h.s k (.inl hk)⟩ hWs ho hC hq
/-- the loop on a clone: the first disk, its other clone and the row of steps are left alone -/
theorem lp_clone {ws wr wa wb wc wd : World} {S : Nat → Prop} {b X B n : Nat} {D : Dk} {m : Mem} {r : Rm} {lv lv2 cv : Value} {xs : List Value} (h : LpM ws S b X D D wr m r) (hX : Blk wr X 27 (refcs D r)) (hS : ∀ k, k < B → S k)
    (h1 : HeldK wa ⟨wr.heap.size, lv, m.v0, m.v1, m.u0, m.u1⟩ D) (hl1 : ∀ k, lv.ownBlock = some k → wr.heap.size < k) (hb1 : Rb wr wa)
    (h2 : HeldK wb ⟨wa.heap.size, lv2, m.v0, m.v1, m.u0, m.u1⟩ D) (hl2 : ∀ k, lv2.ownBlock = some k → wa.heap.size < k) (hb2 : Rb wa wb) (hb3 : Rb wb wc)
    (ho : wd.ownsRow wc.heap.size 34 3 cv n xs) (hb4 : Rb wc wd) :
    Lp wd (Sc B cv m ⟨wa.heap.size, lv2, m.v0, m.v1, m.u0, m.u1⟩) wr.heap.size X D D wd := by
  have s1 := hb1.size
  have s2 := hb2.size
  have s3 := hb3.size
  have s4 := hb4.size
  have l1 : wr.heap.size < wa.heap.size := h1.blk.lt
  have l2 : wa.heap.size < wb.heap.size := h2.blk.lt
  have hrl : ∀ k, r.has k → k < wr.heap.size := fun k hk => hk.elim (h.both.rr.n.lt k) (h.both.rr.s.lt k)
  have hlv : ∀ k, lv.ownBlock = some k → k < wa.heap.size := fun k hk => h1.lt k (.inl (.inr hk))
  have ht : ∀ k, (⟨wr.heap.size, lv, m.v0, m.v1, m.u0, m.u1⟩ : Mem).touch k → wr.heap.size ≤ k ∧ k < wa.heap.size := fun k hk => by
    rcases hk with hk | hk
    · have hk' : k = wr.heap.size := hk; omega
    · have := hl1 k hk; have := hlv k hk; omega
  have bad : Rb wa wd := Rb.trans _ _ _ hb2 (Rb.trans _ _ _ hb3 hb4)
  have brd : Rb wr wd := Rb.trans _ _ _ hb1 bad
  refine ⟨⟨wr.heap.size, lv, m.v0, m.v1, m.u0, m.u1⟩, r, ⟨rfl, ⟨h1.rb bad, h.both.rr.rb brd, ⟨fun k e e' => ?_, fun k e e' => ?_⟩, h.both.oke⟩, ⟨fun e => ?_, h.sx.2⟩, Nat.le_refl _, rfl, rfl, rfl, fun k hk => ?_⟩, hX.rb brd⟩
  · have := hrl k (.inl e); have := ht k e'; omega
  · have := hrl k (.inr e); have := ht k e'; omega
  · have hxl := hX.lt
    rcases e with e | e
    · have := ht _ e; omega
    · exact h.sx.1 (.inr e)
  · have hxl := hX.lt
    rcases hk with (hk | hk) | hk | hk
    · obtain ⟨q1, q2, q3, _⟩ := h.s k (hS k hk)
      have := h.size
      exact ⟨by omega, fun e => by have := ht k e; omega, q3, rfl⟩
    · have hc := ho.lt k hk
      exact ⟨hc.2, fun e => by have := ht k e; omega, by omega, rfl⟩
    · have := h.both.kk.lt k hk
      exact ⟨by omega, fun e => by have := ht k e; omega, fun e => h.sx.1 (e ▸ hk), rfl⟩
    · rcases hk with (hk | hk) | hk
      · have hk' : k = wa.heap.size := hk
        exact ⟨by omega, fun e => by have := ht k e; omega, by omega, rfl⟩
      · have := hl2 k hk
        have := h2.lt k (.inl (.inr hk))
        exact ⟨by omega, fun e => by have := ht k e; omega, by omega, rfl⟩
      · have := h.both.kk.lt k (.inr hk)
        exact ⟨by omega, fun e => by have := ht k e; omega, fun e => h.sx.1 (e ▸ .inr hk), rfl⟩

set_option maxRecDepth 100000 in
set_option maxHeartbeats 2000000 in
theorem clones_walk (ao : Option Addr) (n cap : Nat) (l : List OX) (ao2 : Option Addr) (n2 cap2 : Nat) (l2 : List OX) (w0 : World) (h : OpsIn w0 ao n l) (hn : n ≤ 9223372036854775807) (h2 : OpsIn w0 ao2 n2 l2) (hn2 : n2 ≤ 9223372036854775807) :
    Calls Try.prog 5 #[.slice ao n cap, .slice ao2 n2 cap2] w0 fun e w' => e = .returned (.bool true) ∧ Below w0.heap.size w0 w' := by
  have HO := Lib.hid h
  have HO2 := Lib.hid h2
  clear h h2
  go_enter Try.func5, Try.ntmps5
  go_wp2_with fail
  refine (new_any 4096 w0).mono ?_
  rintro e w1 ⟨rfl, hk1, hr1⟩
  replace hk1 : HeldK w1 (mem0 w0.heap.size) (Dk.new 4096) := hk1
  have HK1 := Lib.hid hk1
  have HR1 := Lib.hid hr1
  clear hk1 hr1
  go_wp2_with fail
  refine (rnew_any 4096 w1).mono ?_
  rintro e w2 ⟨r, rfl, hr2, hb2, hh2⟩
  replace hr2 : HeldR w2 r (Dk.new 4096) := hr2
  have HQ2 := Lib.hid hr2
  have HR2 := Lib.hid hb2
  have HH2 := Lib.hid hh2
  have H5 := Lib.hid (five_one (n := (4096 : Nat)) (a := str []) (b := str []) hr2.n.one.2 hr2.s.one.2)
  clear hr2 hb2 hh2
  go_wp2_with (refine wpList_store rfl 27 _ _ rfl w2.heap.size 0 _ _ [_, _, _, _, _] _ rfl rfl (Blk.new w2 27 zero5) rfl sizeref (by simp) H5.out ?_)
  intro w3 hb3 hw3
  have HB3 := Lib.hid (show Blk w3 w2.heap.size 27 (refcs (Dk.new 4096) r) from hb3)
  have HR3 := Lib.hid (show Rb w2 w3 from Wrote.below ((Below.refl _ _).alloc (Nat.le_refl _) _) hw3 (Nat.le_refl _))
  clear hb3 hw3
  go_wp2_with fail
  refine (cut_any ao n cap l _ (HO.out.below (Rb.trans _ _ _ HR1.out (Rb.trans _ _ _ HR2.out HR3.out))) hn).mono ?_
  rintro e w4 ⟨cv, rfl, ho4, hb4⟩
  obtain ⟨co, ccap, rfl⟩ := row_form ho4
  obtain ⟨C, hC⟩ : ∃ C, C = cutL l := ⟨_, rfl⟩
  rw [← hC] at ho4 ⊢
  have hbs := cutL_bs HO.out.bs
  rw [← hC] at hbs
  have HBS := Lib.hid hbs
  obtain ⟨N, hN⟩ : ∃ N, N = C.length := ⟨_, rfl⟩
  rw [← hN] at ho4 ⊢
  have hN40 : N ≤ 40 := by rw [hN, hC, cutL_len]; omega
  have HN := Lib.hid hN
  have HL := Lib.hid (lp_start HK1.out HR1.out HQ2.out HR2.out HH2.out HB3.out HR3.out ho4 hb4)
  have HO4 := Lib.hid ho4
  have HW4 := Lib.hid (Rb.trans _ _ _ HR1.out (Rb.trans _ _ _ HR2.out (Rb.trans _ _ _ HR3.out hb4)))
  have hb0 : w0.heap.size < w4.heap.size := Nat.lt_of_lt_of_le HK1.out.blk.lt (Nat.le_trans HR2.out.size (Nat.le_trans (HR3.out).size hb4.size))
  clear ho4 hb4 hbs hN hC HK1 HR1 HQ2 HR2 HH2 HB3 HR3 H5 hb0
  go_wp2_with fail
  go_loopw [21] (fun i wr => ∃ k : Nat, k ≤ N ∧ i = .int .i64 k ∧ Lp w4 (Sx w0.heap.size (.slice co N ccap)) w0.heap.size w2.heap.size (runD (Dk.new 4096) (C.take k)) (runD (Dk.new 4096) (C.take k)) wr) (fun i _ => N - (intOf i).toNat)
  case atStart => exact ⟨0, Nat.zero_le _, rfl, HL.out⟩
  case round =>
    obtain ⟨k, hk, rfl, hlp⟩ := hrel
    by_cases hlt : k < N
    · obtain ⟨m, r, hm, hX⟩ := hlp
      obtain ⟨q, hq⟩ : ∃ q, C[k]? = some q := ⟨_, List.getElem?_eq_getElem (by rw [← HN.out]; exact hlt)⟩
      obtain ⟨⟨⟨g, rfl, y0, y1, y2⟩, hqb, hql⟩, hqo⟩ := round_reads hm HW4.out HO4.out HBS.out hq
      have HS := Lib.hid (show runD (Dk.new 4096) (C.take (k + 1)) = stepD (runD (Dk.new 4096) (C.take k)) q.1.k q.1.n q.2 by
        have hkc : k < C.length := by rw [← HN.out]; exact hlt
        have e : C[k] = q := by rw [List.getElem?_eq_getElem hkc] at hq; exact Option.some.inj hq
        rw [runD_succ _ hkc, e])
      have HQ := Lib.hid hqb
      have HQL := Lib.hid hql
      have HQO := Lib.hid hqo
      have HM := Lib.hid hm
      have HX := Lib.hid hX
      obtain ⟨q1, q2⟩ := q
      obtain ⟨qk, qn, qv⟩ := q1
      have hq1 : qv.oneCell' = true := (bs_one hqb).1
      have HQ1 := Lib.hid hq1
      clear hm hX hqb hql hqo hq hq1
      generalize runD (Dk.new 4096) (C.take k) = D at *
      go_wp2_with (refine wpList_store rfl 34 _ _ rfl wr.heap.size 0 _ _ [_, _, _] _ rfl rfl (Blk.new wr 34 [_, _, _]) rfl sizeop (by simp) (op_one (p := ⟨qk, qn, qv⟩) HQ1.out) ?_)
      intro w5 hb5 hw5
      have hr5 : Rb wr w5 := Wrote.below ((Below.refl _ _).alloc (Nat.le_refl _) _) hw5 (Nat.le_refl _)
      obtain ⟨o0, o1, o2⟩ := Blk.cells3 (show Blk w5 wr.heap.size 34 (opcs ⟨qk, qn, qv⟩) from hb5)
      obtain ⟨x0, x1, x2, x3, x4⟩ := Blk.cells5 (HX.out.rb hr5)
      have HX5 := Lib.hid (HX.out.rb hr5)
      have HM5 := Lib.hid (HM.out.rb hr5)
      have HQ5 := Lib.hid (HQ.out.below hr5)
      clear hb5 hw5 hr5 y0 y1 y2
      go_wp2_with fail
      refine (do_at (r := r) (o := ⟨qk, qn, qv⟩) (xs := q2) HM5.out.hb HM5.out.both HQ5.out HQO.out HQL.out).mono ?_
      rintro e w6 ⟨m', r', rfl, hB, hn6, hk6, hs6⟩
      have HX6 := Lib.hid (blk_step HM5.out HX5.out hk6)
      have HM6 := Lib.hid (HM5.out.step HX5.out.lt hB hn6 hk6 hs6)
      have H6 := Lib.hid (five_one (n := D.room) (a := str (stepD D qk qn q2).sure) (b := str (stepD D qk qn q2).rest) hB.rr.n.one.2 hB.rr.s.one.2)
      clear hB hn6 hk6 hs6 o0 o1 o2 x0 x1 x2 x3 x4
      go_wp2_with (refine wpList_store rfl 27 _ _ rfl w2.heap.size 0 _ _ [_, _, _, _, _] _ rfl rfl HX6.out rfl sizeref (by simp) (five_one HM6.out.both.rr.n.one.2 HM6.out.both.rr.s.one.2) ?_)
      intro w7 hb7 hw7
      have HL7 := Lib.hid (HM6.out.stored hw7 hb7)
      clear hb7 hw7
      go_wp2
      go_roundw
      case rel => exact ⟨k + 1, by omega, by go_num, by rw [HS.out]; exact HL7.out⟩
      case measure => simp [intOf]; omega
    · obtain ⟨m, r, hm, hX⟩ := hlp
      have HM := Lib.hid hm
      have HX := Lib.hid hX
      clear hm hX
      generalize runD (Dk.new 4096) (C.take k) = D at *
      go_wp2_with fail
      refine (clone_at HM.out.hb HM.out.both.kk).mono ?_
      rintro e wa ⟨lv, rfl, hk1, hl1, hr1⟩
      have HK1 := Lib.hid hk1
      have HL1 := Lib.hid hl1
      have HR1 := Lib.hid hr1
      have HMa := Lib.hid (HM.out.rb hr1)
      clear hk1 hl1 hr1
      go_wp2_with fail
      refine (clone_at HMa.out.hb HMa.out.both.kk).mono ?_
      rintro e wb ⟨lv2, rfl, hk2, hl2, hr2⟩
      have HK2 := Lib.hid hk2
      have HL2a := Lib.hid hl2
      have HR2 := Lib.hid hr2
      clear hk2 hl2 hr2
      go_wp2_with fail
      refine (same_at (m := ⟨wr.heap.size, lv, m.v0, m.v1, m.u0, m.u1⟩) rfl HMa.out.hb (HK1.out.rb HR2.out) (HMa.out.both.kk.rb HR2.out)).mono ?_
      rintro e wc ⟨rfl, hr3⟩
      have HR3 := Lib.hid hr3
      have hW := HM.out.below (B := w0.heap.size) fun k hk => .inl hk
      have HWr := Lib.hid (Below.trans HW4.out hW)
      have HSr := Lib.hid (Nat.le_trans HW4.out.size HM.out.size)
      clear hr3 hW
      have HWc := Lib.hid (show Below w0.heap.size w0 wc from HWr.out.trans (Below.mono (Rb.trans _ _ _ HR1.out (Rb.trans _ _ _ HR2.out HR3.out)) HSr.out))
      go_wp2_with fail
      refine (cut_any ao2 n2 cap2 l2 _ (HO2.out.below HWc.out) hn2).mono ?_
      rintro e wd ⟨cv2, rfl, hod, hbd⟩
      obtain ⟨co2, ccap2, rfl⟩ := row_form hod
      obtain ⟨C2, hC2⟩ : ∃ C, C = cutL l2 := ⟨_, rfl⟩
      rw [← hC2] at hod ⊢
      have hbs2 := cutL_bs HO2.out.bs
      rw [← hC2] at hbs2
      have HBS2 := Lib.hid hbs2
      obtain ⟨N2, hN2⟩ : ∃ N, N = C2.length := ⟨_, rfl⟩
      rw [← hN2] at hod ⊢
      have hN240 : N2 ≤ 40 := by rw [hN2, hC2, cutL_len]; omega
      have HN2 := Lib.hid hN2
      have hL2 := lp_clone HM.out HX.out (fun k hk => .inl hk) HK1.out HL1.out HR1.out HK2.out HL2a.out HR2.out HR3.out hod hbd
      have HWd := Lib.hid (show Below w0.heap.size w0 wd from HWc.out.trans (Below.mono hbd HWc.out.size))
      have HDd := Lib.hid (show HeldK wd m D from (HMa.out.both.kk.rb (Rb.trans _ _ _ HR2.out (Rb.trans _ _ _ HR3.out hbd))))
      have HWw := Lib.hid (show HeldK wd ⟨wa.heap.size, lv2, m.v0, m.v1, m.u0, m.u1⟩ D from HK2.out.rb (Rb.trans _ _ _ HR3.out hbd))
      have HOd := Lib.hid hod
      obtain ⟨cb, hcb⟩ : ∃ cb, cb = wr.heap.size := ⟨_, rfl⟩
      obtain ⟨mw, hmw⟩ : ∃ mw : Mem, mw = ⟨wa.heap.size, lv2, m.v0, m.v1, m.u0, m.u1⟩ := ⟨_, rfl⟩
      obtain ⟨wb0, hwb0⟩ : ∃ wb0, wb0 = mw.b := ⟨_, rfl⟩
      have hwa : wa.heap.size = wb0 := by rw [hwb0, hmw]
      rw [← hcb] at hL2 ⊢
      rw [← hmw] at hL2 HWw
      rw [hwa]
      have HL2 := Lib.hid hL2
      have HWB := Lib.hid hwb0.symm
      have HDb := Lib.hid HM.out.hb
      clear hod hbd hbs2 hN2 hC2 hL2 hcb hmw hwb0 hwa HK1 HL1 HR1 HK2 HL2a HR2 HR3 HMa HWr HSr HWc HM HX
      go_wp2_with fail
      go_loopw [44] (fun i wr => ∃ (k : Nat) (D' : Dk), k ≤ N2 ∧ i = .int .i64 k ∧ Lp wd (Sc w0.heap.size (.slice co2 N2 ccap2) m mw) cb w2.heap.size D' D' wr) (fun i _ => N2 - (intOf i).toNat)
      case atStart => exact ⟨0, D, Nat.zero_le _, rfl, HL2.out⟩
      case round =>
        obtain ⟨k, D1, hk, rfl, hlp⟩ := hrel
        by_cases hlt : k < N2
        · obtain ⟨m3, r3, hm, hX⟩ := hlp
          obtain ⟨q, hq⟩ : ∃ q, C2[k]? = some q := ⟨_, List.getElem?_eq_getElem (by rw [← HN2.out]; exact hlt)⟩
          obtain ⟨⟨⟨g, rfl, y0, y1, y2⟩, hqb, hql⟩, hqo⟩ := round_reads2 hm HWd.out HOd.out HBS2.out hq
          have HQ := Lib.hid hqb
          have HQL := Lib.hid hql
          have HQO := Lib.hid hqo
          have HM3 := Lib.hid hm
          have HX3 := Lib.hid hX
          obtain ⟨q1, q2⟩ := q
          obtain ⟨qk, qn, qv⟩ := q1
          have HQ1 := Lib.hid (bs_one hqb).1
          clear hm hX hqb hql hqo hq
          go_wp2_with (refine wpList_store rfl 34 _ _ rfl wr.heap.size 0 _ _ [_, _, _] _ rfl rfl (Blk.new wr 34 [_, _, _]) rfl sizeop (by simp) (op_one (p := ⟨qk, qn, qv⟩) HQ1.out) ?_)
          intro w5 hb5 hw5
          have hr5 : Rb wr w5 := Wrote.below ((Below.refl _ _).alloc (Nat.le_refl _) _) hw5 (Nat.le_refl _)
          obtain ⟨o0, o1, o2⟩ := Blk.cells3 (show Blk w5 wr.heap.size 34 (opcs ⟨qk, qn, qv⟩) from hb5)
          obtain ⟨x0, x1, x2, x3, x4⟩ := Blk.cells5 (HX3.out.rb hr5)
          have HX5 := Lib.hid (HX3.out.rb hr5)
          have HM5 := Lib.hid (HM3.out.rb hr5)
          have HQ5 := Lib.hid (HQ.out.below hr5)
          clear hb5 hw5 hr5 y0 y1 y2
          go_wp2_with fail
          refine (do_at (r := r3) (o := ⟨qk, qn, qv⟩) (xs := q2) HM5.out.hb HM5.out.both HQ5.out HQO.out HQL.out).mono ?_
          rintro e w6 ⟨m', r', rfl, hB, hn6, hk6, hs6⟩
          have HX6 := Lib.hid (blk_step HM5.out HX5.out hk6)
          have HM6 := Lib.hid (HM5.out.step HX5.out.lt hB hn6 hk6 hs6)
          clear hB hn6 hk6 hs6 o0 o1 o2 x0 x1 x2 x3 x4
          go_wp2_with (refine wpList_store rfl 27 _ _ rfl w6.heap.size 0 _ _ [_, _, _, _, _] _ rfl rfl (Blk.new w6 27 zero5) rfl sizeref (by simp) (five_one HM6.out.both.rr.n.one.2 HM6.out.both.rr.s.one.2) ?_)
          intro w7 hb7 hw7
          have hr7 : Rb w6 w7 := Wrote.below ((Below.refl _ _).alloc (Nat.le_refl _) _) hw7 (Nat.le_refl _)
          have HY7 := Lib.hid (show Blk w7 w6.heap.size 27 (refcs (stepD D1 qk qn q2) r') from hb7)
          have HM7 := Lib.hid (HM6.out.rb hr7)
          have HX7 := Lib.hid (HX6.out.rb hr7)
          obtain ⟨y0, y1, y2, y3, y4⟩ := HY7.out.cells5
          clear hb7 hw7 hr7
          go_wp2_with fail
          refine (alike_at HM7.out.hb HM7.out.both.kk HM7.out.both.rr).mono ?_
          rintro e w8 ⟨rfl, hr8⟩
          have HM8 := Lib.hid (HM7.out.rb hr8)
          have HX8 := Lib.hid (HX7.out.rb hr8)
          have HY8 := Lib.hid (HY7.out.rb hr8)
          clear y0 y1 y2 y3 y4 hr8
          obtain ⟨y0, y1, y2, y3, y4⟩ := HY8.out.cells5
          go_wp2_with (refine wpList_store rfl 27 _ _ rfl w2.heap.size 0 _ _ [_, _, _, _, _] _ rfl rfl HX8.out rfl sizeref (by simp) (five_one HM8.out.both.rr.n.one.2 HM8.out.both.rr.s.one.2) ?_)
          intro w9 hb9 hw9
          have HL9 := Lib.hid (HM8.out.stored hw9 hb9)
          clear hb9 hw9 y0 y1 y2 y3 y4
          go_wp2
          go_roundw
          case rel => exact ⟨k + 1, _, by omega, by go_num, HL9.out⟩
          case measure => simp [intOf]; omega
        · obtain ⟨m3, r3, hm, hX⟩ := hlp
          have HD := Lib.hid (show HeldK wr m D from HDd.out.same hm.size fun k hk => (hm.s k (.inr (.inl hk))).2.2.2)
          have HWs := Lib.hid (show HeldK wr mw D from HWw.out.same hm.size fun k hk => (hm.s k (.inr (.inr hk))).2.2.2)
          have HB := Lib.hid (show Below w0.heap.size w0 wr from HWd.out.trans (hm.below fun k hk => .inl (.inl hk)))
          have HSZ := Lib.hid (show w0.heap.size ≤ wr.heap.size from HB.out.size)
          clear hm hX
          go_wp2_with fail
          refine (sync_nil _).mono ?_
          rintro e x1 ⟨rfl, rfl⟩
          go_wp2_with fail
          refine (clear_nil _).mono ?_
          rintro e x2 ⟨rfl, rfl⟩
          go_wp2_with fail
          refine (crash_nil 1 _).mono ?_
          rintro e x3 ⟨rfl, rfl⟩
          go_upto_region 24 with (fail)
          refine wp_region_plain_specs (R := Rb) (S := [Spec.eq (.pointer (some ⟨w0.heap.size, 0, none⟩)), Spec.eq (.pointer (some ⟨wb0, 0, none⟩)), Spec.eq (.bool true), Spec.eq (.bool true), Spec.eq (.pointer none), Spec.eq (.int .i64 (6)), Spec.eq (.bool true), Spec.eq (.bool true), Spec.eq (.bool true), Spec.eq (.pointer none), Spec.eq (.int .i64 (6)), Spec.eq (.bool true), Spec.eq (.bool true), Spec.eq (.bool true), Spec.eq (.pointer none), Spec.eq (.slice none 0 0), Spec.eq (.int .i64 (0)), Spec.eq (.pointer none), Spec.eq (.int .i64 (0)), Spec.eq (.int .i64 (0 + 0)), Spec.eq (.pointer none), Spec.eq (.int .i64 (0)), Spec.eq (.int .i64 ((0 + 0) + 0)), Spec.eq (.pointer none), Spec.eq (.slice none 0 0), Spec.eq (.int .i64 (0)), Spec.eq (.int .i64 (((0 + 0) + 0) + 0)), Spec.eq (.bool true), Spec.eq (.bool true), Spec.eq (.bool true), Spec.eq (.pointer none), Spec.eq (.pointer none), Spec.eq (.bool true), Spec.eq (.bool true), Spec.eq (.bool true), Spec.eq (.pointer none), Spec.eq (.bool true), Spec.eq (.bool true), Spec.eq (.bool true), Spec.eq (.pointer none), Spec.eq (.pointer (some ⟨w0.heap.size, 0, none⟩)), Spec.eq (.bool false), Spec.eq (.bool true), Spec.eq (.bool true), Spec.eq (.bool true), Spec.eq (.bool true), Spec.eq (.bool true), Spec.eq (.bool true)]) (n := 1) (size := 118) Rb.trans (Rb.refl _) rfl (by kernel_rfl) ?owed ?fin
          case owed =>
            refine Owed.cons ?_ ?_
            · -- 0: slot 71 := Op.move (Operand.tmp 5)
              intro a w hR F
              have e5 : a.eval (.tmp 5) = .pointer (some ⟨w0.heap.size, 0, none⟩) := F.old 5 (by kernel_rfl)
              exact ok_move _ rfl (wanted_none rfl) ⟨Rb.refl _, e5⟩
            refine Owed.cons ?_ ?_
            · -- 1: slot 72 := Op.move (Operand.tmp 10)
              intro a w hR F
              have e10 : a.eval (.tmp 10) = .pointer (some ⟨wb0, 0, none⟩) := F.old 10 (by kernel_rfl)
              exact ok_move _ rfl (wanted_none rfl) ⟨Rb.refl _, e10⟩
            refine Owed.cons ?_ ?_
            · -- 2: slot 73 := Op.call { callee := Callee.value (Operand.func 19), args := #[Operand.tmp 71, Operand.tmp 72], argTy
              intro a w hR F
              have e71 : a.eval (.tmp 71) = .pointer (some ⟨w0.heap.size, 0, none⟩) := F.new 0 71 (by kernel_rfl)
              have e72 : a.eval (.tmp 72) = .pointer (some ⟨wb0, 0, none⟩) := F.new 1 72 (by kernel_rfl)
              refine ok_call 19 _ _ #[.pointer (some ⟨w0.heap.size, 0, none⟩), .pointer (some ⟨wb0, 0, none⟩)] rfl (wanted_none rfl) (by simp [e71, e72]) (Try.call19 _ _) ?_
              exact val_call_rb (same_at HDb.out HWB.out (HD.out.rb hR) (HWs.out.rb hR))
            refine Owed.cons ?_ ?_
            · -- 3: slot 74 := Op.move (Operand.tmp 73)
              intro a w hR F
              have e73 : a.eval (.tmp 73) = .bool true := F.new 2 73 (by kernel_rfl)
              exact ok_move _ rfl (wanted_none rfl) ⟨Rb.refl _, e73⟩
            refine Owed.cons ?_ ?_
            · -- 4: slot 75 := Op.move (Operand.tmp 15)
              intro a w hR F
              have e74 : a.eval (.tmp 74) = .bool true := F.new 3 74 (by kernel_rfl)
              have e15 : a.eval (.tmp 15) = .pointer none := F.old 15 (by kernel_rfl)
              exact ok_move _ rfl (wanted_true (j := 3) (d := 74) rfl (by kernel_rfl) e74) ⟨Rb.refl _, e15⟩
            refine Owed.cons ?_ ?_
            · -- 5: slot 76 := Op.call { callee := Callee.value (Operand.func 21), args := #[Operand.tmp 75, Operand.const (Value.s
              intro a w hR F
              have e74 : a.eval (.tmp 74) = .bool true := F.new 3 74 (by kernel_rfl)
              have e75 : a.eval (.tmp 75) = .pointer none := F.new 4 75 (by kernel_rfl)
              refine ok_call 21 _ _ #[.pointer none, (.slice none 0 0)] rfl (wanted_true (j := 3) (d := 74) rfl (by kernel_rfl) e74) (by simp only [List.map_toArray, List.map_cons, List.map_nil, e75]; rfl) (Try.call21 _ _) ?_
              exact val_call (append_nil _ w)
            refine Owed.cons ?_ ?_
            · -- 6: slot 77 := Op.binOp BinOp.eql 45 (Operand.tmp 76) (Operand.const (Value.int IntKind.i64 6)) 45
              intro a w hR F
              have e74 : a.eval (.tmp 74) = .bool true := F.new 3 74 (by kernel_rfl)
              have e76 : a.eval (.tmp 76) = .int .i64 (6) := F.new 5 76 (by kernel_rfl)
              refine ok_bin _ _ _ _ _ rfl (wanted_true (j := 3) (d := 74) rfl (by kernel_rfl) e74) e76 rfl (run_eql_int _ _ _ _ _ _) ⟨Rb.refl _, ?_⟩
              exact congrArg Value.bool (by simp)
            refine Owed.cons ?_ ?_
            · -- 7: slot 78 := Op.pick (Operand.tmp 74) (Operand.tmp 77) (Operand.const (Value.bool false))
              intro a w hR F
              have e74 : a.eval (.tmp 74) = .bool true := F.new 3 74 (by kernel_rfl)
              have e77 : a.eval (.tmp 77) = .bool true := F.new 6 77 (by kernel_rfl)
              exact ok_pick _ _ _ true rfl (wanted_none rfl) e74 ⟨Rb.refl _, e77⟩
            refine Owed.cons ?_ ?_
            · -- 8: slot 79 := Op.move (Operand.tmp 78)
              intro a w hR F
              have e78 : a.eval (.tmp 78) = .bool true := F.new 7 78 (by kernel_rfl)
              exact ok_move _ rfl (wanted_none rfl) ⟨Rb.refl _, e78⟩
            refine Owed.cons ?_ ?_
            · -- 9: slot 80 := Op.move (Operand.tmp 15)
              intro a w hR F
              have e79 : a.eval (.tmp 79) = .bool true := F.new 8 79 (by kernel_rfl)
              have e15 : a.eval (.tmp 15) = .pointer none := F.old 15 (by kernel_rfl)
              exact ok_move _ rfl (wanted_true (j := 8) (d := 79) rfl (by kernel_rfl) e79) ⟨Rb.refl _, e15⟩
            refine Owed.cons ?_ ?_
            · -- 10: slot 81 := Op.call { callee := Callee.value (Operand.func 22), args := #[Operand.tmp 80, Operand.const (Value.i
              intro a w hR F
              have e79 : a.eval (.tmp 79) = .bool true := F.new 8 79 (by kernel_rfl)
              have e80 : a.eval (.tmp 80) = .pointer none := F.new 9 80 (by kernel_rfl)
              refine ok_call 22 _ _ #[.pointer none, .int .i64 (0), (.slice none 0 0)] rfl (wanted_true (j := 8) (d := 79) rfl (by kernel_rfl) e79) (by simp only [List.map_toArray, List.map_cons, List.map_nil, e80]; rfl) (Try.call22 _ _) ?_
              exact val_call (write_nil 0 _ w)
            refine Owed.cons ?_ ?_
            · -- 11: slot 82 := Op.binOp BinOp.eql 45 (Operand.tmp 81) (Operand.const (Value.int IntKind.i64 6)) 45
              intro a w hR F
              have e79 : a.eval (.tmp 79) = .bool true := F.new 8 79 (by kernel_rfl)
              have e81 : a.eval (.tmp 81) = .int .i64 (6) := F.new 10 81 (by kernel_rfl)
              refine ok_bin _ _ _ _ _ rfl (wanted_true (j := 8) (d := 79) rfl (by kernel_rfl) e79) e81 rfl (run_eql_int _ _ _ _ _ _) ⟨Rb.refl _, ?_⟩
              exact congrArg Value.bool (by simp)
            refine Owed.cons ?_ ?_
            · -- 12: slot 83 := Op.pick (Operand.tmp 79) (Operand.tmp 82) (Operand.const (Value.bool false))
              intro a w hR F
              have e79 : a.eval (.tmp 79) = .bool true := F.new 8 79 (by kernel_rfl)
              have e82 : a.eval (.tmp 82) = .bool true := F.new 11 82 (by kernel_rfl)
              exact ok_pick _ _ _ true rfl (wanted_none rfl) e79 ⟨Rb.refl _, e82⟩
            refine Owed.cons ?_ ?_
            · -- 13: slot 84 := Op.move (Operand.tmp 83)
              intro a w hR F
              have e83 : a.eval (.tmp 83) = .bool true := F.new 12 83 (by kernel_rfl)
              exact ok_move _ rfl (wanted_none rfl) ⟨Rb.refl _, e83⟩
            refine Owed.cons ?_ ?_
            · -- 14: slot 85 := Op.move (Operand.tmp 15)
              intro a w hR F
              have e84 : a.eval (.tmp 84) = .bool true := F.new 13 84 (by kernel_rfl)
              have e15 : a.eval (.tmp 15) = .pointer none := F.old 15 (by kernel_rfl)
              exact ok_move _ rfl (wanted_true (j := 13) (d := 84) rfl (by kernel_rfl) e84) ⟨Rb.refl _, e15⟩
            refine Owed.cons ?_ ?_
            · -- 15: slot 86 := Op.call { callee := Callee.value (Operand.func 15), args := #[Operand.tmp 85], argTypes := #[23] }
              intro a w hR F
              have e84 : a.eval (.tmp 84) = .bool true := F.new 13 84 (by kernel_rfl)
              have e85 : a.eval (.tmp 85) = .pointer none := F.new 14 85 (by kernel_rfl)
              refine ok_call 15 _ _ #[.pointer none] rfl (wanted_true (j := 13) (d := 84) rfl (by kernel_rfl) e84) (by simp [e85]) (Try.call15 _ _) ?_
              exact val_call (log_nil w)
            refine Owed.cons ?_ ?_
            · -- 16: slot 87 := Op.call { callee := Callee.builtin Builtin.len, args := #[Operand.tmp 86], argTypes := #[32] }
              intro a w hR F
              have e84 : a.eval (.tmp 84) = .bool true := F.new 13 84 (by kernel_rfl)
              have e86 : a.eval (.tmp 86) = .slice none 0 0 := F.new 15 86 (by kernel_rfl)
              refine ok_len_bs _ _ 5 Try.underlying32 [] rfl (wanted_true (j := 13) (d := 84) rfl (by kernel_rfl) e84) (by rw [e86]; exact Bs.nil _) ⟨Rb.refl _, ?_⟩
              rfl
            refine Owed.cons ?_ ?_
            · -- 17: slot 88 := Op.move (Operand.tmp 15)
              intro a w hR F
              have e84 : a.eval (.tmp 84) = .bool true := F.new 13 84 (by kernel_rfl)
              have e15 : a.eval (.tmp 15) = .pointer none := F.old 15 (by kernel_rfl)
              exact ok_move _ rfl (wanted_true (j := 13) (d := 84) rfl (by kernel_rfl) e84) ⟨Rb.refl _, e15⟩
            refine Owed.cons ?_ ?_
            · -- 18: slot 89 := Op.call { callee := Callee.value (Operand.func 17), args := #[Operand.tmp 88], argTypes := #[23] }
              intro a w hR F
              have e84 : a.eval (.tmp 84) = .bool true := F.new 13 84 (by kernel_rfl)
              have e88 : a.eval (.tmp 88) = .pointer none := F.new 17 88 (by kernel_rfl)
              refine ok_call 17 _ _ #[.pointer none] rfl (wanted_true (j := 13) (d := 84) rfl (by kernel_rfl) e84) (by simp [e88]) (Try.call17 _ _) ?_
              exact val_call (sure_nil w)
            refine Owed.cons ?_ ?_
            · -- 19: slot 90 := Op.binOp BinOp.add 3 (Operand.tmp 87) (Operand.tmp 89) 3
              intro a w hR F
              have e84 : a.eval (.tmp 84) = .bool true := F.new 13 84 (by kernel_rfl)
              have e87 : a.eval (.tmp 87) = .int .i64 (0) := F.new 16 87 (by kernel_rfl)
              have e89 : a.eval (.tmp 89) = .int .i64 (0) := F.new 18 89 (by kernel_rfl)
              exact ok_bin _ _ _ _ _ rfl (wanted_true (j := 13) (d := 84) rfl (by kernel_rfl) e84) e87 e89 (run_add_i64 _ _ _ _ _ (by omega) (by omega)) ⟨Rb.refl _, rfl⟩
            refine Owed.cons ?_ ?_
            · -- 20: slot 91 := Op.move (Operand.tmp 15)
              intro a w hR F
              have e84 : a.eval (.tmp 84) = .bool true := F.new 13 84 (by kernel_rfl)
              have e15 : a.eval (.tmp 15) = .pointer none := F.old 15 (by kernel_rfl)
              exact ok_move _ rfl (wanted_true (j := 13) (d := 84) rfl (by kernel_rfl) e84) ⟨Rb.refl _, e15⟩
            refine Owed.cons ?_ ?_
            · -- 21: slot 92 := Op.call { callee := Callee.value (Operand.func 23), args := #[Operand.tmp 91], argTypes := #[23] }
              intro a w hR F
              have e84 : a.eval (.tmp 84) = .bool true := F.new 13 84 (by kernel_rfl)
              have e91 : a.eval (.tmp 91) = .pointer none := F.new 20 91 (by kernel_rfl)
              refine ok_call 23 _ _ #[.pointer none] rfl (wanted_true (j := 13) (d := 84) rfl (by kernel_rfl) e84) (by simp [e91]) (Try.call23 _ _) ?_
              exact val_call (room_nil w)
            refine Owed.cons ?_ ?_
            · -- 22: slot 93 := Op.binOp BinOp.add 3 (Operand.tmp 90) (Operand.tmp 92) 3
              intro a w hR F
              have e84 : a.eval (.tmp 84) = .bool true := F.new 13 84 (by kernel_rfl)
              have e90 : a.eval (.tmp 90) = .int .i64 (0 + 0) := F.new 19 90 (by kernel_rfl)
              have e92 : a.eval (.tmp 92) = .int .i64 (0) := F.new 21 92 (by kernel_rfl)
              exact ok_bin _ _ _ _ _ rfl (wanted_true (j := 13) (d := 84) rfl (by kernel_rfl) e84) e90 e92 (run_add_i64 _ _ _ _ _ (by omega) (by omega)) ⟨Rb.refl _, rfl⟩
            refine Owed.cons ?_ ?_
            · -- 23: slot 94 := Op.move (Operand.tmp 15)
              intro a w hR F
              have e84 : a.eval (.tmp 84) = .bool true := F.new 13 84 (by kernel_rfl)
              have e15 : a.eval (.tmp 15) = .pointer none := F.old 15 (by kernel_rfl)
              exact ok_move _ rfl (wanted_true (j := 13) (d := 84) rfl (by kernel_rfl) e84) ⟨Rb.refl _, e15⟩
            refine Owed.cons ?_ ?_
            · -- 24: slot 95 := Op.call { callee := Callee.value (Operand.func 24), args := #[Operand.tmp 94, Operand.const (Value.i
              intro a w hR F
              have e84 : a.eval (.tmp 84) = .bool true := F.new 13 84 (by kernel_rfl)
              have e94 : a.eval (.tmp 94) = .pointer none := F.new 23 94 (by kernel_rfl)
              refine ok_call 24 _ _ #[.pointer none, .int .i64 (0)] rfl (wanted_true (j := 13) (d := 84) rfl (by kernel_rfl) e84) (by simp only [List.map_toArray, List.map_cons, List.map_nil, e94]; rfl) (Try.call24 _ _) ?_
              exact val_call (slot_nil 0 w)
            refine Owed.cons ?_ ?_
            · -- 25: slot 96 := Op.call { callee := Callee.builtin Builtin.len, args := #[Operand.tmp 95], argTypes := #[32] }
              intro a w hR F
              have e84 : a.eval (.tmp 84) = .bool true := F.new 13 84 (by kernel_rfl)
              have e95 : a.eval (.tmp 95) = .slice none 0 0 := F.new 24 95 (by kernel_rfl)
              refine ok_len_bs _ _ 5 Try.underlying32 [] rfl (wanted_true (j := 13) (d := 84) rfl (by kernel_rfl) e84) (by rw [e95]; exact Bs.nil _) ⟨Rb.refl _, ?_⟩
              rfl
            refine Owed.cons ?_ ?_
            · -- 26: slot 97 := Op.binOp BinOp.add 3 (Operand.tmp 93) (Operand.tmp 96) 3
              intro a w hR F
              have e84 : a.eval (.tmp 84) = .bool true := F.new 13 84 (by kernel_rfl)
              have e93 : a.eval (.tmp 93) = .int .i64 ((0 + 0) + 0) := F.new 22 93 (by kernel_rfl)
              have e96 : a.eval (.tmp 96) = .int .i64 (0) := F.new 25 96 (by kernel_rfl)
              exact ok_bin _ _ _ _ _ rfl (wanted_true (j := 13) (d := 84) rfl (by kernel_rfl) e84) e93 e96 (run_add_i64 _ _ _ _ _ (by omega) (by omega)) ⟨Rb.refl _, rfl⟩
            refine Owed.cons ?_ ?_
            · -- 27: slot 98 := Op.binOp BinOp.eql 3 (Operand.tmp 97) (Operand.const (Value.int IntKind.i64 0)) 3
              intro a w hR F
              have e84 : a.eval (.tmp 84) = .bool true := F.new 13 84 (by kernel_rfl)
              have e97 : a.eval (.tmp 97) = .int .i64 (((0 + 0) + 0) + 0) := F.new 26 97 (by kernel_rfl)
              refine ok_bin _ _ _ _ _ rfl (wanted_true (j := 13) (d := 84) rfl (by kernel_rfl) e84) e97 rfl (run_eql_int _ _ _ _ _ _) ⟨Rb.refl _, ?_⟩
              exact congrArg Value.bool (by simp)
            refine Owed.cons ?_ ?_
            · -- 28: slot 99 := Op.pick (Operand.tmp 84) (Operand.tmp 98) (Operand.const (Value.bool false))
              intro a w hR F
              have e84 : a.eval (.tmp 84) = .bool true := F.new 13 84 (by kernel_rfl)
              have e98 : a.eval (.tmp 98) = .bool true := F.new 27 98 (by kernel_rfl)
              exact ok_pick _ _ _ true rfl (wanted_none rfl) e84 ⟨Rb.refl _, e98⟩
            refine Owed.cons ?_ ?_
            · -- 29: slot 100 := Op.move (Operand.tmp 99)
              intro a w hR F
              have e99 : a.eval (.tmp 99) = .bool true := F.new 28 99 (by kernel_rfl)
              exact ok_move _ rfl (wanted_none rfl) ⟨Rb.refl _, e99⟩
            refine Owed.cons ?_ ?_
            · -- 30: slot 101 := Op.move (Operand.tmp 15)
              intro a w hR F
              have e100 : a.eval (.tmp 100) = .bool true := F.new 29 100 (by kernel_rfl)
              have e15 : a.eval (.tmp 15) = .pointer none := F.old 15 (by kernel_rfl)
              exact ok_move _ rfl (wanted_true (j := 29) (d := 100) rfl (by kernel_rfl) e100) ⟨Rb.refl _, e15⟩
            refine Owed.cons ?_ ?_
            · -- 31: slot 102 := Op.call { callee := Callee.value (Operand.func 18), args := #[Operand.tmp 101], argTypes := #[23] }
              intro a w hR F
              have e100 : a.eval (.tmp 100) = .bool true := F.new 29 100 (by kernel_rfl)
              have e101 : a.eval (.tmp 101) = .pointer none := F.new 30 101 (by kernel_rfl)
              refine ok_call 18 _ _ #[.pointer none] rfl (wanted_true (j := 29) (d := 100) rfl (by kernel_rfl) e100) (by simp [e101]) (Try.call18 _ _) ?_
              exact val_call (clone_nil w)
            refine Owed.cons ?_ ?_
            · -- 32: slot 103 := Op.binOp BinOp.eql 23 (Operand.tmp 102) (Operand.const (Value.pointer none)) 23
              intro a w hR F
              have e100 : a.eval (.tmp 100) = .bool true := F.new 29 100 (by kernel_rfl)
              have e102 : a.eval (.tmp 102) = .pointer none := F.new 31 102 (by kernel_rfl)
              exact ok_bin _ _ _ _ _ rfl (wanted_true (j := 29) (d := 100) rfl (by kernel_rfl) e100) e102 rfl (run_eql_nils _ _ _) ⟨Rb.refl _, rfl⟩
            refine Owed.cons ?_ ?_
            · -- 33: slot 104 := Op.pick (Operand.tmp 100) (Operand.tmp 103) (Operand.const (Value.bool false))
              intro a w hR F
              have e100 : a.eval (.tmp 100) = .bool true := F.new 29 100 (by kernel_rfl)
              have e103 : a.eval (.tmp 103) = .bool true := F.new 32 103 (by kernel_rfl)
              exact ok_pick _ _ _ true rfl (wanted_none rfl) e100 ⟨Rb.refl _, e103⟩
            refine Owed.cons ?_ ?_
            · -- 34: slot 105 := Op.move (Operand.tmp 104)
              intro a w hR F
              have e104 : a.eval (.tmp 104) = .bool true := F.new 33 104 (by kernel_rfl)
              exact ok_move _ rfl (wanted_none rfl) ⟨Rb.refl _, e104⟩
            refine Owed.cons ?_ ?_
            · -- 35: slot 106 := Op.move (Operand.tmp 15)
              intro a w hR F
              have e105 : a.eval (.tmp 105) = .bool true := F.new 34 105 (by kernel_rfl)
              have e15 : a.eval (.tmp 15) = .pointer none := F.old 15 (by kernel_rfl)
              exact ok_move _ rfl (wanted_true (j := 34) (d := 105) rfl (by kernel_rfl) e105) ⟨Rb.refl _, e15⟩
            refine Owed.cons ?_ ?_
            · -- 36: slot 107 := Op.call { callee := Callee.value (Operand.func 19), args := #[Operand.tmp 106, Operand.const (Value.
              intro a w hR F
              have e105 : a.eval (.tmp 105) = .bool true := F.new 34 105 (by kernel_rfl)
              have e106 : a.eval (.tmp 106) = .pointer none := F.new 35 106 (by kernel_rfl)
              refine ok_call 19 _ _ #[.pointer none, .pointer none] rfl (wanted_true (j := 34) (d := 105) rfl (by kernel_rfl) e105) (by simp only [List.map_toArray, List.map_cons, List.map_nil, e106]; rfl) (Try.call19 _ _) ?_
              exact val_call (same_nils w)
            refine Owed.cons ?_ ?_
            · -- 37: slot 108 := Op.pick (Operand.tmp 105) (Operand.tmp 107) (Operand.const (Value.bool false))
              intro a w hR F
              have e105 : a.eval (.tmp 105) = .bool true := F.new 34 105 (by kernel_rfl)
              have e107 : a.eval (.tmp 107) = .bool true := F.new 36 107 (by kernel_rfl)
              exact ok_pick _ _ _ true rfl (wanted_none rfl) e105 ⟨Rb.refl _, e107⟩
            refine Owed.cons ?_ ?_
            · -- 38: slot 109 := Op.move (Operand.tmp 108)
              intro a w hR F
              have e108 : a.eval (.tmp 108) = .bool true := F.new 37 108 (by kernel_rfl)
              exact ok_move _ rfl (wanted_none rfl) ⟨Rb.refl _, e108⟩
            refine Owed.cons ?_ ?_
            · -- 39: slot 110 := Op.move (Operand.tmp 15)
              intro a w hR F
              have e109 : a.eval (.tmp 109) = .bool true := F.new 38 109 (by kernel_rfl)
              have e15 : a.eval (.tmp 15) = .pointer none := F.old 15 (by kernel_rfl)
              exact ok_move _ rfl (wanted_true (j := 38) (d := 109) rfl (by kernel_rfl) e109) ⟨Rb.refl _, e15⟩
            refine Owed.cons ?_ ?_
            · -- 40: slot 111 := Op.move (Operand.tmp 5)
              intro a w hR F
              have e109 : a.eval (.tmp 109) = .bool true := F.new 38 109 (by kernel_rfl)
              have e5 : a.eval (.tmp 5) = .pointer (some ⟨w0.heap.size, 0, none⟩) := F.old 5 (by kernel_rfl)
              exact ok_move _ rfl (wanted_true (j := 38) (d := 109) rfl (by kernel_rfl) e109) ⟨Rb.refl _, e5⟩
            refine Owed.cons ?_ ?_
            · -- 41: slot 112 := Op.call { callee := Callee.value (Operand.func 19), args := #[Operand.tmp 110, Operand.tmp 111], arg
              intro a w hR F
              have e109 : a.eval (.tmp 109) = .bool true := F.new 38 109 (by kernel_rfl)
              have e110 : a.eval (.tmp 110) = .pointer none := F.new 39 110 (by kernel_rfl)
              have e111 : a.eval (.tmp 111) = .pointer (some ⟨w0.heap.size, 0, none⟩) := F.new 40 111 (by kernel_rfl)
              refine ok_call 19 _ _ #[.pointer none, .pointer (some ⟨w0.heap.size, 0, none⟩)] rfl (wanted_true (j := 38) (d := 109) rfl (by kernel_rfl) e109) (by simp [e110, e111]) (Try.call19 _ _) ?_
              exact val_call (same_nil w0.heap.size w)
            refine Owed.cons ?_ ?_
            · -- 42: slot 113 := Op.unOp UnOp.not 4 (Operand.tmp 112)
              intro a w hR F
              have e109 : a.eval (.tmp 109) = .bool true := F.new 38 109 (by kernel_rfl)
              have e112 : a.eval (.tmp 112) = .bool false := F.new 41 112 (by kernel_rfl)
              exact ok_not _ _ false rfl (wanted_true (j := 38) (d := 109) rfl (by kernel_rfl) e109) e112 ⟨Rb.refl _, rfl⟩
            refine Owed.cons ?_ ?_
            · -- 43: slot 114 := Op.pick (Operand.tmp 109) (Operand.tmp 113) (Operand.const (Value.bool false))
              intro a w hR F
              have e109 : a.eval (.tmp 109) = .bool true := F.new 38 109 (by kernel_rfl)
              have e113 : a.eval (.tmp 113) = .bool true := F.new 42 113 (by kernel_rfl)
              exact ok_pick _ _ _ true rfl (wanted_none rfl) e109 ⟨Rb.refl _, e113⟩
            refine Owed.cons ?_ ?_
            · -- 44: slot 115 := Op.move (Operand.tmp 114)
              intro a w hR F
              have e114 : a.eval (.tmp 114) = .bool true := F.new 43 114 (by kernel_rfl)
              exact ok_move _ rfl (wanted_none rfl) ⟨Rb.refl _, e114⟩
            refine Owed.cons ?_ ?_
            · -- 45: slot 116 := Op.call { callee := Callee.value (Operand.func 13), args := #[], argTypes := #[] }
              intro a w hR F
              have e115 : a.eval (.tmp 115) = .bool true := F.new 44 115 (by kernel_rfl)
              refine ok_call 13 _ _ #[] rfl (wanted_true (j := 44) (d := 115) rfl (by kernel_rfl) e115) (by simp) (Try.call13 _ _) ?_
              exact val_call_rb (lives_any w)
            refine Owed.cons ?_ ?_
            · -- 46: slot 117 := Op.pick (Operand.tmp 115) (Operand.tmp 116) (Operand.const (Value.bool false))
              intro a w hR F
              have e115 : a.eval (.tmp 115) = .bool true := F.new 44 115 (by kernel_rfl)
              have e116 : a.eval (.tmp 116) = .bool true := F.new 45 116 (by kernel_rfl)
              exact ok_pick _ _ _ true rfl (wanted_none rfl) e115 ⟨Rb.refl _, e116⟩
            refine Owed.cons ?_ ?_
            · -- 47: slot 4 := Op.assign (Operand.tmp 117)
              intro a w hR F
              have e117 : a.eval (.tmp 117) = .bool true := F.new 46 117 (by kernel_rfl)
              exact ok_assign _ rfl (wanted_none rfl) ⟨Rb.refl _, e117⟩
            exact Owed.nil
          case fin =>
            intro y w2 hR hy
            have e47 : y 47 = .bool true := hy 47 _ rfl
            have HR := Lib.hid hR
            clear hy hR
            simp only [putAll, Act.put, List.setIfInBounds_toArray, List.set_cons_zero, List.set_cons_succ]
            rw [e47]
            clear e47
            go_wp2
            go_ret
            exact ⟨rfl, HB.out.trans (Below.mono HR.out HSZ.out)⟩
end Go.Proofs.Ytbillojamaiagaa
