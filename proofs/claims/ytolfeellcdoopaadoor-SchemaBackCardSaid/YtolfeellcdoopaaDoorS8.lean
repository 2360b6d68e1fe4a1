/-
  Layer 6: the document's Check.
-/
import Derived.Test.YtolfeellcdoopaaDoorS7
namespace Go.Proofs.YtolfeellcdoopaaDoor.L6
open Go.ChangeShapes Go.WideShapes Go.ChangeAt Go.RowKit Oct By Reg Val
set_option linter.unusedVariables false
set_option linter.unusedSimpArgs false

theorem any_succ {l : List ByteArray} {s x : ByteArray} {j : Nat} {r : Bool} (hj : j < l.length) (hx : x = l[j]) (h : r = (l.take j).any (fun y => eqS y s)) : (r || eqS x s) = (l.take (j + 1)).any (fun y => eqS y s) := by
  rw [List.take_succ_eq_append_getElem hj, List.any_append, ← h, ← hx]
  simp
theorem dup_of {α : Type} {f : α → ByteArray} {L : List α} {s : ByteArray} {k : Nat} {r : Bool} (h : r = ((L.map f).take k).any (fun y => eqS y s)) : r = dup s ((L.take k).map f) := by
  rw [h, dup_any, List.map_take]

set_option maxRecDepth 100000 in
set_option maxHeartbeats 8000000 in
theorem refcheck_any (L : List TabD) (v : Value) (w : World) (h : Tabs w v L) (hok : ∀ t ∈ L, TabOk t) :
    Calls Tryd.prog 11 #[v] w fun e w' => e = .returned (tupII (checkD L)) ∧ Rb w w' := by
  have h0 := h
  obtain ⟨⟨ao, cap, rfl, h1, h2, hr⟩, hin⟩ := h0
  unfold maxLen at h2
  by_cases h8 : 8 < L.length
  · have Hp := Lib.hid (show checkD L = (2, 0) by unfold checkD; rw [if_pos h8])
    clear hr h hok hin
    go_enter Tryd.func11, Tryd.ntmps11
    go_wp2
    go_ret2
    exact ⟨by rw [Hp.out]; rfl, Rb.refl _⟩
  obtain ⟨E, hE⟩ : ∃ E, E = checkD L := ⟨_, rfl⟩
  rw [← hE]
  unfold checkD at hE
  rw [if_neg h8] at hE
  have HE := Lib.hid hE
  have HH := Lib.hid h
  have HR := Lib.hid hr
  have HOK := Lib.hid hok
  have hln : (namesT L).length = L.length := by simp
  have Hln := Lib.hid hln
  clear hr h hok hin hE hln
  go_enter Tryd.func11, Tryd.ntmps11
  go_wp2
  go_loopw [19] (fun i wr => ∃ k : Nat, k ≤ L.length ∧ i = .int .i64 k ∧ Hid (E = errTabs (namesT (L.take k)) (L.drop k)) ∧ Rb w wr) (fun i _ => L.length - (intOf i).toNat)
  case atStart => exact ⟨0, Nat.zero_le _, rfl, by show E = _; rw [HE.out]; simp, Rb.refl _⟩
  case round =>
    obtain ⟨k, hk, rfl, ha, hb⟩ := hrel
    have HB := Lib.hid hb
    by_cases hlt : k < L.length
    · obtain ⟨b, o, rfl, hc⟩ := HR.out (by omega)
      obtain ⟨z0, z1, z2⟩ := hc k hlt
      have y0 := cell_rb hb z0
      have y1 := cell_rb hb z1
      have y2 := cell_rb hb z2
      obtain ⟨t, ht⟩ : ∃ t, t = L[k] := ⟨_, rfl⟩
      rw [← ht] at y0 y1 y2
      obtain ⟨p1, p2⟩ := errTabs_drop hlt ht ha.out
      have P1 := Lib.hid p1
      have P2 := Lib.hid p2
      have HC := Lib.hid hc
      have HT := Lib.hid (HOK.out t (by rw [ht]; exact List.getElem_mem hlt))
      have htin : TabIn w t := by rw [ht]; exact HH.out.2 _ (List.getElem_mem hlt)
      clear z0 z1 z2 hc p1 p2 hb ha ht
      obtain ⟨nm, rws, cv, cols⟩ := t
      obtain ⟨co, ccap, rfl, hcc1, hcc2⟩ := htin.form
      dsimp only at y0 y1 y2
      have HTI := Lib.hid htin
      unfold maxLen at hcc2
      clear htin
      obtain ⟨ec, hec⟩ : ∃ ec, ec = errTab (namesT (L.take k)) ⟨nm, rws, .slice co cols.length ccap, cols⟩ := ⟨_, rfl⟩
      rw [← hec] at P1 P2
      unfold errTab at hec
      dsimp only at hec
      have HEC := Lib.hid hec
      have r0 : -9223372036854775808 ≤ rws := HT.out.r0
      have r1 : rws ≤ 9223372036854775807 := HT.out.r1
      clear hec
      go_wp2_with (refine wpList_store rfl 25 _ _ rfl wr.heap.size 0 _ _ [_, _, _] _ rfl rfl (Blk.new wr 25 [_, _, _]) rfl sizeT (by simp) (oneT _ _ _ _ _) ?_)
      intro w1 hb1 hw1
      have hr2 := Rb.trans _ _ _ HB.out hw1.rb_new
      have HB2 := Lib.hid hr2
      obtain ⟨x0, x1, x2⟩ := hb1.c3
      have X0 := Lib.hid x0
      have X1 := Lib.hid x1
      have X2 := Lib.hid x2
      generalize wr.heap.size = TB at *
      have c1 : (k : Int) ≤ (cap : Int) := by omega
      clear hb1 hw1 y0 y1 y2 hr2 x1 x2
      go_wp2
      go_loopw [6, 28] (fun p q w3 => ∃ j : Nat, j ≤ k ∧ q = .int .i64 j ∧ (∃ r, p = .bool r ∧ Hid (r = ((namesT L).take j).any (fun y => eqS y nm))) ∧ Rb w1 w3) (fun _ q _ => k - (intOf q).toNat)
      case atStart => exact ⟨0, Nat.zero_le _, rfl, ⟨false, rfl, rfl⟩, Rb.refl _⟩
      case round =>
        obtain ⟨j, hj, rfl, ⟨r, rfl, hjr⟩, hb3⟩ := hrel
        have HB3 := Lib.hid hb3
        have u0 := cell_rb hb3 X0.out
        clear x0
        by_cases hjk : j < k
        · have hjl : j < L.length := by omega
          obtain ⟨z0, z1, z2⟩ := HC.out j hjl
          have y0 := cell_rb (Rb.trans _ _ _ HB2.out hb3) z0
          have y1 := cell_rb (Rb.trans _ _ _ HB2.out hb3) z1
          have y2 := cell_rb (Rb.trans _ _ _ HB2.out hb3) z2
          obtain ⟨t, ht⟩ : ∃ t, t = L[j] := ⟨_, rfl⟩
          rw [← ht] at y0 y1 y2
          have htin : TabIn w t := by rw [ht]; exact HH.out.2 _ (List.getElem_mem hjl)
          have hsu := Lib.hid (any_succ (s := nm) (x := t.name) (by rw [Hln.out]; exact hjl) (by rw [List.getElem_map, ht]) hjr.out)
          clear z0 z1 z2 hb3 ht
          obtain ⟨nm2, rws2, cv2, cols2⟩ := t
          obtain ⟨co2, ccap2, rfl, hcc3, hcc4⟩ := htin.form
          dsimp only at y0 y1 y2 hsu
          clear htin hcc3 hcc4
          clear u0
          have u0 := cell_rb HB3.out X0.out
          go_wp2_with (refine wpList_store rfl 25 _ _ rfl wr.heap.size 0 _ _ [_, _, _] _ rfl rfl (Blk.new wr 25 [_, _, _]) rfl sizeT (by simp) (oneT _ _ _ _ _) ?_)
          intro w4 hb4 hw4
          have HB4 := Lib.hid (Rb.trans _ _ _ HB3.out hw4.rb_new)
          obtain ⟨q0, q1, q2⟩ := hb4.c3
          have s0 := cell_rb hw4.rb_new u0
          clear hb4 hw4 y0 y1 y2 q1 q2 u0
          cases r with
          | true =>
            go_wp2
            go_roundw
            case rel => exact ⟨j + 1, by omega, by go_num, ⟨true, rfl, by show true = _; rw [← hsu.out]; rfl⟩, HB4.out⟩
            case measure => simp [intOf]; omega
          | false =>
            obtain ⟨q, hq⟩ : ∃ q, q = eqS nm2 nm := ⟨_, rfl⟩
            rw [← hq] at hsu
            have hq' : (nm2.toList == nm.toList) = q := by rw [hq]; rfl
            clear hq
            go_wp2
            go_roundw
            case rel => exact ⟨j + 1, by omega, by go_num, ⟨q, rfl, by show q = _; rw [← hsu.out]; rfl⟩, HB4.out⟩
            case measure => simp [intOf]; omega
        · obtain rfl : j = k := by omega
          have hd := dup_of (f := fun t : TabD => t.name) hjr.out
          have HD := Lib.hid hd
          have HB4 := Lib.hid (Rb.trans _ _ _ HB2.out hb3)
          have hnm := refname_any nm wr HT.out.name
          have u1 := Lib.hid (cell_rb hb3 X1.out)
          have u2 := Lib.hid (cell_rb hb3 X2.out)
          have U0 := Lib.hid u0
          clear hb3 hjr hd HB3
          go_wp2_with fail
          refine hnm.mono ?_
          rintro e w2 ⟨rfl, hb4⟩
          have HB5 := Lib.hid (Rb.trans _ _ _ HB4.out hb4)
          have v0 := cell_rb hb4 U0.out
          have v1 := cell_rb hb4 u1.out
          have v2 := cell_rb hb4 u2.out
          clear hb4 hnm u0 u1 u2 U0 HB4 HB2 X0 X1 X2
          cases hn : nameB nm with
          | false =>
            have hp : ec = 20 := by rw [HEC.out, hn]; simp
            have Hp := Lib.hid (P1.out (by omega))
            rw [hp] at Hp
            clear hp hn
            go_wp2
            go_ret2
            exact ⟨by rw [Hp.out]; rfl, HB5.out⟩
          | true =>
            cases r with
            | true =>
              have hp : ec = 20 := by rw [HEC.out, show dup nm (namesT (List.take j L)) = true from HD.out.symm]; rfl
              have Hp := Lib.hid (P1.out (by omega))
              rw [hp] at Hp
              clear hp hn
              go_wp2
              go_ret2
              exact ⟨by rw [Hp.out]; rfl, HB5.out⟩
            | false =>
              have hec2 := HEC.out
              rw [show dup nm (namesT (List.take j L)) = false from HD.out.symm, hn, if_neg (by decide)] at hec2
              clear hn
              by_cases hrw : rws < 1 ∨ 64 < rws
              · rw [if_pos hrw] at hec2
                have Hp := Lib.hid (P1.out (by omega))
                rw [hec2] at Hp
                clear hec2
                by_cases h1 : rws < 1
                · clear hrw
                  go_wp2
                  go_ret2
                  exact ⟨by rw [Hp.out]; rfl, HB5.out⟩
                · have h2 : 64 < rws := by omega
                  clear hrw
                  go_wp2
                  go_ret2
                  exact ⟨by rw [Hp.out]; rfl, HB5.out⟩
              · rw [if_neg hrw] at hec2
                have e1 : ¬ rws < 1 := by omega
                have e2 : ¬ 64 < rws := by omega
                clear hrw
                by_cases hcl : cols.length = 0 ∨ 8 < cols.length
                · rw [if_pos hcl] at hec2
                  have Hp := Lib.hid (P1.out (by omega))
                  rw [hec2] at Hp
                  clear hec2
                  by_cases h3 : cols.length = 0
                  · rw [h3] at v2
                    clear hcl h3
                    go_wp2
                    go_ret2
                    exact ⟨by rw [Hp.out]; rfl, HB5.out⟩
                  · have h5 : 8 < cols.length := by omega
                    have h6 : ¬ (cols.length : Int) < 1 := by omega
                    clear hcl h3
                    go_wp2
                    go_ret2
                    exact ⟨by rw [Hp.out]; rfl, HB5.out⟩
                · rw [if_neg hcl] at hec2
                  have h5 : ¬ 8 < cols.length := by omega
                  have h6 : ¬ (cols.length : Int) < 1 := by omega
                  have HE2 := Lib.hid hec2
                  have HCO := Lib.hid HT.out.cols
                  have hti := HTI.out
                  obtain ⟨co', ccap', ee, _, _, hcr⟩ := hti
                  simp only [Value.slice.injEq] at ee
                  obtain ⟨rfl, _, rfl⟩ := ee
                  obtain ⟨cb, coff, rfl, hcells⟩ := hcr (show 0 < cols.length by omega)
                  dsimp only at hcells
                  have HCC := Lib.hid hcells
                  have hlc : (namesC cols).length = cols.length := by simp
                  have Hlc := Lib.hid hlc
                  have V0 := Lib.hid v0
                  have V2 := Lib.hid v2
                  clear hec2 hcl hcells hlc HTI HT HEC HD
                  go_wp2
                  clear v2 v1 v0
                  go_loopw [72] (fun i w5 => ∃ m : Nat, m ≤ cols.length ∧ i = .int .i64 m ∧ Hid (errCols [] cols = errCols (namesC (cols.take m)) (cols.drop m)) ∧ Rb w2 w5) (fun i _ => cols.length - (intOf i).toNat)
                  case atStart => exact ⟨0, Nat.zero_le _, rfl, by show errCols [] cols = _; simp, Rb.refl _⟩
                  case round =>
                    obtain ⟨m, hm, rfl, hma, hmb⟩ := hrel
                    have HMB := Lib.hid hmb
                    have v2 := cell_rb hmb V2.out
                    by_cases hml : m < cols.length
                    · obtain ⟨z0, z1, z2⟩ := HCC.out m hml
                      have hwr := Rb.trans _ _ _ HB5.out hmb
                      have y0 := cell_rb hwr z0
                      have y1 := cell_rb hwr z1
                      have y2 := cell_rb hwr z2
                      obtain ⟨c, hc⟩ : ∃ c, c = cols[m] := ⟨_, rfl⟩
                      rw [← hc] at y0 y1 y2
                      obtain ⟨p1, p2, p3⟩ := errCols_drop hml hc hma.out
                      have Q1 := Lib.hid p1
                      have Q2 := Lib.hid p2
                      have Q3 := Lib.hid p3
                      have HCK := Lib.hid (HCO.out c (by rw [hc]; exact List.getElem_mem hml))
                      clear z0 z1 z2 p1 p2 p3 hma hc hmb
                      obtain ⟨cn, ck, cm⟩ := c
                      dsimp only at y0 y1 y2 Q1 Q2 Q3
                      go_wp2_with (refine wpList_store rfl 57 _ _ rfl wr.heap.size 0 _ _ [_, _, _] _ rfl rfl (Blk.new wr 57 [_, _, _]) rfl sizeC (by simp) (oneC _ _ _) ?_)
                      intro w6 hb6 hw6
                      have hr6 := Rb.trans _ _ _ HMB.out hw6.rb_new
                      have HB6 := Lib.hid hr6
                      obtain ⟨x0, x1, x2⟩ := hb6.c3
                      have X0 := Lib.hid x0
                      have X1 := Lib.hid x1
                      have X2 := Lib.hid x2
                      have t2 := cell_rb hw6.rb_new v2
                      generalize wr.heap.size = CB at *
                      have c2 : (m : Int) ≤ (ccap : Int) := by omega
                      clear hb6 hw6 y0 y1 y2 hr6 x1 x2 hwr v2 x0
                      go_wp2
                      clear t2
                      go_loopw [11, 82] (fun p q w7 => ∃ i : Nat, i ≤ m ∧ q = .int .i64 i ∧ (∃ r, p = .bool r ∧ Hid (r = ((namesC cols).take i).any (fun y => eqS y cn))) ∧ Rb w6 w7) (fun _ q _ => m - (intOf q).toNat)
                      case atStart => exact ⟨0, Nat.zero_le _, rfl, ⟨false, rfl, rfl⟩, Rb.refl _⟩
                      case round =>
                        obtain ⟨i, hi, rfl, ⟨r, rfl, hir⟩, hb7⟩ := hrel
                        have HB7 := Lib.hid hb7
                        have u0 := cell_rb hb7 X0.out
                        by_cases him : i < m
                        · have hil : i < cols.length := by omega
                          obtain ⟨z0, z1, z2⟩ := HCC.out i hil
                          have hw7 := Rb.trans _ _ _ HB5.out (Rb.trans _ _ _ HB6.out hb7)
                          have y0 := cell_rb hw7 z0
                          have y1 := cell_rb hw7 z1
                          have y2 := cell_rb hw7 z2
                          obtain ⟨d, hd⟩ : ∃ d, d = cols[i] := ⟨_, rfl⟩
                          rw [← hd] at y0 y1 y2
                          have hsu := Lib.hid (any_succ (s := cn) (x := d.name) (by rw [Hlc.out]; exact hil) (by rw [List.getElem_map, hd]) hir.out)
                          clear z0 z1 z2 hb7 hd hw7
                          obtain ⟨dn, dk, dm⟩ := d
                          dsimp only at y0 y1 y2 hsu
                          go_wp2_with (refine wpList_store rfl 57 _ _ rfl wr.heap.size 0 _ _ [_, _, _] _ rfl rfl (Blk.new wr 57 [_, _, _]) rfl sizeC (by simp) (oneC _ _ _) ?_)
                          intro w8 hb8 hw8
                          have HB8 := Lib.hid (Rb.trans _ _ _ HB7.out hw8.rb_new)
                          obtain ⟨q0, q1, q2⟩ := hb8.c3
                          have s0 := cell_rb hw8.rb_new u0
                          clear hb8 hw8 y0 y1 y2 q1 q2 u0
                          cases r with
                          | true =>
                            go_wp2
                            go_roundw
                            case rel => exact ⟨i + 1, by omega, by go_num, ⟨true, rfl, by show true = _; rw [← hsu.out]; rfl⟩, HB8.out⟩
                            case measure => simp [intOf]; omega
                          | false =>
                            obtain ⟨q, hq⟩ : ∃ q, q = eqS dn cn := ⟨_, rfl⟩
                            rw [← hq] at hsu
                            have hq' : (dn.toList == cn.toList) = q := by rw [hq]; rfl
                            clear hq
                            go_wp2
                            go_roundw
                            case rel => exact ⟨i + 1, by omega, by go_num, ⟨q, rfl, by show q = _; rw [← hsu.out]; rfl⟩, HB8.out⟩
                            case measure => simp [intOf]; omega
                        · obtain rfl : i = m := by omega
                          have hd := dup_of (f := fun t : ColD => t.name) hir.out
                          have HD := Lib.hid hd
                          have HB8 := Lib.hid (Rb.trans _ _ _ HB6.out hb7)
                          have hnm := refname_any cn wr HCK.out.name
                          have u1 := Lib.hid (cell_rb hb7 X1.out)
                          have u2 := Lib.hid (cell_rb hb7 X2.out)
                          clear hb7 hir hd HB7
                          go_wp2_with fail
                          refine hnm.mono ?_
                          rintro e w9 ⟨rfl, hb9⟩
                          have HB9 := Lib.hid (Rb.trans _ _ _ HB8.out hb9)
                          have v0 := cell_rb hb9 u0
                          have v1 := cell_rb hb9 u1.out
                          have v2 := cell_rb hb9 u2.out
                          clear hb9 hnm u0 u1 u2 HB8 HB6 X0 X1 X2
                          cases hn : nameB cn with
                          | false =>
                            have hp : errCols [] cols = 20 := Q1.out (by rw [hn]; simp)
                            have hp2 : ec = 20 := by rw [HE2.out, hp]
                            have Hp := Lib.hid (P1.out (by omega))
                            rw [hp2] at Hp
                            clear hp hn hp2
                            go_wp2
                            go_ret2
                            exact ⟨by rw [Hp.out]; rfl, Rb.trans _ _ _ HB5.out HB9.out⟩
                          | true =>
                            cases r with
                            | true =>
                              have hp : errCols [] cols = 20 := Q1.out (by rw [show dup cn (namesC (List.take i cols)) = true from HD.out.symm]; rfl)
                              have hp2 : ec = 20 := by rw [HE2.out, hp]
                              have Hp := Lib.hid (P1.out (by omega))
                              rw [hp2] at Hp
                              clear hp hn hp2
                              go_wp2
                              go_ret2
                              exact ⟨by rw [Hp.out]; rfl, Rb.trans _ _ _ HB5.out HB9.out⟩
                            | false =>
                              have hgo : (dup cn (namesC (List.take i cols)) || !nameB cn) = false := by rw [show dup cn (namesC (List.take i cols)) = false from HD.out.symm, hn]; rfl
                              have HGO := Lib.hid hgo
                              have hrt := refrighttype_any ck cm w9
                              clear hgo hn
                              go_wp2_with fail
                              refine hrt.mono ?_
                              rintro e w10 ⟨rfl, hb10⟩
                              have HB10 := Lib.hid (Rb.trans _ _ _ HB9.out hb10)
                              clear hb10 hrt v0 v1 v2
                              cases hrt : rightTypeB ck cm with
                              | false =>
                                have hp : errCols [] cols = 21 := Q2.out HGO.out hrt
                                have hp2 : ec = 21 := by rw [HE2.out, hp]
                                have Hp := Lib.hid (P1.out (by omega))
                                rw [hp2] at Hp
                                clear hp hrt hp2
                                go_wp2
                                go_ret2
                                exact ⟨by rw [Hp.out]; rfl, Rb.trans _ _ _ HB5.out HB10.out⟩
                              | true =>
                                have Hp := Lib.hid (Q3.out HGO.out hrt)
                                clear hrt
                                go_wp2
                                go_roundw
                                case rel => exact ⟨i + 1, by omega, by go_num, Hp.out, HB10.out⟩
                                case measure => simp [intOf]; omega
                    · have hp : errCols [] cols = 0 := by rw [hma.out, List.drop_eq_nil_of_le (by omega)]; rfl
                      have Hp := Lib.hid (P2.out (by rw [HE2.out, hp]))
                      have HW := Lib.hid (Rb.trans _ _ _ HB5.out hmb)
                      clear hp hma hmb v2
                      go_wp2
                      go_roundw
                      case rel => exact ⟨j + 1, by omega, by go_num, Hp.out, HW.out⟩
                      case measure => simp [intOf]; omega
    · have Hp : Hid (E = (0, 0)) := by
        show E = _
        rw [ha.out, List.drop_eq_nil_of_le (by omega)]; rfl
      clear ha hb
      go_wp2
      go_ret2
      exact ⟨by rw [Hp.out]; rfl, HB.out⟩
end Go.Proofs.YtolfeellcdoopaaDoor.L6
