/-
  Layer 6: Check.
-/
import Derived.Test.YtolfeellcdoopaaDoorS5
namespace Go.Proofs.YtolfeellcdoopaaDoor.L6
open Go.ChangeShapes Go.WideShapes Go.ChangeAt Go.RowKit Oct By Reg Val
set_option linter.unusedVariables false
set_option linter.unusedSimpArgs false

set_option maxRecDepth 100000 in
set_option maxHeartbeats 2000000 in
theorem checktable_any (L : List TabD) (v : Value) (t : TabD) (w : World) (h : Tabs w v L) (ht : TabIn w t) (hok : TabOk t) :
    Calls Tryd.prog 35 #[v, tabV t] w fun e w' => e = .returned (.int .i64 (errTab (namesT L) t)) ∧ Rb w w' := by
  obtain ⟨nm, rws, cv, cols⟩ := t
  have ht0 := ht
  obtain ⟨co, ccap, rfl, hc1, hc2⟩ := ht0.form
  clear ht0
  unfold maxLen at hc2
  have hr : Rb w (w.alloc (.cells #[.string nm, .int .i64 rws, .slice co cols.length ccap] 25)) := (Below.refl _ w).alloc (Nat.le_refl _) _
  have hfc := findT_any L v nm _ (h.rb hr)
  have HR := Lib.hid hr
  have HCC := Lib.hid (fun w' (hw : Rb w w') => checkcols_any cols _ w' (Row3.rb ht hw) hok.cols)
  have HIN := Lib.hid (fun w' => isname_any nm w' hok.name)
  obtain ⟨E, hE⟩ : ∃ E, E = errTab (namesT L) ⟨nm, rws, .slice co cols.length ccap, cols⟩ := ⟨_, rfl⟩
  rw [← hE]
  unfold errTab at hE
  dsimp only at hE
  obtain ⟨dd, hdd⟩ : ∃ dd, dd = dup nm (namesT L) := ⟨_, rfl⟩
  rw [← hdd] at hfc hE
  generalize idxN nm (namesT L) = q at hfc
  have HE := Lib.hid hE
  have HO := Lib.hid hok
  have r0 : -9223372036854775808 ≤ rws := hok.r0
  have r1 : rws ≤ 9223372036854775807 := hok.r1
  clear hr hE hok ht h hdd hc1
  go_enter Tryd.func35, Tryd.ntmps35
  go_wp2_with fail
  refine hfc.mono ?_
  rintro e w2 ⟨rfl, hb2⟩
  have HB2 := Lib.hid (Rb.trans _ _ _ HR.out hb2)
  have u0 := cell_rb (a := ⟨w.heap.size, 0, none⟩) (v := .string nm) hb2 (by simp)
  have u1 := cell_rb (a := ⟨w.heap.size, 1, none⟩) (v := .int .i64 rws) hb2 (by simp)
  have u2 := cell_rb (a := ⟨w.heap.size, 2, none⟩) (v := .slice co cols.length ccap) hb2 (by simp)
  have hin := HIN.out w2
  have hcc := HCC.out w2 HB2.out
  clear hfc hb2
  cases hd : dd with
  | true =>
    have Hp := Lib.hid (show E = 20 by rw [HE.out, hd]; rfl)
    clear hin hd hcc
    go_wp2
    go_ret
    exact ⟨ret_i64 Hp.out.symm, HB2.out⟩
  | false =>
    cases hn : nameB nm with
    | false =>
      have Hp := Lib.hid (show E = 20 by rw [HE.out, hd, hn]; rfl)
      rw [hn] at hin
      clear hd hn hcc
      go_wp2_with (go_at_call 13; refine hin.mono ?_; rintro e w ⟨rfl, rfl⟩)
      go_ret
      exact ⟨ret_i64 Hp.out.symm, HB2.out⟩
    | true =>
      rw [hn] at hin
      by_cases hrw : rws < 1 ∨ 64 < rws
      · have Hp := Lib.hid (show E = 22 by rw [HE.out, hd, hn, if_neg (by decide), if_pos hrw])
        clear hd hn hcc
        by_cases h1 : rws < 1
        · clear hrw
          go_wp2_with (go_at_call 13; refine hin.mono ?_; rintro e w ⟨rfl, rfl⟩)
          go_ret
          exact ⟨ret_i64 Hp.out.symm, HB2.out⟩
        · have h2 : 64 < rws := by omega
          clear hrw
          go_wp2_with (go_at_call 13; refine hin.mono ?_; rintro e w ⟨rfl, rfl⟩)
          go_ret
          exact ⟨ret_i64 Hp.out.symm, HB2.out⟩
      · by_cases hcl : cols.length = 0 ∨ 8 < cols.length
        · have Hp := Lib.hid (show E = 2 by rw [HE.out, hd, hn, if_neg (by decide), if_neg hrw, if_pos hcl])
          have h1 : ¬ rws < 1 := by omega
          have h2 : ¬ 64 < rws := by omega
          clear hd hn hcc hrw
          by_cases h3 : cols.length = 0
          · have h4 : ((cols.length : Int) == 0) = true := by rw [h3]; rfl
            rw [h3] at u2 h4
            clear hcl h3
            go_wp2_with (go_at_call 13; refine hin.mono ?_; rintro e w ⟨rfl, rfl⟩)
            go_ret
            exact ⟨ret_i64 Hp.out.symm, HB2.out⟩
          · have h4 : ((cols.length : Int) == 0) = false := by rw [beq_eq_false_iff_ne]; omega
            have h5 : 8 < cols.length := by omega
            clear hcl h3
            go_wp2_with (go_at_call 13; refine hin.mono ?_; rintro e w ⟨rfl, rfl⟩)
            go_ret
            exact ⟨ret_i64 Hp.out.symm, HB2.out⟩
        · have Hp := Lib.hid (show E = errCols [] cols by rw [HE.out, hd, hn, if_neg (by decide), if_neg hrw, if_neg hcl])
          have h1 : ¬ rws < 1 := by omega
          have h2 : ¬ 64 < rws := by omega
          have h4 : ((cols.length : Int) == 0) = false := by rw [beq_eq_false_iff_ne]; omega
          have h5 : ¬ 8 < cols.length := by omega
          clear hd hn hrw hcl
          generalize errCols [] cols = ec at *
          go_wp2_with (go_at_call 13; refine hin.mono ?_; rintro e w ⟨rfl, rfl⟩)
          refine hcc.mono ?_
          rintro e w3 ⟨rfl, hb3⟩
          have HB3 := Lib.hid (Rb.trans _ _ _ HB2.out hb3)
          clear hb3 u0 u1 u2
          go_wp2
          go_ret
          exact ⟨ret_i64 Hp.out.symm, HB3.out⟩
end Go.Proofs.YtolfeellcdoopaaDoor.L6
