/-
  Layer 6: Check, whole.
-/
import Derived.Test.YtolfeellcdoopaaDoorS6
namespace Go.Proofs.YtolfeellcdoopaaDoor.L6
open Go.ChangeShapes Go.WideShapes Go.ChangeAt Go.RowKit Oct By Reg Val
set_option linter.unusedVariables false
set_option linter.unusedSimpArgs false

abbrev tupII (p : Int × Int) : Value := .tuple #[.int .i64 p.1, .int .i64 p.2]
set_option maxRecDepth 100000 in
set_option maxHeartbeats 2000000 in
theorem check_any (L : List TabD) (v : Value) (w : World) (h : Tabs w v L) (hok : ∀ t ∈ L, TabOk t) :
    Calls Tryd.prog 10 #[v] w fun e w' => e = .returned (tupII (checkD L)) ∧ Rb w w' := by
  have h0 := h
  obtain ⟨⟨ao, cap, rfl, h1, h2, hr⟩, hin⟩ := h0
  unfold maxLen at h2
  by_cases h8 : 8 < L.length
  · have Hp := Lib.hid (show checkD L = (2, 0) by unfold checkD; rw [if_pos h8])
    clear hr h hok hin
    go_enter Tryd.func10, Tryd.ntmps10
    go_wp2
    go_ret2
    exact ⟨by rw [Hp.out]; rfl, Rb.refl _⟩
  obtain ⟨E, hE⟩ : ∃ E, E = checkD L := ⟨_, rfl⟩
  rw [← hE]
  unfold checkD at hE
  rw [if_neg h8] at hE
  have HE := Lib.hid hE
  have HH := Lib.hid h
  have HIN := Lib.hid hin
  have HR := Lib.hid hr
  have HOK := Lib.hid hok
  clear hr h hok hin hE
  go_enter Tryd.func10, Tryd.ntmps10
  go_wp2
  go_loopw [12] (fun i wr => ∃ k : Nat, k ≤ L.length ∧ i = .int .i64 k ∧ Hid (E = errTabs (namesT (L.take k)) (L.drop k)) ∧ Rb w wr) (fun i _ => L.length - (intOf i).toNat)
  case atStart => exact ⟨0, Nat.zero_le _, rfl, by show E = _; rw [HE.out]; simp, Rb.refl _⟩
  case round =>
    obtain ⟨k, hk, rfl, ha, hb⟩ := hrel
    have HB := Lib.hid hb
    by_cases hlt : k < L.length
    · obtain ⟨b, o, rfl, hc⟩ := HR.out (by omega)
      obtain ⟨z0, z1, z2⟩ := hc k hlt
      have y0 := cell_rb hb z0
      have y1 := cell_rb hb z1
      have y2 := cell_rb hb z2
      obtain ⟨t, ht⟩ : ∃ t, t = L[k] := ⟨_, rfl⟩
      rw [← ht] at y0 y1 y2
      obtain ⟨p1, p2⟩ := errTabs_drop hlt ht ha.out
      have P1 := Lib.hid p1
      have P2 := Lib.hid p2
      have HP : Hid (∀ w', Rb w w' → Tabs w' (.slice (some ⟨b, o, none⟩) k cap) (L.take k)) := fun w' hw =>
        Tabs.rb ⟨Row3.take HH.out.1 k hk, fun t ht => HH.out.2 t (List.mem_of_mem_take ht)⟩ hw
      have HT := Lib.hid (HOK.out t (by rw [ht]; exact List.getElem_mem hlt))
      have htin : TabIn w t := by rw [ht]; exact HH.out.2 _ (List.getElem_mem hlt)
      have HCT := Lib.hid (fun w' (hw : Rb w w') => checktable_any _ _ t w' (HP.out w' hw) (htin.rb hw) HT.out)
      generalize errTab (namesT (L.take k)) t = ec at *
      clear z0 z1 z2 hc p1 p2 hb ha ht
      obtain ⟨nm, rws, cv, cols⟩ := t
      obtain ⟨co, ccap, rfl, hcc⟩ := htin.form
      dsimp only at y0 y1 y2
      clear hcc htin
      go_wp2_with (refine wpList_store rfl 25 _ _ rfl wr.heap.size 0 _ _ [_, _, _] _ rfl rfl (Blk.new wr 25 [_, _, _]) rfl sizeT (by simp) (oneT _ _ _ _ _) ?_)
      intro w1 hb1 hw1
      have hr2 := Rb.trans _ _ _ HB.out hw1.rb_new
      have HB2 := Lib.hid hr2
      obtain ⟨x0, x1, x2⟩ := hb1.c3
      have c1 : (k : Int) ≤ (cap : Int) := by omega
      have hcl := fun w' (hw : Rb w1 w') => HCT.out w' (Rb.trans _ _ _ hr2 hw)
      clear hb1 hw1 y0 y1 y2 hr2
      go_upto_region 6 with (fail)
      have mixed : Tryd.prog.follows Departure.mixedOrders = true := by kernel_rfl
      go_cut [6] from 17 (fun s6 wr => s6 = .int .i64 ec ∧ Rb w1 wr)
      · rename_i J K' hJ hK
        go_region_with (go_at_call 35; refine (hcl _ (by first | exact Rb.refl _ | exact Rb.drew _)).mono ?_; rintro e w2 ⟨rfl, hb2⟩)
        all_goals
          go_wp2_with fail
          go_meet
          exact ⟨rfl, Rb.trans _ _ _ (Rb.drew w1) hb2⟩
      obtain ⟨rfl, hr3⟩ := hcut
      generalize wc = w2 at *
      have HB3 := Lib.hid (Rb.trans _ _ _ HB2.out hr3)
      clear hcl x0 x1 x2 hr3
      by_cases he : ec = 0
      · have Hp := Lib.hid (P2.out he)
        have hb0 : (ec == 0) = true := by rw [he]; rfl
        subst he
        go_wp2
        go_roundw
        case rel => exact ⟨k + 1, by omega, by go_num, Hp.out, HB3.out⟩
        case measure => simp [intOf]; omega
      · have Hp := Lib.hid (P1.out he)
        have hb0 : (ec == 0) = false := by rw [beq_eq_false_iff_ne]; exact he
        go_wp2
        go_ret2
        exact ⟨by rw [Hp.out]; rfl, HB3.out⟩
    · have Hp : Hid (E = (0, 0)) := by
        show E = _
        rw [ha.out, List.drop_eq_nil_of_le (by omega)]; rfl
      clear ha hb
      go_wp2
      go_ret2
      exact ⟨by rw [Hp.out]; rfl, HB.out⟩
end Go.Proofs.YtolfeellcdoopaaDoor.L6
