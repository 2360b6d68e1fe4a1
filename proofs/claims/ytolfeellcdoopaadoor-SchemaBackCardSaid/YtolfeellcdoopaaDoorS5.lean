/-
  Layer 6: Check: the mathematics; the columns.
-/
import Derived.Test.YtolfeellcdoopaaDoorS4
import Derived.Test.YtolfeellcdoopaaDoorS2
import Derived.StillTailTactics
import Derived.Deep.RegionWith
import Derived.Deep.Cut
import Derived.Outline
namespace Go.Proofs.YtolfeellcdoopaaDoor.L6
open Go.ChangeShapes Go.WideShapes Go.ChangeAt Go.RowKit Oct By Reg Val
set_option linter.unusedVariables false
set_option linter.unusedSimpArgs false

def errCols (seen : List ByteArray) : List ColD → Int
  | [] => 0
  | c :: r => if dup c.name seen || !nameB c.name then 20 else if !rightTypeB c.kind c.max then 21 else errCols (seen ++ [c.name]) r
def errTab (seen : List ByteArray) (t : TabD) : Int :=
  if dup t.name seen || !nameB t.name then 20 else if t.rows < 1 ∨ 64 < t.rows then 22 else if t.cols.length = 0 ∨ 8 < t.cols.length then 2 else errCols [] t.cols
def errTabs (seen : List ByteArray) : List TabD → Int × Int
  | [] => (0, 0)
  | t :: r => if errTab seen t ≠ 0 then (errTab seen t, seen.length) else errTabs (seen ++ [t.name]) r
def checkD (L : List TabD) : Int × Int := if 8 < L.length then (2, 0) else errTabs [] L

theorem errCols_drop {L : List ColD} {k : Nat} {c : ColD} {e : Int} (hk : k < L.length) (hc : c = L[k]) (h : e = errCols (namesC (L.take k)) (L.drop k)) :
    ((dup c.name (namesC (L.take k)) || !nameB c.name) = true → e = 20) ∧ ((dup c.name (namesC (L.take k)) || !nameB c.name) = false → rightTypeB c.kind c.max = false → e = 21) ∧
      ((dup c.name (namesC (L.take k)) || !nameB c.name) = false → rightTypeB c.kind c.max = true → e = errCols (namesC (L.take (k + 1))) (L.drop (k + 1))) := by
  rw [List.drop_eq_getElem_cons hk, ← hc, errCols] at h
  refine ⟨fun h1 => ?_, fun h1 h2 => ?_, fun h1 h2 => ?_⟩
  · rw [if_pos h1] at h; exact h
  · rw [if_neg (by rw [h1]; decide), h2] at h; exact h
  · rw [if_neg (by rw [h1]; decide), h2] at h
    rw [List.take_succ_eq_append_getElem hk, namesC, List.map_append, ← hc]
    exact h
theorem errTabs_drop {L : List TabD} {k : Nat} {t : TabD} {e : Int × Int} (hk : k < L.length) (hc : t = L[k]) (h : e = errTabs (namesT (L.take k)) (L.drop k)) :
    (errTab (namesT (L.take k)) t ≠ 0 → e = (errTab (namesT (L.take k)) t, (k : Int))) ∧ (errTab (namesT (L.take k)) t = 0 → e = errTabs (namesT (L.take (k + 1))) (L.drop (k + 1))) := by
  rw [List.drop_eq_getElem_cons hk, ← hc, errTabs] at h
  refine ⟨fun h1 => ?_, fun h1 => ?_⟩
  · rw [if_pos h1] at h
    rw [h]
    congr 1
    simp; omega
  · rw [if_neg (by rw [h1]; decide)] at h
    rw [List.take_succ_eq_append_getElem hk, namesT, List.map_append, ← hc]
    exact h

set_option maxRecDepth 100000 in
set_option maxHeartbeats 2000000 in
theorem checkcols_any (L : List ColD) (v : Value) (w : World) (h : Cols w v L) (hok : ∀ c ∈ L, ColOk c) :
    Calls Tryd.prog 65 #[v] w fun e w' => e = .returned (.int .i64 (errCols [] L)) ∧ Rb w w' := by
  have h0 := h
  obtain ⟨ao, cap, rfl, h1, h2, hr⟩ := h0
  have HH := Lib.hid h
  have HR := Lib.hid hr
  have HOK := Lib.hid hok
  unfold maxLen at h2
  clear hr h hok
  go_enter Tryd.func65, Tryd.ntmps65
  go_wp2
  go_loopw [9] (fun i wr => ∃ k : Nat, k ≤ L.length ∧ i = .int .i64 k ∧ Hid (errCols [] L = errCols (namesC (L.take k)) (L.drop k)) ∧ Rb w wr) (fun i _ => L.length - (intOf i).toNat)
  case atStart => exact ⟨0, Nat.zero_le _, rfl, by show errCols [] L = _; simp, Rb.refl _⟩
  case round =>
    obtain ⟨k, hk, rfl, ha, hb⟩ := hrel
    have HB := Lib.hid hb
    by_cases hlt : k < L.length
    · obtain ⟨b, o, rfl, hc⟩ := HR.out (by omega)
      obtain ⟨z0, z1, z2⟩ := hc k hlt
      have y0 := cell_rb hb z0
      have y1 := cell_rb hb z1
      have y2 := cell_rb hb z2
      obtain ⟨t, ht⟩ : ∃ t, t = L[k] := ⟨_, rfl⟩
      rw [← ht] at y0 y1 y2
      obtain ⟨p1, p2, p3⟩ := errCols_drop hlt ht ha.out
      have P1 := Lib.hid p1
      have P2 := Lib.hid p2
      have P3 := Lib.hid p3
      have HT := Lib.hid (HOK.out t (by rw [ht]; exact List.getElem_mem hlt))
      have HP := Lib.hid (Row3.take HH.out k hk)
      clear z0 z1 z2 hc p1 p2 p3 hb ha ht
      obtain ⟨nm, kd, mx⟩ := t
      dsimp only at y0 y1 y2 P1 P2 P3
      go_wp2_with (refine wpList_store rfl 57 _ _ rfl wr.heap.size 0 _ _ [_, _, _] _ rfl rfl (Blk.new wr 57 [_, _, _]) rfl sizeC (by simp) (oneC _ _ _) ?_)
      intro w1 hb1 hw1
      have hr2 := Rb.trans _ _ _ HB.out hw1.rb_new
      have HB2 := Lib.hid hr2
      obtain ⟨x0, x1, x2⟩ := hb1.c3
      have hcl := fun w' (hw : Rb w1 w') => findC_any _ _ nm w' (Row3.rb HP.out (Rb.trans _ _ _ hr2 hw))
      have c1 : (k : Int) ≤ (cap : Int) := by omega
      clear hb1 hw1 y0 y1 y2 hr2
      go_upto_region 4 with (fail)
      have mixed : Tryd.prog.follows Departure.mixedOrders = true := by kernel_rfl
      generalize idxN nm (namesC (List.take k L)) = q at hcl
      obtain ⟨dd, hdd⟩ : ∃ dd, dd = dup nm (namesC (List.take k L)) := ⟨_, rfl⟩
      rw [← hdd] at hcl P1 P2 P3
      clear hdd
      go_cut [5, 6] from 14 (fun s5 s6 wr => s5 = .int .i64 q ∧ s6 = .bool dd ∧ Rb w1 wr)
      · rename_i J K' hJ hK
        go_region_with (go_at_call 42; refine (hcl _ (by first | exact Rb.refl _ | exact Rb.drew _)).mono ?_; rintro e w2 ⟨rfl, hb2⟩)
        all_goals
          go_wp2_with fail
          go_meet
          exact ⟨rfl, rfl, Rb.trans _ _ _ (Rb.drew w1) hb2⟩
      obtain ⟨rfl, rfl, hr3⟩ := hcut
      generalize wc = w2 at *
      have HB3 := Lib.hid (Rb.trans _ _ _ HB2.out hr3)
      have u0 := cell_rb hr3 x0
      have u1 := cell_rb hr3 x1
      have u2 := cell_rb hr3 x2
      clear hcl x0 x1 x2 hr3
      have nm1 := isname_any nm w2 HT.out.name
      have rt1 := righttype_any kd mx w2
      cases hd : dd with
      | true =>
        have Hp := Lib.hid (P1.out (by rw [hd]; rfl))
        clear nm1 rt1 hd
        go_wp2
        go_ret
        exact ⟨ret_i64 Hp.out.symm, HB3.out⟩
      | false =>
        cases hn : nameB nm with
        | false =>
          have Hp := Lib.hid (P1.out (by rw [hd, hn]; rfl))
          rw [hn] at nm1
          clear rt1 hd hn
          go_wp2_with (go_at_call 13; refine nm1.mono ?_; rintro e w ⟨rfl, rfl⟩)
          go_ret
          exact ⟨ret_i64 Hp.out.symm, HB3.out⟩
        | true =>
          rw [hn] at nm1
          cases ht : rightTypeB kd mx with
          | false =>
            have Hp := Lib.hid (P2.out (by rw [hd, hn]; rfl) ht)
            rw [ht] at rt1
            clear hd hn ht
            go_wp2_with (first | (go_at_call 13; refine nm1.mono ?_; rintro e w ⟨rfl, rfl⟩) | fail)
            refine rt1.mono ?_
            rintro e w3 ⟨rfl, hb3⟩
            have HB4 := Lib.hid (Rb.trans _ _ _ HB3.out hb3)
            clear hb3 u0 u1 u2
            go_wp2
            go_ret
            exact ⟨ret_i64 Hp.out.symm, HB4.out⟩
          | true =>
            have Hp := Lib.hid (P3.out (by rw [hd, hn]; rfl) ht)
            rw [ht] at rt1
            clear hd hn ht
            go_wp2_with (first | (go_at_call 13; refine nm1.mono ?_; rintro e w ⟨rfl, rfl⟩) | fail)
            refine rt1.mono ?_
            rintro e w3 ⟨rfl, hb3⟩
            have HB4 := Lib.hid (Rb.trans _ _ _ HB3.out hb3)
            clear hb3 u0 u1 u2
            go_wp2
            go_roundw
            case rel => exact ⟨k + 1, by omega, by go_num, Hp.out, HB4.out⟩
            case measure => simp [intOf]; omega
    · have Hp : Hid (errCols [] L = 0) := by
        show _ = _
        rw [ha.out, List.drop_eq_nil_of_le (by omega)]; rfl
      clear ha hb
      go_wp2
      go_ret
      exact ⟨ret_i64 Hp.out.symm, HB.out⟩
end Go.Proofs.YtolfeellcdoopaaDoor.L6
