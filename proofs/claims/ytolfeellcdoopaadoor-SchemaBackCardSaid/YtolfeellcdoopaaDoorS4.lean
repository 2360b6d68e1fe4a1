/-
  Layer 6: the document's Find and Col; Col.
-/
import Derived.Test.YtolfeellcdoopaaDoorS0
import Derived.Test.YtolfeellcdoopaaDoorS3
namespace Go.Proofs.YtolfeellcdoopaaDoor.L6
open Go.ChangeShapes Go.WideShapes Go.ChangeAt Go.RowKit Oct By Reg Val
set_option linter.unusedVariables false
set_option linter.unusedSimpArgs false

set_option maxRecDepth 100000 in
set_option maxHeartbeats 1000000 in
theorem rfindT_any (L : List TabD) (v : Value) (s : ByteArray) (w : World) (h : Tabs w v L) :
    Calls Tryd.prog 15 #[v, .string s] w fun e w' => e = .returned (.int .i64 (idxI s (namesT L))) ∧ Rb w w' := by
  have HH := Lib.hid h.2
  obtain ⟨⟨ao, cap, rfl, h1, h2, hr⟩, h0⟩ := h
  clear h0
  have HR := Lib.hid hr
  have hln : (namesT L).length = L.length := by simp
  have Hln := Lib.hid hln
  unfold maxLen at h2
  clear hr hln
  go_enter Tryd.func15, Tryd.ntmps15
  go_wp2
  go_loopw [9] (fun i wr => ∃ k : Nat, k ≤ L.length ∧ i = .int .i64 k ∧ Hid (posN s (namesT L) = k + posN s ((namesT L).drop k)) ∧ Rb w wr) (fun i _ => L.length - (intOf i).toNat)
  case atStart => exact ⟨0, Nat.zero_le _, rfl, by show posN s (namesT L) = _; simp, Rb.refl _⟩
  case round =>
    obtain ⟨k, hk, rfl, ha, hb⟩ := hrel
    have HB := Lib.hid hb
    by_cases hlt : k < L.length
    · obtain ⟨b, o, rfl, hc⟩ := HR.out (by omega)
      obtain ⟨z0, z1, z2⟩ := hc k hlt
      have y0 := cell_rb hb z0
      have y1 := cell_rb hb z1
      have y2 := cell_rb hb z2
      obtain ⟨t, ht⟩ : ∃ t, t = L[k] := ⟨_, rfl⟩
      rw [← ht] at y0 y1 y2
      have hnx : t.name = (namesT L)[k]'(by rw [Hln.out]; exact hlt) := by rw [List.getElem_map, ht]
      obtain ⟨p1, p2⟩ := posN_drop (s := s) (by rw [Hln.out]; exact hlt) hnx ha.out
      have P1 := Lib.hid p1
      have P2 := Lib.hid p2
      have htin : TabIn w t := by rw [ht]; exact HH.out _ (List.getElem_mem hlt)
      clear z0 z1 z2 hc hnx p1 p2 hb ha ht
      obtain ⟨nm, rw0, cv, cols⟩ := t
      obtain ⟨co, ccap, rfl, hcc⟩ := htin.form
      clear hcc htin
      dsimp only at y0 y1 y2
      go_wp2_with (refine wpList_store rfl 25 _ _ rfl wr.heap.size 0 _ _ [_, _, _] _ rfl rfl (Blk.new wr 25 [_, _, _]) rfl sizeT (by simp) (oneT _ _ _ _ _) ?_)
      intro w1 hb1 hw1
      have HB2 := Lib.hid (Rb.trans _ _ _ HB.out hw1.rb_new)
      obtain ⟨x0, x1, x2⟩ := hb1.c3
      clear hb1 hw1 y0 y1 y2 x1 x2
      cases he : eqS nm s with
      | true =>
        have hp := idx_yes (by rw [Hln.out]; exact hlt) (P1.out he)
        have Hp := Lib.hid hp.2.1
        unfold eqS at he
        clear hp
        go_wp2
        go_ret
        exact ⟨ret_i64 Hp.out.symm, HB2.out⟩
      | false =>
        have hp := Lib.hid (P2.out he)
        unfold eqS at he
        go_wp2
        go_roundw
        case rel => exact ⟨k + 1, by omega, by go_num, by show posN s (namesT L) = _; rw [hp.out], HB2.out⟩
        case measure => simp [intOf]; omega
    · have hp := idx_no (by rw [Hln.out]; omega) (posN_end (by rw [Hln.out]; omega) ha.out)
      have Hp := Lib.hid hp.2.1
      clear hp ha hb
      go_wp2
      go_ret
      exact ⟨ret_i64 Hp.out.symm, HB.out⟩

set_option maxRecDepth 100000 in
set_option maxHeartbeats 1000000 in
theorem rfindC_any (nmt : ByteArray) (rws : Int) (cv : Value) (L : List ColD) (s : ByteArray) (w : World) (h : Cols w cv L) :
    Calls Tryd.prog 22 #[tabV ⟨nmt, rws, cv, L⟩, .string s] w fun e w' => e = .returned (.int .i64 (idxI s (namesC L))) ∧ Rb w w' := by
  obtain ⟨ao, cap, rfl, h1, h2, hr⟩ := h
  have HB0 := Lib.hid (show Rb w (w.alloc (.cells #[.string nmt, .int .i64 rws, .slice ao L.length cap] 25)) from (Below.refl _ w).alloc (Nat.le_refl _) _)
  have HR := Lib.hid hr
  have hln : (namesC L).length = L.length := by simp
  have Hln := Lib.hid hln
  unfold maxLen at h2
  clear hr hln
  go_enter Tryd.func22, Tryd.ntmps22
  go_wp2
  go_loopw [10] (fun i wr => ∃ k : Nat, k ≤ L.length ∧ i = .int .i64 k ∧ Hid (posN s (namesC L) = k + posN s ((namesC L).drop k)) ∧ Rb w wr) (fun i _ => L.length - (intOf i).toNat)
  case atStart => exact ⟨0, Nat.zero_le _, rfl, by show posN s (namesC L) = _; simp, HB0.out⟩
  case round =>
    obtain ⟨k, hk, rfl, ha, hb⟩ := hrel
    have HB := Lib.hid hb
    by_cases hlt : k < L.length
    · obtain ⟨b, o, rfl, hc⟩ := HR.out (by omega)
      obtain ⟨z0, z1, z2⟩ := hc k hlt
      have y0 := cell_rb hb z0
      have y1 := cell_rb hb z1
      have y2 := cell_rb hb z2
      obtain ⟨t, ht⟩ : ∃ t, t = L[k] := ⟨_, rfl⟩
      rw [← ht] at y0 y1 y2
      have hnx : t.name = (namesC L)[k]'(by rw [Hln.out]; exact hlt) := by rw [List.getElem_map, ht]
      obtain ⟨p1, p2⟩ := posN_drop (s := s) (by rw [Hln.out]; exact hlt) hnx ha.out
      have P1 := Lib.hid p1
      have P2 := Lib.hid p2
      clear z0 z1 z2 hc hnx p1 p2 hb ha ht
      obtain ⟨nm, kd, mx⟩ := t
      dsimp only at y0 y1 y2
      go_wp2_with (refine wpList_store rfl 57 _ _ rfl wr.heap.size 0 _ _ [_, _, _] _ rfl rfl (Blk.new wr 57 [_, _, _]) rfl sizeC (by simp) (oneC _ _ _) ?_)
      intro w1 hb1 hw1
      have HB2 := Lib.hid (Rb.trans _ _ _ HB.out hw1.rb_new)
      obtain ⟨x0, x1, x2⟩ := hb1.c3
      clear hb1 hw1 y0 y1 y2 x1 x2
      cases he : eqS nm s with
      | true =>
        have hp := idx_yes (by rw [Hln.out]; exact hlt) (P1.out he)
        have Hp := Lib.hid hp.2.1
        unfold eqS at he
        clear hp
        go_wp2
        go_ret
        exact ⟨ret_i64 Hp.out.symm, HB2.out⟩
      | false =>
        have hp := Lib.hid (P2.out he)
        unfold eqS at he
        go_wp2
        go_roundw
        case rel => exact ⟨k + 1, by omega, by go_num, by show posN s (namesC L) = _; rw [hp.out], HB2.out⟩
        case measure => simp [intOf]; omega
    · have hp := idx_no (by rw [Hln.out]; omega) (posN_end (by rw [Hln.out]; omega) ha.out)
      have Hp := Lib.hid hp.2.1
      clear hp ha hb
      go_wp2
      go_ret
      exact ⟨ret_i64 Hp.out.symm, HB.out⟩

set_option maxRecDepth 100000 in
theorem col_any (nmt : ByteArray) (rws : Int) (cv : Value) (L : List ColD) (s : ByteArray) (w : World) (h : Cols w cv L) :
    Calls Tryd.prog 16 #[tabV ⟨nmt, rws, cv, L⟩, .string s] w fun e w' => e = .returned (tupIB (idxN s (namesC L)) (dup s (namesC L))) ∧ Rb w w' := by
  obtain ⟨ao, cap, rfl, h1, h2⟩ := Row3.form h
  have hr : Rb w (w.alloc (.cells #[.string nmt, .int .i64 rws, .slice ao L.length cap] 25)) := (Below.refl _ w).alloc (Nat.le_refl _) _
  have hcl := findC_any L _ s _ (Row3.rb h hr)
  have HR := Lib.hid hr
  clear h hr h1 h2
  go_enter Tryd.func16, Tryd.ntmps16
  go_wp2_with fail
  refine hcl.mono ?_
  rintro e w2 ⟨rfl, hb2⟩
  have HB2 := Lib.hid (Rb.trans _ _ _ HR.out hb2)
  clear hb2 hcl HR
  go_wp2
  go_ret2
  exact ⟨rfl, HB2.out⟩
end Go.Proofs.YtolfeellcdoopaaDoor.L6
