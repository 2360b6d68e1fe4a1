/-
  Layer 7: calls of nobody; the law's tables.
-/
import Derived.Test.YtjfpeklfgnajoaaGreatQ29
import Derived.Test.YtjfpeklfgnajoaaGreatM3
namespace Go.Proofs.YtjfpeklfgnajoaaGreat.L6
open Go.ChangeShapes Go.WideShapes Go.ChangeAt Go.RowKit By Reg Val
set_option linter.unusedVariables false
set_option linter.unusedSimpArgs false

set_option maxRecDepth 100000 in
theorem back_nil (w : World) : Calls Tryz.prog 28 #[.pointer none] w fun e w' => (∃ u, e = .returned u) ∧ w = w' := by
  go_enter Tryz.func28, Tryz.ntmps28
  go_wp2_with (first | (go_at_call 68; refine (open_nil _).mono ?_; rintro e w' ⟨rfl, rfl⟩))
  refine bodyPost_ret (results_none rfl _ _ _) rfl ?_
  exact ⟨⟨_, rfl⟩, rfl⟩
set_option maxRecDepth 100000 in
theorem done_nil (w : World) : Calls Tryz.prog 33 #[.pointer none, .slice none 0 0] w fun e w' => (∃ u, e = .returned u) ∧ w = w' := by
  go_enter Tryz.func33, Tryz.ntmps33
  go_wp2_with (first | (go_at_call 68; refine (open_nil _).mono ?_; rintro e w' ⟨rfl, rfl⟩))
  refine bodyPost_ret (results_none rfl _ _ _) rfl ?_
  exact ⟨⟨_, rfl⟩, rfl⟩
set_option maxRecDepth 100000 in
theorem close_nil (w : World) : Calls Tryz.prog 34 #[.pointer none] w fun e w' => (∃ u, e = .returned u) ∧ w = w' := by
  go_enter Tryz.func34, Tryz.ntmps34
  go_wp2_with (first | (go_at_call 68; refine (open_nil _).mono ?_; rintro e w' ⟨rfl, rfl⟩))
  refine bodyPost_ret (results_none rfl _ _ _) rfl ?_
  exact ⟨⟨_, rfl⟩, rfl⟩
set_option maxRecDepth 100000 in
theorem claim_nil (w : World) (v : Value) : Calls Tryz.prog 24 #[.pointer none, v] w fun e w' => e = .returned (.tuple #[.pointer none, i64 6]) ∧ w = w' := by
  go_enter Tryz.func24, Tryz.ntmps24
  go_wp2_with (first | fail)
  go_ret2
  exact ⟨rfl, rfl⟩
set_option maxRecDepth 100000 in
theorem apply_nil (w : World) : Calls Tryz.prog 13 #[.pointer none, .agg #[.int .i64 0, .int .i64 0, .bool false, .slice none 0 0]] w fun e w' => e = .returned (i64 6) ∧ Rb w w' := by
  go_enter Tryz.func13, Tryz.ntmps13
  go_wp2_with (first | fail)
  go_ret
  exact ⟨rfl, (Below.refl _ w).alloc (Nat.le_refl _) _⟩
set_option maxRecDepth 100000 in
theorem same_nil (w : World) : Calls Tryz.prog 22 #[.pointer none, .pointer none] w fun e w' => e = .returned (.bool true) ∧ w = w' := by
  go_enter Tryz.func22, Tryz.ntmps22
  go_wp2_with (first | fail)
  go_ret
  exact ⟨rfl, rfl⟩
set_option maxRecDepth 100000 in
theorem free_nil (w : World) (t : Int) : Calls Tryz.prog 23 #[.pointer none, i64 t] w fun e w' => e = .returned (i64 0) ∧ w = w' := by
  go_enter Tryz.func23, Tryz.ntmps23
  go_wp2_with (first | (go_at_call 42; refine (shelf_nil _ _).mono ?_; rintro e w' ⟨rfl, rfl⟩))
  go_ret
  exact ⟨rfl, rfl⟩
set_option maxRecDepth 100000 in
theorem changes_nil (w : World) : Calls Tryz.prog 30 #[.pointer none] w fun e w' => e = .returned (.slice none 0 0) ∧ Rb w w' := by
  go_enter Tryz.func30, Tryz.ntmps30
  go_wp2_with (first | (go_at_call 68; refine (open_nil _).mono ?_; rintro e w' ⟨rfl, rfl⟩))
  go_ret
  exact ⟨rfl, (Below.refl _ w).alloc (Nat.le_refl _) _⟩
set_option maxRecDepth 100000 in
theorem clone_nil (w : World) : Calls Tryz.prog 18 #[.pointer none] w fun e w' => e = .returned (.pointer none) ∧ w = w' := by
  go_enter Tryz.func18, Tryz.ntmps18
  go_wp2_with (first | fail)
  go_ret
  exact ⟨rfl, rfl⟩
set_option maxRecDepth 100000 in
theorem each_nil (w : World) (g b : Nat) : Calls Tryz.prog 55 #[.pointer none, .func (.func g) #[] #[.pointer (some ⟨b, 0, none⟩)]] w fun e w' => (∃ u, e = .returned u) ∧ Rb w w' := by
  go_enter Tryz.func55, Tryz.ntmps55
  go_wp2_with (first | fail)
  refine bodyPost_ret (results_none rfl _ _ _) rfl ?_
  exact ⟨⟨_, rfl⟩, (Below.refl _ w).alloc (Nat.le_refl _) _⟩
set_option maxRecDepth 100000 in
theorem len_nil (w : World) (t : Int) : Calls Tryz.prog 32 #[.pointer none, i64 t] w fun e w' => e = .returned (i64 0) ∧ w = w' := by
  go_enter Tryz.func32, Tryz.ntmps32
  go_wp2_with (first | (go_at_call 52; refine (lying_nil _ _).mono ?_; rintro e w' ⟨rfl, rfl⟩) | (refine (none_len _).mono ?_; rintro e w' ⟨rfl, rfl⟩))
  go_ret
  exact ⟨rfl, rfl⟩
set_option maxRecDepth 100000 in
theorem all_nil (w : World) : Calls Tryz.prog 21 #[.pointer none] w fun e w' => e = .returned (.slice none 0 0) ∧ Rb w w' := by
  obtain ⟨W, hW⟩ : ∃ W, W = w.alloc (.cells #[.slice none 0 0] 23) := ⟨_, rfl⟩
  have rW : Rb w W := by rw [hW]; exact (Below.refl _ w).alloc (Nat.le_refl _) _
  have bW : Blk W w.heap.size 23 [.slice none 0 0] := by rw [hW]; exact Blk.new w _ [_]
  have HW := Lib.hid (And.intro hW (And.intro rW bW))
  clear hW rW bW
  go_enter Tryz.func21, Tryz.ntmps21
  go_wp2_with (rw [← HW.out.1])
  refine (each_nil _ _ _).mono ?_
  rintro e w2 ⟨⟨u, rfl⟩, hb⟩
  have c := (HW.out.2.2.rb hb).cell 0
  have HB := Lib.hid hb
  clear hb
  simp only [List.getElem?_cons_zero] at c
  go_wp2_with fail
  go_ret
  exact ⟨rfl, Rb.trans _ _ _ HW.out.2.1 HB.out⟩
set_option maxRecDepth 100000 in
set_option maxHeartbeats 1000000 in
theorem without_nil (w : World) (b : Nat) (hc : w.cell? ⟨b, 0, none⟩ = some (.pointer none)) : Calls Tryz.prog 27 #[.pointer none, .slice (some ⟨b, 0, none⟩) 1 1] w fun e w' => e = .returned (.pointer none) ∧ w = w' := by
  go_enter Tryz.func27, Tryz.ntmps27
  go_wp2_with (go_at_call 18; refine (clone_nil _).mono ?_; rintro e w' ⟨rfl, rfl⟩)
  go_loopw [12] (fun p wr => ∃ (i : Nat), p = .int .i64 i ∧ i ≤ 1 ∧ wr.cell? ⟨b, 0, none⟩ = some (.pointer none) ∧ Hid (w = wr)) (fun p _ => 1 - (intOf p).toNat)
  case atStart => exact ⟨0, rfl, by omega, hc, rfl⟩
  case round =>
    obtain ⟨i, rfl, hin, hc1, hw⟩ := hrel
    have e1 : w = wr := hw.out
    clear hw
    subst e1
    by_cases hlt : i < 1
    · have h0 : i = 0 := by omega
      subst h0
      go_wp2_with (go_at_call 68; refine (open_nil _).mono ?_; rintro e w' ⟨rfl, rfl⟩)
      go_roundw
      case rel => exact ⟨1, by go_num, by omega, hc1, Lib.hid trivial⟩
      case measure => simp [intOf]
    · have h1 : i = 1 := by omega
      subst h1
      go_wp2
      go_ret
      exact ⟨rfl, rfl⟩

def IsB (e : Ending) : Prop := ∃ b, e = .returned (.bool b)
set_option maxRecDepth 100000 in
set_option maxHeartbeats 1000000 in
theorem tables_any (L : List TabD) (lv : Value) (w : World) (h : Tabs w lv L) (hok : ∀ t ∈ L, TabOk t) :
    Calls Tryz.prog 8 #[lv] w fun e w' => IsB e ∧ Rb w w' := by
  obtain ⟨⟨ao, cap, hlv, q1, q2, _⟩, _⟩ := id h
  obtain ⟨n, hn⟩ : ∃ n, n = L.length := ⟨_, rfl⟩
  have HN := Lib.hid hn
  have HOK := Lib.hid hok
  rw [← hn] at hlv q1
  subst hlv
  have HT := Lib.hid h
  clear h hn hok
  by_cases hbig : 10 < n
  · go_enter Tryz.func8, Tryz.ntmps8
    go_wp2
    go_ret
    exact ⟨⟨_, rfl⟩, Rb.refl _⟩
  · go_enter Tryz.func8, Tryz.ntmps8
    go_wp2
    go_loopw [10] (fun p wr => ∃ (i : Nat), p = .int .i64 i ∧ i ≤ n ∧ Hid (Rb w wr)) (fun p _ => n - (intOf p).toNat)
    case atStart => exact ⟨0, rfl, Nat.zero_le _, Rb.refl _⟩
    case round =>
      obtain ⟨i, rfl, hin, hr⟩ := hrel
      by_cases hlt : i < n
      · have hTR := HT.out.rb hr.out
        obtain ⟨b, o, cap', y, c0, c1, c2⟩ := row3_at hTR.1 i (by rw [← HN.out]; exact hlt)
        simp only [Value.slice.injEq] at y
        obtain ⟨rfl, -, -⟩ := y
        obtain ⟨t, ht⟩ : ∃ t, t = L[i]'(by rw [← HN.out]; exact hlt) := ⟨_, rfl⟩
        rw [← ht] at c0 c1 c2
        have hm : t ∈ L := by rw [ht]; exact List.getElem_mem _
        have hIn : TabIn wr t := hTR.2 t hm
        have hk := HOK.out t hm
        obtain ⟨nm, rws, cv, cols⟩ := t
        obtain ⟨ao2, cap2, hcv, p1, p2, _⟩ := id hIn
        dsimp only at c0 c1 c2 hcv p1
        subst hcv
        obtain ⟨WB, hWB⟩ : ∃ WB, WB = wr.alloc (.cells #[.string nm, .int .i64 rws, .slice ao2 cols.length cap2] 69) := ⟨_, rfl⟩
        obtain ⟨bx, hbx⟩ : ∃ bx, bx = wr.heap.size := ⟨_, rfl⟩
        have rB : Rb wr WB := by rw [hWB]; exact (Below.refl _ wr).alloc (Nat.le_refl _) _
        have bB : Blk WB bx 69 [.string nm, .int .i64 rws, .slice ao2 cols.length cap2] := by rw [hWB, hbx]; exact Blk.new wr _ [_, _, _]
        have CL := Lib.hid (light_any ⟨nm, rws, .slice ao2 cols.length cap2, cols⟩ WB (hIn.rb rB) hk)
        have d0 := bB.cell 0
        have d1 := bB.cell 1
        have d2 := bB.cell 2
        simp only [List.getElem?_cons_succ, List.getElem?_cons_zero] at d0 d1 d2
        have HWB := Lib.hid (And.intro hWB (And.intro hbx rB))
        have HRR := Lib.hid hr.out
        clear hTR ht hm hIn hk hWB hbx rB bB hr
        obtain ⟨bl, hbl⟩ : ∃ bl, bl = lightB ⟨nm, rws, .slice ao2 cols.length cap2, cols⟩ := ⟨_, rfl⟩
        rw [← hbl] at CL
        clear hbl
        go_wp2_with (rw [← HWB.out.1, ← HWB.out.2.1])
        refine CL.out.mono ?_
        rintro e w2 ⟨rfl, hb2⟩
        have H3 : Hid (Rb w w2) := Rb.trans _ _ _ (Rb.trans _ _ _ HRR.out HWB.out.2.2) hb2
        clear hb2 d0 d1 d2 c0 c1 c2 CL
        cases bl with
        | false =>
          go_wp2_with fail
          go_ret
          exact ⟨⟨_, rfl⟩, H3.out⟩
        | true =>
          go_wp2
          go_roundw
          case rel => exact ⟨i + 1, by go_num, by omega, H3⟩
          case measure => simp [intOf]; omega
      · have hni : i = n := by omega
        subst hni
        go_wp2
        go_ret
        exact ⟨⟨_, rfl⟩, hr.out⟩
end Go.Proofs.YtjfpeklfgnajoaaGreat.L6
