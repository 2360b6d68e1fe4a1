/-
  Layer 4: Keep, Let, Add, AddKept, Checkpoint.
-/
import Derived.Test.YtbdgdmieggpmhaaW11
import Derived.StillTailTactics
namespace Go.Proofs.Ytbdgdmieggpmhaa.L4
open Go.ChangeShapes Go.WideShapes Go.ChangeAt Go.RowKit Oct By Reg L3
set_option linter.unusedVariables false

theorem sizeu32 : (Try.prog.info? 22).map (·.size) = some 1 := by kernel_rfl

def keepC (D : Dk) (k : Nat) (n : Int) : Int := if n < 0 then 1 else if (freeN D k : Int) < n then 5 else 0
def keepK (D : Dk) (k : Nat) (n : Int) : Nat := if n < 0 then k else if (freeN D k : Int) < n then k else k + n.toNat
theorem keepK_le {D : Dk} (ok : D.Ok) {k : Nat} (hk : k ≤ 1048576) (n : Int) : keepK D k n ≤ 1048576 := by
  have h1 := ok.2.1
  unfold keepK freeN
  split
  · exact hk
  · split
    · exact hk
    · omega

set_option maxRecDepth 100000 in
theorem keep_any (lb : Nat) (m : Mem) (D : Dk) (g k : Nat) (n : Int) (w : World) (h : HeldL w lb m D g k) :
    Calls Try.prog 40 #[.pointer (some ⟨lb, 0, none⟩), .int .i64 n] w fun e w' => e = .returned (.int .i64 (keepC D k n)) ∧ TurnedL w lb m D g (keepK D k n) w' := by
  have C := Lib.hid (free_any lb m D g k w h)
  have H := Lib.hid h
  have HK := Lib.hid (keepK_le h.disk.ok h.hk n)
  have hf : freeN D k ≤ 1048576 ∧ k ≤ 1048576 := ⟨by have := h.disk.ok.2.1; unfold freeN; omega, h.hk⟩
  have hsum : ¬ n < 0 → ¬ (freeN D k : Int) < n → (k : Int) + n = ((k + n.toNat : Nat) : Int) := fun h1 h2 => by omega
  unfold keepC keepK at *
  generalize freeN D k = f at *
  clear h
  by_cases h0 : n < 0
  · simp only [if_pos h0] at *
    go_enter Try.func40, Try.ntmps40
    go_wp2
    go_ret
    exact ⟨rfl, H.out.same (Rb.refl _)⟩
  · simp only [if_neg h0] at *
    by_cases h1 : (f : Int) < n
    · simp only [if_pos h1] at *
      have h2 : n > (f : Int) := h1
      go_enter Try.func40, Try.ntmps40
      go_wp2_with fail
      refine C.out.mono ?_
      rintro e w' ⟨rfl, hr⟩
      have HR := Lib.hid hr
      clear hr
      go_wp2
      go_ret
      exact ⟨rfl, H.out.same HR.out⟩
    · simp only [if_neg h1] at *
      have h2 : ¬ n > (f : Int) := h1
      have hs := hsum h0 h1
      have hw : IntKind.i64.wrap ((k : Int) + n) = (k : Int) + n := IntWalk.i64_in _ (by omega)
      have HS := Lib.hid hs
      clear hs hsum
      go_enter Try.func40, Try.ntmps40
      go_wp2_with fail
      refine C.out.mono ?_
      rintro e w1 ⟨rfl, hr⟩
      have h1b := H.out.rb hr
      obtain ⟨z0, z1, z2⟩ := Blk.cellsL h1b.blk
      have H1 := Lib.hid h1b
      have HR := Lib.hid hr
      clear hr h1b
      go_wp2_with (refine wpList_store rfl 3 _ _ rfl lb 2 97 _ [_] _ rfl rfl H1.out.blk rfl sizeint (by simp) (int_one _ _) ?_)
      intro w2 hb2 hw2
      rw [HS.out] at hb2
      have HT := Lib.hid (TurnedL.of_rb HR.out (H1.out.stored hw2 hb2 H1.out.hg HK.out))
      clear hb2 hw2 z0 z1 z2
      go_wp2
      go_ret
      exact ⟨rfl, HT.out⟩
theorem keep_nil (n : Int) (w : World) : Calls Try.prog 40 #[.pointer none, .int .i64 n] w fun e w' => e = .returned (.int .i64 6) ∧ w = w' := by
  go_enter Try.func40, Try.ntmps40
  go_wp2
  go_ret
  exact ⟨rfl, rfl⟩

set_option maxRecDepth 100000 in
theorem let_any (lb : Nat) (m : Mem) (D : Dk) (g k : Nat) (n : Int) (w : World) (h : HeldL w lb m D g k) :
    Calls Try.prog 41 #[.pointer (some ⟨lb, 0, none⟩), .int .i64 n] w fun e w' => e = .returned (.tuple #[]) ∧ TurnedL w lb m D g (k - n.toNat) w' := by
  have H := Lib.hid h
  have hk := h.hk
  obtain ⟨z0, z1, z2⟩ := Blk.cellsL h.blk
  clear h
  have fin : ∀ w2, Wrote lb w.drew w2 → Blk w2 lb 97 [.pointer (some ⟨m.b, 0, none⟩), .int .u32 g, .int .i64 (k - n.toNat : Nat)] → TurnedL w lb m D g (k - n.toNat) w2 := fun w2 hw hb =>
    TurnedL.of_rb (Rb.drew w) ((H.out.rb (Rb.drew w)).stored hw hb H.out.hg (by omega))
  have FN := Lib.hid fin
  clear fin
  rcases (by omega : n < 0 ∨ (0 ≤ n ∧ n ≤ (k : Int)) ∨ (k : Int) < n) with hn | ⟨hn, hn2⟩ | hn
  · have e : k - n.toNat = k := by omega
    rw [e] at FN ⊢
    have f1 : ¬ (k : Int) < 0 := by omega
    have f2 : IntKind.i64.wrap ((k : Int)) = (k : Int) := IntWalk.i64_in _ (by omega)
    go_enter Try.func41, Try.ntmps41
    go_upto_region 1 with (fail)
    go_still_tail 14, (by kernel_rfl)
    change wpList _ _ _ _ _ w.drew
    have HBd := Lib.hid (show Blk w.drew _ _ _ from H.out.blk)
    clear z0 z1 z2
    go_wp2_with (refine wpList_store rfl 3 _ _ rfl lb 2 97 _ [_] _ rfl rfl HBd.out rfl sizeint (by simp) (int_one _ _) ?_)
    intro w2 hb2 hw2
    skip
    have HT := Lib.hid (FN.out w2 hw2 hb2)
    clear hb2 hw2
    go_wp2
    go_end0
    exact ⟨rfl, HT.out⟩
  · obtain ⟨c, rfl⟩ := Int.eq_ofNat_of_zero_le hn
    have e : k - (c : Int).toNat = k - c := by omega
    rw [e] at FN ⊢
    have f1 : ¬ (k : Int) < (c : Int) := by omega
    have f2 : IntKind.i64.wrap ((k : Int) - (c : Int)) = ((k - c : Nat) : Int) := by rw [IntWalk.i64_in _ (by omega)]; omega
    have f3 : ¬ (c : Int) < 0 := by omega
    go_enter Try.func41, Try.ntmps41
    go_upto_region 1 with (fail)
    go_still_tail 14, (by kernel_rfl)
    change wpList _ _ _ _ _ w.drew
    have HBd := Lib.hid (show Blk w.drew _ _ _ from H.out.blk)
    clear z0 z1 z2
    go_wp2_with (refine wpList_store rfl 3 _ _ rfl lb 2 97 _ [_] _ rfl rfl HBd.out rfl sizeint (by simp) (int_one _ _) ?_)
    intro w2 hb2 hw2
    skip
    have HT := Lib.hid (FN.out w2 hw2 hb2)
    clear hb2 hw2
    go_wp2
    go_end0
    exact ⟨rfl, HT.out⟩
  · have e : k - n.toNat = 0 := by omega
    rw [e] at FN ⊢
    have f1 : (k : Int) < n := hn
    have f2 : IntKind.i64.wrap ((k : Int) - (k : Int)) = (0 : Int) := by rw [IntWalk.i64_in _ (by omega)]; omega
    have f3 : ¬ n < 0 := by omega
    go_enter Try.func41, Try.ntmps41
    go_upto_region 1 with (fail)
    go_still_tail 14, (by kernel_rfl)
    change wpList _ _ _ _ _ w.drew
    have HBd := Lib.hid (show Blk w.drew _ _ _ from H.out.blk)
    clear z0 z1 z2
    go_wp2_with (refine wpList_store rfl 3 _ _ rfl lb 2 97 _ [_] _ rfl rfl HBd.out rfl sizeint (by simp) (int_one _ _) ?_)
    intro w2 hb2 hw2
    skip
    have HT := Lib.hid (FN.out w2 hw2 hb2)
    clear hb2 hw2
    go_wp2
    go_end0
    exact ⟨rfl, HT.out⟩
theorem let_nil (n : Int) (w : World) : Calls Try.prog 41 #[.pointer none, .int .i64 n] w fun e w' => e = .returned (.tuple #[]) ∧ w = w' := by
  go_enter Try.func41, Try.ntmps41
  go_wp2
  go_end0
  exact ⟨rfl, rfl⟩

set_option maxRecDepth 100000 in
theorem add_full (lb : Nat) (m : Mem) (D : Dk) (g k : Nat) (v : Value) (b : List UInt8) (w : World) (h : HeldL w lb m D g k) (hb : Bs w v b) (hl : b.length ≤ 1000000) (hf : freeN D k < (frameB g b).length) :
    Calls Try.prog 34 #[.pointer (some ⟨lb, 0, none⟩), v] w fun e w' => e = .returned (.int .i64 4) ∧ Rb w w' := by
  obtain ⟨ao, cap, rfl, -⟩ := id hb.len
  have C := Lib.hid (frame_any _ g b w hb (by omega) h.hg)
  have H := Lib.hid h
  obtain ⟨z0, z1, z2⟩ := Blk.cellsL h.blk
  clear h hb
  generalize frameB g b = F at *
  go_enter Try.func34, Try.ntmps34
  go_wp2_with fail
  refine C.out.mono ?_
  rintro e w1 ⟨n1, c1, rfl, ho, hr⟩
  have HR := Lib.hid (show Rb w w1 from hr)
  have C2 := Lib.hid (free_any lb m D g k w1 (H.out.rb hr))
  have hf' : (F.length : Int) > (freeN D k : Nat) := by omega
  generalize freeN D k = f at *
  clear ho hr z0 z1 z2 hf
  go_wp2_with fail
  refine C2.out.mono ?_
  rintro e w2 ⟨rfl, hr⟩
  have HR2 := Lib.hid (Rb.trans _ _ _ HR.out hr)
  clear hr
  go_wp2
  go_ret
  exact ⟨rfl, HR2.out⟩

set_option maxRecDepth 100000 in
theorem add_fits (lb : Nat) (m : Mem) (D : Dk) (g k : Nat) (v : Value) (b : List UInt8) (w : World) (h : HeldL w lb m D g k) (hb : Bs w v b) (hl : b.length ≤ 1000000) (hf : (frameB g b).length ≤ freeN D k) :
    Calls Try.prog 34 #[.pointer (some ⟨lb, 0, none⟩), v] w fun e w' => e = .returned (.int .i64 0) ∧ TurnedL w lb m (D.append (frameB g b)) g k w' := by
  obtain ⟨ao, cap, rfl, -⟩ := id hb.len
  have C := Lib.hid (frame_any _ g b w hb (by omega) h.hg)
  have H := Lib.hid h
  have hp := frameB_pos g b
  have hfit : D.log.length + (frameB g b).length ≤ D.room := by unfold freeN at hf; omega
  obtain ⟨z0, z1, z2⟩ := Blk.cellsL h.blk
  clear h hb
  generalize frameB g b = F at *
  go_enter Try.func34, Try.ntmps34
  go_wp2_with fail
  refine C.out.mono ?_
  rintro e w1 ⟨n1, c1, rfl, ho, hr⟩
  have HR := Lib.hid (show Rb w w1 from hr)
  have HO := Lib.hid (Bs.of_owns ho)
  have C2 := Lib.hid (free_any lb m D g k w1 (H.out.rb hr))
  have hf' : ¬ (F.length : Int) > (freeN D k : Nat) := by omega
  generalize freeN D k = f at *
  clear ho hr z0 z1 z2 hf
  go_wp2_with fail
  refine C2.out.mono ?_
  rintro e w2 ⟨rfl, hr⟩
  have HR2 := Lib.hid (Rb.trans _ _ _ HR.out hr)
  have HO2 := Lib.hid (HO.out.below hr)
  have h2 := H.out.rb HR2.out
  obtain ⟨z0, z1, z2⟩ := Blk.cellsL h2.blk
  have H2 := Lib.hid h2
  clear hr h2
  have C3 := Lib.hid (append_fits m D w2 _ F H2.out.disk HO2.out hfit)
  go_wp2_with fail
  refine C3.out.mono ?_
  rintro e w3 ⟨rfl, ht⟩
  have HT := Lib.hid (TurnedL.of_rb HR2.out (H2.out.turned ht))
  clear ht
  go_wp2
  go_ret
  exact ⟨rfl, HT.out⟩
theorem add_nil (v : Value) (w : World) : Calls Try.prog 34 #[.pointer none, v] w fun e w' => e = .returned (.int .i64 6) ∧ w = w' := by
  go_enter Try.func34, Try.ntmps34
  go_wp2
  go_ret
  exact ⟨rfl, rfl⟩
theorem addkept_nil (v : Value) (w : World) : Calls Try.prog 42 #[.pointer none, v] w fun e w' => e = .returned (.int .i64 6) ∧ w = w' := by
  go_enter Try.func42, Try.ntmps42
  go_wp2
  go_ret
  exact ⟨rfl, rfl⟩

set_option maxRecDepth 100000 in
theorem addkept_no (lb : Nat) (m : Mem) (D : Dk) (g k : Nat) (v : Value) (b : List UInt8) (w : World) (h : HeldL w lb m D g k) (hb : Bs w v b) (hl : b.length ≤ 1000000) (hf : k < (frameB g b).length) :
    Calls Try.prog 42 #[.pointer (some ⟨lb, 0, none⟩), v] w fun e w' => e = .returned (.int .i64 6) ∧ Rb w w' := by
  obtain ⟨ao, cap, rfl, -⟩ := id hb.len
  have C := Lib.hid (frame_any _ g b w hb (by omega) h.hg)
  have H := Lib.hid h
  obtain ⟨z0, z1, z2⟩ := Blk.cellsL h.blk
  clear h hb
  generalize frameB g b = F at *
  have hf' : (F.length : Int) > (k : Int) := by omega
  go_enter Try.func42, Try.ntmps42
  go_wp2_with fail
  refine C.out.mono ?_
  rintro e w1 ⟨n1, c1, rfl, ho, hr⟩
  have HR := Lib.hid (show Rb w w1 from hr)
  obtain ⟨y0, y1, y2⟩ := Blk.cellsL (H.out.rb hr).blk
  clear ho hr z0 z1 z2 hf
  go_wp2
  go_ret
  exact ⟨rfl, HR.out⟩

set_option maxRecDepth 100000 in
theorem addkept_full (lb : Nat) (m : Mem) (D : Dk) (g k : Nat) (v : Value) (b : List UInt8) (w : World) (h : HeldL w lb m D g k) (hb : Bs w v b) (hl : b.length ≤ 1000000) (hf : (frameB g b).length ≤ k) (hn : D.room < D.log.length + (frameB g b).length) :
    Calls Try.prog 42 #[.pointer (some ⟨lb, 0, none⟩), v] w fun e w' => e = .returned (.int .i64 4) ∧ Rb w w' := by
  obtain ⟨ao, cap, rfl, -⟩ := id hb.len
  have C := Lib.hid (frame_any _ g b w hb (by omega) h.hg)
  have H := Lib.hid h
  obtain ⟨z0, z1, z2⟩ := Blk.cellsL h.blk
  clear h hb
  generalize frameB g b = F at *
  have hf' : ¬ (F.length : Int) > (k : Int) := by omega
  go_enter Try.func42, Try.ntmps42
  go_wp2_with fail
  refine C.out.mono ?_
  rintro e w1 ⟨n1, c1, rfl, ho, hr⟩
  have HR := Lib.hid (show Rb w w1 from hr)
  obtain ⟨y0, y1, y2⟩ := Blk.cellsL (H.out.rb hr).blk
  have C3 := Lib.hid (append_full m D w1 _ F (H.out.rb hr).disk (Bs.of_owns ho) hn)
  clear ho hr z0 z1 z2 hf
  go_wp2_with fail
  refine C3.out.mono ?_
  rintro e w2 ⟨rfl, hr⟩
  have HR2 := Lib.hid (Rb.trans _ _ _ HR.out hr)
  clear hr
  go_wp2
  go_ret
  exact ⟨rfl, HR2.out⟩

set_option maxRecDepth 100000 in
theorem addkept_fits (lb : Nat) (m : Mem) (D : Dk) (g k : Nat) (v : Value) (b : List UInt8) (w : World) (h : HeldL w lb m D g k) (hb : Bs w v b) (hl : b.length ≤ 1000000) (hf : (frameB g b).length ≤ k) (hn : D.log.length + (frameB g b).length ≤ D.room) :
    Calls Try.prog 42 #[.pointer (some ⟨lb, 0, none⟩), v] w fun e w' => e = .returned (.int .i64 0) ∧ TurnedL w lb m (D.append (frameB g b)) g (k - (frameB g b).length) w' := by
  obtain ⟨ao, cap, rfl, -⟩ := id hb.len
  have C := Lib.hid (frame_any _ g b w hb (by omega) h.hg)
  have H := Lib.hid h
  have hk := h.hk
  obtain ⟨z0, z1, z2⟩ := Blk.cellsL h.blk
  clear h hb
  generalize frameB g b = F at *
  have hf' : ¬ (F.length : Int) > (k : Int) := by omega
  have hw : IntKind.i64.wrap ((k : Int) - (F.length : Int)) = ((k - F.length : Nat) : Int) := by rw [IntWalk.i64_in _ (by omega)]; omega
  go_enter Try.func42, Try.ntmps42
  go_wp2_with fail
  refine C.out.mono ?_
  rintro e w1 ⟨n1, c1, rfl, ho, hr⟩
  have HR := Lib.hid (show Rb w w1 from hr)
  obtain ⟨y0, y1, y2⟩ := Blk.cellsL (H.out.rb hr).blk
  have H1 := Lib.hid (H.out.rb hr)
  have C3 := Lib.hid (append_fits m D w1 _ F (H.out.rb hr).disk (Bs.of_owns ho) hn)
  clear ho hr z0 z1 z2
  go_wp2_with fail
  refine C3.out.mono ?_
  rintro e w2 ⟨rfl, ht⟩
  obtain ⟨m2, h2, hn2, hk2, hh2⟩ := TurnedL.of_rb HR.out (H1.out.turned ht)
  obtain ⟨x0, x1, x2⟩ := Blk.cellsL h2.blk
  have H2 := Lib.hid h2
  have HN2 := Lib.hid hn2
  have HK2 := Lib.hid hk2
  have HH2 := Lib.hid hh2
  clear ht h2 hn2 hk2 hh2 y0 y1 y2
  go_wp2_with (refine wpList_store rfl 3 _ _ rfl lb 2 97 _ [_] _ rfl rfl H2.out.blk rfl sizeint (by simp) (int_one _ _) ?_)
  intro w3 hb3 hw3
  have HT : Hid (TurnedL w lb m (D.append F) g (k - F.length) w3) := Lib.hid (TurnedL.trans (show TurnedL w lb m (D.append F) g k w2 from ⟨m2, H2.out, HN2.out, HK2.out, HH2.out⟩) (fun m1 h1 => h1.stored hw3 (by
    have e : m1.b = m2.b := by
      have c1 := h1.blk.cell 0
      have c2 := H2.out.blk.cell 0
      rw [c1] at c2
      simpa using c2
    rw [e]; exact hb3) H2.out.hg (by omega)))
  clear hb3 hw3 x0 x1 x2
  go_wp2
  go_ret
  exact ⟨rfl, HT.out⟩
end Go.Proofs.Ytbdgdmieggpmhaa.L4
