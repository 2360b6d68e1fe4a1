/-
  Layer 4: Checkpoint.
-/
import Derived.Test.YtbdgdmieggpmhaaW12
import Derived.Deep.RegionWith
namespace Go.Proofs.Ytbdgdmieggpmhaa.L4
open Go.ChangeShapes Go.WideShapes Go.ChangeAt Go.RowKit Oct By Reg L3
set_option linter.unusedVariables false

theorem HeldL.mem {w : World} {lb : Nat} {m1 m2 : Mem} {D1 D2 : Dk} {g1 g2 k1 k2 : Nat} (h : HeldL w lb m1 D1 g1 k1) (h' : HeldL w lb m2 D2 g2 k2) : m1 = m2 := by
  have e : m1.b = m2.b := by
    have c1 := h.blk.cell 0
    have c2 := h'.blk.cell 0
    rw [c1] at c2
    simpa using c2
  have d1 := h.disk.blk
  have d2 := h'.disk.blk
  unfold Blk at d1 d2
  rw [e, d2] at d1
  simp at d1
  obtain ⟨b, lv, v0, v1, u0, u1⟩ := m1
  obtain ⟨b', lv', v0', v1', u0', u1'⟩ := m2
  simp at d1 e
  simp [d1, e]
theorem check_nil (v : Value) (w : World) : Calls Try.prog 36 #[.pointer none, v] w fun e w' => e = .returned (.int .i64 6) ∧ w = w' := by
  go_enter Try.func36, Try.ntmps36
  go_wp2
  go_ret
  exact ⟨rfl, rfl⟩
set_option maxRecDepth 100000 in
theorem check_full (lb : Nat) (m : Mem) (D : Dk) (k : Nat) (v : Value) (b : List UInt8) (w : World) (h : HeldL w lb m D 4294967295 k) (hb : Bs w v b) (hl : b.length ≤ 900) :
    Calls Try.prog 36 #[.pointer (some ⟨lb, 0, none⟩), v] w fun e w' => e = .returned (.int .i64 4) ∧ w = w' := by
  obtain ⟨ao, cap, rfl, -⟩ := id hb.len
  obtain ⟨z0, z1, z2⟩ := Blk.cellsL h.blk
  have hl2 : ¬ (b.length : Int) > 1048576 := by omega
  clear h hb
  go_enter Try.func36, Try.ntmps36
  go_wp2
  go_ret
  exact ⟨rfl, rfl⟩

def ckD (D : Dk) (g : Nat) (F : List UInt8) : Dk := if (g + 1) % 2 = 0 then ((D.write0 F).sync).clear else ((D.write1 F).sync).clear

set_option maxRecDepth 100000 in
theorem check_0 (lb : Nat) (m : Mem) (D : Dk) (g k : Nat) (v : Value) (b : List UInt8) (w : World) (h : HeldL w lb m D g k) (hb : Bs w v b) (hl : b.length ≤ 900) (hg : g + 1 < 4294967296) (hp : (g + 1) % 2 = 0) :
    Calls Try.prog 36 #[.pointer (some ⟨lb, 0, none⟩), v] w fun e w' => e = .returned (.int .i64 0) ∧ TurnedL w lb m (((D.write0 (frameB (g + 1) b)).sync).clear) (g + 1) k w' := by
  obtain ⟨ao, cap, rfl, -⟩ := id hb.len
  obtain ⟨z0, z1, z2⟩ := Blk.cellsL h.blk
  have hl2 : ¬ (b.length : Int) > 1048576 := by omega
  have hg2 : ¬ (g : Int) = 4294967295 := by omega
  have hw : IntKind.u32.wrap ((g : Int) + 1) = ((g + 1 : Nat) : Int) := by rw [IntKind.wrap_u32]; omega
  have hm : IntKind.i64.wrap (((g + 1 : Nat) : Int).tmod 2) = 0 := by rw [Int.tmod_eq_emod_of_nonneg (by omega), show ((g + 1 : Nat) : Int) % 2 = 0 by omega]; rfl
  have hfl : (frameB (g + 1) b).length ≤ 1000 := by have := frameB_le (g + 1) b (by omega); omega
  have H := Lib.hid h
  have HB := Lib.hid hb
  have HG := Lib.hid hg
  have HL := Lib.hid hl
  clear h hb hg hp hl
  have HF := Lib.hid hfl
  clear hfl
  obtain ⟨F, hF⟩ : ∃ F, F = frameB (g + 1) b := ⟨_, rfl⟩
  rw [← hF] at HF ⊢
  have HFE := Lib.hid hF
  clear hF
  generalize g + 1 = g1 at *
  go_enter Try.func36, Try.ntmps36
  go_upto_region 8 with (fail)
  go_region_with (first | (go_at_call 15; refine (image_any _ g1 b _ (HB.out.below (Rb.drew w)) (by have := HL.out; omega) HG.out).mono ?_; rintro e w1 ⟨n1, c1, rfl, ho, hr⟩; have HO := Lib.hid ho; have HR := Lib.hid (show Rb w w1 from Rb.trans _ _ _ (Rb.drew w) hr); have y0 := (Blk.cellsL (H.out.rb HR.out).blk).1; clear ho hr) | (go_at_call 63; refine (write_0 m D _ _ F (H.out.rb HR.out).disk (by rw [HFE.out]; exact Bs.of_owns HO.out) HF.out).mono ?_; rintro e w2 ⟨rfl, ht⟩; have HT := Lib.hid ht; clear ht))
  all_goals
    have t2 := TurnedL.of_rb HR.out ((H.out.rb HR.out).turned HT.out)
    obtain ⟨m2, h2, hn2, hk2, hh2⟩ := id t2
    have H2 := Lib.hid h2
    have T2 := Lib.hid t2
    clear t2 h2 hn2 hk2 hh2 y0 z0 z1 z2
    go_wp2_with fail
    refine (lsync_any lb m2 _ g k w2 H2.out).mono ?_
    rintro e w3 ⟨rfl, ht⟩
    obtain ⟨m3, h3, hn3, hk3, hh3⟩ := id ht
    have T3 := Lib.hid (T2.out.trans fun m1 h1 => by rw [h1.mem H2.out]; exact ht)
    have H3 := Lib.hid h3
    obtain ⟨z0, z1, z2⟩ := Blk.cellsL h3.blk
    clear ht h3 hn3 hk3 hh3
    go_wp2_with fail
    refine (clear_any m3 _ w3 H3.out.disk).mono ?_
    rintro e w4 ⟨rfl, ht⟩
    have ht4 := H3.out.turned ht
    obtain ⟨m4, h4, hn4, hk4, hh4⟩ := id ht4
    have T4 := Lib.hid (T3.out.trans fun m1 h1 => by rw [h1.mem H3.out]; exact ht4)
    have H4 := Lib.hid h4
    obtain ⟨y0, y1, y2⟩ := Blk.cellsL h4.blk
    clear ht ht4 h4 hn4 hk4 hh4 z0 z1 z2
    go_wp2_with (refine wpList_store rfl 22 _ _ rfl lb 1 97 _ [_] _ rfl rfl H4.out.blk rfl sizeu32 (by simp) (int_one _ _) ?_)
    intro w5 hb5 hw5
    have T5 := Lib.hid (T4.out.trans fun m1 h1 => by rw [h1.mem H4.out]; exact H4.out.stored hw5 hb5 HG.out H4.out.hk)
    clear hb5 hw5 y0 y1 y2
    go_wp2
    go_ret
    exact ⟨rfl, T5.out⟩

set_option maxRecDepth 100000 in
theorem check_1 (lb : Nat) (m : Mem) (D : Dk) (g k : Nat) (v : Value) (b : List UInt8) (w : World) (h : HeldL w lb m D g k) (hb : Bs w v b) (hl : b.length ≤ 900) (hg : g + 1 < 4294967296) (hp : (g + 1) % 2 = 1) :
    Calls Try.prog 36 #[.pointer (some ⟨lb, 0, none⟩), v] w fun e w' => e = .returned (.int .i64 0) ∧ TurnedL w lb m (((D.write1 (frameB (g + 1) b)).sync).clear) (g + 1) k w' := by
  obtain ⟨ao, cap, rfl, -⟩ := id hb.len
  obtain ⟨z0, z1, z2⟩ := Blk.cellsL h.blk
  have hl2 : ¬ (b.length : Int) > 1048576 := by omega
  have hg2 : ¬ (g : Int) = 4294967295 := by omega
  have hw : IntKind.u32.wrap ((g : Int) + 1) = ((g + 1 : Nat) : Int) := by rw [IntKind.wrap_u32]; omega
  have hm : IntKind.i64.wrap (((g + 1 : Nat) : Int).tmod 2) = 1 := by rw [Int.tmod_eq_emod_of_nonneg (by omega), show ((g + 1 : Nat) : Int) % 2 = 1 by omega]; rfl
  have hfl : (frameB (g + 1) b).length ≤ 1000 := by have := frameB_le (g + 1) b (by omega); omega
  have H := Lib.hid h
  have HB := Lib.hid hb
  have HG := Lib.hid hg
  have HL := Lib.hid hl
  clear h hb hg hp hl
  have HF := Lib.hid hfl
  clear hfl
  obtain ⟨F, hF⟩ : ∃ F, F = frameB (g + 1) b := ⟨_, rfl⟩
  rw [← hF] at HF ⊢
  have HFE := Lib.hid hF
  clear hF
  generalize g + 1 = g1 at *
  go_enter Try.func36, Try.ntmps36
  go_upto_region 8 with (fail)
  go_region_with (first | (go_at_call 15; refine (image_any _ g1 b _ (HB.out.below (Rb.drew w)) (by have := HL.out; omega) HG.out).mono ?_; rintro e w1 ⟨n1, c1, rfl, ho, hr⟩; have HO := Lib.hid ho; have HR := Lib.hid (show Rb w w1 from Rb.trans _ _ _ (Rb.drew w) hr); have y0 := (Blk.cellsL (H.out.rb HR.out).blk).1; clear ho hr) | (go_at_call 63; refine (write_1 m D _ _ F (H.out.rb HR.out).disk (by rw [HFE.out]; exact Bs.of_owns HO.out) HF.out).mono ?_; rintro e w2 ⟨rfl, ht⟩; have HT := Lib.hid ht; clear ht))
  all_goals
    have t2 := TurnedL.of_rb HR.out ((H.out.rb HR.out).turned HT.out)
    obtain ⟨m2, h2, hn2, hk2, hh2⟩ := id t2
    have H2 := Lib.hid h2
    have T2 := Lib.hid t2
    clear t2 h2 hn2 hk2 hh2 y0 z0 z1 z2
    go_wp2_with fail
    refine (lsync_any lb m2 _ g k w2 H2.out).mono ?_
    rintro e w3 ⟨rfl, ht⟩
    obtain ⟨m3, h3, hn3, hk3, hh3⟩ := id ht
    have T3 := Lib.hid (T2.out.trans fun m1 h1 => by rw [h1.mem H2.out]; exact ht)
    have H3 := Lib.hid h3
    obtain ⟨z0, z1, z2⟩ := Blk.cellsL h3.blk
    clear ht h3 hn3 hk3 hh3
    go_wp2_with fail
    refine (clear_any m3 _ w3 H3.out.disk).mono ?_
    rintro e w4 ⟨rfl, ht⟩
    have ht4 := H3.out.turned ht
    obtain ⟨m4, h4, hn4, hk4, hh4⟩ := id ht4
    have T4 := Lib.hid (T3.out.trans fun m1 h1 => by rw [h1.mem H3.out]; exact ht4)
    have H4 := Lib.hid h4
    obtain ⟨y0, y1, y2⟩ := Blk.cellsL h4.blk
    clear ht ht4 h4 hn4 hk4 hh4 z0 z1 z2
    go_wp2_with (refine wpList_store rfl 22 _ _ rfl lb 1 97 _ [_] _ rfl rfl H4.out.blk rfl sizeu32 (by simp) (int_one _ _) ?_)
    intro w5 hb5 hw5
    have T5 := Lib.hid (T4.out.trans fun m1 h1 => by rw [h1.mem H4.out]; exact H4.out.stored hw5 hb5 HG.out H4.out.hk)
    clear hb5 hw5 y0 y1 y2
    go_wp2
    go_ret
    exact ⟨rfl, T5.out⟩
end Go.Proofs.Ytbdgdmieggpmhaa.L4
