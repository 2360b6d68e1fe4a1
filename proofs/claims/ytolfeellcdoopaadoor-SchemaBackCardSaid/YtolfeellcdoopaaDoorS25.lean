/-
  Layer 6: GetRow, by the document.
-/
import Derived.Test.YtolfeellcdoopaaDoorS24
import Derived.Test.YtolfeellcdoopaaDoorVW
namespace Go.Proofs.YtolfeellcdoopaaDoor.L6
open Go.ChangeShapes Go.WideShapes Go.ChangeAt Go.RowKit Oct By Reg Val
set_option linter.unusedVariables false
set_option linter.unusedSimpArgs false

theorem getV_width {xs s : List UInt8} {i k n : Int} {m : Nat} (h : getV xs i = some (k, n, s, m)) : 1 ≤ m ∧ m ≤ xs.length + 1 := by
  unfold getV at h
  split at h
  · rename_i hi
    split at h
    · cases h
    · rename_i hc
      have := cand_pos hc (by omega)
      split at h
      · simp only [Option.some.injEq, Prod.mk.injEq] at h
        omega
      · cases h
  · cases h
theorem tupr_of (xs : List UInt8) (i ck cm : Int) (hx : xs.length ≤ 1000) : ∃ gk gn gs gm, tupRV (getV xs i) = .tuple #[vv gk gn gs, .int .i64 gm] ∧ valG (getV xs i) = ⟨gk, gn, gs⟩ ∧ okG (getV xs i) ck cm = (decide (gm ≠ 0) && fitsB gk gn gs.data.toList ck cm) ∧ (gm ≠ 0 → nextG (getV xs i) i = i + gm) ∧ (0 ≤ gm ∧ gm ≤ 1001) ∧ gs.size ≤ maxLen := by
  cases hg : getV xs i with
  | none => exact ⟨0, 0, ⟨#[]⟩, 0, rfl, rfl, rfl, fun h => absurd rfl h, ⟨by omega, by omega⟩, by decide⟩
  | some q =>
    obtain ⟨k, n, s, m⟩ := q
    have h1 := getV_width hg
    have h2 := getV_len hg
    refine ⟨k, n, str s, m, rfl, rfl, ?_, fun _ => rfl, ⟨by omega, by omega⟩, by rw [str_size]; unfold maxLen; omega⟩
    rw [decide_eq_true (by omega : (m : Int) ≠ 0)]
    rfl

set_option maxRecDepth 100000 in
set_option maxHeartbeats 4000000 in
theorem refgetrow_any (b : Value) (xs : List UInt8) (at_ : Int) (nm : ByteArray) (rws : Int) (cv : Value) (L : List ColD) (w : World) (hb : Bs w b xs) (hx : xs.length ≤ 1000) (h : Cols w cv L) (hL : L.length ≤ 1000) :
    Calls Tryd.prog 27 #[b, .int .i64 at_, tabV ⟨nm, rws, cv, L⟩] w (GetP xs at_ L w) := by
  obtain ⟨ao, cap, rfl, _, _⟩ := hb.len
  obtain ⟨co, ccap, rfl, _, _, hr⟩ := h
  have HR := Lib.hid hr
  have HB := Lib.hid hb
  have HB0 := Lib.hid (show Rb w (w.alloc (.cells #[.string nm, .int .i64 rws, .slice co L.length ccap] 25)) from (Below.refl _ w).alloc (Nat.le_refl _) _)
  obtain ⟨i0, hi0, hz0, hz1, hz2⟩ := info_parts infoV3
  have Hi := Lib.hid hi0
  have Hz := Lib.hid hz0
  have Hz1 := Lib.hid hz1
  have Hz2 := Lib.hid hz2
  clear hr hb hi0 hz0 hz1 hz2
  by_cases hin : 0 ≤ at_ ∧ at_ ≤ (xs.length : Int)
  · obtain ⟨i1, i2⟩ := hin
    have n1 : ¬ at_ < 0 := by omega
    have n2 : ¬ (xs.length : Int) < at_ := by omega
    have HIN := Lib.hid (show inB xs at_ = true by unfold inB; rw [decide_eq_true ⟨i1, i2⟩])
    go_enter Tryd.func27, Tryd.ntmps27
    go_wp2
    go_loopw [1, 9, 25] (fun q p i wr => ∃ (k : Nat) (ps : Int), k ≤ L.length ∧ i = .int .i64 k ∧ q = .int .i64 ps ∧ Hid (ps = posK xs at_ k) ∧ Hid (∀ j, j < k → okK xs at_ L j = true) ∧ (0 ≤ ps ∧ ps ≤ 1000 + 1001 * (k : Int)) ∧ wr.ownsRow w.heap.size 70 3 p k (flat3 (getRowV xs at_ k)) ∧ Rb w wr) (fun _ _ i _ => L.length - (intOf i).toNat)
    case atStart => exact ⟨0, at_, Nat.zero_le _, rfl, rfl, rfl, fun j hj => absurd hj (Nat.not_lt_zero _), ⟨by omega, by omega⟩, World.ownsRow_nil _ _ _ _, HB0.out⟩
    case round =>
      obtain ⟨k, ps, hk, rfl, rfl, hps, hall, ⟨b1, b2⟩, ho, hb⟩ := hrel
      have HO := Lib.hid ho
      have HBB := Lib.hid hb
      clear ho
      by_cases hlt : k < L.length
      · obtain ⟨cb, coff, rfl, hc⟩ := HR.out (by omega)
        obtain ⟨z0, z1, z2⟩ := hc k hlt
        have y0 := cell_rb hb z0
        have y1 := cell_rb hb z1
        have y2 := cell_rb hb z2
        obtain ⟨c, hcx⟩ : ∃ c, c = L[k] := ⟨_, rfl⟩
        rw [← hcx] at y0 y1 y2
        have hgd : L.getD k c00 = c := by rw [List.getD_eq_getElem?_getD, List.getElem?_eq_getElem hlt, Option.getD_some, hcx]
        obtain ⟨gk, gn, gs, gm, e1, e2, e3, e4, e5, e6⟩ := tupr_of xs ps c.kind c.max hx
        have hget := fun w' (hw : Rb w w') => refget_val (.slice ao xs.length cap) xs ps w' (HB.out.below hw) hx
        rw [e1] at hget
        have hok : okK xs at_ L k = (decide (gm ≠ 0) && fitsB gk gn gs.data.toList c.kind c.max) := by
          unfold okK
          rw [hgd, ← hps.out]; exact e3
        have hval : valK xs at_ k = ⟨gk, gn, gs⟩ := by unfold valK; rw [← hps.out]; exact e2
        have hnx : gm ≠ 0 → posK xs at_ (k + 1) = ps + gm := fun h => by
          show nextG (getV xs (posK xs at_ k)) (posK xs at_ k) = _
          rw [← hps.out]; exact e4 h
        have HOKK := Lib.hid hok
        have HVAL := Lib.hid hval
        have HNX := Lib.hid hnx
        have HGET := Lib.hid hget
        have HPS := hps
        clear z0 z1 z2 hc hcx hgd e1 e2 e3 e4 hget hok hval hnx hps hb
        obtain ⟨cn, ck, cm⟩ := c
        dsimp only at y0 y1 y2 HOKK
        have hfit := fun w => reffits_any gk gn gs ck cm w e6
        generalize fitsB gk gn gs.data.toList ck cm = fb at *
        go_wp2_with (refine wpList_store rfl 57 _ _ rfl wr.heap.size 0 _ _ [_, _, _] _ rfl rfl (Blk.new wr 57 [_, _, _]) rfl sizeC (by simp) (oneC _ _ _) ?_)
        intro w1 hb1 hw1
        have hr1 := hw1.rb_new
        have HB1 := Lib.hid (Rb.trans _ _ _ HBB.out hr1)
        have HO1 := Lib.hid (owns_below HO.out hr1)
        have HX := Lib.hid hb1.c3
        clear hb1 hw1 y0 y1 y2 hr1
        go_wp2_with fail
        refine (HGET.out _ HB1.out).mono ?_
        rintro e w2 ⟨rfl, hb2⟩
        have HB2 := Lib.hid (Rb.trans _ _ _ HB1.out hb2)
        have HO2 := Lib.hid (owns_below HO1.out hb2)
        have x1 := cell_rb hb2 HX.out.2.1
        have x2 := cell_rb hb2 HX.out.2.2
        clear hb2 HGET
        go_wp2_with (refine wpList_store rfl 70 _ _ rfl w2.heap.size 0 _ _ [_, _, _] _ rfl rfl (Blk.new w2 70 [_, _, _]) rfl sizeV (by simp) (oneV _ _ _) ?_)
        intro w3 hb3 hw3
        have hr3 := hw3.rb_new
        have HB3 := Lib.hid (Rb.trans _ _ _ HB2.out hr3)
        have HO3 := Lib.hid (owns_below HO2.out hr3)
        have q1 := cell_rb hr3 x1
        have q2 := cell_rb hr3 x2
        obtain ⟨v0, v1, v2⟩ := hb3.c3
        have HV := Lib.hid hb3.c3
        clear hb3 hw3 hr3 x1 x2
        by_cases hg0 : gm = 0
        · have hno : getOk xs at_ L = false := by
            unfold getOk
            rw [HIN.out, Bool.true_and, Bool.eq_false_iff]
            intro ht
            have := List.all_eq_true.1 ht k (List.mem_range.2 hlt)
            rw [HOKK.out, hg0] at this
            cases this
          have HNO := Lib.hid hno
          have hgb : (gm == 0) = true := by rw [hg0]; rfl
          subst hg0
          clear hno hfit hgb
          go_wp2
          go_ret3
          exact GetP.no HNO.out HB3.out
        · have hgb : (gm == 0) = false := by rw [beq_eq_false_iff_ne]; exact hg0
          have hok2 : okK xs at_ L k = fb := by rw [HOKK.out, decide_eq_true hg0]; rfl
          have HOK2 := Lib.hid hok2
          have HNX2 := Lib.hid (HNX.out hg0)
          clear hok2 hg0
          go_wp2_with fail
          refine (hfit _).mono ?_
          rintro e w4 ⟨rfl, hb4⟩
          have HB4 := Lib.hid (Rb.trans _ _ _ HB3.out hb4)
          have HO4 := Lib.hid (owns_below HO3.out hb4)
          have u0 := cell_rb hb4 HV.out.1
          have u1 := cell_rb hb4 HV.out.2.1
          have u2 := cell_rb hb4 HV.out.2.2
          clear hb4 hfit q1 q2 v0 v1 v2
          cases fb with
          | false =>
            have hno : getOk xs at_ L = false := by
              unfold getOk
              rw [HIN.out, Bool.true_and, Bool.eq_false_iff]
              intro ht
              have := List.all_eq_true.1 ht k (List.mem_range.2 hlt)
              rw [HOK2.out] at this
              cases this
            have HNO := Lib.hid hno
            clear hno
            go_wp2
            go_ret3
            exact GetP.no HNO.out HB4.out
          | true =>
            have HO5 := Lib.hid (World.ownsRow.alloc HO4.out (.cells (cells3 ⟨gk, gn, gs⟩).toArray 70))
            have HB5 := Lib.hid (Below.alloc HB4.out HB4.out.size (.cells (cells3 ⟨gk, gn, gs⟩).toArray 70))
            go_wp2_with (at_builtin; (refine wpList_append_own _ rfl _ _ 39 rfl w.heap.size 70 i0 (.agg #[.int .i64 0, .int .i64 0, .string ⟨#[]⟩]) 3 32 Tryd.underlying39 Hi.out Hz.out Hz1.out Hz2.out rfl (by decide) _ k _ rfl HO5.out ⟨w4.heap.size, 0, none⟩ 1 1 (cells3 ⟨gk, gn, gs⟩) rfl rfl (cells_new _ _ _ (by simp [maxLen])) (cells3_one _) (by unfold maxLen; omega) (by omega) (HB5.out.size) ?_))
            intro v' w5 ho hg hnil
            have hfl : flat3 (getRowV xs at_ k) ++ cells3 ⟨gk, gn, gs⟩ = flat3 (getRowV xs at_ (k + 1)) := by
              unfold getRowV
              rw [map_range_succ, flat3_append, HVAL.out]
              simp [flat3]
            rw [hfl] at ho
            obtain ⟨g', cap', rfl⟩ := owns_form ho (by omega)
            have HO6 := Lib.hid ho
            have HB6 := Lib.hid (HB5.out.grown hg HB5.out.size (fun b hb => (HO5.out.lt b hb).1))
            have HALL : Hid (∀ j, j < k + 1 → okK xs at_ L j = true) := fun j hj => by
              by_cases hjk : j < k
              · exact hall.out j hjk
              · rw [show j = k by omega]; exact HOK2.out
            clear ho hg hnil hfl u0 u1 u2
            go_wp2
            go_roundw
            case rel => exact ⟨k + 1, ps + gm, by omega, by go_num, rfl, HNX2.out.symm, HALL, ⟨by omega, by omega⟩, HO6.out, HB6.out⟩
            case measure => simp [intOf]; omega
      · have hkl : k = L.length := by omega
        have hyes : getOk xs at_ L = true := by
          unfold getOk
          rw [HIN.out, Bool.true_and, List.all_eq_true]
          intro j hj
          exact hall.out j (by have := List.mem_range.1 hj; omega)
        have HYES := Lib.hid hyes
        have hv := (VRow.of HO.out (by unfold getRowV; simp)).vals
        rw [hkl] at hv
        have HV := Lib.hid hv
        have HP := Lib.hid (show ps = posK xs at_ L.length by rw [← hkl]; exact hps.out)
        clear hkl hyes hv hb hps hall
        go_wp2
        go_ret3
        exact GetP.yes HYES.out HV.out HP.out HBB.out
  · have HNO := Lib.hid (show getOk xs at_ L = false by unfold getOk; rw [show inB xs at_ = false by unfold inB; rw [decide_eq_false hin]]; rfl)
    by_cases n1 : at_ < 0
    · clear hin
      go_enter Tryd.func27, Tryd.ntmps27
      go_wp2
      go_ret3
      exact GetP.no HNO.out HB0.out
    · have n2 : (xs.length : Int) < at_ := by omega
      clear hin
      go_enter Tryd.func27, Tryd.ntmps27
      go_wp2
      go_ret3
      exact GetP.no HNO.out HB0.out
end Go.Proofs.YtolfeellcdoopaaDoor.L6
