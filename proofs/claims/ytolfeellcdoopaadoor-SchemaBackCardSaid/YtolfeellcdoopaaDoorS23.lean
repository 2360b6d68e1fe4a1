/-
  Layer 6: the values that stand in some bytes, one behind the other; GetRow's closure.
-/
import Derived.Test.YtolfeellcdoopaaDoorS21
import Derived.Test.YtolfeellcdoopaaDoorS9
import Derived.Test.YtolfeellcdoopaaDoorVU
namespace Go.Proofs.YtolfeellcdoopaaDoor.L6
open Go.ChangeShapes Go.WideShapes Go.ChangeAt Go.RowKit Oct By Reg Val
set_option linter.unusedVariables false
set_option linter.unusedSimpArgs false

abbrev GV := Option (Int × Int × List UInt8 × Nat)
def valG : GV → ValD
  | none => ⟨0, 0, ⟨#[]⟩⟩
  | some (k, n, s, _) => ⟨k, n, str s⟩
def okG (g : GV) (ck cm : Int) : Bool := match g with
  | none => false
  | some (k, n, s, _) => fitsB k n s ck cm
def nextG (g : GV) (i : Int) : Int := match g with
  | none => 0
  | some (_, _, _, m) => i + m
theorem getV_len {xs s : List UInt8} {i k n : Int} {m : Nat} (h : getV xs i = some (k, n, s, m)) : s.length ≤ xs.length := by
  unfold getV at h
  split at h
  · split at h
    · cases h
    · rename_i hc
      split at h
      · simp only [Option.some.injEq, Prod.mk.injEq] at h
        obtain ⟨_, _, rfl, _⟩ := h
        exact cand_len hc
      · cases h
  · cases h
theorem tup_of (g : GV) (i ck cm : Int) : ∃ gk gn gs gp gok, tupV g i = .tuple #[vv gk gn gs, .int .i64 gp, .bool gok] ∧ valG g = ⟨gk, gn, gs⟩ ∧ nextG g i = gp ∧ okG g ck cm = (gok && fitsB gk gn gs.data.toList ck cm) ∧ ∀ xs, g = getV xs i → xs.length ≤ 1000 → gs.size ≤ maxLen := by
  cases g with
  | none => exact ⟨0, 0, ⟨#[]⟩, 0, false, rfl, rfl, rfl, rfl, fun _ _ _ => by decide⟩
  | some q =>
    obtain ⟨k, n, s, m⟩ := q
    refine ⟨k, n, str s, i + m, true, rfl, rfl, rfl, rfl, fun xs hg hx => ?_⟩
    have := getV_len hg.symm
    rw [str_size]
    unfold maxLen
    omega

section
variable {ops : Array Oper} {o : Oper} {a : Act} {w : World} {T : World → Value → Prop}
/-- a store of what stands there already -/
theorem ok_store_same {N : Nat} {k n : Int} {s : ByteArray} (x y : Operand) (ho : o.op = .store 70 x y) (hw : Region.wanted o (yielded ops a.tmps) = true) (hx : a.eval x = .pointer (some ⟨N, 0, none⟩)) (hy : a.eval y = vv k n s)
    (hb : Blk w N 70 [.int .i64 k, .int .i64 n, .string s]) (h : ∀ w', Rb w w' → T w' undef) : okAt Tryd.prog ops o a w T := by
  obtain ⟨w', hr, h2, h3⟩ := run_store_blk (P := Tryd.prog) (off := 0) (ty := 70) (vs := [.int .i64 k, .int .i64 n, .string s]) (v := vv k n s) hb rfl sizeV (by simp) (oneV _ _ _)
  have hrb : Rb w w' := by
    refine ⟨h3.os, h3.tape, h3.output, by rw [h3.size]; exact Nat.le_refl _, fun j hj => ?_⟩
    by_cases e : j = N
    · subst e; exact h2.trans hb.symm
    · exact h3.block j e
  unfold okAt yieldsTo
  rw [if_pos hw]
  simp only [execOp, ho, hx, hy, Sem.run_bind, hr, Result.andThen_ok]
  exact h _ hrb
end
theorem sizeI : (Tryd.prog.info? 3).map (·.size) = some 1 := by kernel_rfl

set_option maxRecDepth 100000 in
set_option maxHeartbeats 4000000 in
theorem getrow1_any (ck cm : Int) (Bb Bn : Nat) (bv : Value) (xs : List UInt8) (i : Int) (w : World) (hb : w.cell? ⟨Bb, 0, none⟩ = some bv) (hv : Bs w bv xs) (hn : Blk w Bn 3 [.int .i64 i]) (hx : xs.length ≤ 1000) :
    Calls Tryd.prog 53 #[.agg #[.int .i64 ck, .int .i64 cm], .pointer (some ⟨Bb, 0, none⟩), .pointer (some ⟨Bn, 0, none⟩)] w fun e w' => e = .returned (.tuple #[valV3 (valG (getV xs i)), .bool (okG (getV xs i) ck cm)]) ∧ Fr (fun k => k = Bn) w w' ∧ Blk w' Bn 3 [.int .i64 (nextG (getV xs i) i)] := by
  have hcl := fun w' (hw : Rb w w') => get_any bv xs i w' (hv.below hw) hx
  obtain ⟨ao, cap, rfl, _, _⟩ := hv.len
  obtain ⟨gk, gn, gs, gp, gok, h1, h2, h3, h4, h5⟩ := tup_of (getV xs i) i ck cm
  rw [h1] at hcl
  rw [h2, h3, h4]
  have hgs := h5 xs rfl hx
  clear h1 h2 h3 h4 h5
  have hfit := fun w' => fits_any gk gn gs ck cm w' hgs
  generalize hfb : fitsB gk gn gs.data.toList ck cm = fb at *
  have HFIT := Lib.hid hfit
  obtain ⟨w1, hw1⟩ : ∃ w1, w1 = (w.alloc (.cells #[.int .i64 ck, .int .i64 cm] 55)).alloc (.cells #[.int .i64 0, .int .i64 0, .string ⟨#[]⟩] 70) := ⟨_, rfl⟩
  have hr1 : Rb w w1 := by rw [hw1]; exact ((Below.refl _ w).alloc (Nat.le_refl _) _).alloc (by simp) _
  have hz1 : w1.heap.size = w.heap.size + 2 := by rw [hw1]; simp
  have hT1 : HeldT w1 w.heap.size ck cm := by rw [hw1]; refine ⟨?_, ?_⟩ <;> simp
  have hV1 : Blk w1 (w.heap.size + 1) 70 [.int .i64 0, .int .i64 0, .string ⟨#[]⟩] := by
    rw [hw1]
    have := Blk.new (w.alloc (.cells #[.int .i64 ck, .int .i64 cm] 55)) 70 [.int .i64 0, .int .i64 0, .string ⟨#[]⟩]
    rw [show (w.alloc (.cells #[.int .i64 ck, .int .i64 cm] 55)).heap.size = w.heap.size + 1 by simp] at this
    exact this
  have y0 := cell_rb hr1 hb
  have y1 : w1.cell? ⟨Bn, 0, none⟩ = some (.int .i64 i) := cell_rb hr1 (hn.cell 0)
  have hnlt := hn.lt
  have HNLT := Lib.hid hnlt
  have HW1 := Lib.hid hw1
  have HR1 := Lib.hid hr1
  have HZ1 := Lib.hid hz1
  have HT1 := Lib.hid hT1
  have HV1 := Lib.hid hV1
  have HN1 := Lib.hid (hn.rb hr1)
  have HCL := Lib.hid (hcl w1 hr1)
  have HFB := Lib.hid hfb
  clear hb hv hn hcl hw1 hr1 hz1 hT1 hV1 hfit hnlt hfb
  go_enter Tryd.func53, Tryd.ntmps53
  go_upto_region 1 with (fail)
  rw [← HW1.out]
  go_wp2_with fail
  refine HCL.out.mono ?_
  rintro e w2 ⟨rfl, hb2⟩
  have hr2 : Rb w1 w2 := hb2
  have HR2 := Lib.hid hr2
  have HV2 := Lib.hid (HV1.out.rb hr2)
  clear hb2 hr2 y0 y1
  go_wp2_with (refine wpList_store rfl 70 _ _ rfl (w.heap.size + 1) 0 _ _ [_, _, _] _ rfl rfl HV2.out rfl sizeV (by simp) (oneV _ _ _) ?_)
  intro w3 hb3 hw3
  have hn3 : Blk w3 Bn 3 [.int .i64 i] := (HN1.out.rb HR2.out).same (hw3.block Bn (by have := HNLT.out; omega))
  have HN3 := Lib.hid hn3
  have HB3 := Lib.hid hb3
  have HW3 := Lib.hid hw3
  clear hb3 hw3 hn3
  go_wp2_with (refine wpList_store rfl 3 _ _ rfl Bn 0 _ _ [_] _ rfl rfl HN3.out rfl sizeI (by simp) (by intro v hv; simp at hv; subst hv; rfl) ?_)
  intro w4 hb4 hw4
  have hV4 : Blk w4 (w.heap.size + 1) 70 [.int .i64 gk, .int .i64 gn, .string gs] := HB3.out.same (hw4.block _ (by have := HNLT.out; omega))
  have hT4 : HeldT w4 w.heap.size ck cm := by
    have h := HT1.out.rb HR2.out
    have e : ∀ i, w4.cell? ⟨w.heap.size, i, none⟩ = w2.cell? ⟨w.heap.size, i, none⟩ := fun i => by
      unfold World.cell?
      rw [hw4.block w.heap.size (by have := HNLT.out; omega), HW3.out.block w.heap.size (by omega)]
    exact ⟨(e 0).trans h.1, (e 1).trans h.2⟩
  have HV := Lib.hid hV4
  have HVC : Hid (HeldV w4 (w.heap.size + 1) gk gn gs) := ⟨hV4.cell 0, hV4.cell 1, hV4.cell 2⟩
  have HT := Lib.hid hT4
  have HN5 := Lib.hid (show Blk w4 Bn 3 [.int .i64 gp] from hb4)
  have HF5 : Hid (Fr (fun k => k = Bn) w w4) := by
    have hf := Fr.of_rb (F := fun k => k = Bn) (Rb.trans _ _ _ HR1.out HR2.out)
    exact (hf.wrote HW3.out (.inr (by omega))).wrote hw4 (.inl rfl)
  have hcells := hV4.c3
  clear hb4 hw4 hV4 hT4 hcells HN3 HB3 HW3 HV2 HCL
  generalize w.heap.size = TB at *
  go_upto_region 2 with (fail)
  cases gok with
  | false =>
    have HOK := Lib.hid (show (false && fb) = false from rfl)
    refine wp_region_store_specs (R := Rb) (S := [Spec.eq (vv (gk) (gn) (gs)), Spec.eq (.bool false), Spec.eq (.bool false), Spec.eq (undef), Spec.eq (undef), Spec.eq (undef), Spec.eq (.bool false), Spec.eq (undef), Spec.eq (.bool false)]) (n := 1) (size := 20) (by kernel_rfl) Rb.trans (Rb.drew _) rfl (by kernel_rfl) ?owed ?fin
    case owed =>
      refine Owed.cons ?_ ?_
      · -- 0: slot 13 := Op.load 70 (Operand.tmp 4)
        intro a w hR F
        have e4 : a.eval (.tmp 4) = .pointer (some ⟨(TB + 1), 0, none⟩) := F.old 4 (by kernel_rfl)
        exact ok_load _ _ rfl (wanted_none rfl) e4 ((HVC.out).rb hR).load ⟨Rb.refl _, rfl⟩
      refine Owed.cons ?_ ?_
      · -- 1: slot 14 := Op.move (Operand.tmp 5)
        intro a w hR F
        have e5 : a.eval (.tmp 5) = .bool false := F.old 5 (by kernel_rfl)
        exact ok_move _ rfl (wanted_none rfl) ⟨Rb.refl _, e5⟩
      refine Owed.cons ?_ ?_
      · -- 2: slot 15 := Op.move (Operand.tmp 14)
        intro a w hR F
        have e14 : a.eval (.tmp 14) = .bool false := F.new 1 14 (by kernel_rfl)
        exact ok_move _ rfl (wanted_none rfl) ⟨Rb.refl _, e14⟩
      refine Owed.cons ?_ ?_
      · -- 3: slot 16 := Op.load 70 (Operand.tmp 4)
        intro a w hR F
        have e15 : a.eval (.tmp 15) = .bool false := F.new 2 15 (by kernel_rfl)
        exact ok_skip (wanted_false (j := 2) (d := 15) rfl (by kernel_rfl) e15) ⟨Rb.refl _, rfl⟩
      refine Owed.cons ?_ ?_
      · -- 4: slot 17 := Op.load 55 (Operand.tmp 3)
        intro a w hR F
        have e15 : a.eval (.tmp 15) = .bool false := F.new 2 15 (by kernel_rfl)
        exact ok_skip (wanted_false (j := 2) (d := 15) rfl (by kernel_rfl) e15) ⟨Rb.refl _, rfl⟩
      refine Owed.cons ?_ ?_
      · -- 5: slot 18 := Op.call { callee := Callee.value (Operand.func 55), args := #[Operand.tmp 16, Operand.tmp 17], argTy
        intro a w hR F
        have e15 : a.eval (.tmp 15) = .bool false := F.new 2 15 (by kernel_rfl)
        exact ok_skip (wanted_false (j := 2) (d := 15) rfl (by kernel_rfl) e15) ⟨Rb.refl _, rfl⟩
      refine Owed.cons ?_ ?_
      · -- 6: slot 19 := Op.pick (Operand.tmp 15) (Operand.tmp 18) (Operand.const (Value.bool false))
        intro a w hR F
        have e15 : a.eval (.tmp 15) = .bool false := F.new 2 15 (by kernel_rfl)
        exact ok_pick _ _ _ false rfl (wanted_none rfl) e15 ⟨Rb.refl _, rfl⟩
      refine Owed.cons ?_ ?_
      · -- 7: slot None := Op.store 70 (Operand.tmp 4) (Operand.tmp 13)
        intro a w hR F
        have e4 : a.eval (.tmp 4) = .pointer (some ⟨(TB + 1), 0, none⟩) := F.old 4 (by kernel_rfl)
        have e13 : a.eval (.tmp 13) = vv (gk) (gn) (gs) := F.new 0 13 (by kernel_rfl)
        exact ok_store_same _ _ rfl (wanted_none rfl) e4 e13 (HV.out.rb hR) (fun w' hw => ⟨hw, rfl⟩)
      refine Owed.cons ?_ ?_
      · -- 8: slot 5 := Op.assign (Operand.tmp 19)
        intro a w hR F
        have e19 : a.eval (.tmp 19) = .bool false := F.new 6 19 (by kernel_rfl)
        exact ok_assign _ rfl (wanted_none rfl) ⟨Rb.refl _, e19⟩
      exact Owed.nil
    case fin =>
      intro y w6 hR hy
      have e8 : y 8 = .bool false := hy 8 _ rfl
      obtain ⟨x0, x1, x2⟩ := HVC.out.rb hR
      have HFR := Lib.hid (HF5.out.then_rb hR)
      have HBN := Lib.hid (HN5.out.rb hR)
      clear hy hR
      simp only [putAll, Act.put, List.setIfInBounds_toArray, List.set_cons_zero, List.set_cons_succ]
      rw [e8]
      clear e8
      go_wp2
      exact bodyPost_ret (v := .tuple #[vv gk gn gs, .bool false]) (by simp [results, Tryd.results53, go_sem, x0, x1, x2]) rfl ⟨by rw [HOK.out], HFR.out, HBN.out⟩
  | true =>
    have HOK := Lib.hid (show (true && fb) = fb from rfl)
    refine wp_region_store_specs (R := Rb) (S := [Spec.eq (vv (gk) (gn) (gs)), Spec.eq (.bool true), Spec.eq (.bool true), Spec.eq (vv (gk) (gn) (gs)), Spec.eq (tv (ck) (cm)), Spec.eq (.bool fb), Spec.eq (.bool fb), Spec.eq (undef), Spec.eq (.bool fb)]) (n := 1) (size := 20) (by kernel_rfl) Rb.trans (Rb.drew _) rfl (by kernel_rfl) ?owed ?fin
    case owed =>
      refine Owed.cons ?_ ?_
      · -- 0: slot 13 := Op.load 70 (Operand.tmp 4)
        intro a w hR F
        have e4 : a.eval (.tmp 4) = .pointer (some ⟨(TB + 1), 0, none⟩) := F.old 4 (by kernel_rfl)
        exact ok_load _ _ rfl (wanted_none rfl) e4 ((HVC.out).rb hR).load ⟨Rb.refl _, rfl⟩
      refine Owed.cons ?_ ?_
      · -- 1: slot 14 := Op.move (Operand.tmp 5)
        intro a w hR F
        have e5 : a.eval (.tmp 5) = .bool true := F.old 5 (by kernel_rfl)
        exact ok_move _ rfl (wanted_none rfl) ⟨Rb.refl _, e5⟩
      refine Owed.cons ?_ ?_
      · -- 2: slot 15 := Op.move (Operand.tmp 14)
        intro a w hR F
        have e14 : a.eval (.tmp 14) = .bool true := F.new 1 14 (by kernel_rfl)
        exact ok_move _ rfl (wanted_none rfl) ⟨Rb.refl _, e14⟩
      refine Owed.cons ?_ ?_
      · -- 3: slot 16 := Op.load 70 (Operand.tmp 4)
        intro a w hR F
        have e15 : a.eval (.tmp 15) = .bool true := F.new 2 15 (by kernel_rfl)
        have e4 : a.eval (.tmp 4) = .pointer (some ⟨(TB + 1), 0, none⟩) := F.old 4 (by kernel_rfl)
        exact ok_load _ _ rfl (wanted_true (j := 2) (d := 15) rfl (by kernel_rfl) e15) e4 ((HVC.out).rb hR).load ⟨Rb.refl _, rfl⟩
      refine Owed.cons ?_ ?_
      · -- 4: slot 17 := Op.load 55 (Operand.tmp 3)
        intro a w hR F
        have e15 : a.eval (.tmp 15) = .bool true := F.new 2 15 (by kernel_rfl)
        have e3 : a.eval (.tmp 3) = .pointer (some ⟨TB, 0, none⟩) := F.old 3 (by kernel_rfl)
        exact ok_load _ _ rfl (wanted_true (j := 2) (d := 15) rfl (by kernel_rfl) e15) e3 (HT.out.rb hR).load ⟨Rb.refl _, rfl⟩
      refine Owed.cons ?_ ?_
      · -- 5: slot 18 := Op.call { callee := Callee.value (Operand.func 55), args := #[Operand.tmp 16, Operand.tmp 17], argTy
        intro a w hR F
        have e15 : a.eval (.tmp 15) = .bool true := F.new 2 15 (by kernel_rfl)
        have e16 : a.eval (.tmp 16) = vv (gk) (gn) (gs) := F.new 3 16 (by kernel_rfl)
        have e17 : a.eval (.tmp 17) = tv (ck) (cm) := F.new 4 17 (by kernel_rfl)
        refine ok_call 55 _ _ #[vv (gk) (gn) (gs), tv (ck) (cm)] rfl (wanted_true (j := 2) (d := 15) rfl (by kernel_rfl) e15) (by simp [e16, e17]) (Tryd.call55 _ _) ?_
        exact val_call_below (HFIT.out w)
      refine Owed.cons ?_ ?_
      · -- 6: slot 19 := Op.pick (Operand.tmp 15) (Operand.tmp 18) (Operand.const (Value.bool false))
        intro a w hR F
        have e15 : a.eval (.tmp 15) = .bool true := F.new 2 15 (by kernel_rfl)
        have e18 : a.eval (.tmp 18) = .bool fb := F.new 5 18 (by kernel_rfl)
        exact ok_pick _ _ _ true rfl (wanted_none rfl) e15 ⟨Rb.refl _, e18⟩
      refine Owed.cons ?_ ?_
      · -- 7: slot None := Op.store 70 (Operand.tmp 4) (Operand.tmp 13)
        intro a w hR F
        have e4 : a.eval (.tmp 4) = .pointer (some ⟨(TB + 1), 0, none⟩) := F.old 4 (by kernel_rfl)
        have e13 : a.eval (.tmp 13) = vv (gk) (gn) (gs) := F.new 0 13 (by kernel_rfl)
        exact ok_store_same _ _ rfl (wanted_none rfl) e4 e13 (HV.out.rb hR) (fun w' hw => ⟨hw, rfl⟩)
      refine Owed.cons ?_ ?_
      · -- 8: slot 5 := Op.assign (Operand.tmp 19)
        intro a w hR F
        have e19 : a.eval (.tmp 19) = .bool fb := F.new 6 19 (by kernel_rfl)
        exact ok_assign _ rfl (wanted_none rfl) ⟨Rb.refl _, e19⟩
      exact Owed.nil
    case fin =>
      intro y w6 hR hy
      have e8 : y 8 = .bool fb := hy 8 _ rfl
      obtain ⟨x0, x1, x2⟩ := HVC.out.rb hR
      have HFR := Lib.hid (HF5.out.then_rb hR)
      have HBN := Lib.hid (HN5.out.rb hR)
      clear hy hR
      simp only [putAll, Act.put, List.setIfInBounds_toArray, List.set_cons_zero, List.set_cons_succ]
      rw [e8]
      clear e8
      go_wp2
      exact bodyPost_ret (v := .tuple #[vv gk gn gs, .bool fb]) (by simp [results, Tryd.results53, go_sem, x0, x1, x2]) rfl ⟨by rw [HOK.out], HFR.out, HBN.out⟩
end Go.Proofs.YtolfeellcdoopaaDoor.L6
