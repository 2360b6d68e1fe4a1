/-
  Layer 4: the document's Scan and Same.
-/
import Derived.Test.YtbdgdmieggpmhaaW5
import Derived.Test.YtbdgdmieggpmhaaW8
namespace Go.Proofs.Ytbdgdmieggpmhaa.L4
open Go.ChangeShapes Go.WideShapes Go.ChangeAt Go.RowKit Oct By Reg L3
set_option linter.unusedVariables false

theorem frameB_gen {g g' : Nat} {s s' : List UInt8} (hg : g < 4294967296) (hg' : g' < 4294967296) (h : frameB g s = frameB g' s') : g = g' := by
  have h2 := congrArg (List.take 4) h
  have e : ∀ n t, (frameB n t).take 4 = wordB n := fun n t => by
    rw [show frameB n t = wordB n ++ (textB t ++ wordB (sumN (headB n t))) by simp [frameB, headB], ← wordB_len n, List.take_left]
  rw [e, e] at h2
  exact wordB_inj hg hg' h2

/-- a slice of strings that reads as these -/
def StrsR (w : World) (v : Value) (ss : List (List UInt8)) : Prop := ∃ ao cap, v = .slice ao ss.length cap ∧ ss.length ≤ cap ∧ cap ≤ maxLen ∧ (0 < ss.length → ∃ b o, ao = some ⟨b, o, none⟩ ∧ ∀ k, k < ss.length → w.cell? ⟨b, o + k, none⟩ = some (strV (ss.getD k [])))
/-- a slice of slices of bytes that reads as these -/
def RowsR (w : World) (v : Value) (ss : List (List UInt8)) : Prop := ∃ ao cap, v = .slice ao ss.length cap ∧ ss.length ≤ cap ∧ cap ≤ maxLen ∧ (0 < ss.length → ∃ b o, ao = some ⟨b, o, none⟩ ∧ ∀ k, k < ss.length → ∃ u, w.cell? ⟨b, o + k, none⟩ = some u ∧ Bs w u (ss.getD k []))
theorem StrsR.rb {w w' : World} {v : Value} {ss : List (List UInt8)} (h : StrsR w v ss) (hb : Rb w w') : StrsR w' v ss := by
  obtain ⟨ao, cap, e, h2, h3, h4⟩ := h
  refine ⟨ao, cap, e, h2, h3, fun h0 => ?_⟩
  obtain ⟨b, o, e2, hc⟩ := h4 h0
  exact ⟨b, o, e2, fun k hk => cell_rb hb (hc k hk)⟩
theorem RowsR.rb {w w' : World} {v : Value} {ss : List (List UInt8)} (h : RowsR w v ss) (hb : Rb w w') : RowsR w' v ss := by
  obtain ⟨ao, cap, e, h2, h3, h4⟩ := h
  refine ⟨ao, cap, e, h2, h3, fun h0 => ?_⟩
  obtain ⟨b, o, e2, hc⟩ := h4 h0
  refine ⟨b, o, e2, fun k hk => ?_⟩
  obtain ⟨u, h5, h6⟩ := hc k hk
  exact ⟨u, cell_rb hb h5, h6.below hb⟩
theorem owns_slice {w : World} {B : Nat} {e : TypeId} {v : Value} {xs : List Value} (h : w.ownsRow B e 1 v xs.length xs) : ∃ ao cap, v = .slice ao xs.length cap ∧ xs.length ≤ cap ∧ cap ≤ maxLen ∧ (0 < xs.length → ∃ b, ao = some ⟨b, 0, none⟩ ∧ ∀ k, k < xs.length → w.cell? ⟨b, 0 + k, none⟩ = some (xs.getD k undef)) := by
  have h0 := h
  rcases h.2 with ⟨rfl, h2⟩ | ⟨g, cap, cur, rfl, h2, h3, h4, h5, h6, h7⟩
  · exact ⟨none, 0, by rw [h2], by omega, Nat.zero_le _, fun h => by omega⟩
  · refine ⟨_, cap, rfl, h4, h5, fun _ => ⟨g, rfl, fun k hk => ?_⟩⟩
    have hc := h0.cells (g := g) rfl k xs[k] (by simp [hk])
    have hadd : (⟨g, 0, none⟩ : Addr).add k = ⟨g, 0 + k, none⟩ := by unfold Addr.add; split <;> simp_all
    rw [hadd] at hc
    rw [hc, List.getD_eq_getElem?_getD, List.getElem?_eq_getElem hk]
    rfl
theorem RowsV.reads {B : Nat} {w : World} {v : Value} {ss : List (List UInt8)} (h : RowsV B w v ss) : RowsR w v ss := by
  obtain ⟨xs, ho, rfl, hr⟩ := h
  have ho' : w.ownsRow B 23 1 v (xs.map Fr.u).length (xs.map Fr.u) := by rw [List.length_map]; exact ho
  obtain ⟨ao, cap, e, h2, h3, h4⟩ := owns_slice ho'
  rw [List.length_map] at e h2 h4
  refine ⟨ao, cap, by rw [List.length_map]; exact e, by rw [List.length_map]; exact h2, h3, fun h0 => ?_⟩
  rw [List.length_map] at h0
  obtain ⟨b, e2, hc⟩ := h4 h0
  refine ⟨b, 0, e2, fun k hk => ?_⟩
  rw [List.length_map] at hk
  refine ⟨_, hc k hk, ?_⟩
  have hx := hr xs[k] (List.getElem_mem hk)
  obtain ⟨n, c, e1, hb, _⟩ := hx
  simpa [List.getD_eq_getElem?_getD, hk] using hb
def Strs (B : Nat) (w : World) (v : Value) (ss : List (List UInt8)) : Prop := w.ownsRow B 9 1 v ss.length (ss.map strV)
theorem Strs.reads {B : Nat} {w : World} {v : Value} {ss : List (List UInt8)} (h : Strs B w v ss) : StrsR w v ss := by
  have ho' : w.ownsRow B 9 1 v (ss.map strV).length (ss.map strV) := by rw [List.length_map]; exact h
  obtain ⟨ao, cap, e, h2, h3, h4⟩ := owns_slice ho'
  rw [List.length_map] at e h2 h4
  refine ⟨ao, cap, e, h2, h3, fun h0 => ?_⟩
  obtain ⟨b, e2, hc⟩ := h4 h0
  refine ⟨b, 0, e2, fun k hk => ?_⟩
  rw [hc k hk]
  simp [List.getD_eq_getElem?_getD, hk]

set_option maxRecDepth 100000 in
theorem same_any (v u : Value) (ss : List (List UInt8)) (w : World) (h1 : RowsR w v ss) (h2 : StrsR w u ss) :
    Calls Try.prog 20 #[v, u] w fun e w' => e = .returned (.bool true) ∧ Rb w w' := by
  obtain ⟨ao, cap, rfl, hc1, hc2, hr⟩ := h1
  obtain ⟨ao2, cap2, rfl, hd1, hd2, hs⟩ := h2
  have HR := Lib.hid hr
  have HS := Lib.hid hs
  unfold maxLen at hc2 hd2
  have hss : ss.length ≤ 9223372036854775807 := by omega
  clear hr hs hc1 hc2 hd1 hd2
  go_enter Try.func20, Try.ntmps20
  go_wp2
  go_loopw [13] (fun i wr => ∃ k : Nat, k ≤ ss.length ∧ i = .int .i64 k ∧ Rb w wr) (fun i _ => ss.length - (intOf i).toNat)
  case atStart => exact ⟨0, Nat.zero_le _, rfl, Rb.refl _⟩
  case round =>
    obtain ⟨k, hk, rfl, hrb⟩ := hrel
    by_cases hlt : k < ss.length
    · obtain ⟨b, o, rfl, hb⟩ := HR.out (by omega)
      obtain ⟨b2, o2, rfl, hb2⟩ := HS.out (by omega)
      obtain ⟨x, hx1, hx2⟩ := hb k hlt
      have z1 := cell_rb hrb hx1
      have z2 := cell_rb hrb (hb2 k hlt)
      have xb := hx2.below hrb
      have z3 : ∀ n, (convert 23 9 x).run Try.prog (wr.drewN n) = .ok (strV (ss.getD k [])) (wr.drewN n) := fun n => conv_bs (xb.below (drewN_rb wr n))
      generalize ss.getD k [] = s at *
      obtain ⟨xo, xc, rfl, -⟩ := xb.len
      have hn : (s == s) = true := by simp
      have HB := Lib.hid hrb
      have hw : IntKind.i64.wrap ((k : Int) + 1) = ((k + 1 : Nat) : Int) := by rw [IntWalk.i64_in _ (by omega)]; omega
      have hkl : (k : Int) < (ss.length : Int) := by omega
      clear hx1 hx2 xb hrb hb hb2
      unfold strV at z2 z3
      go_upto_region 6 with (fail)
      go_quiet (fail)
      have hrb2 : Rb w (wr.drewN nq) := Rb.trans _ _ _ HB.out (drewN_rb _ _)
      generalize wr.drewN nq = w2 at *
      have HB2 := Lib.hid hrb2
      clear hrb2
      go_wp2
      go_roundw
      case rel => exact ⟨k + 1, by omega, rfl, HB2.out⟩
      case measure => simp [intOf]; omega
    · obtain rfl : k = ss.length := by omega
      have HB := Lib.hid hrb
      clear hrb
      go_wp2
      go_ret
      exact ⟨rfl, HB.out⟩

section
variable {ops : Array Oper} {o : Oper} {a : Act} {w : World} {T : World → Value → Prop}
theorem ok_slice_str (x lo hi : Operand) {X : List UInt8} (l n : Nat) (ho : o.op = .slice 9 x (some lo) (some hi) none) (hw : Region.wanted o (yielded ops a.tmps) = true) (hx : a.eval x = strV X) (hl : a.eval lo = .int .i64 (l : Int)) (hh : a.eval hi = .int .i64 ((l + n : Nat) : Int)) (hc : l + n ≤ X.length ∧ X.length ≤ 100000000) (hT : T w (strV ((X.drop l).take n))) : okAt Try.prog ops o a w T := by
  have hz : (str X).size = X.length := str_size X
  refine ok_value (w' := w) (v := strV ((X.drop l).take n)) hw ?_ hT
  simp only [execOp, ho, hx, hl, hh, Option.map_some, Option.map_none, strV, Sem.run_bind, run_sliceAt_string w 9 _ _ _ _ Try.underlying9]
  rw [run_slice_string w 9 (str X) .i64 .i64 (l : Int) ((l + n : Nat) : Int) Try.underlying9 (by omega) (by omega) (by omega)]
  simp only [Int.toNat_natCast, extract_part]
  rfl
end
theorem infoS : (Try.prog.info? 9).map (fun i => (i.zero, i.size, i.bytes)) = some (some (.string ⟨#[]⟩), 1, 16) := by kernel_rfl
theorem Strs.rb {B : Nat} {w w' : World} {v : Value} {ss : List (List UInt8)} (h : Strs B w v ss) (hb : Rb w w') : Strs B w' v ss := owns_same h fun k hk => hb.block k (h.lt k hk).2
theorem Strs.alloc {B : Nat} {w : World} {v : Value} {ss : List (List UInt8)} (h : Strs B w v ss) (o : Obj) : (w.alloc o).ownsRow B 9 1 v ss.length (ss.map strV) := World.ownsRow.alloc h o

def RScanQ (w : World) (g : Nat) (X : List UInt8) (e : Ending) (w' : World) : Prop :=
  ∃ v, e = .returned (.tuple #[v, .int .i64 (lenL g (rowsL g X) : Nat)]) ∧ Strs w.heap.size w' v (rowsL g X) ∧ Rb w w'

set_option maxRecDepth 100000 in
set_option maxHeartbeats 1000000 in
theorem rscan_any (g : Nat) (X : List UInt8) (w : World) (hx : X.length ≤ 10000000) (hg : g < 4294967296) :
    Calls Try.prog 19 #[.string (str X), .int .u32 g] w (RScanQ w g X) := by
  obtain ⟨i0, hi, hz0, hz1, hz2⟩ := info_parts infoS
  have HG := Lib.hid hg
  have hz : ((str X).size : Int) = (X.length : Int) := by rw [str_size]
  clear hg
  go_enter Try.func19, Try.ntmps19
  go_wp2
  go_loopw [6, 7] (fun p q wr => ∃ (l : List (List UInt8)) (k : Nat), Strs w.heap.size wr p l ∧ q = .int .i64 k ∧ k ≤ X.length ∧ rowsL g X = l ++ rowsL g (X.drop k) ∧ k = lenL g l ∧ Rb w wr) (fun _ q _ => X.length - (intOf q).toNat)
  case atStart => exact ⟨[], 0, World.ownsRow_nil _ _ _ _, rfl, Nat.zero_le _, rfl, rfl, Rb.refl _⟩
  case round =>
    obtain ⟨l, k, hrow, rfl, hk, hrows, hlen, hrb⟩ := hrel
    have hfew := lenL_few g l
    have HOUT : Hid (∀ w2, rowsL g (X.drop k) = [] → Rb wr w2 → RScanQ w g X (.returned (.tuple #[u6, .int .i64 (k : Int)])) w2) := fun w2 h0 hb => by
      rw [h0, List.append_nil] at hrows
      exact ⟨u6, by rw [hrows, ← hlen], by rw [hrows]; exact hrow.rb hb, Rb.trans _ _ _ hrb hb⟩
    by_cases hlt : k < X.length
    · have C := rtext_any X k wr hx hk
      unfold TextQ at C
      have Hrow := Lib.hid hrow
      have HB := Lib.hid hrb
      have HROWS := Lib.hid hrows
      have HLEN := Lib.hid hlen
      have hkl : (k : Int) < (X.length : Int) := by omega
      cases hh : headF (X.drop k) with
      | none =>
        rw [hh] at C
        have HC : Hid (Calls Try.prog 49 #[.string (str X), .int .i64 (k : Int)] wr fun e w' => Rb wr w' ∧ e = .returned (.tuple #[.string (str []), .int .i64 0])) := Lib.hid C
        have HO := HOUT
        have HOUT := Lib.hid (fun w2 => HO.out w2 (rowsL_none hh))
        clear C hh hrow hrows hrb hlen hfew HO
        go_wp2_with fail
        refine HC.out.mono ?_
        rintro e wr2 ⟨hb, rfl⟩
        have HRB := Lib.hid hb
        clear hb
        go_upto_region 5 with (fail)
        change (Code.region _ _ _).wp _ _ { tmps := #[_, _, _, _, _, _, _, _, strV [], _, _, _, _, _, _, _, _, _, _, _, _, _, _, _, _, _, _, _, _, _, _, _, _, _, _, _, _, _, _, _, _, _, _], defers := _ } _
        refine wp_region_specs (R := Rb) (S := [Spec.eq (.int .i64 (0)), Spec.eq (.bool true), Spec.eq (.bool true), Spec.eq (undef), Spec.eq (undef), Spec.eq (undef), Spec.eq (undef), Spec.eq (undef), Spec.eq (undef), Spec.eq (undef), Spec.eq (undef), Spec.eq (undef), Spec.eq (undef), Spec.eq (.bool true)]) (n := 1) (size := 43) (by kernel_rfl) Rb.trans (Rb.drew _) rfl (by kernel_rfl) ?owed ?fin
        case owed =>
          refine Owed.cons ?_ ?_
          · -- 0: slot 20 := Op.move (Operand.tmp 9)
            intro a w hR F
            have e9 : a.eval (.tmp 9) = .int .i64 (0) := F.old 9 (by kernel_rfl)
            exact ok_move _ rfl (wanted_none rfl) ⟨Rb.refl _, e9⟩
          refine Owed.cons ?_ ?_
          · -- 1: slot 21 := Op.binOp BinOp.eql 3 (Operand.tmp 20) (Operand.const (Value.int IntKind.i64 0)) 3
            intro a w hR F
            have e20 : a.eval (.tmp 20) = .int .i64 (0) := F.new 0 20 (by kernel_rfl)
            refine ok_bin _ _ _ _ _ rfl (wanted_none rfl) e20 rfl (run_eql_int _ _ _ _ _ _) ⟨Rb.refl _, ?_⟩
            exact congrArg Value.bool (by simp)
          refine Owed.cons ?_ ?_
          · -- 2: slot 22 := Op.move (Operand.tmp 21)
            intro a w hR F
            have e21 : a.eval (.tmp 21) = .bool true := F.new 1 21 (by kernel_rfl)
            exact ok_move _ rfl (wanted_none rfl) ⟨Rb.refl _, e21⟩
          refine Owed.cons ?_ ?_
          · -- 3: slot 23 := Op.move (Operand.tmp 1)
            intro a w hR F
            have e22 : a.eval (.tmp 22) = .bool true := F.new 2 22 (by kernel_rfl)
            exact ok_skip (wanted_false (j := 2) (d := 22) rfl (by kernel_rfl) e22) ⟨Rb.refl _, rfl⟩
          refine Owed.cons ?_ ?_
          · -- 4: slot 24 := Op.move (Operand.tmp 8)
            intro a w hR F
            have e22 : a.eval (.tmp 22) = .bool true := F.new 2 22 (by kernel_rfl)
            exact ok_skip (wanted_false (j := 2) (d := 22) rfl (by kernel_rfl) e22) ⟨Rb.refl _, rfl⟩
          refine Owed.cons ?_ ?_
          · -- 5: slot 25 := Op.call { callee := Callee.value (Operand.func 14), args := #[Operand.tmp 23, Operand.tmp 24], argTy
            intro a w hR F
            have e22 : a.eval (.tmp 22) = .bool true := F.new 2 22 (by kernel_rfl)
            exact ok_skip (wanted_false (j := 2) (d := 22) rfl (by kernel_rfl) e22) ⟨Rb.refl _, rfl⟩
          refine Owed.cons ?_ ?_
          · -- 6: slot 26 := Op.move (Operand.tmp 0)
            intro a w hR F
            have e22 : a.eval (.tmp 22) = .bool true := F.new 2 22 (by kernel_rfl)
            exact ok_skip (wanted_false (j := 2) (d := 22) rfl (by kernel_rfl) e22) ⟨Rb.refl _, rfl⟩
          refine Owed.cons ?_ ?_
          · -- 7: slot 27 := Op.move (Operand.tmp 7)
            intro a w hR F
            have e22 : a.eval (.tmp 22) = .bool true := F.new 2 22 (by kernel_rfl)
            exact ok_skip (wanted_false (j := 2) (d := 22) rfl (by kernel_rfl) e22) ⟨Rb.refl _, rfl⟩
          refine Owed.cons ?_ ?_
          · -- 8: slot 28 := Op.move (Operand.tmp 7)
            intro a w hR F
            have e22 : a.eval (.tmp 22) = .bool true := F.new 2 22 (by kernel_rfl)
            exact ok_skip (wanted_false (j := 2) (d := 22) rfl (by kernel_rfl) e22) ⟨Rb.refl _, rfl⟩
          refine Owed.cons ?_ ?_
          · -- 9: slot 29 := Op.move (Operand.tmp 9)
            intro a w hR F
            have e22 : a.eval (.tmp 22) = .bool true := F.new 2 22 (by kernel_rfl)
            exact ok_skip (wanted_false (j := 2) (d := 22) rfl (by kernel_rfl) e22) ⟨Rb.refl _, rfl⟩
          refine Owed.cons ?_ ?_
          · -- 10: slot 30 := Op.binOp BinOp.add 3 (Operand.tmp 28) (Operand.tmp 29) 3
            intro a w hR F
            have e22 : a.eval (.tmp 22) = .bool true := F.new 2 22 (by kernel_rfl)
            exact ok_skip (wanted_false (j := 2) (d := 22) rfl (by kernel_rfl) e22) ⟨Rb.refl _, rfl⟩
          refine Owed.cons ?_ ?_
          · -- 11: slot 31 := Op.slice 9 (Operand.tmp 26) (some (Operand.tmp 27)) (some (Operand.tmp 30)) none
            intro a w hR F
            have e22 : a.eval (.tmp 22) = .bool true := F.new 2 22 (by kernel_rfl)
            exact ok_skip (wanted_false (j := 2) (d := 22) rfl (by kernel_rfl) e22) ⟨Rb.refl _, rfl⟩
          refine Owed.cons ?_ ?_
          · -- 12: slot 32 := Op.binOp BinOp.neq 9 (Operand.tmp 25) (Operand.tmp 31) 9
            intro a w hR F
            have e22 : a.eval (.tmp 22) = .bool true := F.new 2 22 (by kernel_rfl)
            exact ok_skip (wanted_false (j := 2) (d := 22) rfl (by kernel_rfl) e22) ⟨Rb.refl _, rfl⟩
          refine Owed.cons ?_ ?_
          · -- 13: slot 33 := Op.pick (Operand.tmp 22) (Operand.const (Value.bool true)) (Operand.tmp 32)
            intro a w hR F
            have e22 : a.eval (.tmp 22) = .bool true := F.new 2 22 (by kernel_rfl)
            exact ok_pick _ _ _ true rfl (wanted_none rfl) e22 ⟨Rb.refl _, rfl⟩
          exact Owed.nil
        case fin =>
          intro y w2 hR hy
          have e13 : y 13 = .bool true := hy 13 _ rfl
          have HR := Lib.hid hR
          clear hy hR
          simp only [putAll, Act.put, List.setIfInBounds_toArray, List.set_cons_zero, List.set_cons_succ]
          rw [e13]
          clear e13
          go_wp2
          go_ret2
          exact HOUT.out _ (Rb.trans _ _ _ HRB.out HR.out)
      | some p =>
        obtain ⟨g', s⟩ := p
        rw [hh] at C
        obtain ⟨hg', hsl, r, hr⟩ := headF_some hh
        have hp := frameB_pos g' s
        have hfl := frameB_len g' s
        have hl2 := congrArg List.length hr
        rw [List.length_append, List.length_drop] at hl2
        have HE : Hid ((X.drop k).take (frameB g' s).length = frameB g' s) := by
          have : (X.drop k).take (frameB g' s).length = (frameB g' s ++ r).take (frameB g' s).length := by rw [← hr]
          exact this.trans List.take_left
        have HC : Hid (Calls Try.prog 49 #[.string (str X), .int .i64 (k : Int)] wr fun e w' => Rb wr w' ∧ e = .returned (.tuple #[.string (str s), .int .i64 ((frameB g' s).length : Nat)])) := Lib.hid C
        have HSL : Hid (s.length ≤ 10000000) := by have : s.length ≤ 10000000 := by omega
                                                   exact this
        have HL : Hid (k + (frameB g' s).length ≤ X.length ∧ X.length ≤ 100000000) := Lib.hid (by omega)
        have HN0 : Hid ((((frameB g' s).length : Int) == 0) = false) := Lib.hid (by rw [beq_eq_false_iff_ne]; omega)
        by_cases hgg : g' = g
        · have hg2 := hgg.symm
          subst hg2
          have HNX : Hid (rowsL g X = (l ++ [s]) ++ rowsL g (X.drop (k + (frameB g s).length)) ∧ k + (frameB g s).length = lenL g (l ++ [s])) := by
            have e1 : rowsL g (X.drop k) = s :: rowsL g (X.drop (k + (frameB g s).length)) := by rw [rowsL_step hh, List.drop_drop]
            refine Lib.hid ⟨by rw [hrows, e1, List.append_assoc]; rfl, ?_⟩
            rw [lenL_append, ← hlen]; simp [lenL]
          have HF : Hid (l.length ≤ 10000000) := Lib.hid (by omega)
          clear C hh hrow hrows hrb hlen hfew hr hl2 hsl hfl
          generalize (frameB g s).length = n at *
          go_wp2_with fail
          refine HC.out.mono ?_
          rintro e wr2 ⟨hb, rfl⟩
          have HRB := Lib.hid hb
          clear hb
          go_upto_region 5 with (fail)
          refine wp_region_specs (R := Rb) (S := [Spec.eq (.int .i64 ((n : Int))), Spec.eq (.bool false), Spec.eq (.bool false), Spec.eq (.int .u32 (g)), Spec.eq (strV (s)), Spec.eq (strV (frameB g s)), Spec.eq (strV (X)), Spec.eq (.int .i64 ((k : Int))), Spec.eq (.int .i64 ((k : Int))), Spec.eq (.int .i64 ((n : Int))), Spec.eq (.int .i64 (((k + n : Nat) : Int))), Spec.eq (strV ((X.drop k).take n)), Spec.eq (.bool false), Spec.eq (.bool false)]) (n := 1) (size := 43) (by kernel_rfl) Rb.trans (Rb.drew _) rfl (by kernel_rfl) ?owed ?fin
          case owed =>
            refine Owed.cons ?_ ?_
            · -- 0: slot 20 := Op.move (Operand.tmp 9)
              intro a w hR F
              have e9 : a.eval (.tmp 9) = .int .i64 ((n : Int)) := F.old 9 (by kernel_rfl)
              exact ok_move _ rfl (wanted_none rfl) ⟨Rb.refl _, e9⟩
            refine Owed.cons ?_ ?_
            · -- 1: slot 21 := Op.binOp BinOp.eql 3 (Operand.tmp 20) (Operand.const (Value.int IntKind.i64 0)) 3
              intro a w hR F
              have e20 : a.eval (.tmp 20) = .int .i64 ((n : Int)) := F.new 0 20 (by kernel_rfl)
              refine ok_bin _ _ _ _ _ rfl (wanted_none rfl) e20 rfl (run_eql_int _ _ _ _ _ _) ⟨Rb.refl _, ?_⟩
              exact congrArg Value.bool (HN0.out)
            refine Owed.cons ?_ ?_
            · -- 2: slot 22 := Op.move (Operand.tmp 21)
              intro a w hR F
              have e21 : a.eval (.tmp 21) = .bool false := F.new 1 21 (by kernel_rfl)
              exact ok_move _ rfl (wanted_none rfl) ⟨Rb.refl _, e21⟩
            refine Owed.cons ?_ ?_
            · -- 3: slot 23 := Op.move (Operand.tmp 1)
              intro a w hR F
              have e22 : a.eval (.tmp 22) = .bool false := F.new 2 22 (by kernel_rfl)
              have e1 : a.eval (.tmp 1) = .int .u32 (g) := F.old 1 (by kernel_rfl)
              exact ok_move _ rfl (wanted_true (j := 2) (d := 22) rfl (by kernel_rfl) e22) ⟨Rb.refl _, e1⟩
            refine Owed.cons ?_ ?_
            · -- 4: slot 24 := Op.move (Operand.tmp 8)
              intro a w hR F
              have e22 : a.eval (.tmp 22) = .bool false := F.new 2 22 (by kernel_rfl)
              have e8 : a.eval (.tmp 8) = strV (s) := F.old 8 (by kernel_rfl)
              exact ok_move _ rfl (wanted_true (j := 2) (d := 22) rfl (by kernel_rfl) e22) ⟨Rb.refl _, e8⟩
            refine Owed.cons ?_ ?_
            · -- 5: slot 25 := Op.call { callee := Callee.value (Operand.func 14), args := #[Operand.tmp 23, Operand.tmp 24], argTy
              intro a w hR F
              have e22 : a.eval (.tmp 22) = .bool false := F.new 2 22 (by kernel_rfl)
              have e23 : a.eval (.tmp 23) = .int .u32 (g) := F.new 3 23 (by kernel_rfl)
              have e24 : a.eval (.tmp 24) = strV (s) := F.new 4 24 (by kernel_rfl)
              refine ok_call 14 _ _ #[.int .u32 (g), strV (s)] rfl (wanted_true (j := 2) (d := 22) rfl (by kernel_rfl) e22) (by simp [e23, e24]) (Try.call14 _ _) ?_
              exact val_call_rb (refframe_any g s w HSL.out HG.out)
            refine Owed.cons ?_ ?_
            · -- 6: slot 26 := Op.move (Operand.tmp 0)
              intro a w hR F
              have e22 : a.eval (.tmp 22) = .bool false := F.new 2 22 (by kernel_rfl)
              have e0 : a.eval (.tmp 0) = strV (X) := F.old 0 (by kernel_rfl)
              exact ok_move _ rfl (wanted_true (j := 2) (d := 22) rfl (by kernel_rfl) e22) ⟨Rb.refl _, e0⟩
            refine Owed.cons ?_ ?_
            · -- 7: slot 27 := Op.move (Operand.tmp 7)
              intro a w hR F
              have e22 : a.eval (.tmp 22) = .bool false := F.new 2 22 (by kernel_rfl)
              have e7 : a.eval (.tmp 7) = .int .i64 ((k : Int)) := F.old 7 (by kernel_rfl)
              exact ok_move _ rfl (wanted_true (j := 2) (d := 22) rfl (by kernel_rfl) e22) ⟨Rb.refl _, e7⟩
            refine Owed.cons ?_ ?_
            · -- 8: slot 28 := Op.move (Operand.tmp 7)
              intro a w hR F
              have e22 : a.eval (.tmp 22) = .bool false := F.new 2 22 (by kernel_rfl)
              have e7 : a.eval (.tmp 7) = .int .i64 ((k : Int)) := F.old 7 (by kernel_rfl)
              exact ok_move _ rfl (wanted_true (j := 2) (d := 22) rfl (by kernel_rfl) e22) ⟨Rb.refl _, e7⟩
            refine Owed.cons ?_ ?_
            · -- 9: slot 29 := Op.move (Operand.tmp 9)
              intro a w hR F
              have e22 : a.eval (.tmp 22) = .bool false := F.new 2 22 (by kernel_rfl)
              have e9 : a.eval (.tmp 9) = .int .i64 ((n : Int)) := F.old 9 (by kernel_rfl)
              exact ok_move _ rfl (wanted_true (j := 2) (d := 22) rfl (by kernel_rfl) e22) ⟨Rb.refl _, e9⟩
            refine Owed.cons ?_ ?_
            · -- 10: slot 30 := Op.binOp BinOp.add 3 (Operand.tmp 28) (Operand.tmp 29) 3
              intro a w hR F
              have e22 : a.eval (.tmp 22) = .bool false := F.new 2 22 (by kernel_rfl)
              have e28 : a.eval (.tmp 28) = .int .i64 ((k : Int)) := F.new 8 28 (by kernel_rfl)
              have e29 : a.eval (.tmp 29) = .int .i64 ((n : Int)) := F.new 9 29 (by kernel_rfl)
              exact ok_bin _ _ _ _ _ rfl (wanted_true (j := 2) (d := 22) rfl (by kernel_rfl) e22) e28 e29 (run_add_i64 _ _ _ _ _ (by have := HL.out; omega) (by have := HL.out; omega)) ⟨Rb.refl _, rfl⟩
            refine Owed.cons ?_ ?_
            · -- 11: slot 31 := Op.slice 9 (Operand.tmp 26) (some (Operand.tmp 27)) (some (Operand.tmp 30)) none
              intro a w hR F
              have e22 : a.eval (.tmp 22) = .bool false := F.new 2 22 (by kernel_rfl)
              have e26 : a.eval (.tmp 26) = strV (X) := F.new 6 26 (by kernel_rfl)
              have e27 : a.eval (.tmp 27) = .int .i64 ((k : Int)) := F.new 7 27 (by kernel_rfl)
              have e30 : a.eval (.tmp 30) = .int .i64 (((k + n : Nat) : Int)) := F.new 10 30 (by kernel_rfl)
              exact ok_slice_str _ _ _ k n rfl (wanted_true (j := 2) (d := 22) rfl (by kernel_rfl) e22) e26 e27 e30 HL.out ⟨Rb.refl _, rfl⟩
            refine Owed.cons ?_ ?_
            · -- 12: slot 32 := Op.binOp BinOp.neq 9 (Operand.tmp 25) (Operand.tmp 31) 9
              intro a w hR F
              have e22 : a.eval (.tmp 22) = .bool false := F.new 2 22 (by kernel_rfl)
              have e25 : a.eval (.tmp 25) = strV (frameB g s) := F.new 5 25 (by kernel_rfl)
              have e31 : a.eval (.tmp 31) = strV ((X.drop k).take n) := F.new 11 31 (by kernel_rfl)
              refine ok_bin _ _ _ _ _ rfl (wanted_true (j := 2) (d := 22) rfl (by kernel_rfl) e22) e25 e31 (run_neq_strV _ _ _ _ _) ⟨Rb.refl _, ?_⟩
              exact congrArg Value.bool (by have h := HE.out; simp [h])
            refine Owed.cons ?_ ?_
            · -- 13: slot 33 := Op.pick (Operand.tmp 22) (Operand.const (Value.bool true)) (Operand.tmp 32)
              intro a w hR F
              have e22 : a.eval (.tmp 22) = .bool false := F.new 2 22 (by kernel_rfl)
              have e32 : a.eval (.tmp 32) = .bool false := F.new 12 32 (by kernel_rfl)
              exact ok_pick _ _ _ false rfl (wanted_none rfl) e22 ⟨Rb.refl _, e32⟩
            exact Owed.nil
          case fin =>
            intro y w2 hR hy
            have e13 : y 13 = .bool false := hy 13 _ rfl
            have HR := Lib.hid hR
            clear hy hR
            simp only [putAll, Act.put, List.setIfInBounds_toArray, List.set_cons_zero, List.set_cons_succ]
            rw [e13]
            clear e13
            have hrow2 := Hrow.out.rb (Rb.trans _ _ _ HRB.out HR.out)
            have hsz2 := Nat.le_trans HB.out.size (Nat.le_trans HRB.out.size HR.out.size)
            have HRW := Lib.hid (hrow2.alloc (.cells #[.string (str s)] 9))
            clear hrow2
            go_wp2_with (at_builtin; go_must (refine wpList_append_own _ rfl _ _ 37 rfl w.heap.size 9 i0 (.string ⟨#[]⟩) 1 16 Try.underlying37 hi hz0 hz1 hz2 rfl (by decide) _ _ _ rfl HRW.out ⟨w2.heap.size, 0, none⟩ 1 1 [.string (str s)] rfl rfl (cell_one_new _ _ _) (by simp [Value.oneCell']) ?c1 ?c2 ?c3 ?_))
            case c1 => have := HF.out; unfold maxLen; omega
            case c2 => have := HF.out; omega
            case c3 => rw [World.size_alloc]; omega
            intro v2 w3 hown hg _
            have hbl : Below w.heap.size w w3 := by
              have b1 := Rb.trans _ _ _ HB.out (Rb.trans _ _ _ HRB.out HR.out)
              have b2 : Below w.heap.size w2 (w2.alloc (.cells #[.string (str s)] 9)) := (Below.refl _ w2).alloc hsz2 _
              exact (Below.trans b1 b2).grown hg (by rw [World.size_alloc]; omega) (fun k hk => (Hrow.out.lt k hk).1)
            have hst : Strs w.heap.size w3 v2 (l ++ [s]) := by
              unfold Strs
              rw [List.length_append, List.map_append]
              exact hown
            have HO := Lib.hid hst
            have HBL := Lib.hid hbl
            have hw : IntKind.i64.wrap ((k : Int) + (n : Int)) = ((k + n : Nat) : Int) := by have := HL.out; rw [IntWalk.i64_in _ (by omega)]; omega
            clear hown hg hst hbl
            go_wp2
            go_roundw
            case rel => exact ⟨l ++ [s], k + n, HO.out, rfl, HL.out.1, HNX.out.1, HNX.out.2, HBL.out⟩
            case measure => have := HL.out; simp [intOf]; omega
        · have HE2 : Hid (frameB g s ≠ (X.drop k).take (frameB g' s).length) := Lib.hid fun h => hgg (frameB_gen HG.out hg' (h.trans HE.out)).symm
          have HO := HOUT
          have HOUT := Lib.hid (fun w2 => HO.out w2 (rowsL_other hh hgg))
          clear C hh hrow hrows hrb hlen hfew hr hl2 hsl hfl HO HE
          have HE := HE2
          clear HE2
          generalize (frameB g' s).length = n at *
          go_wp2_with fail
          refine HC.out.mono ?_
          rintro e wr2 ⟨hb, rfl⟩
          have HRB := Lib.hid hb
          clear hb
          go_upto_region 5 with (fail)
          refine wp_region_specs (R := Rb) (S := [Spec.eq (.int .i64 ((n : Int))), Spec.eq (.bool false), Spec.eq (.bool false), Spec.eq (.int .u32 (g)), Spec.eq (strV (s)), Spec.eq (strV (frameB g s)), Spec.eq (strV (X)), Spec.eq (.int .i64 ((k : Int))), Spec.eq (.int .i64 ((k : Int))), Spec.eq (.int .i64 ((n : Int))), Spec.eq (.int .i64 (((k + n : Nat) : Int))), Spec.eq (strV ((X.drop k).take n)), Spec.eq (.bool true), Spec.eq (.bool true)]) (n := 1) (size := 43) (by kernel_rfl) Rb.trans (Rb.drew _) rfl (by kernel_rfl) ?owed ?fin
          case owed =>
            refine Owed.cons ?_ ?_
            · -- 0: slot 20 := Op.move (Operand.tmp 9)
              intro a w hR F
              have e9 : a.eval (.tmp 9) = .int .i64 ((n : Int)) := F.old 9 (by kernel_rfl)
              exact ok_move _ rfl (wanted_none rfl) ⟨Rb.refl _, e9⟩
            refine Owed.cons ?_ ?_
            · -- 1: slot 21 := Op.binOp BinOp.eql 3 (Operand.tmp 20) (Operand.const (Value.int IntKind.i64 0)) 3
              intro a w hR F
              have e20 : a.eval (.tmp 20) = .int .i64 ((n : Int)) := F.new 0 20 (by kernel_rfl)
              refine ok_bin _ _ _ _ _ rfl (wanted_none rfl) e20 rfl (run_eql_int _ _ _ _ _ _) ⟨Rb.refl _, ?_⟩
              exact congrArg Value.bool (HN0.out)
            refine Owed.cons ?_ ?_
            · -- 2: slot 22 := Op.move (Operand.tmp 21)
              intro a w hR F
              have e21 : a.eval (.tmp 21) = .bool false := F.new 1 21 (by kernel_rfl)
              exact ok_move _ rfl (wanted_none rfl) ⟨Rb.refl _, e21⟩
            refine Owed.cons ?_ ?_
            · -- 3: slot 23 := Op.move (Operand.tmp 1)
              intro a w hR F
              have e22 : a.eval (.tmp 22) = .bool false := F.new 2 22 (by kernel_rfl)
              have e1 : a.eval (.tmp 1) = .int .u32 (g) := F.old 1 (by kernel_rfl)
              exact ok_move _ rfl (wanted_true (j := 2) (d := 22) rfl (by kernel_rfl) e22) ⟨Rb.refl _, e1⟩
            refine Owed.cons ?_ ?_
            · -- 4: slot 24 := Op.move (Operand.tmp 8)
              intro a w hR F
              have e22 : a.eval (.tmp 22) = .bool false := F.new 2 22 (by kernel_rfl)
              have e8 : a.eval (.tmp 8) = strV (s) := F.old 8 (by kernel_rfl)
              exact ok_move _ rfl (wanted_true (j := 2) (d := 22) rfl (by kernel_rfl) e22) ⟨Rb.refl _, e8⟩
            refine Owed.cons ?_ ?_
            · -- 5: slot 25 := Op.call { callee := Callee.value (Operand.func 14), args := #[Operand.tmp 23, Operand.tmp 24], argTy
              intro a w hR F
              have e22 : a.eval (.tmp 22) = .bool false := F.new 2 22 (by kernel_rfl)
              have e23 : a.eval (.tmp 23) = .int .u32 (g) := F.new 3 23 (by kernel_rfl)
              have e24 : a.eval (.tmp 24) = strV (s) := F.new 4 24 (by kernel_rfl)
              refine ok_call 14 _ _ #[.int .u32 (g), strV (s)] rfl (wanted_true (j := 2) (d := 22) rfl (by kernel_rfl) e22) (by simp [e23, e24]) (Try.call14 _ _) ?_
              exact val_call_rb (refframe_any g s w HSL.out HG.out)
            refine Owed.cons ?_ ?_
            · -- 6: slot 26 := Op.move (Operand.tmp 0)
              intro a w hR F
              have e22 : a.eval (.tmp 22) = .bool false := F.new 2 22 (by kernel_rfl)
              have e0 : a.eval (.tmp 0) = strV (X) := F.old 0 (by kernel_rfl)
              exact ok_move _ rfl (wanted_true (j := 2) (d := 22) rfl (by kernel_rfl) e22) ⟨Rb.refl _, e0⟩
            refine Owed.cons ?_ ?_
            · -- 7: slot 27 := Op.move (Operand.tmp 7)
              intro a w hR F
              have e22 : a.eval (.tmp 22) = .bool false := F.new 2 22 (by kernel_rfl)
              have e7 : a.eval (.tmp 7) = .int .i64 ((k : Int)) := F.old 7 (by kernel_rfl)
              exact ok_move _ rfl (wanted_true (j := 2) (d := 22) rfl (by kernel_rfl) e22) ⟨Rb.refl _, e7⟩
            refine Owed.cons ?_ ?_
            · -- 8: slot 28 := Op.move (Operand.tmp 7)
              intro a w hR F
              have e22 : a.eval (.tmp 22) = .bool false := F.new 2 22 (by kernel_rfl)
              have e7 : a.eval (.tmp 7) = .int .i64 ((k : Int)) := F.old 7 (by kernel_rfl)
              exact ok_move _ rfl (wanted_true (j := 2) (d := 22) rfl (by kernel_rfl) e22) ⟨Rb.refl _, e7⟩
            refine Owed.cons ?_ ?_
            · -- 9: slot 29 := Op.move (Operand.tmp 9)
              intro a w hR F
              have e22 : a.eval (.tmp 22) = .bool false := F.new 2 22 (by kernel_rfl)
              have e9 : a.eval (.tmp 9) = .int .i64 ((n : Int)) := F.old 9 (by kernel_rfl)
              exact ok_move _ rfl (wanted_true (j := 2) (d := 22) rfl (by kernel_rfl) e22) ⟨Rb.refl _, e9⟩
            refine Owed.cons ?_ ?_
            · -- 10: slot 30 := Op.binOp BinOp.add 3 (Operand.tmp 28) (Operand.tmp 29) 3
              intro a w hR F
              have e22 : a.eval (.tmp 22) = .bool false := F.new 2 22 (by kernel_rfl)
              have e28 : a.eval (.tmp 28) = .int .i64 ((k : Int)) := F.new 8 28 (by kernel_rfl)
              have e29 : a.eval (.tmp 29) = .int .i64 ((n : Int)) := F.new 9 29 (by kernel_rfl)
              exact ok_bin _ _ _ _ _ rfl (wanted_true (j := 2) (d := 22) rfl (by kernel_rfl) e22) e28 e29 (run_add_i64 _ _ _ _ _ (by have := HL.out; omega) (by have := HL.out; omega)) ⟨Rb.refl _, rfl⟩
            refine Owed.cons ?_ ?_
            · -- 11: slot 31 := Op.slice 9 (Operand.tmp 26) (some (Operand.tmp 27)) (some (Operand.tmp 30)) none
              intro a w hR F
              have e22 : a.eval (.tmp 22) = .bool false := F.new 2 22 (by kernel_rfl)
              have e26 : a.eval (.tmp 26) = strV (X) := F.new 6 26 (by kernel_rfl)
              have e27 : a.eval (.tmp 27) = .int .i64 ((k : Int)) := F.new 7 27 (by kernel_rfl)
              have e30 : a.eval (.tmp 30) = .int .i64 (((k + n : Nat) : Int)) := F.new 10 30 (by kernel_rfl)
              exact ok_slice_str _ _ _ k n rfl (wanted_true (j := 2) (d := 22) rfl (by kernel_rfl) e22) e26 e27 e30 HL.out ⟨Rb.refl _, rfl⟩
            refine Owed.cons ?_ ?_
            · -- 12: slot 32 := Op.binOp BinOp.neq 9 (Operand.tmp 25) (Operand.tmp 31) 9
              intro a w hR F
              have e22 : a.eval (.tmp 22) = .bool false := F.new 2 22 (by kernel_rfl)
              have e25 : a.eval (.tmp 25) = strV (frameB g s) := F.new 5 25 (by kernel_rfl)
              have e31 : a.eval (.tmp 31) = strV ((X.drop k).take n) := F.new 11 31 (by kernel_rfl)
              refine ok_bin _ _ _ _ _ rfl (wanted_true (j := 2) (d := 22) rfl (by kernel_rfl) e22) e25 e31 (run_neq_strV _ _ _ _ _) ⟨Rb.refl _, ?_⟩
              exact congrArg Value.bool (by have h := HE.out; simpa using h)
            refine Owed.cons ?_ ?_
            · -- 13: slot 33 := Op.pick (Operand.tmp 22) (Operand.const (Value.bool true)) (Operand.tmp 32)
              intro a w hR F
              have e22 : a.eval (.tmp 22) = .bool false := F.new 2 22 (by kernel_rfl)
              have e32 : a.eval (.tmp 32) = .bool true := F.new 12 32 (by kernel_rfl)
              exact ok_pick _ _ _ false rfl (wanted_none rfl) e22 ⟨Rb.refl _, e32⟩
            exact Owed.nil
          case fin =>
            intro y w2 hR hy
            have e13 : y 13 = .bool true := hy 13 _ rfl
            have HR := Lib.hid hR
            clear hy hR
            simp only [putAll, Act.put, List.setIfInBounds_toArray, List.set_cons_zero, List.set_cons_succ]
            rw [e13]
            clear e13
            go_wp2
            go_ret2
            exact HOUT.out _ (Rb.trans _ _ _ HRB.out HR.out)
    · obtain rfl : k = X.length := by omega
      have hn : rowsL g (X.drop X.length) = [] := by rw [List.drop_length]; rfl
      have HO := Lib.hid (HOUT.out wr hn (Rb.refl _))
      clear hrow hrows hlen hrb hfew HOUT hn
      go_wp2
      go_ret2
      exact HO.out
end Go.Proofs.Ytbdgdmieggpmhaa.L4
