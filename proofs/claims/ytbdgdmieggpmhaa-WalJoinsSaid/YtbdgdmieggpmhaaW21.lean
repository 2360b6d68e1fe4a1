/-
  Layer 4: WalJoins' walk.
-/
import Derived.Test.YtbdgdmieggpmhaaW18
namespace Go.Proofs.Ytbdgdmieggpmhaa.L4
open Go.ChangeShapes Go.WideShapes Go.ChangeAt Go.RowKit Oct By Reg L3 Go.Deep
set_option linter.unusedVariables false

/-! ### what the two slices are cut to -/
def cutR (l : List (List UInt8)) : List (List UInt8) := (l.take 20).map (List.take 60)
theorem cutR_len (l : List (List UInt8)) : (cutR l).length = min l.length 20 := by unfold cutR; rw [List.length_map, List.length_take, Nat.min_comm]
theorem cutR_at {l : List (List UInt8)} {k : Nat} (h : k < min l.length 20) : (cutR l)[k]? = some ((l.getD k []).take 60) := by
  unfold cutR
  rw [List.getElem?_map, List.getElem?_take, if_pos (by omega), List.getD_eq_getElem?_getD, List.getElem?_eq_getElem (by omega)]
  rfl
theorem cutR_le {l : List (List UInt8)} : ∀ s ∈ cutR l, s.length ≤ 60 := fun s hs => by
  unfold cutR at hs
  obtain ⟨q, _, rfl⟩ := List.mem_map.1 hs
  rw [List.length_take]; omega
theorem frames_le (g : Nat) : ∀ A : List (List UInt8), (∀ s ∈ A, s.length ≤ 60) → (frames g A).length ≤ A.length * 80
  | [], _ => by simp [frames]
  | s :: A, h => by
    have h1 := h s List.mem_cons_self
    have h2 := frames_le g A fun x hx => h x (List.mem_cons_of_mem _ hx)
    have h3 := frameB_le g s (by omega)
    rw [frames, List.length_append, List.length_cons]
    omega
theorem frames_take (g : Nat) {A : List (List UInt8)} {k : Nat} {s : List UInt8} (h : A[k]? = some s) : frames g (A.take (k + 1)) = frames g (A.take k) ++ frameB g s := by
  rw [List.take_add_one, h, frames_append]
  simp [frames]

section
variable {H : Type} {enc : TypeId × Value → H} {W : World}
theorem cellsR : Try.prog.cellsOf 23 = 1 := by kernel_rfl
set_option maxRecDepth 100000 in
theorem rows_of_trod {fuel : Nat} {ao : Option Addr} {n cap : Nat} {x : DataW H × List MemPlace} (h : DataW.trod enc Try.prog W 0 (fun _ => true) true fuel 34 [.slice ao n cap] = some x) :
    ∃ l, RowsR W (.slice ao n cap) l ∧ n ≤ 9223372036854775807 := by
  rcases open_slice Try.underlying34 h with ⟨h0, _⟩ | ⟨ad, len, cp, m, k, D, Pl, hcs, hb, hl, hm, hmm, hx, each⟩
  · simp at h0
    obtain ⟨rfl, rfl, rfl⟩ := h0
    exact ⟨[], ⟨none, 0, rfl, Nat.le_refl _, Nat.zero_le _, fun h => by simp at h⟩, by omega⟩
  · simp at hcs
    obtain ⟨rfl, rfl, rfl⟩ := hcs
    have hmn : n ≤ m := by rw [hmm]; simp; exact hl
    by_cases hn0 : n = 0
    · subst hn0
      exact ⟨[], ⟨some ad, cap, rfl, Nat.zero_le _, hm, fun h => by simp at h⟩, by omega⟩
    obtain ⟨g0, off0, spot⟩ := ad
    have hs : spot = none := by
      obtain ⟨cs, h1, h2⟩ := each 0 (by omega)
      rw [cellsR] at h1
      obtain ⟨_, hlen, hcell⟩ := World.cells?_some h1
      have c0 := hcell 0 (by decide)
      rw [List.getElem?_eq_getElem (by omega)] at c0
      exact World.cell?_spot (a := ⟨g0, off0, spot⟩) c0
    subst hs
    obtain ⟨l, hll, hr⟩ := choose_list (α := List UInt8) n (fun i s => ∃ u, W.cell? ⟨g0, off0 + i, none⟩ = some u ∧ Bs W u s) fun i hi => by
      obtain ⟨cs, h1, h2⟩ := each i (by omega)
      rw [cellsR] at h1
      obtain ⟨_, hlen, hcell⟩ := World.cells?_some h1
      have c0 := hcell 0 (by decide)
      rw [By.add_add] at c0
      simp only [Addr.add_lit] at c0
      match cs, hlen with
      | [v0], _ =>
        rcases open_ints Try.underlying23 Try.underlying5 (by kernel_rfl) h2 with ⟨hcs, _⟩ | ⟨ad, len, cap, zs, hcs, _, hl, hm, hz, _, hcl, hw⟩
        · simp at hcs
          subst hcs
          exact ⟨[], _, by simpa using c0, Bs.nil W⟩
        · simp at hcs
          subst hcs
          exact ⟨_, _, by simpa using c0, Bs.of_row (.inr ⟨ad, rfl, hl, hm, by simpa using hz, hcl, hw⟩)⟩
    refine ⟨l, ⟨_, cap, by rw [hll], by rw [hll]; exact hl, hm, fun _ => ⟨g0, off0, rfl, fun k hk => ?_⟩⟩, by unfold maxLen at hm; omega⟩
    have := hr k l[k] (by simp [hk])
    rw [List.getD_eq_getElem?_getD, List.getElem?_eq_getElem hk]
    exact this
end

section
variable {ops : Array Oper} {o : Oper} {a : Act} {w : World} {T : World → Value → Prop}
theorem ok_len_slice (x : Operand) (t e : TypeId) (ht : Try.prog.underlying t = some (.slice e)) {ao : Option Addr} {n cap : Nat} (ho : o.op = .call { callee := .builtin .len, args := #[x], argTypes := #[t] }) (hw : Region.wanted o (yielded ops a.tmps) = true) (hx : a.eval x = .slice ao n cap) (hn : n ≤ 9223372036854775807) (h : T w (.int .i64 (n : Int))) : okAt Try.prog ops o a w T := by
  refine ok_value (w' := w) (v := .int .i64 (n : Int)) hw ?_ h
  have hg : goInt (n : Int) = .int .i64 n := rfl
  simp only [execOp, ho, resolve, invoke, Sem.run_bind, Sem.run_pure, Result.andThen_ok, List.map_toArray, List.map_cons, List.map_nil, hx]
  simp [builtin, Builtin.len_, run_underlying ht, Result.andThen, hg]
theorem ok_cutR (x hi : Operand) {ao : Option Addr} {n cap : Nat} (ho : o.op = .slice 34 x none (some hi) none) (hw : Region.wanted o (yielded ops a.tmps) = true) (hx : a.eval x = .slice ao n cap) (hh : a.eval hi = .int .i64 (min (n : Int) 20)) (hc : n ≤ cap) (hT : T w (.slice ao (min n 20) cap)) : okAt Try.prog ops o a w T := by
  have e : min (n : Int) 20 = ((min n 20 : Nat) : Int) := by omega
  rw [e] at hh
  generalize hq : min n 20 = q at *
  have p1 : (q : Int) ≤ (cap : Int) := by omega
  have p2 : (0 : Int) ≤ (q : Int) := by omega
  refine ok_value (w' := w) (v := .slice ao q cap) hw ?_ hT
  simp only [execOp, ho, hx, hh, Option.map_none, Option.map_some]
  simp [go_sem, p1, p2, Result.andThen]
theorem ok_cutB (x hi : Operand) {ao : Option Addr} {cap : Nat} {S : List UInt8} (ho : o.op = .slice 23 x none (some hi) none) (hw : Region.wanted o (yielded ops a.tmps) = true) (hx : a.eval x = .slice ao S.length cap) (hb : Bs w (.slice ao S.length cap) S) (hh : a.eval hi = .int .i64 (min (S.length : Int) 60)) (hT : ∀ v, Bs w v (S.take 60) → T w v) : okAt Try.prog ops o a w T := by
  have e : min (S.length : Int) 60 = ((min S.length 60 : Nat) : Int) := by omega
  rw [e] at hh
  have hv := (bs_cut (n' := min S.length 60) 60 hb rfl).1
  obtain ⟨x1, x2, e0, e2, _⟩ := hb.len
  simp only [Value.slice.injEq] at e0
  exact ok_sliceH x hi ho hw hx hh (by omega) (hT _ hv)
end
theorem c8_of (n : Nat) : ∃ t : UInt8, (n : Int) % 256 = (t.toNat : Int) := ⟨UInt8.ofNat n, by simp⟩

theorem size23 : ∀ w, (sizeOf 23).run Try.prog w = .ok 1 w := fun w => by simp [go_sem]
set_option maxRecDepth 100000 in
set_option maxHeartbeats 2000000 in
theorem joins_walk (g : Nat) (ao : Option Addr) (n cap : Nat) (la : List (List UInt8)) (bo : Option Addr) (m bcap : Nat) (lb : List (List UInt8)) (w0 : World) (hg : g < 4294967296)
    (ha : RowsR w0 (.slice ao n cap) la) (hb : RowsR w0 (.slice bo m bcap) lb) :
    Calls Try.prog 8 #[.int .u32 g, .slice ao n cap, .slice bo m bcap] w0 fun e w' => e = .returned (.bool true) ∧ Below w0.heap.size w0 w' := by
  obtain ⟨i0, hi, hz0, hz1, hz2⟩ := info_parts info8
  have HI := Lib.hid hi
  have HZ0 := Lib.hid hz0
  have HZ1 := Lib.hid hz1
  have HZ2 := Lib.hid hz2
  have HG := Lib.hid hg
  obtain ⟨x1, x2, ex, ha1, ha2, ha3⟩ := ha
  obtain ⟨y1, y2, ey, hb1, hb2, hb3⟩ := hb
  simp only [Value.slice.injEq] at ex ey
  obtain ⟨rfl, rfl, rfl⟩ := ex
  obtain ⟨rfl, rfl, rfl⟩ := ey
  unfold maxLen at ha2 hb2
  obtain ⟨n, hn⟩ : ∃ n, n = la.length := ⟨_, rfl⟩
  obtain ⟨m, hm⟩ : ∃ m, m = lb.length := ⟨_, rfl⟩
  rw [← hn, ← hm]
  rw [← hn] at ha1 ha3
  rw [← hm] at hb1 hb3
  have HA := Lib.hid ha3
  have HB := Lib.hid hb3
  have HNM := Lib.hid (And.intro hn hm)
  clear hi hz0 hz1 hz2 hg ha3 hb3 hn hm
  go_enter Try.func8, Try.ntmps8
  go_upto_region 2 with (fail)
  obtain ⟨tb, htb⟩ := c8_of n
  rw [htb]
  clear htb
  refine wp_region_specs (R := Rb) (S := [Spec.eq (.slice ao n cap), Spec.eq (.slice ao n cap), Spec.eq (.int .i64 ((n : Int))), Spec.eq (.int .i64 (min ((n : Int)) 20)), Spec.eq (.slice ao (min n 20) cap), Spec.eq (.slice bo m bcap), Spec.eq (.slice bo m bcap), Spec.eq (.int .i64 ((m : Int))), Spec.eq (.int .i64 (min ((m : Int)) 20)), Spec.eq (.slice bo (min m 20) bcap), Spec.eq (.slice ao (min n 20) cap), Spec.eq (.slice bo (min m 20) bcap)]) (n := 1) (size := 167) (by kernel_rfl) Rb.trans (Rb.drew _) rfl (by kernel_rfl) ?owed ?fin
  case owed =>
    refine Owed.cons ?_ ?_
    · -- 0: slot 24 := Op.move (Operand.tmp 1)
      intro a w hR F
      have e1 : a.eval (.tmp 1) = .slice ao n cap := F.old 1 (by kernel_rfl)
      exact ok_move _ rfl (wanted_none rfl) ⟨Rb.refl _, e1⟩
    refine Owed.cons ?_ ?_
    · -- 1: slot 25 := Op.move (Operand.tmp 1)
      intro a w hR F
      have e1 : a.eval (.tmp 1) = .slice ao n cap := F.old 1 (by kernel_rfl)
      exact ok_move _ rfl (wanted_none rfl) ⟨Rb.refl _, e1⟩
    refine Owed.cons ?_ ?_
    · -- 2: slot 26 := Op.call { callee := Callee.builtin Builtin.len, args := #[Operand.tmp 25], argTypes := #[34] }
      intro a w hR F
      have e25 : a.eval (.tmp 25) = .slice ao n cap := F.new 1 25 (by kernel_rfl)
      exact ok_len_slice _ _ _ Try.underlying34 rfl (wanted_none rfl) e25 (by omega) ⟨Rb.refl _, rfl⟩
    refine Owed.cons ?_ ?_
    · -- 3: slot 27 := Op.call { callee := Callee.builtin Builtin.min, args := #[Operand.tmp 26, Operand.const (Value.int I
      intro a w hR F
      have e26 : a.eval (.tmp 26) = .int .i64 ((n : Int)) := F.new 2 26 (by kernel_rfl)
      exact ok_minI _ _ ((n : Int)) (20) rfl (wanted_none rfl) e26 rfl ⟨Rb.refl _, rfl⟩
    refine Owed.cons ?_ ?_
    · -- 4: slot 28 := Op.slice 34 (Operand.tmp 24) none (some (Operand.tmp 27)) none
      intro a w hR F
      have e24 : a.eval (.tmp 24) = .slice ao n cap := F.new 0 24 (by kernel_rfl)
      have e27 : a.eval (.tmp 27) = .int .i64 (min ((n : Int)) 20) := F.new 3 27 (by kernel_rfl)
      exact ok_cutR _ _ rfl (wanted_none rfl) e24 e27 (by omega) ⟨Rb.refl _, rfl⟩
    refine Owed.cons ?_ ?_
    · -- 5: slot 29 := Op.move (Operand.tmp 2)
      intro a w hR F
      have e2 : a.eval (.tmp 2) = .slice bo m bcap := F.old 2 (by kernel_rfl)
      exact ok_move _ rfl (wanted_none rfl) ⟨Rb.refl _, e2⟩
    refine Owed.cons ?_ ?_
    · -- 6: slot 30 := Op.move (Operand.tmp 2)
      intro a w hR F
      have e2 : a.eval (.tmp 2) = .slice bo m bcap := F.old 2 (by kernel_rfl)
      exact ok_move _ rfl (wanted_none rfl) ⟨Rb.refl _, e2⟩
    refine Owed.cons ?_ ?_
    · -- 7: slot 31 := Op.call { callee := Callee.builtin Builtin.len, args := #[Operand.tmp 30], argTypes := #[34] }
      intro a w hR F
      have e30 : a.eval (.tmp 30) = .slice bo m bcap := F.new 6 30 (by kernel_rfl)
      exact ok_len_slice _ _ _ Try.underlying34 rfl (wanted_none rfl) e30 (by omega) ⟨Rb.refl _, rfl⟩
    refine Owed.cons ?_ ?_
    · -- 8: slot 32 := Op.call { callee := Callee.builtin Builtin.min, args := #[Operand.tmp 31, Operand.const (Value.int I
      intro a w hR F
      have e31 : a.eval (.tmp 31) = .int .i64 ((m : Int)) := F.new 7 31 (by kernel_rfl)
      exact ok_minI _ _ ((m : Int)) (20) rfl (wanted_none rfl) e31 rfl ⟨Rb.refl _, rfl⟩
    refine Owed.cons ?_ ?_
    · -- 9: slot 33 := Op.slice 34 (Operand.tmp 29) none (some (Operand.tmp 32)) none
      intro a w hR F
      have e29 : a.eval (.tmp 29) = .slice bo m bcap := F.new 5 29 (by kernel_rfl)
      have e32 : a.eval (.tmp 32) = .int .i64 (min ((m : Int)) 20) := F.new 8 32 (by kernel_rfl)
      exact ok_cutR _ _ rfl (wanted_none rfl) e29 e32 (by omega) ⟨Rb.refl _, rfl⟩
    refine Owed.cons ?_ ?_
    · -- 10: slot 1 := Op.assign (Operand.tmp 28)
      intro a w hR F
      have e28 : a.eval (.tmp 28) = .slice ao (min n 20) cap := F.new 4 28 (by kernel_rfl)
      exact ok_assign _ rfl (wanted_none rfl) ⟨Rb.refl _, e28⟩
    refine Owed.cons ?_ ?_
    · -- 11: slot 2 := Op.assign (Operand.tmp 33)
      intro a w hR F
      have e33 : a.eval (.tmp 33) = .slice bo (min m 20) bcap := F.new 9 33 (by kernel_rfl)
      exact ok_assign _ rfl (wanted_none rfl) ⟨Rb.refl _, e33⟩
    exact Owed.nil
  case fin =>
    intro y w2 hR hy
    have e10 : y 10 = .slice ao (min n 20) cap := hy 10 _ rfl
    have e11 : y 11 = .slice bo (min m 20) bcap := hy 11 _ rfl
    have HR2 := Lib.hid hR
    clear hy hR
    simp only [putAll, Act.put, List.setIfInBounds_toArray, List.set_cons_zero, List.set_cons_succ]
    rw [e10, e11]
    clear e10 e11
    have HNA := Lib.hid (show min n 20 = min la.length 20 ∧ min n 20 ≤ n ∧ min n 20 ≤ 20 by have := HNM.out; omega)
    have HNB := Lib.hid (show min m 20 = min lb.length 20 ∧ min m 20 ≤ m ∧ min m 20 ≤ 20 by have := HNM.out; omega)
    have hna : min n 20 ≤ 9223372036854775807 := by omega
    have hnb : min m 20 ≤ 9223372036854775807 := by omega
    generalize min n 20 = NA at *
    generalize min m 20 = NB at *
    have HX0 : Hid (Below w0.heap.size w0 w2) := HR2
    clear HR2
    go_wp2_with fail
    go_loopw [8, 36] (fun p i wr => ∃ k : Nat, k ≤ NA ∧ i = .int .i64 k ∧ wr.ownsRow w2.heap.size 5 1 p (frames g ((cutR la).take k)).length ((frames g ((cutR la).take k)).map c8) ∧ Rb w2 wr) (fun _ i _ => NA - (intOf i).toNat)
    case atStart => exact ⟨0, Nat.zero_le _, rfl, World.ownsRow_nil _ _ _ _, Rb.refl _⟩
    case round =>
      obtain ⟨k, hk, rfl, hrow, hrb⟩ := hrel
      by_cases hlt : k < NA
      · obtain ⟨b, o, rfl, hcs⟩ := HA.out (by have := HNA.out; omega)
        obtain ⟨u, hu, hbu⟩ := hcs k (by have := HNA.out; omega)
        have hw0 : Below w0.heap.size w0 wr := HX0.out.trans (Below.mono hrb HX0.out.size)
        have z1 := cell_rb hw0 hu
        have hbw := hbu.below hw0
        have hat : (cutR la)[k]? = some ((la.getD k []).take 60) := cutR_at (by have := HNA.out; omega)
        generalize la.getD k [] = S at *
        obtain ⟨uo, ucap, rfl, hl1, hl2⟩ := hbw.len
        unfold maxLen at hl2
        have HBW := Lib.hid hbw
        have HFT := Lib.hid (frames_take g hat)
        have HFL := Lib.hid (show (frames g ((cutR la).take k)).length ≤ 1600 by
          have := frames_le g ((cutR la).take k) fun s hs => cutR_le s (List.mem_of_mem_take hs)
          have := HNA.out
          rw [List.length_take] at *
          omega)
        have HSL := Lib.hid (show (S.take 60).length ≤ 60 by rw [List.length_take]; omega)
        have HROW := Lib.hid hrow
        have HRB := Lib.hid hrb
        clear hat hu hbu hbw hw0 hrow hrb hcs
        go_wp2_with fail
        all_goals
          refine (frame_any _ g (S.take 60) wr (bs_cut 60 HBW.out (by omega)).1 (by have := HSL.out; omega) HG.out).mono ?_
          rintro e w5 ⟨n5, c5, rfl, ho5, hr5⟩
          have HROW5 := Lib.hid (owns_same HROW.out fun q hq => hr5.block q (HROW.out.lt q hq).2)
          have HF5 := Lib.hid (Bs.of_owns ho5)
          have HRB5 := Lib.hid (Rb.trans _ _ _ HRB.out (show Rb wr w5 from hr5))
          have HFR := Lib.hid (frameB_le g (S.take 60) (by have := HSL.out; omega))
          clear ho5 hr5
          go_wp2_with (at_builtin; go_must (refine wpList_append_bs w5 rfl _ _ 23 rfl w2.heap.size 5 i0 Try.underlying23 HI.out HZ0.out HZ1.out HZ2.out _ _ rfl HROW5.out _ _ rfl HF5.out ?c1 ?c2 ?_))
          case c1 => have := HFL.out; have := HFR.out; have := HSL.out; omega
          case c2 => exact HRB5.out.size
          intro v' w6 hown hbel
          rw [← List.map_append, ← List.length_append, ← HFT.out] at hown
          have HOWN := Lib.hid hown
          have HRB6 := Lib.hid (Below.trans HRB5.out hbel)
          clear hown hbel
          go_wp2
          go_roundw
          case rel => (refine ⟨_, _, _, _, _, _, _, _, _, _, _, _, _, _, _, _, ?_, rfl⟩; exact ⟨k + 1, by omega, by go_num, HOWN.out, HRB6.out⟩)
          case measure => simp [intOf]; omega
      · have HK := Lib.hid (show k = NA by omega)
        obtain ⟨X, hX⟩ : ∃ X, X = frames g (cutR la) := ⟨_, rfl⟩
        have hfk : (cutR la).take k = cutR la := List.take_of_length_le (by rw [cutR_len]; have := HNA.out; omega)
        rw [hfk, ← hX] at hrow
        have HXE := Lib.hid hX
        have HXR := Lib.hid hrow
        obtain ⟨xo, xc, rfl⟩ := row_form hrow
        have HX1 := Lib.hid (show Below w0.heap.size w0 wr from HX0.out.trans (Below.mono hrb HX0.out.size))
        have HRBX := Lib.hid hrb
        have HXL := Lib.hid (show X.length ≤ 1600 by
          have h1 := frames_le g (cutR la) cutR_le
          have h2 := HNA.out
          rw [cutR_len] at h1
          rw [hX]
          omega)
        clear hX hfk hrow hrb
        obtain ⟨wx, hwx⟩ : ∃ wx, wx = wr := ⟨_, rfl⟩
        rw [← hwx] at HXR HX1 HRBX ⊢
        clear hwx
        have hxl : X.length ≤ 9223372036854775807 := by have := HXL.out; omega
        go_wp2_with fail
        go_loopw [9, 52] (fun p i wr => ∃ k : Nat, k ≤ NB ∧ i = .int .i64 k ∧ wr.ownsRow wx.heap.size 5 1 p (frames g ((cutR lb).take k)).length ((frames g ((cutR lb).take k)).map c8) ∧ Rb wx wr) (fun _ i _ => NB - (intOf i).toNat)
        case atStart => exact ⟨0, Nat.zero_le _, rfl, World.ownsRow_nil _ _ _ _, Rb.refl _⟩
        case round =>
          obtain ⟨k, hk, rfl, hrow, hrb⟩ := hrel
          by_cases hlt : k < NB
          · obtain ⟨b, o, rfl, hcs⟩ := HB.out (by have := HNB.out; omega)
            obtain ⟨u, hu, hbu⟩ := hcs k (by have := HNB.out; omega)
            have hw0 : Below w0.heap.size w0 wr := HX1.out.trans (Below.mono hrb HX1.out.size)
            have z1 := cell_rb hw0 hu
            have hbw := hbu.below hw0
            have hat : (cutR lb)[k]? = some ((lb.getD k []).take 60) := cutR_at (by have := HNB.out; omega)
            generalize lb.getD k [] = S at *
            obtain ⟨uo, ucap, rfl, hl1, hl2⟩ := hbw.len
            unfold maxLen at hl2
            have HBW := Lib.hid hbw
            have HFT := Lib.hid (frames_take g hat)
            have HFL := Lib.hid (show (frames g ((cutR lb).take k)).length ≤ 1600 by
              have := frames_le g ((cutR lb).take k) fun s hs => cutR_le s (List.mem_of_mem_take hs)
              have := HNB.out
              rw [List.length_take] at *
              omega)
            have HSL := Lib.hid (show (S.take 60).length ≤ 60 by rw [List.length_take]; omega)
            have HROW := Lib.hid hrow
            have HRB := Lib.hid hrb
            clear hat hu hbu hbw hw0 hrow hrb hcs
            go_wp2_with fail
            all_goals
              refine (frame_any _ g (S.take 60) wr (bs_cut 60 HBW.out (by omega)).1 (by have := HSL.out; omega) HG.out).mono ?_
              rintro e w5 ⟨n5, c5, rfl, ho5, hr5⟩
              have HROW5 := Lib.hid (owns_same HROW.out fun q hq => hr5.block q (HROW.out.lt q hq).2)
              have HF5 := Lib.hid (Bs.of_owns ho5)
              have HRB5 := Lib.hid (Rb.trans _ _ _ HRB.out (show Rb wr w5 from hr5))
              have HFR := Lib.hid (frameB_le g (S.take 60) (by have := HSL.out; omega))
              clear ho5 hr5
              go_wp2_with (at_builtin; go_must (refine wpList_append_bs w5 rfl _ _ 23 rfl wx.heap.size 5 i0 Try.underlying23 HI.out HZ0.out HZ1.out HZ2.out _ _ rfl HROW5.out _ _ rfl HF5.out ?c1 ?c2 ?_))
              case c1 => have := HFL.out; have := HFR.out; have := HSL.out; omega
              case c2 => exact HRB5.out.size
              intro v' w6 hown hbel
              rw [← List.map_append, ← List.length_append, ← HFT.out] at hown
              have HOWN := Lib.hid hown
              have HRB6 := Lib.hid (Below.trans HRB5.out hbel)
              clear hown hbel
              go_wp2
              go_roundw
              case rel => (refine ⟨_, _, _, _, _, _, _, _, _, _, _, _, _, _, _, _, ?_, rfl⟩; exact ⟨k + 1, by omega, by go_num, HOWN.out, HRB6.out⟩)
              case measure => simp [intOf]; omega
          · have HK := Lib.hid (show k = NB by omega)
            obtain ⟨Y, hY⟩ : ∃ Y, Y = frames g (cutR lb) := ⟨_, rfl⟩
            have hfk : (cutR lb).take k = cutR lb := List.take_of_length_le (by rw [cutR_len]; have := HNB.out; omega)
            rw [hfk, ← hY] at hrow
            have HYE := Lib.hid hY
            have HYR := Lib.hid hrow
            obtain ⟨yo, yc, rfl⟩ := row_form hrow
            have HYL := Lib.hid (show Y.length ≤ 1600 by
              have h1 := frames_le g (cutR lb) cutR_le
              have h2 := HNB.out
              rw [cutR_len] at h1
              rw [hY]
              omega)
            have HXR2 := Lib.hid (owns_same HXR.out fun q hq => hrb.block q (HXR.out.lt q hq).2)
            have HY1 := Lib.hid (show Below w0.heap.size w0 wr from HX1.out.trans (Below.mono hrb HX1.out.size))
            clear hY hfk hrow hrb
            have hyl : Y.length ≤ 9223372036854775807 := by have := HYL.out; omega
            obtain ⟨wy, hwy⟩ : ∃ wy, wy = wr := ⟨_, rfl⟩
            rw [← hwy] at HXR2 HYR HY1 ⊢
            clear hwy
            -- both
            have e1 : Below wy.heap.size wy (wy.alloc (.cells #[] 5)) := (Below.refl _ _).alloc (Nat.le_refl _) _
            have H1 := Lib.hid (World.ownsRow_lit (base := wy.heap.size) (e := 5) (size := 1) wy #[] 0 (Nat.le_refl _) (by decide) rfl)
            have HX2 := Lib.hid ((Bs.of_owns HXR2.out).below e1)
            have HE1 := Lib.hid e1
            clear e1
            go_wp2_with (at_builtin; go_must (refine wpList_append_bs _ rfl _ _ 23 rfl wy.heap.size 5 i0 Try.underlying23 HI.out HZ0.out HZ1.out HZ2.out _ [] rfl H1.out _ _ rfl HX2.out ?d1 ?d2 ?_))
            try (case d1 => have := HXL.out; simp; omega)
            try (case d2 => exact HE1.out.size)
            intro v5 w5 hown hbel
            try simp only [List.nil_append, List.map_nil, List.length_nil, Nat.zero_add] at hown
            have e5 : Rb wy w5 := Below.trans HE1.out hbel
            have H5 := Lib.hid hown
            have HE5 := Lib.hid e5
            have HYB5 := Lib.hid ((Bs.of_owns HYR.out).below e5)
            clear hown hbel e5
            go_wp2_with (at_builtin; go_must (refine wpList_append_bs _ rfl _ _ 23 rfl wy.heap.size 5 i0 Try.underlying23 HI.out HZ0.out HZ1.out HZ2.out _ X rfl H5.out _ _ rfl HYB5.out ?d3 ?d4 ?_))
            try (case d3 => have := HXL.out; have := HYL.out; omega)
            try (case d4 => exact HE5.out.size)
            intro v6 w6 hown hbel
            try rw [← List.map_append, ← List.length_append] at hown
            have HB6 := Lib.hid (Bs.of_owns hown)
            have HE6 := Lib.hid (show Rb wy w6 from Below.trans HE5.out hbel)
            clear hown hbel
            go_wp2_with fail
            refine (scan_any v6 g (X ++ Y) w6 HB6.out (by have := HXL.out; have := HYL.out; rw [List.length_append]; omega)).mono ?_
            rintro e w7 ⟨vb, rfl, hrow, hr⟩
            have hall : ∀ s ∈ cutR la ++ cutR lb, s.length < 18446744073709551616 := fun s hs => by
              rcases List.mem_append.1 hs with hs | hs
              · have := cutR_le s hs; omega
              · have := cutR_le s hs; omega
            have hrows : rowsL g (X ++ Y) = cutR la ++ cutR lb := by
              have e := rowsL_frames g HG.out [] (cutR la ++ cutR lb) hall
              rw [List.append_nil, frames_append, ← HXE.out, ← HYE.out] at e
              rw [e]
              show _ ++ [] = _
              rw [List.append_nil]
            rw [hrows] at hrow ⊢
            have hlen : ((lenL g (cutR la ++ cutR lb) : Nat) : Int) = (X.length : Int) + (Y.length : Int) := by
              rw [lenL_append, ← frames_len, ← frames_len, ← HXE.out, ← HYE.out]
              omega
            rw [hlen]
            have hM : (cutR la ++ cutR lb).length = NA + NB := by rw [List.length_append, cutR_len, cutR_len]; have := HNA.out; have := HNB.out; omega
            have hrr := hrow.reads
            have HE7 := Lib.hid (Rb.trans _ _ _ HE6.out hr)
            clear hrow hr hrows hlen hall
            generalize hAB : cutR la ++ cutR lb = AB at *
            have HAB := Lib.hid hAB
            have HALL := Lib.hid hrr
            obtain ⟨ro, rc, rfl, -⟩ := id hrr
            rw [hM] at HALL ⊢
            have HM := Lib.hid hM
            clear hAB hrr hM
            -- only the first
            have e8 : Rb w7 (w7.alloc (.cells #[] 5)) := (Below.refl _ _).alloc (Nat.le_refl _) _
            have H8 := Lib.hid (World.ownsRow_lit (base := w7.heap.size) (e := 5) (size := 1) w7 #[] 0 (Nat.le_refl _) (by decide) rfl)
            have HX8 := Lib.hid ((Bs.of_owns HXR2.out).below (Rb.trans _ _ _ HE7.out e8))
            have HE8 := Lib.hid e8
            clear e8
            go_wp2_with (at_builtin; go_must (refine wpList_append_bs _ rfl _ _ 23 rfl w7.heap.size 5 i0 Try.underlying23 HI.out HZ0.out HZ1.out HZ2.out _ [] rfl H8.out _ _ rfl HX8.out ?d5 ?d6 ?_))
            try (case d5 => have := HXL.out; simp; omega)
            try (case d6 => exact HE8.out.size)
            intro v9 w9 hown hbel
            try simp only [List.nil_append, List.map_nil, List.length_nil, Nat.zero_add] at hown
            have e9 : Rb w7 w9 := Below.trans HE8.out hbel
            obtain ⟨G, hGl, hGg, hGw⟩ : ∃ G : Nat, G < 4294967296 ∧ G ≠ g ∧ ((g : Int) + 1) % 4294967296 = (G : Int) := ⟨(g + 1) % 4294967296, by omega, by have := HG.out; omega, by omega⟩
            have e10 : Rb w9 (w9.alloc (.cells #[.int .u8 (tb.toNat : Int)] 5)) := (Below.refl _ _).alloc (Nat.le_refl _) _
            have hT : Bs (w9.alloc (.cells #[.int .u8 (tb.toNat : Int)] 5)) (.slice (some ⟨w9.heap.size, 0, none⟩) 1 1) [tb] := Bs.of_owns (xs := [tb]) (World.ownsRow_lit (base := w9.heap.size) (e := 5) (size := 1) w9 #[.int .u8 (tb.toNat : Int)] 1 (Nat.le_refl _) (by decide) rfl)
            have HT := Lib.hid hT
            have H9 := Lib.hid (owns_same hown fun q hq => e10.block q (hown.lt q hq).2)
            have HE10 := Lib.hid (Rb.trans _ _ _ e9 e10)
            have HGG := Lib.hid (And.intro hGl hGg)
            clear hown hbel e9 e10 hT hGl hGg
            go_wp2_with fail
            refine (frame_any _ G [tb] _ HT.out (by simp) HGG.out.1).mono ?_
            rintro e w11 ⟨n11, c11, rfl, ho, hr⟩
            have H11 := Lib.hid (owns_same H9.out fun q hq => hr.block q (H9.out.lt q hq).2)
            have HF11 := Lib.hid (Bs.of_owns ho)
            have HE11 := Lib.hid (Rb.trans _ _ _ HE10.out (show Rb _ w11 from hr))
            have HFL11 := Lib.hid (frameB_le G [tb] (by simp))
            clear ho hr hGw
            go_wp2_with (at_builtin; go_must (refine wpList_append_bs _ rfl _ _ 23 rfl w7.heap.size 5 i0 Try.underlying23 HI.out HZ0.out HZ1.out HZ2.out _ X rfl H11.out _ _ rfl HF11.out ?d7 ?d8 ?_))
            try (case d7 => have := HXL.out; have h := HFL11.out; simp at h; omega)
            try (case d8 => exact HE11.out.size)
            intro v12 w12 hown hbel
            try rw [← List.map_append, ← List.length_append] at hown
            have HB12 := Lib.hid (Bs.of_owns hown)
            have HE12 := Lib.hid (show Rb w7 w12 from Below.trans HE11.out hbel)
            clear hown hbel
            go_wp2_with fail
            refine (scan_any v12 g (X ++ frameB G [tb]) w12 HB12.out (by have := HXL.out; have h := HFL11.out; rw [List.length_append]; simp at h; omega)).mono ?_
            rintro e w13 ⟨vo, rfl, hrow, hr⟩
            have hrows : rowsL g (X ++ frameB G [tb]) = cutR la := by
              have e := rowsL_frames g HG.out (frameB G [tb]) (cutR la) (fun s hs => by have := cutR_le s hs; omega)
              have hf := headF_frame G [tb] [] HGG.out.1 (by simp)
              rw [List.append_nil] at hf
              rw [← HXE.out, rowsL_other hf HGG.out.2, List.append_nil] at e
              exact e
            rw [hrows] at hrow ⊢
            have hlen : ((lenL g (cutR la) : Nat) : Int) = (X.length : Int) := by rw [← frames_len, ← HXE.out]
            rw [hlen]
            obtain ⟨oo, oc, rfl, -⟩ := hrow.reads
            have hl2 : (cutR la).length = NA := by rw [cutR_len]; have := HNA.out; omega
            rw [hl2]
            have HE13 := Lib.hid (Rb.trans _ _ _ HE12.out hr)
            have HALL13 := Lib.hid (HALL.out.rb HE13.out)
            have HW13 := Lib.hid (show Below w0.heap.size w0 w13 from HY1.out.trans (Below.mono (Rb.trans _ _ _ HE7.out HE13.out) HY1.out.size))
            clear hrow hr hrows hlen hl2
            have hsum : IntKind.i64.wrap ((X.length : Int) + (Y.length : Int)) = (X.length : Int) + (Y.length : Int) := IntWalk.i64_in _ (by have := HXL.out; have := HYL.out; omega)
            have hsum2 : IntKind.i64.wrap ((NA : Int) + (NB : Int)) = (NA : Int) + (NB : Int) := IntWalk.i64_in _ (by have := HNA.out; have := HNB.out; omega)
            have hbig : NA + NB ≤ 9223372036854775807 := by have := HNA.out; have := HNB.out; omega
            go_wp2_with fail
            clear hsum hsum2
            go_loopw [122] (fun i wr => ∃ k : Nat, k ≤ NA + NB ∧ i = .int .i64 k ∧ Rb w13 wr) (fun i _ => NA + NB - (intOf i).toNat)
            case atStart => exact ⟨0, Nat.zero_le _, rfl, Rb.refl _⟩
            case round =>
              obtain ⟨k, hk, rfl, hrb⟩ := hrel
              by_cases hlt2 : k < NA + NB
              · obtain ⟨b, o, rfl, hcs⟩ := (show ∃ b o, ro = some ⟨b, o, none⟩ ∧ ∀ k, k < NA + NB → ∃ u, w13.cell? ⟨b, o + k, none⟩ = some u ∧ Bs w13 u (AB.getD k []) by
                  obtain ⟨x1, x2, e, _, _, h4⟩ := HALL13.out
                  rw [HM.out] at e h4
                  simp only [Value.slice.injEq] at e
                  obtain ⟨rfl, _, _⟩ := e
                  exact h4 (by omega))
                obtain ⟨u, hu, hbu⟩ := hcs k hlt2
                have z1 := cell_rb hrb hu
                have hbw := hbu.below hrb
                have HRB := Lib.hid hrb
                have hw0 : Below w0.heap.size w0 wr := HW13.out.trans (Below.mono hrb HW13.out.size)
                have HW0 := Lib.hid hw0
                have hkl : (k : Int) < (NA : Int) + (NB : Int) := by omega
                clear hcs hu hbu hrb hw0
                have hk63 : k ≤ 9223372036854775807 := by omega
                by_cases hlt : k < NA
                · obtain ⟨ga, oa, rfl, hcs⟩ := HA.out (by have := HNA.out; omega)
                  obtain ⟨u2, hu, hb2⟩ := hcs k (by have := HNA.out; omega)
                  have hgd : AB.getD k [] = (la.getD k []).take 60 := by
                    rw [← HAB.out, List.getD_eq_getElem?_getD, List.getElem?_append_left (by rw [cutR_len]; have := HNA.out; omega), cutR_at (by have := HNA.out; omega)]
                    rfl
                  rw [hgd] at hbw
                  generalize la.getD k [] = S at *
                  obtain ⟨uo, ucap, rfl, hl1, hl2⟩ := hb2.len
                  unfold maxLen at hl2
                  have HCELL := Lib.hid (cell_rb HW0.out hu)
                  have HBS := Lib.hid (hb2.below HW0.out)
                  have HSL := Lib.hid (show S.length ≤ 9223372036854775807 by omega)
                  obtain ⟨s, hs⟩ : ∃ s, s = S.take 60 := ⟨_, rfl⟩
                  rw [← hs] at hbw
                  have HSE := Lib.hid hs
                  have HBU := Lib.hid hbw
                  obtain ⟨vo, vc, rfl, -⟩ := hbw.len
                  clear hs hu hb2 hgd hbw hcs hl1 hl2
                  go_upto_region 23 with (fail)
                  refine wp_region_specs (R := Rb) (S := [Spec.eq (.slice (some ⟨ga, oa, none⟩) NA cap), Spec.eq (.int .i64 ((k : Int))), Spec.eq (.pointer (some ⟨ga, oa + k, none⟩)), Spec.eq (.slice uo S.length ucap), Spec.eq (.slice (some ⟨ga, oa, none⟩) NA cap), Spec.eq (.int .i64 ((k : Int))), Spec.eq (.pointer (some ⟨ga, oa + k, none⟩)), Spec.eq (.slice uo S.length ucap), Spec.eq (.int .i64 ((S.length : Int))), Spec.eq (.int .i64 (min ((S.length : Int)) 60)), bsSpec (S.take 60), Spec.eq (strV (S.take 60)), Spec.eq (strV (S.take 60))]) (n := 1) (size := 167) (by kernel_rfl) Rb.trans (Rb.drew _) rfl (by kernel_rfl) ?owed ?fin
                  case owed =>
                    refine Owed.cons ?_ ?_
                    · -- 0: slot 131 := Op.move (Operand.tmp 1)
                      intro a w hR F
                      have e1 : a.eval (.tmp 1) = .slice (some ⟨ga, oa, none⟩) NA cap := F.old 1 (by kernel_rfl)
                      exact ok_move _ rfl (wanted_none rfl) ⟨Rb.refl _, e1⟩
                    refine Owed.cons ?_ ?_
                    · -- 1: slot 132 := Op.move (Operand.tmp 18)
                      intro a w hR F
                      have e18 : a.eval (.tmp 18) = .int .i64 ((k : Int)) := F.old 18 (by kernel_rfl)
                      exact ok_move _ rfl (wanted_none rfl) ⟨Rb.refl _, e18⟩
                    refine Owed.cons ?_ ?_
                    · -- 2: slot 133 := Op.indexAddr 34 (Operand.tmp 131) (Operand.tmp 132)
                      intro a w hR F
                      have e131 : a.eval (.tmp 131) = .slice (some ⟨ga, oa, none⟩) NA cap := F.new 0 131 (by kernel_rfl)
                      have e132 : a.eval (.tmp 132) = .int .i64 ((k : Int)) := F.new 1 132 (by kernel_rfl)
                      exact ok_index _ _ _ _ (k := k) rfl (wanted_none rfl) Try.underlying34 size23 e131 e132 (hlt) ⟨Rb.refl _, rfl⟩
                    refine Owed.cons ?_ ?_
                    · -- 3: slot 134 := Op.load 23 (Operand.tmp 133)
                      intro a w hR F
                      have e133 : a.eval (.tmp 133) = .pointer (some ⟨ga, oa + k, none⟩) := F.new 2 133 (by kernel_rfl)
                      exact ok_load _ _ rfl (wanted_none rfl) e133 (load_bytes (cell_rb hR HCELL.out)) ⟨Rb.refl _, rfl⟩
                    refine Owed.cons ?_ ?_
                    · -- 4: slot 135 := Op.move (Operand.tmp 1)
                      intro a w hR F
                      have e1 : a.eval (.tmp 1) = .slice (some ⟨ga, oa, none⟩) NA cap := F.old 1 (by kernel_rfl)
                      exact ok_move _ rfl (wanted_none rfl) ⟨Rb.refl _, e1⟩
                    refine Owed.cons ?_ ?_
                    · -- 5: slot 136 := Op.move (Operand.tmp 18)
                      intro a w hR F
                      have e18 : a.eval (.tmp 18) = .int .i64 ((k : Int)) := F.old 18 (by kernel_rfl)
                      exact ok_move _ rfl (wanted_none rfl) ⟨Rb.refl _, e18⟩
                    refine Owed.cons ?_ ?_
                    · -- 6: slot 137 := Op.indexAddr 34 (Operand.tmp 135) (Operand.tmp 136)
                      intro a w hR F
                      have e135 : a.eval (.tmp 135) = .slice (some ⟨ga, oa, none⟩) NA cap := F.new 4 135 (by kernel_rfl)
                      have e136 : a.eval (.tmp 136) = .int .i64 ((k : Int)) := F.new 5 136 (by kernel_rfl)
                      exact ok_index _ _ _ _ (k := k) rfl (wanted_none rfl) Try.underlying34 size23 e135 e136 (hlt) ⟨Rb.refl _, rfl⟩
                    refine Owed.cons ?_ ?_
                    · -- 7: slot 138 := Op.load 23 (Operand.tmp 137)
                      intro a w hR F
                      have e137 : a.eval (.tmp 137) = .pointer (some ⟨ga, oa + k, none⟩) := F.new 6 137 (by kernel_rfl)
                      exact ok_load _ _ rfl (wanted_none rfl) e137 (load_bytes (cell_rb hR HCELL.out)) ⟨Rb.refl _, rfl⟩
                    refine Owed.cons ?_ ?_
                    · -- 8: slot 139 := Op.call { callee := Callee.builtin Builtin.len, args := #[Operand.tmp 138], argTypes := #[23] }
                      intro a w hR F
                      have e138 : a.eval (.tmp 138) = .slice uo S.length ucap := F.new 7 138 (by kernel_rfl)
                      exact ok_len_slice _ _ _ Try.underlying23 rfl (wanted_none rfl) e138 (HSL.out) ⟨Rb.refl _, rfl⟩
                    refine Owed.cons ?_ ?_
                    · -- 9: slot 140 := Op.call { callee := Callee.builtin Builtin.min, args := #[Operand.tmp 139, Operand.const (Value.int 
                      intro a w hR F
                      have e139 : a.eval (.tmp 139) = .int .i64 ((S.length : Int)) := F.new 8 139 (by kernel_rfl)
                      exact ok_minI _ _ ((S.length : Int)) (60) rfl (wanted_none rfl) e139 rfl ⟨Rb.refl _, rfl⟩
                    refine Owed.cons ?_ ?_
                    · -- 10: slot 141 := Op.slice 23 (Operand.tmp 134) none (some (Operand.tmp 140)) none
                      intro a w hR F
                      have e134 : a.eval (.tmp 134) = .slice uo S.length ucap := F.new 3 134 (by kernel_rfl)
                      have e140 : a.eval (.tmp 140) = .int .i64 (min ((S.length : Int)) 60) := F.new 9 140 (by kernel_rfl)
                      exact ok_cutB _ _ rfl (wanted_none rfl) e134 (HBS.out.below hR) e140 (fun v hv => ⟨Rb.refl _, hv⟩)
                    refine Owed.cons ?_ ?_
                    · -- 11: slot 142 := Op.convert 23 9 (Operand.tmp 141)
                      intro a w hR F
                      have e141 : Bs w (a.eval (.tmp 141)) (S.take 60) := F.new 10 141 (by kernel_rfl)
                      exact ok_conv _ _ _ rfl (wanted_none rfl) (run_convert_Bs e141 23 5 9 Try.underlying23 Try.underlying5 Try.underlying9) ⟨Rb.refl _, rfl⟩
                    refine Owed.cons ?_ ?_
                    · -- 12: slot 20 := Op.assign (Operand.tmp 142)
                      intro a w hR F
                      have e142 : a.eval (.tmp 142) = strV (S.take 60) := F.new 11 142 (by kernel_rfl)
                      exact ok_assign _ rfl (wanted_none rfl) ⟨Rb.refl _, e142⟩
                    exact Owed.nil
                  case fin =>
                    intro y w2 hR hy
                    have e12 : y 12 = strV (S.take 60) := hy 12 _ rfl
                    have HR := Lib.hid hR
                    clear hy hR
                    simp only [putAll, Act.put, List.setIfInBounds_toArray, List.set_cons_zero, List.set_cons_succ]
                    rw [e12]
                    clear e12
                    have hr3 : Rb w13 w2 := Rb.trans _ _ _ HRB.out HR.out
                    have k1 := conv_bs (HBU.out.below HR.out)
                    have HR3 := Lib.hid hr3
                    have hss : (s == s) = true := by simp
                    clear hr3
                    rw [show S.take 60 = s from HSE.out.symm]
                    unfold strV at *
                    go_wp2
                    go_roundw
                    case rel => exact ⟨k + 1, by omega, by go_num, HR3.out⟩
                    case measure => simp [intOf]; omega
                · obtain ⟨ga, oa, rfl, hcs⟩ := HB.out (by have := HNB.out; omega)
                  obtain ⟨u2, hu, hb2⟩ := hcs (k - NA) (by have := HNB.out; omega)
                  have hgd : AB.getD k [] = (lb.getD (k - NA) []).take 60 := by
                    have hlen : (cutR la).length = NA := by rw [cutR_len]; have := HNA.out; omega
                    rw [← HAB.out, List.getD_eq_getElem?_getD, List.getElem?_append_right (by omega), hlen, cutR_at (by have := HNB.out; omega)]
                    rfl
                  rw [hgd] at hbw
                  generalize lb.getD (k - NA) [] = S at *
                  obtain ⟨uo, ucap, rfl, hl1, hl2⟩ := hb2.len
                  unfold maxLen at hl2
                  have HCELL := Lib.hid (cell_rb HW0.out hu)
                  have HBS := Lib.hid (hb2.below HW0.out)
                  have HSL := Lib.hid (show S.length ≤ 9223372036854775807 by omega)
                  obtain ⟨s, hs⟩ : ∃ s, s = S.take 60 := ⟨_, rfl⟩
                  rw [← hs] at hbw
                  have HSE := Lib.hid hs
                  have HBU := Lib.hid hbw
                  obtain ⟨vo, vc, rfl, -⟩ := hbw.len
                  clear hs hu hb2 hgd hbw hcs hl1 hl2
                  go_upto_region 24 with (fail)
                  refine wp_region_specs (R := Rb) (S := [Spec.eq (.slice (some ⟨ga, oa, none⟩) NB bcap), Spec.eq (.int .i64 ((k : Int))), Spec.eq (.slice ao NA cap), Spec.eq (.int .i64 ((NA : Int))), Spec.eq (.int .i64 (((k : Int)) - ((NA : Int)))), Spec.eq (.pointer (some ⟨ga, oa + (k - NA), none⟩)), Spec.eq (.slice uo S.length ucap), Spec.eq (.slice (some ⟨ga, oa, none⟩) NB bcap), Spec.eq (.int .i64 ((k : Int))), Spec.eq (.slice ao NA cap), Spec.eq (.int .i64 ((NA : Int))), Spec.eq (.int .i64 (((k : Int)) - ((NA : Int)))), Spec.eq (.pointer (some ⟨ga, oa + (k - NA), none⟩)), Spec.eq (.slice uo S.length ucap), Spec.eq (.int .i64 ((S.length : Int))), Spec.eq (.int .i64 (min ((S.length : Int)) 60)), bsSpec (S.take 60), Spec.eq (strV (S.take 60)), Spec.eq (strV (S.take 60))]) (n := 1) (size := 167) (by kernel_rfl) Rb.trans (Rb.drew _) rfl (by kernel_rfl) ?owed ?fin
                  case owed =>
                    refine Owed.cons ?_ ?_
                    · -- 0: slot 143 := Op.move (Operand.tmp 2)
                      intro a w hR F
                      have e2 : a.eval (.tmp 2) = .slice (some ⟨ga, oa, none⟩) NB bcap := F.old 2 (by kernel_rfl)
                      exact ok_move _ rfl (wanted_none rfl) ⟨Rb.refl _, e2⟩
                    refine Owed.cons ?_ ?_
                    · -- 1: slot 144 := Op.move (Operand.tmp 18)
                      intro a w hR F
                      have e18 : a.eval (.tmp 18) = .int .i64 ((k : Int)) := F.old 18 (by kernel_rfl)
                      exact ok_move _ rfl (wanted_none rfl) ⟨Rb.refl _, e18⟩
                    refine Owed.cons ?_ ?_
                    · -- 2: slot 145 := Op.move (Operand.tmp 1)
                      intro a w hR F
                      have e1 : a.eval (.tmp 1) = .slice ao NA cap := F.old 1 (by kernel_rfl)
                      exact ok_move _ rfl (wanted_none rfl) ⟨Rb.refl _, e1⟩
                    refine Owed.cons ?_ ?_
                    · -- 3: slot 146 := Op.call { callee := Callee.builtin Builtin.len, args := #[Operand.tmp 145], argTypes := #[34] }
                      intro a w hR F
                      have e145 : a.eval (.tmp 145) = .slice ao NA cap := F.new 2 145 (by kernel_rfl)
                      exact ok_len_slice _ _ _ Try.underlying34 rfl (wanted_none rfl) e145 (by omega) ⟨Rb.refl _, rfl⟩
                    refine Owed.cons ?_ ?_
                    · -- 4: slot 147 := Op.binOp BinOp.sub 3 (Operand.tmp 144) (Operand.tmp 146) 3
                      intro a w hR F
                      have e144 : a.eval (.tmp 144) = .int .i64 ((k : Int)) := F.new 1 144 (by kernel_rfl)
                      have e146 : a.eval (.tmp 146) = .int .i64 ((NA : Int)) := F.new 3 146 (by kernel_rfl)
                      exact ok_bin _ _ _ _ _ rfl (wanted_none rfl) e144 e146 (run_sub_i64 _ _ _ _ _ (by omega) (by omega)) ⟨Rb.refl _, rfl⟩
                    refine Owed.cons ?_ ?_
                    · -- 5: slot 148 := Op.indexAddr 34 (Operand.tmp 143) (Operand.tmp 147)
                      intro a w hR F
                      have e143 : a.eval (.tmp 143) = .slice (some ⟨ga, oa, none⟩) NB bcap := F.new 0 143 (by kernel_rfl)
                      have e147 : a.eval (.tmp 147) = .int .i64 (((k : Int)) - ((NA : Int))) := F.new 4 147 (by kernel_rfl)
                      exact ok_index _ _ _ _ (k := (k - NA)) rfl (wanted_none rfl) Try.underlying34 size23 e143 (by rw [e147]; congr 1; omega) (by omega) ⟨Rb.refl _, rfl⟩
                    refine Owed.cons ?_ ?_
                    · -- 6: slot 149 := Op.load 23 (Operand.tmp 148)
                      intro a w hR F
                      have e148 : a.eval (.tmp 148) = .pointer (some ⟨ga, oa + (k - NA), none⟩) := F.new 5 148 (by kernel_rfl)
                      exact ok_load _ _ rfl (wanted_none rfl) e148 (load_bytes (cell_rb hR HCELL.out)) ⟨Rb.refl _, rfl⟩
                    refine Owed.cons ?_ ?_
                    · -- 7: slot 150 := Op.move (Operand.tmp 2)
                      intro a w hR F
                      have e2 : a.eval (.tmp 2) = .slice (some ⟨ga, oa, none⟩) NB bcap := F.old 2 (by kernel_rfl)
                      exact ok_move _ rfl (wanted_none rfl) ⟨Rb.refl _, e2⟩
                    refine Owed.cons ?_ ?_
                    · -- 8: slot 151 := Op.move (Operand.tmp 18)
                      intro a w hR F
                      have e18 : a.eval (.tmp 18) = .int .i64 ((k : Int)) := F.old 18 (by kernel_rfl)
                      exact ok_move _ rfl (wanted_none rfl) ⟨Rb.refl _, e18⟩
                    refine Owed.cons ?_ ?_
                    · -- 9: slot 152 := Op.move (Operand.tmp 1)
                      intro a w hR F
                      have e1 : a.eval (.tmp 1) = .slice ao NA cap := F.old 1 (by kernel_rfl)
                      exact ok_move _ rfl (wanted_none rfl) ⟨Rb.refl _, e1⟩
                    refine Owed.cons ?_ ?_
                    · -- 10: slot 153 := Op.call { callee := Callee.builtin Builtin.len, args := #[Operand.tmp 152], argTypes := #[34] }
                      intro a w hR F
                      have e152 : a.eval (.tmp 152) = .slice ao NA cap := F.new 9 152 (by kernel_rfl)
                      exact ok_len_slice _ _ _ Try.underlying34 rfl (wanted_none rfl) e152 (by omega) ⟨Rb.refl _, rfl⟩
                    refine Owed.cons ?_ ?_
                    · -- 11: slot 154 := Op.binOp BinOp.sub 3 (Operand.tmp 151) (Operand.tmp 153) 3
                      intro a w hR F
                      have e151 : a.eval (.tmp 151) = .int .i64 ((k : Int)) := F.new 8 151 (by kernel_rfl)
                      have e153 : a.eval (.tmp 153) = .int .i64 ((NA : Int)) := F.new 10 153 (by kernel_rfl)
                      exact ok_bin _ _ _ _ _ rfl (wanted_none rfl) e151 e153 (run_sub_i64 _ _ _ _ _ (by omega) (by omega)) ⟨Rb.refl _, rfl⟩
                    refine Owed.cons ?_ ?_
                    · -- 12: slot 155 := Op.indexAddr 34 (Operand.tmp 150) (Operand.tmp 154)
                      intro a w hR F
                      have e150 : a.eval (.tmp 150) = .slice (some ⟨ga, oa, none⟩) NB bcap := F.new 7 150 (by kernel_rfl)
                      have e154 : a.eval (.tmp 154) = .int .i64 (((k : Int)) - ((NA : Int))) := F.new 11 154 (by kernel_rfl)
                      exact ok_index _ _ _ _ (k := (k - NA)) rfl (wanted_none rfl) Try.underlying34 size23 e150 (by rw [e154]; congr 1; omega) (by omega) ⟨Rb.refl _, rfl⟩
                    refine Owed.cons ?_ ?_
                    · -- 13: slot 156 := Op.load 23 (Operand.tmp 155)
                      intro a w hR F
                      have e155 : a.eval (.tmp 155) = .pointer (some ⟨ga, oa + (k - NA), none⟩) := F.new 12 155 (by kernel_rfl)
                      exact ok_load _ _ rfl (wanted_none rfl) e155 (load_bytes (cell_rb hR HCELL.out)) ⟨Rb.refl _, rfl⟩
                    refine Owed.cons ?_ ?_
                    · -- 14: slot 157 := Op.call { callee := Callee.builtin Builtin.len, args := #[Operand.tmp 156], argTypes := #[23] }
                      intro a w hR F
                      have e156 : a.eval (.tmp 156) = .slice uo S.length ucap := F.new 13 156 (by kernel_rfl)
                      exact ok_len_slice _ _ _ Try.underlying23 rfl (wanted_none rfl) e156 (HSL.out) ⟨Rb.refl _, rfl⟩
                    refine Owed.cons ?_ ?_
                    · -- 15: slot 158 := Op.call { callee := Callee.builtin Builtin.min, args := #[Operand.tmp 157, Operand.const (Value.int 
                      intro a w hR F
                      have e157 : a.eval (.tmp 157) = .int .i64 ((S.length : Int)) := F.new 14 157 (by kernel_rfl)
                      exact ok_minI _ _ ((S.length : Int)) (60) rfl (wanted_none rfl) e157 rfl ⟨Rb.refl _, rfl⟩
                    refine Owed.cons ?_ ?_
                    · -- 16: slot 159 := Op.slice 23 (Operand.tmp 149) none (some (Operand.tmp 158)) none
                      intro a w hR F
                      have e149 : a.eval (.tmp 149) = .slice uo S.length ucap := F.new 6 149 (by kernel_rfl)
                      have e158 : a.eval (.tmp 158) = .int .i64 (min ((S.length : Int)) 60) := F.new 15 158 (by kernel_rfl)
                      exact ok_cutB _ _ rfl (wanted_none rfl) e149 (HBS.out.below hR) e158 (fun v hv => ⟨Rb.refl _, hv⟩)
                    refine Owed.cons ?_ ?_
                    · -- 17: slot 160 := Op.convert 23 9 (Operand.tmp 159)
                      intro a w hR F
                      have e159 : Bs w (a.eval (.tmp 159)) (S.take 60) := F.new 16 159 (by kernel_rfl)
                      exact ok_conv _ _ _ rfl (wanted_none rfl) (run_convert_Bs e159 23 5 9 Try.underlying23 Try.underlying5 Try.underlying9) ⟨Rb.refl _, rfl⟩
                    refine Owed.cons ?_ ?_
                    · -- 18: slot 20 := Op.assign (Operand.tmp 160)
                      intro a w hR F
                      have e160 : a.eval (.tmp 160) = strV (S.take 60) := F.new 17 160 (by kernel_rfl)
                      exact ok_assign _ rfl (wanted_none rfl) ⟨Rb.refl _, e160⟩
                    exact Owed.nil
                  case fin =>
                    intro y w2 hR hy
                    have e18 : y 18 = strV (S.take 60) := hy 18 _ rfl
                    have HR := Lib.hid hR
                    clear hy hR
                    simp only [putAll, Act.put, List.setIfInBounds_toArray, List.set_cons_zero, List.set_cons_succ]
                    rw [e18]
                    clear e18
                    have hr3 : Rb w13 w2 := Rb.trans _ _ _ HRB.out HR.out
                    have k1 := conv_bs (HBU.out.below HR.out)
                    have HR3 := Lib.hid hr3
                    have hss : (s == s) = true := by simp
                    clear hr3
                    rw [show S.take 60 = s from HSE.out.symm]
                    unfold strV at *
                    go_wp2
                    go_roundw
                    case rel => exact ⟨k + 1, by omega, by go_num, HR3.out⟩
                    case measure => simp [intOf]; omega
              · have HE := Lib.hid (show k = NA + NB by omega)
                have HW0 := Lib.hid (show Below w0.heap.size w0 wr from HW13.out.trans (Below.mono hrb HW13.out.size))
                have hkl : ¬ ((k : Int) < (NA : Int) + (NB : Int)) := by omega
                clear hrb hlt2 hk
                go_wp2_with fail
                refine (lives_any wr).mono ?_
                rintro e w15 ⟨rfl, hr⟩
                have HW15 := Lib.hid (HW0.out.trans (Below.mono hr HW0.out.size))
                clear hr
                go_wp2
                go_ret
                exact ⟨rfl, HW15.out⟩

end Go.Proofs.Ytbdgdmieggpmhaa.L4
