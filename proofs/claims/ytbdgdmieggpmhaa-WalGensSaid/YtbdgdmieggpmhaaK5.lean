/-
  Layer 3: Crash.
-/
import Derived.Test.YtbdgdmieggpmhaaK4
import Derived.StillTailTactics
namespace Go.Proofs.Ytbdgdmieggpmhaa.L3
open Go.ChangeShapes Go.WideShapes Go.ChangeAt Go.RowKit By Reg
set_option linter.unusedVariables false

theorem crash_log (D : Dk) (k : Nat) : (D.crash k).log = D.log.take (D.sure.length + k) := by
  unfold Dk.crash Dk.log
  rw [List.take_length_add_append, List.append_nil]
theorem owns_cut {w : World} {B : Nat} {e : TypeId} {a : Option Addr} {n c : Nat} {xs : List Value} (h : w.ownsRow B e 1 (.slice a n c) n xs) (N : Nat) (hN : N ≤ n) : w.ownsRow B e 1 (.slice a N c) N (xs.take N) := by
  refine ⟨by rw [List.length_take, h.1]; omega, ?_⟩
  rcases h.2 with ⟨h0, h1⟩ | ⟨g, cap, cur, h1, h2, h3, h4, h5, h6, h7⟩
  · simp only [Value.slice.injEq] at h0
    obtain ⟨rfl, rfl, rfl⟩ := h0
    exact .inl ⟨by congr 1; omega, by omega⟩
  · simp only [Value.slice.injEq] at h1
    obtain ⟨rfl, _, rfl⟩ := h1
    refine .inr ⟨g, c, cur, rfl, h2, h3, by omega, h5, h6, ?_⟩
    rw [← h7, List.take_take]
    congr 1; omega

set_option maxRecDepth 100000 in
set_option maxHeartbeats 1000000 in
theorem crash_any (m : Mem) (D : Dk) (w : World) (k : Int) (h : HeldK w m D) : Calls Try.prog 37 #[.pointer (some ⟨m.b, 0, none⟩), .int .i64 k] w fun e w' => e = .returned (.tuple #[]) ∧ Turned w m (D.crash k.toNat) w' := by
  have z1 := h.blk.cells7.e1
  have z2 := h.blk.cells7.e2
  obtain ⟨ao, cap, e, h2, h3⟩ := (Bs.of_owns h.own).len
  rw [e] at z1
  have hb := h.blk
  have hlen := D.log_len
  obtain ⟨q1, q2, -⟩ := h.ok
  obtain ⟨n, hn⟩ : ∃ n, n = D.log.length := ⟨_, rfl⟩
  obtain ⟨s, hs⟩ : ∃ s, s = D.sure.length := ⟨_, rfl⟩
  obtain ⟨r, hr⟩ : ∃ r, r = D.rest.length := ⟨_, rfl⟩
  rw [← hn] at z1 h2
  rw [← hs] at z2 hb
  rw [← hn] at q1 hlen
  rw [← hs, ← hr] at hlen
  obtain ⟨N, hN⟩ : ∃ N, N = s + min k.toNat r := ⟨_, rfl⟩
  have hNn : N ≤ n := by omega
  have hw : IntKind.i64.wrap ((n : Int) - (s : Int)) = (n : Int) - (s : Int) := IntWalk.i64_in _ (by omega)
  have HB := Lib.hid hb
  have H2 := Lib.hid (two_one h.c0 h.c1)
  have E := Lib.hid e
  have H := Lib.hid h
  have Hn := Lib.hid hn
  have Hs := Lib.hid hs
  have Hr := Lib.hid hr
  have FIN : ∀ w1 w2 w3, Wrote m.b w w1 → Wrote m.b w1 w2 → Wrote m.b w2 w3 → Blk w3 m.b 93 [.int .i64 D.room, .slice ao N cap, .int .i64 N, m.u0, m.u1, m.u0, m.u1] → Turned w m (D.crash k.toNat) w3 := by
    intro w1 w2 w3 g1 g2 g3 hb
    obtain ⟨l0, l1, l2, l3⟩ := h.lts
    obtain ⟨s0, s1, s2, s3⟩ := h.hs w.heap.size
    have hlg : (D.crash k.toNat).log.length = N := by
      rw [crash_log, List.length_take, ← hn, ← hs, hN]; omega
    have hsu : (D.crash k.toNat).sure.length = N := by
      show (D.sure ++ D.rest.take k.toNat).length = N
      rw [List.length_append, List.length_take, ← hs, ← hr, hN]
    have ho : w.ownsRow 0 5 1 (.slice ao N cap) N ((D.log.map c8).take N) := owns_cut (by have := h.own; rw [e, ← hn] at this; exact this) N hNn
    refine h.wrote w.heap.size ((g1.trans g2).trans g3) ⟨m.b, .slice ao N cap, m.u0, m.u1, m.u0, m.u1⟩ rfl (by rw [hsu]; exact hb) ?_ (.inr (by rw [e]; cases ao <;> rfl)) h.c0 h.c1 h.c0 h.c1 h.q0 h.q1 h.q0 h.q1 (four l2 l3 l2 l3) (fourT s2 s3 s2 s3) (Dk.crash_ok h.ok _)
    have hx : (D.crash k.toNat).log.map c8 = (D.log.map c8).take N := by
      rw [crash_log, List.map_take]
      have : D.sure.length + k.toNat = N ∨ (N = n ∧ n ≤ D.sure.length + k.toNat) := by omega
      rcases this with h | ⟨h, h'⟩
      · rw [h]
      · rw [h, List.take_of_length_le (by rw [List.length_map, ← hn]; exact h'), List.take_of_length_le (by rw [List.length_map, ← hn]; exact Nat.le_refl _)]
    rw [hlg, hx]
    exact ho
  have FN := Lib.hid FIN
  clear FIN
  rcases (by omega : k < 0 ∨ (0 ≤ k ∧ k ≤ (n : Int) - s) ∨ (n : Int) - s < k) with hk | ⟨hk, hk2⟩ | hk
  · have e0 : N = s := by omega
    obtain rfl := e0
    have f1 : ¬ ((n : Int) - (N : Int) < 0) := by omega
    have f2 : IntKind.i64.wrap ((N : Int)) = (N : Int) := IntWalk.i64_in _ (by omega)
    have HN := Lib.hid hN
    have Hl := Lib.hid hlen
    clear e h hn hs hlen hb hN hr
    go_enter Try.func37, Try.ntmps37
    go_wp2_with fail
    go_still_tail 20, (by kernel_rfl)
    have F2 := Lib.hid f2
    clear hw f1 f2
    change wpList _ _ _ _ _ w.drew
    have HBd := Lib.hid (show Blk w.drew _ _ _ from HB.out)
    go_wp2_with (refine wpList_store rfl 3 _ _ rfl m.b 2 93 _ [_] _ rfl rfl HBd.out rfl sizeint (by simp) (int_one _ _) ?_)
    intro w1 hb1 hw1
    try rw [F2.out] at hb1
    have HB1 := Lib.hid (show Blk w1 m.b 93 [.int .i64 D.room, m.lv, .int .i64 N, m.v0, m.v1, m.u0, m.u1] from hb1)
    have y1 := HB1.out.cells7.e1
    have y2 := HB1.out.cells7.e2
    have HW1 := Lib.hid hw1
    rw [E.out, ← Hn.out] at y1
    clear hb1 hw1 z1 z2
    have p1 : (N : Int) ≤ (cap : Int) := by omega
    have p2 : N ≤ cap := by omega
    have p3 : (0 : Int) ≤ (N : Int) := by omega
    go_wp2_with fail
    go_still_tail 12, (by kernel_rfl)
    change wpList _ _ _ _ _ w1.drew
    have HB1d := Lib.hid (show Blk w1.drew _ _ _ from HB1.out)
    go_wp2_with (refine wpList_store rfl 23 _ _ rfl m.b 1 93 _ [_] _ rfl rfl HB1d.out rfl sizebytes (by simp) (sl_one _ _ _) ?_)
    intro w2 hb2 hw2
    have HB2 := Lib.hid (show Blk w2 m.b 93 [.int .i64 D.room, .slice ao N cap, .int .i64 N, m.v0, m.v1, m.u0, m.u1] from hb2)
    have x5 := HB2.out.cells7.e5
    have x6 := HB2.out.cells7.e6
    have HW2 := Lib.hid hw2
    clear hb2 hw2 y1 y2
    go_wp2_with (refine wpList_store rfl 91 _ _ rfl m.b 3 93 _ [m.u0, m.u1] _ rfl rfl HB2.out rfl sizeslots (by simp) H2.out ?_)
    intro w3 hb3 hw3
    go_wp2
    go_end0
    exact ⟨rfl, FN.out w1 w2 w3 ⟨HW1.out.os, HW1.out.tape, HW1.out.output, HW1.out.size, HW1.out.block⟩ ⟨HW2.out.os, HW2.out.tape, HW2.out.output, HW2.out.size, HW2.out.block⟩ hw3 hb3⟩
  · have f1 : ¬ ((n : Int) - (s : Int) < k) := by omega
    have f2 : IntKind.i64.wrap ((s : Int) + k) = (N : Int) := by rw [IntWalk.i64_in _ (by omega)]; omega
    have HN := Lib.hid hN
    have Hl := Lib.hid hlen
    clear e h hn hs hlen hb hN hr
    go_enter Try.func37, Try.ntmps37
    go_wp2_with fail
    go_still_tail 20, (by kernel_rfl)
    have F2 := Lib.hid f2
    clear hw f1 f2
    change wpList _ _ _ _ _ w.drew
    have HBd := Lib.hid (show Blk w.drew _ _ _ from HB.out)
    go_wp2_with (refine wpList_store rfl 3 _ _ rfl m.b 2 93 _ [_] _ rfl rfl HBd.out rfl sizeint (by simp) (int_one _ _) ?_)
    intro w1 hb1 hw1
    try rw [F2.out] at hb1
    have HB1 := Lib.hid (show Blk w1 m.b 93 [.int .i64 D.room, m.lv, .int .i64 N, m.v0, m.v1, m.u0, m.u1] from hb1)
    have y1 := HB1.out.cells7.e1
    have y2 := HB1.out.cells7.e2
    have HW1 := Lib.hid hw1
    rw [E.out, ← Hn.out] at y1
    clear hb1 hw1 z1 z2
    have p1 : (N : Int) ≤ (cap : Int) := by omega
    have p2 : N ≤ cap := by omega
    have p3 : (0 : Int) ≤ (N : Int) := by omega
    go_wp2_with fail
    go_still_tail 12, (by kernel_rfl)
    change wpList _ _ _ _ _ w1.drew
    have HB1d := Lib.hid (show Blk w1.drew _ _ _ from HB1.out)
    go_wp2_with (refine wpList_store rfl 23 _ _ rfl m.b 1 93 _ [_] _ rfl rfl HB1d.out rfl sizebytes (by simp) (sl_one _ _ _) ?_)
    intro w2 hb2 hw2
    have HB2 := Lib.hid (show Blk w2 m.b 93 [.int .i64 D.room, .slice ao N cap, .int .i64 N, m.v0, m.v1, m.u0, m.u1] from hb2)
    have x5 := HB2.out.cells7.e5
    have x6 := HB2.out.cells7.e6
    have HW2 := Lib.hid hw2
    clear hb2 hw2 y1 y2
    go_wp2_with (refine wpList_store rfl 91 _ _ rfl m.b 3 93 _ [m.u0, m.u1] _ rfl rfl HB2.out rfl sizeslots (by simp) H2.out ?_)
    intro w3 hb3 hw3
    go_wp2
    go_end0
    exact ⟨rfl, FN.out w1 w2 w3 ⟨HW1.out.os, HW1.out.tape, HW1.out.output, HW1.out.size, HW1.out.block⟩ ⟨HW2.out.os, HW2.out.tape, HW2.out.output, HW2.out.size, HW2.out.block⟩ hw3 hb3⟩
  · have f1 : (n : Int) - (s : Int) < k := hk
    have f3 : ¬ k < 0 := by omega
    have f2 : IntKind.i64.wrap ((s : Int) + ((n : Int) - (s : Int))) = (N : Int) := by rw [IntWalk.i64_in _ (by omega)]; omega
    have HN := Lib.hid hN
    have Hl := Lib.hid hlen
    clear e h hn hs hlen hb hN hr
    go_enter Try.func37, Try.ntmps37
    go_wp2_with fail
    go_still_tail 20, (by kernel_rfl)
    have F2 := Lib.hid f2
    clear hw f1 f2
    change wpList _ _ _ _ _ w.drew
    have HBd := Lib.hid (show Blk w.drew _ _ _ from HB.out)
    go_wp2_with (refine wpList_store rfl 3 _ _ rfl m.b 2 93 _ [_] _ rfl rfl HBd.out rfl sizeint (by simp) (int_one _ _) ?_)
    intro w1 hb1 hw1
    try rw [F2.out] at hb1
    have HB1 := Lib.hid (show Blk w1 m.b 93 [.int .i64 D.room, m.lv, .int .i64 N, m.v0, m.v1, m.u0, m.u1] from hb1)
    have y1 := HB1.out.cells7.e1
    have y2 := HB1.out.cells7.e2
    have HW1 := Lib.hid hw1
    rw [E.out, ← Hn.out] at y1
    clear hb1 hw1 z1 z2
    have p1 : (N : Int) ≤ (cap : Int) := by omega
    have p2 : N ≤ cap := by omega
    have p3 : (0 : Int) ≤ (N : Int) := by omega
    go_wp2_with fail
    go_still_tail 12, (by kernel_rfl)
    change wpList _ _ _ _ _ w1.drew
    have HB1d := Lib.hid (show Blk w1.drew _ _ _ from HB1.out)
    go_wp2_with (refine wpList_store rfl 23 _ _ rfl m.b 1 93 _ [_] _ rfl rfl HB1d.out rfl sizebytes (by simp) (sl_one _ _ _) ?_)
    intro w2 hb2 hw2
    have HB2 := Lib.hid (show Blk w2 m.b 93 [.int .i64 D.room, .slice ao N cap, .int .i64 N, m.v0, m.v1, m.u0, m.u1] from hb2)
    have x5 := HB2.out.cells7.e5
    have x6 := HB2.out.cells7.e6
    have HW2 := Lib.hid hw2
    clear hb2 hw2 y1 y2
    go_wp2_with (refine wpList_store rfl 91 _ _ rfl m.b 3 93 _ [m.u0, m.u1] _ rfl rfl HB2.out rfl sizeslots (by simp) H2.out ?_)
    intro w3 hb3 hw3
    go_wp2
    go_end0
    exact ⟨rfl, FN.out w1 w2 w3 ⟨HW1.out.os, HW1.out.tape, HW1.out.output, HW1.out.size, HW1.out.block⟩ ⟨HW2.out.os, HW2.out.tape, HW2.out.output, HW2.out.size, HW2.out.block⟩ hw3 hb3⟩
end Go.Proofs.Ytbdgdmieggpmhaa.L3
