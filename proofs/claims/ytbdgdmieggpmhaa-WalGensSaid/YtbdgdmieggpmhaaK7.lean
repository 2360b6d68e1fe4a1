/-
  Layer 3: Write, Clone.
-/
import Derived.Test.YtbdgdmieggpmhaaK6
import Derived.Deep.RegionWith
namespace Go.Proofs.Ytbdgdmieggpmhaa.L3
open Go.ChangeShapes Go.WideShapes Go.ChangeAt Go.RowKit By Reg
set_option linter.unusedVariables false

theorem wrote_setCell (w : World) (N i : Nat) (v : Value) : Wrote N w (w.setCell ⟨N, i, none⟩ v) :=
  ⟨rfl, rfl, rfl, by simp [World.setCell], fun k hk => Below.heap_setCell w _ v k hk⟩
theorem Blk.setCell {w : World} {N : Nat} {T : TypeId} {cs : List Value} (h : Blk w N T cs) (i : Nat) (v : Value) : Blk (w.setCell ⟨N, i, none⟩ v) N T (cs.set i v) := by
  unfold Blk at h ⊢
  simp only [World.setCell, Array.getElem?_modify, h]
  simp
theorem Turned.of_rb {w w1 w2 : World} {m : Mem} {D : Dk} (hr : Rb w w1) (h : TurnedB w.heap.size w1 m D w2) : Turned w m D w2 := by
  obtain ⟨m', h1, h2, h3, h4⟩ := h
  exact ⟨m', h1, (New.refl w m).trans hr.size h2, (Kp.of_rb hr).trans (New.refl w m) h3, h4⟩

theorem write_no (m : Mem) (w : World) (n : Int) (vb : Value) (hn : decide (0 ≤ n ∧ n < 2) = false) :
    Calls Try.prog 63 #[.pointer (some ⟨m.b, 0, none⟩), .int .i64 n, vb] w fun e w' => e = .returned (.int .i64 1) ∧ w = w' := by
  have H := Lib.hid hn
  clear hn
  go_enter Try.func63, Try.ntmps63
  go_wp2_with fail
  refine (isslot_any _ _).mono ?_
  rintro e w' ⟨rfl, rfl⟩
  rw [H.out]
  go_wp2
  go_ret
  exact ⟨rfl, rfl⟩


theorem own_off {w w1 : World} {m : Mem} {D : Dk} {g n cap : Nat} {e : TypeId} {xs : List Value} (h : HeldK w m D) (hn : w1.ownsRow w.heap.size e 1 (.slice (some ⟨g, 0, none⟩) n cap) n xs) : VOff m (.slice (some ⟨g, 0, none⟩) n cap) := fun k hk ht => by
  have h1 := h.lt k (.inl ht)
  have h2 := (hn.lt k hk).1
  omega

set_option maxRecDepth 100000 in
theorem write_0 (m : Mem) (D : Dk) (w : World) (vb : Value) (b : List UInt8) (h : HeldK w m D) (hb : Bs w vb b) (hl : b.length ≤ 1000) :
    Calls Try.prog 63 #[.pointer (some ⟨m.b, 0, none⟩), .int .i64 0, vb] w fun e w' => e = .returned (.int .i64 0) ∧ Turned w m (D.write0 b) w' := by
  have H := Lib.hid h
  have HB := Lib.hid hb
  clear h hb
  go_enter Try.func63, Try.ntmps63
  go_wp2_with fail
  refine (isslot_any _ _).mono ?_
  rintro e w' ⟨rfl, rfl⟩
  go_wp2_with fail
  go_region_with ((go_at_call 62; refine (copied_any _ b _ (Bs.below (Rb.drew _) HB.out) (by omega)).mono ?_; rintro e w1 ⟨g, cap, rfl, h2, h3⟩; have hr := Rb.trans _ _ _ (Rb.drew w) h3; have y3 := (H.out.rb hr).blk.cells7.e3; have f3 := (H.out.rb hr).blk.frozen 3; have H2 := Lib.hid h2; have HR := Lib.hid hr; clear h2 h3 hr))
  go_wp2
  go_ret
  have h1 := H.out.rb HR.out
  obtain ⟨l0, l1, l2, l3⟩ := h1.lts
  obtain ⟨s0, s1, s2, s3⟩ := h1.hs w.heap.size
  refine ⟨rfl, Turned.of_rb HR.out (h1.wrote w.heap.size (wrote_setCell w1 m.b 3 _) ⟨m.b, m.lv, .slice (some ⟨g, 0, none⟩) b.length cap, m.v1, m.u0, m.u1⟩ rfl (h1.blk.setCell 3 _) h1.own (.inr rfl) (Bs.of_owns H2.out) h1.b1 h1.c0 h1.c1 (own_off H.out H2.out) h1.o1 h1.q0 h1.q1 (four (fun k hk => (H2.out.lt k hk).2) l1 l2 l3) (fourT (fun k hk => .inr (H2.out.lt k hk).1) s1 s2 s3) (Dk.write0_ok h1.ok hl))⟩
set_option maxRecDepth 100000 in
theorem write_1 (m : Mem) (D : Dk) (w : World) (vb : Value) (b : List UInt8) (h : HeldK w m D) (hb : Bs w vb b) (hl : b.length ≤ 1000) :
    Calls Try.prog 63 #[.pointer (some ⟨m.b, 0, none⟩), .int .i64 1, vb] w fun e w' => e = .returned (.int .i64 0) ∧ Turned w m (D.write1 b) w' := by
  have H := Lib.hid h
  have HB := Lib.hid hb
  clear h hb
  go_enter Try.func63, Try.ntmps63
  go_wp2_with fail
  refine (isslot_any _ _).mono ?_
  rintro e w' ⟨rfl, rfl⟩
  go_wp2_with fail
  go_region_with ((go_at_call 62; refine (copied_any _ b _ (Bs.below (Rb.drew _) HB.out) (by omega)).mono ?_; rintro e w1 ⟨g, cap, rfl, h2, h3⟩; have hr := Rb.trans _ _ _ (Rb.drew w) h3; have y3 := (H.out.rb hr).blk.cells7.e4; have f3 := (H.out.rb hr).blk.frozen 4; have H2 := Lib.hid h2; have HR := Lib.hid hr; clear h2 h3 hr))
  go_wp2
  go_ret
  have h1 := H.out.rb HR.out
  obtain ⟨l0, l1, l2, l3⟩ := h1.lts
  obtain ⟨s0, s1, s2, s3⟩ := h1.hs w.heap.size
  refine ⟨rfl, Turned.of_rb HR.out (h1.wrote w.heap.size (wrote_setCell w1 m.b 4 _) ⟨m.b, m.lv, m.v0, .slice (some ⟨g, 0, none⟩) b.length cap, m.u0, m.u1⟩ rfl (h1.blk.setCell 4 _) h1.own (.inr rfl) h1.b0 (Bs.of_owns H2.out) h1.c0 h1.c1 h1.o0 (own_off H.out H2.out) h1.q0 h1.q1 (four l0 (fun k hk => (H2.out.lt k hk).2) l2 l3) (fourT s0 (fun k hk => .inr (H2.out.lt k hk).1) s2 s3) (Dk.write1_ok h1.ok hl))⟩

theorem sizedisk : (Try.prog.info? 93).map (·.size) = some 7 := by kernel_rfl
/-- what a clone is -/
def CloneK (w : World) (m : Mem) (D : Dk) (e : Ending) (w' : World) : Prop :=
  ∃ lv, e = .returned (.pointer (some ⟨w.heap.size, 0, none⟩)) ∧ HeldK w' ⟨w.heap.size, lv, m.v0, m.v1, m.u0, m.u1⟩ D ∧ (∀ k, lv.ownBlock = some k → w.heap.size < k) ∧ Rb w w'

set_option maxRecDepth 100000 in
theorem clone_any (m : Mem) (D : Dk) (w : World) (h : HeldK w m D) : Calls Try.prog 38 #[.pointer (some ⟨m.b, 0, none⟩)] w (CloneK w m D) := by
  have Z := Lib.hid h.blk.cells7
  obtain ⟨z0, z1, z2, z3, z4, z5, z6⟩ := h.blk.cells7
  have H := Lib.hid h
  have h7 : ∀ v ∈ [Value.int .i64 D.room, m.lv, .int .i64 D.sure.length, m.v0, m.v1, m.u0, m.u1], v.oneCell' = true := by
    intro v hv
    simp at hv
    rcases hv with rfl | rfl | rfl | rfl | rfl | rfl | rfl
    · rfl
    · exact (bs_one (Bs.of_owns h.own)).1
    · rfl
    · exact (bs_one h.b0).1
    · exact (bs_one h.b1).1
    · exact (bs_one h.c0).1
    · exact (bs_one h.c1).1
  have H7 := Lib.hid h7
  clear h h7
  go_enter Try.func38, Try.ntmps38
  go_wp2_with (refine wpList_store rfl 93 _ _ rfl w.heap.size 0 93 _ [_, _, _, _, _, _, _] _ rfl rfl (Blk.new w 93 [_, _, _, _, _, _, _]) rfl sizedisk (by simp) H7.out ?_)
  intro w1 hb1 hw1
  have hr1 : Rb w w1 := Wrote.below ((Below.refl _ w).alloc (Nat.le_refl _) _) hw1 (Nat.le_refl _)
  have h1 := H.out.rb hr1
  have y1 := h1.blk.cells7.e1
  have C := Lib.hid (copied_any m.lv D.log w1 (Bs.of_owns h1.own) (by obtain ⟨h4, h5, -⟩ := h1.ok; omega))
  have HB1 := Lib.hid hb1
  have HR1 := Lib.hid hr1
  clear z0 z1 z2 z3 z4 z5 z6 h1 hb1 hw1 hr1
  go_wp2_with fail
  refine C.out.mono ?_
  rintro e w2 ⟨g, cap, rfl, h2, h3⟩
  have HB2 := Lib.hid (HB1.out.rb h3)
  have H2 := Lib.hid h2
  have HR2 := Lib.hid (Rb.trans _ _ _ HR1.out h3)
  clear h2 h3 y1
  go_wp2_with (refine wpList_store rfl 23 _ _ rfl w.heap.size 1 93 _ [_] _ rfl rfl HB2.out rfl sizebytes (by simp) (sl_one _ _ _) ?_)
  intro w3 hb3 hw3
  go_wp2
  go_ret
  have hr3 : Rb w w3 := Wrote.below HR2.out hw3 (Nat.le_refl _)
  have h3 := H.out.rb hr3
  obtain ⟨l0, l1, l2, l3⟩ := H.out.lts
  have hN1 : w.heap.size < w1.heap.size := HB1.out.lt
  have hg : w.heap.size < g := by have := (H2.out.lt g rfl).1; omega
  have hlv : ∀ k, (Value.slice (some ⟨g, 0, none⟩) D.log.length cap).ownBlock = some k → k = g := fun k hk => by simp [Value.ownBlock] at hk; exact hk.symm
  have hoff : ∀ v : Value, (∀ k, v.ownBlock = some k → k < w.heap.size) → VOff ⟨w.heap.size, .slice (some ⟨g, 0, none⟩) D.log.length cap, m.v0, m.v1, m.u0, m.u1⟩ v := fun v hv k hk ht => by
    have := hv k hk
    rcases ht with rfl | ht
    · exact Nat.lt_irrefl _ this
    · have := hlv k ht; omega
  refine ⟨_, rfl, ⟨hb3, owns_same (World.ownsRow.mono H2.out (Nat.zero_le _)) fun k hk => hw3.block k (by have := hlv k hk; omega), fun e => ?_, h3.b0, h3.b1, h3.c0, h3.c1, hoff _ l0, hoff _ l1, hoff _ l2, hoff _ l3, fun k hk => ?_, h3.ok⟩, fun k hk => ?_, hr3⟩
  · have := hlv _ e; simp at this; omega
  · have s3 := hw3.size
    have s2 := HR2.out.size
    rcases hk with (rfl | hk) | hk
    · exact hb3.lt
    · have := (H2.out.lt k hk).2; omega
    · have := four l0 l1 l2 l3 k hk; omega
  · have := hlv k hk; omega
end Go.Proofs.Ytbdgdmieggpmhaa.L3
