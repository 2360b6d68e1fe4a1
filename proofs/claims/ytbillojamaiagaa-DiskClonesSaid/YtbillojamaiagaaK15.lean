/-
  Layer 3: the document's example.
-/
import Derived.Test.YtbillojamaiagaaK14
import Derived.Lib.SlBytesConst
namespace Go.Proofs.Ytbillojamaiagaa
open Go.ChangeShapes Go.WideShapes Go.ChangeAt Go.RowKit By Reg
set_option linter.unusedVariables false

theorem mem0_touch {b k : Nat} (h : (mem0 b).touch k) : k = b := mem0_has (.inl h)
def D1 : Dk := (Dk.new 9).append [97, 98]
def D2 : Dk := D1.sync.append [99, 100]
def D3 : Dk := D2.crash 1
theorem D3_log : D3.log = [97, 98, 99] := rfl
theorem D3_sure : D3.sure.length = 3 := rfl
theorem Kp.belowT {m : Mem} {w w' : World} {B : Nat} (h : Kp m w w') (hB : B ≤ w.heap.size) (ht : ∀ k, m.touch k → B ≤ k) : Below B w w' := h.below hB ht
theorem New.above {w : World} {m m' : Mem} {B : Nat} (h : New w m m') (hB : B ≤ w.heap.size) (ht : ∀ k, m.touch k → B ≤ k) : ∀ k, m'.touch k → B ≤ k := fun k hk => by
  rcases h.touch hk with h | h
  · exact ht k h
  · omega
/-- a disk of the call's own, behind what the call did so far -/
structure Own (B : Nat) (w0 : World) (m : Mem) (D : Dk) (w : World) : Prop where
  k : HeldK w m D
  b : Below B w0 w
  a : ∀ k, m.touch k → B ≤ k
  s : B ≤ w.heap.size
theorem Own.turned {B : Nat} {w0 w w' : World} {m : Mem} {D D' : Dk} (h : Own B w0 m D w) (t : Turned w m D' w') : ∃ m', m'.b = m.b ∧ Own B w0 m' D' w' := by
  obtain ⟨m', h1, h2, h3, _⟩ := t
  exact ⟨m', h2.1, h1, h.b.trans (h3.below h.s h.a), h2.above h.s h.a, Nat.le_trans h.s h3.size⟩
theorem Own.rb {B : Nat} {w0 w w' : World} {m : Mem} {D : Dk} (h : Own B w0 m D w) (hb : Rb w w') : Own B w0 m D w' :=
  ⟨h.k.rb hb, h.b.trans (Below.mono hb h.s), h.a, Nat.le_trans h.s hb.size⟩

set_option maxRecDepth 100000 in
set_option maxHeartbeats 400000 in
theorem lives_any (w : World) : Calls Try.prog 13 #[] w fun e w' => e = .returned (.bool true) ∧ Rb w w' := by
  go_enter Try.func13, Try.ntmps13
  go_wp2_with fail
  refine (new_any 9 w).mono ?_
  rintro e w1 ⟨rfl, hk1, hr1⟩
  have O1 := Lib.hid (show Own w.heap.size w (mem0 w.heap.size) (Dk.new 9) w1 from ⟨hk1, hr1, fun k h => by rw [mem0_touch h]; exact Nat.le_refl _, hr1.size⟩)
  clear hk1 hr1
  have kcs := fun (w : World) (C : Array Value) (n c : Nat) => Lib.run_convert_bytes_const (P := Try.prog) w 32 5 C n c Try.underlying32 Try.underlying5
  go_wp2_with fail
  clear kcs
  have O1a := Lib.hid (O1.out.rb ((Below.refl _ _).alloc (Nat.le_refl _) (.cells ([97, 98].map c8).toArray 5 (2, 3))))
  refine (append_fits (mem0 w.heap.size) (Dk.new 9) _ _ [97, 98] O1a.out.k (Bs.marked w1 5 (2, 3) [97, 98] (by simp [maxLen])) (by decide)).mono ?_
  rintro e w2 ⟨rfl, ht⟩
  obtain ⟨m2, e2, o2⟩ := O1a.out.turned ht
  have hb2 := Lib.hid (show m2.b = w.heap.size from e2)
  have O2 := Lib.hid (show Own w.heap.size w m2 D1 w2 from o2)
  clear ht o2 O1 O1a e2
  go_wp2_with fail
  have C := sync_any m2 D1 w2 O2.out.k
  rw [hb2.out] at C
  refine C.mono ?_
  rintro e w3 ⟨rfl, ht⟩
  obtain ⟨m3, e3, o3⟩ := O2.out.turned ht
  have O3 := Lib.hid o3
  have hb3 := Lib.hid (e3.trans hb2.out)
  clear ht O2 e3 hb2 C o3
  have kcs := fun (w : World) (C : Array Value) (n c : Nat) => Lib.run_convert_bytes_const (P := Try.prog) w 32 5 C n c Try.underlying32 Try.underlying5
  go_wp2_with fail
  clear kcs
  have O3a := Lib.hid (O3.out.rb ((Below.refl _ _).alloc (Nat.le_refl _) (.cells ([99, 100].map c8).toArray 5 (2, 3))))
  have C := append_fits m3 D1.sync _ _ [99, 100] O3a.out.k (Bs.marked w3 5 (2, 3) [99, 100] (by simp [maxLen])) (by decide)
  rw [hb3.out] at C
  refine C.mono ?_
  rintro e w4 ⟨rfl, ht⟩
  obtain ⟨m4, e4, o4⟩ := O3a.out.turned ht
  have O4 := Lib.hid (show Own w.heap.size w m4 D2 w4 from o4)
  have hb4 := Lib.hid (e4.trans hb3.out)
  clear ht O3 O3a e4 hb3 C o4
  go_wp2_with fail
  have C := crash_any m4 D2 w4 1 O4.out.k
  rw [hb4.out] at C
  refine C.mono ?_
  rintro e w5 ⟨rfl, ht⟩
  obtain ⟨m5, e5, o5⟩ := O4.out.turned ht
  have O5 := Lib.hid (show Own w.heap.size w m5 D3 w5 from o5)
  have hb5 := Lib.hid (e5.trans hb4.out)
  clear ht O4 e5 hb4 C o5
  go_wp2_with fail
  have C := log_any m5 D3 w5 O5.out.k
  rw [hb5.out, D3_log] at C
  refine C.mono ?_
  rintro e w6 ⟨g, cap, rfl, h2, h3⟩
  have hcv : (convert 32 9 (.slice (some ⟨g, 0, none⟩) 3 cap)).run Try.prog w6 = .ok (.string ⟨#[97, 98, 99]⟩) w6 := run_convert_Bs (Bs.of_owns (xs := [97, 98, 99]) h2) 32 5 9 Try.underlying32 Try.underlying5 Try.underlying9
  have O6 := Lib.hid (O5.out.rb h3)
  clear h2 h3 O5 C
  go_wp2_with fail
  clear hcv
  have C := sure_any m5 D3 w6 O6.out.k
  rw [hb5.out, D3_sure] at C
  refine C.mono ?_
  rintro e w7 ⟨rfl, rfl⟩
  clear C
  go_wp2
  go_ret
  exact ⟨rfl, O6.out.b⟩
end Go.Proofs.Ytbillojamaiagaa
