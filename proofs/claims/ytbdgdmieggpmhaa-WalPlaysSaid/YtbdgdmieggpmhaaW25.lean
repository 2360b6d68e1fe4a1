/-
  Layer 4: what the law's 'do' keeps; its last region.
-/
import Derived.Test.YtbdgdmieggpmhaaW24
import Derived.Test.YtbdgdmieggpmhaaW18
import Derived.Test.YtbdgdmieggpmhaaRegT
namespace Go.Proofs.Ytbdgdmieggpmhaa.L4
open Go.ChangeShapes Go.WideShapes Go.ChangeAt Go.RowKit Oct By Reg L3
set_option linter.unusedVariables false

/-! ### a region that stores into one block -/
structure RN (N : Nat) (L : List Value) (a b : World) : Prop where
  os : b.os = a.os
  tape : b.tape = a.tape
  output : b.output = a.output
  size : a.heap.size ≤ b.heap.size
  block : ∀ q, q < a.heap.size → q ≠ N → b.heap[q]? = a.heap[q]?
  done : Blk a N 52 L → Blk b N 52 L
  seven : (∃ cs, Blk a N 52 cs ∧ cs.length = 7) → ∃ cs, Blk b N 52 cs ∧ cs.length = 7
section
variable {N : Nat} {L : List Value} {a b c : World}
theorem RN.refl (a : World) : RN N L a a := ⟨rfl, rfl, rfl, Nat.le_refl _, fun _ _ _ => rfl, id, id⟩
theorem RN.trans (a b c : World) (h : RN N L a b) (k : RN N L b c) : RN N L a c :=
  ⟨k.os.trans h.os, k.tape.trans h.tape, k.output.trans h.output, Nat.le_trans h.size k.size, fun q hq hn => (k.block q (Nat.lt_of_lt_of_le hq h.size) hn).trans (h.block q hq hn), fun x => k.done (h.done x), fun x => k.seven (h.seven x)⟩
theorem RN.of_rb (h : Rb a b) : RN N L a b := ⟨h.os, h.tape, h.output, h.size, fun q hq _ => h.block q hq, fun x => x.rb h, fun ⟨cs, x, y⟩ => ⟨cs, x.rb h, y⟩⟩
theorem RN.of_wrote (h : Wrote N a b) (hb : Blk b N 52 L) (hl : L.length = 7) : RN N L a b := ⟨h.os, h.tape, h.output, by rw [h.size]; exact Nat.le_refl _, fun q _ hn => h.block q hn, fun _ => hb, fun _ => ⟨L, hb, hl⟩⟩
theorem RN.blk' {M : Nat} {T : TypeId} {cs : List Value} (h : RN N L a b) (hb : Blk a M T cs) (hn : M ≠ N) : Blk b M T cs := hb.same (h.block M hb.lt hn)
theorem RN.blk {M : Nat} {T : TypeId} {cs : List Value} (h : RN N L a b) (hb : Blk a M T cs) (hn : M ≠ N) : Blk b M T cs := hb.same (h.block M hb.lt hn)
end
section
variable {ops : Array Oper} {o : Oper} {a : Act} {w : World} {T : World → Value → Prop}
theorem ok_storeX {N : Nat} {L : List Value} (x y : Operand) (ho : o.op = .store 52 x y) (hw : Region.wanted o (yielded ops a.tmps) = true) (hx : a.eval x = .pointer (some ⟨N, 0, none⟩)) (hy : a.eval y = .agg L.toArray) (hc : (Value.agg L.toArray).cells = L.toArray)
    (hb : ∃ cs, Blk w N 52 cs ∧ cs.length = 7) (hl : L.length = 7) (h1 : ∀ v ∈ L, v.oneCell' = true) (h : ∀ w' v, Blk w' N 52 L → Wrote N w w' → T w' v) : okAt Try.prog ops o a w T := by
  obtain ⟨cs, hb, hcl⟩ := hb
  obtain ⟨w', hr, h2, h3⟩ := run_store_blk (P := Try.prog) (off := 0) (ty := 52) (vs := L) (v := .agg L.toArray) hb hc (by rw [sizeX, hl]) (by omega) h1
  have h2' : Blk w' N 52 L := by
    have e : cs.take 0 ++ L ++ cs.drop (0 + L.length) = L := by rw [List.drop_eq_nil_of_le (by omega)]; simp
    rw [e] at h2
    exact h2
  unfold okAt yieldsTo
  rw [if_pos hw]
  simp only [execOp, ho, hx, hy, Sem.run_bind, hr, Result.andThen_ok]
  exact h _ _ h2' h3
end
def blkSpec (N : Nat) (L : List Value) : Reg.Spec (RN N L) := ⟨fun w _ => Blk w N 52 L, fun _ _ _ h k => h.done k⟩

/-! ### the boxes of the law's 'do', beside both logs -/
def Box (w0 : World) (q : Nat) : Prop := q = w0.heap.size ∨ q = w0.heap.size + 1 ∨ q = w0.heap.size + 1 + 1
def SX (S : Nat → Prop) (r : Rm) (w0 : World) (q : Nat) : Prop := S q ∨ r.has q ∨ Box w0 q
structure St (ws w0 w : World) (S : Nat → Prop) (b lb : Nat) (D : Dk) (g k : Nat) (m : Mem) (E : Dk) (r : Rm) (ge ke : Nat) (p : Op3) (ys : List Value) : Prop where
  l : LwM ws S b lb D g k w m
  held : HeldR w r E
  x : Blk w w0.heap.size 52 (lcs E r ge ke)
  o : Blk w (w0.heap.size + 1) 59 (opcs p)
  y : Blk w (w0.heap.size + 1 + 1) 52 ys
  off : ∀ q, r.has q ∨ Box w0 q → ¬ m.has q ∧ q ≠ lb
  offr : ∀ q, Box w0 q → ¬ r.has q
  le : ws.heap.size ≤ w0.heap.size
def threeX (w : World) (x o y : List Value) : World := ((w.alloc (.cells x.toArray 52)).alloc (.cells o.toArray 59)).alloc (.cells y.toArray 52)
section
variable {ws w0 w w' : World} {S : Nat → Prop} {b lb lb' : Nat} {D D' E E' : Dk} {g k g' k' ge ke ge' ke' : Nat} {m m' : Mem} {r r' : Rm} {p : Op3} {ys ys' : List Value}
theorem St.start (h : LwM ws S b lb D g k w0 m) (hr : HeldR w0 r E) (ho : ∀ q, r.has q → ¬ m.has q ∧ q ≠ lb) : St ws w0 (threeX w0 (lcs E r ge ke) (opcs p) zero7) S b lb D g k m E r ge ke p zero7 := by
  have hb : Rb w0 (threeX w0 (lcs E r ge ke) (opcs p) zero7) := (((Below.refl _ _).alloc (Nat.le_refl _) _).alloc (by simp) _).alloc (by simp; omega) _
  have h1 : Blk ((w0.alloc (.cells (lcs E r ge ke).toArray 52)).alloc (.cells (opcs p).toArray 59)) w0.heap.size 52 (lcs E r ge ke) := (Blk.new w0 _ _).same (heap_alloc_old _ _ (by simp))
  have h2 : Blk ((w0.alloc (.cells (lcs E r ge ke).toArray 52)).alloc (.cells (opcs p).toArray 59)) (w0.heap.size + 1) 59 (opcs p) := by
    have := Blk.new (w0.alloc (.cells (lcs E r ge ke).toArray 52)) 59 (opcs p)
    simpa using this
  have hq : ∀ q, Box w0 q → w0.heap.size ≤ q := fun q h => by rcases h with rfl | rfl | rfl <;> omega
  refine ⟨h.rb hb, hr.rb hb, h1.same (heap_alloc_old _ _ (by simp; omega)), h2.same (heap_alloc_old _ _ (by simp)), ?_, fun q hq' => ?_, fun q hq' hh => ?_, h.size⟩
  · have := Blk.new ((w0.alloc (.cells (lcs E r ge ke).toArray 52)).alloc (.cells (opcs p).toArray 59)) 52 zero7
    simpa [threeX] using this
  · rcases hq' with hq' | hq'
    · exact ho q hq'
    · have := hq q hq'
      exact ⟨fun e => by have := h.held.disk.lt q e; omega, fun e => by have := h.held.blk.lt; omega⟩
  · have := hq q hq'
    have := heldR_lt hr q hh
    omega
theorem St.rb (h : St ws w0 w S b lb D g k m E r ge ke p ys) (hb : Rb w w') : St ws w0 w' S b lb D g k m E r ge ke p ys := ⟨h.l.rb hb, h.held.rb hb, h.x.rb hb, h.o.rb hb, h.y.rb hb, h.off, h.offr, h.le⟩
theorem St.lt (h : St ws w0 w S b lb D g k m E r ge ke p ys) : ∀ q, Box w0 q → q < w.heap.size := fun q hq => by
  have := h.y.lt
  rcases hq with rfl | rfl | rfl <;> omega
theorem St.step (h : St ws w0 w S b lb D g k m E r ge ke p ys) : LwM w (SX S r w0) b lb D g k w m := h.l.rebase fun j hj => by
  rcases hj with hj | hj | hj
  · have hs := h.l.s j hj
    exact ⟨Nat.lt_of_lt_of_le hs.1 h.l.size, hs.2.1, h.l.l j hj⟩
  · exact ⟨heldR_lt h.held j hj, h.off j (.inl hj)⟩
  · exact ⟨h.lt j hj, h.off j (.inr hj)⟩
/-- behind a call of the log, or of the disk -/
theorem St.impl (h : St ws w0 w S b lb D g k m E r ge ke p ys) (h' : LwM w (SX S r w0) b lb' D' g' k' w' m') : St ws w0 w' S b lb' D' g' k' m' E r ge ke p ys := by
  have hs := fun j hj => (h'.s j hj).2.2
  refine ⟨⟨h'.hb, h'.held, Nat.le_trans h.l.size h'.size, h'.os.trans h.l.os, h'.tape.trans h.l.tape, h'.output.trans h.l.output, fun j hj => ?_, fun j hj => h'.l j (.inl hj)⟩,
    ⟨h.held.n.same fun q hq => hs q (.inr (.inl (.inl hq))), h.held.s.same fun q hq => hs q (.inr (.inl (.inr hq)))⟩, h.x.same (hs _ (.inr (.inr (.inl rfl)))), h.o.same (hs _ (.inr (.inr (.inr (.inl rfl))))), h.y.same (hs _ (.inr (.inr (.inr (.inr rfl))))),
    fun q hq => ⟨(h'.s q (.inr hq)).2.1, h'.l q (.inr hq)⟩, h.offr, h.le⟩
  have h1 := h.l.s j hj
  have h2 := h'.s j (.inl hj)
  exact ⟨h1.1, h2.2.1, h2.2.2.trans h1.2.2⟩
theorem lwm_wrote {N : Nat} (h : LwM ws S b lb D g k w m) (hw : Wrote N w w') (ho : ¬ m.has N ∧ N ≠ lb) (hN : ws.heap.size ≤ N) : LwM ws S b lb D g k w' m :=
  ⟨h.hb, ⟨h.held.disk.same (by rw [hw.size]; exact Nat.le_refl _) fun q hq => hw.block q fun e => ho.1 (e ▸ hq), h.held.blk.same (hw.block _ fun e => ho.2 e.symm), h.held.off, h.held.hg, h.held.hk⟩, by rw [hw.size]; exact h.size, hw.os.trans h.os, hw.tape.trans h.tape, hw.output.trans h.output, fun j hj => by
    obtain ⟨i1, i2, i3⟩ := h.s j hj
    exact ⟨i1, i2, (hw.block j (by omega)).trans i3⟩, h.l⟩
/-- what a call of the document's log made is apart from the rest -/
theorem St.fresh (h : St ws w0 w S b lb D g k m E r ge ke p ys) (hold : ∀ q, r'.has q → r.has q ∨ w.heap.size ≤ q) : ∀ q, r'.has q → (¬ m.has q ∧ q ≠ lb) ∧ ¬ Box w0 q := fun q hq => by
  rcases hold q hq with hq' | hq'
  · exact ⟨h.off q (.inl hq'), fun e => h.offr q e hq'⟩
  · exact ⟨⟨fun e => by have := h.l.held.disk.lt q e; omega, fun e => by have := h.l.held.blk.lt; omega⟩, fun e => by have := h.lt q e; omega⟩
theorem St.storeX (h : St ws w0 w S b lb D g k m E r ge ke p ys) (hw : Wrote w0.heap.size w w') (hb : Blk w' w0.heap.size 52 (lcs E' r' ge' ke')) (hr : HeldR w r' E') (hf : ∀ q, r'.has q → (¬ m.has q ∧ q ≠ lb) ∧ ¬ Box w0 q) :
    St ws w0 w' S b lb D g k m E' r' ge' ke' p ys :=
  ⟨lwm_wrote h.l hw (h.off _ (.inr (.inl rfl))) h.le, heldR_wrote hr hw fun e => (hf _ e).2 (.inl rfl), hb, h.o.same (hw.block _ (by omega)), h.y.same (hw.block _ (by omega)), fun q hq => by
    rcases hq with hq | hq
    · exact (hf q hq).1
    · exact h.off q (.inr hq), fun q hq e => (hf q e).2 hq, h.le⟩
/-- what 'do' leaves -/
def DoQ (ws : World) (S : Nat → Prop) (b : Nat) (e : Ending) (w' : World) : Prop := ∃ lb D g k m r, e = .returned (.tuple #[.pointer (some ⟨lb, 0, none⟩), Lv D r g k, .bool true]) ∧
  LwM ws S b lb D g k w' m ∧ HeldR w' r D ∧ (∀ q, r.has q → ¬ m.has q ∧ q ≠ lb) ∧ D.log.length + k ≤ D.room
theorem St.fin (h : St ws w0 w S b lb D g k m D r g k p ys) (hw : RN (w0.heap.size + 1 + 1) ys' w w') (hf : D.log.length + k ≤ D.room) : DoQ ws S b (.returned (.tuple #[.pointer (some ⟨lb, 0, none⟩), Lv D r g k, .bool true])) w' := by
  have hN := h.off _ (.inr (.inr (.inr rfl)))
  have hNr := h.offr _ (.inr (.inr rfl))
  have hle := h.le
  have hsz := h.l.size
  refine ⟨lb, D, g, k, m, r, rfl, ⟨h.l.hb, ⟨h.l.held.disk.same hw.size fun q hq => hw.block q (h.l.held.disk.lt q hq) fun e => hN.1 (e ▸ hq), hw.blk' h.l.held.blk fun e => hN.2 e.symm, h.l.held.off, h.l.held.hg, h.l.held.hk⟩, Nat.le_trans h.l.size hw.size, hw.os.trans h.l.os, hw.tape.trans h.l.tape, hw.output.trans h.l.output, fun j hj => ?_, h.l.l⟩,
    ⟨h.held.n.same fun q hq => hw.block q (h.held.n.lt q hq) fun e => hNr (.inl (e ▸ hq)), h.held.s.same fun q hq => hw.block q (h.held.s.lt q hq) fun e => hNr (.inr (e ▸ hq))⟩, fun q hq => h.off q (.inl hq), hf⟩
  obtain ⟨i1, i2, i3⟩ := h.l.s j hj
  exact ⟨i1, i2, (hw.block j (by omega) (by omega)).trans i3⟩
end
end Go.Proofs.Ytbdgdmieggpmhaa.L4
