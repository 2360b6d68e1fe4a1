/-
  Layer 6, words: blocks known whole, what a store leaves, what may have turned.
-/
import Derived.Test.YtolfeellcdoopaaDoorS1
namespace Go.Proofs.YtolfeellcdoopaaDoor.L6
open Go.ChangeShapes Go.WideShapes Go.ChangeAt Go.RowKit Oct By Reg Val
set_option linter.unusedVariables false

/-! ### blocks known whole -/
def Blk (w : World) (N : Nat) (T : TypeId) (cs : List Value) : Prop := w.heap[N]? = some (.cells cs.toArray T (0, 0))

namespace Blk
variable {w w' : World} {N : Nat} {T : TypeId} {cs : List Value}
theorem lt (h : Blk w N T cs) : N < w.heap.size := (Array.getElem?_eq_some_iff.1 h).1
theorem cell (h : Blk w N T cs) (i : Nat) : w.cell? ⟨N, i, none⟩ = cs[i]? := by
  unfold Blk at h
  rw [cell_of_row w N i cs.toArray T (0, 0) h]
  simp
theorem frozen (h : Blk w N T cs) (i : Nat) : w.frozen? ⟨N, i, none⟩ = false := by
  unfold Blk at h
  simp [World.frozen?, h]
theorem shape (h : Blk w N T cs) : w.shape? N = some (T, cs.length) := by
  unfold Blk at h
  simp [World.shape?, h]
theorem new (w : World) (T : TypeId) (cs : List Value) : Blk (w.alloc (.cells cs.toArray T)) w.heap.size T cs := heap_alloc_new w _
theorem same (h : Blk w N T cs) (e : w'.heap[N]? = w.heap[N]?) : Blk w' N T cs := e.trans h
theorem rb (h : Blk w N T cs) (hb : Rb w w') : Blk w' N T cs := h.same (hb.block N h.lt)
theorem inj {T' : TypeId} {cs' : List Value} (h : Blk w N T cs) (h' : Blk w N T' cs') : T = T' ∧ cs = cs' := by
  unfold Blk at h h'
  rw [h] at h'
  simp only [Option.some.injEq, Obj.cells.injEq] at h'
  exact ⟨h'.2.1, by simpa using h'.1⟩
end Blk

/-- only block N may have turned -/
structure Wrote (N : Nat) (w w' : World) : Prop where
  os : w'.os = w.os
  tape : w'.tape = w.tape
  output : w'.output = w.output
  size : w'.heap.size = w.heap.size
  block : ∀ k, k ≠ N → w'.heap[k]? = w.heap[k]?

theorem Wrote.trans {N : Nat} {a b c : World} (h : Wrote N a b) (k : Wrote N b c) : Wrote N a c :=
  ⟨k.os.trans h.os, k.tape.trans h.tape, k.output.trans h.output, k.size.trans h.size, fun i hi => (k.block i hi).trans (h.block i hi)⟩

theorem wrote_setRow (w : World) (N : Nat) (cs : Array Value) : Wrote N w (w.setRow N cs) :=
  ⟨rfl, rfl, rfl, by simp [World.setRow], fun k hk => setRow_other w N k cs hk⟩

section
variable {P : Program} {w : World} {ops : Array Oper} {rest : List Oper} {o : Oper} {a : Act} {Q : Exit → Act → World → Prop}
theorem run_store_blk {N off : Nat} {T ty : TypeId} {cs vs : List Value} {v : Value} (hb : Blk w N T cs) (hv : v.cells = vs.toArray) (hs : (P.info? ty).map (·.size) = some vs.length) (hl : off + vs.length ≤ cs.length) (h1 : ∀ v ∈ vs, v.oneCell' = true) :
    ∃ w', (Instr.storeAt ty (.pointer (some ⟨N, off, none⟩)) v).run P w = .ok () w' ∧ Blk w' N T (cs.take off ++ vs ++ cs.drop (off + vs.length)) ∧ Wrote N w w' := by
  have hr := run_storeCells_at P N off T vs 0 cs.toArray w hb (by simpa using hl) h1
  simp only [Nat.add_zero] at hr
  refine ⟨_, ?_, setRow_heap w N _ _ T (0, 0) hb, wrote_setRow w N _⟩
  cases hi : P.info? ty with
  | none => simp [hi] at hs
  | some i =>
    have hi' : i.size = vs.length := by simpa [hi] using hs
    simp [Instr.storeAt, Instr.sureAddr, storeVar, sizeOf, typeInfo, hi, hv, hi', hr, Result.andThen]

/-- a store into a block known whole -/
theorem wpList_store (hg : o.guard = none) (ty : TypeId) (x y : Operand) (ho : o.op = .store ty x y) (N off : Nat) (T : TypeId) (cs vs : List Value) (v : Value) (hx : a.eval x = .pointer (some ⟨N, off, none⟩)) (hy : a.eval y = v)
    (hb : Blk w N T cs) (hv : v.cells = vs.toArray) (hs : (P.info? ty).map (·.size) = some vs.length) (hl : off + vs.length ≤ cs.length) (h1 : ∀ v ∈ vs, v.oneCell' = true)
    (hK : ∀ w', Blk w' N T (cs.take off ++ vs ++ cs.drop (off + vs.length)) → Wrote N w w' → wpList P ops Q rest (a.put o.dst undef) w') : wpList P ops Q (o :: rest) a w := by
  obtain ⟨w', hr, h2, h3⟩ := run_store_blk (P := P) (v := v) hb hv hs hl h1
  refine wpList_plain hg fun K hK' => ?_
  unfold Oper.wp
  simp only [execOp, ho, hx, hy, Sem.run_bind, hr]
  exact hK' _ _ (hK w' h2 h3)
end

/-! ### what may have turned -/
structure Fr (F : Nat → Prop) (w w' : World) : Prop where
  os : w'.os = w.os
  tape : w'.tape = w.tape
  output : w'.output = w.output
  size : w.heap.size ≤ w'.heap.size
  block : ∀ k, k < w.heap.size → ¬ F k → w'.heap[k]? = w.heap[k]?

namespace Fr
variable {F G : Nat → Prop} {w w1 w2 : World}
theorem refl (F : Nat → Prop) (w : World) : Fr F w w := ⟨rfl, rfl, rfl, Nat.le_refl _, fun _ _ _ => rfl⟩
theorem of_rb (h : Rb w w1) : Fr F w w1 := ⟨h.os, h.tape, h.output, h.size, fun k hk _ => h.block k hk⟩
theorem rb (h : Fr F w w1) (hF : ∀ k, F k → w.heap.size ≤ k) : Rb w w1 := ⟨h.os, h.tape, h.output, h.size, fun k hk => h.block k hk fun hf => by have := hF k hf; omega⟩
theorem trans (h : Fr F w w1) (k : Fr G w1 w2) (hG : ∀ k, G k → F k ∨ w.heap.size ≤ k) : Fr F w w2 :=
  ⟨k.os.trans h.os, k.tape.trans h.tape, k.output.trans h.output, Nat.le_trans h.size k.size, fun i hi hf =>
    (k.block i (Nat.lt_of_lt_of_le hi h.size) fun hg => by rcases hG i hg with h' | h'; exact hf h'; omega).trans (h.block i hi hf)⟩
theorem mono (h : Fr F w w1) (hG : ∀ k, F k → k < w.heap.size → G k) : Fr G w w1 := ⟨h.os, h.tape, h.output, h.size, fun k hk hg => h.block k hk fun hf => hg (hG k hf hk)⟩
theorem grown (h : Fr F w w1) {row : Option Nat} (hg : w1.grownBy w2 row) (hr : ∀ k, row = some k → F k ∨ w.heap.size ≤ k) : Fr F w w2 :=
  h.trans (G := fun k => row = some k) ⟨hg.os, hg.tape, hg.output, hg.size, fun k hk hf => hg.block k hk fun e => hf e.symm⟩ hr
theorem wrote (h : Fr F w w1) {N : Nat} (hw : Wrote N w1 w2) (hN : F N ∨ w.heap.size ≤ N) : Fr F w w2 :=
  h.trans (G := fun k => k = N) ⟨hw.os, hw.tape, hw.output, by rw [hw.size]; exact Nat.le_refl _, fun k _ hf => hw.block k hf⟩ (fun k e => by subst e; exact hN)
theorem then_rb (h : Fr F w w1) (k : Rb w1 w2) : Fr F w w2 := h.trans (G := fun _ => False) (of_rb k) (fun _ h => h.elim)
theorem alloc (h : Fr F w w1) (o : Obj) : Fr F w (w1.alloc o) := h.then_rb ((Below.refl _ w1).alloc (Nat.le_refl _) o)
theorem drew (h : Fr F w w1) : Fr F w w1.drew := h.then_rb (Rb.drew w1)
end Fr


theorem Blk.c3 {w : World} {N : Nat} {T : TypeId} {a b c : Value} (h : Blk w N T [a, b, c]) : w.cell? ⟨N, 0, none⟩ = some a ∧ w.cell? ⟨N, 1, none⟩ = some b ∧ w.cell? ⟨N, 2, none⟩ = some c :=
  ⟨h.cell 0, h.cell 1, h.cell 2⟩
theorem Wrote.rb_new {w w1 : World} {o : Obj} (h : Wrote w.heap.size (w.alloc o) w1) : Rb w w1 := by
  have ha : Rb w (w.alloc o) := (Below.refl _ w).alloc (Nat.le_refl _) o
  refine ⟨h.os.trans ha.os, h.tape.trans ha.tape, h.output.trans ha.output, ?_, fun k hk => ?_⟩
  · rw [h.size]; exact ha.size
  · rw [h.block k (by omega)]; exact ha.block k hk
theorem sizeT : (Tryd.prog.info? 25).map (·.size) = some 3 := by kernel_rfl
theorem sizeC : (Tryd.prog.info? 57).map (·.size) = some 3 := by kernel_rfl
theorem sizeV : (Tryd.prog.info? 70).map (·.size) = some 3 := by kernel_rfl
theorem oneT (a : ByteArray) (b : Int) (o : Option Addr) (n c : Nat) : ∀ v ∈ [Value.string a, .int .i64 b, .slice o n c], v.oneCell' = true := by
  intro v hv; simp at hv; rcases hv with rfl | rfl | rfl <;> rfl
theorem oneC (a : ByteArray) (b c : Int) : ∀ v ∈ [Value.string a, .int .i64 b, .int .i64 c], v.oneCell' = true := by
  intro v hv; simp at hv; rcases hv with rfl | rfl | rfl <;> rfl
theorem oneV (a : ByteArray) (b c : Int) : ∀ v ∈ [Value.int .i64 b, .int .i64 c, .string a], v.oneCell' = true := by
  intro v hv; simp at hv; rcases hv with rfl | rfl | rfl <;> rfl
theorem infoV3 : (Tryd.prog.info? 70).map (fun i => (i.zero, i.size, i.bytes)) = some (some (.agg #[.int .i64 0, .int .i64 0, .string ⟨#[]⟩]), 3, 32) := by kernel_rfl
end Go.Proofs.YtolfeellcdoopaaDoor.L6
