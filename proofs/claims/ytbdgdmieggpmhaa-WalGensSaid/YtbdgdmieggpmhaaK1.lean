/-
  Layer 3, words: blocks known whole, what a store leaves, what a value leads to; the disk and the document's disk in memory.
-/
import Derived.Test.YtbdgdmieggpmhaaRegTools
import Derived.Test.YtbdgdmieggpmhaaChecked
import Derived.WalkKit
import Derived.ProofKit
import Derived.Outline
import Derived.Lib.Hide
import Derived.LoopTactic
import Derived.WalkSpells
import Derived.WalkLawsBesides
import Derived.Laws.CopyOwn
import Derived.Laws.Tables
import Derived.Deep.OwnRows
import Derived.Deep.Onto
namespace Go.Proofs.Ytbdgdmieggpmhaa.L3
open Go.ChangeShapes Go.WideShapes Go.ChangeAt Go.RowKit By Reg
set_option linter.unusedVariables false

/-! ### the disk, by itself -/
structure Dk where
  room : Nat
  sure : List UInt8
  rest : List UInt8
  n0 : List UInt8
  n1 : List UInt8
  s0 : List UInt8
  s1 : List UInt8

namespace Dk
def log (D : Dk) : List UInt8 := D.sure ++ D.rest
def new (r : Nat) : Dk := ⟨r, [], [], [], [], [], []⟩
def sync (D : Dk) : Dk := ⟨D.room, D.sure ++ D.rest, [], D.n0, D.n1, D.n0, D.n1⟩
def clear (D : Dk) : Dk := ⟨D.room, [], [], D.n0, D.n1, D.s0, D.s1⟩
def crash (D : Dk) (k : Nat) : Dk := ⟨D.room, D.sure ++ D.rest.take k, [], D.s0, D.s1, D.s0, D.s1⟩
def append (D : Dk) (b : List UInt8) : Dk := ⟨D.room, D.sure, D.rest ++ b, D.n0, D.n1, D.s0, D.s1⟩
def write0 (D : Dk) (b : List UInt8) : Dk := ⟨D.room, D.sure, D.rest, b, D.n1, D.s0, D.s1⟩
def write1 (D : Dk) (b : List UInt8) : Dk := ⟨D.room, D.sure, D.rest, D.n0, b, D.s0, D.s1⟩
def Ok (D : Dk) : Prop := D.log.length ≤ D.room ∧ D.room ≤ 1048576 ∧ D.n0.length ≤ 1000 ∧ D.n1.length ≤ 1000 ∧ D.s0.length ≤ 1000 ∧ D.s1.length ≤ 1000

theorem log_len (D : Dk) : D.log.length = D.sure.length + D.rest.length := by simp [log]
theorem new_ok {r : Nat} (h : r ≤ 1048576) : (new r).Ok := by simp [Ok, new, log, h]
theorem sync_ok {D : Dk} (h : D.Ok) : D.sync.Ok := by
  obtain ⟨h1, h2, h3, h4, h5, h6⟩ := h
  refine ⟨?_, h2, h3, h4, h3, h4⟩
  simpa [sync, log] using h1
theorem clear_ok {D : Dk} (h : D.Ok) : D.clear.Ok := by
  obtain ⟨h1, h2, h3, h4, h5, h6⟩ := h
  exact ⟨by simp [clear, log], h2, h3, h4, h5, h6⟩
theorem crash_ok {D : Dk} (h : D.Ok) (k : Nat) : (D.crash k).Ok := by
  obtain ⟨h1, h2, h3, h4, h5, h6⟩ := h
  rw [log_len] at h1
  refine ⟨?_, h2, h5, h6, h5, h6⟩
  have := List.length_take_le k D.rest
  have : (D.crash k).log.length = D.sure.length + (D.rest.take k).length := by simp [crash, log]
  have e : (D.rest.take k).length ≤ D.rest.length := by rw [List.length_take]; omega
  rw [this]
  show _ ≤ D.room
  omega
theorem append_ok {D : Dk} (h : D.Ok) {b : List UInt8} (hb : D.log.length + b.length ≤ D.room) : (D.append b).Ok := by
  obtain ⟨h1, h2, h3, h4, h5, h6⟩ := h
  refine ⟨?_, h2, h3, h4, h5, h6⟩
  rw [log_len] at hb
  have : (D.append b).log.length = D.sure.length + (D.rest.length + b.length) := by simp [append, log]
  rw [this]
  show _ ≤ D.room
  omega
theorem write0_ok {D : Dk} (h : D.Ok) {b : List UInt8} (hb : b.length ≤ 1000) : (D.write0 b).Ok := by
  obtain ⟨h1, h2, h3, h4, h5, h6⟩ := h
  exact ⟨h1, h2, hb, h4, h5, h6⟩
theorem write1_ok {D : Dk} (h : D.Ok) {b : List UInt8} (hb : b.length ≤ 1000) : (D.write1 b).Ok := by
  obtain ⟨h1, h2, h3, h4, h5, h6⟩ := h
  exact ⟨h1, h2, h3, hb, h5, h6⟩
end Dk

/-! ### blocks known whole -/
def Blk (w : World) (N : Nat) (T : TypeId) (cs : List Value) : Prop := w.heap[N]? = some (.cells cs.toArray T (0, 0))

namespace Blk
variable {w w' : World} {N : Nat} {T : TypeId} {cs : List Value}
theorem lt (h : Blk w N T cs) : N < w.heap.size := (Array.getElem?_eq_some_iff.1 h).1
theorem cell (h : Blk w N T cs) (i : Nat) : w.cell? ⟨N, i, none⟩ = cs[i]? := by
  unfold Blk at h
  rw [cell_of_row w N i cs.toArray T (0, 0) h]
  simp
theorem frozen (h : Blk w N T cs) (i : Nat) : w.frozen? ⟨N, i, none⟩ = false := by
  unfold Blk at h
  simp [World.frozen?, h]
theorem new (w : World) (T : TypeId) (cs : List Value) : Blk (w.alloc (.cells cs.toArray T)) w.heap.size T cs := heap_alloc_new w _
theorem same (h : Blk w N T cs) (e : w'.heap[N]? = w.heap[N]?) : Blk w' N T cs := e.trans h
theorem rb (h : Blk w N T cs) (hb : Rb w w') : Blk w' N T cs := h.same (hb.block N h.lt)
end Blk

/-- only block N may have turned -/
structure Wrote (N : Nat) (w w' : World) : Prop where
  os : w'.os = w.os
  tape : w'.tape = w.tape
  output : w'.output = w.output
  size : w'.heap.size = w.heap.size
  block : ∀ k, k ≠ N → w'.heap[k]? = w.heap[k]?

theorem Wrote.trans {N : Nat} {a b c : World} (h : Wrote N a b) (k : Wrote N b c) : Wrote N a c :=
  ⟨k.os.trans h.os, k.tape.trans h.tape, k.output.trans h.output, k.size.trans h.size, fun i hi => (k.block i hi).trans (h.block i hi)⟩

theorem Wrote.below {N B : Nat} {a b c : World} (h : Below B a b) (k : Wrote N b c) (hN : B ≤ N) : Below B a c :=
  h.trans ⟨k.os, k.tape, k.output, by rw [k.size]; exact Nat.le_refl _, fun i hi => k.block i (by omega)⟩

theorem wrote_setRow (w : World) (N : Nat) (cs : Array Value) : Wrote N w (w.setRow N cs) :=
  ⟨rfl, rfl, rfl, by simp [World.setRow], fun k hk => setRow_other w N k cs hk⟩

section
variable {P : Program} {w : World} {ops : Array Oper} {rest : List Oper} {o : Oper} {a : Act} {Q : Exit → Act → World → Prop}
theorem run_store_blk {N off : Nat} {T ty : TypeId} {cs vs : List Value} {v : Value} (hb : Blk w N T cs) (hv : v.cells = vs.toArray) (hs : (P.info? ty).map (·.size) = some vs.length) (hl : off + vs.length ≤ cs.length) (h1 : ∀ v ∈ vs, v.oneCell' = true) :
    ∃ w', (Instr.storeAt ty (.pointer (some ⟨N, off, none⟩)) v).run P w = .ok () w' ∧ Blk w' N T (cs.take off ++ vs ++ cs.drop (off + vs.length)) ∧ Wrote N w w' := by
  have hr := run_storeCells_at P N off T vs 0 cs.toArray w hb (by simpa using hl) h1
  simp only [Nat.add_zero] at hr
  refine ⟨_, ?_, setRow_heap w N _ _ T (0, 0) hb, wrote_setRow w N _⟩
  cases hi : P.info? ty with
  | none => simp [hi] at hs
  | some i =>
    have hi' : i.size = vs.length := by simpa [hi] using hs
    simp [Instr.storeAt, Instr.sureAddr, storeVar, sizeOf, typeInfo, hi, hv, hi', hr, Result.andThen]

/-- a store into a block known whole -/
theorem wpList_store (hg : o.guard = none) (ty : TypeId) (x y : Operand) (ho : o.op = .store ty x y) (N off : Nat) (T : TypeId) (cs vs : List Value) (v : Value) (hx : a.eval x = .pointer (some ⟨N, off, none⟩)) (hy : a.eval y = v)
    (hb : Blk w N T cs) (hv : v.cells = vs.toArray) (hs : (P.info? ty).map (·.size) = some vs.length) (hl : off + vs.length ≤ cs.length) (h1 : ∀ v ∈ vs, v.oneCell' = true)
    (hK : ∀ w', Blk w' N T (cs.take off ++ vs ++ cs.drop (off + vs.length)) → Wrote N w w' → wpList P ops Q rest (a.put o.dst undef) w') : wpList P ops Q (o :: rest) a w := by
  obtain ⟨w', hr, h2, h3⟩ := run_store_blk (P := P) (v := v) hb hv hs hl h1
  refine wpList_plain hg fun K hK' => ?_
  unfold Oper.wp
  simp only [execOp, ho, hx, hy, Sem.run_bind, hr]
  exact hK' _ _ (hK w' h2 h3)
end

/-! ### what a disk leads to -/
structure Mem where
  b : Nat
  lv : Value
  v0 : Value
  v1 : Value
  u0 : Value
  u1 : Value

/-- the blocks that a call may turn -/
def Mem.touch (m : Mem) (k : Nat) : Prop := k = m.b ∨ m.lv.ownBlock = some k
def VOff (m : Mem) (v : Value) : Prop := ∀ k, v.ownBlock = some k → ¬ m.touch k
/-- all its blocks -/
def Mem.has (m : Mem) (k : Nat) : Prop := m.touch k ∨ m.v0.ownBlock = some k ∨ m.v1.ownBlock = some k ∨ m.u0.ownBlock = some k ∨ m.u1.ownBlock = some k

structure Kp (m : Mem) (w w' : World) : Prop where
  os : w'.os = w.os
  tape : w'.tape = w.tape
  output : w'.output = w.output
  size : w.heap.size ≤ w'.heap.size
  block : ∀ k, k < w.heap.size → ¬ m.touch k → w'.heap[k]? = w.heap[k]?

/-- the log's row is the one that it was, or a new one -/
def New (w : World) (m m' : Mem) : Prop := m'.b = m.b ∧ ∀ k, m'.lv.ownBlock = some k → m.lv.ownBlock = some k ∨ w.heap.size ≤ k

theorem New.refl (w : World) (m : Mem) : New w m m := ⟨rfl, fun _ h => .inl h⟩
theorem New.touch {w : World} {m m' : Mem} (h : New w m m') {k : Nat} (hk : m'.touch k) : m.touch k ∨ w.heap.size ≤ k := by
  rcases hk with rfl | hk
  · exact .inl (.inl h.1)
  · rcases h.2 k hk with h | h
    · exact .inl (.inr h)
    · exact .inr h
theorem New.trans {w w1 : World} {m m1 m2 : Mem} (h : New w m m1) (hs : w.heap.size ≤ w1.heap.size) (k : New w1 m1 m2) : New w m m2 := by
  refine ⟨k.1.trans h.1, fun i hi => ?_⟩
  rcases k.2 i hi with hi | hi
  · exact h.2 i hi
  · exact .inr (by omega)
theorem New.off {w : World} {m m' : Mem} (h : New w m m') {v : Value} (hv : VOff m v) (hl : ∀ k, v.ownBlock = some k → k < w.heap.size) : VOff m' v := fun k hk ht => by
  rcases h.touch ht with h | h
  · exact hv k hk h
  · have := hl k hk; omega

theorem Kp.refl (m : Mem) (w : World) : Kp m w w := ⟨rfl, rfl, rfl, Nat.le_refl _, fun _ _ _ => rfl⟩
theorem Kp.of_rb {m : Mem} {w w' : World} (h : Rb w w') : Kp m w w' := ⟨h.os, h.tape, h.output, h.size, fun k hk _ => h.block k hk⟩
theorem Kp.trans {m m1 : Mem} {w w1 w2 : World} (h : Kp m w w1) (hn : New w m m1) (k : Kp m1 w1 w2) : Kp m w w2 :=
  ⟨k.os.trans h.os, k.tape.trans h.tape, k.output.trans h.output, Nat.le_trans h.size k.size, fun i hi ht => by
    rw [k.block i (Nat.lt_of_lt_of_le hi h.size) (fun h' => by rcases hn.touch h' with h' | h'; exact ht h'; omega), h.block i hi ht]⟩
theorem Kp.wrote {m : Mem} {w w1 w2 : World} {N : Nat} (h : Kp m w w1) (k : Wrote N w1 w2) (hN : m.touch N ∨ w.heap.size ≤ N) : Kp m w w2 :=
  ⟨k.os.trans h.os, k.tape.trans h.tape, k.output.trans h.output, by rw [k.size]; exact h.size, fun i hi ht => by
    rw [k.block i (fun e => by subst e; rcases hN with h' | h'; exact ht h'; omega), h.block i hi ht]⟩
theorem Kp.rb {m : Mem} {w w1 w2 : World} (h : Kp m w w1) (k : Rb w1 w2) : Kp m w w2 := h.trans (New.refl w m) (Kp.of_rb k)
theorem Kp.below {m : Mem} {w w' : World} {B : Nat} (h : Kp m w w') (hB : B ≤ w.heap.size) (ht : ∀ k, m.touch k → B ≤ k) : Below B w w' :=
  ⟨h.os, h.tape, h.output, h.size, fun k hk => h.block k (by omega) (fun h' => by have := ht k h'; omega)⟩

theorem Bs.same {w w' : World} {v : Value} {xs : List UInt8} (h : Bs w v xs) (e : ∀ k, v.ownBlock = some k → w'.heap[k]? = w.heap[k]?) : Bs w' v xs := by
  obtain ⟨ao, cap, rfl, h2, h3, h4, h5⟩ := h
  refine ⟨ao, cap, rfl, h2, h3, h4, fun ad ha j u hu => ?_⟩
  subst ha
  have hc := h5 ad rfl j u hu
  have hb : (ad.add j).block = ad.block := by unfold Addr.add; split <;> rfl
  rw [World.cell?_of_block (w := w) (w' := w') (by rw [hb]; exact e ad.block rfl)]
  exact hc
theorem Bs.lt {w : World} {v : Value} {xs : List UInt8} (h : Bs w v xs) (hn : 0 < xs.length) : ∀ k, v.ownBlock = some k → k < w.heap.size := by
  obtain ⟨b, o, cap, rfl, _, _, h5⟩ := h.form hn
  intro k hk
  simp [Value.ownBlock] at hk
  subst hk
  exact World.block_lt_of_cell? w _ (h5 0 hn)

theorem owns_same {w w' : World} {B : Nat} {e : TypeId} {s : Nat} {v : Value} {n : Nat} {xs : List Value} (h : w.ownsRow B e s v n xs) (hb : ∀ k, v.ownBlock = some k → w'.heap[k]? = w.heap[k]?) : w'.ownsRow B e s v n xs := by
  refine ⟨h.1, ?_⟩
  rcases h.2 with h0 | ⟨g, cap, cur, rfl, h2, h3, h4⟩
  · exact .inl h0
  · exact .inr ⟨g, cap, cur, rfl, h2, by rw [hb g rfl]; exact h3, h4⟩

/-- a disk in memory -/
structure HeldK (w : World) (m : Mem) (D : Dk) : Prop where
  blk : Blk w m.b 93 [.int .i64 D.room, m.lv, .int .i64 D.sure.length, m.v0, m.v1, m.u0, m.u1]
  own : w.ownsRow 0 5 1 m.lv D.log.length (D.log.map c8)
  ne : m.lv.ownBlock ≠ some m.b
  b0 : Bs w m.v0 D.n0
  b1 : Bs w m.v1 D.n1
  c0 : Bs w m.u0 D.s0
  c1 : Bs w m.u1 D.s1
  o0 : VOff m m.v0
  o1 : VOff m m.v1
  q0 : VOff m m.u0
  q1 : VOff m m.u1
  lt : ∀ k, m.has k → k < w.heap.size
  ok : D.Ok

theorem HeldK.same {w w' : World} {m : Mem} {D : Dk} (h : HeldK w m D) (hs : w.heap.size ≤ w'.heap.size) (e : ∀ k, m.has k → w'.heap[k]? = w.heap[k]?) : HeldK w' m D where
  blk := h.blk.same (e _ (.inl (.inl rfl)))
  own := owns_same h.own fun k hk => e k (.inl (.inr hk))
  ne := h.ne
  b0 := Bs.same h.b0 fun k hk => e k (.inr (.inl hk))
  b1 := Bs.same h.b1 fun k hk => e k (.inr (.inr (.inl hk)))
  c0 := Bs.same h.c0 fun k hk => e k (.inr (.inr (.inr (.inl hk))))
  c1 := Bs.same h.c1 fun k hk => e k (.inr (.inr (.inr (.inr hk))))
  o0 := h.o0
  o1 := h.o1
  q0 := h.q0
  q1 := h.q1
  lt := fun k hk => Nat.lt_of_lt_of_le (h.lt k hk) hs
  ok := h.ok
theorem HeldK.rb {w w' : World} {m : Mem} {D : Dk} (h : HeldK w m D) (hb : Rb w w') : HeldK w' m D := h.same hb.size fun k hk => hb.block k (h.lt k hk)
/-- another disk is as it was -/
theorem HeldK.kp {w w' : World} {m m1 : Mem} {D : Dk} (h : HeldK w m1 D) (hk : Kp m w w') (ha : ∀ k, m1.has k → ¬ m.touch k) : HeldK w' m1 D := h.same hk.size fun k h' => hk.block k (h.lt k h') (ha k h')

/-! ### the document's disk -/
structure Rm where
  nv : Value
  sv : Value
abbrev refv (D : Dk) (r : Rm) : Value := .agg #[.int .i64 D.room, .string (str D.sure), .string (str D.rest), r.nv, r.sv]
abbrev refcs (D : Dk) (r : Rm) : List Value := [.int .i64 D.room, .string (str D.sure), .string (str D.rest), r.nv, r.sv]
/-- a slice of two texts -/
def Ss (w : World) (v : Value) (x y : List UInt8) : Prop := ∃ g cap, v = .slice (some ⟨g, 0, none⟩) 2 cap ∧ 2 ≤ cap ∧ cap ≤ maxLen ∧ w.cell? ⟨g, 0, none⟩ = some (.string (str x)) ∧ w.cell? ⟨g, 1, none⟩ = some (.string (str y))
theorem Ss.lt {w : World} {v : Value} {x y : List UInt8} (h : Ss w v x y) : ∀ k, v.ownBlock = some k → k < w.heap.size := by
  obtain ⟨g, cap, rfl, _, _, h1, _⟩ := h
  intro k hk
  simp [Value.ownBlock] at hk
  subst hk
  exact World.block_lt_of_cell? w _ h1
theorem Ss.same {w w' : World} {v : Value} {x y : List UInt8} (h : Ss w v x y) (e : ∀ k, v.ownBlock = some k → w'.heap[k]? = w.heap[k]?) : Ss w' v x y := by
  obtain ⟨g, cap, rfl, h0, hm, h1, h2⟩ := h
  have hg := e g rfl
  exact ⟨g, cap, rfl, h0, hm, by rw [World.cell?_of_block (w := w) (w' := w') (a := ⟨g, 0, none⟩) hg]; exact h1, by rw [World.cell?_of_block (w := w) (w' := w') (a := ⟨g, 1, none⟩) hg]; exact h2⟩
theorem Ss.rb {w w' : World} {v : Value} {x y : List UInt8} (h : Ss w v x y) (hb : Rb w w') : Ss w' v x y := h.same fun k hk => hb.block k (h.lt k hk)
structure HeldR (w : World) (r : Rm) (D : Dk) : Prop where
  n : Ss w r.nv D.n0 D.n1
  s : Ss w r.sv D.s0 D.s1
theorem HeldR.rb {w w' : World} {r : Rm} {D : Dk} (h : HeldR w r D) (hb : Rb w w') : HeldR w' r D := ⟨h.n.rb hb, h.s.rb hb⟩
def ROff (m : Mem) (r : Rm) : Prop := VOff m r.nv ∧ VOff m r.sv
theorem HeldR.kp {w w' : World} {m : Mem} {r : Rm} {D : Dk} (h : HeldR w r D) (hk : Kp m w w') (ho : ROff m r) : HeldR w' r D :=
  ⟨h.n.same fun k h' => hk.block k (h.n.lt k h') (ho.1 k h'), h.s.same fun k h' => hk.block k (h.s.lt k h') (ho.2 k h')⟩
theorem HeldR.off {w : World} {m m' : Mem} {r : Rm} {D : Dk} (h : HeldR w r D) (hn : New w m m') (ho : ROff m r) : ROff m' r := ⟨hn.off ho.1 h.n.lt, hn.off ho.2 h.s.lt⟩
end Go.Proofs.Ytbdgdmieggpmhaa.L3
