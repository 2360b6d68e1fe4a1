/-
  Layer 3 (disk): all its texts as one.
-/
import Derived.Test.YtbdgdmieggpmhaaL1
import Derived.Test.YtbdgdmieggpmhaaChecked
import Derived.WalkKit
import Derived.ProofKit
import Derived.Outline
import Derived.Lib.Hide
import Derived.LoopTactic
import Derived.WalkSpells
import Derived.WalkLawsBesides
import Derived.Laws.CopyOwn
import Derived.Laws.Tables
import Derived.Deep.OwnRows
import Derived.Deep.Onto
import Derived.BigQuiet
import Derived.Deep.QuietTactic
import Derived.IntWalk
import Derived.StillTailTactics
import Derived.ArgAppend
import Derived.Laws.AppendOwnNone
import Derived.Deep.RegionWith
import Derived.Deep.Cut
import Derived.Deep.DeepCutAuto
namespace Go.Proofs.Ytbdgdmieggpmhaa.L3
open Go.ChangeShapes Go.WideShapes Go.ChangeAt Go.RowKit By Reg
set_option linter.unusedVariables false

/-! ### the disk, by itself -/
structure Dk where
  room : Nat
  sure : List UInt8
  rest : List UInt8
  n0 : List UInt8
  n1 : List UInt8
  s0 : List UInt8
  s1 : List UInt8

namespace Dk
def log (D : Dk) : List UInt8 := D.sure ++ D.rest
def new (r : Nat) : Dk := ⟨r, [], [], [], [], [], []⟩
def sync (D : Dk) : Dk := ⟨D.room, D.sure ++ D.rest, [], D.n0, D.n1, D.n0, D.n1⟩
def clear (D : Dk) : Dk := ⟨D.room, [], [], D.n0, D.n1, D.s0, D.s1⟩
def crash (D : Dk) (k : Nat) : Dk := ⟨D.room, D.sure ++ D.rest.take k, [], D.s0, D.s1, D.s0, D.s1⟩
def append (D : Dk) (b : List UInt8) : Dk := ⟨D.room, D.sure, D.rest ++ b, D.n0, D.n1, D.s0, D.s1⟩
def write0 (D : Dk) (b : List UInt8) : Dk := ⟨D.room, D.sure, D.rest, b, D.n1, D.s0, D.s1⟩
def write1 (D : Dk) (b : List UInt8) : Dk := ⟨D.room, D.sure, D.rest, D.n0, b, D.s0, D.s1⟩
def Ok (D : Dk) : Prop := D.log.length ≤ D.room ∧ D.room ≤ 1048576 ∧ D.n0.length ≤ 1000 ∧ D.n1.length ≤ 1000 ∧ D.s0.length ≤ 1000 ∧ D.s1.length ≤ 1000

theorem log_len (D : Dk) : D.log.length = D.sure.length + D.rest.length := by simp [log]
theorem new_ok {r : Nat} (h : r ≤ 1048576) : (new r).Ok := by simp [Ok, new, log, h]
theorem sync_ok {D : Dk} (h : D.Ok) : D.sync.Ok := by
  obtain ⟨h1, h2, h3, h4, h5, h6⟩ := h
  refine ⟨?_, h2, h3, h4, h3, h4⟩
  simpa [sync, log] using h1
theorem clear_ok {D : Dk} (h : D.Ok) : D.clear.Ok := by
  obtain ⟨h1, h2, h3, h4, h5, h6⟩ := h
  exact ⟨by simp [clear, log], h2, h3, h4, h5, h6⟩
theorem crash_ok {D : Dk} (h : D.Ok) (k : Nat) : (D.crash k).Ok := by
  obtain ⟨h1, h2, h3, h4, h5, h6⟩ := h
  rw [log_len] at h1
  refine ⟨?_, h2, h5, h6, h5, h6⟩
  have := List.length_take_le k D.rest
  have : (D.crash k).log.length = D.sure.length + (D.rest.take k).length := by simp [crash, log]
  have e : (D.rest.take k).length ≤ D.rest.length := by rw [List.length_take]; omega
  rw [this]
  show _ ≤ D.room
  omega
theorem append_ok {D : Dk} (h : D.Ok) {b : List UInt8} (hb : D.log.length + b.length ≤ D.room) : (D.append b).Ok := by
  obtain ⟨h1, h2, h3, h4, h5, h6⟩ := h
  refine ⟨?_, h2, h3, h4, h5, h6⟩
  rw [log_len] at hb
  have : (D.append b).log.length = D.sure.length + (D.rest.length + b.length) := by simp [append, log]
  rw [this]
  show _ ≤ D.room
  omega
theorem write0_ok {D : Dk} (h : D.Ok) {b : List UInt8} (hb : b.length ≤ 1000) : (D.write0 b).Ok := by
  obtain ⟨h1, h2, h3, h4, h5, h6⟩ := h
  exact ⟨h1, h2, hb, h4, h5, h6⟩
theorem write1_ok {D : Dk} (h : D.Ok) {b : List UInt8} (hb : b.length ≤ 1000) : (D.write1 b).Ok := by
  obtain ⟨h1, h2, h3, h4, h5, h6⟩ := h
  exact ⟨h1, h2, h3, hb, h5, h6⟩
end Dk

/-! ### blocks known whole -/
def Blk (w : World) (N : Nat) (T : TypeId) (cs : List Value) : Prop := w.heap[N]? = some (.cells cs.toArray T (0, 0))

namespace Blk
variable {w w' : World} {N : Nat} {T : TypeId} {cs : List Value}
theorem lt (h : Blk w N T cs) : N < w.heap.size := (Array.getElem?_eq_some_iff.1 h).1
theorem cell (h : Blk w N T cs) (i : Nat) : w.cell? ⟨N, i, none⟩ = cs[i]? := by
  unfold Blk at h
  rw [cell_of_row w N i cs.toArray T (0, 0) h]
  simp
theorem frozen (h : Blk w N T cs) (i : Nat) : w.frozen? ⟨N, i, none⟩ = false := by
  unfold Blk at h
  simp [World.frozen?, h]
theorem new (w : World) (T : TypeId) (cs : List Value) : Blk (w.alloc (.cells cs.toArray T)) w.heap.size T cs := heap_alloc_new w _
theorem same (h : Blk w N T cs) (e : w'.heap[N]? = w.heap[N]?) : Blk w' N T cs := e.trans h
theorem rb (h : Blk w N T cs) (hb : Rb w w') : Blk w' N T cs := h.same (hb.block N h.lt)
end Blk

/-- only block N may have turned -/
structure Wrote (N : Nat) (w w' : World) : Prop where
  os : w'.os = w.os
  tape : w'.tape = w.tape
  output : w'.output = w.output
  size : w'.heap.size = w.heap.size
  block : ∀ k, k ≠ N → w'.heap[k]? = w.heap[k]?

theorem Wrote.trans {N : Nat} {a b c : World} (h : Wrote N a b) (k : Wrote N b c) : Wrote N a c :=
  ⟨k.os.trans h.os, k.tape.trans h.tape, k.output.trans h.output, k.size.trans h.size, fun i hi => (k.block i hi).trans (h.block i hi)⟩

theorem Wrote.below {N B : Nat} {a b c : World} (h : Below B a b) (k : Wrote N b c) (hN : B ≤ N) : Below B a c :=
  h.trans ⟨k.os, k.tape, k.output, by rw [k.size]; exact Nat.le_refl _, fun i hi => k.block i (by omega)⟩

theorem wrote_setRow (w : World) (N : Nat) (cs : Array Value) : Wrote N w (w.setRow N cs) :=
  ⟨rfl, rfl, rfl, by simp [World.setRow], fun k hk => setRow_other w N k cs hk⟩

section
variable {P : Program} {w : World} {ops : Array Oper} {rest : List Oper} {o : Oper} {a : Act} {Q : Exit → Act → World → Prop}
theorem run_store_blk {N off : Nat} {T ty : TypeId} {cs vs : List Value} {v : Value} (hb : Blk w N T cs) (hv : v.cells = vs.toArray) (hs : (P.info? ty).map (·.size) = some vs.length) (hl : off + vs.length ≤ cs.length) (h1 : ∀ v ∈ vs, v.oneCell' = true) :
    ∃ w', (Instr.storeAt ty (.pointer (some ⟨N, off, none⟩)) v).run P w = .ok () w' ∧ Blk w' N T (cs.take off ++ vs ++ cs.drop (off + vs.length)) ∧ Wrote N w w' := by
  have hr := run_storeCells_at P N off T vs 0 cs.toArray w hb (by simpa using hl) h1
  simp only [Nat.add_zero] at hr
  refine ⟨_, ?_, setRow_heap w N _ _ T (0, 0) hb, wrote_setRow w N _⟩
  cases hi : P.info? ty with
  | none => simp [hi] at hs
  | some i =>
    have hi' : i.size = vs.length := by simpa [hi] using hs
    simp [Instr.storeAt, Instr.sureAddr, storeVar, sizeOf, typeInfo, hi, hv, hi', hr, Result.andThen]

/-- a store into a block known whole -/
theorem wpList_store (hg : o.guard = none) (ty : TypeId) (x y : Operand) (ho : o.op = .store ty x y) (N off : Nat) (T : TypeId) (cs vs : List Value) (v : Value) (hx : a.eval x = .pointer (some ⟨N, off, none⟩)) (hy : a.eval y = v)
    (hb : Blk w N T cs) (hv : v.cells = vs.toArray) (hs : (P.info? ty).map (·.size) = some vs.length) (hl : off + vs.length ≤ cs.length) (h1 : ∀ v ∈ vs, v.oneCell' = true)
    (hK : ∀ w', Blk w' N T (cs.take off ++ vs ++ cs.drop (off + vs.length)) → Wrote N w w' → wpList P ops Q rest (a.put o.dst undef) w') : wpList P ops Q (o :: rest) a w := by
  obtain ⟨w', hr, h2, h3⟩ := run_store_blk (P := P) (v := v) hb hv hs hl h1
  refine wpList_plain hg fun K hK' => ?_
  unfold Oper.wp
  simp only [execOp, ho, hx, hy, Sem.run_bind, hr]
  exact hK' _ _ (hK w' h2 h3)
end

/-! ### what a disk leads to -/
structure Mem where
  b : Nat
  lv : Value
  v0 : Value
  v1 : Value
  u0 : Value
  u1 : Value

/-- the blocks that a call may turn -/
def Mem.touch (m : Mem) (k : Nat) : Prop := k = m.b ∨ m.lv.ownBlock = some k
def VOff (m : Mem) (v : Value) : Prop := ∀ k, v.ownBlock = some k → ¬ m.touch k
/-- all its blocks -/
def Mem.has (m : Mem) (k : Nat) : Prop := m.touch k ∨ m.v0.ownBlock = some k ∨ m.v1.ownBlock = some k ∨ m.u0.ownBlock = some k ∨ m.u1.ownBlock = some k

structure Kp (m : Mem) (w w' : World) : Prop where
  os : w'.os = w.os
  tape : w'.tape = w.tape
  output : w'.output = w.output
  size : w.heap.size ≤ w'.heap.size
  block : ∀ k, k < w.heap.size → ¬ m.touch k → w'.heap[k]? = w.heap[k]?

/-- the log's row is the one that it was, or a new one -/
def New (w : World) (m m' : Mem) : Prop := m'.b = m.b ∧ ∀ k, m'.lv.ownBlock = some k → m.lv.ownBlock = some k ∨ w.heap.size ≤ k

theorem New.refl (w : World) (m : Mem) : New w m m := ⟨rfl, fun _ h => .inl h⟩
theorem New.touch {w : World} {m m' : Mem} (h : New w m m') {k : Nat} (hk : m'.touch k) : m.touch k ∨ w.heap.size ≤ k := by
  rcases hk with rfl | hk
  · exact .inl (.inl h.1)
  · rcases h.2 k hk with h | h
    · exact .inl (.inr h)
    · exact .inr h
theorem New.trans {w w1 : World} {m m1 m2 : Mem} (h : New w m m1) (hs : w.heap.size ≤ w1.heap.size) (k : New w1 m1 m2) : New w m m2 := by
  refine ⟨k.1.trans h.1, fun i hi => ?_⟩
  rcases k.2 i hi with hi | hi
  · exact h.2 i hi
  · exact .inr (by omega)
theorem New.off {w : World} {m m' : Mem} (h : New w m m') {v : Value} (hv : VOff m v) (hl : ∀ k, v.ownBlock = some k → k < w.heap.size) : VOff m' v := fun k hk ht => by
  rcases h.touch ht with h | h
  · exact hv k hk h
  · have := hl k hk; omega

theorem Kp.refl (m : Mem) (w : World) : Kp m w w := ⟨rfl, rfl, rfl, Nat.le_refl _, fun _ _ _ => rfl⟩
theorem Kp.of_rb {m : Mem} {w w' : World} (h : Rb w w') : Kp m w w' := ⟨h.os, h.tape, h.output, h.size, fun k hk _ => h.block k hk⟩
theorem Kp.trans {m m1 : Mem} {w w1 w2 : World} (h : Kp m w w1) (hn : New w m m1) (k : Kp m1 w1 w2) : Kp m w w2 :=
  ⟨k.os.trans h.os, k.tape.trans h.tape, k.output.trans h.output, Nat.le_trans h.size k.size, fun i hi ht => by
    rw [k.block i (Nat.lt_of_lt_of_le hi h.size) (fun h' => by rcases hn.touch h' with h' | h'; exact ht h'; omega), h.block i hi ht]⟩
theorem Kp.wrote {m : Mem} {w w1 w2 : World} {N : Nat} (h : Kp m w w1) (k : Wrote N w1 w2) (hN : m.touch N ∨ w.heap.size ≤ N) : Kp m w w2 :=
  ⟨k.os.trans h.os, k.tape.trans h.tape, k.output.trans h.output, by rw [k.size]; exact h.size, fun i hi ht => by
    rw [k.block i (fun e => by subst e; rcases hN with h' | h'; exact ht h'; omega), h.block i hi ht]⟩
theorem Kp.rb {m : Mem} {w w1 w2 : World} (h : Kp m w w1) (k : Rb w1 w2) : Kp m w w2 := h.trans (New.refl w m) (Kp.of_rb k)
theorem Kp.below {m : Mem} {w w' : World} {B : Nat} (h : Kp m w w') (hB : B ≤ w.heap.size) (ht : ∀ k, m.touch k → B ≤ k) : Below B w w' :=
  ⟨h.os, h.tape, h.output, h.size, fun k hk => h.block k (by omega) (fun h' => by have := ht k h'; omega)⟩

theorem Bs.same {w w' : World} {v : Value} {xs : List UInt8} (h : Bs w v xs) (e : ∀ k, v.ownBlock = some k → w'.heap[k]? = w.heap[k]?) : Bs w' v xs := by
  obtain ⟨ao, cap, rfl, h2, h3, h4, h5⟩ := h
  refine ⟨ao, cap, rfl, h2, h3, h4, fun ad ha j u hu => ?_⟩
  subst ha
  have hc := h5 ad rfl j u hu
  have hb : (ad.add j).block = ad.block := by unfold Addr.add; split <;> rfl
  rw [World.cell?_of_block (w := w) (w' := w') (by rw [hb]; exact e ad.block rfl)]
  exact hc
theorem Bs.lt {w : World} {v : Value} {xs : List UInt8} (h : Bs w v xs) (hn : 0 < xs.length) : ∀ k, v.ownBlock = some k → k < w.heap.size := by
  obtain ⟨b, o, cap, rfl, _, _, h5⟩ := h.form hn
  intro k hk
  simp [Value.ownBlock] at hk
  subst hk
  exact World.block_lt_of_cell? w _ (h5 0 hn)

theorem owns_same {w w' : World} {B : Nat} {e : TypeId} {s : Nat} {v : Value} {n : Nat} {xs : List Value} (h : w.ownsRow B e s v n xs) (hb : ∀ k, v.ownBlock = some k → w'.heap[k]? = w.heap[k]?) : w'.ownsRow B e s v n xs := by
  refine ⟨h.1, ?_⟩
  rcases h.2 with h0 | ⟨g, cap, cur, rfl, h2, h3, h4⟩
  · exact .inl h0
  · exact .inr ⟨g, cap, cur, rfl, h2, by rw [hb g rfl]; exact h3, h4⟩

/-- a disk in memory -/
structure HeldK (w : World) (m : Mem) (D : Dk) : Prop where
  blk : Blk w m.b 93 [.int .i64 D.room, m.lv, .int .i64 D.sure.length, m.v0, m.v1, m.u0, m.u1]
  own : w.ownsRow 0 5 1 m.lv D.log.length (D.log.map c8)
  ne : m.lv.ownBlock ≠ some m.b
  b0 : Bs w m.v0 D.n0
  b1 : Bs w m.v1 D.n1
  c0 : Bs w m.u0 D.s0
  c1 : Bs w m.u1 D.s1
  o0 : VOff m m.v0
  o1 : VOff m m.v1
  q0 : VOff m m.u0
  q1 : VOff m m.u1
  lt : ∀ k, m.has k → k < w.heap.size
  ok : D.Ok

theorem HeldK.same {w w' : World} {m : Mem} {D : Dk} (h : HeldK w m D) (hs : w.heap.size ≤ w'.heap.size) (e : ∀ k, m.has k → w'.heap[k]? = w.heap[k]?) : HeldK w' m D where
  blk := h.blk.same (e _ (.inl (.inl rfl)))
  own := owns_same h.own fun k hk => e k (.inl (.inr hk))
  ne := h.ne
  b0 := Bs.same h.b0 fun k hk => e k (.inr (.inl hk))
  b1 := Bs.same h.b1 fun k hk => e k (.inr (.inr (.inl hk)))
  c0 := Bs.same h.c0 fun k hk => e k (.inr (.inr (.inr (.inl hk))))
  c1 := Bs.same h.c1 fun k hk => e k (.inr (.inr (.inr (.inr hk))))
  o0 := h.o0
  o1 := h.o1
  q0 := h.q0
  q1 := h.q1
  lt := fun k hk => Nat.lt_of_lt_of_le (h.lt k hk) hs
  ok := h.ok
theorem HeldK.rb {w w' : World} {m : Mem} {D : Dk} (h : HeldK w m D) (hb : Rb w w') : HeldK w' m D := h.same hb.size fun k hk => hb.block k (h.lt k hk)
/-- another disk is as it was -/
theorem HeldK.kp {w w' : World} {m m1 : Mem} {D : Dk} (h : HeldK w m1 D) (hk : Kp m w w') (ha : ∀ k, m1.has k → ¬ m.touch k) : HeldK w' m1 D := h.same hk.size fun k h' => hk.block k (h.lt k h') (ha k h')

/-! ### the document's disk -/
structure Rm where
  nv : Value
  sv : Value
abbrev refv (D : Dk) (r : Rm) : Value := .agg #[.int .i64 D.room, .string (str D.sure), .string (str D.rest), r.nv, r.sv]
abbrev refcs (D : Dk) (r : Rm) : List Value := [.int .i64 D.room, .string (str D.sure), .string (str D.rest), r.nv, r.sv]
/-- a slice of two texts -/
def Ss (w : World) (v : Value) (x y : List UInt8) : Prop := ∃ g cap, v = .slice (some ⟨g, 0, none⟩) 2 cap ∧ 2 ≤ cap ∧ cap ≤ maxLen ∧ w.cell? ⟨g, 0, none⟩ = some (.string (str x)) ∧ w.cell? ⟨g, 1, none⟩ = some (.string (str y))
theorem Ss.lt {w : World} {v : Value} {x y : List UInt8} (h : Ss w v x y) : ∀ k, v.ownBlock = some k → k < w.heap.size := by
  obtain ⟨g, cap, rfl, _, _, h1, _⟩ := h
  intro k hk
  simp [Value.ownBlock] at hk
  subst hk
  exact World.block_lt_of_cell? w _ h1
theorem Ss.same {w w' : World} {v : Value} {x y : List UInt8} (h : Ss w v x y) (e : ∀ k, v.ownBlock = some k → w'.heap[k]? = w.heap[k]?) : Ss w' v x y := by
  obtain ⟨g, cap, rfl, h0, hm, h1, h2⟩ := h
  have hg := e g rfl
  exact ⟨g, cap, rfl, h0, hm, by rw [World.cell?_of_block (w := w) (w' := w') (a := ⟨g, 0, none⟩) hg]; exact h1, by rw [World.cell?_of_block (w := w) (w' := w') (a := ⟨g, 1, none⟩) hg]; exact h2⟩
theorem Ss.rb {w w' : World} {v : Value} {x y : List UInt8} (h : Ss w v x y) (hb : Rb w w') : Ss w' v x y := h.same fun k hk => hb.block k (h.lt k hk)
structure HeldR (w : World) (r : Rm) (D : Dk) : Prop where
  n : Ss w r.nv D.n0 D.n1
  s : Ss w r.sv D.s0 D.s1
theorem HeldR.rb {w w' : World} {r : Rm} {D : Dk} (h : HeldR w r D) (hb : Rb w w') : HeldR w' r D := ⟨h.n.rb hb, h.s.rb hb⟩
def ROff (m : Mem) (r : Rm) : Prop := VOff m r.nv ∧ VOff m r.sv
theorem HeldR.kp {w w' : World} {m : Mem} {r : Rm} {D : Dk} (h : HeldR w r D) (hk : Kp m w w') (ho : ROff m r) : HeldR w' r D :=
  ⟨h.n.same fun k h' => hk.block k (h.n.lt k h') (ho.1 k h'), h.s.same fun k h' => hk.block k (h.s.lt k h') (ho.2 k h')⟩
theorem HeldR.off {w : World} {m m' : Mem} {r : Rm} {D : Dk} (h : HeldR w r D) (hn : New w m m') (ho : ROff m r) : ROff m' r := ⟨hn.off ho.1 h.n.lt, hn.off ho.2 h.s.lt⟩
end Go.Proofs.Ytbdgdmieggpmhaa.L3

namespace Go.Proofs.Ytbdgdmieggpmhaa.L3
open Go.ChangeShapes Go.WideShapes Go.ChangeAt Go.RowKit By Reg
set_option linter.unusedVariables false

theorem info8 : (Try.prog.info? 5).map (fun i => (i.zero, i.size, i.bytes)) = some (some (.int .u8 0), 1, 1) := by kernel_rfl
theorem info9 : (Try.prog.info? 9).map (fun i => (i.zero, i.size, i.bytes)) = some (some (.string ⟨#[]⟩), 1, 16) := by kernel_rfl
theorem size8 : (Try.prog.info? 5).map (·.size) = some 1 := by kernel_rfl
theorem info_parts {P : Program} {e : TypeId} {z : Value} {s b : Nat} (h : (P.info? e).map (fun i => (i.zero, i.size, i.bytes)) = some (some z, s, b)) : ∃ i, P.info? e = some i ∧ i.zero = some z ∧ i.size = s ∧ i.bytes = b := by
  obtain ⟨i, hi, hz⟩ := Option.map_eq_some_iff.1 h
  simp only [Prod.mk.injEq] at hz
  exact ⟨i, hi, hz.1, hz.2.1, hz.2.2⟩
theorem ret_bool {a b : Bool} (h : a = b) : Ending.returned (.bool a) = .returned (.bool b) := by rw [h]
theorem ret_i64 {a b : Int} (h : a = b) : Ending.returned (.int .i64 a) = .returned (.int .i64 b) := by rw [h]

theorem made_blk (w : World) (n : Nat) : Blk (w.alloc (.cells (madeCells #[Value.int .u8 0] n) 5)) w.heap.size 5 (List.replicate n (.int .u8 0)) := by
  have h := Blk.new w 5 (List.replicate n (Value.int .u8 0))
  rw [← toList_madeCells_one, Array.toArray_toList] at h
  rw [← toList_madeCells_one]
  simpa using h

set_option maxRecDepth 100000 in
theorem copied_any (v : Value) (xs : List UInt8) (w : World) (hb : Bs w v xs) (hx : xs.length ≤ 100000000) :
    Calls Try.prog 62 #[v] w (Put w 5 xs) := by
  obtain ⟨ao, cap, rfl, h2, h3, h4, h5⟩ := hb
  obtain ⟨i0, hi0, hz0, hz1, hz2⟩ := info_parts info8
  have Hi := Lib.hid hi0
  have Hz := Lib.hid hz0
  have Hz1 := Lib.hid hz1
  have Hz2 := Lib.hid hz2
  clear hi0 hz0 hz1 hz2
  have hp : 0 < (xs.map c8).length → (some ⟨w.heap.size, 0, none⟩ : Option Addr) = some ⟨w.heap.size, 0, none⟩ ∧ ∃ ad, ao = some ad ∧ ∀ j v, (xs.map c8)[j]? = some v → (w.alloc (.cells (madeCells #[Value.int .u8 0] xs.length) 5)).cell? (ad.add j) = some v := by
    intro hp
    refine ⟨rfl, ?_⟩
    cases ao with
    | none => have := h4 rfl; simp at hp; omega
    | some ad => exact ⟨ad, rfl, fun j u hu => by rw [World.cell?_alloc_lt _ _ _ (World.block_lt_of_cell? w _ (h5 ad rfl j u hu))]; exact h5 ad rfl j u hu⟩
  have HP := Lib.hid hp
  clear h4 h5 hp
  go_enter Try.func62, Try.ntmps62
  go_wp2_with (first | (refine wpList_make_row _ rfl _ _ 23 rfl 5 i0 (.int .u8 0) Try.underlying23 Hi.out Hz.out Hz1.out rfl .i64 .i64 xs.length rfl rfl (by rw [Hz2.out]; omega) (by omega) ?_ ) | (refine wpList_copy_splice rfl _ _ 23 23 rfl 5 Try.underlying23 size8 (some ⟨w.heap.size, 0, none⟩) ao xs.length xs.length xs.length cap rfl rfl w.heap.size 0 (List.replicate xs.length (.int .u8 0)) 5 (made_blk w _) (xs.map c8) (by simp) HP.out (by simp) c8_one w.heap.size w ((Below.refl _ w).alloc (Nat.le_refl _) _) (Nat.le_refl _) ?_))
  intro w' hg hb
  go_wp2
  go_ret
  refine ⟨w.heap.size, xs.length, rfl, ⟨by simp, .inr ⟨_, _, _, rfl, Nat.le_refl _, hg.out, Nat.le_refl _, by omega, ?_, ?_⟩⟩, hb⟩
  · simp [splice]
  · simp [splice]; exact List.take_of_length_le (by simp)

theorem isslot_any (n : Int) (w : World) : Calls Try.prog 76 #[.int .i64 n] w fun e w' => e = .returned (.bool (decide (0 ≤ n ∧ n < 2))) ∧ w = w' := by
  by_cases h0 : 0 ≤ n
  · by_cases h1 : n < 2
    · go_enter Try.func76, Try.ntmps76
      go_wp2
      go_ret
      exact ⟨ret_bool (by simp [h0, h1]), rfl⟩
    · go_enter Try.func76, Try.ntmps76
      go_wp2
      go_ret
      exact ⟨ret_bool (by simp [h1]), rfl⟩
  · go_enter Try.func76, Try.ntmps76
    go_wp2
    go_ret
    exact ⟨ret_bool (by simp; omega), rfl⟩

def clampN (n : Int) : Nat := (min (max n 0) 1048576).toNat
theorem clampN_le (n : Int) : clampN n ≤ 1048576 := by unfold clampN; omega

def mem0 (b : Nat) : Mem := ⟨b, .slice none 0 0, .slice none 0 0, .slice none 0 0, .slice none 0 0, .slice none 0 0⟩
theorem mem0_has {b k : Nat} (h : (mem0 b).has k) : k = b := by
  rcases h with (h | h) | h | h | h | h
  · exact h
  all_goals simp [mem0, Value.ownBlock] at h
theorem heldK_new (w : World) (n : Nat) (hn : n ≤ 1048576) : HeldK (w.alloc (.cells #[.int .i64 n, .slice none 0 0, .int .i64 0, .slice none 0 0, .slice none 0 0, .slice none 0 0, .slice none 0 0] 93)) (mem0 w.heap.size) (Dk.new n) where
  blk := Blk.new w _ [_, _, _, _, _, _, _]
  own := World.ownsRow_nil _ _ _ _
  ne := by simp [mem0, Value.ownBlock]
  b0 := Bs.nil _
  b1 := Bs.nil _
  c0 := Bs.nil _
  c1 := Bs.nil _
  o0 := fun k h => by simp [mem0, Value.ownBlock] at h
  o1 := fun k h => by simp [mem0, Value.ownBlock] at h
  q0 := fun k h => by simp [mem0, Value.ownBlock] at h
  q1 := fun k h => by simp [mem0, Value.ownBlock] at h
  lt := fun k h => by rw [mem0_has h]; simp
  ok := Dk.new_ok hn

def NewK (w : World) (n : Nat) (e : Ending) (w' : World) : Prop := e = .returned (.pointer (some ⟨w.heap.size, 0, none⟩)) ∧ HeldK w' (mem0 w.heap.size) (Dk.new n) ∧ Rb w w'

theorem new_any (n : Int) (w : World) : Calls Try.prog 21 #[.int .i64 n] w (NewK w (clampN n)) := by
  have fin : ∀ c : Nat, c ≤ 1048576 → NewK w c (.returned (.pointer (some ⟨w.heap.size, 0, none⟩))) (w.alloc (.cells #[.int .i64 c, .slice none 0 0, .int .i64 0, .slice none 0 0, .slice none 0 0, .slice none 0 0, .slice none 0 0] 93)) :=
    fun c hc => ⟨rfl, heldK_new w c hc, (Below.refl _ _).alloc (Nat.le_refl _) _⟩
  by_cases h0 : n < 0
  · have e : clampN n = 0 := by unfold clampN; omega
    rw [e]
    have F := Lib.hid (fin 0 (by omega))
    clear fin e
    go_enter Try.func21, Try.ntmps21
    go_wp2
    go_ret
    exact F.out
  · by_cases h1 : 1048576 < n
    · have e : clampN n = 1048576 := by unfold clampN; omega
      rw [e]
      have F := Lib.hid (fin 1048576 (by omega))
      clear fin e
      go_enter Try.func21, Try.ntmps21
      go_wp2
      go_ret
      exact F.out
    · obtain ⟨c, rfl⟩ := Int.eq_ofNat_of_zero_le (by omega : 0 ≤ n)
      have e : clampN c = c := by unfold clampN; omega
      rw [e]
      have F := Lib.hid (fin c (by omega))
      clear fin e
      go_enter Try.func21, Try.ntmps21
      go_wp2
      go_ret
      exact F.out
end Go.Proofs.Ytbdgdmieggpmhaa.L3

namespace Go.Proofs.Ytbdgdmieggpmhaa.L3
open Go.ChangeShapes Go.WideShapes Go.ChangeAt Go.RowKit By Reg
set_option linter.unusedVariables false

theorem drewN_rb (w : World) (n : Nat) : Rb w (w.drewN n) := ⟨rfl, rfl, rfl, Nat.le_refl _, fun _ _ => rfl⟩

structure Cells7 (w : World) (b : Nat) (a0 a1 a2 a3 a4 a5 a6 : Value) : Prop where
  e0 : w.cell? ⟨b, 0, none⟩ = some a0
  e1 : w.cell? ⟨b, 1, none⟩ = some a1
  e2 : w.cell? ⟨b, 2, none⟩ = some a2
  e3 : w.cell? ⟨b, 3, none⟩ = some a3
  e4 : w.cell? ⟨b, 4, none⟩ = some a4
  e5 : w.cell? ⟨b, 5, none⟩ = some a5
  e6 : w.cell? ⟨b, 6, none⟩ = some a6
theorem Blk.cells7 {w : World} {b : Nat} {T : TypeId} {a0 a1 a2 a3 a4 a5 a6 : Value} (h : Blk w b T [a0, a1, a2, a3, a4, a5, a6]) : Cells7 w b a0 a1 a2 a3 a4 a5 a6 :=
  ⟨h.cell 0, h.cell 1, h.cell 2, h.cell 3, h.cell 4, h.cell 5, h.cell 6⟩

theorem sure_any (m : Mem) (D : Dk) (w : World) (h : HeldK w m D) : Calls Try.prog 33 #[.pointer (some ⟨m.b, 0, none⟩)] w fun e w' => e = .returned (.int .i64 D.sure.length) ∧ w = w' := by
  have z2 := h.blk.cells7.e2
  clear h
  go_enter Try.func33, Try.ntmps33
  go_wp2
  go_ret
  exact ⟨rfl, rfl⟩
theorem sure_nil (w : World) : Calls Try.prog 33 #[.pointer none] w fun e w' => e = .returned (.int .i64 0) ∧ w = w' := by
  go_enter Try.func33, Try.ntmps33
  go_wp2
  go_ret
  exact ⟨rfl, rfl⟩

theorem room_any (m : Mem) (D : Dk) (w : World) (h : HeldK w m D) : Calls Try.prog 61 #[.pointer (some ⟨m.b, 0, none⟩)] w fun e w' => e = .returned (.int .i64 ((D.room : Int) - (D.log.length : Nat))) ∧ Rb w w' := by
  have z0 := h.blk.cells7.e0
  have z1 := h.blk.cells7.e1
  obtain ⟨ao, cap, e, h2, h3⟩ := (Bs.of_owns h.own).len
  rw [e] at z1
  obtain ⟨h4, h5, -⟩ := h.ok
  generalize D.log.length = n at *
  generalize D.room = r at *
  clear e h
  have hw : IntKind.i64.wrap ((r : Int) - (n : Int)) = (r : Int) - (n : Int) := IntWalk.i64_in _ (by omega)
  go_enter Try.func61, Try.ntmps61
  go_wp2
  go_quiet (fail)
  go_wp2
  go_ret
  exact ⟨rfl, drewN_rb _ _⟩
theorem room_nil (w : World) : Calls Try.prog 61 #[.pointer none] w fun e w' => e = .returned (.int .i64 0) ∧ w = w' := by
  go_enter Try.func61, Try.ntmps61
  go_wp2
  go_ret
  exact ⟨rfl, rfl⟩

theorem log_any (m : Mem) (D : Dk) (w : World) (h : HeldK w m D) : Calls Try.prog 31 #[.pointer (some ⟨m.b, 0, none⟩)] w (Put w 5 D.log) := by
  have z1 := h.blk.cells7.e1
  have C := Lib.hid (copied_any m.lv D.log w (Bs.of_owns h.own) (by obtain ⟨h4, h5, -⟩ := h.ok; omega))
  clear h
  go_enter Try.func31, Try.ntmps31
  go_wp2_with fail
  refine C.out.mono ?_
  rintro e w' ⟨g, cap, rfl, h2, h3⟩
  go_wp2
  go_ret
  exact ⟨g, cap, rfl, h2, h3⟩
theorem log_nil (w : World) : Calls Try.prog 31 #[.pointer none] w fun e w' => e = .returned (.slice none 0 0) ∧ w = w' := by
  go_enter Try.func31, Try.ntmps31
  go_wp2
  go_ret
  exact ⟨rfl, rfl⟩

theorem slot_0 (m : Mem) (D : Dk) (w : World) (h : HeldK w m D) : Calls Try.prog 73 #[.pointer (some ⟨m.b, 0, none⟩), .int .i64 0] w (Put w 5 D.n0) := by
  have z3 := h.blk.cells7.e3
  have C := Lib.hid (copied_any m.v0 D.n0 w h.b0 (by obtain ⟨h4, h5, h6, -⟩ := h.ok; omega))
  clear h
  go_enter Try.func73, Try.ntmps73
  go_wp2_with fail
  refine (isslot_any _ _).mono ?_
  rintro e w' ⟨rfl, rfl⟩
  go_wp2_with fail
  refine C.out.mono ?_
  rintro e w' ⟨g, cap, rfl, h2, h3⟩
  go_wp2
  go_ret
  exact ⟨g, cap, rfl, h2, h3⟩
theorem slot_1 (m : Mem) (D : Dk) (w : World) (h : HeldK w m D) : Calls Try.prog 73 #[.pointer (some ⟨m.b, 0, none⟩), .int .i64 1] w (Put w 5 D.n1) := by
  have z4 := h.blk.cells7.e4
  have C := Lib.hid (copied_any m.v1 D.n1 w h.b1 (by obtain ⟨h4, h5, h6, h7, -⟩ := h.ok; omega))
  clear h
  go_enter Try.func73, Try.ntmps73
  go_wp2_with fail
  refine (isslot_any _ _).mono ?_
  rintro e w' ⟨rfl, rfl⟩
  go_wp2_with fail
  refine C.out.mono ?_
  rintro e w' ⟨g, cap, rfl, h2, h3⟩
  go_wp2
  go_ret
  exact ⟨g, cap, rfl, h2, h3⟩
theorem slot_no (b : Nat) (n : Int) (w : World) (hn : decide (0 ≤ n ∧ n < 2) = false) : Calls Try.prog 73 #[.pointer (some ⟨b, 0, none⟩), .int .i64 n] w fun e w' => e = .returned (.slice none 0 0) ∧ w = w' := by
  have H := Lib.hid hn
  clear hn
  go_enter Try.func73, Try.ntmps73
  go_wp2_with fail
  refine (isslot_any _ _).mono ?_
  rintro e w' ⟨rfl, rfl⟩
  rw [H.out]
  go_wp2
  go_ret
  exact ⟨rfl, rfl⟩
theorem slot_nil (n : Int) (w : World) : Calls Try.prog 73 #[.pointer none, .int .i64 n] w fun e w' => e = .returned (.slice none 0 0) ∧ w = w' := by
  go_enter Try.func73, Try.ntmps73
  go_wp2
  go_ret
  exact ⟨rfl, rfl⟩
end Go.Proofs.Ytbdgdmieggpmhaa.L3

namespace Go.Proofs.Ytbdgdmieggpmhaa.L3
open Go.ChangeShapes Go.WideShapes Go.ChangeAt Go.RowKit By Reg
set_option linter.unusedVariables false

theorem sl_one (a : Option Addr) (n c : Nat) : ∀ v ∈ [Value.slice a n c], v.oneCell' = true := by simp [Value.oneCell']
theorem bs_one {w : World} {v : Value} {xs : List UInt8} (h : Bs w v xs) : v.oneCell' = true ∧ v.cells = #[v] := by
  obtain ⟨ao, cap, rfl, _⟩ := h; exact ⟨rfl, rfl⟩
theorem two_one {w : World} {v u : Value} {xs ys : List UInt8} (h : Bs w v xs) (k : Bs w u ys) : ∀ x ∈ [v, u], x.oneCell' = true := by
  intro x hx
  simp at hx
  rcases hx with rfl | rfl
  · exact (bs_one h).1
  · exact (bs_one k).1

theorem sizeint : (Try.prog.info? 3).map (·.size) = some 1 := by kernel_rfl
theorem sizeslots : (Try.prog.info? 91).map (·.size) = some 2 := by kernel_rfl
theorem sizebytes : (Try.prog.info? 23).map (·.size) = some 1 := by kernel_rfl

/-- what a call that turns the disk leaves -/
def TurnedB (B : Nat) (w : World) (m : Mem) (D : Dk) (w' : World) : Prop := ∃ m', HeldK w' m' D ∧ New w m m' ∧ Kp m w w' ∧ ∀ k, m'.has k → m.has k ∨ B ≤ k
abbrev Turned (w : World) (m : Mem) (D : Dk) (w' : World) : Prop := TurnedB w.heap.size w m D w'

theorem HeldK.wrote (B : Nat) {w w' : World} {m : Mem} {D D' : Dk} (h : HeldK w m D) (hw : Wrote m.b w w') (m' : Mem) (hb : m'.b = m.b)
    (blk : Blk w' m.b 93 [.int .i64 D'.room, m'.lv, .int .i64 D'.sure.length, m'.v0, m'.v1, m'.u0, m'.u1])
    (own : w.ownsRow 0 5 1 m'.lv D'.log.length (D'.log.map c8)) (hl : m'.lv.ownBlock = none ∨ m'.lv.ownBlock = m.lv.ownBlock)
    (b0 : Bs w m'.v0 D'.n0) (b1 : Bs w m'.v1 D'.n1) (c0 : Bs w m'.u0 D'.s0) (c1 : Bs w m'.u1 D'.s1)
    (o0 : VOff m m'.v0) (o1 : VOff m m'.v1) (q0 : VOff m m'.u0) (q1 : VOff m m'.u1)
    (lt : ∀ k, m'.v0.ownBlock = some k ∨ m'.v1.ownBlock = some k ∨ m'.u0.ownBlock = some k ∨ m'.u1.ownBlock = some k → k < w.heap.size) (hh : ∀ k, m'.v0.ownBlock = some k ∨ m'.v1.ownBlock = some k ∨ m'.u0.ownBlock = some k ∨ m'.u1.ownBlock = some k → m.has k ∨ B ≤ k) (ok : D'.Ok) : TurnedB B w m D' w' := by
  have e : ∀ k, k ≠ m.b → w'.heap[k]? = w.heap[k]? := hw.block
  have ho : ∀ v, VOff m v → ∀ k, v.ownBlock = some k → w'.heap[k]? = w.heap[k]? := fun v hv k hk => e k (fun e => hv k hk (.inl e))
  have hlv : ∀ k, m'.lv.ownBlock = some k → m.lv.ownBlock = some k := fun k hk => by
    rcases hl with hl | hl
    · rw [hl] at hk; cases hk
    · rw [← hl]; exact hk
  have ht : ∀ k, m'.touch k → m.touch k := fun k hk => by
    rcases hk with rfl | hk
    · exact .inl hb
    · exact .inr (hlv k hk)
  refine ⟨m', ⟨by rw [hb]; exact blk, owns_same own fun k hk => e k (fun e => h.ne (by rw [← e]; exact hlv k hk)), fun hk => h.ne (by rw [← hb]; exact hlv _ hk), Bs.same b0 (ho _ o0), Bs.same b1 (ho _ o1), Bs.same c0 (ho _ q0), Bs.same c1 (ho _ q1),
    fun k hk h' => o0 k hk (ht k h'), fun k hk h' => o1 k hk (ht k h'), fun k hk h' => q0 k hk (ht k h'), fun k hk h' => q1 k hk (ht k h'), fun k hk => ?_, ok⟩, ⟨hb, fun k hk => .inl (hlv k hk)⟩, (Kp.refl m w).wrote hw (.inl (.inl rfl)), fun k hk => hk.elim (fun h' => .inl (.inl (ht k h'))) (hh k)⟩
  rw [hw.size]
  rcases hk with hk | hk
  · exact h.lt k (.inl (ht k hk))
  · exact lt k hk

theorem int_one (k : IntKind) (n : Int) : ∀ v ∈ [Value.int k n], v.oneCell' = true := by simp [Value.oneCell']
theorem nil_one : ∀ v ∈ [Value.slice none 0 0], v.oneCell' = true := by simp [Value.oneCell']
theorem sync_log (D : Dk) : D.sync.log = D.log := by simp [Dk.sync, Dk.log]
theorem HeldK.lts {w : World} {m : Mem} {D : Dk} (h : HeldK w m D) : (∀ k, m.v0.ownBlock = some k → k < w.heap.size) ∧ (∀ k, m.v1.ownBlock = some k → k < w.heap.size) ∧ (∀ k, m.u0.ownBlock = some k → k < w.heap.size) ∧ (∀ k, m.u1.ownBlock = some k → k < w.heap.size) :=
  ⟨fun k hk => h.lt k (.inr (.inl hk)), fun k hk => h.lt k (.inr (.inr (.inl hk))), fun k hk => h.lt k (.inr (.inr (.inr (.inl hk)))), fun k hk => h.lt k (.inr (.inr (.inr (.inr hk))))⟩
theorem HeldK.hs {w : World} {m : Mem} {D : Dk} (_h : HeldK w m D) (B : Nat) : (∀ k, m.v0.ownBlock = some k → m.has k ∨ B ≤ k) ∧ (∀ k, m.v1.ownBlock = some k → m.has k ∨ B ≤ k) ∧ (∀ k, m.u0.ownBlock = some k → m.has k ∨ B ≤ k) ∧ (∀ k, m.u1.ownBlock = some k → m.has k ∨ B ≤ k) :=
  ⟨fun _ hk => .inl (.inr (.inl hk)), fun _ hk => .inl (.inr (.inr (.inl hk))), fun _ hk => .inl (.inr (.inr (.inr (.inl hk)))), fun _ hk => .inl (.inr (.inr (.inr (.inr hk))))⟩
theorem fourT {p q r s T : Nat → Prop} (a : ∀ k, p k → T k) (b : ∀ k, q k → T k) (c : ∀ k, r k → T k) (d : ∀ k, s k → T k) : ∀ k, p k ∨ q k ∨ r k ∨ s k → T k := fun k h => by
  rcases h with h | h | h | h
  · exact a k h
  · exact b k h
  · exact c k h
  · exact d k h
theorem four {p q r s : Nat → Prop} {n : Nat} (a : ∀ k, p k → k < n) (b : ∀ k, q k → k < n) (c : ∀ k, r k → k < n) (d : ∀ k, s k → k < n) : ∀ k, p k ∨ q k ∨ r k ∨ s k → k < n := fun k h => by
  rcases h with h | h | h | h
  · exact a k h
  · exact b k h
  · exact c k h
  · exact d k h

set_option maxRecDepth 100000 in
theorem sync_any (m : Mem) (D : Dk) (w : World) (h : HeldK w m D) : Calls Try.prog 44 #[.pointer (some ⟨m.b, 0, none⟩)] w fun e w' => e = .returned (.tuple #[]) ∧ Turned w m D.sync w' := by
  have z1 := h.blk.cells7.e1
  obtain ⟨ao, cap, e, h2, h3⟩ := (Bs.of_owns h.own).len
  rw [e] at z1
  have HB := Lib.hid h.blk
  have Hv := Lib.hid (bs_one h.b0)
  have Hu := Lib.hid (bs_one h.b1)
  have H2 := Lib.hid (two_one h.b0 h.b1)
  have E := Lib.hid e
  have H := Lib.hid h
  clear e h
  go_enter Try.func44, Try.ntmps44
  go_wp2_with (refine wpList_store rfl 3 _ _ rfl m.b 2 93 _ [_] _ rfl rfl HB.out rfl sizeint (by simp) (int_one _ _) ?_)
  intro w1 hb1 hw1
  have y3 := hb1.cells7.e3
  have y4 := hb1.cells7.e4
  have HB1 := Lib.hid hb1
  have HW1 := Lib.hid hw1
  clear hb1 hw1
  go_wp2_with (refine wpList_store rfl 91 _ _ rfl m.b 5 93 _ [m.v0, m.v1] _ rfl rfl HB1.out rfl sizeslots (by simp) H2.out ?_)
  intro w2 hb2 hw2
  go_wp2
  go_end0
  have h := H.out
  obtain ⟨l0, l1, l2, l3⟩ := h.lts
  obtain ⟨s0, s1, s2, s3⟩ := h.hs w.heap.size
  exact ⟨rfl, h.wrote w.heap.size (HW1.out.trans hw2) ⟨m.b, m.lv, m.v0, m.v1, m.v0, m.v1⟩ rfl hb2 (by rw [sync_log]; exact h.own) (.inr rfl) h.b0 h.b1 h.b0 h.b1 h.o0 h.o1 h.o0 h.o1 (four l0 l1 l0 l1) (fourT s0 s1 s0 s1) (Dk.sync_ok h.ok)⟩

theorem sync_nil (w : World) : Calls Try.prog 44 #[.pointer none] w fun e w' => e = .returned (.tuple #[]) ∧ w = w' := by
  go_enter Try.func44, Try.ntmps44
  go_wp2
  refine bodyPost_ret (results_none rfl _ _ _) rfl ?_
  exact ⟨rfl, rfl⟩

set_option maxRecDepth 100000 in
theorem clear_any (m : Mem) (D : Dk) (w : World) (h : HeldK w m D) : Calls Try.prog 56 #[.pointer (some ⟨m.b, 0, none⟩)] w fun e w' => e = .returned (.tuple #[]) ∧ Turned w m D.clear w' := by
  have HB := Lib.hid h.blk
  have H := Lib.hid h
  clear h
  go_enter Try.func56, Try.ntmps56
  go_wp2_with (refine wpList_store rfl 23 _ _ rfl m.b 1 93 _ [.slice none 0 0] _ rfl rfl HB.out rfl sizebytes (by simp) nil_one ?_)
  intro w1 hb1 hw1
  have HB1 := Lib.hid hb1
  have HW1 := Lib.hid hw1
  clear hb1 hw1
  go_wp2_with (refine wpList_store rfl 3 _ _ rfl m.b 2 93 _ [.int .i64 0] _ rfl rfl HB1.out rfl sizeint (by simp) (int_one _ _) ?_)
  intro w2 hb2 hw2
  go_wp2
  go_end0
  have h := H.out
  obtain ⟨l0, l1, l2, l3⟩ := h.lts
  obtain ⟨s0, s1, s2, s3⟩ := h.hs w.heap.size
  exact ⟨rfl, h.wrote w.heap.size (HW1.out.trans hw2) ⟨m.b, .slice none 0 0, m.v0, m.v1, m.u0, m.u1⟩ rfl hb2 (World.ownsRow_nil _ _ _ _) (.inl rfl) h.b0 h.b1 h.c0 h.c1 h.o0 h.o1 h.q0 h.q1 (four l0 l1 l2 l3) (fourT s0 s1 s2 s3) (Dk.clear_ok h.ok)⟩
theorem clear_nil (w : World) : Calls Try.prog 56 #[.pointer none] w fun e w' => e = .returned (.tuple #[]) ∧ w = w' := by
  go_enter Try.func56, Try.ntmps56
  go_wp2
  refine bodyPost_ret (results_none rfl _ _ _) rfl ?_
  exact ⟨rfl, rfl⟩
theorem crash_nil (n : Int) (w : World) : Calls Try.prog 37 #[.pointer none, .int .i64 n] w fun e w' => e = .returned (.tuple #[]) ∧ w = w' := by
  go_enter Try.func37, Try.ntmps37
  go_wp2
  refine bodyPost_ret (results_none rfl _ _ _) rfl ?_
  exact ⟨rfl, rfl⟩
theorem append_nil (v : Value) (w : World) : Calls Try.prog 43 #[.pointer none, v] w fun e w' => e = .returned (.int .i64 6) ∧ w = w' := by
  go_enter Try.func43, Try.ntmps43
  go_wp2
  go_ret
  exact ⟨rfl, rfl⟩
theorem write_nil (n : Int) (v : Value) (w : World) : Calls Try.prog 63 #[.pointer none, .int .i64 n, v] w fun e w' => e = .returned (.int .i64 6) ∧ w = w' := by
  go_enter Try.func63, Try.ntmps63
  go_wp2
  go_ret
  exact ⟨rfl, rfl⟩
theorem clone_nil (w : World) : Calls Try.prog 38 #[.pointer none] w fun e w' => e = .returned (.pointer none) ∧ w = w' := by
  go_enter Try.func38, Try.ntmps38
  go_wp2
  go_ret
  exact ⟨rfl, rfl⟩
end Go.Proofs.Ytbdgdmieggpmhaa.L3

namespace Go.Proofs.Ytbdgdmieggpmhaa.L3
open Go.ChangeShapes Go.WideShapes Go.ChangeAt Go.RowKit By Reg
set_option linter.unusedVariables false

theorem crash_log (D : Dk) (k : Nat) : (D.crash k).log = D.log.take (D.sure.length + k) := by
  unfold Dk.crash Dk.log
  rw [List.take_length_add_append, List.append_nil]
theorem owns_cut {w : World} {B : Nat} {e : TypeId} {a : Option Addr} {n c : Nat} {xs : List Value} (h : w.ownsRow B e 1 (.slice a n c) n xs) (N : Nat) (hN : N ≤ n) : w.ownsRow B e 1 (.slice a N c) N (xs.take N) := by
  refine ⟨by rw [List.length_take, h.1]; omega, ?_⟩
  rcases h.2 with ⟨h0, h1⟩ | ⟨g, cap, cur, h1, h2, h3, h4, h5, h6, h7⟩
  · simp only [Value.slice.injEq] at h0
    obtain ⟨rfl, rfl, rfl⟩ := h0
    exact .inl ⟨by congr 1; omega, by omega⟩
  · simp only [Value.slice.injEq] at h1
    obtain ⟨rfl, _, rfl⟩ := h1
    refine .inr ⟨g, c, cur, rfl, h2, h3, by omega, h5, h6, ?_⟩
    rw [← h7, List.take_take]
    congr 1; omega

set_option maxRecDepth 100000 in
set_option maxHeartbeats 1000000 in
theorem crash_any (m : Mem) (D : Dk) (w : World) (k : Int) (h : HeldK w m D) : Calls Try.prog 37 #[.pointer (some ⟨m.b, 0, none⟩), .int .i64 k] w fun e w' => e = .returned (.tuple #[]) ∧ Turned w m (D.crash k.toNat) w' := by
  have z1 := h.blk.cells7.e1
  have z2 := h.blk.cells7.e2
  obtain ⟨ao, cap, e, h2, h3⟩ := (Bs.of_owns h.own).len
  rw [e] at z1
  have hb := h.blk
  have hlen := D.log_len
  obtain ⟨q1, q2, -⟩ := h.ok
  obtain ⟨n, hn⟩ : ∃ n, n = D.log.length := ⟨_, rfl⟩
  obtain ⟨s, hs⟩ : ∃ s, s = D.sure.length := ⟨_, rfl⟩
  obtain ⟨r, hr⟩ : ∃ r, r = D.rest.length := ⟨_, rfl⟩
  rw [← hn] at z1 h2
  rw [← hs] at z2 hb
  rw [← hn] at q1 hlen
  rw [← hs, ← hr] at hlen
  obtain ⟨N, hN⟩ : ∃ N, N = s + min k.toNat r := ⟨_, rfl⟩
  have hNn : N ≤ n := by omega
  have hw : IntKind.i64.wrap ((n : Int) - (s : Int)) = (n : Int) - (s : Int) := IntWalk.i64_in _ (by omega)
  have HB := Lib.hid hb
  have H2 := Lib.hid (two_one h.c0 h.c1)
  have E := Lib.hid e
  have H := Lib.hid h
  have Hn := Lib.hid hn
  have Hs := Lib.hid hs
  have Hr := Lib.hid hr
  have FIN : ∀ w1 w2 w3, Wrote m.b w w1 → Wrote m.b w1 w2 → Wrote m.b w2 w3 → Blk w3 m.b 93 [.int .i64 D.room, .slice ao N cap, .int .i64 N, m.u0, m.u1, m.u0, m.u1] → Turned w m (D.crash k.toNat) w3 := by
    intro w1 w2 w3 g1 g2 g3 hb
    obtain ⟨l0, l1, l2, l3⟩ := h.lts
    obtain ⟨s0, s1, s2, s3⟩ := h.hs w.heap.size
    have hlg : (D.crash k.toNat).log.length = N := by
      rw [crash_log, List.length_take, ← hn, ← hs, hN]; omega
    have hsu : (D.crash k.toNat).sure.length = N := by
      show (D.sure ++ D.rest.take k.toNat).length = N
      rw [List.length_append, List.length_take, ← hs, ← hr, hN]
    have ho : w.ownsRow 0 5 1 (.slice ao N cap) N ((D.log.map c8).take N) := owns_cut (by have := h.own; rw [e, ← hn] at this; exact this) N hNn
    refine h.wrote w.heap.size ((g1.trans g2).trans g3) ⟨m.b, .slice ao N cap, m.u0, m.u1, m.u0, m.u1⟩ rfl (by rw [hsu]; exact hb) ?_ (.inr (by rw [e]; cases ao <;> rfl)) h.c0 h.c1 h.c0 h.c1 h.q0 h.q1 h.q0 h.q1 (four l2 l3 l2 l3) (fourT s2 s3 s2 s3) (Dk.crash_ok h.ok _)
    have hx : (D.crash k.toNat).log.map c8 = (D.log.map c8).take N := by
      rw [crash_log, List.map_take]
      have : D.sure.length + k.toNat = N ∨ (N = n ∧ n ≤ D.sure.length + k.toNat) := by omega
      rcases this with h | ⟨h, h'⟩
      · rw [h]
      · rw [h, List.take_of_length_le (by rw [List.length_map, ← hn]; exact h'), List.take_of_length_le (by rw [List.length_map, ← hn]; exact Nat.le_refl _)]
    rw [hlg, hx]
    exact ho
  have FN := Lib.hid FIN
  clear FIN
  rcases (by omega : k < 0 ∨ (0 ≤ k ∧ k ≤ (n : Int) - s) ∨ (n : Int) - s < k) with hk | ⟨hk, hk2⟩ | hk
  · have e0 : N = s := by omega
    obtain rfl := e0
    have f1 : ¬ ((n : Int) - (N : Int) < 0) := by omega
    have f2 : IntKind.i64.wrap ((N : Int)) = (N : Int) := IntWalk.i64_in _ (by omega)
    have HN := Lib.hid hN
    have Hl := Lib.hid hlen
    clear e h hn hs hlen hb hN hr
    go_enter Try.func37, Try.ntmps37
    go_wp2_with fail
    go_still_tail 20, (by kernel_rfl)
    have F2 := Lib.hid f2
    clear hw f1 f2
    change wpList _ _ _ _ _ w.drew
    have HBd := Lib.hid (show Blk w.drew _ _ _ from HB.out)
    go_wp2_with (refine wpList_store rfl 3 _ _ rfl m.b 2 93 _ [_] _ rfl rfl HBd.out rfl sizeint (by simp) (int_one _ _) ?_)
    intro w1 hb1 hw1
    try rw [F2.out] at hb1
    have HB1 := Lib.hid (show Blk w1 m.b 93 [.int .i64 D.room, m.lv, .int .i64 N, m.v0, m.v1, m.u0, m.u1] from hb1)
    have y1 := HB1.out.cells7.e1
    have y2 := HB1.out.cells7.e2
    have HW1 := Lib.hid hw1
    rw [E.out, ← Hn.out] at y1
    clear hb1 hw1 z1 z2
    have p1 : (N : Int) ≤ (cap : Int) := by omega
    have p2 : N ≤ cap := by omega
    have p3 : (0 : Int) ≤ (N : Int) := by omega
    go_wp2_with fail
    go_still_tail 12, (by kernel_rfl)
    change wpList _ _ _ _ _ w1.drew
    have HB1d := Lib.hid (show Blk w1.drew _ _ _ from HB1.out)
    go_wp2_with (refine wpList_store rfl 23 _ _ rfl m.b 1 93 _ [_] _ rfl rfl HB1d.out rfl sizebytes (by simp) (sl_one _ _ _) ?_)
    intro w2 hb2 hw2
    have HB2 := Lib.hid (show Blk w2 m.b 93 [.int .i64 D.room, .slice ao N cap, .int .i64 N, m.v0, m.v1, m.u0, m.u1] from hb2)
    have x5 := HB2.out.cells7.e5
    have x6 := HB2.out.cells7.e6
    have HW2 := Lib.hid hw2
    clear hb2 hw2 y1 y2
    go_wp2_with (refine wpList_store rfl 91 _ _ rfl m.b 3 93 _ [m.u0, m.u1] _ rfl rfl HB2.out rfl sizeslots (by simp) H2.out ?_)
    intro w3 hb3 hw3
    go_wp2
    go_end0
    exact ⟨rfl, FN.out w1 w2 w3 ⟨HW1.out.os, HW1.out.tape, HW1.out.output, HW1.out.size, HW1.out.block⟩ ⟨HW2.out.os, HW2.out.tape, HW2.out.output, HW2.out.size, HW2.out.block⟩ hw3 hb3⟩
  · have f1 : ¬ ((n : Int) - (s : Int) < k) := by omega
    have f2 : IntKind.i64.wrap ((s : Int) + k) = (N : Int) := by rw [IntWalk.i64_in _ (by omega)]; omega
    have HN := Lib.hid hN
    have Hl := Lib.hid hlen
    clear e h hn hs hlen hb hN hr
    go_enter Try.func37, Try.ntmps37
    go_wp2_with fail
    go_still_tail 20, (by kernel_rfl)
    have F2 := Lib.hid f2
    clear hw f1 f2
    change wpList _ _ _ _ _ w.drew
    have HBd := Lib.hid (show Blk w.drew _ _ _ from HB.out)
    go_wp2_with (refine wpList_store rfl 3 _ _ rfl m.b 2 93 _ [_] _ rfl rfl HBd.out rfl sizeint (by simp) (int_one _ _) ?_)
    intro w1 hb1 hw1
    try rw [F2.out] at hb1
    have HB1 := Lib.hid (show Blk w1 m.b 93 [.int .i64 D.room, m.lv, .int .i64 N, m.v0, m.v1, m.u0, m.u1] from hb1)
    have y1 := HB1.out.cells7.e1
    have y2 := HB1.out.cells7.e2
    have HW1 := Lib.hid hw1
    rw [E.out, ← Hn.out] at y1
    clear hb1 hw1 z1 z2
    have p1 : (N : Int) ≤ (cap : Int) := by omega
    have p2 : N ≤ cap := by omega
    have p3 : (0 : Int) ≤ (N : Int) := by omega
    go_wp2_with fail
    go_still_tail 12, (by kernel_rfl)
    change wpList _ _ _ _ _ w1.drew
    have HB1d := Lib.hid (show Blk w1.drew _ _ _ from HB1.out)
    go_wp2_with (refine wpList_store rfl 23 _ _ rfl m.b 1 93 _ [_] _ rfl rfl HB1d.out rfl sizebytes (by simp) (sl_one _ _ _) ?_)
    intro w2 hb2 hw2
    have HB2 := Lib.hid (show Blk w2 m.b 93 [.int .i64 D.room, .slice ao N cap, .int .i64 N, m.v0, m.v1, m.u0, m.u1] from hb2)
    have x5 := HB2.out.cells7.e5
    have x6 := HB2.out.cells7.e6
    have HW2 := Lib.hid hw2
    clear hb2 hw2 y1 y2
    go_wp2_with (refine wpList_store rfl 91 _ _ rfl m.b 3 93 _ [m.u0, m.u1] _ rfl rfl HB2.out rfl sizeslots (by simp) H2.out ?_)
    intro w3 hb3 hw3
    go_wp2
    go_end0
    exact ⟨rfl, FN.out w1 w2 w3 ⟨HW1.out.os, HW1.out.tape, HW1.out.output, HW1.out.size, HW1.out.block⟩ ⟨HW2.out.os, HW2.out.tape, HW2.out.output, HW2.out.size, HW2.out.block⟩ hw3 hb3⟩
  · have f1 : (n : Int) - (s : Int) < k := hk
    have f3 : ¬ k < 0 := by omega
    have f2 : IntKind.i64.wrap ((s : Int) + ((n : Int) - (s : Int))) = (N : Int) := by rw [IntWalk.i64_in _ (by omega)]; omega
    have HN := Lib.hid hN
    have Hl := Lib.hid hlen
    clear e h hn hs hlen hb hN hr
    go_enter Try.func37, Try.ntmps37
    go_wp2_with fail
    go_still_tail 20, (by kernel_rfl)
    have F2 := Lib.hid f2
    clear hw f1 f2
    change wpList _ _ _ _ _ w.drew
    have HBd := Lib.hid (show Blk w.drew _ _ _ from HB.out)
    go_wp2_with (refine wpList_store rfl 3 _ _ rfl m.b 2 93 _ [_] _ rfl rfl HBd.out rfl sizeint (by simp) (int_one _ _) ?_)
    intro w1 hb1 hw1
    try rw [F2.out] at hb1
    have HB1 := Lib.hid (show Blk w1 m.b 93 [.int .i64 D.room, m.lv, .int .i64 N, m.v0, m.v1, m.u0, m.u1] from hb1)
    have y1 := HB1.out.cells7.e1
    have y2 := HB1.out.cells7.e2
    have HW1 := Lib.hid hw1
    rw [E.out, ← Hn.out] at y1
    clear hb1 hw1 z1 z2
    have p1 : (N : Int) ≤ (cap : Int) := by omega
    have p2 : N ≤ cap := by omega
    have p3 : (0 : Int) ≤ (N : Int) := by omega
    go_wp2_with fail
    go_still_tail 12, (by kernel_rfl)
    change wpList _ _ _ _ _ w1.drew
    have HB1d := Lib.hid (show Blk w1.drew _ _ _ from HB1.out)
    go_wp2_with (refine wpList_store rfl 23 _ _ rfl m.b 1 93 _ [_] _ rfl rfl HB1d.out rfl sizebytes (by simp) (sl_one _ _ _) ?_)
    intro w2 hb2 hw2
    have HB2 := Lib.hid (show Blk w2 m.b 93 [.int .i64 D.room, .slice ao N cap, .int .i64 N, m.v0, m.v1, m.u0, m.u1] from hb2)
    have x5 := HB2.out.cells7.e5
    have x6 := HB2.out.cells7.e6
    have HW2 := Lib.hid hw2
    clear hb2 hw2 y1 y2
    go_wp2_with (refine wpList_store rfl 91 _ _ rfl m.b 3 93 _ [m.u0, m.u1] _ rfl rfl HB2.out rfl sizeslots (by simp) H2.out ?_)
    intro w3 hb3 hw3
    go_wp2
    go_end0
    exact ⟨rfl, FN.out w1 w2 w3 ⟨HW1.out.os, HW1.out.tape, HW1.out.output, HW1.out.size, HW1.out.block⟩ ⟨HW2.out.os, HW2.out.tape, HW2.out.output, HW2.out.size, HW2.out.block⟩ hw3 hb3⟩
end Go.Proofs.Ytbdgdmieggpmhaa.L3

namespace Go.Proofs.Ytbdgdmieggpmhaa.L3
open Go.ChangeShapes Go.WideShapes Go.ChangeAt Go.RowKit By Reg
set_option linter.unusedVariables false

section
variable {P : Program} {w : World} {ops : Array Oper} {rest : List Oper} {o : Oper} {a : Act} {Q : Exit → Act → World → Prop}
/-- append to a row of the call's own, and where the row lies then -/
theorem run_append_where (t ty e : TypeId) (i : TypeInfo) (ht : P.underlying t = some (.slice e)) (hi : P.info? e = some i) (hz : i.zero = some (.int .u8 0)) (hsize : i.size = 1) (hby : i.bytes = 1)
    (v : Value) (n : Nat) (xs : List Value) (hown : w.ownsRow 0 e 1 v n xs) (ad : Addr) (m c : Nat) (news : List Value) (hl : news.length = m) (hnews : ∀ j u, news[j]? = some u → w.cell? (ad.add j) = some u) (h1 : ∀ u ∈ news, u.oneCell' = true)
    (h63 : n + m ≤ 100000000) :
    ∃ v' w', (Builtin.append_ #[t, t] ty #[v, .slice (some ad) m c]).run P w = .ok v' w' ∧ w'.ownsRow 0 e 1 v' (n + m) (xs ++ news) ∧ w.grownBy w' v.ownBlock ∧ (∀ k, v'.ownBlock = some k → v.ownBlock = some k ∨ w.heap.size ≤ k) := by
  have hm : n + m ≤ maxLen := by unfold maxLen; omega
  obtain ⟨v', w', hr, h2, h3, h4⟩ := run_append_own (P := P) w 0 t ty e i (.int .u8 0) 1 1 ht hi hz hsize hby rfl (by decide) v n xs hown ad m c news (by omega) hnews h1 hm (by omega) (Nat.zero_le _)
  refine ⟨v', w', hr, h2, h3, ?_⟩
  rcases hown.2 with ⟨rfl, rfl⟩ | ⟨g, cap, cur, rfl, hbg, hg, hnc, hcm, hcs, htake⟩
  · have hx : xs = [] := List.eq_nil_of_length_eq_zero (by simpa using hown.1)
    subst hx
    obtain ⟨v2, w2, hr2, k2, _, _⟩ := run_append_own (P := P) w w.heap.size t ty e i (.int .u8 0) 1 1 ht hi hz hsize hby rfl (by decide) _ _ _ (World.ownsRow_nil w _ e 1) ad m c news (by omega) hnews h1 hm (by omega) (Nat.le_refl _)
    rw [hr] at hr2
    cases hr2
    intro k hk
    exact .inr (k2.lt k hk).1
  · by_cases hroom : n + m ≤ cap
    · have hr2 := run_append_room (P := P) w t ty e i ht hi g n cap cur hg ad m c news (by rw [hsize]; omega) hnews h1 hroom (by rw [hsize, hcs, hl]; omega)
      rw [hr] at hr2
      cases hr2
      intro k hk
      exact .inl hk
    · have holds : ∀ j u, xs[j]? = some u → w.cell? ((⟨g, 0, none⟩ : Addr).add j) = some u := hown.cells (g := g) rfl
      obtain ⟨v2, w2, hr2, k2, _⟩ := run_append_arg_grows (P := P) w t ty e i (.int .u8 0) 1 1 ht hi hz hsize hby rfl (by decide) ⟨g, 0, none⟩ n cap xs hown.1 holds ad m c news (by omega) hnews (by omega) hm (by omega)
      rw [hr] at hr2
      cases hr2
      intro k hk
      exact .inr (k2.lt k hk).1

theorem wpList_append_log (hg : o.guard = none) (s x : Operand) (t : TypeId) (hop : o.op = Op.call { callee := Callee.builtin Builtin.append, args := #[s, x], argTypes := #[t, t] })
    (e : TypeId) (i : TypeInfo) (ht : P.underlying t = some (.slice e)) (hi : P.info? e = some i) (hz : i.zero = some (.int .u8 0)) (hsize : i.size = 1) (hby : i.bytes = 1)
    (v : Value) (n : Nat) (xs : List Value) (hs : a.eval s = v) (hown : w.ownsRow 0 e 1 v n xs) (v2 : Value) (ys : List UInt8) (hx : a.eval x = v2) (hb : Bs w v2 ys) (hl : n + ys.length ≤ 100000000)
    (hK : ∀ v' w', w'.ownsRow 0 e 1 v' (n + ys.length) (xs ++ ys.map c8) → w.grownBy w' v.ownBlock → (∀ k, v'.ownBlock = some k → v.ownBlock = some k ∨ w.heap.size ≤ k) → wpList P ops Q rest (a.put o.dst v') w') :
    wpList P ops Q (o :: rest) a w := by
  obtain ⟨ao, cap, rfl, e2, e3, e4, e5⟩ := hb
  cases ao with
  | some ad =>
    obtain ⟨v', w', hr, h2, h3, h4⟩ := run_append_where (P := P) t o.type e i ht hi hz hsize hby v n xs hown ad ys.length cap (ys.map c8) (by simp) (e5 ad rfl) c8_one hl
    refine wpList_plain hg fun _ hK' => ?_
    unfold Oper.wp execOp
    simp only [hop, resolve, invoke, builtin, Sem.run_bind, Sem.run_pure, Result.andThen_ok, List.map_toArray, List.map_cons, List.map_nil, hs, hx, hr]
    exact hK' _ _ (hK v' w' h2 h3 h4)
  | none =>
    have hc := e4 rfl
    have h0 : ys.length = 0 := by omega
    have hy : ys = [] := List.eq_nil_of_length_eq_zero h0
    subst hy
    subst hc
    exact wpList_append_own_none hg s x t hop 0 e i 1 ht hi v n xs hs hown hx (hK v w (by simpa using hown) ⟨rfl, rfl, rfl, Nat.le_refl _, fun _ _ _ => rfl⟩ (fun k hk => .inl hk))
end

theorem append_log (D : Dk) (b : List UInt8) : (D.append b).log = D.log ++ b := by simp [Dk.append, Dk.log]

theorem append_full (m : Mem) (D : Dk) (w : World) (vb : Value) (b : List UInt8) (h : HeldK w m D) (hb : Bs w vb b) (hf : D.room < D.log.length + b.length) :
    Calls Try.prog 43 #[.pointer (some ⟨m.b, 0, none⟩), vb] w fun e w' => e = .returned (.int .i64 4) ∧ Rb w w' := by
  obtain ⟨ao, cap, rfl, h2, h3⟩ := hb.len
  have C := Lib.hid (room_any m D w h)
  obtain ⟨q1, q2, -⟩ := h.ok
  generalize D.log.length = n at *
  generalize D.room = r at *
  have f1 : (b.length : Int) > (r : Int) - (n : Int) := by omega
  clear h hb
  go_enter Try.func43, Try.ntmps43
  go_wp2_with fail
  refine C.out.mono ?_
  rintro e w' ⟨rfl, hr⟩
  have HR := Lib.hid hr
  clear hr
  go_wp2
  go_ret
  exact ⟨rfl, HR.out⟩

set_option maxRecDepth 100000 in
theorem append_fits (m : Mem) (D : Dk) (w : World) (vb : Value) (b : List UInt8) (h : HeldK w m D) (hb : Bs w vb b) (hf : D.log.length + b.length ≤ D.room) :
    Calls Try.prog 43 #[.pointer (some ⟨m.b, 0, none⟩), vb] w fun e w' => e = .returned (.int .i64 0) ∧ Turned w m (D.append b) w' := by
  have C := Lib.hid (room_any m D w h)
  obtain ⟨q1, q2, -⟩ := h.ok
  have H := Lib.hid h
  have HB := Lib.hid hb
  obtain ⟨ao, cap, rfl, h2, h3⟩ := hb.len
  obtain ⟨i0, hi0, hz0, hz1, hz2⟩ := info_parts info8
  have Hi := Lib.hid hi0
  have Hz := Lib.hid hz0
  have Hz1 := Lib.hid hz1
  have Hz2 := Lib.hid hz2
  clear hi0 hz0 hz1 hz2
  obtain ⟨n, hn⟩ : ∃ n, n = D.log.length := ⟨_, rfl⟩
  rw [← hn] at C q1 hf
  have f1 : ¬ (b.length : Int) > (D.room : Int) - (n : Int) := by omega
  have Hn := Lib.hid hn
  clear h hb hn
  go_enter Try.func43, Try.ntmps43
  go_wp2_with fail
  refine C.out.mono ?_
  rintro e w1 ⟨rfl, hr⟩
  have h1 := H.out.rb hr
  have z1 := h1.blk.cells7.e1
  have Ho := Lib.hid h1.own
  have HB1 := Lib.hid (HB.out.below hr)
  have H1 := Lib.hid h1
  have HR := Lib.hid hr
  clear hr h1 f1
  go_wp2_with (refine wpList_append_log rfl _ _ 23 rfl 5 i0 Try.underlying23 Hi.out Hz.out Hz1.out Hz2.out _ _ _ rfl Ho.out _ b rfl HB1.out ?_ ?_)
  · rw [← Hn.out]; omega
  intro lv w2 ho hg hwh
  have hk2 : Blk w2 m.b 93 [.int .i64 D.room, m.lv, .int .i64 D.sure.length, m.v0, m.v1, m.u0, m.u1] := H1.out.blk.same (hg.block _ H1.out.blk.lt fun e => H1.out.ne e.symm)
  have HK2 := Lib.hid hk2
  have HO := Lib.hid ho
  have HG := Lib.hid hg
  have HW := Lib.hid hwh
  have h1c : ∀ v ∈ [lv], v.oneCell' = true := by
    intro v hv
    simp at hv; subst hv
    rcases ho.2 with ⟨rfl, _⟩ | ⟨_, _, _, rfl, _⟩ <;> rfl
  have hlc : lv.cells = #[lv] := by rcases ho.2 with ⟨rfl, _⟩ | ⟨_, _, _, rfl, _⟩ <;> rfl
  have H1C := Lib.hid h1c
  have HLC := Lib.hid hlc
  clear hk2 ho hg hwh h1c hlc z1
  go_wp2_with (refine wpList_store rfl 23 _ _ rfl m.b 1 93 _ [lv] _ rfl rfl HK2.out HLC.out sizebytes (by simp) H1C.out ?_)
  intro w3 hb3 hw3
  go_wp2
  go_ret
  refine ⟨rfl, ⟨m.b, lv, m.v0, m.v1, m.u0, m.u1⟩, ?_, ⟨rfl, fun k hk => ?_⟩, ?_, fun k hk => ?_⟩
  · have h1 := H1.out
    have hne : ∀ k, lv.ownBlock = some k → k ≠ m.b := fun k hk e => by
      subst e
      rcases HW.out _ hk with h | h
      · exact h1.ne h
      · have := h1.blk.lt; omega
    have hmv : ∀ v, VOff m v → (∀ k, v.ownBlock = some k → k < w1.heap.size) → VOff ⟨m.b, lv, m.v0, m.v1, m.u0, m.u1⟩ v := fun v hv hl k hk ht => by
      rcases ht with rfl | ht
      · exact hv _ hk (.inl rfl)
      · rcases HW.out _ ht with h | h
        · exact hv k hk (.inr h)
        · have := hl k hk; omega
    have hsm : ∀ v, VOff m v → (∀ k, v.ownBlock = some k → k < w1.heap.size) → ∀ k, v.ownBlock = some k → w3.heap[k]? = w1.heap[k]? := fun v hv hl k hk => by
      rw [hw3.block k (fun e => hv k hk (.inl e)), HG.out.block k (hl k hk) (fun e => hv k hk (.inr e.symm))]
    obtain ⟨l0, l1, l2, l3⟩ := h1.lts
    refine ⟨hb3, ?_, fun e => hne _ e rfl, Bs.same h1.b0 (hsm _ h1.o0 l0), Bs.same h1.b1 (hsm _ h1.o1 l1), Bs.same h1.c0 (hsm _ h1.q0 l2), Bs.same h1.c1 (hsm _ h1.q1 l3), hmv _ h1.o0 l0, hmv _ h1.o1 l1, hmv _ h1.q0 l2, hmv _ h1.q1 l3, ?_, Dk.append_ok h1.ok (by rw [← Hn.out]; exact hf)⟩
    · rw [append_log, List.map_append, List.length_append]
      exact owns_same HO.out fun k hk => hw3.block k (hne k hk)
    · intro k hk
      have hs3 := hw3.size
      have hs2 := HG.out.size
      rcases hk with (rfl | hk) | hk
      · have := h1.blk.lt; show m.b < _; omega
      · have := (HO.out.lt k hk).2; omega
      · have := four l0 l1 l2 l3 k hk; omega
  · rcases HW.out k hk with h | h
    · exact .inl h
    · have := HR.out.size; exact .inr (by omega)
  · refine ⟨hw3.os.trans (HG.out.os.trans HR.out.os), hw3.tape.trans (HG.out.tape.trans HR.out.tape), hw3.output.trans (HG.out.output.trans HR.out.output), ?_, fun k hk ht => ?_⟩
    · have := HR.out.size; have := HG.out.size; have := hw3.size; omega
    · have hs := HR.out.size
      rw [hw3.block k (fun e => ht (.inl e)), HG.out.block k (by omega) (fun e => ht (.inr e.symm)), HR.out.block k hk]
  · rcases hk with (hk | hk) | hk
    · exact .inl (.inl (.inl hk))
    · rcases HW.out k hk with h | h
      · exact .inl (.inl (.inr h))
      · have := HR.out.size; exact .inr (by omega)
    · exact .inl (.inr hk)
end Go.Proofs.Ytbdgdmieggpmhaa.L3

namespace Go.Proofs.Ytbdgdmieggpmhaa.L3
open Go.ChangeShapes Go.WideShapes Go.ChangeAt Go.RowKit By Reg
set_option linter.unusedVariables false

theorem wrote_setCell (w : World) (N i : Nat) (v : Value) : Wrote N w (w.setCell ⟨N, i, none⟩ v) :=
  ⟨rfl, rfl, rfl, by simp [World.setCell], fun k hk => Below.heap_setCell w _ v k hk⟩
theorem Blk.setCell {w : World} {N : Nat} {T : TypeId} {cs : List Value} (h : Blk w N T cs) (i : Nat) (v : Value) : Blk (w.setCell ⟨N, i, none⟩ v) N T (cs.set i v) := by
  unfold Blk at h ⊢
  simp only [World.setCell, Array.getElem?_modify, h]
  simp
theorem Turned.of_rb {w w1 w2 : World} {m : Mem} {D : Dk} (hr : Rb w w1) (h : TurnedB w.heap.size w1 m D w2) : Turned w m D w2 := by
  obtain ⟨m', h1, h2, h3, h4⟩ := h
  exact ⟨m', h1, (New.refl w m).trans hr.size h2, (Kp.of_rb hr).trans (New.refl w m) h3, h4⟩

theorem write_no (m : Mem) (w : World) (n : Int) (vb : Value) (hn : decide (0 ≤ n ∧ n < 2) = false) :
    Calls Try.prog 63 #[.pointer (some ⟨m.b, 0, none⟩), .int .i64 n, vb] w fun e w' => e = .returned (.int .i64 1) ∧ w = w' := by
  have H := Lib.hid hn
  clear hn
  go_enter Try.func63, Try.ntmps63
  go_wp2_with fail
  refine (isslot_any _ _).mono ?_
  rintro e w' ⟨rfl, rfl⟩
  rw [H.out]
  go_wp2
  go_ret
  exact ⟨rfl, rfl⟩


theorem own_off {w w1 : World} {m : Mem} {D : Dk} {g n cap : Nat} {e : TypeId} {xs : List Value} (h : HeldK w m D) (hn : w1.ownsRow w.heap.size e 1 (.slice (some ⟨g, 0, none⟩) n cap) n xs) : VOff m (.slice (some ⟨g, 0, none⟩) n cap) := fun k hk ht => by
  have h1 := h.lt k (.inl ht)
  have h2 := (hn.lt k hk).1
  omega

set_option maxRecDepth 100000 in
theorem write_0 (m : Mem) (D : Dk) (w : World) (vb : Value) (b : List UInt8) (h : HeldK w m D) (hb : Bs w vb b) (hl : b.length ≤ 1000) :
    Calls Try.prog 63 #[.pointer (some ⟨m.b, 0, none⟩), .int .i64 0, vb] w fun e w' => e = .returned (.int .i64 0) ∧ Turned w m (D.write0 b) w' := by
  have H := Lib.hid h
  have HB := Lib.hid hb
  clear h hb
  go_enter Try.func63, Try.ntmps63
  go_wp2_with fail
  refine (isslot_any _ _).mono ?_
  rintro e w' ⟨rfl, rfl⟩
  go_wp2_with fail
  go_region_with ((go_at_call 62; refine (copied_any _ b _ (Bs.below (Rb.drew _) HB.out) (by omega)).mono ?_; rintro e w1 ⟨g, cap, rfl, h2, h3⟩; have hr := Rb.trans _ _ _ (Rb.drew w) h3; have y3 := (H.out.rb hr).blk.cells7.e3; have f3 := (H.out.rb hr).blk.frozen 3; have H2 := Lib.hid h2; have HR := Lib.hid hr; clear h2 h3 hr))
  go_wp2
  go_ret
  have h1 := H.out.rb HR.out
  obtain ⟨l0, l1, l2, l3⟩ := h1.lts
  obtain ⟨s0, s1, s2, s3⟩ := h1.hs w.heap.size
  refine ⟨rfl, Turned.of_rb HR.out (h1.wrote w.heap.size (wrote_setCell w1 m.b 3 _) ⟨m.b, m.lv, .slice (some ⟨g, 0, none⟩) b.length cap, m.v1, m.u0, m.u1⟩ rfl (h1.blk.setCell 3 _) h1.own (.inr rfl) (Bs.of_owns H2.out) h1.b1 h1.c0 h1.c1 (own_off H.out H2.out) h1.o1 h1.q0 h1.q1 (four (fun k hk => (H2.out.lt k hk).2) l1 l2 l3) (fourT (fun k hk => .inr (H2.out.lt k hk).1) s1 s2 s3) (Dk.write0_ok h1.ok hl))⟩
set_option maxRecDepth 100000 in
theorem write_1 (m : Mem) (D : Dk) (w : World) (vb : Value) (b : List UInt8) (h : HeldK w m D) (hb : Bs w vb b) (hl : b.length ≤ 1000) :
    Calls Try.prog 63 #[.pointer (some ⟨m.b, 0, none⟩), .int .i64 1, vb] w fun e w' => e = .returned (.int .i64 0) ∧ Turned w m (D.write1 b) w' := by
  have H := Lib.hid h
  have HB := Lib.hid hb
  clear h hb
  go_enter Try.func63, Try.ntmps63
  go_wp2_with fail
  refine (isslot_any _ _).mono ?_
  rintro e w' ⟨rfl, rfl⟩
  go_wp2_with fail
  go_region_with ((go_at_call 62; refine (copied_any _ b _ (Bs.below (Rb.drew _) HB.out) (by omega)).mono ?_; rintro e w1 ⟨g, cap, rfl, h2, h3⟩; have hr := Rb.trans _ _ _ (Rb.drew w) h3; have y3 := (H.out.rb hr).blk.cells7.e4; have f3 := (H.out.rb hr).blk.frozen 4; have H2 := Lib.hid h2; have HR := Lib.hid hr; clear h2 h3 hr))
  go_wp2
  go_ret
  have h1 := H.out.rb HR.out
  obtain ⟨l0, l1, l2, l3⟩ := h1.lts
  obtain ⟨s0, s1, s2, s3⟩ := h1.hs w.heap.size
  refine ⟨rfl, Turned.of_rb HR.out (h1.wrote w.heap.size (wrote_setCell w1 m.b 4 _) ⟨m.b, m.lv, m.v0, .slice (some ⟨g, 0, none⟩) b.length cap, m.u0, m.u1⟩ rfl (h1.blk.setCell 4 _) h1.own (.inr rfl) h1.b0 (Bs.of_owns H2.out) h1.c0 h1.c1 h1.o0 (own_off H.out H2.out) h1.q0 h1.q1 (four l0 (fun k hk => (H2.out.lt k hk).2) l2 l3) (fourT s0 (fun k hk => .inr (H2.out.lt k hk).1) s2 s3) (Dk.write1_ok h1.ok hl))⟩

theorem sizedisk : (Try.prog.info? 93).map (·.size) = some 7 := by kernel_rfl
/-- what a clone is -/
def CloneK (w : World) (m : Mem) (D : Dk) (e : Ending) (w' : World) : Prop :=
  ∃ lv, e = .returned (.pointer (some ⟨w.heap.size, 0, none⟩)) ∧ HeldK w' ⟨w.heap.size, lv, m.v0, m.v1, m.u0, m.u1⟩ D ∧ (∀ k, lv.ownBlock = some k → w.heap.size < k) ∧ Rb w w'

set_option maxRecDepth 100000 in
theorem clone_any (m : Mem) (D : Dk) (w : World) (h : HeldK w m D) : Calls Try.prog 38 #[.pointer (some ⟨m.b, 0, none⟩)] w (CloneK w m D) := by
  have Z := Lib.hid h.blk.cells7
  obtain ⟨z0, z1, z2, z3, z4, z5, z6⟩ := h.blk.cells7
  have H := Lib.hid h
  have h7 : ∀ v ∈ [Value.int .i64 D.room, m.lv, .int .i64 D.sure.length, m.v0, m.v1, m.u0, m.u1], v.oneCell' = true := by
    intro v hv
    simp at hv
    rcases hv with rfl | rfl | rfl | rfl | rfl | rfl | rfl
    · rfl
    · exact (bs_one (Bs.of_owns h.own)).1
    · rfl
    · exact (bs_one h.b0).1
    · exact (bs_one h.b1).1
    · exact (bs_one h.c0).1
    · exact (bs_one h.c1).1
  have H7 := Lib.hid h7
  clear h h7
  go_enter Try.func38, Try.ntmps38
  go_wp2_with (refine wpList_store rfl 93 _ _ rfl w.heap.size 0 93 _ [_, _, _, _, _, _, _] _ rfl rfl (Blk.new w 93 [_, _, _, _, _, _, _]) rfl sizedisk (by simp) H7.out ?_)
  intro w1 hb1 hw1
  have hr1 : Rb w w1 := Wrote.below ((Below.refl _ w).alloc (Nat.le_refl _) _) hw1 (Nat.le_refl _)
  have h1 := H.out.rb hr1
  have y1 := h1.blk.cells7.e1
  have C := Lib.hid (copied_any m.lv D.log w1 (Bs.of_owns h1.own) (by obtain ⟨h4, h5, -⟩ := h1.ok; omega))
  have HB1 := Lib.hid hb1
  have HR1 := Lib.hid hr1
  clear z0 z1 z2 z3 z4 z5 z6 h1 hb1 hw1 hr1
  go_wp2_with fail
  refine C.out.mono ?_
  rintro e w2 ⟨g, cap, rfl, h2, h3⟩
  have HB2 := Lib.hid (HB1.out.rb h3)
  have H2 := Lib.hid h2
  have HR2 := Lib.hid (Rb.trans _ _ _ HR1.out h3)
  clear h2 h3 y1
  go_wp2_with (refine wpList_store rfl 23 _ _ rfl w.heap.size 1 93 _ [_] _ rfl rfl HB2.out rfl sizebytes (by simp) (sl_one _ _ _) ?_)
  intro w3 hb3 hw3
  go_wp2
  go_ret
  have hr3 : Rb w w3 := Wrote.below HR2.out hw3 (Nat.le_refl _)
  have h3 := H.out.rb hr3
  obtain ⟨l0, l1, l2, l3⟩ := H.out.lts
  have hN1 : w.heap.size < w1.heap.size := HB1.out.lt
  have hg : w.heap.size < g := by have := (H2.out.lt g rfl).1; omega
  have hlv : ∀ k, (Value.slice (some ⟨g, 0, none⟩) D.log.length cap).ownBlock = some k → k = g := fun k hk => by simp [Value.ownBlock] at hk; exact hk.symm
  have hoff : ∀ v : Value, (∀ k, v.ownBlock = some k → k < w.heap.size) → VOff ⟨w.heap.size, .slice (some ⟨g, 0, none⟩) D.log.length cap, m.v0, m.v1, m.u0, m.u1⟩ v := fun v hv k hk ht => by
    have := hv k hk
    rcases ht with rfl | ht
    · exact Nat.lt_irrefl _ this
    · have := hlv k ht; omega
  refine ⟨_, rfl, ⟨hb3, owns_same (World.ownsRow.mono H2.out (Nat.zero_le _)) fun k hk => hw3.block k (by have := hlv k hk; omega), fun e => ?_, h3.b0, h3.b1, h3.c0, h3.c1, hoff _ l0, hoff _ l1, hoff _ l2, hoff _ l3, fun k hk => ?_, h3.ok⟩, fun k hk => ?_, hr3⟩
  · have := hlv _ e; simp at this; omega
  · have s3 := hw3.size
    have s2 := HR2.out.size
    rcases hk with (rfl | hk) | hk
    · exact hb3.lt
    · have := (H2.out.lt k hk).2; omega
    · have := four l0 l1 l2 l3 k hk; omega
  · have := hlv k hk; omega
end Go.Proofs.Ytbdgdmieggpmhaa.L3

namespace Go.Proofs.Ytbdgdmieggpmhaa.L3
open Go.ChangeShapes Go.WideShapes Go.ChangeAt Go.RowKit By Reg
set_option linter.unusedVariables false

def Rm.has (r : Rm) (k : Nat) : Prop := r.nv.ownBlock = some k ∨ r.sv.ownBlock = some k
/-- what a call that makes a disk of the document leaves -/
def RefQ (w : World) (old : Nat → Prop) (D : Dk) (r' : Rm) (w' : World) : Prop := HeldR w' r' D ∧ Rb w w' ∧ ∀ k, r'.has k → old k ∨ w.heap.size ≤ k
def RefE (w : World) (old : Nat → Prop) (D : Dk) (e : Ending) (w' : World) : Prop := ∃ r', e = .returned (refv D r') ∧ RefQ w old D r' w'
def RefT (w : World) (old : Nat → Prop) (D : Dk) (c : Int) (e : Ending) (w' : World) : Prop := ∃ r', e = .returned (.tuple #[refv D r', .int .i64 c]) ∧ RefQ w old D r' w'

abbrev rawv (n : Int) (a b : ByteArray) (nv sv : Value) : Value := .agg #[.int .i64 n, .string a, .string b, nv, sv]

set_option maxRecDepth 100000 in
theorem rlog_raw (n : Int) (a b : ByteArray) (nv sv : Value) (w : World) (hs : ¬ 9223372036854775807 < a.size + b.size) : Calls Try.prog 32 #[rawv n a b nv sv] w fun e w' => e = .returned (.string (a ++ b)) ∧ Rb w w' := by
  go_enter Try.func32, Try.ntmps32
  go_wp2
  go_ret
  exact ⟨rfl, (Below.refl _ _).alloc (Nat.le_refl _) _⟩
theorem sum_fits {D : Dk} (h : D.Ok) : ¬ 9223372036854775807 < (str D.sure).size + (str D.rest).size := by
  obtain ⟨h1, h2, -⟩ := h
  rw [D.log_len] at h1
  rw [str_size, str_size]
  omega
theorem str_log (D : Dk) : str D.sure ++ str D.rest = str D.log := str_append _ _
theorem rlog_any (D : Dk) (r : Rm) (w : World) (h : D.Ok) : Calls Try.prog 32 #[refv D r] w fun e w' => e = .returned (.string (str D.log)) ∧ Rb w w' := by
  rw [← str_log]
  exact rlog_raw _ _ _ _ _ w (sum_fits h)

def newW (w : World) (n : Int) : World := ((w.alloc (.cells #[.int .i64 n, .string ⟨#[]⟩, .string ⟨#[]⟩, .slice (some ⟨w.heap.size + 1, 0, none⟩) 2 2, .slice (some ⟨w.heap.size + 1 + 1, 0, none⟩) 2 2] 50)).alloc (.cells #[.string ⟨#[]⟩, .string ⟨#[]⟩] 9)).alloc (.cells #[.string ⟨#[]⟩, .string ⟨#[]⟩] 9)
theorem rnew_end (w : World) (n : Nat) : RefE w (fun _ => False) (Dk.new n) (.returned (rawv n ⟨#[]⟩ ⟨#[]⟩ (.slice (some ⟨w.heap.size + 1, 0, none⟩) 2 2) (.slice (some ⟨w.heap.size + 1 + 1, 0, none⟩) 2 2))) (newW w n) := by
  have b1 : Blk (newW w n) (w.heap.size + 1) 9 [.string ⟨#[]⟩, .string ⟨#[]⟩] := by
    have h := Blk.new (w.alloc (.cells #[.int .i64 n, .string ⟨#[]⟩, .string ⟨#[]⟩, .slice (some ⟨w.heap.size + 1, 0, none⟩) 2 2, .slice (some ⟨w.heap.size + 1 + 1, 0, none⟩) 2 2] 50)) 9 [.string ⟨#[]⟩, .string ⟨#[]⟩]
    rw [show (w.alloc (.cells #[.int .i64 n, .string ⟨#[]⟩, .string ⟨#[]⟩, .slice (some ⟨w.heap.size + 1, 0, none⟩) 2 2, .slice (some ⟨w.heap.size + 1 + 1, 0, none⟩) 2 2] 50)).heap.size = w.heap.size + 1 by simp] at h
    exact h.same (heap_alloc_old _ _ (by simp))
  have b2 : Blk (newW w n) (w.heap.size + 1 + 1) 9 [.string ⟨#[]⟩, .string ⟨#[]⟩] := by
    have h := Blk.new ((w.alloc (.cells #[.int .i64 n, .string ⟨#[]⟩, .string ⟨#[]⟩, .slice (some ⟨w.heap.size + 1, 0, none⟩) 2 2, .slice (some ⟨w.heap.size + 1 + 1, 0, none⟩) 2 2] 50)).alloc (.cells #[.string ⟨#[]⟩, .string ⟨#[]⟩] 9)) 9 [.string ⟨#[]⟩, .string ⟨#[]⟩]
    simpa [newW] using h
  refine ⟨⟨.slice (some ⟨w.heap.size + 1, 0, none⟩) 2 2, .slice (some ⟨w.heap.size + 1 + 1, 0, none⟩) 2 2⟩, rfl, ⟨⟨_, _, rfl, Nat.le_refl _, by decide, ?_, ?_⟩, ⟨_, _, rfl, Nat.le_refl _, by decide, ?_, ?_⟩⟩, ?_, ?_⟩
  · exact b1.cell 0
  · exact b1.cell 1
  · exact b2.cell 0
  · exact b2.cell 1
  · exact (((Below.refl _ _).alloc (Nat.le_refl _) _).alloc (by simp) _).alloc (by simp; omega) _
  · intro k hk
    rcases hk with hk | hk <;> simp [Value.ownBlock] at hk <;> exact .inr (by omega)
set_option maxRecDepth 100000 in
theorem rnew_any (n : Int) (w : World) : Calls Try.prog 24 #[.int .i64 n] w (RefE w (fun _ => False) (Dk.new (clampN n))) := by
  by_cases h0 : n < 0
  · have e : clampN n = 0 := by unfold clampN; omega
    have F := Lib.hid (rnew_end w 0)
    rw [← e] at F
    rw [e] at F ⊢
    go_enter Try.func24, Try.ntmps24
    go_wp2
    exact bodyPost_ret (v := rawv 0 ⟨#[]⟩ ⟨#[]⟩ (.slice (some ⟨w.heap.size + 1, 0, none⟩) 2 2) (.slice (some ⟨w.heap.size + 1 + 1, 0, none⟩) 2 2)) (by simp [results, Try.results24, go_sem]) rfl F.out
  · by_cases h1 : 1048576 < n
    · have e : clampN n = 1048576 := by unfold clampN; omega
      rw [e]
      have F := Lib.hid (rnew_end w 1048576)
      clear e
      go_enter Try.func24, Try.ntmps24
      go_wp2
      exact bodyPost_ret (v := rawv 1048576 ⟨#[]⟩ ⟨#[]⟩ (.slice (some ⟨w.heap.size + 1, 0, none⟩) 2 2) (.slice (some ⟨w.heap.size + 1 + 1, 0, none⟩) 2 2)) (by simp [results, Try.results24, go_sem]) rfl F.out
    · obtain ⟨c, rfl⟩ := Int.eq_ofNat_of_zero_le (by omega : 0 ≤ n)
      have e : clampN c = c := by unfold clampN; omega
      rw [e]
      have F := Lib.hid (rnew_end w c)
      clear e
      go_enter Try.func24, Try.ntmps24
      go_wp2
      exact bodyPost_ret (v := rawv c ⟨#[]⟩ ⟨#[]⟩ (.slice (some ⟨w.heap.size + 1, 0, none⟩) 2 2) (.slice (some ⟨w.heap.size + 1 + 1, 0, none⟩) 2 2)) (by simp [results, Try.results24, go_sem]) rfl F.out

/-! ### the box of the receiver and the one of the result -/
structure Two (w w' : World) (x y : List Value) : Prop where
  x : Blk w' w.heap.size 50 x
  y : Blk w' (w.heap.size + 1) 50 y
  rb : Rb w w'
theorem Two.rbs {w w1 w2 : World} {x y : List Value} (h : Two w w1 x y) (hb : Rb w1 w2) : Two w w2 x y := ⟨h.x.rb hb, h.y.rb hb, Rb.trans _ _ _ h.rb hb⟩
theorem Two.storeX {w w1 w2 : World} {x x' y : List Value} (h : Two w w1 x y) (hb : Blk w2 w.heap.size 50 x') (hw : Wrote w.heap.size w1 w2) : Two w w2 x' y :=
  ⟨hb, h.y.same (hw.block _ (by omega)), Wrote.below h.rb hw (Nat.le_refl _)⟩
theorem Two.storeY {w w1 w2 : World} {x y y' : List Value} (h : Two w w1 x y) (hb : Blk w2 (w.heap.size + 1) 50 y') (hw : Wrote (w.heap.size + 1) w1 w2) : Two w w2 x y' :=
  ⟨h.x.same (hw.block _ (by omega)), hb, Wrote.below h.rb hw (by omega)⟩
abbrev zero5 : List Value := [.int .i64 0, .string ⟨#[]⟩, .string ⟨#[]⟩, .slice none 0 0, .slice none 0 0]
theorem Two.start (w : World) (x y : List Value) : Two w ((w.alloc (.cells x.toArray 50)).alloc (.cells y.toArray 50)) x y := by
  refine ⟨(Blk.new w _ x).same (heap_alloc_old _ _ (by simp)), ?_, ((Below.refl _ _).alloc (Nat.le_refl _) _).alloc (by simp) _⟩
  have := Blk.new (w.alloc (.cells x.toArray 50)) 50 y
  simpa using this
structure Cells5 (w : World) (b : Nat) (a0 a1 a2 a3 a4 : Value) : Prop where
  e0 : w.cell? ⟨b, 0, none⟩ = some a0
  e1 : w.cell? ⟨b, 1, none⟩ = some a1
  e2 : w.cell? ⟨b, 2, none⟩ = some a2
  e3 : w.cell? ⟨b, 3, none⟩ = some a3
  e4 : w.cell? ⟨b, 4, none⟩ = some a4
theorem Blk.cells5 {w : World} {b : Nat} {T : TypeId} {a0 a1 a2 a3 a4 : Value} (h : Blk w b T [a0, a1, a2, a3, a4]) : Cells5 w b a0 a1 a2 a3 a4 :=
  ⟨h.cell 0, h.cell 1, h.cell 2, h.cell 3, h.cell 4⟩
theorem str_one (s : ByteArray) : ∀ v ∈ [Value.string s], v.oneCell' = true := by simp [Value.oneCell']
theorem sizestr : (Try.prog.info? 9).map (·.size) = some 1 := by kernel_rfl
theorem sizestrs : (Try.prog.info? 37).map (·.size) = some 1 := by kernel_rfl
theorem sizeref : (Try.prog.info? 50).map (·.size) = some 5 := by kernel_rfl

theorem one_of {v : Value} (h : v.oneCell' = true) : ∀ u ∈ [v], u.oneCell' = true := by simp [h]
theorem five_one {n : Int} {a b : ByteArray} {nv sv : Value} (h : nv.oneCell' = true) (k : sv.oneCell' = true) : ∀ v ∈ [Value.int .i64 n, .string a, .string b, nv, sv], v.oneCell' = true := by
  intro v hv
  simp at hv
  rcases hv with rfl | rfl | rfl | rfl | rfl
  · rfl
  · rfl
  · rfl
  · exact h
  · exact k

set_option maxRecDepth 100000 in
theorem rsync_raw (n : Int) (a b : ByteArray) (nv sv : Value) (w : World) (hs : ¬ 9223372036854775807 < a.size + b.size) (hn : nv.cells = #[nv] ∧ nv.oneCell' = true) (hv : sv.cells = #[sv] ∧ sv.oneCell' = true) :
    Calls Try.prog 58 #[rawv n a b nv sv] w fun e w' => e = .returned (rawv n (a ++ b) ⟨#[]⟩ nv nv) ∧ Rb w w' := by
  have HC := Lib.hid hn.1
  have HO := Lib.hid hn.2
  clear hn hv
  go_enter Try.func58, Try.ntmps58
  go_wp2_with fail
  refine (rlog_raw n a b nv sv _ hs).mono ?_
  rintro e w1 ⟨rfl, hr⟩
  have T1 := Lib.hid ((Two.start w [.int .i64 n, .string a, .string b, nv, sv] zero5).rbs hr)
  clear hr
  go_wp2_with (refine wpList_store rfl 9 _ _ rfl w.heap.size 1 _ _ [_] _ rfl rfl T1.out.x rfl sizestr (by simp) (str_one _) ?_)
  intro w2 hb hw
  have T2 := Lib.hid (T1.out.storeX hb hw)
  clear T1 hb hw
  go_wp2_with (refine wpList_store rfl 9 _ _ rfl w.heap.size 2 _ _ [_] _ rfl rfl T2.out.x rfl sizestr (by simp) (str_one _) ?_)
  intro w3 hb hw
  have T3 := Lib.hid (T2.out.storeX hb hw)
  have z3 := T3.out.x.cells5.e3
  clear T2 hb hw
  go_wp2_with (refine wpList_store rfl 37 _ _ rfl w.heap.size 4 _ _ [nv] _ rfl rfl T3.out.x HC.out sizestrs (by simp) (one_of HO.out) ?_)
  intro w4 hb hw
  have T4 := Lib.hid (T3.out.storeX hb hw)
  obtain ⟨y0, y1, y2, y3, y4⟩ := T4.out.x.cells5
  clear T3 hb hw z3
  go_wp2_with (refine wpList_store rfl 50 _ _ rfl (w.heap.size + 1) 0 _ _ [_, _, _, _, _] _ rfl rfl T4.out.y rfl sizeref (by simp) (five_one HO.out HO.out) ?_)
  intro w5 hb hw
  have T5 := T4.out.storeY hb hw
  obtain ⟨x0, x1, x2, x3, x4⟩ := T5.y.cells5
  have R5 := Lib.hid T5.rb
  clear T4 hb hw T5 y0 y1 y2 y3 y4
  go_wp2
  exact bodyPost_ret (v := rawv n (a ++ b) ⟨#[]⟩ nv nv) (by simp [results, Try.results58, go_sem, x0, x1, x2, x3, x4]) rfl ⟨rfl, R5.out⟩
end Go.Proofs.Ytbdgdmieggpmhaa.L3

namespace Go.Proofs.Ytbdgdmieggpmhaa.L3
open Go.ChangeShapes Go.WideShapes Go.ChangeAt Go.RowKit By Reg
set_option linter.unusedVariables false

theorem put_call {f : FuncId} {vs : Array Value} {w : World} {E : TypeId} {xs : List UInt8} (h : Calls Try.prog f vs w (Put w E xs)) :
    Calls Try.prog f vs w fun e w'' => ∃ v, e = .returned v ∧ Rb w w'' ∧ (bsSpec xs).V w'' v :=
  h.mono fun _ _ ⟨_, _, he, ho, hb⟩ => ⟨_, he, hb, Bs.of_owns ho⟩
theorem val_call {f : FuncId} {vs : Array Value} {w : World} {v : Value} (h : Calls Try.prog f vs w fun e w' => e = .returned v ∧ w = w') :
    Calls Try.prog f vs w fun e w'' => ∃ u, e = .returned u ∧ Rb w w'' ∧ (Spec.eq (R := Rb) v).V w'' u :=
  h.mono fun _ _ ⟨he, hw⟩ => ⟨_, he, hw ▸ Rb.refl _, rfl⟩
theorem val_call_rb {f : FuncId} {vs : Array Value} {w : World} {v : Value} (h : Calls Try.prog f vs w fun e w' => e = .returned v ∧ Rb w w') :
    Calls Try.prog f vs w fun e w'' => ∃ u, e = .returned u ∧ Rb w w'' ∧ (Spec.eq (R := Rb) v).V w'' u :=
  h.mono fun _ _ ⟨he, hw⟩ => ⟨_, he, hw, rfl⟩
theorem cell_rb {w w' : World} {a : Addr} {v : Value} (hb : Rb w w') (h : w.cell? a = some v) : w'.cell? a = some v := by
  rw [Below.cell hb (World.block_lt_of_cell? w _ h)]; exact h

section
variable {w : World} {a : Addr} {v : Value}
theorem load_int (h : w.cell? a = some v) : (Instr.loadAt 3 (.pointer (some a))).run Try.prog w = .ok v w := by simp [Instr.loadAt, go_sem, h]
theorem load_string (h : w.cell? a = some v) : (Instr.loadAt 9 (.pointer (some a))).run Try.prog w = .ok v w := by simp [Instr.loadAt, go_sem, h]
theorem load_bytes (h : w.cell? a = some v) : (Instr.loadAt 23 (.pointer (some a))).run Try.prog w = .ok v w := by simp [Instr.loadAt, go_sem, h]
theorem load_strs (h : w.cell? a = some v) : (Instr.loadAt 37 (.pointer (some a))).run Try.prog w = .ok v w := by simp [Instr.loadAt, go_sem, h]
theorem load_ref {B : Nat} {a0 a1 a2 a3 a4 : Value} (h : Blk w B 50 [a0, a1, a2, a3, a4]) : (Instr.loadAt 50 (.pointer (some ⟨B, 0, none⟩))).run Try.prog w = .ok (.agg #[a0, a1, a2, a3, a4]) w := by
  obtain ⟨z0, z1, z2, z3, z4⟩ := h.cells5
  simp [Instr.loadAt, go_sem, z0, z1, z2, z3, z4]
theorem load_slots {B : Nat} {a0 a1 : Value} (o : Nat) (h0 : w.cell? ⟨B, o, none⟩ = some a0) (h1 : w.cell? ⟨B, o + 1, none⟩ = some a1) : (Instr.loadAt 91 (.pointer (some ⟨B, o, none⟩))).run Try.prog w = .ok (.agg #[a0, a1]) w := by
  simp [Instr.loadAt, go_sem, h0, h1]
end
section
variable {ops : Array Oper} {o : Oper} {a : Act} {w : World} {T : World → Value → Prop}
theorem ok_fieldR {B : Nat} (x : Operand) (i : Nat) (hi : i < 5) (ho : o.op = .fieldAddr 50 x i) (hw : Region.wanted o (yielded ops a.tmps) = true) (hx : a.eval x = .pointer (some ⟨B, 0, none⟩))
    (h : T w (.pointer (some ⟨B, i, none⟩))) : okAt Try.prog ops o a w T := by
  refine ok_value (w' := w) (v := .pointer (some ⟨B, i, none⟩)) hw ?_ h
  simp only [execOp, ho, hx]
  have hi' : i = 0 ∨ i = 1 ∨ i = 2 ∨ i = 3 ∨ i = 4 := by omega
  rcases hi' with rfl | rfl | rfl | rfl | rfl <;> simp [go_sem]
theorem ok_fieldK {B : Nat} (x : Operand) (i : Nat) (j : Nat) (hi : i = 0 ∧ j = 0 ∨ i = 1 ∧ j = 1 ∨ i = 2 ∧ j = 2 ∨ i = 3 ∧ j = 3 ∨ i = 4 ∧ j = 5) (ho : o.op = .fieldAddr 93 x i) (hw : Region.wanted o (yielded ops a.tmps) = true) (hx : a.eval x = .pointer (some ⟨B, 0, none⟩))
    (h : T w (.pointer (some ⟨B, j, none⟩))) : okAt Try.prog ops o a w T := by
  refine ok_value (w' := w) (v := .pointer (some ⟨B, j, none⟩)) hw ?_ h
  simp only [execOp, ho, hx]
  rcases hi with ⟨rfl, rfl⟩ | ⟨rfl, rfl⟩ | ⟨rfl, rfl⟩ | ⟨rfl, rfl⟩ | ⟨rfl, rfl⟩ <;> simp [go_sem]
theorem ok_nilCheck {p : Addr} (x : Operand) (ho : o.op = .nilCheck x) (hw : Region.wanted o (yielded ops a.tmps) = true) (hx : a.eval x = .pointer (some p)) (h : T w (.pointer (some p))) : okAt Try.prog ops o a w T := by
  refine ok_value (w' := w) hw ?_ h
  simp [execOp, ho, hx]
theorem ok_len_str (x : Operand) (t : TypeId) (s : ByteArray) (ht : Try.prog.underlying t = some .string) (ho : o.op = .call { callee := .builtin .len, args := #[x], argTypes := #[t] }) (hw : Region.wanted o (yielded ops a.tmps) = true) (hx : a.eval x = .string s) (h : T w (.int .i64 s.size)) : okAt Try.prog ops o a w T := by
  refine ok_value (w' := w) (v := .int .i64 s.size) hw ?_ h
  have hg : goInt (s.size : Int) = .int .i64 s.size := rfl
  simp only [execOp, ho, resolve, invoke, Sem.run_bind, Sem.run_pure, Result.andThen_ok, List.map_toArray, List.map_cons, List.map_nil, hx]
  simp [builtin, Builtin.len_, run_underlying ht, Result.andThen, hg]
theorem run_gtr_int (t : TypeId) (x y : Operand) (k : IntKind) (n m : Int) : (binSem .gtr t x y (.int k n) (.int k m)).run Try.prog w = .ok (.bool (decide (n > m))) w := by
  simp [binSem, go_sem]
theorem run_geq_int (t : TypeId) (x y : Operand) (k : IntKind) (n m : Int) : (binSem .geq t x y (.int k n) (.int k m)).run Try.prog w = .ok (.bool (decide (n ≥ m))) w := by
  simp [binSem, go_sem]
theorem run_sub_i64 (t : TypeId) (x y : Operand) (n m : Int) (h0 : -9223372036854775808 ≤ n - m) (h1 : n - m ≤ 9223372036854775807) : (binSem .sub t x y (.int .i64 n) (.int .i64 m)).run Try.prog w = .ok (.int .i64 (n - m)) w := by
  simp [binSem, go_sem]
  exact IntWalk.i64_in _ ⟨h0, h1⟩
theorem run_eql_S (t : TypeId) (x y : Operand) (s s' : ByteArray) : (binSem .eql t x y (.string s) (.string s')).run Try.prog w = .ok (.bool (s.toList == s'.toList)) w := by
  simp [binSem, go_sem]
theorem sizeOf9 (w : World) : (sizeOf 9).run Try.prog w = .ok 1 w := by simp [go_sem]
theorem sizeOf8 (w : World) : (sizeOf 5).run Try.prog w = .ok 1 w := by simp [go_sem]
theorem str_beq (X : List UInt8) (s : ByteArray) : ((str X).toList == s.toList) = (X == s.data.toList) := by
  have h : (str X).toList = X := Lib.toList_data _
  rw [h, Lib.toList_data]
end
end Go.Proofs.Ytbdgdmieggpmhaa.L3

namespace Go.Proofs.Ytbdgdmieggpmhaa.L3
open Go.ChangeShapes Go.WideShapes Go.ChangeAt Go.RowKit By Reg
set_option linter.unusedVariables false

theorem extract_str (xs : List UInt8) (k : Nat) : (str xs).extract 0 k = str (xs.take k) := by
  apply ByteArray.ext
  apply Array.toList_inj.1
  simp [str, ByteArray.data_extract]

set_option maxRecDepth 100000 in
theorem rcrash_1 (n : Int) (a b : ByteArray) (nv sv : Value) (k : Int) (w : World) (hs : ¬ 9223372036854775807 < a.size + b.size) (hv : sv.cells = #[sv] ∧ sv.oneCell' = true) (hk : k < 0) :
    Calls Try.prog 60 #[rawv n a b nv sv, .int .i64 k] w fun e w' => e = .returned (rawv n (a) ⟨#[]⟩ sv sv) ∧ Rb w w' := by
  have HC := Lib.hid hv.1
  have HO := Lib.hid hv.2
  have hb0 : ¬ (b.size : Int) < 0 := by omega
  have h1 : ¬ 9223372036854775807 < a.size := by omega
  clear hv hs
  go_enter Try.func60, Try.ntmps60
  go_wp2_with fail
  have T0 := Two.start w [.int .i64 n, .string a, .string b, nv, sv] zero5
  generalize (w.alloc (Obj.cells [Value.int .i64 n, .string a, .string b, nv, sv].toArray 50)).alloc (Obj.cells zero5.toArray 50) = wt at *
  obtain ⟨z0, z1, z2, z3, z4⟩ := T0.x.cells5
  have T := Lib.hid T0
  clear T0
  go_still_tail 8, (by kernel_rfl)
  change wpList _ _ _ _ _ wt.drew
  have Td := Lib.hid (T.out.rbs (Rb.drew wt))
  go_wp2_with (refine wpList_store rfl 9 _ _ rfl w.heap.size 1 _ _ [.string (a)] _ rfl rfl Td.out.x rfl sizestr (by simp) (str_one _) ?_)
  intro w2 hb hw
  have T2 := Lib.hid (Td.out.storeX hb hw)
  clear T Td hb hw z0 z1 z2 z3 z4
  go_wp2_with (refine wpList_store rfl 9 _ _ rfl w.heap.size 2 _ _ [_] _ rfl rfl T2.out.x rfl sizestr (by simp) (str_one _) ?_)
  intro w3 hb hw
  have T3 := Lib.hid (T2.out.storeX hb hw)
  have z4 := T3.out.x.cells5.e4
  clear T2 hb hw
  go_wp2_with (refine wpList_store rfl 37 _ _ rfl w.heap.size 3 _ _ [sv] _ rfl rfl T3.out.x HC.out sizestrs (by simp) (one_of HO.out) ?_)
  intro w4 hb hw
  have T4 := Lib.hid (T3.out.storeX hb hw)
  obtain ⟨y0, y1, y2, y3, y4⟩ := T4.out.x.cells5
  clear T3 hb hw z4
  go_wp2_with (refine wpList_store rfl 50 _ _ rfl (w.heap.size + 1) 0 _ _ [_, _, _, _, _] _ rfl rfl T4.out.y rfl sizeref (by simp) (five_one HO.out HO.out) ?_)
  intro w5 hb hw
  have T5 := T4.out.storeY hb hw
  obtain ⟨x0, x1, x2, x3, x4⟩ := T5.y.cells5
  have R5 := Lib.hid T5.rb
  clear T4 hb hw T5 y0 y1 y2 y3 y4
  go_wp2
  exact bodyPost_ret (v := rawv n (a) ⟨#[]⟩ sv sv) (by simp [results, Try.results60, go_sem, x0, x1, x2, x3, x4]) rfl ⟨rfl, R5.out⟩

set_option maxRecDepth 100000 in
theorem rcrash_2 (n : Int) (a b : ByteArray) (nv sv : Value) (k : Nat) (w : World) (hs : ¬ 9223372036854775807 < a.size + b.size) (hv : sv.cells = #[sv] ∧ sv.oneCell' = true) (hk : k ≤ b.size) :
    Calls Try.prog 60 #[rawv n a b nv sv, .int .i64 k] w fun e w' => e = .returned (rawv n (a ++ b.extract 0 k) ⟨#[]⟩ sv sv) ∧ Rb w w' := by
  have HC := Lib.hid hv.1
  have HO := Lib.hid hv.2
  have hb0 : ¬ (b.size : Int) < (k : Int) := by omega
  have h1 : ¬ 9223372036854775807 < a.size + (b.extract 0 k).size := by rw [ByteArray.size_extract]; omega
  have h2 : ¬ 9223372036854775807 < a.size + min k b.size := by omega
  have h3 : ¬ 9223372036854775807 < a.size + k := by omega
  have p1 : (k : Int) ≤ (b.size : Int) := by omega
  have p2 : (0 : Int) ≤ (k : Int) := by omega
  clear hv hs
  go_enter Try.func60, Try.ntmps60
  go_wp2_with fail
  have T0 := Two.start w [.int .i64 n, .string a, .string b, nv, sv] zero5
  generalize (w.alloc (Obj.cells [Value.int .i64 n, .string a, .string b, nv, sv].toArray 50)).alloc (Obj.cells zero5.toArray 50) = wt at *
  obtain ⟨z0, z1, z2, z3, z4⟩ := T0.x.cells5
  have T := Lib.hid T0
  clear T0
  go_still_tail 8, (by kernel_rfl)
  change wpList _ _ _ _ _ wt.drew
  have Td := Lib.hid (T.out.rbs (Rb.drew wt))
  go_wp2_with (refine wpList_store rfl 9 _ _ rfl w.heap.size 1 _ _ [.string (a ++ b.extract 0 k)] _ rfl rfl Td.out.x rfl sizestr (by simp) (str_one _) ?_)
  intro w2 hb hw
  have T2 := Lib.hid (Td.out.storeX hb hw)
  clear T Td hb hw z0 z1 z2 z3 z4
  go_wp2_with (refine wpList_store rfl 9 _ _ rfl w.heap.size 2 _ _ [_] _ rfl rfl T2.out.x rfl sizestr (by simp) (str_one _) ?_)
  intro w3 hb hw
  have T3 := Lib.hid (T2.out.storeX hb hw)
  have z4 := T3.out.x.cells5.e4
  clear T2 hb hw
  go_wp2_with (refine wpList_store rfl 37 _ _ rfl w.heap.size 3 _ _ [sv] _ rfl rfl T3.out.x HC.out sizestrs (by simp) (one_of HO.out) ?_)
  intro w4 hb hw
  have T4 := Lib.hid (T3.out.storeX hb hw)
  obtain ⟨y0, y1, y2, y3, y4⟩ := T4.out.x.cells5
  clear T3 hb hw z4
  go_wp2_with (refine wpList_store rfl 50 _ _ rfl (w.heap.size + 1) 0 _ _ [_, _, _, _, _] _ rfl rfl T4.out.y rfl sizeref (by simp) (five_one HO.out HO.out) ?_)
  intro w5 hb hw
  have T5 := T4.out.storeY hb hw
  obtain ⟨x0, x1, x2, x3, x4⟩ := T5.y.cells5
  have R5 := Lib.hid T5.rb
  clear T4 hb hw T5 y0 y1 y2 y3 y4
  go_wp2
  exact bodyPost_ret (v := rawv n (a ++ b.extract 0 k) ⟨#[]⟩ sv sv) (by simp [results, Try.results60, go_sem, x0, x1, x2, x3, x4]) rfl ⟨rfl, R5.out⟩

set_option maxRecDepth 100000 in
theorem rcrash_3 (n : Int) (a b : ByteArray) (nv sv : Value) (k : Int) (w : World) (hs : ¬ 9223372036854775807 < a.size + b.size) (hv : sv.cells = #[sv] ∧ sv.oneCell' = true) (hk : (b.size : Int) < k) :
    Calls Try.prog 60 #[rawv n a b nv sv, .int .i64 k] w fun e w' => e = .returned (rawv n (a ++ b) ⟨#[]⟩ sv sv) ∧ Rb w w' := by
  have HC := Lib.hid hv.1
  have HO := Lib.hid hv.2
  have hb0 : ¬ k < 0 := by omega
  have h1 : ¬ 9223372036854775807 < a.size + b.size := hs
  have p1 : (b.size : Int) ≤ (b.size : Int) := by omega
  have p2 : (0 : Int) ≤ (b.size : Int) := by omega
  clear hv hs
  go_enter Try.func60, Try.ntmps60
  go_wp2_with fail
  have T0 := Two.start w [.int .i64 n, .string a, .string b, nv, sv] zero5
  generalize (w.alloc (Obj.cells [Value.int .i64 n, .string a, .string b, nv, sv].toArray 50)).alloc (Obj.cells zero5.toArray 50) = wt at *
  obtain ⟨z0, z1, z2, z3, z4⟩ := T0.x.cells5
  have T := Lib.hid T0
  clear T0
  go_still_tail 8, (by kernel_rfl)
  change wpList _ _ _ _ _ wt.drew
  have Td := Lib.hid (T.out.rbs (Rb.drew wt))
  go_wp2_with (refine wpList_store rfl 9 _ _ rfl w.heap.size 1 _ _ [.string (a ++ b)] _ rfl rfl Td.out.x rfl sizestr (by simp) (str_one _) ?_)
  intro w2 hb hw
  have T2 := Lib.hid (Td.out.storeX hb hw)
  clear T Td hb hw z0 z1 z2 z3 z4
  go_wp2_with (refine wpList_store rfl 9 _ _ rfl w.heap.size 2 _ _ [_] _ rfl rfl T2.out.x rfl sizestr (by simp) (str_one _) ?_)
  intro w3 hb hw
  have T3 := Lib.hid (T2.out.storeX hb hw)
  have z4 := T3.out.x.cells5.e4
  clear T2 hb hw
  go_wp2_with (refine wpList_store rfl 37 _ _ rfl w.heap.size 3 _ _ [sv] _ rfl rfl T3.out.x HC.out sizestrs (by simp) (one_of HO.out) ?_)
  intro w4 hb hw
  have T4 := Lib.hid (T3.out.storeX hb hw)
  obtain ⟨y0, y1, y2, y3, y4⟩ := T4.out.x.cells5
  clear T3 hb hw z4
  go_wp2_with (refine wpList_store rfl 50 _ _ rfl (w.heap.size + 1) 0 _ _ [_, _, _, _, _] _ rfl rfl T4.out.y rfl sizeref (by simp) (five_one HO.out HO.out) ?_)
  intro w5 hb hw
  have T5 := T4.out.storeY hb hw
  obtain ⟨x0, x1, x2, x3, x4⟩ := T5.y.cells5
  have R5 := Lib.hid T5.rb
  clear T4 hb hw T5 y0 y1 y2 y3 y4
  go_wp2
  exact bodyPost_ret (v := rawv n (a ++ b) ⟨#[]⟩ sv sv) (by simp [results, Try.results60, go_sem, x0, x1, x2, x3, x4]) rfl ⟨rfl, R5.out⟩

end Go.Proofs.Ytbdgdmieggpmhaa.L3

namespace Go.Proofs.Ytbdgdmieggpmhaa.L3
open Go.ChangeShapes Go.WideShapes Go.ChangeAt Go.RowKit By Reg
set_option linter.unusedVariables false

set_option maxRecDepth 100000 in
theorem rappend_full (n : Int) (p q s : ByteArray) (nv sv : Value) (w0 : World) (hs : ¬ 9223372036854775807 < p.size + q.size) (hl : (p ++ q).size ≤ 1048576) (hl2 : s.size ≤ 1048576) (h1 : nv.oneCell' = true) (h2 : sv.oneCell' = true) (hf : n < ((p ++ q).size : Int) + (s.size : Int)) :
    Calls Try.prog 74 #[rawv n p q nv sv, .string s] w0 fun e w' => e = .returned (.tuple #[rawv n p q nv sv, .int .i64 4]) ∧ Rb w0 w' := by
  obtain ⟨c, hc⟩ : ∃ c, c = p ++ q := ⟨_, rfl⟩
  have Hlog := Lib.hid (fun w => rlog_raw n p q nv sv w hs)
  rw [← hc] at Hlog hl hf
  have HO := Lib.hid h1
  have HO2 := Lib.hid h2
  clear hc hs h1 h2
  go_enter Try.func74, Try.ntmps74
  go_wp2_with fail
  have T0 := Two.start w0 [.int .i64 n, .string p, .string q, nv, sv] zero5
  generalize (w0.alloc (Obj.cells [Value.int .i64 n, .string p, .string q, nv, sv].toArray 50)).alloc (Obj.cells zero5.toArray 50) = wt at *
  have T := Lib.hid T0
  have TX := Lib.hid T0.x
  clear T0
  refine wp_region_specs (R := Rb) (S := [Spec.eq (rawv n p q nv sv), Spec.eq (.string (c)), Spec.eq (.int .i64 (((c).size : Int))), Spec.eq (.string (s)), Spec.eq (.int .i64 (((s).size : Int))), Spec.eq (.int .i64 ((((c).size : Int)) + (((s).size : Int)))), Spec.eq (.pointer (some ⟨w0.heap.size, 0, none⟩)), Spec.eq (.int .i64 (n)), Spec.eq (.bool true)]) (n := 1) (size := 22) (by kernel_rfl) Rb.trans (Rb.drew _) rfl (by kernel_rfl) ?owed ?fin
  case owed =>
    refine Owed.cons ?_ ?_
    · -- 0: slot 6 := Op.load 50 (Operand.tmp 2)
      intro a w hR F
      have e2 : a.eval (.tmp 2) = .pointer (some ⟨w0.heap.size, 0, none⟩) := F.old 2 (by kernel_rfl)
      exact ok_load _ _ rfl (wanted_none rfl) e2 (load_ref (TX.out.rb hR)) ⟨Rb.refl _, rfl⟩
    refine Owed.cons ?_ ?_
    · -- 1: slot 7 := Op.call { callee := Callee.value (Operand.func 32), args := #[Operand.tmp 6], argTypes := #[50] }
      intro a w hR F
      have e6 : a.eval (.tmp 6) = rawv n p q nv sv := F.new 0 6 (by kernel_rfl)
      refine ok_call 32 _ _ #[rawv n p q nv sv] rfl (wanted_none rfl) (by simp [e6]) (Try.call32 _ _) ?_
      exact val_call_rb (Hlog.out w)
    refine Owed.cons ?_ ?_
    · -- 2: slot 8 := Op.call { callee := Callee.builtin Builtin.len, args := #[Operand.tmp 7], argTypes := #[9] }
      intro a w hR F
      have e7 : a.eval (.tmp 7) = .string (c) := F.new 1 7 (by kernel_rfl)
      exact ok_len_str _ _ (c) Try.underlying9 rfl (wanted_none rfl) e7 ⟨Rb.refl _, rfl⟩
    refine Owed.cons ?_ ?_
    · -- 3: slot 9 := Op.move (Operand.tmp 1)
      intro a w hR F
      have e1 : a.eval (.tmp 1) = .string (s) := F.old 1 (by kernel_rfl)
      exact ok_move _ rfl (wanted_none rfl) ⟨Rb.refl _, e1⟩
    refine Owed.cons ?_ ?_
    · -- 4: slot 10 := Op.call { callee := Callee.builtin Builtin.len, args := #[Operand.tmp 9], argTypes := #[9] }
      intro a w hR F
      have e9 : a.eval (.tmp 9) = .string (s) := F.new 3 9 (by kernel_rfl)
      exact ok_len_str _ _ (s) Try.underlying9 rfl (wanted_none rfl) e9 ⟨Rb.refl _, rfl⟩
    refine Owed.cons ?_ ?_
    · -- 5: slot 11 := Op.binOp BinOp.add 3 (Operand.tmp 8) (Operand.tmp 10) 3
      intro a w hR F
      have e8 : a.eval (.tmp 8) = .int .i64 (((c).size : Int)) := F.new 2 8 (by kernel_rfl)
      have e10 : a.eval (.tmp 10) = .int .i64 (((s).size : Int)) := F.new 4 10 (by kernel_rfl)
      exact ok_bin _ _ _ _ _ rfl (wanted_none rfl) e8 e10 (run_add_i64 _ _ _ _ _ (by omega) (by omega)) ⟨Rb.refl _, rfl⟩
    refine Owed.cons ?_ ?_
    · -- 6: slot 12 := Op.fieldAddr 50 (Operand.tmp 2) 0
      intro a w hR F
      have e2 : a.eval (.tmp 2) = .pointer (some ⟨w0.heap.size, 0, none⟩) := F.old 2 (by kernel_rfl)
      exact ok_fieldR _ 0 (by decide) rfl (wanted_none rfl) e2 ⟨Rb.refl _, rfl⟩
    refine Owed.cons ?_ ?_
    · -- 7: slot 13 := Op.load 3 (Operand.tmp 12)
      intro a w hR F
      have e12 : a.eval (.tmp 12) = .pointer (some ⟨w0.heap.size, 0, none⟩) := F.new 6 12 (by kernel_rfl)
      exact ok_load _ _ rfl (wanted_none rfl) e12 (load_int ((TX.out.rb hR).cell 0)) ⟨Rb.refl _, rfl⟩
    refine Owed.cons ?_ ?_
    · -- 8: slot 14 := Op.binOp BinOp.gtr 3 (Operand.tmp 11) (Operand.tmp 13) 3
      intro a w hR F
      have e11 : a.eval (.tmp 11) = .int .i64 ((((c).size : Int)) + (((s).size : Int))) := F.new 5 11 (by kernel_rfl)
      have e13 : a.eval (.tmp 13) = .int .i64 (n) := F.new 7 13 (by kernel_rfl)
      refine ok_bin _ _ _ _ _ rfl (wanted_none rfl) e11 e13 (run_gtr_int _ _ _ _ _ _) ⟨Rb.refl _, ?_⟩
      exact congrArg Value.bool (decide_eq_true (by omega))
    exact Owed.nil
  case fin =>
    intro y w2 hR hy
    have e8 : y 8 = .bool true := hy 8 _ rfl
    have HR := Lib.hid hR
    clear hy hR
    simp only [putAll, Act.put, List.setIfInBounds_toArray, List.set_cons_zero, List.set_cons_succ]
    rw [e8]
    clear e8
    have T2 := Lib.hid (T.out.rbs HR.out)
    obtain ⟨y0, y1, y2, y3, y4⟩ := T2.out.x.cells5
    clear hf
    go_wp2_with (refine wpList_store rfl 50 _ _ rfl (w0.heap.size + 1) 0 _ _ [_, _, _, _, _] _ rfl rfl T2.out.y rfl sizeref (by simp) (five_one HO.out HO2.out) ?_)
    intro w5 hb hw
    have T5 := T2.out.storeY hb hw
    obtain ⟨x0, x1, x2, x3, x4⟩ := T5.y.cells5
    have R5 := Lib.hid T5.rb
    clear hb hw T5 y0 y1 y2 y3 y4
    go_wp2
    exact bodyPost_ret (v := .tuple #[rawv n p q nv sv, .int .i64 4]) (by simp [results, Try.results74, go_sem, x0, x1, x2, x3, x4]) rfl ⟨rfl, R5.out⟩

set_option maxRecDepth 100000 in
theorem rappend_fits (n : Int) (p q s : ByteArray) (nv sv : Value) (w0 : World) (hs : ¬ 9223372036854775807 < p.size + q.size) (hl : (p ++ q).size ≤ 1048576) (hl2 : s.size ≤ 1048576) (h1 : nv.oneCell' = true) (h2 : sv.oneCell' = true) (hf : ((p ++ q).size : Int) + (s.size : Int) ≤ n) (hn : n ≤ 1048576) :
    Calls Try.prog 74 #[rawv n p q nv sv, .string s] w0 fun e w' => e = .returned (.tuple #[rawv n p (q ++ s) nv sv, .int .i64 0]) ∧ Rb w0 w' := by
  obtain ⟨c, hc⟩ : ∃ c, c = p ++ q := ⟨_, rfl⟩
  have Hlog := Lib.hid (fun w => rlog_raw n p q nv sv w hs)
  rw [← hc] at Hlog hl hf
  have hsum : ¬ 9223372036854775807 < q.size + s.size := by rw [hc] at hf; rw [ByteArray.size_append] at hf; omega
  have HO := Lib.hid h1
  have HO2 := Lib.hid h2
  clear hc hs h1 h2
  go_enter Try.func74, Try.ntmps74
  go_wp2_with fail
  have T0 := Two.start w0 [.int .i64 n, .string p, .string q, nv, sv] zero5
  generalize (w0.alloc (Obj.cells [Value.int .i64 n, .string p, .string q, nv, sv].toArray 50)).alloc (Obj.cells zero5.toArray 50) = wt at *
  have T := Lib.hid T0
  have TX := Lib.hid T0.x
  clear T0
  refine wp_region_specs (R := Rb) (S := [Spec.eq (rawv n p q nv sv), Spec.eq (.string (c)), Spec.eq (.int .i64 (((c).size : Int))), Spec.eq (.string (s)), Spec.eq (.int .i64 (((s).size : Int))), Spec.eq (.int .i64 ((((c).size : Int)) + (((s).size : Int)))), Spec.eq (.pointer (some ⟨w0.heap.size, 0, none⟩)), Spec.eq (.int .i64 (n)), Spec.eq (.bool false)]) (n := 1) (size := 22) (by kernel_rfl) Rb.trans (Rb.drew _) rfl (by kernel_rfl) ?owed ?fin
  case owed =>
    refine Owed.cons ?_ ?_
    · -- 0: slot 6 := Op.load 50 (Operand.tmp 2)
      intro a w hR F
      have e2 : a.eval (.tmp 2) = .pointer (some ⟨w0.heap.size, 0, none⟩) := F.old 2 (by kernel_rfl)
      exact ok_load _ _ rfl (wanted_none rfl) e2 (load_ref (TX.out.rb hR)) ⟨Rb.refl _, rfl⟩
    refine Owed.cons ?_ ?_
    · -- 1: slot 7 := Op.call { callee := Callee.value (Operand.func 32), args := #[Operand.tmp 6], argTypes := #[50] }
      intro a w hR F
      have e6 : a.eval (.tmp 6) = rawv n p q nv sv := F.new 0 6 (by kernel_rfl)
      refine ok_call 32 _ _ #[rawv n p q nv sv] rfl (wanted_none rfl) (by simp [e6]) (Try.call32 _ _) ?_
      exact val_call_rb (Hlog.out w)
    refine Owed.cons ?_ ?_
    · -- 2: slot 8 := Op.call { callee := Callee.builtin Builtin.len, args := #[Operand.tmp 7], argTypes := #[9] }
      intro a w hR F
      have e7 : a.eval (.tmp 7) = .string (c) := F.new 1 7 (by kernel_rfl)
      exact ok_len_str _ _ (c) Try.underlying9 rfl (wanted_none rfl) e7 ⟨Rb.refl _, rfl⟩
    refine Owed.cons ?_ ?_
    · -- 3: slot 9 := Op.move (Operand.tmp 1)
      intro a w hR F
      have e1 : a.eval (.tmp 1) = .string (s) := F.old 1 (by kernel_rfl)
      exact ok_move _ rfl (wanted_none rfl) ⟨Rb.refl _, e1⟩
    refine Owed.cons ?_ ?_
    · -- 4: slot 10 := Op.call { callee := Callee.builtin Builtin.len, args := #[Operand.tmp 9], argTypes := #[9] }
      intro a w hR F
      have e9 : a.eval (.tmp 9) = .string (s) := F.new 3 9 (by kernel_rfl)
      exact ok_len_str _ _ (s) Try.underlying9 rfl (wanted_none rfl) e9 ⟨Rb.refl _, rfl⟩
    refine Owed.cons ?_ ?_
    · -- 5: slot 11 := Op.binOp BinOp.add 3 (Operand.tmp 8) (Operand.tmp 10) 3
      intro a w hR F
      have e8 : a.eval (.tmp 8) = .int .i64 (((c).size : Int)) := F.new 2 8 (by kernel_rfl)
      have e10 : a.eval (.tmp 10) = .int .i64 (((s).size : Int)) := F.new 4 10 (by kernel_rfl)
      exact ok_bin _ _ _ _ _ rfl (wanted_none rfl) e8 e10 (run_add_i64 _ _ _ _ _ (by omega) (by omega)) ⟨Rb.refl _, rfl⟩
    refine Owed.cons ?_ ?_
    · -- 6: slot 12 := Op.fieldAddr 50 (Operand.tmp 2) 0
      intro a w hR F
      have e2 : a.eval (.tmp 2) = .pointer (some ⟨w0.heap.size, 0, none⟩) := F.old 2 (by kernel_rfl)
      exact ok_fieldR _ 0 (by decide) rfl (wanted_none rfl) e2 ⟨Rb.refl _, rfl⟩
    refine Owed.cons ?_ ?_
    · -- 7: slot 13 := Op.load 3 (Operand.tmp 12)
      intro a w hR F
      have e12 : a.eval (.tmp 12) = .pointer (some ⟨w0.heap.size, 0, none⟩) := F.new 6 12 (by kernel_rfl)
      exact ok_load _ _ rfl (wanted_none rfl) e12 (load_int ((TX.out.rb hR).cell 0)) ⟨Rb.refl _, rfl⟩
    refine Owed.cons ?_ ?_
    · -- 8: slot 14 := Op.binOp BinOp.gtr 3 (Operand.tmp 11) (Operand.tmp 13) 3
      intro a w hR F
      have e11 : a.eval (.tmp 11) = .int .i64 ((((c).size : Int)) + (((s).size : Int))) := F.new 5 11 (by kernel_rfl)
      have e13 : a.eval (.tmp 13) = .int .i64 (n) := F.new 7 13 (by kernel_rfl)
      refine ok_bin _ _ _ _ _ rfl (wanted_none rfl) e11 e13 (run_gtr_int _ _ _ _ _ _) ⟨Rb.refl _, ?_⟩
      exact congrArg Value.bool (decide_eq_false (by omega))
    exact Owed.nil
  case fin =>
    intro y w2 hR hy
    have e8 : y 8 = .bool false := hy 8 _ rfl
    have HR := Lib.hid hR
    clear hy hR
    simp only [putAll, Act.put, List.setIfInBounds_toArray, List.set_cons_zero, List.set_cons_succ]
    rw [e8]
    clear e8
    have T2 := Lib.hid (T.out.rbs HR.out)
    have y2 := T2.out.x.cells5.e2
    clear hf
    go_wp2_with (refine wpList_store rfl 9 _ _ rfl w0.heap.size 2 _ _ [.string (q ++ s)] _ rfl rfl T2.out.x rfl sizestr (by simp) (str_one _) ?_)
    intro w3 hb hw
    have T3 := Lib.hid (T2.out.storeX hb hw)
    obtain ⟨y0, y1, y2, y3, y4⟩ := T3.out.x.cells5
    clear hb hw
    go_wp2_with (refine wpList_store rfl 50 _ _ rfl (w0.heap.size + 1) 0 _ _ [_, _, _, _, _] _ rfl rfl T3.out.y rfl sizeref (by simp) (five_one HO.out HO2.out) ?_)
    intro w5 hb hw
    have T5 := T3.out.storeY hb hw
    obtain ⟨x0, x1, x2, x3, x4⟩ := T5.y.cells5
    have R5 := Lib.hid T5.rb
    clear hb hw T5 y0 y1 y2 y3 y4
    go_wp2
    exact bodyPost_ret (v := .tuple #[rawv n p (q ++ s) nv sv, .int .i64 0]) (by simp [results, Try.results74, go_sem, x0, x1, x2, x3, x4]) rfl ⟨rfl, R5.out⟩

set_option maxRecDepth 100000 in
theorem rwrite_no (n : Int) (a b s : ByteArray) (nv sv : Value) (k : Int) (w : World) (h1 : nv.oneCell' = true) (h2 : sv.oneCell' = true) (hk : decide (0 ≤ k ∧ k < 2) = false) :
    Calls Try.prog 75 #[rawv n a b nv sv, .int .i64 k, .string s] w fun e w' => e = .returned (.tuple #[rawv n a b nv sv, .int .i64 1]) ∧ Rb w w' := by
  have hk' : ¬ (0 ≤ k ∧ k < 2) := by simpa using hk
  have k0 : (k == 0) = false := by simp; omega
  have k1 : (k == 1) = false := by simp; omega
  have k2 : (k != 0) = true := by simp; omega
  have k3 : (k != 1) = true := by simp; omega
  have HO := Lib.hid h1
  have HO2 := Lib.hid h2
  clear hk hk' h1 h2
  go_enter Try.func75, Try.ntmps75
  go_wp2_with (refine wpList_store rfl 50 _ _ rfl (w.heap.size + 1) 0 _ _ [_, _, _, _, _] _ rfl rfl (Two.start w [.int .i64 n, .string a, .string b, nv, sv] zero5).y rfl sizeref (by simp) (five_one HO.out HO2.out) ?_)
  intro w5 hb hw
  have T5 := (Two.start w [.int .i64 n, .string a, .string b, nv, sv] zero5).storeY hb hw
  obtain ⟨x0, x1, x2, x3, x4⟩ := T5.y.cells5
  have R5 := Lib.hid T5.rb
  clear hb hw T5 k0 k1 k2 k3
  go_wp2
  exact bodyPost_ret (v := .tuple #[rawv n a b nv sv, .int .i64 1]) (by simp [results, Try.results75, go_sem, x0, x1, x2, x3, x4]) rfl ⟨rfl, R5.out⟩

theorem owned_two {w : World} {B : Nat} {e : TypeId} {v : Value} {x y : Value} (h : w.ownsRow B e 1 v 2 [x, y]) : ∃ g cap tl, v = .slice (some ⟨g, 0, none⟩) 2 cap ∧ B ≤ g ∧ 2 ≤ cap ∧ cap ≤ maxLen ∧ Blk w g e (x :: y :: tl) := by
  rcases h.2 with ⟨_, h0⟩ | ⟨g, cap, cur, rfl, h2, h3, h4, h5, h6, h7⟩
  · omega
  · refine ⟨g, cap, cur.toList.drop 2, rfl, h2, h4, h5, ?_⟩
    have e : cur.toList = x :: y :: cur.toList.drop 2 := by
      have := List.take_append_drop (2 * 1) cur.toList
      rw [h7] at this
      simpa using this.symm
    unfold Blk
    rw [← e, Array.toArray_toList]
    exact h3

theorem rb_grown {w w' : World} (h : w.grownBy w' none) : Rb w w' := ⟨h.os, h.tape, h.output, h.size, fun k hk => h.block k hk (by simp)⟩
theorem Two.other {w w1 w2 : World} {x y : List Value} {g : Nat} (h : Two w w1 x y) (hw : Wrote g w1 w2) (hg : w.heap.size + 1 < g) : Two w w2 x y :=
  ⟨h.x.same (hw.block _ (by omega)), h.y.same (hw.block _ (by omega)), Wrote.below h.rb hw (by omega)⟩
/-- what a Write of the document leaves: the other row is as it was, this one is new -/
def WroteR (w : World) (n : Int) (a b : ByteArray) (sv : Value) (x y : ByteArray) (e : Ending) (w' : World) : Prop :=
  ∃ g cap, e = .returned (.tuple #[rawv n a b (.slice (some ⟨g, 0, none⟩) 2 cap) sv, .int .i64 0]) ∧ w.heap.size ≤ g ∧ 2 ≤ cap ∧ cap ≤ maxLen ∧ w'.cell? ⟨g, 0, none⟩ = some (.string x) ∧ w'.cell? ⟨g, 1, none⟩ = some (.string y) ∧ Rb w w'

set_option maxRecDepth 100000 in
theorem rwrite_0 (n : Int) (a b s x y : ByteArray) (g0 cap0 : Nat) (sv : Value) (w : World) (h2 : sv.oneCell' = true) (hx : w.cell? ⟨g0, 0, none⟩ = some (.string x)) (hy : w.cell? ⟨g0, 1, none⟩ = some (.string y)) :
    Calls Try.prog 75 #[rawv n a b (.slice (some ⟨g0, 0, none⟩) 2 cap0) sv, .int .i64 0, .string s] w (WroteR w n a b sv s y) := by
  have HO2 := Lib.hid h2
  obtain ⟨i0, hi0, hz0, hz1, hz2⟩ := info_parts info9
  have Hi := Lib.hid hi0
  have Hz := Lib.hid hz0
  have Hz1 := Lib.hid hz1
  have Hz2 := Lib.hid hz2
  have HX := Lib.hid hx
  have HY := Lib.hid hy
  clear hi0 hz0 hz1 hz2 h2 hx hy
  have hc : ∀ w', Rb w w' → ∀ j u, [Value.string x, .string y][j]? = some u → w'.cell? ((⟨g0, 0, none⟩ : Addr).add j) = some u := by
    intro w' hr j u hu
    match j, hu with
    | 0, hu => simp at hu; subst hu; rw [Addr.add_lit]; exact cell_rb hr HX.out
    | 1, hu => simp at hu; subst hu; rw [Addr.add_lit]; exact cell_rb hr HY.out
    | j + 2, hu => simp at hu
  have HC := Lib.hid hc
  have h1c : ∀ u ∈ [Value.string x, .string y], u.oneCell' = true := by intro u hu; simp at hu; rcases hu with rfl | rfl <;> rfl
  have H1 := Lib.hid h1c
  clear hc h1c
  go_enter Try.func75, Try.ntmps75
  go_wp2_with (at_builtin; (refine wpList_append_grows _ rfl _ _ 37 rfl 9 i0 (.string ⟨#[]⟩) 1 16 Try.underlying37 Hi.out Hz.out Hz1.out Hz2.out rfl (by decide) (some ⟨w.heap.size + 1 + 1, 0, none⟩) 0 0 [] rfl (fun h => ⟨rfl, rfl⟩) rfl (fun _ _ j u h => by simp at h) ⟨g0, 0, none⟩ 2 cap0 [.string x, .string y] rfl rfl (HC.out _ ((((Below.refl _ _).alloc (Nat.le_refl _) _).alloc (by simp) _).alloc (by simp; omega) _)) H1.out (by omega) (by decide) (by decide) ?_))
  intro v' w3 ho hg
  obtain ⟨g, cap, tl, rfl, hB, hc2, hcm, hblk⟩ := owned_two ho
  have hB' : w.heap.size + 1 + 1 + 1 ≤ g := by simpa using hB
  have T3 := Lib.hid (((Two.start w [.int .i64 n, .string a, .string b, .slice (some ⟨g0, 0, none⟩) 2 cap0, sv] zero5).rbs ((Below.refl _ _).alloc (Nat.le_refl _) _)).rbs (rb_grown hg))
  have HB := Lib.hid hblk
  clear ho hg hblk hB
  go_wp2_with (refine wpList_store rfl 37 _ _ rfl w.heap.size 3 _ _ [_] _ rfl rfl T3.out.x rfl sizestrs (by simp) (sl_one _ _ _) ?_)
  intro w4 hb hw
  have HB4 := Lib.hid (HB.out.same (hw.block g (by omega)))
  have T4 := Lib.hid (T3.out.storeX hb hw)
  have y3 := T4.out.x.cells5.e3
  clear hb hw T3 HB
  go_wp2_with (refine wpList_store rfl 9 _ _ rfl g 0 _ _ [_] _ rfl rfl HB4.out rfl sizestr (by simp) (str_one _) ?_)
  intro w5 hb hw
  have T5 := Lib.hid (T4.out.other hw (by omega))
  have HB5 := Lib.hid (show Blk w5 g 9 (.string s :: .string y :: tl) from hb)
  obtain ⟨y0, y1, y2, y3, y4⟩ := T5.out.x.cells5
  clear hb hw T4 HB4
  go_wp2_with (refine wpList_store rfl 50 _ _ rfl (w.heap.size + 1) 0 _ _ [_, _, _, _, _] _ rfl rfl T5.out.y rfl sizeref (by simp) (five_one rfl HO2.out) ?_)
  intro w6 hb hw
  have T6 := T5.out.storeY hb hw
  obtain ⟨x0, x1, x2, x3, x4⟩ := T6.y.cells5
  have R6 := Lib.hid T6.rb
  have HB6 := Lib.hid (HB5.out.same (hw.block g (by omega)))
  clear hb hw T5 T6 HB5 y0 y1 y2 y3 y4
  go_wp2
  exact bodyPost_ret (v := .tuple #[rawv n a b (.slice (some ⟨g, 0, none⟩) 2 cap) sv, .int .i64 0]) (by simp [results, Try.results75, go_sem, x0, x1, x2, x3, x4]) rfl ⟨g, cap, rfl, by omega, hc2, hcm, HB6.out.cell 0, HB6.out.cell 1, R6.out⟩

set_option maxRecDepth 100000 in
theorem rwrite_1 (n : Int) (a b s x y : ByteArray) (g0 cap0 : Nat) (sv : Value) (w : World) (h2 : sv.oneCell' = true) (hx : w.cell? ⟨g0, 0, none⟩ = some (.string x)) (hy : w.cell? ⟨g0, 1, none⟩ = some (.string y)) :
    Calls Try.prog 75 #[rawv n a b (.slice (some ⟨g0, 0, none⟩) 2 cap0) sv, .int .i64 1, .string s] w (WroteR w n a b sv x s) := by
  have HO2 := Lib.hid h2
  obtain ⟨i0, hi0, hz0, hz1, hz2⟩ := info_parts info9
  have Hi := Lib.hid hi0
  have Hz := Lib.hid hz0
  have Hz1 := Lib.hid hz1
  have Hz2 := Lib.hid hz2
  have HX := Lib.hid hx
  have HY := Lib.hid hy
  clear hi0 hz0 hz1 hz2 h2 hx hy
  have hc : ∀ w', Rb w w' → ∀ j u, [Value.string x, .string y][j]? = some u → w'.cell? ((⟨g0, 0, none⟩ : Addr).add j) = some u := by
    intro w' hr j u hu
    match j, hu with
    | 0, hu => simp at hu; subst hu; rw [Addr.add_lit]; exact cell_rb hr HX.out
    | 1, hu => simp at hu; subst hu; rw [Addr.add_lit]; exact cell_rb hr HY.out
    | j + 2, hu => simp at hu
  have HC := Lib.hid hc
  have h1c : ∀ u ∈ [Value.string x, .string y], u.oneCell' = true := by intro u hu; simp at hu; rcases hu with rfl | rfl <;> rfl
  have H1 := Lib.hid h1c
  clear hc h1c
  go_enter Try.func75, Try.ntmps75
  go_wp2_with (at_builtin; (refine wpList_append_grows _ rfl _ _ 37 rfl 9 i0 (.string ⟨#[]⟩) 1 16 Try.underlying37 Hi.out Hz.out Hz1.out Hz2.out rfl (by decide) (some ⟨w.heap.size + 1 + 1, 0, none⟩) 0 0 [] rfl (fun h => ⟨rfl, rfl⟩) rfl (fun _ _ j u h => by simp at h) ⟨g0, 0, none⟩ 2 cap0 [.string x, .string y] rfl rfl (HC.out _ ((((Below.refl _ _).alloc (Nat.le_refl _) _).alloc (by simp) _).alloc (by simp; omega) _)) H1.out (by omega) (by decide) (by decide) ?_))
  intro v' w3 ho hg
  obtain ⟨g, cap, tl, rfl, hB, hc2, hcm, hblk⟩ := owned_two ho
  have hB' : w.heap.size + 1 + 1 + 1 ≤ g := by simpa using hB
  have T3 := Lib.hid (((Two.start w [.int .i64 n, .string a, .string b, .slice (some ⟨g0, 0, none⟩) 2 cap0, sv] zero5).rbs ((Below.refl _ _).alloc (Nat.le_refl _) _)).rbs (rb_grown hg))
  have HB := Lib.hid hblk
  clear ho hg hblk hB
  go_wp2_with (refine wpList_store rfl 37 _ _ rfl w.heap.size 3 _ _ [_] _ rfl rfl T3.out.x rfl sizestrs (by simp) (sl_one _ _ _) ?_)
  intro w4 hb hw
  have HB4 := Lib.hid (HB.out.same (hw.block g (by omega)))
  have T4 := Lib.hid (T3.out.storeX hb hw)
  have y3 := T4.out.x.cells5.e3
  clear hb hw T3 HB
  go_wp2_with (refine wpList_store rfl 9 _ _ rfl g 1 _ _ [_] _ rfl rfl HB4.out rfl sizestr (by simp) (str_one _) ?_)
  intro w5 hb hw
  have T5 := Lib.hid (T4.out.other hw (by omega))
  have HB5 := Lib.hid (show Blk w5 g 9 (.string x :: .string s :: tl) from hb)
  obtain ⟨y0, y1, y2, y3, y4⟩ := T5.out.x.cells5
  clear hb hw T4 HB4
  go_wp2_with (refine wpList_store rfl 50 _ _ rfl (w.heap.size + 1) 0 _ _ [_, _, _, _, _] _ rfl rfl T5.out.y rfl sizeref (by simp) (five_one rfl HO2.out) ?_)
  intro w6 hb hw
  have T6 := T5.out.storeY hb hw
  obtain ⟨x0, x1, x2, x3, x4⟩ := T6.y.cells5
  have R6 := Lib.hid T6.rb
  have HB6 := Lib.hid (HB5.out.same (hw.block g (by omega)))
  clear hb hw T5 T6 HB5 y0 y1 y2 y3 y4
  go_wp2
  exact bodyPost_ret (v := .tuple #[rawv n a b (.slice (some ⟨g, 0, none⟩) 2 cap) sv, .int .i64 0]) (by simp [results, Try.results75, go_sem, x0, x1, x2, x3, x4]) rfl ⟨g, cap, rfl, by omega, hc2, hcm, HB6.out.cell 0, HB6.out.cell 1, R6.out⟩
end Go.Proofs.Ytbdgdmieggpmhaa.L3

namespace Go.Proofs.Ytbdgdmieggpmhaa.L3
open Go.ChangeShapes Go.WideShapes Go.ChangeAt Go.RowKit By Reg
set_option linter.unusedVariables false

theorem Ss.one {w : World} {v : Value} {x y : List UInt8} (h : Ss w v x y) : v.cells = #[v] ∧ v.oneCell' = true := by
  obtain ⟨g, cap, rfl, _⟩ := h; exact ⟨rfl, rfl⟩
theorem log_small {D : Dk} (h : D.Ok) : (str D.sure ++ str D.rest).size ≤ 1048576 := by
  rw [str_log, str_size]
  obtain ⟨h1, h2, -⟩ := h
  omega

theorem rsync_any (D : Dk) (r : Rm) (w : World) (h : HeldR w r D) (ok : D.Ok) : Calls Try.prog 58 #[refv D r] w (RefE w r.has D.sync) :=
  (rsync_raw _ _ _ _ _ w (sum_fits ok) h.n.one h.s.one).mono fun e w' ⟨he, hb⟩ => ⟨⟨r.nv, r.nv⟩, by rw [he, str_append]; rfl, ⟨h.n.rb hb, h.n.rb hb⟩, hb, fun k hk => by rcases hk with hk | hk <;> exact .inl (.inl hk)⟩

theorem rcrash_any (D : Dk) (r : Rm) (k : Int) (w : World) (h : HeldR w r D) (ok : D.Ok) : Calls Try.prog 60 #[refv D r, .int .i64 k] w (RefE w r.has (D.crash k.toNat)) := by
  have fin : ∀ (w' : World), Rb w w' → ∀ s : ByteArray, s = str (D.crash k.toNat).sure → RefE w r.has (D.crash k.toNat) (.returned (rawv D.room s ⟨#[]⟩ r.sv r.sv)) w' := fun w' hb s hs =>
    ⟨⟨r.sv, r.sv⟩, by rw [hs]; rfl, ⟨h.s.rb hb, h.s.rb hb⟩, hb, fun k hk => by rcases hk with hk | hk <;> exact .inl (.inr hk)⟩
  by_cases h0 : k < 0
  · refine (rcrash_1 _ _ _ _ _ k w (sum_fits ok) h.s.one h0).mono fun e w' ⟨he, hb⟩ => ?_
    subst he
    refine fin w' hb _ ?_
    rw [show k.toNat = 0 by omega]
    simp [Dk.crash]
  · by_cases h1 : (D.rest.length : Int) < k
    · refine (rcrash_3 _ _ _ _ _ k w (sum_fits ok) h.s.one (by rw [str_size]; exact h1)).mono fun e w' ⟨he, hb⟩ => ?_
      subst he
      refine fin w' hb _ ?_
      rw [str_append]
      show str _ = str (D.sure ++ D.rest.take k.toNat)
      rw [List.take_of_length_le (by omega)]
    · obtain ⟨m, rfl⟩ := Int.eq_ofNat_of_zero_le (by omega : 0 ≤ k)
      refine (rcrash_2 _ _ _ _ _ m w (sum_fits ok) h.s.one (by rw [str_size]; omega)).mono fun e w' ⟨he, hb⟩ => ?_
      subst he
      refine fin w' hb _ ?_
      rw [extract_str, str_append, Int.toNat_natCast]
      rfl

theorem rappend_4 (D : Dk) (r : Rm) (b : List UInt8) (w : World) (h : HeldR w r D) (ok : D.Ok) (hb : b.length ≤ 1000) (hf : D.room < D.log.length + b.length) :
    Calls Try.prog 74 #[refv D r, .string (str b)] w (RefT w r.has D 4) :=
  (rappend_full _ _ _ _ _ _ w (sum_fits ok) (log_small ok) (by rw [str_size]; omega) h.n.one.2 h.s.one.2 (by rw [str_log, str_size, str_size]; omega)).mono fun e w' ⟨he, hb⟩ => ⟨r, he, h.rb hb, hb, fun k hk => .inl hk⟩
theorem rappend_0 (D : Dk) (r : Rm) (b : List UInt8) (w : World) (h : HeldR w r D) (ok : D.Ok) (hb : b.length ≤ 1000) (hf : D.log.length + b.length ≤ D.room) :
    Calls Try.prog 74 #[refv D r, .string (str b)] w (RefT w r.has (D.append b) 0) :=
  (rappend_fits _ _ _ _ _ _ w (sum_fits ok) (log_small ok) (by rw [str_size]; omega) h.n.one.2 h.s.one.2 (by rw [str_log, str_size, str_size]; omega) (by have := ok.2.1; omega)).mono fun e w' ⟨he, hb⟩ => ⟨r, by rw [he, str_append]; rfl, ⟨h.n.rb hb, h.s.rb hb⟩, hb, fun k hk => .inl hk⟩

theorem rwrite_x (D : Dk) (r : Rm) (k : Int) (b : List UInt8) (w : World) (h : HeldR w r D) (hk : decide (0 ≤ k ∧ k < 2) = false) :
    Calls Try.prog 75 #[refv D r, .int .i64 k, .string (str b)] w (RefT w r.has D 1) :=
  (rwrite_no _ _ _ _ _ _ k w h.n.one.2 h.s.one.2 hk).mono fun e w' ⟨he, hb⟩ => ⟨r, he, h.rb hb, hb, fun k hk => .inl hk⟩
theorem rwrite_y0 (D : Dk) (r : Rm) (b : List UInt8) (w : World) (h : HeldR w r D) :
    Calls Try.prog 75 #[refv D r, .int .i64 0, .string (str b)] w (RefT w r.has (D.write0 b) 0) := by
  obtain ⟨g, cap, hv, h0, hm, hx, hy⟩ := h.n
  unfold refv
  rw [hv]
  refine (rwrite_0 _ _ _ _ _ _ g cap _ w h.s.one.2 hx hy).mono fun e w' ⟨g', cap', he, hg, hc, hcm, hx', hy', hb⟩ => ?_
  refine ⟨⟨.slice (some ⟨g', 0, none⟩) 2 cap', r.sv⟩, he, ⟨⟨g', cap', rfl, hc, hcm, hx', hy'⟩, h.s.rb hb⟩, hb, fun k hk => ?_⟩
  rcases hk with hk | hk
  · simp [Value.ownBlock] at hk; exact .inr (by omega)
  · exact .inl (.inr hk)
theorem rwrite_y1 (D : Dk) (r : Rm) (b : List UInt8) (w : World) (h : HeldR w r D) :
    Calls Try.prog 75 #[refv D r, .int .i64 1, .string (str b)] w (RefT w r.has (D.write1 b) 0) := by
  obtain ⟨g, cap, hv, h0, hm, hx, hy⟩ := h.n
  unfold refv
  rw [hv]
  refine (rwrite_1 _ _ _ _ _ _ g cap _ w h.s.one.2 hx hy).mono fun e w' ⟨g', cap', he, hg, hc, hcm, hx', hy', hb⟩ => ?_
  refine ⟨⟨.slice (some ⟨g', 0, none⟩) 2 cap', r.sv⟩, he, ⟨⟨g', cap', rfl, hc, hcm, hx', hy'⟩, h.s.rb hb⟩, hb, fun k hk => ?_⟩
  rcases hk with hk | hk
  · simp [Value.ownBlock] at hk; exact .inr (by omega)
  · exact .inl (.inr hk)
end Go.Proofs.Ytbdgdmieggpmhaa.L3

namespace Go.Proofs.Ytbdgdmieggpmhaa.L3
open Go.ChangeShapes Go.WideShapes Go.ChangeAt Go.RowKit By Reg
set_option linter.unusedVariables false

section
variable {ops : Array Oper} {o : Oper} {a : Act} {w : World} {T : World → Value → Prop}
theorem ok_index53 {B : Nat} (x i : Operand) (k : Nat) (hk : k < 2) (ho : o.op = .indexAddr 91 x i) (hw : Region.wanted o (yielded ops a.tmps) = true) (hx : a.eval x = .pointer (some ⟨B, 0, none⟩)) (hi : a.eval i = .int .i64 (k : Int))
    (h : T w (.pointer (some ⟨B, k, none⟩))) : okAt Try.prog ops o a w T := by
  refine ok_value (w' := w) (v := .pointer (some ⟨B, k, none⟩)) hw ?_ h
  simp only [execOp, ho, hx, hi]
  have hk' : k = 0 ∨ k = 1 := by omega
  rcases hk' with rfl | rfl <;> simp [go_sem]
end

set_option maxRecDepth 100000 in
theorem equal_any (v u : Value) (xs : List UInt8) (w0 : World) (hx : Bs w0 v xs) (hu : Bs w0 u xs) : Calls Try.prog 64 #[v, u] w0 fun e w' => e = .returned (.bool true) ∧ Rb w0 w' := by
  have HX := Lib.hid hx
  have HU := Lib.hid hu
  clear hx hu
  go_enter Try.func64, Try.ntmps64
  go_upto_region 1 with (fail)
  refine wp_region_plain_specs (R := Rb) (S := [Spec.eq (v), Spec.eq (strV (xs)), Spec.eq (u), Spec.eq (strV (xs)), Spec.eq (.bool true), Spec.eq (.bool true)]) (n := 1) (size := 10) Rb.trans (Rb.refl _) rfl (by kernel_rfl) ?owed ?fin
  case owed =>
    refine Owed.cons ?_ ?_
    · -- 0: slot 5 := Op.move (Operand.tmp 0)
      intro a w hR F
      have e0 : a.eval (.tmp 0) = v := F.old 0 (by kernel_rfl)
      exact ok_move _ rfl (wanted_none rfl) ⟨Rb.refl _, e0⟩
    refine Owed.cons ?_ ?_
    · -- 1: slot 6 := Op.convert 23 9 (Operand.tmp 5)
      intro a w hR F
      have e5 : a.eval (.tmp 5) = v := F.new 0 5 (by kernel_rfl)
      exact ok_conv _ _ _ rfl (wanted_none rfl) (run_convert_Bs (xs := xs) (by rw [e5]; exact HX.out.below hR) 23 5 9 Try.underlying23 Try.underlying5 Try.underlying9) ⟨Rb.refl _, rfl⟩
    refine Owed.cons ?_ ?_
    · -- 2: slot 7 := Op.move (Operand.tmp 1)
      intro a w hR F
      have e1 : a.eval (.tmp 1) = u := F.old 1 (by kernel_rfl)
      exact ok_move _ rfl (wanted_none rfl) ⟨Rb.refl _, e1⟩
    refine Owed.cons ?_ ?_
    · -- 3: slot 8 := Op.convert 23 9 (Operand.tmp 7)
      intro a w hR F
      have e7 : a.eval (.tmp 7) = u := F.new 2 7 (by kernel_rfl)
      exact ok_conv _ _ _ rfl (wanted_none rfl) (run_convert_Bs (xs := xs) (by rw [e7]; exact HU.out.below hR) 23 5 9 Try.underlying23 Try.underlying5 Try.underlying9) ⟨Rb.refl _, rfl⟩
    refine Owed.cons ?_ ?_
    · -- 4: slot 9 := Op.binOp BinOp.eql 9 (Operand.tmp 6) (Operand.tmp 8) 9
      intro a w hR F
      have e6 : a.eval (.tmp 6) = strV (xs) := F.new 1 6 (by kernel_rfl)
      have e8 : a.eval (.tmp 8) = strV (xs) := F.new 3 8 (by kernel_rfl)
      refine ok_bin _ _ _ _ _ rfl (wanted_none rfl) e6 e8 (run_eql_strV _ _ _ _ _) ⟨Rb.refl _, ?_⟩
      exact congrArg Value.bool (by simp)
    refine Owed.cons ?_ ?_
    · -- 5: slot 4 := Op.assign (Operand.tmp 9)
      intro a w hR F
      have e9 : a.eval (.tmp 9) = .bool true := F.new 4 9 (by kernel_rfl)
      exact ok_assign _ rfl (wanted_none rfl) ⟨Rb.refl _, e9⟩
    exact Owed.nil
  case fin =>
    intro y w2 hR hy
    have e5 : y 5 = .bool true := hy 5 _ rfl
    have HR := Lib.hid hR
    clear hy hR
    simp only [putAll, Act.put, List.setIfInBounds_toArray, List.set_cons_zero, List.set_cons_succ]
    rw [e5]
    clear e5
    go_wp2
    go_ret
    exact ⟨rfl, HR.out⟩

structure BoxS (w0 : World) (v0 v1 u0 u1 : Value) (w : World) : Prop where
  x : Blk w w0.heap.size 91 [v0, v1]
  y : Blk w (w0.heap.size + 1) 91 [u0, u1]
  rb : Rb w0 w
set_option maxRecDepth 100000 in
theorem sameslots_any (v0 v1 u0 u1 : Value) (xs ys : List UInt8) (w0 : World) (hx0 : Bs w0 v0 xs) (hu0 : Bs w0 u0 xs) (hx1 : Bs w0 v1 ys) (hu1 : Bs w0 u1 ys) :
    Calls Try.prog 65 #[.agg #[v0, v1], .agg #[u0, u1]] w0 fun e w' => e = .returned (.bool true) ∧ Rb w0 w' := by
  have HX0 := Lib.hid hx0
  have HX1 := Lib.hid hx1
  have HU0 := Lib.hid hu0
  have HU1 := Lib.hid hu1
  clear hx0 hx1 hu0 hu1
  go_enter Try.func65, Try.ntmps65
  go_wp2_with fail
  have ha : Blk ((w0.alloc (.cells #[v0, v1] 91)).alloc (.cells #[u0, u1] 91)) w0.heap.size 91 [v0, v1] := (Blk.new w0 _ [v0, v1]).same (heap_alloc_old _ _ (by simp))
  have hc : Blk ((w0.alloc (.cells #[v0, v1] 91)).alloc (.cells #[u0, u1] 91)) (w0.heap.size + 1) 91 [u0, u1] := by
    have := Blk.new (w0.alloc (.cells #[v0, v1] 91)) 91 [u0, u1]
    simpa using this
  have hb : Rb w0 ((w0.alloc (.cells #[v0, v1] 91)).alloc (.cells #[u0, u1] 91)) := ((Below.refl _ _).alloc (Nat.le_refl _) _).alloc (by simp) _
  generalize (w0.alloc (Obj.cells #[v0, v1] 91)).alloc (Obj.cells #[u0, u1] 91) = wt at *
  have HS := Lib.hid (show BoxS w0 v0 v1 u0 u1 wt from ⟨ha, hc, hb⟩)
  clear ha hb hc
  go_loopw [6] (fun i wr => ∃ k : Nat, k ≤ 2 ∧ i = .int .i64 k ∧ BoxS w0 v0 v1 u0 u1 wr) (fun i _ => 2 - (intOf i).toNat)
  case atStart => exact ⟨0, Nat.zero_le _, rfl, HS.out⟩
  case round =>
    obtain ⟨k, hk, rfl, hS⟩ := hrel
    have HA := Lib.hid hS.x
    have HC := Lib.hid hS.y
    have HB := Lib.hid hS.rb
    clear HS hS
    rcases (by omega : k = 0 ∨ k = 1 ∨ k = 2) with rfl | rfl | rfl
    · go_upto_region 4 with (fail)
      refine wp_region_specs (R := Rb) (S := [Spec.eq (.int .i64 (0)), Spec.eq (.pointer (some ⟨w0.heap.size, 0, none⟩)), Spec.eq (v0), Spec.eq (.int .i64 (0)), Spec.eq (.pointer (some ⟨w0.heap.size + 1, 0, none⟩)), Spec.eq (u0), Spec.eq (.bool true), Spec.eq (.bool false)]) (n := 1) (size := 18) (by kernel_rfl) Rb.trans (Rb.drew _) rfl (by kernel_rfl) ?owed ?fin
      case owed =>
        refine Owed.cons ?_ ?_
        · -- 0: slot 9 := Op.move (Operand.tmp 5)
          intro a w hR F
          have e5 : a.eval (.tmp 5) = .int .i64 (0) := F.old 5 (by kernel_rfl)
          exact ok_move _ rfl (wanted_none rfl) ⟨Rb.refl _, e5⟩
        refine Owed.cons ?_ ?_
        · -- 1: slot 10 := Op.indexAddr 91 (Operand.tmp 2) (Operand.tmp 9)
          intro a w hR F
          have e2 : a.eval (.tmp 2) = .pointer (some ⟨w0.heap.size, 0, none⟩) := F.old 2 (by kernel_rfl)
          have e9 : a.eval (.tmp 9) = .int .i64 (0) := F.new 0 9 (by kernel_rfl)
          exact ok_index53 _ _ 0 (by decide) rfl (wanted_none rfl) e2 e9 ⟨Rb.refl _, rfl⟩
        refine Owed.cons ?_ ?_
        · -- 2: slot 11 := Op.load 23 (Operand.tmp 10)
          intro a w hR F
          have e10 : a.eval (.tmp 10) = .pointer (some ⟨w0.heap.size, 0, none⟩) := F.new 1 10 (by kernel_rfl)
          exact ok_load _ _ rfl (wanted_none rfl) e10 (load_bytes ((HA.out.rb hR).cell 0)) ⟨Rb.refl _, rfl⟩
        refine Owed.cons ?_ ?_
        · -- 3: slot 12 := Op.move (Operand.tmp 5)
          intro a w hR F
          have e5 : a.eval (.tmp 5) = .int .i64 (0) := F.old 5 (by kernel_rfl)
          exact ok_move _ rfl (wanted_none rfl) ⟨Rb.refl _, e5⟩
        refine Owed.cons ?_ ?_
        · -- 4: slot 13 := Op.indexAddr 91 (Operand.tmp 3) (Operand.tmp 12)
          intro a w hR F
          have e3 : a.eval (.tmp 3) = .pointer (some ⟨w0.heap.size + 1, 0, none⟩) := F.old 3 (by kernel_rfl)
          have e12 : a.eval (.tmp 12) = .int .i64 (0) := F.new 3 12 (by kernel_rfl)
          exact ok_index53 _ _ 0 (by decide) rfl (wanted_none rfl) e3 e12 ⟨Rb.refl _, rfl⟩
        refine Owed.cons ?_ ?_
        · -- 5: slot 14 := Op.load 23 (Operand.tmp 13)
          intro a w hR F
          have e13 : a.eval (.tmp 13) = .pointer (some ⟨w0.heap.size + 1, 0, none⟩) := F.new 4 13 (by kernel_rfl)
          exact ok_load _ _ rfl (wanted_none rfl) e13 (load_bytes ((HC.out.rb hR).cell 0)) ⟨Rb.refl _, rfl⟩
        refine Owed.cons ?_ ?_
        · -- 6: slot 15 := Op.call { callee := Callee.value (Operand.func 64), args := #[Operand.tmp 11, Operand.tmp 14], argTy
          intro a w hR F
          have e11 : a.eval (.tmp 11) = v0 := F.new 2 11 (by kernel_rfl)
          have e14 : a.eval (.tmp 14) = u0 := F.new 5 14 (by kernel_rfl)
          refine ok_call 64 _ _ #[v0, u0] rfl (wanted_none rfl) (by simp [e11, e14]) (Try.call64 _ _) ?_
          exact val_call_rb (equal_any v0 u0 _ w (HX0.out.below (Rb.trans _ _ _ HB.out hR)) (HU0.out.below (Rb.trans _ _ _ HB.out hR)))
        refine Owed.cons ?_ ?_
        · -- 7: slot 16 := Op.unOp UnOp.not 4 (Operand.tmp 15)
          intro a w hR F
          have e15 : a.eval (.tmp 15) = .bool true := F.new 6 15 (by kernel_rfl)
          exact ok_not _ _ true rfl (wanted_none rfl) e15 ⟨Rb.refl _, rfl⟩
        exact Owed.nil
      case fin =>
        intro y w2 hR hy
        have e7 : y 7 = .bool false := hy 7 _ rfl
        have HR := Lib.hid hR
        clear hy hR
        simp only [putAll, Act.put, List.setIfInBounds_toArray, List.set_cons_zero, List.set_cons_succ]
        rw [e7]
        clear e7
        have HA := Lib.hid (HA.out.rb HR.out)
        have HC := Lib.hid (HC.out.rb HR.out)
        have HB := Lib.hid (Rb.trans _ _ _ HB.out HR.out)
        clear HR
        go_wp2
        go_roundw
        case rel => exact ⟨1, by omega, by go_num, HA.out, HC.out, HB.out⟩
        case measure => simp [intOf]
    · go_upto_region 4 with (fail)
      refine wp_region_specs (R := Rb) (S := [Spec.eq (.int .i64 (1)), Spec.eq (.pointer (some ⟨w0.heap.size, 1, none⟩)), Spec.eq (v1), Spec.eq (.int .i64 (1)), Spec.eq (.pointer (some ⟨w0.heap.size + 1, 1, none⟩)), Spec.eq (u1), Spec.eq (.bool true), Spec.eq (.bool false)]) (n := 1) (size := 18) (by kernel_rfl) Rb.trans (Rb.drew _) rfl (by kernel_rfl) ?owed ?fin
      case owed =>
        refine Owed.cons ?_ ?_
        · -- 0: slot 9 := Op.move (Operand.tmp 5)
          intro a w hR F
          have e5 : a.eval (.tmp 5) = .int .i64 (1) := F.old 5 (by kernel_rfl)
          exact ok_move _ rfl (wanted_none rfl) ⟨Rb.refl _, e5⟩
        refine Owed.cons ?_ ?_
        · -- 1: slot 10 := Op.indexAddr 91 (Operand.tmp 2) (Operand.tmp 9)
          intro a w hR F
          have e2 : a.eval (.tmp 2) = .pointer (some ⟨w0.heap.size, 0, none⟩) := F.old 2 (by kernel_rfl)
          have e9 : a.eval (.tmp 9) = .int .i64 (1) := F.new 0 9 (by kernel_rfl)
          exact ok_index53 _ _ 1 (by decide) rfl (wanted_none rfl) e2 e9 ⟨Rb.refl _, rfl⟩
        refine Owed.cons ?_ ?_
        · -- 2: slot 11 := Op.load 23 (Operand.tmp 10)
          intro a w hR F
          have e10 : a.eval (.tmp 10) = .pointer (some ⟨w0.heap.size, 1, none⟩) := F.new 1 10 (by kernel_rfl)
          exact ok_load _ _ rfl (wanted_none rfl) e10 (load_bytes ((HA.out.rb hR).cell 1)) ⟨Rb.refl _, rfl⟩
        refine Owed.cons ?_ ?_
        · -- 3: slot 12 := Op.move (Operand.tmp 5)
          intro a w hR F
          have e5 : a.eval (.tmp 5) = .int .i64 (1) := F.old 5 (by kernel_rfl)
          exact ok_move _ rfl (wanted_none rfl) ⟨Rb.refl _, e5⟩
        refine Owed.cons ?_ ?_
        · -- 4: slot 13 := Op.indexAddr 91 (Operand.tmp 3) (Operand.tmp 12)
          intro a w hR F
          have e3 : a.eval (.tmp 3) = .pointer (some ⟨w0.heap.size + 1, 0, none⟩) := F.old 3 (by kernel_rfl)
          have e12 : a.eval (.tmp 12) = .int .i64 (1) := F.new 3 12 (by kernel_rfl)
          exact ok_index53 _ _ 1 (by decide) rfl (wanted_none rfl) e3 e12 ⟨Rb.refl _, rfl⟩
        refine Owed.cons ?_ ?_
        · -- 5: slot 14 := Op.load 23 (Operand.tmp 13)
          intro a w hR F
          have e13 : a.eval (.tmp 13) = .pointer (some ⟨w0.heap.size + 1, 1, none⟩) := F.new 4 13 (by kernel_rfl)
          exact ok_load _ _ rfl (wanted_none rfl) e13 (load_bytes ((HC.out.rb hR).cell 1)) ⟨Rb.refl _, rfl⟩
        refine Owed.cons ?_ ?_
        · -- 6: slot 15 := Op.call { callee := Callee.value (Operand.func 64), args := #[Operand.tmp 11, Operand.tmp 14], argTy
          intro a w hR F
          have e11 : a.eval (.tmp 11) = v1 := F.new 2 11 (by kernel_rfl)
          have e14 : a.eval (.tmp 14) = u1 := F.new 5 14 (by kernel_rfl)
          refine ok_call 64 _ _ #[v1, u1] rfl (wanted_none rfl) (by simp [e11, e14]) (Try.call64 _ _) ?_
          exact val_call_rb (equal_any v1 u1 _ w (HX1.out.below (Rb.trans _ _ _ HB.out hR)) (HU1.out.below (Rb.trans _ _ _ HB.out hR)))
        refine Owed.cons ?_ ?_
        · -- 7: slot 16 := Op.unOp UnOp.not 4 (Operand.tmp 15)
          intro a w hR F
          have e15 : a.eval (.tmp 15) = .bool true := F.new 6 15 (by kernel_rfl)
          exact ok_not _ _ true rfl (wanted_none rfl) e15 ⟨Rb.refl _, rfl⟩
        exact Owed.nil
      case fin =>
        intro y w2 hR hy
        have e7 : y 7 = .bool false := hy 7 _ rfl
        have HR := Lib.hid hR
        clear hy hR
        simp only [putAll, Act.put, List.setIfInBounds_toArray, List.set_cons_zero, List.set_cons_succ]
        rw [e7]
        clear e7
        have HA := Lib.hid (HA.out.rb HR.out)
        have HC := Lib.hid (HC.out.rb HR.out)
        have HB := Lib.hid (Rb.trans _ _ _ HB.out HR.out)
        clear HR
        go_wp2
        go_roundw
        case rel => exact ⟨2, by omega, by go_num, HA.out, HC.out, HB.out⟩
        case measure => simp [intOf]
    · go_wp2
      go_ret
      exact ⟨rfl, HB.out⟩
end Go.Proofs.Ytbdgdmieggpmhaa.L3

namespace Go.Proofs.Ytbdgdmieggpmhaa.L3
open Go.ChangeShapes Go.WideShapes Go.ChangeAt Go.RowKit By Reg
set_option linter.unusedVariables false

set_option maxRecDepth 100000 in
theorem same_any (m n : Mem) (D : Dk) (w0 : World) (h1 : HeldK w0 m D) (h2 : HeldK w0 n D) : Calls Try.prog 39 #[.pointer (some ⟨m.b, 0, none⟩), .pointer (some ⟨n.b, 0, none⟩)] w0 fun e w' => e = .returned (.bool true) ∧ Rb w0 w' := by
  have HM := Lib.hid h1.blk
  have HN := Lib.hid h2.blk
  have GM := Lib.hid (Bs.of_owns h1.own)
  have GN := Lib.hid (Bs.of_owns h2.own)
  have H1 := Lib.hid h1
  have H2 := Lib.hid h2
  clear h1 h2
  go_enter Try.func39, Try.ntmps39
  go_upto_region 3 with (fail)
  refine wp_region_specs (R := Rb) (S := [Spec.eq (.pointer (some ⟨m.b, 0, none⟩)), Spec.eq (.pointer (some ⟨m.b, 0, none⟩)), Spec.eq (.pointer (some ⟨m.b, 0, none⟩)), Spec.eq (.int .i64 (D.room)), Spec.eq (.pointer (some ⟨n.b, 0, none⟩)), Spec.eq (.pointer (some ⟨n.b, 0, none⟩)), Spec.eq (.pointer (some ⟨n.b, 0, none⟩)), Spec.eq (.int .i64 (D.room)), Spec.eq (.bool true), Spec.eq (.bool true), Spec.eq (.pointer (some ⟨m.b, 0, none⟩)), Spec.eq (.pointer (some ⟨m.b, 0, none⟩)), Spec.eq (.pointer (some ⟨m.b, 2, none⟩)), Spec.eq (.int .i64 (D.sure.length)), Spec.eq (.pointer (some ⟨n.b, 0, none⟩)), Spec.eq (.pointer (some ⟨n.b, 0, none⟩)), Spec.eq (.pointer (some ⟨n.b, 2, none⟩)), Spec.eq (.int .i64 (D.sure.length)), Spec.eq (.bool true), Spec.eq (.bool true), Spec.eq (.bool true), Spec.eq (.pointer (some ⟨m.b, 0, none⟩)), Spec.eq (.pointer (some ⟨m.b, 0, none⟩)), Spec.eq (.pointer (some ⟨m.b, 1, none⟩)), Spec.eq (m.lv), Spec.eq (.pointer (some ⟨n.b, 0, none⟩)), Spec.eq (.pointer (some ⟨n.b, 0, none⟩)), Spec.eq (.pointer (some ⟨n.b, 1, none⟩)), Spec.eq (n.lv), Spec.eq (.bool true), Spec.eq (.bool true), Spec.eq (.bool true), Spec.eq (.pointer (some ⟨m.b, 0, none⟩)), Spec.eq (.pointer (some ⟨m.b, 0, none⟩)), Spec.eq (.pointer (some ⟨m.b, 3, none⟩)), Spec.eq (.agg #[m.v0, m.v1]), Spec.eq (.pointer (some ⟨n.b, 0, none⟩)), Spec.eq (.pointer (some ⟨n.b, 0, none⟩)), Spec.eq (.pointer (some ⟨n.b, 3, none⟩)), Spec.eq (.agg #[n.v0, n.v1]), Spec.eq (.bool true), Spec.eq (.bool true), Spec.eq (.bool true), Spec.eq (.pointer (some ⟨m.b, 0, none⟩)), Spec.eq (.pointer (some ⟨m.b, 0, none⟩)), Spec.eq (.pointer (some ⟨m.b, 5, none⟩)), Spec.eq (.agg #[m.u0, m.u1]), Spec.eq (.pointer (some ⟨n.b, 0, none⟩)), Spec.eq (.pointer (some ⟨n.b, 0, none⟩)), Spec.eq (.pointer (some ⟨n.b, 5, none⟩)), Spec.eq (.agg #[n.u0, n.u1]), Spec.eq (.bool true), Spec.eq (.bool true), Spec.eq (.bool true)]) (n := 1) (size := 67) (by kernel_rfl) Rb.trans (Rb.drew _) rfl (by kernel_rfl) ?owed ?fin
  case owed =>
    refine Owed.cons ?_ ?_
    · -- 0: slot 14 := Op.move (Operand.tmp 0)
      intro a w hR F
      have e0 : a.eval (.tmp 0) = .pointer (some ⟨m.b, 0, none⟩) := F.old 0 (by kernel_rfl)
      exact ok_move _ rfl (wanted_none rfl) ⟨Rb.refl _, e0⟩
    refine Owed.cons ?_ ?_
    · -- 1: slot 15 := Op.nilCheck (Operand.tmp 14)
      intro a w hR F
      have e14 : a.eval (.tmp 14) = .pointer (some ⟨m.b, 0, none⟩) := F.new 0 14 (by kernel_rfl)
      exact ok_nilCheck _ rfl (wanted_none rfl) e14 ⟨Rb.refl _, rfl⟩
    refine Owed.cons ?_ ?_
    · -- 2: slot 16 := Op.fieldAddr 93 (Operand.tmp 15) 0
      intro a w hR F
      have e15 : a.eval (.tmp 15) = .pointer (some ⟨m.b, 0, none⟩) := F.new 1 15 (by kernel_rfl)
      exact ok_fieldK _ 0 0 (by decide) rfl (wanted_none rfl) e15 ⟨Rb.refl _, rfl⟩
    refine Owed.cons ?_ ?_
    · -- 3: slot 17 := Op.load 3 (Operand.tmp 16)
      intro a w hR F
      have e16 : a.eval (.tmp 16) = .pointer (some ⟨m.b, 0, none⟩) := F.new 2 16 (by kernel_rfl)
      exact ok_load _ _ rfl (wanted_none rfl) e16 (load_int ((HM.out.rb hR).cell 0)) ⟨Rb.refl _, rfl⟩
    refine Owed.cons ?_ ?_
    · -- 4: slot 18 := Op.move (Operand.tmp 1)
      intro a w hR F
      have e1 : a.eval (.tmp 1) = .pointer (some ⟨n.b, 0, none⟩) := F.old 1 (by kernel_rfl)
      exact ok_move _ rfl (wanted_none rfl) ⟨Rb.refl _, e1⟩
    refine Owed.cons ?_ ?_
    · -- 5: slot 19 := Op.nilCheck (Operand.tmp 18)
      intro a w hR F
      have e18 : a.eval (.tmp 18) = .pointer (some ⟨n.b, 0, none⟩) := F.new 4 18 (by kernel_rfl)
      exact ok_nilCheck _ rfl (wanted_none rfl) e18 ⟨Rb.refl _, rfl⟩
    refine Owed.cons ?_ ?_
    · -- 6: slot 20 := Op.fieldAddr 93 (Operand.tmp 19) 0
      intro a w hR F
      have e19 : a.eval (.tmp 19) = .pointer (some ⟨n.b, 0, none⟩) := F.new 5 19 (by kernel_rfl)
      exact ok_fieldK _ 0 0 (by decide) rfl (wanted_none rfl) e19 ⟨Rb.refl _, rfl⟩
    refine Owed.cons ?_ ?_
    · -- 7: slot 21 := Op.load 3 (Operand.tmp 20)
      intro a w hR F
      have e20 : a.eval (.tmp 20) = .pointer (some ⟨n.b, 0, none⟩) := F.new 6 20 (by kernel_rfl)
      exact ok_load _ _ rfl (wanted_none rfl) e20 (load_int ((HN.out.rb hR).cell 0)) ⟨Rb.refl _, rfl⟩
    refine Owed.cons ?_ ?_
    · -- 8: slot 22 := Op.binOp BinOp.eql 3 (Operand.tmp 17) (Operand.tmp 21) 3
      intro a w hR F
      have e17 : a.eval (.tmp 17) = .int .i64 (D.room) := F.new 3 17 (by kernel_rfl)
      have e21 : a.eval (.tmp 21) = .int .i64 (D.room) := F.new 7 21 (by kernel_rfl)
      refine ok_bin _ _ _ _ _ rfl (wanted_none rfl) e17 e21 (run_eql_int _ _ _ _ _ _) ⟨Rb.refl _, ?_⟩
      exact congrArg Value.bool (by simp)
    refine Owed.cons ?_ ?_
    · -- 9: slot 23 := Op.move (Operand.tmp 22)
      intro a w hR F
      have e22 : a.eval (.tmp 22) = .bool true := F.new 8 22 (by kernel_rfl)
      exact ok_move _ rfl (wanted_none rfl) ⟨Rb.refl _, e22⟩
    refine Owed.cons ?_ ?_
    · -- 10: slot 24 := Op.move (Operand.tmp 0)
      intro a w hR F
      have e23 : a.eval (.tmp 23) = .bool true := F.new 9 23 (by kernel_rfl)
      have e0 : a.eval (.tmp 0) = .pointer (some ⟨m.b, 0, none⟩) := F.old 0 (by kernel_rfl)
      exact ok_move _ rfl (wanted_true (j := 9) (d := 23) rfl (by kernel_rfl) e23) ⟨Rb.refl _, e0⟩
    refine Owed.cons ?_ ?_
    · -- 11: slot 25 := Op.nilCheck (Operand.tmp 24)
      intro a w hR F
      have e23 : a.eval (.tmp 23) = .bool true := F.new 9 23 (by kernel_rfl)
      have e24 : a.eval (.tmp 24) = .pointer (some ⟨m.b, 0, none⟩) := F.new 10 24 (by kernel_rfl)
      exact ok_nilCheck _ rfl (wanted_true (j := 9) (d := 23) rfl (by kernel_rfl) e23) e24 ⟨Rb.refl _, rfl⟩
    refine Owed.cons ?_ ?_
    · -- 12: slot 26 := Op.fieldAddr 93 (Operand.tmp 25) 2
      intro a w hR F
      have e23 : a.eval (.tmp 23) = .bool true := F.new 9 23 (by kernel_rfl)
      have e25 : a.eval (.tmp 25) = .pointer (some ⟨m.b, 0, none⟩) := F.new 11 25 (by kernel_rfl)
      exact ok_fieldK _ 2 2 (by decide) rfl (wanted_true (j := 9) (d := 23) rfl (by kernel_rfl) e23) e25 ⟨Rb.refl _, rfl⟩
    refine Owed.cons ?_ ?_
    · -- 13: slot 27 := Op.load 3 (Operand.tmp 26)
      intro a w hR F
      have e23 : a.eval (.tmp 23) = .bool true := F.new 9 23 (by kernel_rfl)
      have e26 : a.eval (.tmp 26) = .pointer (some ⟨m.b, 2, none⟩) := F.new 12 26 (by kernel_rfl)
      exact ok_load _ _ rfl (wanted_true (j := 9) (d := 23) rfl (by kernel_rfl) e23) e26 (load_int ((HM.out.rb hR).cell 2)) ⟨Rb.refl _, rfl⟩
    refine Owed.cons ?_ ?_
    · -- 14: slot 28 := Op.move (Operand.tmp 1)
      intro a w hR F
      have e23 : a.eval (.tmp 23) = .bool true := F.new 9 23 (by kernel_rfl)
      have e1 : a.eval (.tmp 1) = .pointer (some ⟨n.b, 0, none⟩) := F.old 1 (by kernel_rfl)
      exact ok_move _ rfl (wanted_true (j := 9) (d := 23) rfl (by kernel_rfl) e23) ⟨Rb.refl _, e1⟩
    refine Owed.cons ?_ ?_
    · -- 15: slot 29 := Op.nilCheck (Operand.tmp 28)
      intro a w hR F
      have e23 : a.eval (.tmp 23) = .bool true := F.new 9 23 (by kernel_rfl)
      have e28 : a.eval (.tmp 28) = .pointer (some ⟨n.b, 0, none⟩) := F.new 14 28 (by kernel_rfl)
      exact ok_nilCheck _ rfl (wanted_true (j := 9) (d := 23) rfl (by kernel_rfl) e23) e28 ⟨Rb.refl _, rfl⟩
    refine Owed.cons ?_ ?_
    · -- 16: slot 30 := Op.fieldAddr 93 (Operand.tmp 29) 2
      intro a w hR F
      have e23 : a.eval (.tmp 23) = .bool true := F.new 9 23 (by kernel_rfl)
      have e29 : a.eval (.tmp 29) = .pointer (some ⟨n.b, 0, none⟩) := F.new 15 29 (by kernel_rfl)
      exact ok_fieldK _ 2 2 (by decide) rfl (wanted_true (j := 9) (d := 23) rfl (by kernel_rfl) e23) e29 ⟨Rb.refl _, rfl⟩
    refine Owed.cons ?_ ?_
    · -- 17: slot 31 := Op.load 3 (Operand.tmp 30)
      intro a w hR F
      have e23 : a.eval (.tmp 23) = .bool true := F.new 9 23 (by kernel_rfl)
      have e30 : a.eval (.tmp 30) = .pointer (some ⟨n.b, 2, none⟩) := F.new 16 30 (by kernel_rfl)
      exact ok_load _ _ rfl (wanted_true (j := 9) (d := 23) rfl (by kernel_rfl) e23) e30 (load_int ((HN.out.rb hR).cell 2)) ⟨Rb.refl _, rfl⟩
    refine Owed.cons ?_ ?_
    · -- 18: slot 32 := Op.binOp BinOp.eql 3 (Operand.tmp 27) (Operand.tmp 31) 3
      intro a w hR F
      have e23 : a.eval (.tmp 23) = .bool true := F.new 9 23 (by kernel_rfl)
      have e27 : a.eval (.tmp 27) = .int .i64 (D.sure.length) := F.new 13 27 (by kernel_rfl)
      have e31 : a.eval (.tmp 31) = .int .i64 (D.sure.length) := F.new 17 31 (by kernel_rfl)
      refine ok_bin _ _ _ _ _ rfl (wanted_true (j := 9) (d := 23) rfl (by kernel_rfl) e23) e27 e31 (run_eql_int _ _ _ _ _ _) ⟨Rb.refl _, ?_⟩
      exact congrArg Value.bool (by simp)
    refine Owed.cons ?_ ?_
    · -- 19: slot 33 := Op.pick (Operand.tmp 23) (Operand.tmp 32) (Operand.const (Value.bool false))
      intro a w hR F
      have e23 : a.eval (.tmp 23) = .bool true := F.new 9 23 (by kernel_rfl)
      have e32 : a.eval (.tmp 32) = .bool true := F.new 18 32 (by kernel_rfl)
      exact ok_pick _ _ _ true rfl (wanted_none rfl) e23 ⟨Rb.refl _, e32⟩
    refine Owed.cons ?_ ?_
    · -- 20: slot 34 := Op.move (Operand.tmp 33)
      intro a w hR F
      have e33 : a.eval (.tmp 33) = .bool true := F.new 19 33 (by kernel_rfl)
      exact ok_move _ rfl (wanted_none rfl) ⟨Rb.refl _, e33⟩
    refine Owed.cons ?_ ?_
    · -- 21: slot 35 := Op.move (Operand.tmp 0)
      intro a w hR F
      have e34 : a.eval (.tmp 34) = .bool true := F.new 20 34 (by kernel_rfl)
      have e0 : a.eval (.tmp 0) = .pointer (some ⟨m.b, 0, none⟩) := F.old 0 (by kernel_rfl)
      exact ok_move _ rfl (wanted_true (j := 20) (d := 34) rfl (by kernel_rfl) e34) ⟨Rb.refl _, e0⟩
    refine Owed.cons ?_ ?_
    · -- 22: slot 36 := Op.nilCheck (Operand.tmp 35)
      intro a w hR F
      have e34 : a.eval (.tmp 34) = .bool true := F.new 20 34 (by kernel_rfl)
      have e35 : a.eval (.tmp 35) = .pointer (some ⟨m.b, 0, none⟩) := F.new 21 35 (by kernel_rfl)
      exact ok_nilCheck _ rfl (wanted_true (j := 20) (d := 34) rfl (by kernel_rfl) e34) e35 ⟨Rb.refl _, rfl⟩
    refine Owed.cons ?_ ?_
    · -- 23: slot 37 := Op.fieldAddr 93 (Operand.tmp 36) 1
      intro a w hR F
      have e34 : a.eval (.tmp 34) = .bool true := F.new 20 34 (by kernel_rfl)
      have e36 : a.eval (.tmp 36) = .pointer (some ⟨m.b, 0, none⟩) := F.new 22 36 (by kernel_rfl)
      exact ok_fieldK _ 1 1 (by decide) rfl (wanted_true (j := 20) (d := 34) rfl (by kernel_rfl) e34) e36 ⟨Rb.refl _, rfl⟩
    refine Owed.cons ?_ ?_
    · -- 24: slot 38 := Op.load 23 (Operand.tmp 37)
      intro a w hR F
      have e34 : a.eval (.tmp 34) = .bool true := F.new 20 34 (by kernel_rfl)
      have e37 : a.eval (.tmp 37) = .pointer (some ⟨m.b, 1, none⟩) := F.new 23 37 (by kernel_rfl)
      exact ok_load _ _ rfl (wanted_true (j := 20) (d := 34) rfl (by kernel_rfl) e34) e37 (load_bytes ((HM.out.rb hR).cell 1)) ⟨Rb.refl _, rfl⟩
    refine Owed.cons ?_ ?_
    · -- 25: slot 39 := Op.move (Operand.tmp 1)
      intro a w hR F
      have e34 : a.eval (.tmp 34) = .bool true := F.new 20 34 (by kernel_rfl)
      have e1 : a.eval (.tmp 1) = .pointer (some ⟨n.b, 0, none⟩) := F.old 1 (by kernel_rfl)
      exact ok_move _ rfl (wanted_true (j := 20) (d := 34) rfl (by kernel_rfl) e34) ⟨Rb.refl _, e1⟩
    refine Owed.cons ?_ ?_
    · -- 26: slot 40 := Op.nilCheck (Operand.tmp 39)
      intro a w hR F
      have e34 : a.eval (.tmp 34) = .bool true := F.new 20 34 (by kernel_rfl)
      have e39 : a.eval (.tmp 39) = .pointer (some ⟨n.b, 0, none⟩) := F.new 25 39 (by kernel_rfl)
      exact ok_nilCheck _ rfl (wanted_true (j := 20) (d := 34) rfl (by kernel_rfl) e34) e39 ⟨Rb.refl _, rfl⟩
    refine Owed.cons ?_ ?_
    · -- 27: slot 41 := Op.fieldAddr 93 (Operand.tmp 40) 1
      intro a w hR F
      have e34 : a.eval (.tmp 34) = .bool true := F.new 20 34 (by kernel_rfl)
      have e40 : a.eval (.tmp 40) = .pointer (some ⟨n.b, 0, none⟩) := F.new 26 40 (by kernel_rfl)
      exact ok_fieldK _ 1 1 (by decide) rfl (wanted_true (j := 20) (d := 34) rfl (by kernel_rfl) e34) e40 ⟨Rb.refl _, rfl⟩
    refine Owed.cons ?_ ?_
    · -- 28: slot 42 := Op.load 23 (Operand.tmp 41)
      intro a w hR F
      have e34 : a.eval (.tmp 34) = .bool true := F.new 20 34 (by kernel_rfl)
      have e41 : a.eval (.tmp 41) = .pointer (some ⟨n.b, 1, none⟩) := F.new 27 41 (by kernel_rfl)
      exact ok_load _ _ rfl (wanted_true (j := 20) (d := 34) rfl (by kernel_rfl) e34) e41 (load_bytes ((HN.out.rb hR).cell 1)) ⟨Rb.refl _, rfl⟩
    refine Owed.cons ?_ ?_
    · -- 29: slot 43 := Op.call { callee := Callee.value (Operand.func 64), args := #[Operand.tmp 38, Operand.tmp 42], argTy
      intro a w hR F
      have e34 : a.eval (.tmp 34) = .bool true := F.new 20 34 (by kernel_rfl)
      have e38 : a.eval (.tmp 38) = m.lv := F.new 24 38 (by kernel_rfl)
      have e42 : a.eval (.tmp 42) = n.lv := F.new 28 42 (by kernel_rfl)
      refine ok_call 64 _ _ #[m.lv, n.lv] rfl (wanted_true (j := 20) (d := 34) rfl (by kernel_rfl) e34) (by simp [e38, e42]) (Try.call64 _ _) ?_
      exact val_call_rb (equal_any m.lv n.lv D.log w (GM.out.below hR) (GN.out.below hR))
    refine Owed.cons ?_ ?_
    · -- 30: slot 44 := Op.pick (Operand.tmp 34) (Operand.tmp 43) (Operand.const (Value.bool false))
      intro a w hR F
      have e34 : a.eval (.tmp 34) = .bool true := F.new 20 34 (by kernel_rfl)
      have e43 : a.eval (.tmp 43) = .bool true := F.new 29 43 (by kernel_rfl)
      exact ok_pick _ _ _ true rfl (wanted_none rfl) e34 ⟨Rb.refl _, e43⟩
    refine Owed.cons ?_ ?_
    · -- 31: slot 45 := Op.move (Operand.tmp 44)
      intro a w hR F
      have e44 : a.eval (.tmp 44) = .bool true := F.new 30 44 (by kernel_rfl)
      exact ok_move _ rfl (wanted_none rfl) ⟨Rb.refl _, e44⟩
    refine Owed.cons ?_ ?_
    · -- 32: slot 46 := Op.move (Operand.tmp 0)
      intro a w hR F
      have e45 : a.eval (.tmp 45) = .bool true := F.new 31 45 (by kernel_rfl)
      have e0 : a.eval (.tmp 0) = .pointer (some ⟨m.b, 0, none⟩) := F.old 0 (by kernel_rfl)
      exact ok_move _ rfl (wanted_true (j := 31) (d := 45) rfl (by kernel_rfl) e45) ⟨Rb.refl _, e0⟩
    refine Owed.cons ?_ ?_
    · -- 33: slot 47 := Op.nilCheck (Operand.tmp 46)
      intro a w hR F
      have e45 : a.eval (.tmp 45) = .bool true := F.new 31 45 (by kernel_rfl)
      have e46 : a.eval (.tmp 46) = .pointer (some ⟨m.b, 0, none⟩) := F.new 32 46 (by kernel_rfl)
      exact ok_nilCheck _ rfl (wanted_true (j := 31) (d := 45) rfl (by kernel_rfl) e45) e46 ⟨Rb.refl _, rfl⟩
    refine Owed.cons ?_ ?_
    · -- 34: slot 48 := Op.fieldAddr 93 (Operand.tmp 47) 3
      intro a w hR F
      have e45 : a.eval (.tmp 45) = .bool true := F.new 31 45 (by kernel_rfl)
      have e47 : a.eval (.tmp 47) = .pointer (some ⟨m.b, 0, none⟩) := F.new 33 47 (by kernel_rfl)
      exact ok_fieldK _ 3 3 (by decide) rfl (wanted_true (j := 31) (d := 45) rfl (by kernel_rfl) e45) e47 ⟨Rb.refl _, rfl⟩
    refine Owed.cons ?_ ?_
    · -- 35: slot 49 := Op.load 91 (Operand.tmp 48)
      intro a w hR F
      have e45 : a.eval (.tmp 45) = .bool true := F.new 31 45 (by kernel_rfl)
      have e48 : a.eval (.tmp 48) = .pointer (some ⟨m.b, 3, none⟩) := F.new 34 48 (by kernel_rfl)
      exact ok_load _ _ rfl (wanted_true (j := 31) (d := 45) rfl (by kernel_rfl) e45) e48 (load_slots 3 ((HM.out.rb hR).cell 3) ((HM.out.rb hR).cell 4)) ⟨Rb.refl _, rfl⟩
    refine Owed.cons ?_ ?_
    · -- 36: slot 50 := Op.move (Operand.tmp 1)
      intro a w hR F
      have e45 : a.eval (.tmp 45) = .bool true := F.new 31 45 (by kernel_rfl)
      have e1 : a.eval (.tmp 1) = .pointer (some ⟨n.b, 0, none⟩) := F.old 1 (by kernel_rfl)
      exact ok_move _ rfl (wanted_true (j := 31) (d := 45) rfl (by kernel_rfl) e45) ⟨Rb.refl _, e1⟩
    refine Owed.cons ?_ ?_
    · -- 37: slot 51 := Op.nilCheck (Operand.tmp 50)
      intro a w hR F
      have e45 : a.eval (.tmp 45) = .bool true := F.new 31 45 (by kernel_rfl)
      have e50 : a.eval (.tmp 50) = .pointer (some ⟨n.b, 0, none⟩) := F.new 36 50 (by kernel_rfl)
      exact ok_nilCheck _ rfl (wanted_true (j := 31) (d := 45) rfl (by kernel_rfl) e45) e50 ⟨Rb.refl _, rfl⟩
    refine Owed.cons ?_ ?_
    · -- 38: slot 52 := Op.fieldAddr 93 (Operand.tmp 51) 3
      intro a w hR F
      have e45 : a.eval (.tmp 45) = .bool true := F.new 31 45 (by kernel_rfl)
      have e51 : a.eval (.tmp 51) = .pointer (some ⟨n.b, 0, none⟩) := F.new 37 51 (by kernel_rfl)
      exact ok_fieldK _ 3 3 (by decide) rfl (wanted_true (j := 31) (d := 45) rfl (by kernel_rfl) e45) e51 ⟨Rb.refl _, rfl⟩
    refine Owed.cons ?_ ?_
    · -- 39: slot 53 := Op.load 91 (Operand.tmp 52)
      intro a w hR F
      have e45 : a.eval (.tmp 45) = .bool true := F.new 31 45 (by kernel_rfl)
      have e52 : a.eval (.tmp 52) = .pointer (some ⟨n.b, 3, none⟩) := F.new 38 52 (by kernel_rfl)
      exact ok_load _ _ rfl (wanted_true (j := 31) (d := 45) rfl (by kernel_rfl) e45) e52 (load_slots 3 ((HN.out.rb hR).cell 3) ((HN.out.rb hR).cell 4)) ⟨Rb.refl _, rfl⟩
    refine Owed.cons ?_ ?_
    · -- 40: slot 54 := Op.call { callee := Callee.value (Operand.func 65), args := #[Operand.tmp 49, Operand.tmp 53], argTy
      intro a w hR F
      have e45 : a.eval (.tmp 45) = .bool true := F.new 31 45 (by kernel_rfl)
      have e49 : a.eval (.tmp 49) = .agg #[m.v0, m.v1] := F.new 35 49 (by kernel_rfl)
      have e53 : a.eval (.tmp 53) = .agg #[n.v0, n.v1] := F.new 39 53 (by kernel_rfl)
      refine ok_call 65 _ _ #[.agg #[m.v0, m.v1], .agg #[n.v0, n.v1]] rfl (wanted_true (j := 31) (d := 45) rfl (by kernel_rfl) e45) (by simp [e49, e53]) (Try.call65 _ _) ?_
      exact val_call_rb (sameslots_any _ _ _ _ _ _ w (H1.out.b0.below hR) (H2.out.b0.below hR) (H1.out.b1.below hR) (H2.out.b1.below hR))
    refine Owed.cons ?_ ?_
    · -- 41: slot 55 := Op.pick (Operand.tmp 45) (Operand.tmp 54) (Operand.const (Value.bool false))
      intro a w hR F
      have e45 : a.eval (.tmp 45) = .bool true := F.new 31 45 (by kernel_rfl)
      have e54 : a.eval (.tmp 54) = .bool true := F.new 40 54 (by kernel_rfl)
      exact ok_pick _ _ _ true rfl (wanted_none rfl) e45 ⟨Rb.refl _, e54⟩
    refine Owed.cons ?_ ?_
    · -- 42: slot 56 := Op.move (Operand.tmp 55)
      intro a w hR F
      have e55 : a.eval (.tmp 55) = .bool true := F.new 41 55 (by kernel_rfl)
      exact ok_move _ rfl (wanted_none rfl) ⟨Rb.refl _, e55⟩
    refine Owed.cons ?_ ?_
    · -- 43: slot 57 := Op.move (Operand.tmp 0)
      intro a w hR F
      have e56 : a.eval (.tmp 56) = .bool true := F.new 42 56 (by kernel_rfl)
      have e0 : a.eval (.tmp 0) = .pointer (some ⟨m.b, 0, none⟩) := F.old 0 (by kernel_rfl)
      exact ok_move _ rfl (wanted_true (j := 42) (d := 56) rfl (by kernel_rfl) e56) ⟨Rb.refl _, e0⟩
    refine Owed.cons ?_ ?_
    · -- 44: slot 58 := Op.nilCheck (Operand.tmp 57)
      intro a w hR F
      have e56 : a.eval (.tmp 56) = .bool true := F.new 42 56 (by kernel_rfl)
      have e57 : a.eval (.tmp 57) = .pointer (some ⟨m.b, 0, none⟩) := F.new 43 57 (by kernel_rfl)
      exact ok_nilCheck _ rfl (wanted_true (j := 42) (d := 56) rfl (by kernel_rfl) e56) e57 ⟨Rb.refl _, rfl⟩
    refine Owed.cons ?_ ?_
    · -- 45: slot 59 := Op.fieldAddr 93 (Operand.tmp 58) 4
      intro a w hR F
      have e56 : a.eval (.tmp 56) = .bool true := F.new 42 56 (by kernel_rfl)
      have e58 : a.eval (.tmp 58) = .pointer (some ⟨m.b, 0, none⟩) := F.new 44 58 (by kernel_rfl)
      exact ok_fieldK _ 4 5 (by decide) rfl (wanted_true (j := 42) (d := 56) rfl (by kernel_rfl) e56) e58 ⟨Rb.refl _, rfl⟩
    refine Owed.cons ?_ ?_
    · -- 46: slot 60 := Op.load 91 (Operand.tmp 59)
      intro a w hR F
      have e56 : a.eval (.tmp 56) = .bool true := F.new 42 56 (by kernel_rfl)
      have e59 : a.eval (.tmp 59) = .pointer (some ⟨m.b, 5, none⟩) := F.new 45 59 (by kernel_rfl)
      exact ok_load _ _ rfl (wanted_true (j := 42) (d := 56) rfl (by kernel_rfl) e56) e59 (load_slots 5 ((HM.out.rb hR).cell 5) ((HM.out.rb hR).cell 6)) ⟨Rb.refl _, rfl⟩
    refine Owed.cons ?_ ?_
    · -- 47: slot 61 := Op.move (Operand.tmp 1)
      intro a w hR F
      have e56 : a.eval (.tmp 56) = .bool true := F.new 42 56 (by kernel_rfl)
      have e1 : a.eval (.tmp 1) = .pointer (some ⟨n.b, 0, none⟩) := F.old 1 (by kernel_rfl)
      exact ok_move _ rfl (wanted_true (j := 42) (d := 56) rfl (by kernel_rfl) e56) ⟨Rb.refl _, e1⟩
    refine Owed.cons ?_ ?_
    · -- 48: slot 62 := Op.nilCheck (Operand.tmp 61)
      intro a w hR F
      have e56 : a.eval (.tmp 56) = .bool true := F.new 42 56 (by kernel_rfl)
      have e61 : a.eval (.tmp 61) = .pointer (some ⟨n.b, 0, none⟩) := F.new 47 61 (by kernel_rfl)
      exact ok_nilCheck _ rfl (wanted_true (j := 42) (d := 56) rfl (by kernel_rfl) e56) e61 ⟨Rb.refl _, rfl⟩
    refine Owed.cons ?_ ?_
    · -- 49: slot 63 := Op.fieldAddr 93 (Operand.tmp 62) 4
      intro a w hR F
      have e56 : a.eval (.tmp 56) = .bool true := F.new 42 56 (by kernel_rfl)
      have e62 : a.eval (.tmp 62) = .pointer (some ⟨n.b, 0, none⟩) := F.new 48 62 (by kernel_rfl)
      exact ok_fieldK _ 4 5 (by decide) rfl (wanted_true (j := 42) (d := 56) rfl (by kernel_rfl) e56) e62 ⟨Rb.refl _, rfl⟩
    refine Owed.cons ?_ ?_
    · -- 50: slot 64 := Op.load 91 (Operand.tmp 63)
      intro a w hR F
      have e56 : a.eval (.tmp 56) = .bool true := F.new 42 56 (by kernel_rfl)
      have e63 : a.eval (.tmp 63) = .pointer (some ⟨n.b, 5, none⟩) := F.new 49 63 (by kernel_rfl)
      exact ok_load _ _ rfl (wanted_true (j := 42) (d := 56) rfl (by kernel_rfl) e56) e63 (load_slots 5 ((HN.out.rb hR).cell 5) ((HN.out.rb hR).cell 6)) ⟨Rb.refl _, rfl⟩
    refine Owed.cons ?_ ?_
    · -- 51: slot 65 := Op.call { callee := Callee.value (Operand.func 65), args := #[Operand.tmp 60, Operand.tmp 64], argTy
      intro a w hR F
      have e56 : a.eval (.tmp 56) = .bool true := F.new 42 56 (by kernel_rfl)
      have e60 : a.eval (.tmp 60) = .agg #[m.u0, m.u1] := F.new 46 60 (by kernel_rfl)
      have e64 : a.eval (.tmp 64) = .agg #[n.u0, n.u1] := F.new 50 64 (by kernel_rfl)
      refine ok_call 65 _ _ #[.agg #[m.u0, m.u1], .agg #[n.u0, n.u1]] rfl (wanted_true (j := 42) (d := 56) rfl (by kernel_rfl) e56) (by simp [e60, e64]) (Try.call65 _ _) ?_
      exact val_call_rb (sameslots_any _ _ _ _ _ _ w (H1.out.c0.below hR) (H2.out.c0.below hR) (H1.out.c1.below hR) (H2.out.c1.below hR))
    refine Owed.cons ?_ ?_
    · -- 52: slot 66 := Op.pick (Operand.tmp 56) (Operand.tmp 65) (Operand.const (Value.bool false))
      intro a w hR F
      have e56 : a.eval (.tmp 56) = .bool true := F.new 42 56 (by kernel_rfl)
      have e65 : a.eval (.tmp 65) = .bool true := F.new 51 65 (by kernel_rfl)
      exact ok_pick _ _ _ true rfl (wanted_none rfl) e56 ⟨Rb.refl _, e65⟩
    refine Owed.cons ?_ ?_
    · -- 53: slot 4 := Op.assign (Operand.tmp 66)
      intro a w hR F
      have e66 : a.eval (.tmp 66) = .bool true := F.new 52 66 (by kernel_rfl)
      exact ok_assign _ rfl (wanted_none rfl) ⟨Rb.refl _, e66⟩
    exact Owed.nil
  case fin =>
    intro y w2 hR hy
    have e53 : y 53 = .bool true := hy 53 _ rfl
    have HR := Lib.hid hR
    clear hy hR
    simp only [putAll, Act.put, List.setIfInBounds_toArray, List.set_cons_zero, List.set_cons_succ]
    rw [e53]
    clear e53
    go_wp2
    go_ret
    exact ⟨rfl, HR.out⟩
set_option maxRecDepth 100000 in
theorem same_nils (w : World) : Calls Try.prog 39 #[.pointer none, .pointer none] w fun e w' => e = .returned (.bool true) ∧ w = w' := by
  go_enter Try.func39, Try.ntmps39
  go_wp2
  go_ret
  exact ⟨rfl, rfl⟩
theorem equalIn_nil (d : Nat) (b : Nat) (w : World) : (Op.equalIn (d + 1) 43 (.pointer none) (.pointer (some ⟨b, 0, none⟩))).run Try.prog w = .ok false w := by
  simp [Op.equalIn, run_underlying Try.underlying43]
theorem eql_nil (b : Nat) (w : World) : (binOp .eql 43 (.pointer none) (.pointer (some ⟨b, 0, none⟩))).run Try.prog w = .ok (.bool false) w := by
  have h : (Op.equal 43 (.pointer none) (.pointer (some ⟨b, 0, none⟩))).run Try.prog w = .ok false w := by
    exact equalIn_nil 9999 b w
  simp only [binOp]
  simp [h]
set_option maxRecDepth 100000 in
theorem same_nil (b : Nat) (w : World) : Calls Try.prog 39 #[.pointer none, .pointer (some ⟨b, 0, none⟩)] w fun e w' => e = .returned (.bool false) ∧ w = w' := by
  have hp := eql_nil b
  go_enter Try.func39, Try.ntmps39
  go_wp2
  go_ret
  exact ⟨rfl, rfl⟩
end Go.Proofs.Ytbdgdmieggpmhaa.L3

namespace Go.Proofs.Ytbdgdmieggpmhaa.L3
open Go.ChangeShapes Go.WideShapes Go.ChangeAt Go.RowKit By Reg
set_option linter.unusedVariables false

section
variable {m : Mem} {D : Dk} {w : World} {b : Nat}
theorem sure_at (hb : m.b = b) (h : HeldK w m D) : Calls Try.prog 33 #[.pointer (some ⟨b, 0, none⟩)] w fun e w' => e = .returned (.int .i64 D.sure.length) ∧ w = w' := by subst hb; exact sure_any m D w h
theorem log_at (hb : m.b = b) (h : HeldK w m D) : Calls Try.prog 31 #[.pointer (some ⟨b, 0, none⟩)] w (Put w 5 D.log) := by subst hb; exact log_any m D w h
theorem slot0_at (hb : m.b = b) (h : HeldK w m D) : Calls Try.prog 73 #[.pointer (some ⟨b, 0, none⟩), .int .i64 0] w (Put w 5 D.n0) := by subst hb; exact slot_0 m D w h
theorem slot1_at (hb : m.b = b) (h : HeldK w m D) : Calls Try.prog 73 #[.pointer (some ⟨b, 0, none⟩), .int .i64 1] w (Put w 5 D.n1) := by subst hb; exact slot_1 m D w h
theorem sync_at (hb : m.b = b) (h : HeldK w m D) : Calls Try.prog 44 #[.pointer (some ⟨b, 0, none⟩)] w fun e w' => e = .returned (.tuple #[]) ∧ Turned w m D.sync w' := by subst hb; exact sync_any m D w h
theorem crash_at (k : Int) (hb : m.b = b) (h : HeldK w m D) : Calls Try.prog 37 #[.pointer (some ⟨b, 0, none⟩), .int .i64 k] w fun e w' => e = .returned (.tuple #[]) ∧ Turned w m (D.crash k.toNat) w' := by subst hb; exact crash_any m D w k h
theorem write0_at {v : Value} {xs : List UInt8} (hb : m.b = b) (h : HeldK w m D) (hv : Bs w v xs) (hl : xs.length ≤ 1000) : Calls Try.prog 63 #[.pointer (some ⟨b, 0, none⟩), .int .i64 0, v] w fun e w' => e = .returned (.int .i64 0) ∧ Turned w m (D.write0 xs) w' := by subst hb; exact write_0 m D w v xs h hv hl
theorem write1_at {v : Value} {xs : List UInt8} (hb : m.b = b) (h : HeldK w m D) (hv : Bs w v xs) (hl : xs.length ≤ 1000) : Calls Try.prog 63 #[.pointer (some ⟨b, 0, none⟩), .int .i64 1, v] w fun e w' => e = .returned (.int .i64 0) ∧ Turned w m (D.write1 xs) w' := by subst hb; exact write_1 m D w v xs h hv hl
theorem clone_at (hb : m.b = b) (h : HeldK w m D) : Calls Try.prog 38 #[.pointer (some ⟨b, 0, none⟩)] w (CloneK w m D) := by subst hb; exact clone_any m D w h
theorem same_at {n : Mem} {c : Nat} (hb : m.b = b) (hc : n.b = c) (h1 : HeldK w m D) (h2 : HeldK w n D) : Calls Try.prog 39 #[.pointer (some ⟨b, 0, none⟩), .pointer (some ⟨c, 0, none⟩)] w fun e w' => e = .returned (.bool true) ∧ Rb w w' := by subst hb hc; exact same_any m n D w h1 h2
end
section
variable {ops : Array Oper} {o : Oper} {a : Act} {w : World} {T : World → Value → Prop}
theorem ok_minI (x y : Operand) (n m : Int) (ho : o.op = .call { callee := .builtin .min, args := #[x, y], argTypes := #[3, 3] }) (hw : Region.wanted o (yielded ops a.tmps) = true) (hx : a.eval x = .int .i64 n) (hy : a.eval y = .int .i64 m) (h : T w (.int .i64 (min n m))) : okAt Try.prog ops o a w T := by
  refine ok_value (w' := w) (v := .int .i64 (min n m)) hw ?_ h
  simp only [execOp, ho, resolve, invoke, Sem.run_bind, Sem.run_pure, Result.andThen_ok, List.map_toArray, List.map_cons, List.map_nil, hx, hy]
  simp [go_sem]
  omega
theorem ok_sliceH (x hi : Operand) {ao : Option Addr} {n cap h : Nat} (ho : o.op = .slice 23 x none (some hi) none) (hw : Region.wanted o (yielded ops a.tmps) = true) (hx : a.eval x = .slice ao n cap) (hh : a.eval hi = .int .i64 (h : Int)) (hc : h ≤ cap) (hT : T w (.slice ao h cap)) : okAt Try.prog ops o a w T := by
  have p1 : (h : Int) ≤ (cap : Int) := by omega
  have p2 : (0 : Int) ≤ (h : Int) := by omega
  refine ok_value (w' := w) (v := .slice ao h cap) hw ?_ hT
  simp only [execOp, ho, hx, hh, Option.map_none, Option.map_some]
  simp [go_sem, p1, p2, Result.andThen]
end
end Go.Proofs.Ytbdgdmieggpmhaa.L3
