/-
  Layer 5, words: blocks known whole, what a store leaves; rows of one-cell values (a slice and the block that it owns), what may have turned (Fr), slices that read as a list.
-/
import Derived.Test.YtjdlicphmflnkaaRegTools
import Derived.Test.YtjdlicphmflnkaaChecked
import Derived.WalkKit
import Derived.ProofKit
import Derived.Outline
import Derived.Lib.Hide
import Derived.LoopTactic
import Derived.WalkSpells
import Derived.WalkLawsBesides
import Derived.Laws.CopyOwn
import Derived.Laws.Tables
import Derived.Deep.OwnRows
import Derived.Deep.Onto
import Derived.ArgAppend
import Derived.Laws.AppendOwnNone
namespace Go.Proofs.Ytjdlicphmflnkaa.L5
open Go.ChangeShapes Go.WideShapes Go.ChangeAt Go.RowKit By Reg
set_option linter.unusedVariables false

/-! ### blocks known whole -/
def Blk (w : World) (N : Nat) (T : TypeId) (cs : List Value) : Prop := w.heap[N]? = some (.cells cs.toArray T (0, 0))

namespace Blk
variable {w w' : World} {N : Nat} {T : TypeId} {cs : List Value}
theorem lt (h : Blk w N T cs) : N < w.heap.size := (Array.getElem?_eq_some_iff.1 h).1
theorem cell (h : Blk w N T cs) (i : Nat) : w.cell? ⟨N, i, none⟩ = cs[i]? := by
  unfold Blk at h
  rw [cell_of_row w N i cs.toArray T (0, 0) h]
  simp
theorem frozen (h : Blk w N T cs) (i : Nat) : w.frozen? ⟨N, i, none⟩ = false := by
  unfold Blk at h
  simp [World.frozen?, h]
theorem shape (h : Blk w N T cs) : w.shape? N = some (T, cs.length) := by
  unfold Blk at h
  simp [World.shape?, h]
theorem new (w : World) (T : TypeId) (cs : List Value) : Blk (w.alloc (.cells cs.toArray T)) w.heap.size T cs := heap_alloc_new w _
theorem same (h : Blk w N T cs) (e : w'.heap[N]? = w.heap[N]?) : Blk w' N T cs := e.trans h
theorem rb (h : Blk w N T cs) (hb : Rb w w') : Blk w' N T cs := h.same (hb.block N h.lt)
theorem inj {T' : TypeId} {cs' : List Value} (h : Blk w N T cs) (h' : Blk w N T' cs') : T = T' ∧ cs = cs' := by
  unfold Blk at h h'
  rw [h] at h'
  simp only [Option.some.injEq, Obj.cells.injEq] at h'
  exact ⟨h'.2.1, by simpa using h'.1⟩
end Blk

/-- only block N may have turned -/
structure Wrote (N : Nat) (w w' : World) : Prop where
  os : w'.os = w.os
  tape : w'.tape = w.tape
  output : w'.output = w.output
  size : w'.heap.size = w.heap.size
  block : ∀ k, k ≠ N → w'.heap[k]? = w.heap[k]?

theorem Wrote.trans {N : Nat} {a b c : World} (h : Wrote N a b) (k : Wrote N b c) : Wrote N a c :=
  ⟨k.os.trans h.os, k.tape.trans h.tape, k.output.trans h.output, k.size.trans h.size, fun i hi => (k.block i hi).trans (h.block i hi)⟩

theorem wrote_setRow (w : World) (N : Nat) (cs : Array Value) : Wrote N w (w.setRow N cs) :=
  ⟨rfl, rfl, rfl, by simp [World.setRow], fun k hk => setRow_other w N k cs hk⟩

section
variable {P : Program} {w : World} {ops : Array Oper} {rest : List Oper} {o : Oper} {a : Act} {Q : Exit → Act → World → Prop}
theorem run_store_blk {N off : Nat} {T ty : TypeId} {cs vs : List Value} {v : Value} (hb : Blk w N T cs) (hv : v.cells = vs.toArray) (hs : (P.info? ty).map (·.size) = some vs.length) (hl : off + vs.length ≤ cs.length) (h1 : ∀ v ∈ vs, v.oneCell' = true) :
    ∃ w', (Instr.storeAt ty (.pointer (some ⟨N, off, none⟩)) v).run P w = .ok () w' ∧ Blk w' N T (cs.take off ++ vs ++ cs.drop (off + vs.length)) ∧ Wrote N w w' := by
  have hr := run_storeCells_at P N off T vs 0 cs.toArray w hb (by simpa using hl) h1
  simp only [Nat.add_zero] at hr
  refine ⟨_, ?_, setRow_heap w N _ _ T (0, 0) hb, wrote_setRow w N _⟩
  cases hi : P.info? ty with
  | none => simp [hi] at hs
  | some i =>
    have hi' : i.size = vs.length := by simpa [hi] using hs
    simp [Instr.storeAt, Instr.sureAddr, storeVar, sizeOf, typeInfo, hi, hv, hi', hr, Result.andThen]

/-- a store into a block known whole -/
theorem wpList_store (hg : o.guard = none) (ty : TypeId) (x y : Operand) (ho : o.op = .store ty x y) (N off : Nat) (T : TypeId) (cs vs : List Value) (v : Value) (hx : a.eval x = .pointer (some ⟨N, off, none⟩)) (hy : a.eval y = v)
    (hb : Blk w N T cs) (hv : v.cells = vs.toArray) (hs : (P.info? ty).map (·.size) = some vs.length) (hl : off + vs.length ≤ cs.length) (h1 : ∀ v ∈ vs, v.oneCell' = true)
    (hK : ∀ w', Blk w' N T (cs.take off ++ vs ++ cs.drop (off + vs.length)) → Wrote N w w' → wpList P ops Q rest (a.put o.dst undef) w') : wpList P ops Q (o :: rest) a w := by
  obtain ⟨w', hr, h2, h3⟩ := run_store_blk (P := P) (v := v) hb hv hs hl h1
  refine wpList_plain hg fun K hK' => ?_
  unfold Oper.wp
  simp only [execOp, ho, hx, hy, Sem.run_bind, hr]
  exact hK' _ _ (hK w' h2 h3)
end

/-! ### what may have turned -/
structure Fr (F : Nat → Prop) (w w' : World) : Prop where
  os : w'.os = w.os
  tape : w'.tape = w.tape
  output : w'.output = w.output
  size : w.heap.size ≤ w'.heap.size
  block : ∀ k, k < w.heap.size → ¬ F k → w'.heap[k]? = w.heap[k]?

namespace Fr
variable {F G : Nat → Prop} {w w1 w2 : World}
theorem refl (F : Nat → Prop) (w : World) : Fr F w w := ⟨rfl, rfl, rfl, Nat.le_refl _, fun _ _ _ => rfl⟩
theorem of_rb (h : Rb w w1) : Fr F w w1 := ⟨h.os, h.tape, h.output, h.size, fun k hk _ => h.block k hk⟩
theorem rb (h : Fr F w w1) (hF : ∀ k, F k → w.heap.size ≤ k) : Rb w w1 := ⟨h.os, h.tape, h.output, h.size, fun k hk => h.block k hk fun hf => by have := hF k hf; omega⟩
theorem trans (h : Fr F w w1) (k : Fr G w1 w2) (hG : ∀ k, G k → F k ∨ w.heap.size ≤ k) : Fr F w w2 :=
  ⟨k.os.trans h.os, k.tape.trans h.tape, k.output.trans h.output, Nat.le_trans h.size k.size, fun i hi hf =>
    (k.block i (Nat.lt_of_lt_of_le hi h.size) fun hg => by rcases hG i hg with h' | h'; exact hf h'; omega).trans (h.block i hi hf)⟩
theorem mono (h : Fr F w w1) (hG : ∀ k, F k → k < w.heap.size → G k) : Fr G w w1 := ⟨h.os, h.tape, h.output, h.size, fun k hk hg => h.block k hk fun hf => hg (hG k hf hk)⟩
theorem grown (h : Fr F w w1) {row : Option Nat} (hg : w1.grownBy w2 row) (hr : ∀ k, row = some k → F k ∨ w.heap.size ≤ k) : Fr F w w2 :=
  h.trans (G := fun k => row = some k) ⟨hg.os, hg.tape, hg.output, hg.size, fun k hk hf => hg.block k hk fun e => hf e.symm⟩ hr
theorem wrote (h : Fr F w w1) {N : Nat} (hw : Wrote N w1 w2) (hN : F N ∨ w.heap.size ≤ N) : Fr F w w2 :=
  h.trans (G := fun k => k = N) ⟨hw.os, hw.tape, hw.output, by rw [hw.size]; exact Nat.le_refl _, fun k _ hf => hw.block k hf⟩ (fun k e => by subst e; exact hN)
theorem then_rb (h : Fr F w w1) (k : Rb w1 w2) : Fr F w w2 := h.trans (G := fun _ => False) (of_rb k) (fun _ h => h.elim)
theorem alloc (h : Fr F w w1) (o : Obj) : Fr F w (w1.alloc o) := h.then_rb ((Below.refl _ w1).alloc (Nat.le_refl _) o)
theorem drew (h : Fr F w w1) : Fr F w w1.drew := h.then_rb (Rb.drew w1)
end Fr

/-! ### rows -/
theorem owns_same {w w' : World} {B : Nat} {e : TypeId} {s : Nat} {v : Value} {n : Nat} {xs : List Value} (h : w.ownsRow B e s v n xs) (hb : ∀ k, v.ownBlock = some k → w'.heap[k]? = w.heap[k]?) : w'.ownsRow B e s v n xs := by
  refine ⟨h.1, ?_⟩
  rcases h.2 with h0 | ⟨g, cap, cur, rfl, h2, h3, h4⟩
  · exact .inl h0
  · exact .inr ⟨g, cap, cur, rfl, h2, by rw [hb g rfl]; exact h3, h4⟩

/-- a slice that owns its block, and what it reads as -/
def Row (w : World) (e : TypeId) (v : Value) (xs : List Value) : Prop := w.ownsRow 0 e 1 v xs.length xs

/-- a slice that reads as xs -/
def Sl (w : World) (v : Value) (xs : List Value) : Prop :=
  ∃ (ao : Option Addr) (cap : Nat), v = .slice ao xs.length cap ∧ xs.length ≤ cap ∧ cap ≤ maxLen ∧ (ao = none → cap = 0) ∧ ∀ ad, ao = some ad → ∀ j u, xs[j]? = some u → w.cell? (ad.add j) = some u

theorem Sl.rb {w w' : World} {v : Value} {xs : List Value} (h : Sl w v xs) (hb : Rb w w') : Sl w' v xs := by
  obtain ⟨ao, cap, h1, h2, h3, h4, h5⟩ := h
  refine ⟨ao, cap, h1, h2, h3, h4, fun ad ha j u hu => ?_⟩
  have h := h5 ad ha j u hu
  rw [Below.cell hb (World.block_lt_of_cell? w _ h)]
  exact h

namespace Row
variable {w w' : World} {e : TypeId} {v : Value} {xs : List Value}
theorem same (h : Row w e v xs) (hb : ∀ k, v.ownBlock = some k → w'.heap[k]? = w.heap[k]?) : Row w' e v xs := owns_same h hb
theorem lt (h : Row w e v xs) : ∀ k, v.ownBlock = some k → k < w.heap.size := fun k hk => (World.ownsRow.lt h k hk).2
theorem rb (h : Row w e v xs) (hb : Rb w w') : Row w' e v xs := h.same fun k hk => hb.block k (h.lt k hk)
theorem fr {F : Nat → Prop} (h : Row w e v xs) (hf : Fr F w w') (ho : ∀ k, v.ownBlock = some k → ¬ F k) : Row w' e v xs := h.same fun k hk => hf.block k (h.lt k hk) (ho k hk)
theorem nil (w : World) (e : TypeId) : Row w e (.slice none 0 0) [] := World.ownsRow_nil w 0 e 1
theorem cases' (h : Row w e v xs) : (v = .slice none 0 0 ∧ xs = []) ∨ ∃ g rest, v = .slice (some ⟨g, 0, none⟩) xs.length (xs.length + rest.length) ∧ Blk w g e (xs ++ rest) ∧ xs.length + rest.length ≤ maxLen := by
  obtain ⟨_, h⟩ := h
  rcases h with ⟨h1, h2⟩ | ⟨g, cap, cur, h1, h2, h3, h4, h5, h6, h7⟩
  · exact .inl ⟨h1, List.eq_nil_of_length_eq_zero h2⟩
  · have hc : cur.toList.length = cap := by rw [Array.length_toList, h6, Nat.mul_one]
    have hl : xs.length + (cur.toList.drop xs.length).length = cap := by
      rw [List.length_drop, hc]; omega
    refine .inr ⟨g, cur.toList.drop xs.length, by rw [hl]; exact h1, ?_, by rw [hl]; exact h5⟩
    unfold Blk
    rw [h3]
    have : xs ++ cur.toList.drop xs.length = cur.toList := by
      rw [Nat.mul_one] at h7
      conv => lhs; arg 1; rw [← h7]
      exact List.take_append_drop _ _
    rw [this]
theorem mk' {g : Nat} {rest : List Value} (hb : Blk w g e (xs ++ rest)) (hm : xs.length + rest.length ≤ maxLen) : Row w e (.slice (some ⟨g, 0, none⟩) xs.length (xs.length + rest.length)) xs :=
  ⟨by simp, .inr ⟨g, _, _, rfl, Nat.zero_le _, hb, by omega, hm, by simp, by simp⟩⟩
theorem sl (h : Row w e v xs) : Sl w v xs := by
  rcases h.cases' with ⟨rfl, rfl⟩ | ⟨g, rest, rfl, h2, h3⟩
  · exact ⟨none, 0, rfl, Nat.le_refl _, Nat.zero_le _, fun _ => rfl, fun _ h => by cases h⟩
  · refine ⟨_, _, rfl, by omega, h3, (fun h => by cases h), fun ad ha j u hu => ?_⟩
    cases ha
    rw [Addr.add_lit, Nat.zero_add, h2.cell]
    have hj := (List.getElem?_eq_some_iff.1 hu).1
    rw [List.getElem?_append_left hj]
    exact hu
theorem len (h : Row w e v xs) : xs.length ≤ maxLen := by
  rcases h.cases' with ⟨rfl, rfl⟩ | ⟨g, rest, rfl, h2, h3⟩
  · exact Nat.zero_le _
  · omega
theorem form (h : Row w e v xs) : ∃ ao cap, v = .slice ao xs.length cap ∧ xs.length ≤ cap ∧ cap ≤ maxLen := by
  obtain ⟨ao, cap, h1, h2, h3, _⟩ := h.sl
  exact ⟨ao, cap, h1, h2, h3⟩
theorem one (h : Row w e v xs) : v.oneCell' = true ∧ v.cells = #[v] := by
  obtain ⟨ao, cap, rfl, _⟩ := h.form
  exact ⟨rfl, rfl⟩
/-- a type tells which block it is not -/
theorem not_blk {T : TypeId} {N : Nat} {cs : List Value} (h : Row w e v xs) (hb : Blk w N T cs) (hT : T ≠ e) : v.ownBlock ≠ some N := by
  rcases h.cases' with ⟨rfl, rfl⟩ | ⟨g, rest, rfl, h2, h3⟩
  · intro h; cases h
  · intro h
    simp only [Value.ownBlock, Option.some.injEq] at h
    subst h
    exact hT (hb.inj h2).1
theorem typ (h : Row w e v xs) : ∀ k, v.ownBlock = some k → ∃ cs, Blk w k e cs := by
  rcases h.cases' with ⟨rfl, rfl⟩ | ⟨g, rest, rfl, h2, h3⟩
  · intro k h; cases h
  · intro k h
    simp only [Value.ownBlock, Option.some.injEq] at h
    subst h
    exact ⟨_, h2⟩
end Row

abbrev i64 (n : Int) : Value := .int .i64 n
abbrev ptrv (b : Nat) : Value := .pointer (some ⟨b, 0, none⟩)
/-- the row's block is the one that it was, or a new one -/
def NewRow (w : World) (v v' : Value) : Prop := ∀ k, v'.ownBlock = some k → v.ownBlock = some k ∨ w.heap.size ≤ k
end Go.Proofs.Ytjdlicphmflnkaa.L5
