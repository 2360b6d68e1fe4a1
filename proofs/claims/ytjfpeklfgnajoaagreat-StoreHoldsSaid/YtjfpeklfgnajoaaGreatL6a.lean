/-
  Layer 6: what layer 7 takes of its texts (words, names, Check).
-/
import Derived.Test.YtjfpeklfgnajoaaGreatL2
import Derived.Lib.Hide
import Derived.LoopTactic
import Derived.Laws.CopyOwn
import Derived.Laws.Tables
import Derived.Deep.OwnRows
import Derived.Deep.Onto
import Derived.ArgAppend
import Derived.Laws.AppendOwnNone
import Derived.StillTailTactics
import Derived.Deep.RegionWith
import Derived.Deep.Cut
import Derived.Outline
namespace Go.Proofs.YtjfpeklfgnajoaaGreat.L6
open Go.ChangeShapes Go.WideShapes Go.ChangeAt Go.RowKit Oct By Reg Val
set_option linter.unusedVariables false

structure ColD where
  name : ByteArray
  kind : Int
  max : Int
structure ValD where
  k : Int
  n : Int
  s : ByteArray
structure TabD where
  name : ByteArray
  rows : Int
  cv : Value
  cols : List ColD

abbrev colV (c : ColD) : Value := .agg #[.string c.name, .int .i64 c.kind, .int .i64 c.max]
abbrev valV3 (v : ValD) : Value := .agg #[.int .i64 v.k, .int .i64 v.n, .string v.s]
abbrev tabV (t : TabD) : Value := .agg #[.string t.name, .int .i64 t.rows, t.cv]
abbrev cE (c : ColD) : Value × Value × Value := (.string c.name, .int .i64 c.kind, .int .i64 c.max)
abbrev vE (v : ValD) : Value × Value × Value := (.int .i64 v.k, .int .i64 v.n, .string v.s)
abbrev tE (t : TabD) : Value × Value × Value := (.string t.name, .int .i64 t.rows, t.cv)

/-- a slice of things of three cells each, read -/
def Row3 {α : Type} (enc : α → Value × Value × Value) (w : World) (v : Value) (L : List α) : Prop :=
  ∃ ao cap, v = .slice ao L.length cap ∧ L.length ≤ cap ∧ cap ≤ maxLen ∧ (0 < L.length → ∃ b o, ao = some ⟨b, o, none⟩ ∧ ∀ k (hk : k < L.length),
    w.cell? ⟨b, o + k * 3, none⟩ = some (enc L[k]).1 ∧ w.cell? ⟨b, o + k * 3 + 1, none⟩ = some (enc L[k]).2.1 ∧ w.cell? ⟨b, o + k * 3 + 2, none⟩ = some (enc L[k]).2.2)

theorem Row3.rb {α : Type} {enc : α → Value × Value × Value} {w w' : World} {v : Value} {L : List α} (h : Row3 enc w v L) (hb : Rb w w') : Row3 enc w' v L := by
  obtain ⟨ao, cap, e, h2, h3, h4⟩ := h
  refine ⟨ao, cap, e, h2, h3, fun h0 => ?_⟩
  obtain ⟨b, o, e2, hc⟩ := h4 h0
  exact ⟨b, o, e2, fun k hk => ⟨cell_rb hb (hc k hk).1, cell_rb hb (hc k hk).2.1, cell_rb hb (hc k hk).2.2⟩⟩
theorem Row3.form {α : Type} {enc : α → Value × Value × Value} {w : World} {v : Value} {L : List α} (h : Row3 enc w v L) : ∃ ao cap, v = .slice ao L.length cap ∧ L.length ≤ cap ∧ cap ≤ maxLen := by
  obtain ⟨ao, cap, e, h2, h3, h4⟩ := h
  exact ⟨ao, cap, e, h2, h3⟩
/-- the beginning of it -/
theorem Row3.take {α : Type} {enc : α → Value × Value × Value} {w : World} {ao : Option Addr} {n cap : Nat} {L : List α} (h : Row3 enc w (.slice ao n cap) L) (k : Nat) (hk : k ≤ L.length) : Row3 enc w (.slice ao k cap) (L.take k) := by
  obtain ⟨ao', cap', e, h2, h3, h4⟩ := h
  simp only [Value.slice.injEq] at e
  obtain ⟨rfl, rfl, rfl⟩ := e
  have hl : (L.take k).length = k := by rw [List.length_take]; omega
  refine ⟨ao, cap, by rw [hl], by omega, h3, fun h0 => ?_⟩
  obtain ⟨b, o, e2, hc⟩ := h4 (by omega)
  refine ⟨b, o, e2, fun i hi => ?_⟩
  have := hc i (by omega)
  rw [List.getElem_take]
  exact this

/-- a slice of columns, of values -/
def Cols (w : World) (v : Value) (L : List ColD) : Prop := Row3 cE w v L
def Vals (w : World) (v : Value) (L : List ValD) : Prop := Row3 vE w v L
/-- a table's columns are there -/
def TabIn (w : World) (t : TabD) : Prop := Cols w t.cv t.cols
/-- a slice of tables -/
def Tabs (w : World) (v : Value) (L : List TabD) : Prop := Row3 tE w v L ∧ ∀ t ∈ L, TabIn w t
theorem TabIn.rb {w w' : World} {t : TabD} (h : TabIn w t) (hb : Rb w w') : TabIn w' t := Row3.rb h hb
theorem Tabs.rb {w w' : World} {v : Value} {L : List TabD} (h : Tabs w v L) (hb : Rb w w') : Tabs w' v L := ⟨h.1.rb hb, fun t ht => (h.2 t ht).rb hb⟩

/-- sizes and numbers that fit -/
structure ColOk (c : ColD) : Prop where
  name : c.name.size ≤ maxLen
  k0 : -9223372036854775808 ≤ c.kind
  k1 : c.kind ≤ 9223372036854775807
  m0 : -9223372036854775808 ≤ c.max
  m1 : c.max ≤ 9223372036854775807
structure ValOk (v : ValD) : Prop where
  s : v.s.size ≤ maxLen
  k0 : -9223372036854775808 ≤ v.k
  k1 : v.k ≤ 9223372036854775807
  n0 : -9223372036854775808 ≤ v.n
  n1 : v.n ≤ 9223372036854775807
structure TabOk (t : TabD) : Prop where
  name : t.name.size ≤ maxLen
  r0 : -9223372036854775808 ≤ t.rows
  r1 : t.rows ≤ 9223372036854775807
  cols : ∀ c ∈ t.cols, ColOk c

def eqS (a b : ByteArray) : Bool := a.toList == b.toList

/-- where a name first stands: the length, where it doesn't -/
def posN (s : ByteArray) : List ByteArray → Nat
  | [] => 0
  | x :: r => if eqS x s then 0 else posN s r + 1
theorem posN_le (s : ByteArray) : ∀ l, posN s l ≤ l.length
  | [] => Nat.le_refl _
  | x :: r => by
    rw [posN]
    split
    · exact Nat.zero_le _
    · have := posN_le s r
      simp; omega
def dup (s : ByteArray) (l : List ByteArray) : Bool := decide (posN s l < l.length)
theorem dup_any (s : ByteArray) : ∀ l, dup s l = l.any (fun x => eqS x s)
  | [] => rfl
  | x :: r => by
    have := dup_any s r
    unfold dup at this ⊢
    rw [posN, List.any_cons, ← this]
    by_cases h : eqS x s = true
    · rw [if_pos h, h]; simp
    · rw [if_neg h, Bool.eq_false_iff.2 h]; simp

/-- names -/
def smallB (c : UInt8) : Bool := decide (97 ≤ c.toNat) && decide (c.toNat ≤ 122)
def digB (c : UInt8) : Bool := decide (48 ≤ c.toNat) && decide (c.toNat ≤ 57)
def signB (c : UInt8) : Bool := smallB c || digB c || decide (c.toNat = 95)
def wordsL : List ByteArray := [⟨#[116, 97, 98, 108, 101]⟩, ⟨#[114, 111, 119, 115]⟩, ⟨#[112, 114, 111, 99]⟩, ⟨#[108, 101, 116]⟩, ⟨#[105, 102]⟩, ⟨#[101, 108, 115, 101]⟩, ⟨#[108, 111, 111, 112]⟩, ⟨#[101, 97, 99, 104]⟩, ⟨#[105, 110]⟩, ⟨#[102, 114, 111, 109]⟩, ⟨#[116, 111]⟩, ⟨#[109, 97, 120]⟩, ⟨#[114, 111, 108, 108, 98, 97, 99, 107]⟩, ⟨#[101, 109, 105, 116]⟩, ⟨#[100, 101, 108]⟩, ⟨#[104, 97, 115]⟩, ⟨#[115, 117, 109]⟩, ⟨#[99, 111, 117, 110, 116]⟩, ⟨#[105, 110, 116]⟩, ⟨#[98, 111, 111, 108]⟩, ⟨#[116, 101, 120, 116]⟩, ⟨#[116, 114, 117, 101]⟩, ⟨#[102, 97, 108, 115, 101]⟩]
def wordB (s : ByteArray) : Bool := wordsL.any fun x => eqS s x
theorem eqS_iff {a b : ByteArray} : eqS a b = true ↔ a = b := by
  unfold eqS
  rw [beq_iff_eq, Lib.toList_data, Lib.toList_data]
  exact ⟨fun h => ByteArray.ext (Array.toList_inj.1 h), fun h => by rw [h]⟩
theorem eqS_comm (a b : ByteArray) : eqS a b = eqS b a := by
  rw [Bool.eq_iff_iff, eqS_iff, eqS_iff]; exact eq_comm
def nameL (l : List UInt8) : Bool := !l.isEmpty && smallB (l.getD 0 0) && l.all signB && decide (l.length ≤ 16)
def nameB (s : ByteArray) : Bool := nameL s.data.toList && !wordB s

theorem ret_i64 {a b : Int} (h : a = b) : Ending.returned (.int .i64 a) = .returned (.int .i64 b) := by rw [h]
end Go.Proofs.YtjfpeklfgnajoaaGreat.L6

namespace Go.Proofs.YtjfpeklfgnajoaaGreat.L6
open Go.ChangeShapes Go.WideShapes Go.ChangeAt Go.RowKit Oct By Reg Val
set_option linter.unusedVariables false

/-! ### blocks known whole -/
def Blk (w : World) (N : Nat) (T : TypeId) (cs : List Value) : Prop := w.heap[N]? = some (.cells cs.toArray T (0, 0))

namespace Blk
variable {w w' : World} {N : Nat} {T : TypeId} {cs : List Value}
theorem lt (h : Blk w N T cs) : N < w.heap.size := (Array.getElem?_eq_some_iff.1 h).1
theorem cell (h : Blk w N T cs) (i : Nat) : w.cell? ⟨N, i, none⟩ = cs[i]? := by
  unfold Blk at h
  rw [cell_of_row w N i cs.toArray T (0, 0) h]
  simp
theorem frozen (h : Blk w N T cs) (i : Nat) : w.frozen? ⟨N, i, none⟩ = false := by
  unfold Blk at h
  simp [World.frozen?, h]
theorem shape (h : Blk w N T cs) : w.shape? N = some (T, cs.length) := by
  unfold Blk at h
  simp [World.shape?, h]
theorem new (w : World) (T : TypeId) (cs : List Value) : Blk (w.alloc (.cells cs.toArray T)) w.heap.size T cs := heap_alloc_new w _
theorem same (h : Blk w N T cs) (e : w'.heap[N]? = w.heap[N]?) : Blk w' N T cs := e.trans h
theorem rb (h : Blk w N T cs) (hb : Rb w w') : Blk w' N T cs := h.same (hb.block N h.lt)
theorem inj {T' : TypeId} {cs' : List Value} (h : Blk w N T cs) (h' : Blk w N T' cs') : T = T' ∧ cs = cs' := by
  unfold Blk at h h'
  rw [h] at h'
  simp only [Option.some.injEq, Obj.cells.injEq] at h'
  exact ⟨h'.2.1, by simpa using h'.1⟩
end Blk

/-- only block N may have turned -/
structure Wrote (N : Nat) (w w' : World) : Prop where
  os : w'.os = w.os
  tape : w'.tape = w.tape
  output : w'.output = w.output
  size : w'.heap.size = w.heap.size
  block : ∀ k, k ≠ N → w'.heap[k]? = w.heap[k]?

theorem Wrote.trans {N : Nat} {a b c : World} (h : Wrote N a b) (k : Wrote N b c) : Wrote N a c :=
  ⟨k.os.trans h.os, k.tape.trans h.tape, k.output.trans h.output, k.size.trans h.size, fun i hi => (k.block i hi).trans (h.block i hi)⟩

theorem wrote_setRow (w : World) (N : Nat) (cs : Array Value) : Wrote N w (w.setRow N cs) :=
  ⟨rfl, rfl, rfl, by simp [World.setRow], fun k hk => setRow_other w N k cs hk⟩

section
variable {P : Program} {w : World} {ops : Array Oper} {rest : List Oper} {o : Oper} {a : Act} {Q : Exit → Act → World → Prop}
theorem run_store_blk {N off : Nat} {T ty : TypeId} {cs vs : List Value} {v : Value} (hb : Blk w N T cs) (hv : v.cells = vs.toArray) (hs : (P.info? ty).map (·.size) = some vs.length) (hl : off + vs.length ≤ cs.length) (h1 : ∀ v ∈ vs, v.oneCell' = true) :
    ∃ w', (Instr.storeAt ty (.pointer (some ⟨N, off, none⟩)) v).run P w = .ok () w' ∧ Blk w' N T (cs.take off ++ vs ++ cs.drop (off + vs.length)) ∧ Wrote N w w' := by
  have hr := run_storeCells_at P N off T vs 0 cs.toArray w hb (by simpa using hl) h1
  simp only [Nat.add_zero] at hr
  refine ⟨_, ?_, setRow_heap w N _ _ T (0, 0) hb, wrote_setRow w N _⟩
  cases hi : P.info? ty with
  | none => simp [hi] at hs
  | some i =>
    have hi' : i.size = vs.length := by simpa [hi] using hs
    simp [Instr.storeAt, Instr.sureAddr, storeVar, sizeOf, typeInfo, hi, hv, hi', hr, Result.andThen]

/-- a store into a block known whole -/
theorem wpList_store (hg : o.guard = none) (ty : TypeId) (x y : Operand) (ho : o.op = .store ty x y) (N off : Nat) (T : TypeId) (cs vs : List Value) (v : Value) (hx : a.eval x = .pointer (some ⟨N, off, none⟩)) (hy : a.eval y = v)
    (hb : Blk w N T cs) (hv : v.cells = vs.toArray) (hs : (P.info? ty).map (·.size) = some vs.length) (hl : off + vs.length ≤ cs.length) (h1 : ∀ v ∈ vs, v.oneCell' = true)
    (hK : ∀ w', Blk w' N T (cs.take off ++ vs ++ cs.drop (off + vs.length)) → Wrote N w w' → wpList P ops Q rest (a.put o.dst undef) w') : wpList P ops Q (o :: rest) a w := by
  obtain ⟨w', hr, h2, h3⟩ := run_store_blk (P := P) (v := v) hb hv hs hl h1
  refine wpList_plain hg fun K hK' => ?_
  unfold Oper.wp
  simp only [execOp, ho, hx, hy, Sem.run_bind, hr]
  exact hK' _ _ (hK w' h2 h3)
end

/-! ### what may have turned -/
structure Fr (F : Nat → Prop) (w w' : World) : Prop where
  os : w'.os = w.os
  tape : w'.tape = w.tape
  output : w'.output = w.output
  size : w.heap.size ≤ w'.heap.size
  block : ∀ k, k < w.heap.size → ¬ F k → w'.heap[k]? = w.heap[k]?

namespace Fr
variable {F G : Nat → Prop} {w w1 w2 : World}
theorem refl (F : Nat → Prop) (w : World) : Fr F w w := ⟨rfl, rfl, rfl, Nat.le_refl _, fun _ _ _ => rfl⟩
theorem of_rb (h : Rb w w1) : Fr F w w1 := ⟨h.os, h.tape, h.output, h.size, fun k hk _ => h.block k hk⟩
theorem rb (h : Fr F w w1) (hF : ∀ k, F k → w.heap.size ≤ k) : Rb w w1 := ⟨h.os, h.tape, h.output, h.size, fun k hk => h.block k hk fun hf => by have := hF k hf; omega⟩
theorem trans (h : Fr F w w1) (k : Fr G w1 w2) (hG : ∀ k, G k → F k ∨ w.heap.size ≤ k) : Fr F w w2 :=
  ⟨k.os.trans h.os, k.tape.trans h.tape, k.output.trans h.output, Nat.le_trans h.size k.size, fun i hi hf =>
    (k.block i (Nat.lt_of_lt_of_le hi h.size) fun hg => by rcases hG i hg with h' | h'; exact hf h'; omega).trans (h.block i hi hf)⟩
theorem mono (h : Fr F w w1) (hG : ∀ k, F k → k < w.heap.size → G k) : Fr G w w1 := ⟨h.os, h.tape, h.output, h.size, fun k hk hg => h.block k hk fun hf => hg (hG k hf hk)⟩
theorem grown (h : Fr F w w1) {row : Option Nat} (hg : w1.grownBy w2 row) (hr : ∀ k, row = some k → F k ∨ w.heap.size ≤ k) : Fr F w w2 :=
  h.trans (G := fun k => row = some k) ⟨hg.os, hg.tape, hg.output, hg.size, fun k hk hf => hg.block k hk fun e => hf e.symm⟩ hr
theorem wrote (h : Fr F w w1) {N : Nat} (hw : Wrote N w1 w2) (hN : F N ∨ w.heap.size ≤ N) : Fr F w w2 :=
  h.trans (G := fun k => k = N) ⟨hw.os, hw.tape, hw.output, by rw [hw.size]; exact Nat.le_refl _, fun k _ hf => hw.block k hf⟩ (fun k e => by subst e; exact hN)
theorem then_rb (h : Fr F w w1) (k : Rb w1 w2) : Fr F w w2 := h.trans (G := fun _ => False) (of_rb k) (fun _ h => h.elim)
theorem alloc (h : Fr F w w1) (o : Obj) : Fr F w (w1.alloc o) := h.then_rb ((Below.refl _ w1).alloc (Nat.le_refl _) o)
theorem drew (h : Fr F w w1) : Fr F w w1.drew := h.then_rb (Rb.drew w1)
end Fr


theorem Blk.c3 {w : World} {N : Nat} {T : TypeId} {a b c : Value} (h : Blk w N T [a, b, c]) : w.cell? ⟨N, 0, none⟩ = some a ∧ w.cell? ⟨N, 1, none⟩ = some b ∧ w.cell? ⟨N, 2, none⟩ = some c :=
  ⟨h.cell 0, h.cell 1, h.cell 2⟩
theorem Wrote.rb_new {w w1 : World} {o : Obj} (h : Wrote w.heap.size (w.alloc o) w1) : Rb w w1 := by
  have ha : Rb w (w.alloc o) := (Below.refl _ w).alloc (Nat.le_refl _) o
  refine ⟨h.os.trans ha.os, h.tape.trans ha.tape, h.output.trans ha.output, ?_, fun k hk => ?_⟩
  · rw [h.size]; exact ha.size
  · rw [h.block k (by omega)]; exact ha.block k hk
theorem sizeT : (Tryz.prog.info? 69).map (·.size) = some 3 := by kernel_rfl
theorem sizeC : (Tryz.prog.info? 88).map (·.size) = some 3 := by kernel_rfl
theorem sizeV : (Tryz.prog.info? 60).map (·.size) = some 3 := by kernel_rfl
theorem oneT (a : ByteArray) (b : Int) (o : Option Addr) (n c : Nat) : ∀ v ∈ [Value.string a, .int .i64 b, .slice o n c], v.oneCell' = true := by
  intro v hv; simp at hv; rcases hv with rfl | rfl | rfl <;> rfl
theorem oneC (a : ByteArray) (b c : Int) : ∀ v ∈ [Value.string a, .int .i64 b, .int .i64 c], v.oneCell' = true := by
  intro v hv; simp at hv; rcases hv with rfl | rfl | rfl <;> rfl
theorem oneV (a : ByteArray) (b c : Int) : ∀ v ∈ [Value.int .i64 b, .int .i64 c, .string a], v.oneCell' = true := by
  intro v hv; simp at hv; rcases hv with rfl | rfl | rfl <;> rfl
theorem infoV3 : (Tryz.prog.info? 60).map (fun i => (i.zero, i.size, i.bytes)) = some (some (.agg #[.int .i64 0, .int .i64 0, .string ⟨#[]⟩]), 3, 32) := by kernel_rfl
end Go.Proofs.YtjfpeklfgnajoaaGreat.L6

namespace Go.Proofs.YtjfpeklfgnajoaaGreat.L6
set_option linter.unusedSimpArgs false
open Go.ChangeShapes Go.WideShapes Go.ChangeAt Go.RowKit Oct By Reg Val
set_option linter.unusedVariables false

set_option maxRecDepth 100000 in
theorem taken_any (s : ByteArray) (w : World) :
    Calls Tryz.prog 131 #[.string s] w fun e w' => e = .returned (.bool (wordB s)) ∧ w = w' := by
  by_cases hw : wordB s = true
  · have Hw := Lib.hid hw
    unfold wordB at hw
    rw [List.any_eq_true] at hw
    obtain ⟨x, hx, he⟩ := hw
    have hxs := eqS_iff.1 he
    subst hxs
    rw [show wordB s = true from Hw.out]
    clear Hw he
    unfold wordsL at hx
    simp only [List.mem_cons, List.not_mem_nil, or_false] at hx
    rcases hx with rfl | rfl | rfl | rfl | rfl | rfl | rfl | rfl | rfl | rfl | rfl | rfl | rfl | rfl | rfl | rfl | rfl | rfl | rfl | rfl | rfl | rfl | rfl
    all_goals
      go_enter Tryz.func131, Tryz.ntmps131
      go_wp2
      go_ret
      exact ⟨rfl, rfl⟩
  · have hf : wordB s = false := Bool.eq_false_iff.2 hw
    rw [hf]
    unfold wordB wordsL eqS at hf
    simp only [List.any_cons, List.any_nil, Bool.or_eq_false_iff, Bool.or_false, Lib.toList_data ⟨#[_, _]⟩, Lib.toList_data ⟨#[_, _, _]⟩, Lib.toList_data ⟨#[_, _, _, _]⟩, Lib.toList_data ⟨#[_, _, _, _, _]⟩, Lib.toList_data ⟨#[_, _, _, _, _, _, _, _]⟩] at hf
    obtain ⟨h1, h2, h3, h4, h5, h6, h7, h8, h9, h10, h11, h12, h13, h14, h15, h16, h17, h18, h19, h20, h21, h22, h23⟩ := hf
    clear hw
    go_enter Tryz.func131, Tryz.ntmps131
    go_wp2
    go_ret
    exact ⟨rfl, rfl⟩

theorem bool_iff {a : Bool} {p : Prop} [Decidable p] (h : a = true ↔ p) : a = decide p := by rw [Bool.eq_iff_iff, h, decide_eq_true_iff]
set_option maxRecDepth 100000 in
theorem small_any (c : UInt8) (w : World) : Calls Tryz.prog 130 #[.int .u8 (c.toNat : Int)] w fun e w' => e = .returned (.bool (smallB c)) ∧ w = w' := by
  unfold smallB
  by_cases h1 : 97 ≤ c.toNat
  all_goals
    go_enter Tryz.func130, Tryz.ntmps130
    go_wp2
    go_ret
    refine ⟨ret_bool ?_, rfl⟩
    first | (rw [Bool.eq_iff_iff]; simp [h1]; done) | (rw [Bool.eq_iff_iff]; simp [*]; omega) | (simp [h1]; done)
set_option maxRecDepth 100000 in
theorem dig_any (c : UInt8) (w : World) : Calls Tryz.prog 132 #[.int .u8 (c.toNat : Int)] w fun e w' => e = .returned (.bool (digB c)) ∧ w = w' := by
  unfold digB
  by_cases h1 : 48 ≤ c.toNat
  all_goals
    go_enter Tryz.func132, Tryz.ntmps132
    go_wp2
    go_ret
    refine ⟨ret_bool ?_, rfl⟩
    first | (rw [Bool.eq_iff_iff]; simp [h1]; done) | (rw [Bool.eq_iff_iff]; simp [*]; omega) | (simp [h1]; done)

theorem all_take1 {p : UInt8 → Bool} {l : List UInt8} {k : Nat} (h : k < l.length) : (l.take (k + 1)).all p = ((l.take k).all p && p (l.getD k 0)) := by
  rw [List.take_succ_eq_append_getElem h, List.all_append, List.getD_eq_getElem?_getD, List.getElem?_eq_getElem h]
  simp
theorem all_not {p : UInt8 → Bool} {l : List UInt8} {k : Nat} (h : k < l.length) (hb : p (l.getD k 0) = false) : l.all p = false := by
  rw [Bool.eq_false_iff]
  intro ha
  have := List.all_eq_true.1 ha (l.getD k 0) (by rw [List.getD_eq_getElem?_getD, List.getElem?_eq_getElem h]; exact List.getElem_mem h)
  rw [hb] at this; cases this

/-- the loop over the signs -/
def NmAt (s : ByteArray) (k : Nat) : Prop := (s.data.toList.take k).all signB = true
set_option maxRecDepth 100000 in
set_option maxHeartbeats 2000000 in
theorem isname_any (s : ByteArray) (w : World) (hs : s.size ≤ maxLen) :
    Calls Tryz.prog 106 #[.string s] w fun e w' => e = .returned (.bool (nameB s)) ∧ w = w' := by
  have hlen : s.data.toList.length = s.size := Array.length_toList
  have tk := fun w => taken_any s w
  unfold maxLen at hs
  by_cases h0 : s.size = 0
  · have hd : s = ⟨#[]⟩ := by
      apply ByteArray.ext
      exact Array.eq_empty_of_size_eq_zero h0
    subst hd
    rw [show nameB ⟨#[]⟩ = false by rfl]
    clear h0 hlen hs tk
    go_enter Tryz.func106, Tryz.ntmps106
    go_wp2
    go_ret
    exact ⟨rfl, rfl⟩
  have hne : (s.toList == []) = false := by
    rw [Lib.toList_data]
    cases hh : s.data.toList with
    | nil => rw [hh] at hlen; simp at hlen; omega
    | cons a l => rfl
  have hne2 : s.toList.isEmpty = false := by
    rw [Lib.toList_data]
    cases hh : s.data.toList with
    | nil => rw [hh] at hlen; simp at hlen; omega
    | cons a l => rfl
  have hp : 0 < s.size := by omega
  have hne3 : s.data.toList.isEmpty = false := by rw [← Lib.toList_data]; exact hne2
  have hg0 : s.data.toList.getD 0 0 = s[0] := by
    rw [List.getD_eq_getElem?_getD, List.getElem?_eq_getElem (by omega)]; rfl
  by_cases h16 : 16 < s.size
  · have Hr : Hid (false = nameB s) := by
      show false = nameB s
      unfold nameB nameL
      rw [hlen, decide_eq_false (by omega : ¬ s.size ≤ 16)]; simp
    clear hlen tk hne3 hg0
    go_enter Tryz.func106, Tryz.ntmps106
    go_wp2
    go_ret
    exact ⟨ret_bool Hr.out, rfl⟩
  have Hlen := Lib.hid hlen
  have sm := fun w => small_any s[0] w
  cases hsm : smallB s[0] with
  | false =>
    have Hr : Hid (false = nameB s) := by
      show false = nameB s
      unfold nameB nameL
      rw [hg0, hsm]; simp
    rw [hsm] at sm
    clear hlen tk hne3 hg0 hsm
    go_enter Tryz.func106, Tryz.ntmps106
    go_wp2_with (go_at_call 130; refine (sm _).mono ?_; rintro e w ⟨rfl, rfl⟩)
    go_ret
    exact ⟨ret_bool Hr.out, rfl⟩
  | true =>
    rw [hsm] at sm
    cases hwd : wordB s with
    | true =>
      have Hr : Hid (false = nameB s) := by
        show false = nameB s
        unfold nameB
        rw [hwd]; simp
      rw [hwd] at tk
      clear hlen hne3 hg0 hsm hwd
      go_enter Tryz.func106, Tryz.ntmps106
      go_wp2_with (first | (go_at_call 130; refine (sm _).mono ?_; rintro e w ⟨rfl, rfl⟩) | (go_at_call 131; refine (tk _).mono ?_; rintro e w ⟨rfl, rfl⟩))
      go_ret
      exact ⟨ret_bool Hr.out, rfl⟩
    | false =>
      rw [hwd] at tk
      have Hn : Hid (nameB s = s.data.toList.all signB) := by
        show nameB s = _
        unfold nameB nameL
        rw [hwd, hne3, hg0, hsm, Hlen.out, decide_eq_true (by omega : s.size ≤ 16)]; simp
      clear hlen hne3 hg0 hsm hwd
      go_enter Tryz.func106, Tryz.ntmps106
      go_wp2_with (first | (go_at_call 130; refine (sm _).mono ?_; rintro e w ⟨rfl, rfl⟩) | (go_at_call 131; refine (tk _).mono ?_; rintro e w ⟨rfl, rfl⟩))
      clear sm tk
      go_loop [23] (fun i => ∃ k : Nat, k ≤ s.size ∧ i = .int .i64 k ∧ NmAt s k) (fun i => s.size - (intOf i).toNat)
      case atStart => exact ⟨0, Nat.zero_le _, rfl, rfl⟩
      case round =>
        obtain ⟨k, hk, rfl, ha⟩ := hrel
        by_cases hlt : k < s.size
        · have hl : k < s.data.toList.length := by rw [Hlen.out]; exact hlt
          have hgd : s.data.toList.getD k 0 = s[k] := by
            rw [List.getD_eq_getElem?_getD, List.getElem?_eq_getElem hl]; rfl
          have smk := fun w => small_any s[k] w
          have dgk := fun w => dig_any s[k] w
          have hu := UInt8.toNat_lt s[k]
          cases hok : signB s[k] with
          | true =>
            have ha' : NmAt s (k + 1) := by
              show (s.data.toList.take (k + 1)).all signB = true
              rw [all_take1 hl, show (s.data.toList.take k).all signB = true from ha, hgd, hok]; rfl
            unfold signB at hok
            clear ha hgd
            by_cases c1 : smallB s[k] = true
            · rw [c1] at smk
              clear hok c1
              go_wp2_with (go_at_call 130; refine (smk _).mono ?_; rintro e w ⟨rfl, rfl⟩)
              go_round
              case rel => exact ⟨k + 1, by omega, by go_num, ha'⟩
              case measure => simp [intOf]; omega
            · rw [Bool.eq_false_iff.2 c1] at smk
              by_cases c2 : digB s[k] = true
              · rw [c2] at dgk
                clear hok c1 c2
                go_wp2_with (first | (go_at_call 130; refine (smk _).mono ?_; rintro e w ⟨rfl, rfl⟩) | (go_at_call 132; refine (dgk _).mono ?_; rintro e w ⟨rfl, rfl⟩))
                go_round
                case rel => exact ⟨k + 1, by omega, by go_num, ha'⟩
                case measure => simp [intOf]; omega
              · rw [Bool.eq_false_iff.2 c2] at dgk
                have h95 : ((s[k].toNat : Int) == 95) = true := by
                  rw [Bool.eq_false_iff.2 c1, Bool.eq_false_iff.2 c2] at hok
                  simp at hok
                  simp; omega
                have h95' : (s[k].toNat : Int) = 95 := by simpa using h95
                rw [h95'] at smk dgk
                clear hok c1 c2
                go_wp2_with (first | (go_at_call 130; refine (smk _).mono ?_; rintro e w ⟨rfl, rfl⟩) | (go_at_call 132; refine (dgk _).mono ?_; rintro e w ⟨rfl, rfl⟩))
                go_round
                case rel => exact ⟨k + 1, by omega, by go_num, ha'⟩
                case measure => simp [intOf]; omega
          | false =>
            have Hr : Hid (false = nameB s) := by
              show false = nameB s
              rw [Hn.out, all_not hl (by rw [hgd]; exact hok)]
            unfold signB at hok
            simp only [Bool.or_eq_false_iff, decide_eq_false_iff_not] at hok
            obtain ⟨⟨c1, c2⟩, c3⟩ := hok
            rw [c1] at smk
            rw [c2] at dgk
            have h95 : ((s[k].toNat : Int) == 95) = false := by simp; omega
            have h95' : ¬ (s[k].toNat : Int) = 95 := by omega
            clear ha hgd c1 c2 c3
            go_wp2_with (first | (go_at_call 130; refine (smk _).mono ?_; rintro e w ⟨rfl, rfl⟩) | (go_at_call 132; refine (dgk _).mono ?_; rintro e w ⟨rfl, rfl⟩))
            go_ret
            exact ⟨ret_bool Hr.out, rfl⟩
        · have Hr : Hid (true = nameB s) := by
            show true = nameB s
            have h : (s.data.toList.take k).all signB = true := ha
            rw [List.take_of_length_le (by rw [Hlen.out]; omega)] at h
            rw [Hn.out, h]
          clear ha
          go_wp2
          go_ret
          exact ⟨ret_bool Hr.out, rfl⟩

/-! ### the document's -/
theorem word_mem {s : ByteArray} : wordB s = true ↔ s ∈ wordsL := by
  unfold wordB
  rw [List.any_eq_true]
  exact ⟨fun ⟨x, hx, h⟩ => by rw [eqS_iff.1 h]; exact hx, fun h => ⟨s, h, eqS_iff.2 rfl⟩⟩
theorem wordsL_cell (w : World) (T : TypeId) (k : Nat) (hk : k < 23) : (w.alloc (.cells (wordsL.map Value.string).toArray T)).cell? ⟨w.heap.size, k, none⟩ = some (.string (wordsL.getD k ByteArray.empty)) := by
  rw [World.cell?_alloc_mark]
  have hl : wordsL.length = 23 := rfl
  simp [List.getD_eq_getElem?_getD, hl, hk]
set_option maxRecDepth 100000 in
set_option maxHeartbeats 2000000 in
theorem isword_any (s : ByteArray) (w : World) (hs : s.size ≤ maxLen) :
    Calls Tryz.prog 108 #[.string s] w fun e w' => e = .returned (.bool (wordB s)) ∧ Rb w w' := by
  have hc := wordsL_cell w 9
  have HB := Lib.hid (show Rb w (w.alloc (.cells (wordsL.map Value.string).toArray 9)) from (Below.refl _ _).alloc (Nat.le_refl _) _)
  have hl : wordsL.length = 23 := rfl
  have Hl := Lib.hid hl
  have HC := Lib.hid hc
  clear hc hl
  go_enter Tryz.func108, Tryz.ntmps108
  go_wp2
  rw [show #[Value.string { data := #[116, 97, 98, 108, 101] }, Value.string { data := #[114, 111, 119, 115] }, Value.string { data := #[112, 114, 111, 99] }, Value.string { data := #[108, 101, 116] }, Value.string { data := #[105, 102] }, Value.string { data := #[101, 108, 115, 101] }, Value.string { data := #[108, 111, 111, 112] }, Value.string { data := #[101, 97, 99, 104] }, Value.string { data := #[105, 110] }, Value.string { data := #[102, 114, 111, 109] }, Value.string { data := #[116, 111] }, Value.string { data := #[109, 97, 120] }, Value.string { data := #[114, 111, 108, 108, 98, 97, 99, 107] }, Value.string { data := #[101, 109, 105, 116] }, Value.string { data := #[100, 101, 108] }, Value.string { data := #[104, 97, 115] }, Value.string { data := #[115, 117, 109] }, Value.string { data := #[99, 111, 117, 110, 116] }, Value.string { data := #[105, 110, 116] }, Value.string { data := #[98, 111, 111, 108] }, Value.string { data := #[116, 101, 120, 116] }, Value.string { data := #[116, 114, 117, 101] }, Value.string { data := #[102, 97, 108, 115, 101] }] = (wordsL.map Value.string).toArray from rfl]
  obtain ⟨w1, hw1⟩ : ∃ w1, w1 = w.alloc (.cells (wordsL.map Value.string).toArray 9) := ⟨_, rfl⟩
  have HC' := Lib.hid HC.out
  have HB' := Lib.hid HB.out
  rw [← hw1] at HC' HB' ⊢
  clear hw1 HC HB
  go_loop [7] (fun i => ∃ k : Nat, k ≤ 23 ∧ i = .int .i64 k ∧ wordB s = (wordsL.drop k).any (fun x => eqS s x)) (fun i => 23 - (intOf i).toNat)
  case atStart => exact ⟨0, Nat.zero_le _, rfl, rfl⟩
  case round =>
    obtain ⟨k, hk, rfl, ha⟩ := hrel
    by_cases hlt : k < 23
    · have z := HC'.out k hlt
      obtain ⟨x, hx⟩ : ∃ x, x = wordsL.getD k ByteArray.empty := ⟨_, rfl⟩
      rw [← hx] at z
      have hd : wordsL.drop k = x :: wordsL.drop (k + 1) := by
        rw [List.drop_eq_getElem_cons (by rw [Hl.out]; exact hlt), hx, List.getD_eq_getElem?_getD, List.getElem?_eq_getElem (by rw [Hl.out]; exact hlt)]
        rfl
      rw [hd, List.any_cons] at ha
      have Ha := Lib.hid ha
      by_cases heq : eqS s x = true
      · have he : (x.toList == s.toList) = true := by rw [eqS_comm] at heq; exact heq
        have Hr : Hid (true = wordB s) := by
          show true = wordB s
          rw [ha, heq]; rfl
        clear ha hd hx heq Ha
        go_wp2
        go_ret
        exact ⟨ret_bool Hr.out, HB'.out⟩
      · have he : (x.toList == s.toList) = false := by rw [eqS_comm] at heq; exact Bool.eq_false_iff.2 heq
        have Hr : Hid (wordB s = (wordsL.drop (k + 1)).any (fun x => eqS s x)) := by
          show wordB s = _
          rw [ha, Bool.eq_false_iff.2 heq]; rfl
        clear ha hd hx heq Ha
        go_wp2
        go_round
        case rel => exact ⟨k + 1, by omega, by go_num, Hr.out⟩
        case measure => simp [intOf]; omega
    · have Hr : Hid (false = wordB s) := by
        show false = wordB s
        rw [ha, List.drop_eq_nil_of_le (by rw [Hl.out]; omega)]; rfl
      clear ha
      go_wp2
      go_ret
      exact ⟨ret_bool Hr.out, HB'.out⟩

/-- the document's signs: the first a letter, the others a letter, a digit or '_' -/
theorem nameL_iff (l : List UInt8) (h : ∀ k, k < l.length → (smallB (l.getD k 0) = true ∨ ((l.getD k 0).toNat = 95 ∨ digB (l.getD k 0) = true) ∧ k ≠ 0)) : smallB (l.getD 0 0) = true ∨ l = [] := by
  cases l with
  | nil => exact .inr rfl
  | cons c r =>
    rcases h 0 (by simp) with h' | ⟨_, h'⟩
    · exact .inl h'
    · exact absurd rfl h'
def RnAt (s : ByteArray) (k : Nat) : Prop := (s.data.toList.take k).all signB = true ∧ (0 < k → smallB (s.data.toList.getD 0 0) = true)
set_option maxRecDepth 100000 in
set_option maxHeartbeats 4000000 in
theorem refname_any (s : ByteArray) (w : World) (hs : s.size ≤ maxLen) :
    Calls Tryz.prog 79 #[.string s] w fun e w' => e = .returned (.bool (nameB s)) ∧ Rb w w' := by
  have hlen : s.data.toList.length = s.size := Array.length_toList
  have tk := fun w => isword_any s w hs
  unfold maxLen at hs
  by_cases h0 : s.size = 0
  · have hd : s = ⟨#[]⟩ := by
      apply ByteArray.ext
      exact Array.eq_empty_of_size_eq_zero h0
    subst hd
    rw [show nameB ⟨#[]⟩ = false by rfl]
    clear h0 hlen hs tk
    go_enter Tryz.func79, Tryz.ntmps79
    go_wp2
    go_ret
    exact ⟨rfl, Rb.refl _⟩
  have hp : 0 < s.size := by omega
  have hne : (s.size : Int) ≠ 0 := by omega
  have hnb : ((s.size : Int) == 0) = false := by rw [beq_eq_false_iff_ne]; omega
  have hne3 : s.data.toList.isEmpty = false := by
    cases hh : s.data.toList with
    | nil => rw [hh] at hlen; simp at hlen; omega
    | cons a l => rfl
  by_cases h16 : 16 < s.size
  · have Hr : Hid (false = nameB s) := by
      show false = nameB s
      unfold nameB nameL
      rw [hlen, decide_eq_false (by omega : ¬ s.size ≤ 16)]; simp
    clear hlen tk hne3
    go_enter Tryz.func79, Tryz.ntmps79
    go_wp2
    go_ret
    exact ⟨ret_bool Hr.out, Rb.refl _⟩
  have Hlen := Lib.hid hlen
  cases hwd : wordB s with
  | true =>
    have Hr : Hid (false = nameB s) := by
      show false = nameB s
      unfold nameB
      rw [hwd]; simp
    rw [hwd] at tk
    clear hlen hne3 hwd
    go_enter Tryz.func79, Tryz.ntmps79
    go_wp2_with (go_at_call 108; refine (tk _).mono ?_; rintro e w' ⟨rfl, hb⟩)
    go_ret
    exact ⟨ret_bool Hr.out, by assumption⟩
  | false =>
    rw [hwd] at tk
    have Hn : Hid (nameB s = (smallB (s.data.toList.getD 0 0) && s.data.toList.all signB)) := by
      show nameB s = _
      unfold nameB nameL
      rw [hwd, hne3, Hlen.out, decide_eq_true (by omega : s.size ≤ 16)]; simp
    clear hlen hne3 hwd
    go_enter Tryz.func79, Tryz.ntmps79
    go_wp2_with fail
    refine (tk _).mono ?_
    rintro e w1 ⟨rfl, hb⟩
    have HB := Lib.hid hb
    clear hb tk
    go_wp2
    go_loop [3, 4, 5] (fun i _ _ => ∃ k : Nat, k ≤ s.size ∧ i = .int .i64 k ∧ RnAt s k) (fun i _ _ => s.size - (intOf i).toNat)
    case atStart => exact ⟨0, Nat.zero_le _, rfl, rfl, fun h => absurd h (Nat.lt_irrefl _)⟩
    case round =>
      obtain ⟨k, hk, rfl, ha⟩ := hrel
      by_cases hlt : k < s.size
      · have hl : k < s.data.toList.length := by rw [Hlen.out]; exact hlt
        have hgd : s.data.toList.getD k 0 = s[k] := by
          rw [List.getD_eq_getElem?_getD, List.getElem?_eq_getElem hl]; rfl
        have hu := UInt8.toNat_lt s[k]
        by_cases hok : smallB s[k] = true ∨ ((s[k].toNat = 95 ∨ digB s[k] = true) ∧ k ≠ 0)
        · have ha' : RnAt s (k + 1) := by
            refine ⟨?_, fun _ => ?_⟩
            · rw [all_take1 hl, show (s.data.toList.take k).all signB = true from ha.1, hgd]
              unfold signB
              rcases hok with h | ⟨h | h, _⟩ <;> simp [h]
            · by_cases hk0 : k = 0
              · subst hk0
                rcases hok with h | ⟨_, h⟩
                · rw [hgd]; exact h
                · exact absurd rfl h
              · exact ha.2 (by omega)
          clear ha hgd
          unfold smallB digB at hok
          simp only [Bool.and_eq_true, decide_eq_true_eq] at hok
          by_cases c1 : 97 ≤ s[k].toNat <;> by_cases c2 : s[k].toNat ≤ 122
          · clear hok
            by_cases c3 : ((s[k].toNat : Int) == 95) = true
            · simp at c3; omega
            · have c3' := Bool.eq_false_iff.2 c3
              clear c3
              go_wp2
              go_round
              case rel => exact ⟨k + 1, by omega, by go_num, ha'⟩
              case measure => simp [intOf]; omega
          · exfalso; rcases hok with h | ⟨h | h, _⟩ <;> omega
          · have hk0 : k ≠ 0 := by rcases hok with h | ⟨h, hh⟩ <;> omega
            have hkb : ((k : Int) == 0) = false := by simp; omega
            by_cases c3 : s[k].toNat = 95
            · have c3' : ((s[k].toNat : Int) == 95) = true := by simp; omega
              clear hok c3 hk0
              go_wp2
              go_round
              case rel => exact ⟨k + 1, by omega, by go_num, ha'⟩
              case measure => simp [intOf]; omega
            · have c3' : ((s[k].toNat : Int) == 95) = false := by simp; omega
              have c4 : 48 ≤ s[k].toNat := by rcases hok with h | ⟨h | h, _⟩ <;> omega
              have c5 : s[k].toNat ≤ 57 := by rcases hok with h | ⟨h | h, _⟩ <;> omega
              clear hok c3 hk0
              go_wp2
              go_round
              case rel => exact ⟨k + 1, by omega, by go_num, ha'⟩
              case measure => simp [intOf]; omega
          · exfalso; rcases hok with h | ⟨h | h, _⟩ <;> omega
        · have Hr : Hid (false = nameB s) := by
            show false = nameB s
            rw [Hn.out, eq_comm, Bool.eq_false_iff]
            intro hh
            simp only [Bool.and_eq_true] at hh
            apply hok
            have := List.all_eq_true.1 hh.2 s[k] (by rw [← hgd, List.getD_eq_getElem?_getD, List.getElem?_eq_getElem hl]; exact List.getElem_mem hl)
            unfold signB at this
            by_cases hk0 : k = 0
            · subst hk0
              rw [← hgd]; exact .inl hh.1
            · simp only [Bool.or_eq_true, decide_eq_true_eq] at this
              rcases this with (h | h) | h
              · exact .inl h
              · exact .inr ⟨.inr h, hk0⟩
              · exact .inr ⟨.inl h, hk0⟩
          clear ha hgd
          have hok1 : ¬ (97 ≤ s[k].toNat ∧ s[k].toNat ≤ 122) := fun h => hok (.inl (by unfold smallB; simp [h]))
          by_cases hk0 : k = 0
          · subst hk0
            clear hok
            by_cases c1 : 97 ≤ s[0].toNat
            · have c2 : 122 < s[0].toNat := by omega
              have d2 : decide ((s[0].toNat : Int) ≤ 122) = false := by simp; omega
              have c3' : ((s[0].toNat : Int) == 95) = false := by simp; omega
              clear hok1
              go_wp2
              all_goals
                go_ret
                exact ⟨ret_bool Hr.out, HB.out⟩
            · clear hok1
              have c1' : s[0].toNat < 97 := by omega
              by_cases c3 : s[0].toNat = 95
              · have c3' : ((s[0].toNat : Int) == 95) = true := by simp; omega
                clear c3 c1
                go_wp2
                all_goals
                  go_ret
                  exact ⟨ret_bool Hr.out, HB.out⟩
              · have c3' : ((s[0].toNat : Int) == 95) = false := by simp; omega
                clear c3 c1
                go_wp2
                all_goals
                  go_ret
                  exact ⟨ret_bool Hr.out, HB.out⟩
          · have c3 : ¬ s[k].toNat = 95 := fun h => hok (.inr ⟨.inl h, hk0⟩)
            have c4 : ¬ (48 ≤ s[k].toNat ∧ s[k].toNat ≤ 57) := fun h => hok (.inr ⟨.inr (by unfold digB; simp [h]), hk0⟩)
            have c3' : ((s[k].toNat : Int) == 95) = false := by simp; omega
            clear hok c3 hk0
            by_cases c1 : 97 ≤ s[k].toNat
            · have c2 : 122 < s[k].toNat := by omega
              have d2 : decide ((s[k].toNat : Int) ≤ 122) = false := by simp; omega
              clear hok1 c4
              go_wp2
              all_goals
                go_ret
                exact ⟨ret_bool Hr.out, HB.out⟩
            · have c1' : s[k].toNat < 97 := by omega
              clear hok1 c1
              by_cases c5 : 48 ≤ s[k].toNat
              · have c6 : 57 < s[k].toNat := by omega
                clear c4
                go_wp2
                all_goals
                  go_ret
                  exact ⟨ret_bool Hr.out, HB.out⟩
              · have c6 : s[k].toNat < 48 := by omega
                clear c4 c5
                go_wp2
                all_goals
                  go_ret
                  exact ⟨ret_bool Hr.out, HB.out⟩
      · have Hr : Hid (true = nameB s) := by
          show true = nameB s
          have h : (s.data.toList.take k).all signB = true := ha.1
          rw [List.take_of_length_le (by rw [Hlen.out]; omega)] at h
          rw [Hn.out, h, ha.2 (by omega)]; rfl
        clear ha
        go_wp2
        go_ret
        exact ⟨ret_bool Hr.out, HB.out⟩
end Go.Proofs.YtjfpeklfgnajoaaGreat.L6

namespace Go.Proofs.YtjfpeklfgnajoaaGreat.L6
open Go.ChangeShapes Go.WideShapes Go.ChangeAt Go.RowKit Oct By Reg Val
set_option linter.unusedVariables false
set_option linter.unusedSimpArgs false

theorem posN_drop {s x : ByteArray} {l : List ByteArray} {k : Nat} (hk : k < l.length) (hx : x = l[k]) (h : posN s l = k + posN s (l.drop k)) :
    (eqS x s = true → posN s l = k) ∧ (eqS x s = false → posN s l = k + 1 + posN s (l.drop (k + 1))) := by
  rw [List.drop_eq_getElem_cons hk, ← hx, posN] at h
  refine ⟨fun he => ?_, fun he => ?_⟩
  · rw [if_pos he] at h; omega
  · rw [if_neg (by rw [he]; decide)] at h; omega
theorem posN_end {s : ByteArray} {l : List ByteArray} {k : Nat} (hk : l.length ≤ k) (h : posN s l = k + posN s (l.drop k)) : posN s l = k := by
  rw [List.drop_eq_nil_of_le hk] at h
  exact h

def idxI (s : ByteArray) (l : List ByteArray) : Int := if dup s l then (posN s l : Int) else -1
def idxN (s : ByteArray) (l : List ByteArray) : Int := if dup s l then (posN s l : Int) else 0
theorem idxI_bd {s : ByteArray} {l : List ByteArray} (h : l.length ≤ 9223372036854775807) : -1 ≤ idxI s l ∧ idxI s l ≤ 9223372036854775807 := by
  have := posN_le s l
  unfold idxI
  split <;> omega
theorem idx_yes {s : ByteArray} {l : List ByteArray} {k : Nat} (hk : k < l.length) (h : posN s l = k) : dup s l = true ∧ idxI s l = k ∧ idxN s l = k := by
  have hd : dup s l = true := by unfold dup; rw [h, decide_eq_true hk]
  exact ⟨hd, by unfold idxI; rw [if_pos hd, h], by unfold idxN; rw [if_pos hd, h]⟩
theorem idx_no {s : ByteArray} {l : List ByteArray} {k : Nat} (hk : l.length ≤ k) (h : posN s l = k) : dup s l = false ∧ idxI s l = -1 ∧ idxN s l = 0 := by
  have hd : dup s l = false := by unfold dup; rw [h, decide_eq_false (by omega)]
  exact ⟨hd, by unfold idxI; rw [if_neg (by rw [hd]; decide)], by unfold idxN; rw [if_neg (by rw [hd]; decide)]⟩
abbrev tupIB (n : Int) (b : Bool) : Value := .tuple #[.int .i64 n, .bool b]
theorem TabIn.form {w : World} {nm : ByteArray} {r : Int} {cv : Value} {cs : List ColD} (h : TabIn w ⟨nm, r, cv, cs⟩) : ∃ ao cap, cv = .slice ao cs.length cap ∧ cs.length ≤ cap ∧ cap ≤ maxLen := Row3.form h
abbrev namesT (L : List TabD) : List ByteArray := L.map (·.name)
abbrev namesC (L : List ColD) : List ByteArray := L.map (·.name)

/-! ### TabD -/
set_option maxRecDepth 100000 in
theorem findT1_any (t : TabD) (B : Nat) (s : ByteArray) (w : World) (hB : w.cell? ⟨B, 0, none⟩ = some (.string s)) (h : TabIn w t) :
    Calls Tryz.prog 129 #[tabV t, .pointer (some ⟨B, 0, none⟩)] w fun e w' => e = .returned (.bool (eqS t.name s)) ∧ Rb w w' := by
  obtain ⟨nm, rw0, cv, cols⟩ := t
  obtain ⟨co, ccap, rfl, hcc⟩ := h.form
  have hr := (Below.refl w.heap.size w).alloc (Nat.le_refl _) (.cells #[.string nm, .int .i64 rw0, .slice co cols.length ccap] 69)
  have HR := Lib.hid hr
  have hb := World.block_lt_of_cell? w _ hB
  have hB' : (w.alloc (.cells #[.string nm, .int .i64 rw0, .slice co cols.length ccap] 69)).cell? ⟨B, 0, none⟩ = some (.string s) := by rw [World.cell?_alloc_lt _ _ _ hb]; exact hB
  unfold eqS
  clear hr
  go_enter Tryz.func129, Tryz.ntmps129
  go_wp2
  go_ret
  exact ⟨rfl, HR.out⟩

set_option maxRecDepth 100000 in
set_option maxHeartbeats 1000000 in
theorem indexT_any (L : List TabD) (v : Value) (B : Nat) (s : ByteArray) (w : World) (hB : w.cell? ⟨B, 0, none⟩ = some (.string s)) (h : Tabs w v L) :
    Calls Tryz.prog 145 #[v, .func (.func 129) #[] #[.pointer (some ⟨B, 0, none⟩)]] w fun e w' => e = .returned (.int .i64 (idxI s (namesT L))) ∧ Rb w w' := by
  have h0 := h
  obtain ⟨ao, cap, rfl, h1, h2, hr⟩ := h.1
  have HH := Lib.hid h0
  have HR := Lib.hid hr
  have HB0 := Lib.hid hB
  have hln : (namesT L).length = L.length := by simp
  have Hln := Lib.hid hln
  unfold maxLen at h2
  clear hr h0 hB hln h
  go_enter Tryz.func145, Tryz.ntmps145
  go_wp2
  go_loopw [8] (fun i wr => ∃ k : Nat, k ≤ L.length ∧ i = .int .i64 k ∧ Hid (posN s (namesT L) = k + posN s ((namesT L).drop k)) ∧ Rb w wr) (fun i _ => L.length - (intOf i).toNat)
  case atStart => exact ⟨0, Nat.zero_le _, rfl, by show posN s (namesT L) = _; simp, Rb.refl _⟩
  case round =>
    obtain ⟨k, hk, rfl, ha, hb⟩ := hrel
    have HB := Lib.hid hb
    by_cases hlt : k < L.length
    · obtain ⟨b, o, rfl, hc⟩ := HR.out (by omega)
      obtain ⟨z0, z1, z2⟩ := hc k hlt
      have y0 := cell_rb hb z0
      have y1 := cell_rb hb z1
      have y2 := cell_rb hb z2
      have cB := cell_rb hb HB0.out
      obtain ⟨t, ht⟩ : ∃ t, t = L[k] := ⟨_, rfl⟩
      rw [← ht] at y0 y1 y2
      have hnx : t.name = (namesT L)[k]'(by rw [Hln.out]; exact hlt) := by rw [List.getElem_map, ht]
      obtain ⟨p1, p2⟩ := posN_drop (s := s) (by rw [Hln.out]; exact hlt) hnx ha.out
      have P1 := Lib.hid p1
      have P2 := Lib.hid p2
      have htin : TabIn w t := by rw [ht]; exact HH.out.2 _ (List.getElem_mem hlt)
      have hcl := fun w' (hw : Rb wr w') => findT1_any t B s w' (cell_rb hw cB) ((htin.rb HB.out).rb hw)
      clear z0 z1 z2 hc hnx p1 p2 hb ha ht
      have HIN := Lib.hid htin
      obtain ⟨nm, rw0, cv, cols⟩ := t
      obtain ⟨co, ccap, rfl, hcc⟩ := htin.form
      clear hcc htin
      go_wp2_with fail
      refine (hcl _ (by first | exact Rb.refl _ | exact Rb.drew _)).mono ?_
      rintro e w2 ⟨rfl, hb2⟩
      have HB2 := Lib.hid (Rb.trans _ _ _ HB.out hb2)
      clear hb2 hcl y0 y1 y2 cB
      cases he : eqS nm s with
      | true =>
        have hp := idx_yes (by rw [Hln.out]; exact hlt) (P1.out he)
        have Hp := Lib.hid hp.2.1
        clear hp he
        go_wp2
        go_ret
        exact ⟨ret_i64 Hp.out.symm, HB2.out⟩
      | false =>
        have hp := Lib.hid (P2.out he)
        clear he
        go_wp2
        go_roundw
        case rel => exact ⟨k + 1, by omega, by go_num, by show posN s (namesT L) = _; rw [hp.out], HB2.out⟩
        case measure => simp [intOf]; omega
    · have hp := idx_no (by rw [Hln.out]; omega) (posN_end (by rw [Hln.out]; omega) ha.out)
      have Hp := Lib.hid hp.2.1
      clear hp ha hb
      go_wp2
      go_ret
      exact ⟨ret_i64 Hp.out.symm, HB.out⟩

set_option maxRecDepth 100000 in
theorem firstT_any (L : List TabD) (v : Value) (B : Nat) (s : ByteArray) (w : World) (hB : w.cell? ⟨B, 0, none⟩ = some (.string s)) (h : Tabs w v L) :
    Calls Tryz.prog 128 #[v, .func (.func 129) #[] #[.pointer (some ⟨B, 0, none⟩)]] w fun e w' => e = .returned (tupIB (idxN s (namesT L)) (dup s (namesT L))) ∧ Rb w w' := by
  have hcl := indexT_any L v B s w hB h
  clear h hB
  go_enter Tryz.func128, Tryz.ntmps128
  go_wp2_with fail
  refine hcl.mono ?_
  rintro e w2 ⟨rfl, hb2⟩
  have HB2 := Lib.hid hb2
  clear hb2 hcl
  cases hd : dup s (namesT L) with
  | true =>
    have Hn : Hid (idxN s (namesT L) = idxI s (namesT L)) := by
      show _ = _
      unfold idxI idxN; rw [if_pos hd, if_pos hd]
    have hge : ¬ idxI s (namesT L) < 0 := by unfold idxI; rw [if_pos hd]; omega
    have Hd := Lib.hid hd
    clear hd
    generalize idxI s (namesT L) = q at *
    go_wp2
    go_ret2
    exact ⟨by rw [Hn.out, Hd.out]; rfl, HB2.out⟩
  | false =>
    have Hn : Hid (idxN s (namesT L) = 0) := by
      show _ = _
      unfold idxN; rw [if_neg (by rw [hd]; decide)]
    have hge : idxI s (namesT L) < 0 := by unfold idxI; rw [if_neg (by rw [hd]; decide)]; decide
    have Hd := Lib.hid hd
    clear hd
    generalize idxI s (namesT L) = q at *
    go_wp2
    go_ret2
    exact ⟨by rw [Hn.out, Hd.out]; rfl, HB2.out⟩

set_option maxRecDepth 100000 in
theorem findT_any (L : List TabD) (v : Value) (s : ByteArray) (w : World) (h : Tabs w v L) :
    Calls Tryz.prog 105 #[v, .string s] w fun e w' => e = .returned (tupIB (idxN s (namesT L)) (dup s (namesT L))) ∧ Rb w w' := by
  have hr : Rb w (w.alloc (.cells #[.string s] 9)) := (Below.refl _ w).alloc (Nat.le_refl _) _
  have hcl := firstT_any L v w.heap.size s (w.alloc (.cells #[.string s] 9)) (by simp) (h.rb hr)
  have hmf : ∀ (fn : Fn) (first cap : Array Value) (w : World), (Instr.makeFunc fn first cap).run Tryz.prog w = .ok (.func fn first cap) w := fun _ _ _ _ => rfl
  have HR := Lib.hid hr
  clear h hr
  go_enter Tryz.func105, Tryz.ntmps105
  go_wp2_with fail
  refine hcl.mono ?_
  rintro e w2 ⟨rfl, hb2⟩
  have HB2 := Lib.hid (Rb.trans _ _ _ HR.out hb2)
  clear hb2 hcl HR
  go_wp2
  go_ret2
  exact ⟨rfl, HB2.out⟩

/-! ### ColD -/
set_option maxRecDepth 100000 in
theorem findC1_any (t : ColD) (B : Nat) (s : ByteArray) (w : World) (hB : w.cell? ⟨B, 0, none⟩ = some (.string s)) :
    Calls Tryz.prog 147 #[colV t, .pointer (some ⟨B, 0, none⟩)] w fun e w' => e = .returned (.bool (eqS t.name s)) ∧ Rb w w' := by
  obtain ⟨nm, kd, mx⟩ := t
  have hr := (Below.refl w.heap.size w).alloc (Nat.le_refl _) (.cells #[.string nm, .int .i64 kd, .int .i64 mx] 88)
  have HR := Lib.hid hr
  have hb := World.block_lt_of_cell? w _ hB
  have hB' : (w.alloc (.cells #[.string nm, .int .i64 kd, .int .i64 mx] 88)).cell? ⟨B, 0, none⟩ = some (.string s) := by rw [World.cell?_alloc_lt _ _ _ hb]; exact hB
  unfold eqS
  clear hr
  go_enter Tryz.func147, Tryz.ntmps147
  go_wp2
  go_ret
  exact ⟨rfl, HR.out⟩

set_option maxRecDepth 100000 in
set_option maxHeartbeats 1000000 in
theorem indexC_any (L : List ColD) (v : Value) (B : Nat) (s : ByteArray) (w : World) (hB : w.cell? ⟨B, 0, none⟩ = some (.string s)) (h : Cols w v L) :
    Calls Tryz.prog 169 #[v, .func (.func 147) #[] #[.pointer (some ⟨B, 0, none⟩)]] w fun e w' => e = .returned (.int .i64 (idxI s (namesC L))) ∧ Rb w w' := by
  have h0 := h
  obtain ⟨ao, cap, rfl, h1, h2, hr⟩ := h
  have HH := Lib.hid h0
  have HR := Lib.hid hr
  have HB0 := Lib.hid hB
  have hln : (namesC L).length = L.length := by simp
  have Hln := Lib.hid hln
  unfold maxLen at h2
  clear hr h0 hB hln 
  go_enter Tryz.func169, Tryz.ntmps169
  go_wp2
  go_loopw [8] (fun i wr => ∃ k : Nat, k ≤ L.length ∧ i = .int .i64 k ∧ Hid (posN s (namesC L) = k + posN s ((namesC L).drop k)) ∧ Rb w wr) (fun i _ => L.length - (intOf i).toNat)
  case atStart => exact ⟨0, Nat.zero_le _, rfl, by show posN s (namesC L) = _; simp, Rb.refl _⟩
  case round =>
    obtain ⟨k, hk, rfl, ha, hb⟩ := hrel
    have HB := Lib.hid hb
    by_cases hlt : k < L.length
    · obtain ⟨b, o, rfl, hc⟩ := HR.out (by omega)
      obtain ⟨z0, z1, z2⟩ := hc k hlt
      have y0 := cell_rb hb z0
      have y1 := cell_rb hb z1
      have y2 := cell_rb hb z2
      have cB := cell_rb hb HB0.out
      obtain ⟨t, ht⟩ : ∃ t, t = L[k] := ⟨_, rfl⟩
      rw [← ht] at y0 y1 y2
      have hnx : t.name = (namesC L)[k]'(by rw [Hln.out]; exact hlt) := by rw [List.getElem_map, ht]
      obtain ⟨p1, p2⟩ := posN_drop (s := s) (by rw [Hln.out]; exact hlt) hnx ha.out
      have P1 := Lib.hid p1
      have P2 := Lib.hid p2
      
      have hcl := fun w' (hw : Rb wr w') => findC1_any t B s w' (cell_rb hw cB) 
      clear z0 z1 z2 hc hnx p1 p2 hb ha ht
      obtain ⟨nm, kd, mx⟩ := t
      go_wp2_with fail
      refine (hcl _ (by first | exact Rb.refl _ | exact Rb.drew _)).mono ?_
      rintro e w2 ⟨rfl, hb2⟩
      have HB2 := Lib.hid (Rb.trans _ _ _ HB.out hb2)
      clear hb2 hcl y0 y1 y2 cB
      cases he : eqS nm s with
      | true =>
        have hp := idx_yes (by rw [Hln.out]; exact hlt) (P1.out he)
        have Hp := Lib.hid hp.2.1
        clear hp he
        go_wp2
        go_ret
        exact ⟨ret_i64 Hp.out.symm, HB2.out⟩
      | false =>
        have hp := Lib.hid (P2.out he)
        clear he
        go_wp2
        go_roundw
        case rel => exact ⟨k + 1, by omega, by go_num, by show posN s (namesC L) = _; rw [hp.out], HB2.out⟩
        case measure => simp [intOf]; omega
    · have hp := idx_no (by rw [Hln.out]; omega) (posN_end (by rw [Hln.out]; omega) ha.out)
      have Hp := Lib.hid hp.2.1
      clear hp ha hb
      go_wp2
      go_ret
      exact ⟨ret_i64 Hp.out.symm, HB.out⟩

set_option maxRecDepth 100000 in
theorem firstC_any (L : List ColD) (v : Value) (B : Nat) (s : ByteArray) (w : World) (hB : w.cell? ⟨B, 0, none⟩ = some (.string s)) (h : Cols w v L) :
    Calls Tryz.prog 146 #[v, .func (.func 147) #[] #[.pointer (some ⟨B, 0, none⟩)]] w fun e w' => e = .returned (tupIB (idxN s (namesC L)) (dup s (namesC L))) ∧ Rb w w' := by
  have hcl := indexC_any L v B s w hB h
  clear h hB
  go_enter Tryz.func146, Tryz.ntmps146
  go_wp2_with fail
  refine hcl.mono ?_
  rintro e w2 ⟨rfl, hb2⟩
  have HB2 := Lib.hid hb2
  clear hb2 hcl
  cases hd : dup s (namesC L) with
  | true =>
    have Hn : Hid (idxN s (namesC L) = idxI s (namesC L)) := by
      show _ = _
      unfold idxI idxN; rw [if_pos hd, if_pos hd]
    have hge : ¬ idxI s (namesC L) < 0 := by unfold idxI; rw [if_pos hd]; omega
    have Hd := Lib.hid hd
    clear hd
    generalize idxI s (namesC L) = q at *
    go_wp2
    go_ret2
    exact ⟨by rw [Hn.out, Hd.out]; rfl, HB2.out⟩
  | false =>
    have Hn : Hid (idxN s (namesC L) = 0) := by
      show _ = _
      unfold idxN; rw [if_neg (by rw [hd]; decide)]
    have hge : idxI s (namesC L) < 0 := by unfold idxI; rw [if_neg (by rw [hd]; decide)]; decide
    have Hd := Lib.hid hd
    clear hd
    generalize idxI s (namesC L) = q at *
    go_wp2
    go_ret2
    exact ⟨by rw [Hn.out, Hd.out]; rfl, HB2.out⟩

set_option maxRecDepth 100000 in
theorem findC_any (L : List ColD) (v : Value) (s : ByteArray) (w : World) (h : Cols w v L) :
    Calls Tryz.prog 133 #[v, .string s] w fun e w' => e = .returned (tupIB (idxN s (namesC L)) (dup s (namesC L))) ∧ Rb w w' := by
  have hr : Rb w (w.alloc (.cells #[.string s] 9)) := (Below.refl _ w).alloc (Nat.le_refl _) _
  have hcl := firstC_any L v w.heap.size s (w.alloc (.cells #[.string s] 9)) (by simp) (h.rb hr)
  have hmf : ∀ (fn : Fn) (first cap : Array Value) (w : World), (Instr.makeFunc fn first cap).run Tryz.prog w = .ok (.func fn first cap) w := fun _ _ _ _ => rfl
  have HR := Lib.hid hr
  clear h hr
  go_enter Tryz.func133, Tryz.ntmps133
  go_wp2_with fail
  refine hcl.mono ?_
  rintro e w2 ⟨rfl, hb2⟩
  have HB2 := Lib.hid (Rb.trans _ _ _ HR.out hb2)
  clear hb2 hcl HR
  go_wp2
  go_ret2
  exact ⟨rfl, HB2.out⟩
end Go.Proofs.YtjfpeklfgnajoaaGreat.L6

namespace Go.Proofs.YtjfpeklfgnajoaaGreat.L6
open Go.ChangeShapes Go.WideShapes Go.ChangeAt Go.RowKit Oct By Reg Val
set_option linter.unusedVariables false
set_option linter.unusedSimpArgs false

end Go.Proofs.YtjfpeklfgnajoaaGreat.L6

namespace Go.Proofs.YtjfpeklfgnajoaaGreat.L6
open Go.ChangeShapes Go.WideShapes Go.ChangeAt Go.RowKit Oct By Reg Val
set_option linter.unusedVariables false
set_option linter.unusedSimpArgs false

def errCols (seen : List ByteArray) : List ColD → Int
  | [] => 0
  | c :: r => if dup c.name seen || !nameB c.name then 20 else if !rightTypeB c.kind c.max then 21 else errCols (seen ++ [c.name]) r
def errTab (seen : List ByteArray) (t : TabD) : Int :=
  if dup t.name seen || !nameB t.name then 20 else if t.rows < 1 ∨ 64 < t.rows then 22 else if t.cols.length = 0 ∨ 8 < t.cols.length then 2 else errCols [] t.cols
def errTabs (seen : List ByteArray) : List TabD → Int × Int
  | [] => (0, 0)
  | t :: r => if errTab seen t ≠ 0 then (errTab seen t, seen.length) else errTabs (seen ++ [t.name]) r
def checkD (L : List TabD) : Int × Int := if 8 < L.length then (2, 0) else errTabs [] L

theorem errCols_drop {L : List ColD} {k : Nat} {c : ColD} {e : Int} (hk : k < L.length) (hc : c = L[k]) (h : e = errCols (namesC (L.take k)) (L.drop k)) :
    ((dup c.name (namesC (L.take k)) || !nameB c.name) = true → e = 20) ∧ ((dup c.name (namesC (L.take k)) || !nameB c.name) = false → rightTypeB c.kind c.max = false → e = 21) ∧
      ((dup c.name (namesC (L.take k)) || !nameB c.name) = false → rightTypeB c.kind c.max = true → e = errCols (namesC (L.take (k + 1))) (L.drop (k + 1))) := by
  rw [List.drop_eq_getElem_cons hk, ← hc, errCols] at h
  refine ⟨fun h1 => ?_, fun h1 h2 => ?_, fun h1 h2 => ?_⟩
  · rw [if_pos h1] at h; exact h
  · rw [if_neg (by rw [h1]; decide), h2] at h; exact h
  · rw [if_neg (by rw [h1]; decide), h2] at h
    rw [List.take_succ_eq_append_getElem hk, namesC, List.map_append, ← hc]
    exact h
theorem errTabs_drop {L : List TabD} {k : Nat} {t : TabD} {e : Int × Int} (hk : k < L.length) (hc : t = L[k]) (h : e = errTabs (namesT (L.take k)) (L.drop k)) :
    (errTab (namesT (L.take k)) t ≠ 0 → e = (errTab (namesT (L.take k)) t, (k : Int))) ∧ (errTab (namesT (L.take k)) t = 0 → e = errTabs (namesT (L.take (k + 1))) (L.drop (k + 1))) := by
  rw [List.drop_eq_getElem_cons hk, ← hc, errTabs] at h
  refine ⟨fun h1 => ?_, fun h1 => ?_⟩
  · rw [if_pos h1] at h
    rw [h]
    congr 1
    simp; omega
  · rw [if_neg (by rw [h1]; decide)] at h
    rw [List.take_succ_eq_append_getElem hk, namesT, List.map_append, ← hc]
    exact h

set_option maxRecDepth 100000 in
set_option maxHeartbeats 2000000 in
theorem checkcols_any (L : List ColD) (v : Value) (w : World) (h : Cols w v L) (hok : ∀ c ∈ L, ColOk c) :
    Calls Tryz.prog 107 #[v] w fun e w' => e = .returned (.int .i64 (errCols [] L)) ∧ Rb w w' := by
  have h0 := h
  obtain ⟨ao, cap, rfl, h1, h2, hr⟩ := h0
  have HH := Lib.hid h
  have HR := Lib.hid hr
  have HOK := Lib.hid hok
  unfold maxLen at h2
  clear hr h hok
  go_enter Tryz.func107, Tryz.ntmps107
  go_wp2
  go_loopw [9] (fun i wr => ∃ k : Nat, k ≤ L.length ∧ i = .int .i64 k ∧ Hid (errCols [] L = errCols (namesC (L.take k)) (L.drop k)) ∧ Rb w wr) (fun i _ => L.length - (intOf i).toNat)
  case atStart => exact ⟨0, Nat.zero_le _, rfl, by show errCols [] L = _; simp, Rb.refl _⟩
  case round =>
    obtain ⟨k, hk, rfl, ha, hb⟩ := hrel
    have HB := Lib.hid hb
    by_cases hlt : k < L.length
    · obtain ⟨b, o, rfl, hc⟩ := HR.out (by omega)
      obtain ⟨z0, z1, z2⟩ := hc k hlt
      have y0 := cell_rb hb z0
      have y1 := cell_rb hb z1
      have y2 := cell_rb hb z2
      obtain ⟨t, ht⟩ : ∃ t, t = L[k] := ⟨_, rfl⟩
      rw [← ht] at y0 y1 y2
      obtain ⟨p1, p2, p3⟩ := errCols_drop hlt ht ha.out
      have P1 := Lib.hid p1
      have P2 := Lib.hid p2
      have P3 := Lib.hid p3
      have HT := Lib.hid (HOK.out t (by rw [ht]; exact List.getElem_mem hlt))
      have HP := Lib.hid (Row3.take HH.out k hk)
      clear z0 z1 z2 hc p1 p2 p3 hb ha ht
      obtain ⟨nm, kd, mx⟩ := t
      dsimp only at y0 y1 y2 P1 P2 P3
      go_wp2_with (refine wpList_store rfl 88 _ _ rfl wr.heap.size 0 _ _ [_, _, _] _ rfl rfl (Blk.new wr 88 [_, _, _]) rfl sizeC (by simp) (oneC _ _ _) ?_)
      intro w1 hb1 hw1
      have hr2 := Rb.trans _ _ _ HB.out hw1.rb_new
      have HB2 := Lib.hid hr2
      obtain ⟨x0, x1, x2⟩ := hb1.c3
      have hcl := fun w' (hw : Rb w1 w') => findC_any _ _ nm w' (Row3.rb HP.out (Rb.trans _ _ _ hr2 hw))
      have c1 : (k : Int) ≤ (cap : Int) := by omega
      clear hb1 hw1 y0 y1 y2 hr2
      go_upto_region 4 with (fail)
      have mixed : Tryz.prog.follows Departure.mixedOrders = true := by kernel_rfl
      generalize idxN nm (namesC (List.take k L)) = q at hcl
      obtain ⟨dd, hdd⟩ : ∃ dd, dd = dup nm (namesC (List.take k L)) := ⟨_, rfl⟩
      rw [← hdd] at hcl P1 P2 P3
      clear hdd
      go_cut [5, 6] from 14 (fun s5 s6 wr => s5 = .int .i64 q ∧ s6 = .bool dd ∧ Rb w1 wr)
      · rename_i J K' hJ hK
        go_region_with (go_at_call 133; refine (hcl _ (by first | exact Rb.refl _ | exact Rb.drew _)).mono ?_; rintro e w2 ⟨rfl, hb2⟩)
        all_goals
          go_wp2_with fail
          go_meet
          exact ⟨rfl, rfl, Rb.trans _ _ _ (Rb.drew w1) hb2⟩
      obtain ⟨rfl, rfl, hr3⟩ := hcut
      generalize wc = w2 at *
      have HB3 := Lib.hid (Rb.trans _ _ _ HB2.out hr3)
      have u0 := cell_rb hr3 x0
      have u1 := cell_rb hr3 x1
      have u2 := cell_rb hr3 x2
      clear hcl x0 x1 x2 hr3
      have nm1 := isname_any nm w2 HT.out.name
      have rt1 := righttype_any kd mx w2
      cases hd : dd with
      | true =>
        have Hp := Lib.hid (P1.out (by rw [hd]; rfl))
        clear nm1 rt1 hd
        go_wp2
        go_ret
        exact ⟨ret_i64 Hp.out.symm, HB3.out⟩
      | false =>
        cases hn : nameB nm with
        | false =>
          have Hp := Lib.hid (P1.out (by rw [hd, hn]; rfl))
          rw [hn] at nm1
          clear rt1 hd hn
          go_wp2_with (go_at_call 106; refine nm1.mono ?_; rintro e w ⟨rfl, rfl⟩)
          go_ret
          exact ⟨ret_i64 Hp.out.symm, HB3.out⟩
        | true =>
          rw [hn] at nm1
          cases ht : rightTypeB kd mx with
          | false =>
            have Hp := Lib.hid (P2.out (by rw [hd, hn]; rfl) ht)
            rw [ht] at rt1
            clear hd hn ht
            go_wp2_with (first | (go_at_call 106; refine nm1.mono ?_; rintro e w ⟨rfl, rfl⟩) | fail)
            refine rt1.mono ?_
            rintro e w3 ⟨rfl, hb3⟩
            have HB4 := Lib.hid (Rb.trans _ _ _ HB3.out hb3)
            clear hb3 u0 u1 u2
            go_wp2
            go_ret
            exact ⟨ret_i64 Hp.out.symm, HB4.out⟩
          | true =>
            have Hp := Lib.hid (P3.out (by rw [hd, hn]; rfl) ht)
            rw [ht] at rt1
            clear hd hn ht
            go_wp2_with (first | (go_at_call 106; refine nm1.mono ?_; rintro e w ⟨rfl, rfl⟩) | fail)
            refine rt1.mono ?_
            rintro e w3 ⟨rfl, hb3⟩
            have HB4 := Lib.hid (Rb.trans _ _ _ HB3.out hb3)
            clear hb3 u0 u1 u2
            go_wp2
            go_roundw
            case rel => exact ⟨k + 1, by omega, by go_num, Hp.out, HB4.out⟩
            case measure => simp [intOf]; omega
    · have Hp : Hid (errCols [] L = 0) := by
        show _ = _
        rw [ha.out, List.drop_eq_nil_of_le (by omega)]; rfl
      clear ha hb
      go_wp2
      go_ret
      exact ⟨ret_i64 Hp.out.symm, HB.out⟩
end Go.Proofs.YtjfpeklfgnajoaaGreat.L6

namespace Go.Proofs.YtjfpeklfgnajoaaGreat.L6
open Go.ChangeShapes Go.WideShapes Go.ChangeAt Go.RowKit Oct By Reg Val
set_option linter.unusedVariables false
set_option linter.unusedSimpArgs false

set_option maxRecDepth 100000 in
set_option maxHeartbeats 2000000 in
theorem checktable_any (L : List TabD) (v : Value) (t : TabD) (w : World) (h : Tabs w v L) (ht : TabIn w t) (hok : TabOk t) :
    Calls Tryz.prog 78 #[v, tabV t] w fun e w' => e = .returned (.int .i64 (errTab (namesT L) t)) ∧ Rb w w' := by
  obtain ⟨nm, rws, cv, cols⟩ := t
  have ht0 := ht
  obtain ⟨co, ccap, rfl, hc1, hc2⟩ := ht0.form
  clear ht0
  unfold maxLen at hc2
  have hr : Rb w (w.alloc (.cells #[.string nm, .int .i64 rws, .slice co cols.length ccap] 69)) := (Below.refl _ w).alloc (Nat.le_refl _) _
  have hfc := findT_any L v nm _ (h.rb hr)
  have HR := Lib.hid hr
  have HCC := Lib.hid (fun w' (hw : Rb w w') => checkcols_any cols _ w' (Row3.rb ht hw) hok.cols)
  have HIN := Lib.hid (fun w' => isname_any nm w' hok.name)
  obtain ⟨E, hE⟩ : ∃ E, E = errTab (namesT L) ⟨nm, rws, .slice co cols.length ccap, cols⟩ := ⟨_, rfl⟩
  rw [← hE]
  unfold errTab at hE
  dsimp only at hE
  obtain ⟨dd, hdd⟩ : ∃ dd, dd = dup nm (namesT L) := ⟨_, rfl⟩
  rw [← hdd] at hfc hE
  generalize idxN nm (namesT L) = q at hfc
  have HE := Lib.hid hE
  have HO := Lib.hid hok
  have r0 : -9223372036854775808 ≤ rws := hok.r0
  have r1 : rws ≤ 9223372036854775807 := hok.r1
  clear hr hE hok ht h hdd hc1
  go_enter Tryz.func78, Tryz.ntmps78
  go_wp2_with fail
  refine hfc.mono ?_
  rintro e w2 ⟨rfl, hb2⟩
  have HB2 := Lib.hid (Rb.trans _ _ _ HR.out hb2)
  have u0 := cell_rb (a := ⟨w.heap.size, 0, none⟩) (v := .string nm) hb2 (by simp)
  have u1 := cell_rb (a := ⟨w.heap.size, 1, none⟩) (v := .int .i64 rws) hb2 (by simp)
  have u2 := cell_rb (a := ⟨w.heap.size, 2, none⟩) (v := .slice co cols.length ccap) hb2 (by simp)
  have hin := HIN.out w2
  have hcc := HCC.out w2 HB2.out
  clear hfc hb2
  cases hd : dd with
  | true =>
    have Hp := Lib.hid (show E = 20 by rw [HE.out, hd]; rfl)
    clear hin hd hcc
    go_wp2
    go_ret
    exact ⟨ret_i64 Hp.out.symm, HB2.out⟩
  | false =>
    cases hn : nameB nm with
    | false =>
      have Hp := Lib.hid (show E = 20 by rw [HE.out, hd, hn]; rfl)
      rw [hn] at hin
      clear hd hn hcc
      go_wp2_with (go_at_call 106; refine hin.mono ?_; rintro e w ⟨rfl, rfl⟩)
      go_ret
      exact ⟨ret_i64 Hp.out.symm, HB2.out⟩
    | true =>
      rw [hn] at hin
      by_cases hrw : rws < 1 ∨ 64 < rws
      · have Hp := Lib.hid (show E = 22 by rw [HE.out, hd, hn, if_neg (by decide), if_pos hrw])
        clear hd hn hcc
        by_cases h1 : rws < 1
        · clear hrw
          go_wp2_with (go_at_call 106; refine hin.mono ?_; rintro e w ⟨rfl, rfl⟩)
          go_ret
          exact ⟨ret_i64 Hp.out.symm, HB2.out⟩
        · have h2 : 64 < rws := by omega
          clear hrw
          go_wp2_with (go_at_call 106; refine hin.mono ?_; rintro e w ⟨rfl, rfl⟩)
          go_ret
          exact ⟨ret_i64 Hp.out.symm, HB2.out⟩
      · by_cases hcl : cols.length = 0 ∨ 8 < cols.length
        · have Hp := Lib.hid (show E = 2 by rw [HE.out, hd, hn, if_neg (by decide), if_neg hrw, if_pos hcl])
          have h1 : ¬ rws < 1 := by omega
          have h2 : ¬ 64 < rws := by omega
          clear hd hn hcc hrw
          by_cases h3 : cols.length = 0
          · have h4 : ((cols.length : Int) == 0) = true := by rw [h3]; rfl
            rw [h3] at u2 h4
            clear hcl h3
            go_wp2_with (go_at_call 106; refine hin.mono ?_; rintro e w ⟨rfl, rfl⟩)
            go_ret
            exact ⟨ret_i64 Hp.out.symm, HB2.out⟩
          · have h4 : ((cols.length : Int) == 0) = false := by rw [beq_eq_false_iff_ne]; omega
            have h5 : 8 < cols.length := by omega
            clear hcl h3
            go_wp2_with (go_at_call 106; refine hin.mono ?_; rintro e w ⟨rfl, rfl⟩)
            go_ret
            exact ⟨ret_i64 Hp.out.symm, HB2.out⟩
        · have Hp := Lib.hid (show E = errCols [] cols by rw [HE.out, hd, hn, if_neg (by decide), if_neg hrw, if_neg hcl])
          have h1 : ¬ rws < 1 := by omega
          have h2 : ¬ 64 < rws := by omega
          have h4 : ((cols.length : Int) == 0) = false := by rw [beq_eq_false_iff_ne]; omega
          have h5 : ¬ 8 < cols.length := by omega
          clear hd hn hrw hcl
          generalize errCols [] cols = ec at *
          go_wp2_with (go_at_call 106; refine hin.mono ?_; rintro e w ⟨rfl, rfl⟩)
          refine hcc.mono ?_
          rintro e w3 ⟨rfl, hb3⟩
          have HB3 := Lib.hid (Rb.trans _ _ _ HB2.out hb3)
          clear hb3 u0 u1 u2
          go_wp2
          go_ret
          exact ⟨ret_i64 Hp.out.symm, HB3.out⟩
end Go.Proofs.YtjfpeklfgnajoaaGreat.L6

namespace Go.Proofs.YtjfpeklfgnajoaaGreat.L6
open Go.ChangeShapes Go.WideShapes Go.ChangeAt Go.RowKit Oct By Reg Val
set_option linter.unusedVariables false
set_option linter.unusedSimpArgs false

abbrev tupII (p : Int × Int) : Value := .tuple #[.int .i64 p.1, .int .i64 p.2]
set_option maxRecDepth 100000 in
set_option maxHeartbeats 2000000 in
theorem check_any (L : List TabD) (v : Value) (w : World) (h : Tabs w v L) (hok : ∀ t ∈ L, TabOk t) :
    Calls Tryz.prog 39 #[v] w fun e w' => e = .returned (tupII (checkD L)) ∧ Rb w w' := by
  have h0 := h
  obtain ⟨⟨ao, cap, rfl, h1, h2, hr⟩, hin⟩ := h0
  unfold maxLen at h2
  by_cases h8 : 8 < L.length
  · have Hp := Lib.hid (show checkD L = (2, 0) by unfold checkD; rw [if_pos h8])
    clear hr h hok hin
    go_enter Tryz.func39, Tryz.ntmps39
    go_wp2
    go_ret2
    exact ⟨by rw [Hp.out]; rfl, Rb.refl _⟩
  obtain ⟨E, hE⟩ : ∃ E, E = checkD L := ⟨_, rfl⟩
  rw [← hE]
  unfold checkD at hE
  rw [if_neg h8] at hE
  have HE := Lib.hid hE
  have HH := Lib.hid h
  have HIN := Lib.hid hin
  have HR := Lib.hid hr
  have HOK := Lib.hid hok
  clear hr h hok hin hE
  go_enter Tryz.func39, Tryz.ntmps39
  go_wp2
  go_loopw [12] (fun i wr => ∃ k : Nat, k ≤ L.length ∧ i = .int .i64 k ∧ Hid (E = errTabs (namesT (L.take k)) (L.drop k)) ∧ Rb w wr) (fun i _ => L.length - (intOf i).toNat)
  case atStart => exact ⟨0, Nat.zero_le _, rfl, by show E = _; rw [HE.out]; simp, Rb.refl _⟩
  case round =>
    obtain ⟨k, hk, rfl, ha, hb⟩ := hrel
    have HB := Lib.hid hb
    by_cases hlt : k < L.length
    · obtain ⟨b, o, rfl, hc⟩ := HR.out (by omega)
      obtain ⟨z0, z1, z2⟩ := hc k hlt
      have y0 := cell_rb hb z0
      have y1 := cell_rb hb z1
      have y2 := cell_rb hb z2
      obtain ⟨t, ht⟩ : ∃ t, t = L[k] := ⟨_, rfl⟩
      rw [← ht] at y0 y1 y2
      obtain ⟨p1, p2⟩ := errTabs_drop hlt ht ha.out
      have P1 := Lib.hid p1
      have P2 := Lib.hid p2
      have HP : Hid (∀ w', Rb w w' → Tabs w' (.slice (some ⟨b, o, none⟩) k cap) (L.take k)) := fun w' hw =>
        Tabs.rb ⟨Row3.take HH.out.1 k hk, fun t ht => HH.out.2 t (List.mem_of_mem_take ht)⟩ hw
      have HT := Lib.hid (HOK.out t (by rw [ht]; exact List.getElem_mem hlt))
      have htin : TabIn w t := by rw [ht]; exact HH.out.2 _ (List.getElem_mem hlt)
      have HCT := Lib.hid (fun w' (hw : Rb w w') => checktable_any _ _ t w' (HP.out w' hw) (htin.rb hw) HT.out)
      generalize errTab (namesT (L.take k)) t = ec at *
      clear z0 z1 z2 hc p1 p2 hb ha ht
      obtain ⟨nm, rws, cv, cols⟩ := t
      obtain ⟨co, ccap, rfl, hcc⟩ := htin.form
      dsimp only at y0 y1 y2
      clear hcc htin
      go_wp2_with (refine wpList_store rfl 69 _ _ rfl wr.heap.size 0 _ _ [_, _, _] _ rfl rfl (Blk.new wr 69 [_, _, _]) rfl sizeT (by simp) (oneT _ _ _ _ _) ?_)
      intro w1 hb1 hw1
      have hr2 := Rb.trans _ _ _ HB.out hw1.rb_new
      have HB2 := Lib.hid hr2
      obtain ⟨x0, x1, x2⟩ := hb1.c3
      have c1 : (k : Int) ≤ (cap : Int) := by omega
      have hcl := fun w' (hw : Rb w1 w') => HCT.out w' (Rb.trans _ _ _ hr2 hw)
      clear hb1 hw1 y0 y1 y2 hr2
      go_upto_region 6 with (fail)
      have mixed : Tryz.prog.follows Departure.mixedOrders = true := by kernel_rfl
      go_cut [6] from 17 (fun s6 wr => s6 = .int .i64 ec ∧ Rb w1 wr)
      · rename_i J K' hJ hK
        go_region_with (go_at_call 78; refine (hcl _ (by first | exact Rb.refl _ | exact Rb.drew _)).mono ?_; rintro e w2 ⟨rfl, hb2⟩)
        all_goals
          go_wp2_with fail
          go_meet
          exact ⟨rfl, Rb.trans _ _ _ (Rb.drew w1) hb2⟩
      obtain ⟨rfl, hr3⟩ := hcut
      generalize wc = w2 at *
      have HB3 := Lib.hid (Rb.trans _ _ _ HB2.out hr3)
      clear hcl x0 x1 x2 hr3
      by_cases he : ec = 0
      · have Hp := Lib.hid (P2.out he)
        have hb0 : (ec == 0) = true := by rw [he]; rfl
        subst he
        go_wp2
        go_roundw
        case rel => exact ⟨k + 1, by omega, by go_num, Hp.out, HB3.out⟩
        case measure => simp [intOf]; omega
      · have Hp := Lib.hid (P1.out he)
        have hb0 : (ec == 0) = false := by rw [beq_eq_false_iff_ne]; exact he
        go_wp2
        go_ret2
        exact ⟨by rw [Hp.out]; rfl, HB3.out⟩
    · have Hp : Hid (E = (0, 0)) := by
        show E = _
        rw [ha.out, List.drop_eq_nil_of_le (by omega)]; rfl
      clear ha hb
      go_wp2
      go_ret2
      exact ⟨by rw [Hp.out]; rfl, HB.out⟩
end Go.Proofs.YtjfpeklfgnajoaaGreat.L6

namespace Go.Proofs.YtjfpeklfgnajoaaGreat.L6
open Go.ChangeShapes Go.WideShapes Go.ChangeAt Go.RowKit Oct By Reg Val
set_option linter.unusedVariables false
set_option linter.unusedSimpArgs false

theorem any_succ {l : List ByteArray} {s x : ByteArray} {j : Nat} {r : Bool} (hj : j < l.length) (hx : x = l[j]) (h : r = (l.take j).any (fun y => eqS y s)) : (r || eqS x s) = (l.take (j + 1)).any (fun y => eqS y s) := by
  rw [List.take_succ_eq_append_getElem hj, List.any_append, ← h, ← hx]
  simp
theorem dup_of {α : Type} {f : α → ByteArray} {L : List α} {s : ByteArray} {k : Nat} {r : Bool} (h : r = ((L.map f).take k).any (fun y => eqS y s)) : r = dup s ((L.take k).map f) := by
  rw [h, dup_any, List.map_take]

set_option maxRecDepth 100000 in
set_option maxHeartbeats 8000000 in
theorem refcheck_any (L : List TabD) (v : Value) (w : World) (h : Tabs w v L) (hok : ∀ t ∈ L, TabOk t) :
    Calls Tryz.prog 41 #[v] w fun e w' => e = .returned (tupII (checkD L)) ∧ Rb w w' := by
  have h0 := h
  obtain ⟨⟨ao, cap, rfl, h1, h2, hr⟩, hin⟩ := h0
  unfold maxLen at h2
  by_cases h8 : 8 < L.length
  · have Hp := Lib.hid (show checkD L = (2, 0) by unfold checkD; rw [if_pos h8])
    clear hr h hok hin
    go_enter Tryz.func41, Tryz.ntmps41
    go_wp2
    go_ret2
    exact ⟨by rw [Hp.out]; rfl, Rb.refl _⟩
  obtain ⟨E, hE⟩ : ∃ E, E = checkD L := ⟨_, rfl⟩
  rw [← hE]
  unfold checkD at hE
  rw [if_neg h8] at hE
  have HE := Lib.hid hE
  have HH := Lib.hid h
  have HR := Lib.hid hr
  have HOK := Lib.hid hok
  have hln : (namesT L).length = L.length := by simp
  have Hln := Lib.hid hln
  clear hr h hok hin hE hln
  go_enter Tryz.func41, Tryz.ntmps41
  go_wp2
  go_loopw [19] (fun i wr => ∃ k : Nat, k ≤ L.length ∧ i = .int .i64 k ∧ Hid (E = errTabs (namesT (L.take k)) (L.drop k)) ∧ Rb w wr) (fun i _ => L.length - (intOf i).toNat)
  case atStart => exact ⟨0, Nat.zero_le _, rfl, by show E = _; rw [HE.out]; simp, Rb.refl _⟩
  case round =>
    obtain ⟨k, hk, rfl, ha, hb⟩ := hrel
    have HB := Lib.hid hb
    by_cases hlt : k < L.length
    · obtain ⟨b, o, rfl, hc⟩ := HR.out (by omega)
      obtain ⟨z0, z1, z2⟩ := hc k hlt
      have y0 := cell_rb hb z0
      have y1 := cell_rb hb z1
      have y2 := cell_rb hb z2
      obtain ⟨t, ht⟩ : ∃ t, t = L[k] := ⟨_, rfl⟩
      rw [← ht] at y0 y1 y2
      obtain ⟨p1, p2⟩ := errTabs_drop hlt ht ha.out
      have P1 := Lib.hid p1
      have P2 := Lib.hid p2
      have HC := Lib.hid hc
      have HT := Lib.hid (HOK.out t (by rw [ht]; exact List.getElem_mem hlt))
      have htin : TabIn w t := by rw [ht]; exact HH.out.2 _ (List.getElem_mem hlt)
      clear z0 z1 z2 hc p1 p2 hb ha ht
      obtain ⟨nm, rws, cv, cols⟩ := t
      obtain ⟨co, ccap, rfl, hcc1, hcc2⟩ := htin.form
      dsimp only at y0 y1 y2
      have HTI := Lib.hid htin
      unfold maxLen at hcc2
      clear htin
      obtain ⟨ec, hec⟩ : ∃ ec, ec = errTab (namesT (L.take k)) ⟨nm, rws, .slice co cols.length ccap, cols⟩ := ⟨_, rfl⟩
      rw [← hec] at P1 P2
      unfold errTab at hec
      dsimp only at hec
      have HEC := Lib.hid hec
      have r0 : -9223372036854775808 ≤ rws := HT.out.r0
      have r1 : rws ≤ 9223372036854775807 := HT.out.r1
      clear hec
      go_wp2_with (refine wpList_store rfl 69 _ _ rfl wr.heap.size 0 _ _ [_, _, _] _ rfl rfl (Blk.new wr 69 [_, _, _]) rfl sizeT (by simp) (oneT _ _ _ _ _) ?_)
      intro w1 hb1 hw1
      have hr2 := Rb.trans _ _ _ HB.out hw1.rb_new
      have HB2 := Lib.hid hr2
      obtain ⟨x0, x1, x2⟩ := hb1.c3
      have X0 := Lib.hid x0
      have X1 := Lib.hid x1
      have X2 := Lib.hid x2
      generalize wr.heap.size = TB at *
      have c1 : (k : Int) ≤ (cap : Int) := by omega
      clear hb1 hw1 y0 y1 y2 hr2 x1 x2
      go_wp2
      go_loopw [6, 28] (fun p q w3 => ∃ j : Nat, j ≤ k ∧ q = .int .i64 j ∧ (∃ r, p = .bool r ∧ Hid (r = ((namesT L).take j).any (fun y => eqS y nm))) ∧ Rb w1 w3) (fun _ q _ => k - (intOf q).toNat)
      case atStart => exact ⟨0, Nat.zero_le _, rfl, ⟨false, rfl, rfl⟩, Rb.refl _⟩
      case round =>
        obtain ⟨j, hj, rfl, ⟨r, rfl, hjr⟩, hb3⟩ := hrel
        have HB3 := Lib.hid hb3
        have u0 := cell_rb hb3 X0.out
        clear x0
        by_cases hjk : j < k
        · have hjl : j < L.length := by omega
          obtain ⟨z0, z1, z2⟩ := HC.out j hjl
          have y0 := cell_rb (Rb.trans _ _ _ HB2.out hb3) z0
          have y1 := cell_rb (Rb.trans _ _ _ HB2.out hb3) z1
          have y2 := cell_rb (Rb.trans _ _ _ HB2.out hb3) z2
          obtain ⟨t, ht⟩ : ∃ t, t = L[j] := ⟨_, rfl⟩
          rw [← ht] at y0 y1 y2
          have htin : TabIn w t := by rw [ht]; exact HH.out.2 _ (List.getElem_mem hjl)
          have hsu := Lib.hid (any_succ (s := nm) (x := t.name) (by rw [Hln.out]; exact hjl) (by rw [List.getElem_map, ht]) hjr.out)
          clear z0 z1 z2 hb3 ht
          obtain ⟨nm2, rws2, cv2, cols2⟩ := t
          obtain ⟨co2, ccap2, rfl, hcc3, hcc4⟩ := htin.form
          dsimp only at y0 y1 y2 hsu
          clear htin hcc3 hcc4
          clear u0
          have u0 := cell_rb HB3.out X0.out
          go_wp2_with (refine wpList_store rfl 69 _ _ rfl wr.heap.size 0 _ _ [_, _, _] _ rfl rfl (Blk.new wr 69 [_, _, _]) rfl sizeT (by simp) (oneT _ _ _ _ _) ?_)
          intro w4 hb4 hw4
          have HB4 := Lib.hid (Rb.trans _ _ _ HB3.out hw4.rb_new)
          obtain ⟨q0, q1, q2⟩ := hb4.c3
          have s0 := cell_rb hw4.rb_new u0
          clear hb4 hw4 y0 y1 y2 q1 q2 u0
          cases r with
          | true =>
            go_wp2
            go_roundw
            case rel => exact ⟨j + 1, by omega, by go_num, ⟨true, rfl, by show true = _; rw [← hsu.out]; rfl⟩, HB4.out⟩
            case measure => simp [intOf]; omega
          | false =>
            obtain ⟨q, hq⟩ : ∃ q, q = eqS nm2 nm := ⟨_, rfl⟩
            rw [← hq] at hsu
            have hq' : (nm2.toList == nm.toList) = q := by rw [hq]; rfl
            clear hq
            go_wp2
            go_roundw
            case rel => exact ⟨j + 1, by omega, by go_num, ⟨q, rfl, by show q = _; rw [← hsu.out]; rfl⟩, HB4.out⟩
            case measure => simp [intOf]; omega
        · obtain rfl : j = k := by omega
          have hd := dup_of (f := fun t : TabD => t.name) hjr.out
          have HD := Lib.hid hd
          have HB4 := Lib.hid (Rb.trans _ _ _ HB2.out hb3)
          have hnm := refname_any nm wr HT.out.name
          have u1 := Lib.hid (cell_rb hb3 X1.out)
          have u2 := Lib.hid (cell_rb hb3 X2.out)
          have U0 := Lib.hid u0
          clear hb3 hjr hd HB3
          go_wp2_with fail
          refine hnm.mono ?_
          rintro e w2 ⟨rfl, hb4⟩
          have HB5 := Lib.hid (Rb.trans _ _ _ HB4.out hb4)
          have v0 := cell_rb hb4 U0.out
          have v1 := cell_rb hb4 u1.out
          have v2 := cell_rb hb4 u2.out
          clear hb4 hnm u0 u1 u2 U0 HB4 HB2 X0 X1 X2
          cases hn : nameB nm with
          | false =>
            have hp : ec = 20 := by rw [HEC.out, hn]; simp
            have Hp := Lib.hid (P1.out (by omega))
            rw [hp] at Hp
            clear hp hn
            go_wp2
            go_ret2
            exact ⟨by rw [Hp.out]; rfl, HB5.out⟩
          | true =>
            cases r with
            | true =>
              have hp : ec = 20 := by rw [HEC.out, show dup nm (namesT (List.take j L)) = true from HD.out.symm]; rfl
              have Hp := Lib.hid (P1.out (by omega))
              rw [hp] at Hp
              clear hp hn
              go_wp2
              go_ret2
              exact ⟨by rw [Hp.out]; rfl, HB5.out⟩
            | false =>
              have hec2 := HEC.out
              rw [show dup nm (namesT (List.take j L)) = false from HD.out.symm, hn, if_neg (by decide)] at hec2
              clear hn
              by_cases hrw : rws < 1 ∨ 64 < rws
              · rw [if_pos hrw] at hec2
                have Hp := Lib.hid (P1.out (by omega))
                rw [hec2] at Hp
                clear hec2
                by_cases h1 : rws < 1
                · clear hrw
                  go_wp2
                  go_ret2
                  exact ⟨by rw [Hp.out]; rfl, HB5.out⟩
                · have h2 : 64 < rws := by omega
                  clear hrw
                  go_wp2
                  go_ret2
                  exact ⟨by rw [Hp.out]; rfl, HB5.out⟩
              · rw [if_neg hrw] at hec2
                have e1 : ¬ rws < 1 := by omega
                have e2 : ¬ 64 < rws := by omega
                clear hrw
                by_cases hcl : cols.length = 0 ∨ 8 < cols.length
                · rw [if_pos hcl] at hec2
                  have Hp := Lib.hid (P1.out (by omega))
                  rw [hec2] at Hp
                  clear hec2
                  by_cases h3 : cols.length = 0
                  · rw [h3] at v2
                    clear hcl h3
                    go_wp2
                    go_ret2
                    exact ⟨by rw [Hp.out]; rfl, HB5.out⟩
                  · have h5 : 8 < cols.length := by omega
                    have h6 : ¬ (cols.length : Int) < 1 := by omega
                    clear hcl h3
                    go_wp2
                    go_ret2
                    exact ⟨by rw [Hp.out]; rfl, HB5.out⟩
                · rw [if_neg hcl] at hec2
                  have h5 : ¬ 8 < cols.length := by omega
                  have h6 : ¬ (cols.length : Int) < 1 := by omega
                  have HE2 := Lib.hid hec2
                  have HCO := Lib.hid HT.out.cols
                  have hti := HTI.out
                  obtain ⟨co', ccap', ee, _, _, hcr⟩ := hti
                  simp only [Value.slice.injEq] at ee
                  obtain ⟨rfl, _, rfl⟩ := ee
                  obtain ⟨cb, coff, rfl, hcells⟩ := hcr (show 0 < cols.length by omega)
                  dsimp only at hcells
                  have HCC := Lib.hid hcells
                  have hlc : (namesC cols).length = cols.length := by simp
                  have Hlc := Lib.hid hlc
                  have V0 := Lib.hid v0
                  have V2 := Lib.hid v2
                  clear hec2 hcl hcells hlc HTI HT HEC HD
                  go_wp2
                  clear v2 v1 v0
                  go_loopw [72] (fun i w5 => ∃ m : Nat, m ≤ cols.length ∧ i = .int .i64 m ∧ Hid (errCols [] cols = errCols (namesC (cols.take m)) (cols.drop m)) ∧ Rb w2 w5) (fun i _ => cols.length - (intOf i).toNat)
                  case atStart => exact ⟨0, Nat.zero_le _, rfl, by show errCols [] cols = _; simp, Rb.refl _⟩
                  case round =>
                    obtain ⟨m, hm, rfl, hma, hmb⟩ := hrel
                    have HMB := Lib.hid hmb
                    have v2 := cell_rb hmb V2.out
                    by_cases hml : m < cols.length
                    · obtain ⟨z0, z1, z2⟩ := HCC.out m hml
                      have hwr := Rb.trans _ _ _ HB5.out hmb
                      have y0 := cell_rb hwr z0
                      have y1 := cell_rb hwr z1
                      have y2 := cell_rb hwr z2
                      obtain ⟨c, hc⟩ : ∃ c, c = cols[m] := ⟨_, rfl⟩
                      rw [← hc] at y0 y1 y2
                      obtain ⟨p1, p2, p3⟩ := errCols_drop hml hc hma.out
                      have Q1 := Lib.hid p1
                      have Q2 := Lib.hid p2
                      have Q3 := Lib.hid p3
                      have HCK := Lib.hid (HCO.out c (by rw [hc]; exact List.getElem_mem hml))
                      clear z0 z1 z2 p1 p2 p3 hma hc hmb
                      obtain ⟨cn, ck, cm⟩ := c
                      dsimp only at y0 y1 y2 Q1 Q2 Q3
                      go_wp2_with (refine wpList_store rfl 88 _ _ rfl wr.heap.size 0 _ _ [_, _, _] _ rfl rfl (Blk.new wr 88 [_, _, _]) rfl sizeC (by simp) (oneC _ _ _) ?_)
                      intro w6 hb6 hw6
                      have hr6 := Rb.trans _ _ _ HMB.out hw6.rb_new
                      have HB6 := Lib.hid hr6
                      obtain ⟨x0, x1, x2⟩ := hb6.c3
                      have X0 := Lib.hid x0
                      have X1 := Lib.hid x1
                      have X2 := Lib.hid x2
                      have t2 := cell_rb hw6.rb_new v2
                      generalize wr.heap.size = CB at *
                      have c2 : (m : Int) ≤ (ccap : Int) := by omega
                      clear hb6 hw6 y0 y1 y2 hr6 x1 x2 hwr v2 x0
                      go_wp2
                      clear t2
                      go_loopw [11, 82] (fun p q w7 => ∃ i : Nat, i ≤ m ∧ q = .int .i64 i ∧ (∃ r, p = .bool r ∧ Hid (r = ((namesC cols).take i).any (fun y => eqS y cn))) ∧ Rb w6 w7) (fun _ q _ => m - (intOf q).toNat)
                      case atStart => exact ⟨0, Nat.zero_le _, rfl, ⟨false, rfl, rfl⟩, Rb.refl _⟩
                      case round =>
                        obtain ⟨i, hi, rfl, ⟨r, rfl, hir⟩, hb7⟩ := hrel
                        have HB7 := Lib.hid hb7
                        have u0 := cell_rb hb7 X0.out
                        by_cases him : i < m
                        · have hil : i < cols.length := by omega
                          obtain ⟨z0, z1, z2⟩ := HCC.out i hil
                          have hw7 := Rb.trans _ _ _ HB5.out (Rb.trans _ _ _ HB6.out hb7)
                          have y0 := cell_rb hw7 z0
                          have y1 := cell_rb hw7 z1
                          have y2 := cell_rb hw7 z2
                          obtain ⟨d, hd⟩ : ∃ d, d = cols[i] := ⟨_, rfl⟩
                          rw [← hd] at y0 y1 y2
                          have hsu := Lib.hid (any_succ (s := cn) (x := d.name) (by rw [Hlc.out]; exact hil) (by rw [List.getElem_map, hd]) hir.out)
                          clear z0 z1 z2 hb7 hd hw7
                          obtain ⟨dn, dk, dm⟩ := d
                          dsimp only at y0 y1 y2 hsu
                          go_wp2_with (refine wpList_store rfl 88 _ _ rfl wr.heap.size 0 _ _ [_, _, _] _ rfl rfl (Blk.new wr 88 [_, _, _]) rfl sizeC (by simp) (oneC _ _ _) ?_)
                          intro w8 hb8 hw8
                          have HB8 := Lib.hid (Rb.trans _ _ _ HB7.out hw8.rb_new)
                          obtain ⟨q0, q1, q2⟩ := hb8.c3
                          have s0 := cell_rb hw8.rb_new u0
                          clear hb8 hw8 y0 y1 y2 q1 q2 u0
                          cases r with
                          | true =>
                            go_wp2
                            go_roundw
                            case rel => exact ⟨i + 1, by omega, by go_num, ⟨true, rfl, by show true = _; rw [← hsu.out]; rfl⟩, HB8.out⟩
                            case measure => simp [intOf]; omega
                          | false =>
                            obtain ⟨q, hq⟩ : ∃ q, q = eqS dn cn := ⟨_, rfl⟩
                            rw [← hq] at hsu
                            have hq' : (dn.toList == cn.toList) = q := by rw [hq]; rfl
                            clear hq
                            go_wp2
                            go_roundw
                            case rel => exact ⟨i + 1, by omega, by go_num, ⟨q, rfl, by show q = _; rw [← hsu.out]; rfl⟩, HB8.out⟩
                            case measure => simp [intOf]; omega
                        · obtain rfl : i = m := by omega
                          have hd := dup_of (f := fun t : ColD => t.name) hir.out
                          have HD := Lib.hid hd
                          have HB8 := Lib.hid (Rb.trans _ _ _ HB6.out hb7)
                          have hnm := refname_any cn wr HCK.out.name
                          have u1 := Lib.hid (cell_rb hb7 X1.out)
                          have u2 := Lib.hid (cell_rb hb7 X2.out)
                          clear hb7 hir hd HB7
                          go_wp2_with fail
                          refine hnm.mono ?_
                          rintro e w9 ⟨rfl, hb9⟩
                          have HB9 := Lib.hid (Rb.trans _ _ _ HB8.out hb9)
                          have v0 := cell_rb hb9 u0
                          have v1 := cell_rb hb9 u1.out
                          have v2 := cell_rb hb9 u2.out
                          clear hb9 hnm u0 u1 u2 HB8 HB6 X0 X1 X2
                          cases hn : nameB cn with
                          | false =>
                            have hp : errCols [] cols = 20 := Q1.out (by rw [hn]; simp)
                            have hp2 : ec = 20 := by rw [HE2.out, hp]
                            have Hp := Lib.hid (P1.out (by omega))
                            rw [hp2] at Hp
                            clear hp hn hp2
                            go_wp2
                            go_ret2
                            exact ⟨by rw [Hp.out]; rfl, Rb.trans _ _ _ HB5.out HB9.out⟩
                          | true =>
                            cases r with
                            | true =>
                              have hp : errCols [] cols = 20 := Q1.out (by rw [show dup cn (namesC (List.take i cols)) = true from HD.out.symm]; rfl)
                              have hp2 : ec = 20 := by rw [HE2.out, hp]
                              have Hp := Lib.hid (P1.out (by omega))
                              rw [hp2] at Hp
                              clear hp hn hp2
                              go_wp2
                              go_ret2
                              exact ⟨by rw [Hp.out]; rfl, Rb.trans _ _ _ HB5.out HB9.out⟩
                            | false =>
                              have hgo : (dup cn (namesC (List.take i cols)) || !nameB cn) = false := by rw [show dup cn (namesC (List.take i cols)) = false from HD.out.symm, hn]; rfl
                              have HGO := Lib.hid hgo
                              have hrt := refrighttype_any ck cm w9
                              clear hgo hn
                              go_wp2_with fail
                              refine hrt.mono ?_
                              rintro e w10 ⟨rfl, hb10⟩
                              have HB10 := Lib.hid (Rb.trans _ _ _ HB9.out hb10)
                              clear hb10 hrt v0 v1 v2
                              cases hrt : rightTypeB ck cm with
                              | false =>
                                have hp : errCols [] cols = 21 := Q2.out HGO.out hrt
                                have hp2 : ec = 21 := by rw [HE2.out, hp]
                                have Hp := Lib.hid (P1.out (by omega))
                                rw [hp2] at Hp
                                clear hp hrt hp2
                                go_wp2
                                go_ret2
                                exact ⟨by rw [Hp.out]; rfl, Rb.trans _ _ _ HB5.out HB10.out⟩
                              | true =>
                                have Hp := Lib.hid (Q3.out HGO.out hrt)
                                clear hrt
                                go_wp2
                                go_roundw
                                case rel => exact ⟨i + 1, by omega, by go_num, Hp.out, HB10.out⟩
                                case measure => simp [intOf]; omega
                    · have hp : errCols [] cols = 0 := by rw [hma.out, List.drop_eq_nil_of_le (by omega)]; rfl
                      have Hp := Lib.hid (P2.out (by rw [HE2.out, hp]))
                      have HW := Lib.hid (Rb.trans _ _ _ HB5.out hmb)
                      clear hp hma hmb v2
                      go_wp2
                      go_roundw
                      case rel => exact ⟨j + 1, by omega, by go_num, Hp.out, HW.out⟩
                      case measure => simp [intOf]; omega
    · have Hp : Hid (E = (0, 0)) := by
        show E = _
        rw [ha.out, List.drop_eq_nil_of_le (by omega)]; rfl
      clear ha hb
      go_wp2
      go_ret2
      exact ⟨by rw [Hp.out]; rfl, HB.out⟩
end Go.Proofs.YtjfpeklfgnajoaaGreat.L6
