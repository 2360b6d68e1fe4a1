/-
  Layer 6: words: columns, values, tables as plain data; slices of structs of three cells; names.
-/
import Derived.Test.YtolfeellcdoopaaDoorVC
import Derived.Test.YtolfeellcdoopaaDoorL1
import Derived.Lib.Hide
import Derived.LoopTactic
import Derived.Laws.CopyOwn
import Derived.Laws.Tables
import Derived.Deep.OwnRows
import Derived.Deep.Onto
import Derived.ArgAppend
import Derived.Laws.AppendOwnNone
namespace Go.Proofs.YtolfeellcdoopaaDoor.L6
open Go.ChangeShapes Go.WideShapes Go.ChangeAt Go.RowKit Oct By Reg Val
set_option linter.unusedVariables false

structure ColD where
  name : ByteArray
  kind : Int
  max : Int
structure ValD where
  k : Int
  n : Int
  s : ByteArray
structure TabD where
  name : ByteArray
  rows : Int
  cv : Value
  cols : List ColD

abbrev colV (c : ColD) : Value := .agg #[.string c.name, .int .i64 c.kind, .int .i64 c.max]
abbrev valV3 (v : ValD) : Value := .agg #[.int .i64 v.k, .int .i64 v.n, .string v.s]
abbrev tabV (t : TabD) : Value := .agg #[.string t.name, .int .i64 t.rows, t.cv]
abbrev cE (c : ColD) : Value × Value × Value := (.string c.name, .int .i64 c.kind, .int .i64 c.max)
abbrev vE (v : ValD) : Value × Value × Value := (.int .i64 v.k, .int .i64 v.n, .string v.s)
abbrev tE (t : TabD) : Value × Value × Value := (.string t.name, .int .i64 t.rows, t.cv)

/-- a slice of things of three cells each, read -/
def Row3 {α : Type} (enc : α → Value × Value × Value) (w : World) (v : Value) (L : List α) : Prop :=
  ∃ ao cap, v = .slice ao L.length cap ∧ L.length ≤ cap ∧ cap ≤ maxLen ∧ (0 < L.length → ∃ b o, ao = some ⟨b, o, none⟩ ∧ ∀ k (hk : k < L.length),
    w.cell? ⟨b, o + k * 3, none⟩ = some (enc L[k]).1 ∧ w.cell? ⟨b, o + k * 3 + 1, none⟩ = some (enc L[k]).2.1 ∧ w.cell? ⟨b, o + k * 3 + 2, none⟩ = some (enc L[k]).2.2)

theorem Row3.rb {α : Type} {enc : α → Value × Value × Value} {w w' : World} {v : Value} {L : List α} (h : Row3 enc w v L) (hb : Rb w w') : Row3 enc w' v L := by
  obtain ⟨ao, cap, e, h2, h3, h4⟩ := h
  refine ⟨ao, cap, e, h2, h3, fun h0 => ?_⟩
  obtain ⟨b, o, e2, hc⟩ := h4 h0
  exact ⟨b, o, e2, fun k hk => ⟨cell_rb hb (hc k hk).1, cell_rb hb (hc k hk).2.1, cell_rb hb (hc k hk).2.2⟩⟩
theorem Row3.form {α : Type} {enc : α → Value × Value × Value} {w : World} {v : Value} {L : List α} (h : Row3 enc w v L) : ∃ ao cap, v = .slice ao L.length cap ∧ L.length ≤ cap ∧ cap ≤ maxLen := by
  obtain ⟨ao, cap, e, h2, h3, h4⟩ := h
  exact ⟨ao, cap, e, h2, h3⟩
/-- the beginning of it -/
theorem Row3.take {α : Type} {enc : α → Value × Value × Value} {w : World} {ao : Option Addr} {n cap : Nat} {L : List α} (h : Row3 enc w (.slice ao n cap) L) (k : Nat) (hk : k ≤ L.length) : Row3 enc w (.slice ao k cap) (L.take k) := by
  obtain ⟨ao', cap', e, h2, h3, h4⟩ := h
  simp only [Value.slice.injEq] at e
  obtain ⟨rfl, rfl, rfl⟩ := e
  have hl : (L.take k).length = k := by rw [List.length_take]; omega
  refine ⟨ao, cap, by rw [hl], by omega, h3, fun h0 => ?_⟩
  obtain ⟨b, o, e2, hc⟩ := h4 (by omega)
  refine ⟨b, o, e2, fun i hi => ?_⟩
  have := hc i (by omega)
  rw [List.getElem_take]
  exact this

/-- a slice of columns, of values -/
def Cols (w : World) (v : Value) (L : List ColD) : Prop := Row3 cE w v L
def Vals (w : World) (v : Value) (L : List ValD) : Prop := Row3 vE w v L
/-- a table's columns are there -/
def TabIn (w : World) (t : TabD) : Prop := Cols w t.cv t.cols
/-- a slice of tables -/
def Tabs (w : World) (v : Value) (L : List TabD) : Prop := Row3 tE w v L ∧ ∀ t ∈ L, TabIn w t
theorem TabIn.rb {w w' : World} {t : TabD} (h : TabIn w t) (hb : Rb w w') : TabIn w' t := Row3.rb h hb
theorem Tabs.rb {w w' : World} {v : Value} {L : List TabD} (h : Tabs w v L) (hb : Rb w w') : Tabs w' v L := ⟨h.1.rb hb, fun t ht => (h.2 t ht).rb hb⟩

/-- sizes and numbers that fit -/
structure ColOk (c : ColD) : Prop where
  name : c.name.size ≤ maxLen
  k0 : -9223372036854775808 ≤ c.kind
  k1 : c.kind ≤ 9223372036854775807
  m0 : -9223372036854775808 ≤ c.max
  m1 : c.max ≤ 9223372036854775807
structure ValOk (v : ValD) : Prop where
  s : v.s.size ≤ maxLen
  k0 : -9223372036854775808 ≤ v.k
  k1 : v.k ≤ 9223372036854775807
  n0 : -9223372036854775808 ≤ v.n
  n1 : v.n ≤ 9223372036854775807
structure TabOk (t : TabD) : Prop where
  name : t.name.size ≤ maxLen
  r0 : -9223372036854775808 ≤ t.rows
  r1 : t.rows ≤ 9223372036854775807
  cols : ∀ c ∈ t.cols, ColOk c

def eqS (a b : ByteArray) : Bool := a.toList == b.toList

/-- where a name first stands: the length, where it doesn't -/
def posN (s : ByteArray) : List ByteArray → Nat
  | [] => 0
  | x :: r => if eqS x s then 0 else posN s r + 1
theorem posN_le (s : ByteArray) : ∀ l, posN s l ≤ l.length
  | [] => Nat.le_refl _
  | x :: r => by
    rw [posN]
    split
    · exact Nat.zero_le _
    · have := posN_le s r
      simp; omega
def dup (s : ByteArray) (l : List ByteArray) : Bool := decide (posN s l < l.length)
theorem dup_any (s : ByteArray) : ∀ l, dup s l = l.any (fun x => eqS x s)
  | [] => rfl
  | x :: r => by
    have := dup_any s r
    unfold dup at this ⊢
    rw [posN, List.any_cons, ← this]
    by_cases h : eqS x s = true
    · rw [if_pos h, h]; simp
    · rw [if_neg h, Bool.eq_false_iff.2 h]; simp

/-- names -/
def smallB (c : UInt8) : Bool := decide (97 ≤ c.toNat) && decide (c.toNat ≤ 122)
def digB (c : UInt8) : Bool := decide (48 ≤ c.toNat) && decide (c.toNat ≤ 57)
def signB (c : UInt8) : Bool := smallB c || digB c || decide (c.toNat = 95)
def wordsL : List ByteArray := [⟨#[116, 97, 98, 108, 101]⟩, ⟨#[114, 111, 119, 115]⟩, ⟨#[112, 114, 111, 99]⟩, ⟨#[108, 101, 116]⟩, ⟨#[105, 102]⟩, ⟨#[101, 108, 115, 101]⟩, ⟨#[108, 111, 111, 112]⟩, ⟨#[101, 97, 99, 104]⟩, ⟨#[105, 110]⟩, ⟨#[102, 114, 111, 109]⟩, ⟨#[116, 111]⟩, ⟨#[109, 97, 120]⟩, ⟨#[114, 111, 108, 108, 98, 97, 99, 107]⟩, ⟨#[101, 109, 105, 116]⟩, ⟨#[100, 101, 108]⟩, ⟨#[104, 97, 115]⟩, ⟨#[115, 117, 109]⟩, ⟨#[99, 111, 117, 110, 116]⟩, ⟨#[105, 110, 116]⟩, ⟨#[98, 111, 111, 108]⟩, ⟨#[116, 101, 120, 116]⟩, ⟨#[116, 114, 117, 101]⟩, ⟨#[102, 97, 108, 115, 101]⟩]
def wordB (s : ByteArray) : Bool := wordsL.any fun x => eqS s x
theorem eqS_iff {a b : ByteArray} : eqS a b = true ↔ a = b := by
  unfold eqS
  rw [beq_iff_eq, Lib.toList_data, Lib.toList_data]
  exact ⟨fun h => ByteArray.ext (Array.toList_inj.1 h), fun h => by rw [h]⟩
theorem eqS_comm (a b : ByteArray) : eqS a b = eqS b a := by
  rw [Bool.eq_iff_iff, eqS_iff, eqS_iff]; exact eq_comm
def nameL (l : List UInt8) : Bool := !l.isEmpty && smallB (l.getD 0 0) && l.all signB && decide (l.length ≤ 16)
def nameB (s : ByteArray) : Bool := nameL s.data.toList && !wordB s

theorem ret_i64 {a b : Int} (h : a = b) : Ending.returned (.int .i64 a) = .returned (.int .i64 b) := by rw [h]
end Go.Proofs.YtolfeellcdoopaaDoor.L6
