/-
  Layer 3: the loops' start, and a round's beginning.
-/
import Derived.Test.YtbillojamaiagaaK20
namespace Go.Proofs.Ytbillojamaiagaa
open Go.ChangeShapes Go.WideShapes Go.ChangeAt Go.RowKit By Reg
set_option linter.unusedVariables false

def Sx (B : Nat) (v : Value) (k : Nat) : Prop := k < B ∨ v.ownBlock = some k
theorem lp_start {w0 w1 w2 w3 w4 : World} {r : Rm} {D0 : Dk} {cv : Value} {n : Nat} {xs : List Value} (h1 : HeldK w1 (mem0 w0.heap.size) D0) (hb1 : Rb w0 w1) (h2 : HeldR w2 r D0) (hb2 : Rb w1 w2) (hr : ∀ k, r.has k → False ∨ w1.heap.size ≤ k)
    (hb3 : Blk w3 w2.heap.size 27 (refcs D0 r)) (hw3 : Rb w2 w3) (ho : w4.ownsRow w3.heap.size 34 3 cv n xs) (hb4 : Rb w3 w4) : Lp w4 (Sx w0.heap.size cv) w0.heap.size w2.heap.size D0 D0 w4 := by
  have l1 : w0.heap.size < w1.heap.size := h1.blk.lt
  have s2 := hb2.size
  have s3 : w2.heap.size < w3.heap.size := hb3.lt
  have s4 := hb4.size
  have hrl : ∀ k, r.has k → k < w2.heap.size := fun k hk => hk.elim (h2.n.lt k) (h2.s.lt k)
  have hrg : ∀ k, r.has k → w1.heap.size ≤ k := fun k hk => (hr k hk).elim (fun h => h.elim) id
  have hK : HeldK w4 (mem0 w0.heap.size) D0 := ((h1.rb hb2).rb hw3).rb hb4
  have hR : HeldR w4 r D0 := (h2.rb hw3).rb hb4
  have hoff : ∀ k, r.has k → ¬ (mem0 w0.heap.size).touch k := fun k hk ht => by have := hrg k hk; have := mem0_touch ht; omega
  refine ⟨mem0 w0.heap.size, r, ⟨rfl, ⟨hK, hR, ⟨fun k e => hoff k (.inl e), fun k e => hoff k (.inr e)⟩, h1.ok⟩, ⟨fun e => by have := mem0_has e; omega, fun e => by have := hrl _ e; omega⟩, Nat.le_refl _, rfl, rfl, rfl, fun k hk => ?_⟩, hb3.rb hb4⟩
  rcases hk with hk | hk
  · exact ⟨by omega, fun e => by have := mem0_touch e; omega, by omega, rfl⟩
  · have := ho.lt k hk
    exact ⟨this.2, fun e => by have := mem0_touch e; omega, by omega, rfl⟩

theorem OpsIn.below {w w' : World} {ao : Option Addr} {n : Nat} {l : List OX} (h : OpsIn w ao n l) (hb : Rb w w') : OpsIn w' ao n l where
  len := h.len
  bs := fun p hp => (h.bs p hp).below hb
  cells := fun i p hp => by
    obtain ⟨g, off, e, c⟩ := h.cells i p hp
    exact ⟨g, off, e, cell_rb hb c.1, cell_rb hb c.2.1, cell_rb hb c.2.2⟩
theorem row_form {w : World} {B n : Nat} {v : Value} {xs : List Value} {e : TypeId} {s : Nat} (h : w.ownsRow B e s v n xs) : ∃ co cap, v = .slice co n cap := by
  rcases h.2 with ⟨rfl, rfl⟩ | ⟨g, cap, cur, rfl, _⟩
  · exact ⟨none, 0, rfl⟩
  · exact ⟨_, cap, rfl⟩
/-- what a round reads of the row of steps -/
structure Rd (w : World) (co : Option Addr) (k : Nat) (q : OX) : Prop where
  ex : ∃ g, co = some ⟨g, 0, none⟩ ∧ Cell3 w g (k * 3) q.1
  bs : Bs w q.1.v q.2
  l : q.2.length ≤ 200
theorem round_reads {W ws w : World} {b X n cap : Nat} {D E : Dk} {m : Mem} {r : Rm} {co : Option Addr} {C : List OX} {B0 : Nat} (h : LpM ws (Sx W.heap.size (.slice co n cap)) b X D E w m r) (hWs : Below W.heap.size W ws)
    (ho : ws.ownsRow B0 34 3 (.slice co n cap) n (flat C)) (hC : ∀ p ∈ C, Bs W p.1.v p.2 ∧ p.2.length ≤ 200) {k : Nat} {q : OX} (hq : C[k]? = some q) :
    Rd w co k q ∧ (0 < q.2.length → VOff m q.1.v) := by
  obtain ⟨g, cap', e, c⟩ := row_at ho k q hq
  simp only [Value.slice.injEq] at e
  obtain ⟨rfl, _, rfl⟩ := e
  obtain ⟨hbs, hl⟩ := hC q (List.mem_of_getElem? hq)
  have hW : Below W.heap.size W w := hWs.trans (h.below fun k hk => .inl hk)
  obtain ⟨_, _, _, hg⟩ := h.s g (.inr rfl)
  refine ⟨⟨⟨g, rfl, c.block hg⟩, hbs.below hW, hl⟩, fun h0 k hk ht => ?_⟩
  have hlt := Bs.lt hbs h0 k hk
  exact (h.s k (.inl hlt)).2.1 ht
end Go.Proofs.Ytbillojamaiagaa
