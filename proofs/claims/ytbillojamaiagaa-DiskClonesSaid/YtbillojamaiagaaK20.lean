/-
  Layer 3: what one round of a loop over steps keeps.
-/
import Derived.Test.YtbillojamaiagaaK19
namespace Go.Proofs.Ytbillojamaiagaa
open Go.ChangeShapes Go.WideShapes Go.ChangeAt Go.RowKit By Reg
set_option linter.unusedVariables false

def runD (D : Dk) (l : List OX) : Dk := l.foldl (fun D p => stepD D p.1.k p.1.n p.2) D
theorem runD_succ (D : Dk) {l : List OX} {k : Nat} (h : k < l.length) : runD D (l.take (k + 1)) = stepD (runD D (l.take k)) l[k].1.k l[k].1.n l[k].2 := by
  unfold runD
  rw [List.take_succ_eq_append_getElem h, List.foldl_append]
  rfl

def Sep (m : Mem) (r : Rm) (k : Nat) : Prop := ¬ m.has k ∧ ¬ r.has k
/-- the two disks, the block X that holds the document's, and the blocks S that nothing turns -/
structure LpM (ws : World) (S : Nat → Prop) (b X : Nat) (D E : Dk) (w : World) (m : Mem) (r : Rm) : Prop where
  hb : m.b = b
  both : Both w m r D E
  sx : Sep m r X
  size : ws.heap.size ≤ w.heap.size
  os : w.os = ws.os
  tape : w.tape = ws.tape
  output : w.output = ws.output
  s : ∀ k, S k → k < ws.heap.size ∧ ¬ m.touch k ∧ k ≠ X ∧ w.heap[k]? = ws.heap[k]?
def Lp (ws : World) (S : Nat → Prop) (b X : Nat) (D E : Dk) (w : World) : Prop := ∃ m r, LpM ws S b X D E w m r ∧ Blk w X 27 (refcs E r)

section
variable {ws w w' : World} {S : Nat → Prop} {b X : Nat} {D D' E E' : Dk} {m : Mem} {r : Rm}
theorem LpM.rb (h : LpM ws S b X D E w m r) (hb : Rb w w') : LpM ws S b X D E w' m r where
  hb := h.hb
  both := ⟨h.both.kk.rb hb, h.both.rr.rb hb, h.both.off, h.both.oke⟩
  sx := h.sx
  size := Nat.le_trans h.size hb.size
  os := hb.os.trans h.os
  tape := hb.tape.trans h.tape
  output := hb.output.trans h.output
  s := fun k hk => by
    obtain ⟨h1, h2, h3, h4⟩ := h.s k hk
    exact ⟨h1, h2, h3, (hb.block k (Nat.lt_of_lt_of_le h1 h.size)).trans h4⟩
theorem Sep.next {m' : Mem} {r' : Rm} {k : Nat} (h : Sep m r k) (hk : k < w.heap.size) (hs : ∀ k, m'.has k ∨ r'.has k → (m.has k ∨ r.has k) ∨ w.heap.size ≤ k) : Sep m' r' k :=
  ⟨fun e => by rcases hs k (.inl e) with (h1 | h1) | h1; exact h.1 h1; exact h.2 h1; omega, fun e => by rcases hs k (.inr e) with (h1 | h1) | h1; exact h.1 h1; exact h.2 h1; omega⟩
/-- behind a step of both -/
theorem LpM.step {m' : Mem} {r' : Rm} (h : LpM ws S b X D E w m r) (hX : X < w.heap.size) (hB : Both w' m' r' D' E') (hn : New w m m') (hk : Kp m w w') (hs : ∀ k, m'.has k ∨ r'.has k → (m.has k ∨ r.has k) ∨ w.heap.size ≤ k) : LpM ws S b X D' E' w' m' r' where
  hb := hn.1.trans h.hb
  both := hB
  sx := h.sx.next hX hs
  size := Nat.le_trans h.size hk.size
  os := hk.os.trans h.os
  tape := hk.tape.trans h.tape
  output := hk.output.trans h.output
  s := fun k hS => by
    obtain ⟨h1, h2, h3, h4⟩ := h.s k hS
    have hlt := Nat.lt_of_lt_of_le h1 h.size
    exact ⟨h1, fun e => by rcases hn.touch e with e | e; exact h2 e; omega, h3, (hk.block k hlt h2).trans h4⟩
theorem blk_step {cs : List Value} {T : TypeId} (h : LpM ws S b X D E w m r) (hb : Blk w X T cs) (hk : Kp m w w') : Blk w' X T cs := hb.same (hk.block X hb.lt fun e => h.sx.1 (.inl e))
/-- behind a store into X -/
theorem LpM.stored (h : LpM ws S b X D E w m r) (hw : Wrote X w w') (hb : Blk w' X 27 (refcs E r)) : Lp ws S b X D E w' := by
  have e : ∀ k, k ≠ X → w'.heap[k]? = w.heap[k]? := hw.block
  refine ⟨m, r, ⟨h.hb, ⟨h.both.kk.same (by rw [hw.size]; exact Nat.le_refl _) fun k hk => e k fun e => h.sx.1 (e ▸ hk), ⟨h.both.rr.n.same fun k hk => e k fun e => h.sx.2 (e ▸ .inl hk), h.both.rr.s.same fun k hk => e k fun e => h.sx.2 (e ▸ .inr hk)⟩, h.both.off, h.both.oke⟩, h.sx, by rw [hw.size]; exact h.size, hw.os.trans h.os, hw.tape.trans h.tape, hw.output.trans h.output, fun k hk => ?_⟩, hb⟩
  obtain ⟨h1, h2, h3, h4⟩ := h.s k hk
  exact ⟨h1, h2, h3, (e k h3).trans h4⟩
theorem LpM.below {B : Nat} (h : LpM ws S b X D E w m r) (hS : ∀ k, k < B → S k) : Below B ws w := ⟨h.os, h.tape, h.output, h.size, fun k hk => (h.s k (hS k hk)).2.2.2⟩
end

/-- the step that stands at a place of the row of steps -/
structure At (w : World) (ao : Option Addr) (n : Nat) (l : List OX) (k : Nat) (q : OX) (g : Nat) : Prop where
  ad : ao = some ⟨g, 0, none⟩
  c : Cell3 w g (k * 3) q.1
theorem cell3_of {w : World} {g o : Nat} {p : Op3} (h : ∀ j u, (opcs p)[j]? = some u → w.cell? ((⟨g, o, none⟩ : Addr).add j) = some u) : Cell3 w g o p := by
  have h0 := h 0 _ rfl
  have h1 := h 1 _ rfl
  have h2 := h 2 _ rfl
  rw [Addr.add_lit] at h0 h1 h2
  exact ⟨h0, h1, h2⟩
theorem flat_at : ∀ (l : List OX) (k j : Nat) (q : OX) (u : Value), l[k]? = some q → (opcs q.1)[j]? = some u → (flat l)[k * 3 + j]? = some u
  | [], k, j, q, u, h, _ => by simp at h
  | p :: l, 0, j, q, u, h, hu => by
    simp at h; subst h
    have hj : j < (opcs p.1).length := (List.getElem?_eq_some_iff.1 hu).1
    show (opcs p.1 ++ flat l)[0 * 3 + j]? = _
    rw [Nat.zero_mul, Nat.zero_add, List.getElem?_append_left hj]
    exact hu
  | p :: l, k + 1, j, q, u, h, hu => by
    have := flat_at l k j q u (by simpa using h) hu
    show (opcs p.1 ++ flat l)[(k + 1) * 3 + j]? = _
    rw [List.getElem?_append_right (by simp; omega)]
    simpa [show (k + 1) * 3 + j - 3 = k * 3 + j by omega] using this
theorem row_at {w : World} {B n : Nat} {v : Value} {l : List OX} (h : w.ownsRow B 34 3 v n (flat l)) (k : Nat) (q : OX) (hq : l[k]? = some q) :
    ∃ g cap, v = .slice (some ⟨g, 0, none⟩) n cap ∧ Cell3 w g (k * 3) q.1 := by
  have hk : k < l.length := (List.getElem?_eq_some_iff.1 hq).1
  have hl := h.1
  rw [flat_len] at hl
  obtain ⟨g, cap, rfl⟩ := owns_form h (by omega)
  refine ⟨g, cap, rfl, cell3_of fun j u hu => ?_⟩
  have := h.cells (g := g) rfl (k * 3 + j) u (flat_at l k j q u hq hu)
  rw [Addr.add_lit, Nat.zero_add] at this
  rw [Addr.add_lit]
  exact this
theorem Cell3.block {w w' : World} {g o : Nat} {p : Op3} (h : Cell3 w g o p) (e : w'.heap[g]? = w.heap[g]?) : Cell3 w' g o p := by
  obtain ⟨h0, h1, h2⟩ := h
  exact ⟨by rw [World.cell?_of_block (w := w) (w' := w') (a := ⟨g, o, none⟩) e]; exact h0, by rw [World.cell?_of_block (w := w) (w' := w') (a := ⟨g, o + 1, none⟩) e]; exact h1, by rw [World.cell?_of_block (w := w) (w' := w') (a := ⟨g, o + 2, none⟩) e]; exact h2⟩
theorem cutL_bs {W : World} {l : List OX} (h : ∀ p ∈ l, Bs W p.1.v p.2) : ∀ p ∈ cutL l, Bs W p.1.v p.2 ∧ p.2.length ≤ 200 := by
  intro p hp
  unfold cutL at hp
  obtain ⟨q, hq, rfl⟩ := List.mem_map.1 hp
  have := h q (List.mem_of_mem_take hq)
  exact ⟨Bs.cutv this, by show (q.2.take 200).length ≤ 200; rw [List.length_take]; omega⟩
end Go.Proofs.Ytbillojamaiagaa
