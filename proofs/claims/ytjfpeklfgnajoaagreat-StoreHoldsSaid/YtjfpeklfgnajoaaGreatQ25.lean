/-
  Layer 7: New: a store without rows.
-/
import Derived.Test.YtjfpeklfgnajoaaGreatQ24
namespace Go.Proofs.YtjfpeklfgnajoaaGreat.L6
open Go.ChangeShapes Go.WideShapes Go.ChangeAt Go.RowKit By Reg Val
set_option linter.unusedVariables false
set_option linter.unusedSimpArgs false

def sameT (t t' : TabD) : Prop := t'.name = t.name ∧ t'.rows = t.rows ∧ t'.cols = t.cols
/-- a store made of the first tables -/
structure NewS (w : World) (L : List TabD) (wr : World) (st : Nat) (v : Value) (sh : List Sh) : Prop where
  sto : StAt wr st v sh
  new : w.heap.size ≤ st
  newv : ∀ k, v.ownBlock = some k → w.heap.size ≤ k
  news : ∀ k, SF sh k → w.heap.size ≤ k
  rb : Rb w wr
  len : sh.length ≤ L.length
  at_ : ∀ (i : Nat) (h : i < sh.length) (h1 : i < L.length), sameT L[i] sh[i].t ∧ sh[i].L = [] ∧ sh[i].held = 0
theorem NewS.rb' {w wr w2 : World} {L : List TabD} {st : Nat} {v : Value} {sh : List Sh} (h : NewS w L wr st v sh) (r : Rb wr w2) : NewS w L w2 st v sh :=
  ⟨h.sto.rb r, h.new, h.newv, h.news, Rb.trans _ _ _ h.rb r, h.len, h.at_⟩

theorem info_sp : (Tryz.prog.info? 89).map (fun i => (i.zero, i.size, i.bytes)) = some (some (.pointer none), 1, 8) := by kernel_rfl

theorem owns_same7 {w w' : World} {B : Nat} {e : TypeId} {s : Nat} {v : Value} {n : Nat} {xs : List Value} (h : w.ownsRow B e s v n xs) (hk : ∀ k, v.ownBlock = some k → w'.heap[k]? = w.heap[k]?) : w'.ownsRow B e s v n xs := by
  refine ⟨h.1, ?_⟩
  rcases h.2 with h0 | ⟨g, cap, cur, h1, h2, h3, h4⟩
  · exact .inl h0
  · exact .inr ⟨g, cap, cur, h1, h2, (hk g (by rw [h1]; rfl)).trans h3, h4⟩
theorem owns_blk {w : World} {B : Nat} {e : TypeId} {s : Nat} {v : Value} {n : Nat} {xs : List Value} (h : w.ownsRow B e s v n xs) : ∀ k, v.ownBlock = some k → ∃ cs, Blk w k e cs := by
  intro k hk
  rcases h.2 with ⟨h0, _⟩ | ⟨g, cap, cur, h1, h2, h3, h4⟩
  · rw [h0] at hk; cases hk
  · rw [h1] at hk
    simp [Value.ownBlock] at hk
    subst hk
    exact ⟨cur.toList, by unfold Blk; rw [h3]⟩
theorem ShAt.same' {w w' : World} {s : Sh} (h : ShAt w s) (hL : s.L = []) (hb : w'.heap[s.b]? = w.heap[s.b]?) (hF : ∀ k, s.F k → w'.heap[k]? = w.heap[k]?) (hc : ∀ k, s.t.cv.ownBlock = some k → w'.heap[k]? = w.heap[k]?) : ShAt w' s :=
  ⟨h.blk.same hb, h.tree.same hF, owns_same7 h.cols hc, fun t ht => by rw [hL] at ht; cases ht⟩

/-- one shelf more -/
theorem NewS.step {w W : World} {L : List TabD} {st : Nat} {v : Value} {sh : List Sh} {t' : TabD} (h : NewS w L W st v sh) (hi : sh.length < L.length) (hL : L.length ≤ 1000) (ht' : sameT (L[sh.length]) t') (hc : COwn W t'.cv t'.cols) (hcn : ∀ k, t'.cv.ownBlock = some k → w.heap.size ≤ k) :
    ∃ ao cap w4, (∀ ty, (Builtin.append_ #[81, 81] ty #[v, .slice (some ⟨W.heap.size + 1 + 1, 0, none⟩) 1 1]).run Tryz.prog (((W.alloc (.cells #[.pointer none, i64 0] 93)).alloc (.cells #[.string t'.name, i64 t'.rows, t'.cv, ptrv W.heap.size, i64 0] 95)).alloc (.cells #[ptrv (W.heap.size + 1)] 89)) = .ok (.slice ao (sh.length + 1) cap) w4) ∧
      (w4.cell? ⟨st, 0, none⟩ = some v ∧ w4.frozen? ⟨st, 0, none⟩ = false) ∧ ∃ s', NewS w L (w4.setCell ⟨st, 0, none⟩ (.slice ao (sh.length + 1) cap)) st (.slice ao (sh.length + 1) cap) (sh ++ [s']) := by
  have ht := Tryz.underlying81
  obtain ⟨i0, hi0, hz0, hzs, hzb⟩ := info_parts info_sp
  obtain ⟨W1, e1⟩ : ∃ W1, W1 = W.alloc (.cells #[.pointer none, i64 0] 93) := ⟨_, rfl⟩
  have r1 : Rb W W1 := by rw [e1]; exact (Below.refl _ W).alloc (Nat.le_refl _) _
  have s1 : W1.heap.size = W.heap.size + 1 := by rw [e1]; simp
  have bt : Blk W1 W.heap.size 93 [.pointer none, i64 0] := by rw [e1]; exact Blk.new W _ [.pointer none, i64 0]
  rw [← e1]
  obtain ⟨W2, e2⟩ : ∃ W2, W2 = W1.alloc (.cells #[.string t'.name, i64 t'.rows, t'.cv, ptrv W.heap.size, i64 0] 95) := ⟨_, rfl⟩
  have r2 : Rb W1 W2 := by rw [e2]; exact (Below.refl _ W1).alloc (Nat.le_refl _) _
  have s2 : W2.heap.size = W.heap.size + 1 + 1 := by rw [e2, World.size_alloc, s1]
  have bs : Blk W2 (W.heap.size + 1) 95 [.string t'.name, i64 t'.rows, t'.cv, ptrv W.heap.size, i64 0] := by
    rw [e2, ← s1]; exact Blk.new W1 _ [.string t'.name, i64 t'.rows, t'.cv, ptrv W.heap.size, i64 0]
  rw [← e2]
  obtain ⟨W3, e3⟩ : ∃ W3, W3 = W2.alloc (.cells #[ptrv (W.heap.size + 1)] 89) := ⟨_, rfl⟩
  have r3 : Rb W2 W3 := by rw [e3]; exact (Below.refl _ W2).alloc (Nat.le_refl _) _
  have bp : Blk W3 (W.heap.size + 1 + 1) 89 [ptrv (W.heap.size + 1)] := by
    rw [e3, ← s2]; exact Blk.new W2 _ [ptrv (W.heap.size + 1)]
  rw [← e3]
  have r13 : Rb W W3 := Rb.trans _ _ _ (Rb.trans _ _ _ r1 r2) r3
  have h3 := h.rb' r13
  have sl : Sl W3 (.slice (some ⟨W.heap.size + 1 + 1, 0, none⟩) 1 1) [ptrv (W.heap.size + 1)] := ⟨_, 1, rfl, Nat.le_refl _, by unfold maxLen; omega, (fun h => by cases h), fun ad e j u hu => by
    cases e
    rw [Addr.add_lit, Nat.zero_add, bp.cell]; exact hu⟩
  obtain ⟨pv', w4, hrun, hrow, hg, hnew⟩ := run_append_row (P := Tryz.prog) ht hi0 hz0 hzs hzb (by decide) rfl h3.sto.row sl (ptr_one (xs := [W.heap.size + 1])) (by rw [List.length_map]; simp; omega)
  obtain ⟨ao, cap, hpv, _, _⟩ := hrow.form
  have hpl : ((sh.map fun s => ptrv s.b) ++ [ptrv (W.heap.size + 1)]).length = sh.length + 1 := by simp
  rw [hpl] at hpv
  subst hpv
  have f4 : Fr (fun k => v.ownBlock = some k) W3 w4 := (Fr.refl _ _).grown hg (fun k hk => .inl hk)
  have hvb : v.ownBlock ≠ some st := h3.sto.row.not_blk h3.sto.blk (by decide)
  have b4 : Blk w4 st 83 [v] := h3.sto.blk.same (f4.block _ h3.sto.blk.lt hvb)
  obtain ⟨b5, hw⟩ := blk_setCells st 83 [.slice ao (sh.length + 1) cap] 0 w4 _ b4 (by simp)
  have b5' : Blk (w4.setCell ⟨st, 0, none⟩ (.slice ao (sh.length + 1) cap)) st 83 [.slice ao (sh.length + 1) cap] := by simpa [World.setCells, splice_eq] using b5
  have hw' : Wrote st w4 (w4.setCell ⟨st, 0, none⟩ (.slice ao (sh.length + 1) cap)) := by simpa [World.setCells] using hw
  have hc4 := b4.cell 0
  refine ⟨ao, cap, w4, hrun, ⟨hc4, ?_⟩, ⟨W.heap.size + 1, W.heap.size, t', [], 0, fun k => k = W.heap.size⟩, ?_⟩
  · unfold Blk at b4
    simp [World.frozen?, b4]
  · obtain ⟨W5, hW5⟩ : ∃ W5, W5 = w4.setCell ⟨st, 0, none⟩ (.slice ao (sh.length + 1) cap) := ⟨_, rfl⟩
    rw [← hW5] at b5' hw' ⊢
    have fS : Fr (fun k => v.ownBlock = some k ∨ k = st) W3 W5 := (f4.mono fun k hk _ => .inl hk).wrote hw' (.inl (.inr rfl))
    have typ : ∀ k, (v.ownBlock = some k ∨ k = st) → ∃ T cs, Blk W3 k T cs ∧ (T = 89 ∨ T = 83) := fun k hk => by
      rcases hk with hk | rfl
      · obtain ⟨cs, hb⟩ := h3.sto.row.typ k hk
        exact ⟨_, cs, hb, .inl rfl⟩
      · exact ⟨_, _, h3.sto.blk, .inr rfl⟩
    have keep : ∀ k T cs, Blk W3 k T cs → T ≠ 89 → T ≠ 83 → W5.heap[k]? = W3.heap[k]? := fun k T cs hb n1 n2 => fS.block k hb.lt fun hk => by
      obtain ⟨T', cs', hb', h'⟩ := typ k hk
      have := (hb'.inj hb).1
      subst this
      rcases h' with h' | h'
      · exact n1 h'
      · exact n2 h'
    have keepK : ∀ k T cs, Blk W3 k T cs → kind T → W5.heap[k]? = W3.heap[k]? := fun k T cs hb hT => keep k T cs hb (fun e => by subst e; rcases hT with h | h | h | h | h <;> exact absurd h (by decide)) (fun e => by subst e; rcases hT with h | h | h | h | h <;> exact absurd h (by decide))
    have bt3 : Blk W3 W.heap.size 93 [.pointer none, i64 0] := (bt.rb r2).rb r3
    have bs3 := bs.rb r3
    have hc3 : COwn W3 t'.cv t'.cols := owns_same7 hc fun k hk => r13.block k (by obtain ⟨cs, hb⟩ := owns_blk hc k hk; exact hb.lt)
    have hnew' : ShAt W5 ⟨W.heap.size + 1, W.heap.size, t', [], 0, fun k => k = W.heap.size⟩ := by
      refine ⟨bs3.same (keep _ _ _ bs3 (by decide) (by decide)), .inl ⟨bt3.same (keep _ _ _ bt3 (by decide) (by decide)), rfl, fun _ => Iff.rfl⟩, owns_same7 hc3 fun k hk => ?_, fun t ht => by cases ht⟩
      obtain ⟨cs, hb⟩ := owns_blk hc3 k hk
      exact keep _ _ _ hb (by decide) (by decide)
    have hws := h.rb.size
    refine ⟨⟨b5', ?_, fun s hs => ?_, ?_⟩, h.new, fun k hk => ?_, fun k hk => ?_, ?_, by simp; omega, fun j hj h1 => ?_⟩
    · have hr5 : Row W5 89 (.slice ao (sh.length + 1) cap) ((sh.map fun s => ptrv s.b) ++ [ptrv (W.heap.size + 1)]) := hrow.same fun k hk => hw'.block k fun e => by
        subst e
        exact absurd hk (hrow.not_blk b4 (by decide))
      simpa using hr5
    · rcases List.mem_append.1 hs with hs | hs
      · have hsa := h3.sto.at_ s hs
        obtain ⟨j, hj, rfl⟩ := List.getElem_of_mem hs
        refine hsa.same' (h.at_ j hj (by omega)).2.1 (keep _ _ _ hsa.blk (by decide) (by decide)) (fun k hk => ?_) fun k hk => ?_
        · obtain ⟨T, cs, hb, hT⟩ := hsa.tree.typ k hk
          exact keepK k T cs hb hT
        · obtain ⟨cs, hb⟩ := owns_blk hsa.cols k hk
          exact keep _ _ _ hb (by decide) (by decide)
      · simp only [List.mem_singleton] at hs
        subst hs
        exact hnew'
    · refine List.pairwise_append.2 ⟨h.sto.dj, List.pairwise_singleton _ _, fun x hx y hy k hk hk' => ?_⟩
      simp only [List.mem_singleton] at hy
      subst hy
      have := h.sto.lt k ⟨x, hx, hk⟩
      rcases hk' with hk' | hk'
      · dsimp only at hk'; omega
      · dsimp only at hk'; omega
    · rcases hnew k hk with h1 | h1
      · exact h.newv k h1
      · have := r13.size; omega
    · obtain ⟨x, hx, hxk⟩ := hk
      rcases List.mem_append.1 hx with hx | hx
      · exact h.news k ⟨x, hx, hxk⟩
      · simp only [List.mem_singleton] at hx
        subst hx
        rcases hxk with hxk | hxk
        · dsimp only at hxk; omega
        · dsimp only at hxk; omega
    · have := ((Fr.of_rb (F := fun _ => False) (Rb.trans _ _ _ h.rb r13)).trans fS (fun k hk => by
        rcases hk with hk | rfl
        · exact .inr (h.newv k hk)
        · exact .inr h.new))
      exact this.rb fun k hk => hk.elim
    · by_cases e : j < sh.length
      · simp only [List.getElem_append_left e]
        exact h.at_ j e h1
      · have e2 : j = sh.length := by simp at hj; omega
        subst e2
        simp only [List.getElem_append_right (Nat.le_refl _), Nat.sub_self, List.getElem_cons_zero]
        exact ⟨ht', trivial, trivial⟩
end Go.Proofs.YtjfpeklfgnajoaaGreat.L6
