/-
  Layer 5: a tree in memory.
-/
import Derived.Test.YtjdlicphmflnkaaT15
import Derived.Test.YtjdlicphmflnkaaT6
namespace Go.Proofs.Ytjdlicphmflnkaa.L5
open Go.RowKit Reg
set_option linter.unusedVariables false

/-! ### the tokens of an inner node -/
def preW : List Int → List (List Tok) → List Tok
  | k :: ks, m :: ms => m ++ sp k :: preW ks ms
  | _, _ => []
def postW : List Int → List (List Tok) → List Tok
  | k :: ks, m :: ms => sp k :: (m ++ postW ks ms)
  | _, _ => []
def weave : List Int → List (List Tok) → List Tok
  | ks, m :: ms => m ++ postW ks ms
  | _, [] => []

theorem postW_ne (k : Int) (ks : List Int) (m : List Tok) (ms : List (List Tok)) : postW (k :: ks) (m :: ms) = sp k :: weave ks (m :: ms) := rfl
theorem weave_split : ∀ (k1 : List Int) (l : List (List Tok)) (k2 : List Int) (m : List Tok) (r : List (List Tok)), l.length = k1.length → weave (k1 ++ k2) (l ++ m :: r) = preW k1 l ++ (m ++ postW k2 r)
  | [], [], k2, m, r, _ => rfl
  | k :: k1, a :: l, k2, m, r, h => by
    have ih := weave_split k1 l k2 m r (by simpa using h)
    have e : postW (k :: (k1 ++ k2)) (l ++ m :: r) = sp k :: weave (k1 ++ k2) (l ++ m :: r) := by
      cases l with
      | nil => exact postW_ne _ _ _ _
      | cons b l => exact postW_ne _ _ _ _
    show a ++ postW (k :: (k1 ++ k2)) (l ++ m :: r) = (a ++ sp k :: preW k1 l) ++ _
    rw [e, ih, List.append_assoc]
    rfl
  | [], a :: l, _, _, _, h => by simp at h
  | k :: k1, [], _, _, _, h => by simp at h
theorem preW_append : ∀ (k1 : List Int) (l : List (List Tok)) (k : Int) (m : List Tok), l.length = k1.length → preW (k1 ++ [k]) (l ++ [m]) = preW k1 l ++ (m ++ [sp k])
  | [], [], k, m, _ => by simp [preW]
  | a :: k1, b :: l, k, m, h => by
    have ih := preW_append k1 l k m (by simpa using h)
    show b ++ sp a :: preW (k1 ++ [k]) (l ++ [m]) = (b ++ sp a :: preW k1 l) ++ _
    rw [ih, List.append_assoc]
    rfl
  | [], a :: l, _, _, h => by simp at h
  | k :: k1, [], _, _, h => by simp at h
theorem pre_lt {x : Int} : ∀ (k1 : List Int) (l : List (List Tok)), Srt (preW k1 l) → (∀ k ∈ k1, k ≤ x) → ∀ t ∈ preW k1 l, t.1 < 2 * x + 1
  | [], l, _, _, t, ht => by cases l <;> cases ht
  | k :: k1, [], _, _, t, ht => by cases ht
  | k :: k1, m :: l, hs, hk, t, ht => by
    have hkx := hk k (by simp)
    obtain ⟨h1, h2, h3⟩ := srt_append.1 (show Srt (m ++ sp k :: preW k1 l) from hs)
    rcases List.mem_append.1 (show t ∈ m ++ sp k :: preW k1 l from ht) with ht | ht
    · have := h3 t ht (sp k) (by simp)
      unfold sp at this; dsimp only at this; omega
    · rcases List.mem_cons.1 ht with rfl | ht
      · unfold sp; dsimp only; omega
      · exact pre_lt k1 l (srt_cons.1 h2).2 (fun k hk' => hk k (by simp [hk'])) t ht
theorem post_gt {x : Int} : ∀ (k2 : List Int) (r : List (List Tok)), Srt (postW k2 r) → (∀ k ∈ k2, x < k) → ∀ t ∈ postW k2 r, 2 * x + 1 < t.1
  | [], r, _, _, t, ht => by cases r <;> cases ht
  | k :: k2, [], _, _, t, ht => by cases ht
  | k :: k2, m :: r, hs, hk, t, ht => by
    have hkx := hk k (by simp)
    have hs' := srt_cons.1 (show Srt (sp k :: (m ++ postW k2 r)) from hs)
    rcases List.mem_cons.1 (show t ∈ sp k :: (m ++ postW k2 r) from ht) with rfl | ht
    · unfold sp; dsimp only; omega
    · have := hs'.1 t ht
      unfold sp at this; dsimp only at this; omega
theorem seps_sub : ∀ (ks : List Int) (ms : List (List Tok)), ms.length = ks.length → (ks.map sp).Sublist (postW ks ms)
  | [], [], _ => List.nil_sublist _
  | k :: ks, m :: ms, h => by
    have ih := seps_sub ks ms (by simpa using h)
    exact List.Sublist.cons_cons _ (List.Sublist.trans ih (List.sublist_append_right _ _))
  | [], a :: l, h => by simp at h
  | k :: k1, [], h => by simp at h
theorem seps_rise {ks : List Int} {ms : List (List Tok)} (hl : ms.length = ks.length + 1) (h : Srt (weave ks ms)) : ks.Pairwise (· < ·) := by
  cases ms with
  | nil => simp at hl
  | cons m ms =>
    have hs : (ks.map sp).Sublist (weave ks (m :: ms)) := (seps_sub ks ms (by simpa using hl)).trans (List.sublist_append_right _ _)
    have := srt_sub h hs
    unfold Srt at this
    rw [List.pairwise_map] at this
    exact this.imp fun {a b} hab => by unfold sp at hab; dsimp only at hab; omega
theorem items_postW : ∀ (ks : List Int) (ms : List (List Tok)), ms.length = ks.length → items (postW ks ms) = ms.flatMap items
  | [], [], _ => rfl
  | k :: ks, m :: ms, h => by
    show items (sp k :: (m ++ postW ks ms)) = _
    rw [items_sp, items_append, items_postW ks ms (by simpa using h)]
    rfl
  | [], a :: l, h => by simp at h
  | k :: k1, [], h => by simp at h
theorem items_weave {ks : List Int} {ms : List (List Tok)} (h : ms.length = ks.length + 1) : items (weave ks ms) = ms.flatMap items := by
  cases ms with
  | nil => simp at h
  | cons m ms =>
    show items (m ++ postW ks ms) = _
    rw [items_append, items_postW ks ms (by simpa using h)]
    rfl

/-! ### a subtree -/
structure Sub where
  b : Nat
  n : Nat
  M : List Tok
  F : Nat → Prop

def Dj (a b : Sub) : Prop := ∀ k, a.F k → ¬ b.F k

structure OpenP (H : World → Sub → Prop) (w : World) (s : Sub) (N : Nd) (cs : List Sub) : Prop where
  na : NodeAt w N
  b : N.b = s.b
  vs : N.vs = []
  ps : N.ps = cs.map (·.b)
  n : s.n = cs.length
  len : cs.length = N.ks.length + 1
  M : s.M = weave N.ks (cs.map (·.M))
  held : ∀ c ∈ cs, H w c
  dj : cs.Pairwise Dj
  off : ∀ c ∈ cs, ∀ k, N.has k → ¬ c.F k
  F : ∀ k, s.F k ↔ (N.has k ∨ ∃ c ∈ cs, c.F k)

structure LeafP (w : World) (s : Sub) (N : Nd) : Prop where
  na : NodeAt w N
  b : N.b = s.b
  ps : N.ps = []
  len : N.vs.length = N.ks.length
  n : s.n = N.ks.length
  M : s.M = (N.ks.zip N.vs).map tk
  F : ∀ k, s.F k ↔ N.has k

def Held : Nat → World → Sub → Prop
  | 0, w, s => ∃ N, LeafP w s N
  | d + 1, w, s => ∃ N cs, OpenP (Held d) w s N cs ∧ ∀ c ∈ cs, 4 ≤ c.n ∧ c.n ≤ 8

theorem OpenP.lt_of {H : World → Sub → Prop} {w : World} {s : Sub} {N : Nd} {cs : List Sub} (h : OpenP H w s N cs) (hl : ∀ c ∈ cs, ∀ k, c.F k → k < w.heap.size) : ∀ k, s.F k → k < w.heap.size := fun k hk => by
  rcases (h.F k).1 hk with hk | ⟨c, hc, hk⟩
  · exact h.na.lt k hk
  · exact hl c hc k hk
theorem Held.lt : ∀ (d : Nat) {w : World} {s : Sub}, Held d w s → ∀ k, s.F k → k < w.heap.size
  | 0, w, s, ⟨N, h⟩, k, hk => h.na.lt k ((h.F k).1 hk)
  | d + 1, w, s, ⟨N, cs, h, _⟩, k, hk => h.lt_of (fun c hc k hk => Held.lt d (h.held c hc) k hk) k hk
theorem OpenP.lt {d : Nat} {w : World} {s : Sub} {N : Nd} {cs : List Sub} (h : OpenP (Held d) w s N cs) : ∀ k, s.F k → k < w.heap.size := h.lt_of fun c hc => Held.lt d (h.held c hc)
theorem LeafP.same {w w' : World} {s : Sub} {N : Nd} (h : LeafP w s N) (e : ∀ k, s.F k → w'.heap[k]? = w.heap[k]?) : LeafP w' s N := ⟨h.na.same fun k hk => e k ((h.F k).2 hk), h.b, h.ps, h.len, h.n, h.M, h.F⟩
theorem OpenP.same_of {H : World → Sub → Prop} {w w' : World} {s : Sub} {N : Nd} {cs : List Sub} (h : OpenP H w s N cs) (e : ∀ k, s.F k → w'.heap[k]? = w.heap[k]?) (hs : ∀ c ∈ cs, H w' c) : OpenP H w' s N cs :=
  ⟨h.na.same fun k hk => e k ((h.F k).2 (.inl hk)), h.b, h.vs, h.ps, h.n, h.len, h.M, hs, h.dj, h.off, h.F⟩
theorem Held.same : ∀ (d : Nat) {w w' : World} {s : Sub}, Held d w s → (∀ k, s.F k → w'.heap[k]? = w.heap[k]?) → Held d w' s
  | 0, w, w', s, ⟨N, h⟩, e => ⟨N, h.same e⟩
  | d + 1, w, w', s, ⟨N, cs, h, hn⟩, e => ⟨N, cs, h.same_of e fun c hc => Held.same d (h.held c hc) fun k hk => e k ((h.F k).2 (.inr ⟨c, hc, hk⟩)), hn⟩
theorem Held.fr {d : Nat} {w w' : World} {s : Sub} {F : Nat → Prop} (h : Held d w s) (hf : Fr F w w') (ho : ∀ k, s.F k → ¬ F k) : Held d w' s := h.same d fun k hk => hf.block k (h.lt d k hk) (ho k hk)
theorem Held.rb {d : Nat} {w w' : World} {s : Sub} (h : Held d w s) (hr : Rb w w') : Held d w' s := h.same d fun k hk => hr.block k (h.lt d k hk)
theorem OpenP.rb {d : Nat} {w w' : World} {s : Sub} {N : Nd} {cs : List Sub} (h : OpenP (Held d) w s N cs) (hr : Rb w w') : OpenP (Held d) w' s N cs :=
  h.same_of (fun k hk => hr.block k (h.lt k hk)) fun c hc => (h.held c hc).rb hr

/-- the node at the root of a subtree -/
theorem Held.node : ∀ {d : Nat} {w : World} {s : Sub}, Held d w s → ∃ N, NodeAt w N ∧ N.b = s.b ∧ sizeN N = s.n ∧ isLeaf N = decide (d = 0)
  | 0, w, s, ⟨N, h⟩ => ⟨N, h.na, h.b, by unfold sizeN isLeaf; rw [h.ps]; exact h.n.symm, by unfold isLeaf; rw [h.ps]; rfl⟩
  | d + 1, w, s, ⟨N, cs, h, _⟩ => by
    have hl : N.ps.length = cs.length := by rw [h.ps, List.length_map]
    have h0 : isLeaf N = false := by unfold isLeaf; rw [decide_eq_false_iff_not, hl, h.len]; omega
    exact ⟨N, h.na, h.b, by unfold sizeN; rw [h0, h.n, ← hl]; rfl, by rw [h0]; rfl⟩

/-- what an operation makes of a subtree -/
structure Tn (w : World) (s : Sub) (w' : World) (s' : Sub) : Prop where
  b : s'.b = s.b
  fr : Fr s.F w w'
  F : ∀ k, s'.F k → s.F k ∨ w.heap.size ≤ k
theorem Tn.refl (w : World) (s : Sub) : Tn w s w s := ⟨rfl, Fr.refl _ _, fun _ h => .inl h⟩
theorem Tn.trans {w w1 w2 : World} {s s1 s2 : Sub} (h : Tn w s w1 s1) (k : Tn w1 s1 w2 s2) : Tn w s w2 s2 :=
  ⟨k.b.trans h.b, h.fr.trans k.fr h.F, fun i hi => by
    rcases k.F i hi with h' | h'
    · exact h.F i h'
    · have := h.fr.size; exact .inr (by omega)⟩
theorem Tn.of_rb {w w' : World} (s : Sub) (h : Rb w w') : Tn w s w' s := ⟨rfl, Fr.of_rb h, fun _ h => .inl h⟩

/-- the subtree's other numbers -/
def Sub.mk' (N : Nd) (n : Nat) (M : List Tok) (cs : List Sub) : Sub := ⟨N.b, n, M, fun k => N.has k ∨ ∃ c ∈ cs, c.F k⟩

/-- one part turned: the node with it -/
theorem OpenP.part {d : Nat} {w w' : World} {s : Sub} {N : Nd} {l r : List Sub} {c c' : Sub} (h : OpenP (Held d) w s N (l ++ c :: r)) (hc : Held d w' c') (t : Tn w c w' c') :
    ∃ s', OpenP (Held d) w' s' N (l ++ c' :: r) ∧ Tn w s w' s' ∧ s'.n = s.n := by
  have hd := List.pairwise_append.1 h.dj
  have hd2 := List.pairwise_cons.1 hd.2.1
  have cF : ∀ k, c.F k → s.F k := fun k hk => (h.F k).2 (.inr ⟨c, by simp, hk⟩)
  have keep : ∀ x ∈ l ++ r, (∀ k, x.F k → ¬ c.F k) ∧ Held d w x := fun x hx => by
    rcases List.mem_append.1 hx with hx | hx
    · exact ⟨fun k hk hk' => hd.2.2 x hx c (by simp) k hk hk', h.held x (by simp [hx])⟩
    · exact ⟨fun k hk hk' => hd2.1 x hx k hk' hk, h.held x (by simp [hx])⟩
  have new : ∀ x ∈ l ++ r, ∀ k, x.F k → ¬ c'.F k := fun x hx k hk hk' => by
    rcases t.F k hk' with h' | h'
    · exact (keep x hx).1 k hk h'
    · have := (keep x hx).2.lt d k hk; omega
  refine ⟨⟨s.b, s.n, weave N.ks ((l ++ c' :: r).map (·.M)), fun k => N.has k ∨ ∃ x ∈ l ++ c' :: r, x.F k⟩, ⟨?_, h.b, h.vs, ?_, ?_, ?_, rfl, fun x hx => ?_, ?_, fun x hx k hk => ?_, fun k => Iff.rfl⟩, ⟨rfl, ?_, fun k hk => ?_⟩, rfl⟩
  · exact h.na.fr t.fr fun k hk => h.off c (by simp) k hk
  · rw [h.ps]; simp [t.b]
  · rw [h.n]; simp
  · have := h.len; simp at this ⊢; omega
  · simp only [List.mem_append, List.mem_cons] at hx
    rcases hx with hx | rfl | hx
    · exact (keep x (by simp [hx])).2.fr t.fr (keep x (by simp [hx])).1
    · exact hc
    · exact (keep x (by simp [hx])).2.fr t.fr (keep x (by simp [hx])).1
  · refine List.pairwise_append.2 ⟨hd.1, List.pairwise_cons.2 ⟨fun x hx k hk hk' => new x (by simp [hx]) k hk' hk, hd2.2⟩, fun x hx y hy => ?_⟩
    rcases List.mem_cons.1 hy with rfl | hy
    · exact new x (by simp [hx])
    · exact hd.2.2 x hx y (by simp [hy])
  · simp only [List.mem_append, List.mem_cons] at hx
    rcases hx with hx | rfl | hx
    · exact h.off x (by simp [hx]) k hk
    · intro hk'
      rcases t.F k hk' with h' | h'
      · exact h.off c (by simp) k hk h'
      · have := h.na.lt k hk; omega
    · exact h.off x (by simp [hx]) k hk
  · exact t.fr.mono fun k hk _ => cF k hk
  · rcases hk with hk | ⟨x, hx, hk⟩
    · exact .inl ((h.F k).2 (.inl hk))
    · simp only [List.mem_append, List.mem_cons] at hx
      rcases hx with hx | rfl | hx
      · exact .inl ((h.F k).2 (.inr ⟨x, by simp [hx], hk⟩))
      · rcases t.F k hk with h' | h'
        · exact .inl (cF k h')
        · exact .inr h'
      · exact .inl ((h.F k).2 (.inr ⟨x, by simp [hx], hk⟩))
end Go.Proofs.Ytjdlicphmflnkaa.L5
