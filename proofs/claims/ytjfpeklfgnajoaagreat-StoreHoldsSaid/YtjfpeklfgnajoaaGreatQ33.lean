/-
  Layer 7: two claims on one store; the numbers of StoreHolds.
-/
import Derived.Test.YtjfpeklfgnajoaaGreatQ31
namespace Go.Proofs.YtjfpeklfgnajoaaGreat.L6
open Go.ChangeShapes Go.WideShapes Go.ChangeAt Go.RowKit By Reg Val
set_option linter.unusedVariables false
set_option linter.unusedSimpArgs false

/-- two claims on one store, all new since w0 -/
structure TwoC (w0 w : World) (v : Value) (sh : List Sh) (c d : ClD) : Prop where
  dc : Duo w v sh c
  dd : Duo w v sh d
  ap : ∀ k, c.all k → ¬ d.all k
  rb : Rb w0 w
  new : ∀ k, (SF sh k ∨ c.all k ∨ d.all k) → w0.heap.size ≤ k
  st : c.st = d.st
theorem TwoC.symm {w0 w : World} {v : Value} {sh : List Sh} {c d : ClD} (h : TwoC w0 w v sh c d) : TwoC w0 w v sh d c :=
  ⟨h.dd, h.dc, fun k hk hk' => h.ap k hk' hk, h.rb, fun k hk => h.new k (by rcases hk with h | h | h <;> simp [h]), h.st.symm⟩
theorem TwoC.then_rb {w0 w w' : World} {v : Value} {sh : List Sh} {c d : ClD} (h : TwoC w0 w v sh c d) (hb : Rb w w') : TwoC w0 w' v sh c d :=
  ⟨h.dc.rb hb, h.dd.rb hb, h.ap, Rb.trans _ _ _ h.rb hb, h.new, h.st⟩
theorem TwoC.op {w0 w w' : World} {v : Value} {sh sh' : List Sh} {c d d' : ClD} (h : TwoC w0 w v sh c d) (k : OpP w v sh d w' sh' d') : TwoC w0 w' v sh' c d' := by
  have hno : ∀ q, c.all q → ¬ DF sh d q := fun q hq hd => by
    rcases hd with hd | hd
    · exact h.dc.ap q hq hd
    · exact h.ap q hq hd
  have hno' : ∀ q, c.all q → ¬ DF sh' d' q := fun q hq hd => by
    rcases k.new q hd with h1 | h1
    · exact hno q hq h1
    · have := h.dc.cl.lt q hq; omega
  have hlen : sh'.length = sh.length := by
    have h1 := k.duo.len
    have h2 := k.duo.st
    have : sh'.length = sh.length := by
      have e1 := k.duo.st.row
      have e2 := h.dd.st.row
      have f1 := e1.1
      have f2 := e2.1
      obtain ⟨_, _, g1, _⟩ := k.duo.st.form
      obtain ⟨_, _, g2, _⟩ := h.dd.st.form
      rw [g1] at g2
      simp only [Value.slice.injEq] at g2
      exact g2.2.1
    exact this
  refine ⟨⟨?_, h.dc.cl.fr k.fr (fun q hq _ => h.dd.mutb q hq) fun q hq => hno q hq, fun q hq hq' => hno' q hq (.inl hq'), by rw [h.dc.len, hlen]⟩, k.duo, fun q hq hq' => hno' q hq (.inr hq'), rb_fr h.rb k.fr fun q hq => ?_, fun q hq => ?_, ?_⟩
  · rw [h.st, ← k.st]
    exact k.duo.st
  · rcases hq with hq | hq
    · exact h.new q (.inl hq)
    · exact h.new q (.inr (.inr hq))
  · have hz := h.rb.size
    have hDF : ∀ q, DF sh' d' q → w0.heap.size ≤ q := fun q hq => by
      rcases k.new q hq with h1 | h1
      · rcases h1 with h1 | h1
        · exact h.new q (.inl h1)
        · exact h.new q (.inr (.inr h1))
      · omega
    rcases hq with hq | hq | hq
    · exact hDF q (.inl hq)
    · exact h.new q (.inr (.inl hq))
    · exact hDF q (.inr hq)
  · rw [h.st, k.st]

/-- a second claim -/
theorem TwoC.claim {w0 w w' : World} {v : Value} {sh sh' : List Sh} {c d : ClD} {need : List Int} (h : In w0 w v sh c) (k : ClaimP w c.st v sh need w' sh' d) : TwoC w0 w' v sh' c d := by
  have hno : ∀ q, c.all q → ¬ SF sh q := h.duo.ap
  have hlt : ∀ q, c.all q → q < w.heap.size := h.duo.cl.lt
  refine ⟨⟨by have := k.duo.st; rw [k.st] at this; exact this, h.duo.cl.fr k.fr (fun q hq _ => h.duo.st.mutb q hq) hno, fun q hq hq' => ?_, by rw [h.duo.len, k.len]⟩, k.duo, fun q hq hq' => ?_, rb_fr h.rb k.fr fun q hq => h.new q (.inl hq), fun q hq => ?_, k.st.symm⟩
  · rcases k.newS q hq' with h1 | h1
    · exact hno q hq h1
    · have := hlt q hq; omega
  · have := k.new q hq'
    have := hlt q hq
    omega
  · have hz := h.rb.size
    rcases hq with hq | hq | hq
    · rcases k.newS q hq with h1 | h1
      · exact h.new q (.inl h1)
      · omega
    · exact h.new q (.inr hq)
    · have := k.new q hq; omega
/-- the first claim -/
theorem In.claim {w0 w w' : World} {st : Nat} {v : Value} {sh sh' : List Sh} {c : ClD} {need : List Int} (hb : Rb w0 w) (hn : ∀ k, SF sh k → w0.heap.size ≤ k) (k : ClaimP w st v sh need w' sh' c) : In w0 w' v sh' c :=
  ⟨k.duo, rb_fr hb k.fr hn, fun q hq => by
    have hz := hb.size
    rcases hq with hq | hq
    · rcases k.newS q hq with h1 | h1
      · exact hn q h1
      · omega
    · have := k.new q hq; omega⟩

/-- the numbers of two claims that hold all there is room for -/
structure NumH (L : List TabD) (sh : List Sh) (c d : ClD) : Prop where
  len : sh.length = L.length
  at_ : ∀ (i : Nat) (h : i < sh.length) (h1 : i < L.length), sameT L[i] sh[i].t ∧ sh[i].held = c.held.getD i 0 + d.held.getD i 0 ∧ (sh[i].L.length : Int) + sh[i].held = L[i].rows
theorem StepD.len {sh sh' : List Sh} {c c' : ClD} {i : Nat} {k : Int} {y : SV} {dl : Int} (h : StepD sh c i k y dl sh' c') : sh'.length = sh.length := by
  obtain ⟨s', rfl, _⟩ := h.shl
  rw [List.length_set]
theorem getD_set (l : List Int) (i j : Nat) (x : Int) (hi : i < l.length) : (l.set i x).getD j 0 = if j = i then x else l.getD j 0 := by
  rw [List.getD_eq_getElem?_getD, List.getD_eq_getElem?_getD, List.getElem?_set]
  by_cases e : i = j
  · subst e
    simp [hi]
  · rw [if_neg e, if_neg (fun h => e h.symm)]
theorem NumH.symm {L : List TabD} {sh : List Sh} {c d : ClD} (h : NumH L sh c d) : NumH L sh d c :=
  ⟨h.len, fun i h0 h1 => by obtain ⟨a, b, e⟩ := h.at_ i h0 h1; exact ⟨a, by omega, e⟩⟩
theorem NumH.step {L : List TabD} {sh sh' : List Sh} {c d d' : ClD} {i : Nat} {k : Int} {y : SV} {dl : Int} (h : NumH L sh c d) (s : StepD sh d i k y dl sh' d') (hd : d.held.length = sh.length) : NumH L sh' c d' := by
  have hi := s.hi
  obtain ⟨s', rfl, a1, a2, a3, a4, a5⟩ := s.shl
  refine ⟨by rw [List.length_set]; exact h.len, fun j hj h1 => ?_⟩
  have hj' : j < sh.length := by rw [List.length_set] at hj; exact hj
  obtain ⟨b1, b2, b3⟩ := h.at_ j hj' h1
  rw [s.cc]
  show sameT _ _ ∧ _ = _ + (d.held.set i _).getD j 0 ∧ _
  rw [getD_set _ _ _ _ (by omega)]
  by_cases e : i = j
  · subst e
    rw [List.getElem_set_self, if_pos rfl, a2, a4]
    exact ⟨b1, by omega, by omega⟩
  · rw [List.getElem_set_ne e, if_neg (fun h => e h.symm)]
    exact ⟨b1, b2, b3⟩
/-- no key of any table is one of these -/
def NoKey (lo hi : Int) (sh : List Sh) : Prop := ∀ s ∈ sh, ∀ t ∈ s.L, ¬ (lo ≤ t.1 ∧ t.1 < hi)
theorem NoKey.step {lo hi lo' : Int} {sh sh' : List Sh} {d d' : ClD} {i : Nat} {k : Int} {y : SV} {dl : Int} (h : NoKey lo hi sh) (s : StepD sh d i k y dl sh' d') (hlo : lo ≤ lo') (hk : ¬ (lo' ≤ k ∧ k < hi)) : NoKey lo' hi sh' := by
  obtain ⟨s', rfl, a1, a2, a3, a4, a5⟩ := s.shl
  have hi := s.hi
  intro x hx t ht
  rcases List.mem_or_eq_of_mem_set hx with hx | rfl
  · have := h x hx t ht; omega
  · rw [a3] at ht
    rcases layL_mem ht with h1 | ⟨rfl, _⟩
    · have := h _ (List.getElem_mem _) t h1; omega
    · exact hk
theorem NoKey.none {lo hi : Int} {sh : List Sh} (h : NoKey lo hi sh) {i : Nat} (hi' : i < sh.length) {k : Int} (hk : lo ≤ k ∧ k < hi) : getL k sh[i].L = none := by
  cases hg : getL k sh[i].L with
  | none => rfl
  | some y => exact absurd hk (h _ (List.getElem_mem _) _ (getL_mem hg))
theorem Sane.other {M N : Nat} {sh sh' : List Sh} {c d : ClD} (h : Sane M sh c) (k : Sane N sh' d) (hM : M ≤ N) (hl : sh'.length = sh.length) : Sane N sh' c :=
  have h' := h.mono hM
  ⟨k.n, k.shs, h'.held, h'.first, h'.flen, fun x hx => by rw [hl]; exact h'.spin x hx, h'.tlen⟩
end Go.Proofs.YtjfpeklfgnajoaaGreat.L6
