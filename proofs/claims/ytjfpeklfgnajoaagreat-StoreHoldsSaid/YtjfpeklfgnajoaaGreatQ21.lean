/-
  Layer 7: hold, table by table; begin, as an operation.
-/
import Derived.Test.YtjfpeklfgnajoaaGreatQ20
namespace Go.Proofs.YtjfpeklfgnajoaaGreat.L6
open Go.ChangeShapes Go.WideShapes Go.ChangeAt Go.RowKit By Reg Val
set_option linter.unusedVariables false
set_option linter.unusedSimpArgs false

def heldTo (f : Nat → Int) (k : Nat) (l : List Int) : List Int := (List.range l.length).map fun i => if i < k then f i else l.getD i 0
theorem heldTo_len (f : Nat → Int) (k : Nat) (l : List Int) : (heldTo f k l).length = l.length := by simp [heldTo]
theorem heldTo_get (f : Nat → Int) (k : Nat) (l : List Int) (i : Nat) (hi : i < l.length) : (heldTo f k l).getD i 0 = if i < k then f i else l.getD i 0 := by
  rw [List.getD_eq_getElem?_getD]
  simp [heldTo, hi]
theorem heldTo_zero (f : Nat → Int) (l : List Int) : heldTo f 0 l = l := by
  apply List.ext_getElem (heldTo_len f 0 l)
  intro i h1 h2
  simp [heldTo, List.getD_eq_getElem?_getD, h2]
theorem heldTo_step (f : Nat → Int) (k : Nat) (l : List Int) (hk : k < l.length) : (heldTo f k l).set k (f k) = heldTo f (k + 1) l := by
  apply List.ext_getElem (by rw [List.length_set, heldTo_len, heldTo_len])
  intro i h1 h2
  rw [heldTo_len] at h2
  by_cases e : k = i
  · subst e
    rw [List.getElem_set_self]
    simp [heldTo]
  · rw [List.getElem_set_ne e]
    simp only [heldTo, List.getElem_map, List.getElem_range]
    by_cases h : i < k
    · rw [if_pos h, if_pos (by omega)]
    · rw [if_neg h, if_neg (by omega)]
theorem heldTo_all (f : Nat → Int) (l : List Int) : heldTo f l.length l = (List.range l.length).map f := by
  apply List.ext_getElem (by simp [heldTo])
  intro i h1 h2
  rw [heldTo_len] at h1
  simp [heldTo, h1]
theorem range_getD (l : List Int) : (List.range l.length).map (fun i => l.getD i 0) = l := by
  apply List.ext_getElem (by simp)
  intro i h1 h2
  simp [List.getD_eq_getElem?_getD, h2]

/-- the first k tables are held to f -/
structure HeldTo (f : Nat → Int) (k : Nat) (sh : List Sh) (c : ClD) (sh1 : List Sh) (c1 : ClD) : Prop where
  len : sh1.length = sh.length
  at_ : ∀ (i : Nat) (h : i < sh.length) (h1 : i < sh1.length), sh1[i].b = sh[i].b ∧ sh1[i].t = sh[i].t ∧ sh1[i].L = sh[i].L ∧ sh1[i].held = if i < k then sh[i].held + (f i - c.held.getD i 0) else sh[i].held
  c : c1 = { c with held := heldTo f k c.held }
theorem HeldTo.start (f : Nat → Int) (sh : List Sh) (c : ClD) : HeldTo f 0 sh c sh c := ⟨rfl, fun i h h1 => ⟨rfl, rfl, rfl, by rw [if_neg (by omega)]⟩, by rw [heldTo_zero]⟩

theorem hold_step (w wr : World) (v : Value) (sh sh1 : List Sh) (c c1 : ClD) (f : Nat → Int) (k : Nat) (hO : OpP w v sh c wr sh1 c1) (hH : HeldTo f k sh c sh1 c1) (hk : k < sh.length) (hn : sh.length ≤ 1000) (hd : c.held.length = sh.length)
    (b1 : -1000000 ≤ f k ∧ f k ≤ 1000000) (b2 : ∀ s ∈ sh, -1000000 ≤ s.held ∧ s.held ≤ 1000000) (b3 : -1000000 ≤ c.held.getD k 0 ∧ c.held.getD k 0 ≤ 1000000) :
    Calls Tryz.prog 66 #[ptrv c.b, i64 k, i64 (f k)] wr fun e w' => (∃ u, e = .returned u) ∧ ∃ sh2 c2, OpP w v sh c w' sh2 c2 ∧ HeldTo f (k + 1) sh c sh2 c2 := by
  have hj : k < sh1.length := by rw [hH.len]; exact hk
  obtain ⟨e1, e2, e3⟩ := set_split sh1 k hj
  obtain ⟨s, hs⟩ : ∃ s, s = sh1[k] := ⟨_, rfl⟩
  rw [← hs] at e1
  obtain ⟨a1, a2, a3, a4⟩ := hH.at_ k hk hj
  rw [← hs] at a1 a2 a3 a4
  rw [if_neg (by omega)] at a4
  have hD := hO.duo
  rw [e1] at hD
  have hc1 : c1.held.getD k 0 = c.held.getD k 0 := by
    rw [hH.c]
    dsimp only
    rw [heldTo_get _ _ _ _ (by omega), if_neg (by omega)]
  have C := hold_any wr v (sh1.take k) (sh1.drop (k + 1)) s c1 (f k) hD.st hD.cl hD.len (by omega) hD.ap b1 (by rw [a4]; exact b2 _ (List.getElem_mem _)) (by rw [e2, hc1]; exact b3)
  have hb : c1.b = c.b := hO.b
  rw [e2, hb] at C
  refine C.mono ?_
  rintro e w' ⟨hu, hp⟩
  have hop := hp.op hD
  rw [e2, hc1] at hop
  rw [← e1, ← e3] at hop
  refine ⟨hu, _, _, hO.trans hop, ⟨by rw [List.length_set]; exact hH.len, fun i hi hi1 => ?_, ?_⟩⟩
  · have hi1' : i < sh1.length := by rw [List.length_set] at hi1; exact hi1
    obtain ⟨q1, q2, q3, q4⟩ := hH.at_ i hi hi1'
    by_cases e : k = i
    · subst e
      rw [List.getElem_set_self, if_pos (by omega)]
      exact ⟨a1, a2, a3, by rw [← a4]⟩
    · rw [List.getElem_set_ne e]
      refine ⟨q1, q2, q3, ?_⟩
      rw [q4]
      by_cases h : i < k
      · rw [if_pos h, if_pos (by omega)]
      · rw [if_neg h, if_neg (by omega)]
  · rw [hH.c]
    dsimp only
    rw [heldTo_step _ _ _ (by omega)]

/-- begin, as an operation -/
theorem BegP.op {w w' : World} {v : Value} {sh : List Sh} {c c' : ClD} (h : Duo w v sh c) (k : BegP w c w' c') : OpP w v sh c w' sh c' := by
  have hF : ∀ q, (q = c.b ∨ q = c.m) → q < w.heap.size → MutB w q := fun q hq _ => by
    rcases hq with rfl | rfl
    · exact h.cl.mutb _ (.inl rfl)
    · exact h.cl.map.mutb
  refine ⟨⟨?_, k.cl, fun q hq hq' => ?_, by rw [k.held]; exact h.len⟩, k.b, k.st, k.fr.mono fun q hq _ => ?_, fun q hq => ?_⟩
  · rw [k.st]
    refine h.st.fr k.fr hF fun q hq hq' => ?_
    rcases hq' with rfl | rfl
    · exact h.ap _ (.inl rfl) hq
    · exact h.ap _ (.inr (.inr (.inr rfl))) hq
  · rcases k.new q hq with h1 | h1
    · exact h.ap q h1 hq'
    · have := h.st.lt q hq'; omega
  · rcases hq with rfl | rfl
    · exact .inr (.inl rfl)
    · exact .inr (.inr (.inr (.inr rfl)))
  · rcases hq with hq | hq
    · exact .inl (.inl hq)
    · rcases k.new q hq with h1 | h1
      · exact .inl (.inr h1)
      · exact .inr h1
end Go.Proofs.YtjfpeklfgnajoaaGreat.L6
