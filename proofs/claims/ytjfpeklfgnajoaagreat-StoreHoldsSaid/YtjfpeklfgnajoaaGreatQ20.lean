/-
  Layer 7: Back: the rows; plain data.
-/
import Derived.Test.YtjfpeklfgnajoaaGreatQ19
import Derived.Test.YtjfpeklfgnajoaaGreatM4
namespace Go.Proofs.YtjfpeklfgnajoaaGreat.L6
open Go.ChangeShapes Go.WideShapes Go.ChangeAt Go.RowKit By Reg Val
set_option linter.unusedVariables false
set_option linter.unusedSimpArgs false

def undoL (c : ClD) (i : Int) (pre : List Spot) (L : List Th) : List Th := pre.foldl (fun L x => if x.1 = i then layL x.2 (wasOf c x) L else L) L
theorem undoL_snoc (c : ClD) (i : Int) (pre : List Spot) (x : Spot) (L : List Th) : undoL c i (pre ++ [x]) L = if x.1 = i then layL x.2 (wasOf c x) (undoL c i pre L) else undoL c i pre L := by
  unfold undoL
  rw [List.foldl_append]
  rfl
theorem undoL_len (c : ClD) (i : Int) : ∀ (pre : List Spot) (L : List Th), (undoL c i pre L).length ≤ L.length + pre.length := by
  intro pre
  induction pre with
  | nil => intro L; exact Nat.le_refl _
  | cons x pre ih =>
    intro L
    have h1 := ih (if x.1 = i then layL x.2 (wasOf c x) L else L)
    have h2 : (if x.1 = i then layL x.2 (wasOf c x) L else L).length ≤ L.length + 1 := by
      split
      · exact layL_len _ _ _
      · omega
    show (undoL c i pre (if x.1 = i then layL x.2 (wasOf c x) L else L)).length ≤ _
    rw [List.length_cons]
    omega

/-- the shelves, with the spots pre undone -/
structure UnS (c : ClD) (pre : List Spot) (sh sh1 : List Sh) : Prop where
  len : sh1.length = sh.length
  at_ : ∀ (i : Nat) (h : i < sh.length) (h1 : i < sh1.length), sh1[i].b = sh[i].b ∧ sh1[i].t = sh[i].t ∧ sh1[i].held = sh[i].held ∧ sh1[i].L = undoL c i pre sh[i].L
theorem UnS.nil (c : ClD) (sh : List Sh) : UnS c [] sh sh := ⟨rfl, fun i h h1 => ⟨rfl, rfl, rfl, rfl⟩⟩
theorem UnS.step {c : ClD} {pre : List Spot} {sh sh1 : List Sh} {x : Spot} {j : Nat} {s' : Sh} (h : UnS c pre sh sh1) (hx : x.1 = j) (hj : j < sh1.length) (h1 : s'.b = sh1[j].b) (h2 : s'.t = sh1[j].t) (h3 : s'.held = sh1[j].held) (h4 : s'.L = layL x.2 (wasOf c x) sh1[j].L) :
    UnS c (pre ++ [x]) sh (sh1.set j s') := by
  refine ⟨by rw [List.length_set]; exact h.len, fun i hi hi1 => ?_⟩
  have hi1' : i < sh1.length := by rw [List.length_set] at hi1; exact hi1
  obtain ⟨a1, a2, a3, a4⟩ := h.at_ i hi hi1'
  rw [undoL_snoc]
  by_cases e : j = i
  · subst e
    rw [List.getElem_set_self, if_pos hx, ← a4]
    exact ⟨h1.trans a1, h2.trans a2, h3.trans a3, h4⟩
  · rw [List.getElem_set_ne e, if_neg (fun e' => e (by omega))]
    exact ⟨a1, a2, a3, a4⟩

theorem set_split {α : Type} (l : List α) (j : Nat) (hj : j < l.length) : l = l.take j ++ l[j] :: l.drop (j + 1) ∧ (l.take j).length = j ∧ ∀ x, l.set j x = l.take j ++ x :: l.drop (j + 1) := by
  refine ⟨?_, by rw [List.length_take]; omega, fun x => ?_⟩
  · rw [← List.drop_eq_getElem_cons hj, List.take_append_drop]
  · exact List.set_eq_take_append_cons_drop.trans (if_pos hj)

theorem getM_mem {p : Spot} {y : SV} : ∀ {l : List (Spot × SV)}, getM p l = some y → (p, y) ∈ l
  | [], h => by simp [getM] at h
  | x :: l, h => by
    rw [getM] at h
    split at h
    · rename_i e
      cases h
      subst e
      simp
    · exact List.mem_cons_of_mem _ (getM_mem h)

theorem wasOf_row {w : World} {c : ClD} (h : ClAt w c) (x : Spot) : (wasOf c x).ao.isNone = false → VIn w (wasOf c x) := by
  unfold wasOf
  intro hn
  cases hg : getM x c.tch with
  | none => rw [hg] at hn; simp [sv0] at hn
  | some y =>
    rw [hg] at hn
    rcases h.rows _ (getM_mem hg) with h1 | h1
    · simp only at h1
      rw [h1] at hn
      simp [sv0] at hn
    · exact h1

/-- what a claim's spots must be, for a store of n tables -/
def SpIn (c : ClD) (n : Nat) : Prop := ∀ x ∈ c.tch, 0 ≤ x.1.1 ∧ x.1.1 < n

/-- each, over back of a store: on another store than the claim's own, too -/
theorem undone (w : World) (v : Value) (sh : List Sh) (c : ClD) (st : Nat) (h : StAt w st v sh) (hc : ClAt w c) (ap : ∀ k, c.all k → ¬ SF sh k) (hsp : SpIn c sh.length) (hn : sh.length ≤ 1000) (hl : c.tch.length ≤ 500) (hL : ∀ s ∈ sh, s.L.length ≤ 500) :
    Calls Tryz.prog 73 #[ptrv c.b, .func (.func 74) #[ptrv st] #[]] w fun e w' => (∃ u, e = .returned u) ∧ ∃ sh', UnS c (spotsOf c) sh sh' ∧ StAt w' st v sh' ∧ ClAt w' c ∧ Fr (SF sh) w w' ∧ ∀ k, SF sh' k → SF sh k ∨ w.heap.size ≤ k := by
  refine (each_back w c st hc (by omega) (fun pre W => ∃ sh', UnS c pre sh sh' ∧ StAt W st v sh' ∧ ClAt W c ∧ Fr (SF sh) w W ∧ ∀ k, SF sh' k → SF sh k ∨ w.heap.size ≤ k) ?_ ?_ ?_ ?_).mono ?_
  · rintro pre W W' hb ⟨sh', h1, h2, h3, h4, h5⟩
    exact ⟨sh', h1, h2.rb hb, h3.rb hb, h4.then_rb hb, h5⟩
  · rintro pre W ⟨sh', h1, h2, h3, h4, h5⟩
    exact h3
  · rintro pre x r W ⟨sh', h1, h2, h3, h4, h5⟩ hx
    have hxm : x ∈ spotsOf c := by rw [hx]; simp
    obtain ⟨y, hy⟩ := spotsOf_mem.1 hxm
    obtain ⟨b1, b2⟩ := hsp _ hy
    dsimp only at b1 b2
    obtain ⟨x1, x2⟩ := x
    dsimp only at b1 b2
    obtain ⟨j, rfl⟩ : ∃ j : Nat, x1 = j := ⟨x1.toNat, by omega⟩
    have hj : j < sh'.length := by rw [h1.len]; omega
    obtain ⟨e1, e2, e3⟩ := set_split sh' j hj
    obtain ⟨s, hs⟩ : ∃ s, s = sh'[j] := ⟨_, rfl⟩
    rw [← hs] at e1
    have hpl : pre.length ≤ 500 := by
      have h6 : (spotsOf c).length = c.tch.length := by unfold spotsOf; rw [(sortS_perm _).length_eq]; simp
      have h7 := congrArg List.length hx
      rw [h6] at h7
      simp at h7
      omega
    have hLs : s.L.length ≤ 1000 := by
      have := (h1.at_ j (by omega) hj).2.2.2
      rw [hs, this]
      have h6 := undoL_len c j pre (sh[j]'(by omega)).L
      have h7 := hL (sh[j]'(by omega)) (List.getElem_mem _)
      omega
    have h2' := h2
    rw [e1] at h2'
    have C := back1_any W st v (sh'.take j) (sh'.drop (j + 1)) s x2 (wasOf c (↑j, x2)) h2' (by omega) hLs (wasOf_row h3 _)
    rw [e2] at C
    refine C.mono ?_
    rintro e W' ⟨hu, W1, s', hb, hd⟩
    have hm2 : ∀ k, s.all k → SF sh' k := fun k hk => ⟨s, by rw [hs]; exact List.getElem_mem _, hk⟩
    have h2b := h2'.rb hb
    have hup := h2b.up hd.b hd.at_ hd.frA hd.newA
    rw [← e3] at hup
    have hmu : ∀ k, s.all k → k < W1.heap.size → MutB W1 k := fun k hk _ => (h2.rb hb).mutb k (hm2 k hk)
    have hnc : ∀ k, c.all k → ¬ SF sh' k := fun k hk hk' => by
      rcases h5 k hk' with h6 | h6
      · exact ap k hk h6
      · have := hc.lt k hk; omega
    refine ⟨hu, ⟨sh'.set j s', h1.step rfl hj (by rw [← hs]; exact hd.b) (by rw [← hs]; exact hd.t) (by rw [← hs]; exact hd.held) (by rw [← hs]; exact hd.L), hup, (h3.rb hb).fr hd.frA hmu fun k hk hk' => hnc k hk (hm2 k hk'), ?_, ?_⟩, (KeepSp.rb hb).trans (KeepSp.fr hd.frA hmu)⟩
    · exact (h4.then_rb hb).trans hd.frA fun k hk => by
        rcases h5 k (hm2 k hk) with h6 | h6
        · exact .inl h6
        · exact .inr h6
    · intro k hk
      rw [e3] at hk
      obtain ⟨z, hz, hzk⟩ := hk
      simp only [List.mem_append, List.mem_cons] at hz
      rcases hz with hz | rfl | hz
      · exact h5 k ⟨z, by rw [e1]; simp [hz], hzk⟩
      · rcases hd.newA k hzk with h6 | h6
        · exact h5 k (hm2 k h6)
        · have h8 := hb.size
          have h9 := h4.size
          exact .inr (by omega)
      · exact h5 k ⟨z, by rw [e1]; simp [hz], hzk⟩
  · exact ⟨sh, UnS.nil c sh, h, hc, Fr.refl _ w, fun k hk => .inl hk⟩
  · rintro e w' ⟨h1, h2, _⟩
    exact ⟨h1, h2⟩
end Go.Proofs.YtjfpeklfgnajoaaGreat.L6
