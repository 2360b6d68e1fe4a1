/-
  Layer 7: StoreHolds: what holds between its steps.
-/
import Derived.Test.YtjfpeklfgnajoaaGreatQ33
namespace Go.Proofs.YtjfpeklfgnajoaaGreat.L6
open Go.ChangeShapes Go.WideShapes Go.ChangeAt Go.RowKit By Reg Val
set_option linter.unusedVariables false
set_option linter.unusedSimpArgs false

theorem errCols_types : ∀ (L : List ColD) (seen : List ByteArray), errCols seen L = 0 → ∀ c ∈ L, rightTypeB c.kind c.max = true
  | [], _, _, c, hc => by cases hc
  | x :: r, seen, h, c, hc => by
    rw [errCols] at h
    split at h
    · cases h
    · split at h
      · cases h
      · rename_i h1
        rcases List.mem_cons.1 hc with rfl | hc
        · simpa using h1
        · exact errCols_types r _ h c hc
theorem errTabs_types : ∀ (L : List TabD) (seen : List ByteArray), (errTabs seen L).1 = 0 → ∀ t ∈ L, ∀ c ∈ t.cols, rightTypeB c.kind c.max = true
  | [], seen, _, t, ht => by cases ht
  | x :: r, seen, h, t, ht => by
    rw [errTabs] at h
    by_cases he : errTab seen x ≠ 0
    · rw [if_pos he] at h
      exact absurd h he
    · rw [if_neg he] at h
      have he0 : errTab seen x = 0 := Classical.not_not.1 he
      rcases List.mem_cons.1 ht with rfl | ht
      · unfold errTab at he0
        split at he0
        · cases he0
        · split at he0
          · cases he0
          · split at he0
            · cases he0
            · exact errCols_types _ _ he0
      · exact errTabs_types r _ h t ht
theorem checkD_types {L : List TabD} (h : (checkD L).1 = 0) : ∀ t ∈ L, ∀ c ∈ t.cols, rightTypeB c.kind c.max = true := by
  unfold checkD at h
  split at h
  · cases h
  · exact errTabs_types L [] h
theorem zero_fits {c : ColD} (h : rightTypeB c.kind c.max = true) : fitsV c (zeroV c) = true := by
  unfold fitsV zeroV
  rw [if_pos h]
  obtain ⟨nm, k, m⟩ := c
  dsimp only at h ⊢
  unfold fitsB
  rw [h]
  have hk : k = 1 ∨ k = 2 ∨ k = 3 ∧ 1 ≤ m := by
    unfold rightTypeB at h
    split at h
    · omega
    · split at h
      · simp at h; omega
      · cases h
  rcases hk with rfl | rfl | ⟨rfl, hm⟩
  · rfl
  · rfl
  · have : rightB 3 0 [] = true := by decide
    rw [this]
    simp
    omega

/-- both claims are made -/
theorem holds_start {L : List TabD} {sh0 sh1 sh2 : List Sh} {c d : ClD} {k : Int} {need : List Int} {w0 w1 w2 w3 w4 w' : World} {st : Nat} {v : Value} (hok : (checkD L).1 = 0) (hS : NewS w0 L w1 st v sh0) (hl : sh0.length = L.length) (h0 : 0 < L.length) (hk : 0 ≤ k ∧ k ≤ (L[0]).rows)
    (hc : ClaimP w2 st v sh0 [k] w3 sh1 c) (hn : need = (List.range L.length).map fun (i : Nat) => freeSh sh1 (i : Int)) (hd : ClaimP w4 c.st v sh1 need w' sh2 d) :
    NumH L sh2 c d ∧ Sane 1 sh2 c ∧ Sane 1 sh2 d ∧ NoKey (2 ^ 40) (2 ^ 41) sh2 ∧ c.held.getD 0 0 = k := by
  obtain ⟨hL8, htab⟩ := checkD_ok hok
  have l1 : sh1.length = L.length := hc.len.trans hl
  have l2 : sh2.length = L.length := hd.len.trans l1
  have F0 : ∀ i (hi : i < L.length), sameT L[i] (sh2[i]'(by omega)).t ∧ (sh2[i]'(by omega)).L = [] ∧ (sh1[i]'(by omega)).held = [k].getD i 0 ∧ need.getD i 0 = L[i].rows - [k].getD i 0 ∧ (sh2[i]'(by omega)).held = L[i].rows ∧ 0 ≤ [k].getD i 0 ∧ [k].getD i 0 ≤ L[i].rows := fun i hi => by
    obtain ⟨a1, a2, a3⟩ := hS.at_ i (by omega) hi
    obtain ⟨b1, b2, b3, b4⟩ := hc.at_ i (by omega) (by omega)
    obtain ⟨c1, c2, c3, c4⟩ := hd.at_ i (by omega) (by omega)
    obtain ⟨⟨r1, r2⟩, _⟩ := htab L[i] (List.getElem_mem _)
    have hg : 0 ≤ [k].getD i 0 ∧ [k].getD i 0 ≤ L[i].rows := by
      by_cases e : i = 0
      · subst e; exact hk
      · rw [List.getD_eq_getElem?_getD, List.getElem?_eq_none (by simp; omega)]
        exact ⟨Int.le_refl _, by show (0 : Int) ≤ _; omega⟩
    have hh : (sh1[i]'(by omega)).held = [k].getD i 0 := by rw [b4, a3]; omega
    have hne : need.getD i 0 = L[i].rows - [k].getD i 0 := by
      rw [hn, List.getD_eq_getElem?_getD, List.getElem?_map, List.getElem?_range hi]
      show freeSh sh1 (i : Int) = _
      have hsh : shOf sh1 (i : Int) = some (sh1[i]'(by omega)) := by unfold shOf; simp; try omega
      unfold freeSh
      rw [hsh]
      show freeS _ = _
      unfold freeS
      rw [b2, a1.2.1, b3, a2, hh]
      generalize [k].getD i 0 = g at *
      show max ((L[i]).rows - ((0 : Nat) : Int) - g) 0 = _
      omega
    refine ⟨by rw [c2, b2]; exact a1, by rw [c3, b3, a2], hh, hne, by rw [c4, hh, hne]; omega, hg⟩
  have HC : ∀ i, i < L.length → c.held.getD i 0 = [k].getD i 0 := fun i hi => by
    rw [hc.held, List.getD_eq_getElem?_getD, List.getElem?_map, List.getElem?_range (by omega)]
    rfl
  have HD : ∀ i, i < L.length → d.held.getD i 0 = need.getD i 0 := fun i hi => by
    rw [hd.held, List.getD_eq_getElem?_getD, List.getElem?_map, List.getElem?_range (by omega)]
    rfl
  have SH : ∀ s ∈ sh2, SaneS 1 s := fun s hs => by
    obtain ⟨i, hi, rfl⟩ := List.getElem_of_mem hs
    obtain ⟨⟨a1, a2, a3⟩, b, _, _, e, _⟩ := F0 i (by omega)
    obtain ⟨⟨r1, r2⟩, q1, q2⟩ := htab (L[i]'(by omega)) (List.getElem_mem _)
    exact ⟨by rw [a2]; exact ⟨r1, r2⟩, by rw [a3]; exact ⟨q1, q2⟩, (fun t ht => by rw [b] at ht; cases ht), by rw [b]; simp, by rw [e]; omega⟩
  have HB : ∀ (cc : ClD) (f : Nat → Int), cc.held = (List.range L.length).map f → (∀ i, i < L.length → 0 ≤ f i ∧ f i ≤ 64) → ∀ x ∈ cc.held, 0 ≤ x ∧ x ≤ 1000 + (1 : Nat) := fun cc f e hf x hx => by
    rw [e] at hx
    obtain ⟨i, hi, rfl⟩ := List.mem_map.1 hx
    have := hf i (List.mem_range.1 hi)
    omega
  have R64 : ∀ i (hi : i < L.length), L[i].rows ≤ 64 := fun i hi => (htab L[i] (List.getElem_mem _)).1.2
  have CB := HB c (fun i => [k].getD i 0) (by rw [hc.held, hl]) fun i hi => by
    have := (F0 i hi).2.2.2.2.2; have := R64 i hi; constructor <;> omega
  have DB := HB d (fun i => need.getD i 0) (by rw [hd.held, l1]) fun i hi => by
    have h1 := (F0 i hi).2.2.2.1; have := (F0 i hi).2.2.2.2.2; have := R64 i hi; constructor <;> omega
  refine ⟨⟨l2, fun i hi h1 => ?_⟩, ⟨by omega, SH, CB, by rw [hc.first]; exact CB, by rw [hc.first], (fun x hx => by rw [hc.tch] at hx; cases hx), by rw [hc.tch]; simp⟩,
    ⟨by omega, SH, DB, by rw [hd.first]; exact DB, by rw [hd.first], (fun x hx => by rw [hd.tch] at hx; cases hx), by rw [hd.tch]; simp⟩, fun s hs t ht => ?_, ?_⟩
  · obtain ⟨a, b, _, e1, e2, e3⟩ := F0 i h1
    refine ⟨a, ?_, ?_⟩
    · rw [e2, HC i h1, HD i h1, e1]; omega
    · rw [b, e2]; simp
  · obtain ⟨i, hi, rfl⟩ := List.getElem_of_mem hs
    rw [(F0 i (by omega)).2.1] at ht
    cases ht
  · rw [HC 0 h0]; rfl
end Go.Proofs.YtjfpeklfgnajoaaGreat.L6
