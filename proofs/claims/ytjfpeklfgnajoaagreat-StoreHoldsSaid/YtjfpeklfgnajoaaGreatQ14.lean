/-
  Layer 7: rows of spots; what SortFunc leaves.
-/
import Derived.Test.YtjfpeklfgnajoaaGreatQ13
namespace Go.Proofs.YtjfpeklfgnajoaaGreat.L6
open Go.ChangeShapes Go.WideShapes Go.ChangeAt Go.RowKit By Reg Val Go.Shelf Go.Lib Go.Sort
set_option linter.unusedVariables false
set_option linter.unusedSimpArgs false

def flatS (l : List Spot) : List Value := l.flatMap encSp
theorem flatS_len : ∀ l : List Spot, (flatS l).length = l.length * 2
  | [] => rfl
  | p :: l => by
    have := flatS_len l
    simp only [flatS, List.flatMap_cons, List.length_append, List.length_cons, List.length_nil] at this ⊢
    rw [this]; omega
theorem flatS_append (a b : List Spot) : flatS (a ++ b) = flatS a ++ flatS b := by unfold flatS; simp
theorem flatS_get : ∀ (l : List Spot) (k : Nat) (hk : k < l.length), (flatS l)[k * 2]? = some (i64 l[k].1) ∧ (flatS l)[k * 2 + 1]? = some (i64 l[k].2)
  | [], k, h => by simp at h
  | p :: l, 0, h => ⟨rfl, rfl⟩
  | p :: l, k + 1, h => by
    have := flatS_get l k (by simpa using h)
    rw [show (k + 1) * 2 = k * 2 + 1 + 1 by omega]
    exact this
theorem flatS_one (l : List Spot) : ∀ u ∈ flatS l, u.oneCell' = true := by
  intro u hu
  obtain ⟨x, hx, hu⟩ := List.mem_flatMap.1 hu
  simp at hu
  rcases hu with rfl | rfl <;> rfl
def SRow (w : World) (B : Nat) (v : Value) (l : List Spot) : Prop := w.ownsRow B 111 2 v l.length (flatS l)

theorem flatK_S (l : List Spot) : (flatK encSp 2 l.toArray).toList = flatS l := by
  apply List.ext_getElem?
  intro t
  have hsz : (flatK encSp 2 l.toArray).size = l.length * 2 := by rw [size_flatK]; simp
  by_cases ht : t < l.length * 2
  · have h1 := get_flatK encSp 2 l.toArray t (by simpa using ht)
    have hk : t / 2 < l.length := by omega
    obtain ⟨g0, g1⟩ := flatS_get l (t / 2) hk
    rw [Array.getElem?_toList, Array.getElem?_eq_getElem (by omega)]
    rw [getElem!_pos (flatK encSp 2 l.toArray) t (by omega)] at h1
    rw [h1]
    have hd : (l.toArray)[t / 2]! = l[t / 2] := by rw [getElem!_pos l.toArray (t / 2) (by simpa using hk)]; simp
    rw [hd]
    rcases Nat.mod_two_eq_zero_or_one t with e | e
    · rw [e]
      have : t / 2 * 2 = t := by omega
      rw [this] at g0
      rw [g0]; rfl
    · rw [e]
      have : t / 2 * 2 + 1 = t := by omega
      rw [this] at g1
      rw [g1]; rfl
  · rw [List.getElem?_eq_none (by rw [Array.length_toList]; omega), List.getElem?_eq_none (by rw [flatS_len]; omega)]

theorem holds_of_srow {w : World} {B g n cap : Nat} {l : List Spot} (h : SRow w B (.slice (some ⟨g, 0, none⟩) n cap) l) : HoldsK encSp 2 w g 0 l.toArray := by
  intro j hj
  rw [size_flatK] at hj
  have hc := World.ownsRow.cells h (g := g) rfl
  have hj' : j < (flatK encSp 2 l.toArray).size := by rw [size_flatK]; exact hj
  have e1 : (flatS l)[j]? = some (flatK encSp 2 l.toArray)[j]! := by
    rw [← flatK_S, Array.getElem?_toList, Array.getElem?_eq_getElem hj', getElem!_pos _ j hj']
  refine ⟨?_, ?_⟩
  · have := hc j _ e1
    rw [Addr.add_lit] at this
    exact this
  · rcases h.2 with ⟨h1, h2⟩ | ⟨g', cap', cur, h1, h2, h3, h4⟩
    · cases h1
    · simp only [Value.slice.injEq, Option.some.injEq, Addr.mk.injEq] at h1
      obtain ⟨⟨rfl, -, -⟩, -, -⟩ := h1
      simp [World.frozen?, h3]

/-- what the sort leaves: the row, sorted; all else as it was -/
theorem sorted_world {w w' : World} {B g n cap m : Nat} {l d : List Spot} {os : Array Obj} (h : SRow w B (.slice (some ⟨g, 0, none⟩) n cap) l) (hd : d.length = l.length) (hw : w' = sortWorldK encSp 2 w g 0 m d.toArray os) :
    SRow w' B (.slice (some ⟨g, 0, none⟩) n cap) d ∧ Fr (fun k => k = g) w w' := by
  have hH := holds_of_srow h
  rcases h.2 with ⟨h1, h2⟩ | ⟨g', cap', cur, h1, hB, h3, h4, h5, h6, h7⟩
  · cases h1
  simp only [Value.slice.injEq, Option.some.injEq, Addr.mk.injEq] at h1
  obtain ⟨⟨rfl, -, -⟩, rfl, rfl⟩ := h1
  have hlt : g < w.heap.size := (Array.getElem?_eq_some_iff.1 h3).1
  have hH2 : HoldsK encSp 2 w' g 0 d.toArray := by
    rw [hw]; exact holdsK_sortWorldK_c (enc := encSp) (k := 2) (w := w) (blk := g) (off := 0) (d := l.toArray) (dk := d.toArray) (m := m) (os := os) (hH := hH) (hblk := hlt) (hs := by simpa using hd)
  have hbk : ∃ cur', w'.heap[g]? = some (.cells cur' 111 (0, 0)) ∧ cur'.size = cur.size := by
    refine ⟨putCells id 0 (flatK encSp 2 d.toArray) cur, ?_, by simp [putCells]⟩
    rw [hw]
    unfold sortWorldK putRowK
    rw [heap_grow_old _ _ (by simpa using hlt)]
    simp only [putRow, mapBlock, Sort.ahead]
    rw [Array.getElem?_modify, if_pos rfl, h3]
    rfl
  obtain ⟨cur', hb', hs'⟩ := hbk
  refine ⟨⟨by rw [flatS_len], .inr ⟨g, cap, cur', by rw [hd], hB, hb', by omega, h5, by omega, ?_⟩⟩, ?_⟩
  · apply List.ext_getElem?
    intro j
    by_cases hj : j < d.length * 2
    · have hj' : j < (flatK encSp 2 d.toArray).size := by rw [size_flatK]; simpa using hj
      have hc := (hH2 j hj').1
      rw [Nat.zero_add, cell_of_row w' g j cur' _ (0, 0) hb'] at hc
      rw [List.getElem?_take_of_lt hj, Array.getElem?_toList, hc, ← flatK_S, Array.getElem?_toList, Array.getElem?_eq_getElem hj', getElem!_pos _ j hj']
      rfl
    · rw [List.getElem?_eq_none (by rw [List.length_take]; omega), List.getElem?_eq_none (by rw [flatS_len]; omega)]
  · rw [hw]
    refine ⟨rfl, rfl, rfl, ?_, fun k hk hne => ?_⟩
    · exact size_sortWorldK_c (enc := encSp) (k := 2) (w := w) (blk := g) (off := 0) (m := m) (dk := d.toArray) (os := os)
    · unfold sortWorldK putRowK
      rw [heap_grow_old _ _ (by simpa using hk)]
      simp only [putRow, mapBlock, Sort.ahead]
      rw [Array.getElem?_modify, if_neg (fun e => hne e.symm)]
end Go.Proofs.YtjfpeklfgnajoaaGreat.L6
