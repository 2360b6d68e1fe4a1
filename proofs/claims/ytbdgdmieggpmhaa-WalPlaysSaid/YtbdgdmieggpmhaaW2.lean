/-
  Layer 4: reading frames, as plain mathematics.
-/
import Derived.Test.YtbdgdmieggpmhaaW1
namespace Go.Proofs.Ytbdgdmieggpmhaa.L4
open Go.ChangeShapes Go.WideShapes Go.ChangeAt Go.RowKit Oct By Reg L3
set_option linter.unusedVariables false

theorem wordB_inj {n m : Nat} (hn : n < 4294967296) (hm : m < 4294967296) (h : wordB n = wordB m) : n = m := by
  have hc := congrArg (fun l : List UInt8 => l.map UInt8.toNat) h
  simp only [wordB, List.map_cons, List.map_nil, UInt8.toNat_ofNat', List.cons.injEq, and_true] at hc
  omega
theorem wacc4_lt (ys : List UInt8) : wacc ys 4 < 4294967296 := wacc_lt ys 4
theorem wacc_word (n : Nat) (hn : n < 4294967296) (r : List UInt8) : wacc (wordB n ++ r) 4 = n := by
  refine wordB_inj (wacc4_lt _) hn ?_
  rw [word_take _ (by rw [List.length_append, wordB_len]; omega), ← wordB_len n, List.take_left]

theorem gt_drop (X : List UInt8) (i j : Nat) (hi : i ≤ X.length) : gt X ((i : Int) + j) X.length = gt (X.drop i) j (X.drop i).length := by
  have hgu : gu X ((i : Int) + j) = gu (X.drop i) j := by
    unfold gu
    have e : ((i : Int) + j).toNat = i + j := by omega
    rw [List.length_drop, e, Int.toNat_natCast, List.drop_drop]
    by_cases h : i + j ≤ X.length
    · rw [if_pos ⟨by omega, by omega⟩, if_pos ⟨by omega, by omega⟩]
    · rw [if_neg (fun h' => by omega), if_neg (fun h' => by omega)]
  unfold gt
  rw [hgu]
  cases hg : gu (X.drop i) j with
  | none => rfl
  | some p =>
    obtain ⟨n, k⟩ := p
    simp only []
    have hl : (X.drop i).length = X.length - i := List.length_drop
    have e1 : ((i : Int) + j).toNat + k = i + (j + k) := by omega
    have e2 : ((j : Nat) : Int).toNat + k = j + k := by omega
    rw [e1, e2, List.drop_drop]
    by_cases h : i + j + k + n ≤ X.length
    · rw [if_pos ⟨by omega, by omega⟩, if_pos ⟨by omega, by omega⟩]
    · rw [if_neg (fun h' => by omega), if_neg (fun h' => by omega)]

/-- what GetText finds is what PutText writes -/
theorem gt_text {Y : List UInt8} {i : Nat} {most : Int} {s : List UInt8} {m : Nat} (h : gt Y i most = some (s, m)) : (Y.drop i).take m = textB s ∧ i + m ≤ Y.length ∧ m = sizeN s.length + s.length ∧ s.length < 18446744073709551616 := by
  unfold gt at h
  cases hg : gu Y i with
  | none => rw [hg] at h; cases h
  | some p =>
    obtain ⟨n, k⟩ := p
    obtain ⟨g1, g2, g3, g4, g5, g6⟩ := gu_lt hg
    rw [hg] at h
    simp only [] at h
    split at h
    · rename_i hc
      simp only [Option.some.injEq, Prod.mk.injEq] at h
      obtain ⟨rfl, rfl⟩ := h
      rw [Int.toNat_natCast] at g6 ⊢
      have hsl : ((Y.drop (i + k)).take n).length = n := by rw [List.length_take, List.length_drop]; omega
      have hk : sizeN n = k := by
        have := congrArg List.length g6
        rw [List.length_take, List.length_drop] at this
        unfold sizeN
        omega
      refine ⟨?_, by omega, by rw [hsl, hk], by rw [hsl]; exact g1⟩
      rw [textB, hsl, ← g6, List.take_add, List.drop_drop]
    · cases h

/-- the generation and the text of the frame that bytes begin with -/
def headF (Y : List UInt8) : Option (Nat × List UInt8) :=
  if 4 ≤ Y.length then
    match gt Y (4 : Nat) Y.length with
    | none => none
    | some (s, _) => if Y.take (frameB (wacc Y 4) s).length = frameB (wacc Y 4) s then some (wacc Y 4, s) else none
  else none

theorem headF_some {Y : List UInt8} {g : Nat} {s : List UInt8} (h : headF Y = some (g, s)) : g < 4294967296 ∧ s.length < 18446744073709551616 ∧ (∃ r, Y = frameB g s ++ r) := by
  unfold headF at h
  split at h
  · cases hg : gt Y (4 : Nat) Y.length with
    | none => rw [hg] at h; cases h
    | some p =>
      obtain ⟨s', m⟩ := p
      rw [hg] at h
      simp only [] at h
      split at h
      · rename_i hc
        simp only [Option.some.injEq, Prod.mk.injEq] at h
        obtain ⟨rfl, rfl⟩ := h
        obtain ⟨_, _, _, h4⟩ := gt_text hg
        refine ⟨wacc4_lt _, h4, ⟨Y.drop (frameB (wacc Y 4) s').length, ?_⟩⟩
        have he := List.take_append_drop (frameB (wacc Y 4) s').length Y
        rw [hc] at he
        exact he.symm
      · cases h
  · cases h
theorem headF_frame (g : Nat) (s r : List UInt8) (hg : g < 4294967296) (hs : s.length < 18446744073709551616) : headF (frameB g s ++ r) = some (g, s) := by
  have hl := frameB_len g s
  have e0 : frameB g s ++ r = wordB g ++ (uintB s.length ++ (s ++ (wordB (sumN (headB g s)) ++ r))) := by
    simp [frameB, headB, textB]
  have hw : wacc (frameB g s ++ r) 4 = g := by rw [e0]; exact wacc_word g hg _
  have ht : gt (frameB g s ++ r) (4 : Nat) (frameB g s ++ r).length = some (s, sizeN s.length + s.length) :=
    gt_at (wordB g) _ s _ _ _ hs (by rw [List.length_append]; omega) e0 (by rw [wordB_len])
  unfold headF
  rw [if_pos (by rw [List.length_append]; omega), ht]
  simp only []
  rw [hw, List.take_left, if_pos rfl]

/-- by the parts, as the code has it -/
theorem headF_parts {Y : List UInt8} {s : List UInt8} {m : Nat} (h4 : 4 ≤ Y.length) (h : gt Y (4 : Nat) Y.length = some (s, m)) :
    Y.take (4 + m) = headB (wacc Y 4) s ∧ 4 + m ≤ Y.length ∧ (headB (wacc Y 4) s).length = 4 + m ∧ (frameB (wacc Y 4) s).length = 4 + m + 4 ∧
    headF Y = if 4 + m + 4 ≤ Y.length ∧ wacc (Y.drop (4 + m)) 4 = sumN (headB (wacc Y 4) s) then some (wacc Y 4, s) else none := by
  obtain ⟨t1, t2, t3, t4⟩ := gt_text h
  have hw := word_take Y h4
  have e1 : Y.take (4 + m) = headB (wacc Y 4) s := by rw [headB, hw, ← t1, List.take_add]
  have e2 : (headB (wacc Y 4) s).length = 4 + m := by rw [headB_len, t3]; omega
  have e3 : (frameB (wacc Y 4) s).length = 4 + m + 4 := by rw [frameB_len, t3]; omega
  refine ⟨e1, t2, e2, e3, ?_⟩
  unfold headF
  rw [if_pos h4, h]
  simp only []
  rw [e3, List.take_add (i := 4 + m), e1, frameB]
  by_cases hl : 4 + m + 4 ≤ Y.length
  · have hw2 := word_take (Y.drop (4 + m)) (by rw [List.length_drop]; omega)
    by_cases hs : wacc (Y.drop (4 + m)) 4 = sumN (headB (wacc Y 4) s)
    · rw [if_pos (by rw [← hw2, hs]), if_pos ⟨hl, hs⟩]
    · rw [if_neg (fun h' => hs (wordB_inj (wacc4_lt _) (sumN_lt _) (by rw [hw2]; exact List.append_cancel_left h'))), if_neg (fun h' => hs h'.2)]
  · rw [if_neg (fun h' => ?_), if_neg (fun h' => hl h'.1)]
    have := congrArg List.length h'
    rw [List.length_append, List.length_append, List.length_take, List.length_drop, wordB_len] at this
    omega

/-- the frames of a generation that bytes begin with -/
def scanL (g : Nat) : Nat → List UInt8 → List (List UInt8)
  | 0, _ => []
  | f + 1, Y => match headF Y with
    | some (g', s) => if g' = g then s :: scanL g f (Y.drop (frameB g s).length) else []
    | none => []
def rowsL (g : Nat) (Y : List UInt8) : List (List UInt8) := scanL g Y.length Y
def lenL (g : Nat) : List (List UInt8) → Nat
  | [] => 0
  | s :: l => (frameB g s).length + lenL g l
def frames (g : Nat) : List (List UInt8) → List UInt8
  | [] => []
  | s :: l => frameB g s ++ frames g l
theorem frames_len (g : Nat) : ∀ l, (frames g l).length = lenL g l
  | [] => rfl
  | s :: l => by rw [frames, lenL, List.length_append, frames_len g l]
theorem frames_append (g : Nat) : ∀ l m, frames g (l ++ m) = frames g l ++ frames g m
  | [], m => rfl
  | s :: l, m => by rw [List.cons_append, frames, frames, frames_append g l m, List.append_assoc]
theorem lenL_append (g : Nat) (l m : List (List UInt8)) : lenL g (l ++ m) = lenL g l + lenL g m := by
  rw [← frames_len, frames_append, List.length_append, frames_len, frames_len]

theorem frameB_pos (g : Nat) (s : List UInt8) : 8 < (frameB g s).length := by have := sizeN_pos s.length; rw [frameB_len]; omega

/-- enough fuel is as good as any -/
theorem scanL_fuel (g : Nat) : ∀ (f : Nat) (Y : List UInt8), Y.length ≤ f → scanL g f Y = rowsL g Y := by
  have main : ∀ (n f1 f2 : Nat) (Y : List UInt8), Y.length ≤ n → Y.length ≤ f1 → Y.length ≤ f2 → scanL g f1 Y = scanL g f2 Y := by
    intro n
    induction n with
    | zero =>
      intro f1 f2 Y h0 h1 h2
      have hY : Y = [] := List.eq_nil_of_length_eq_zero (by omega)
      subst hY
      have hn : headF [] = none := rfl
      cases f1 <;> cases f2 <;> simp [scanL, hn]
    | succ n ih =>
      intro f1 f2 Y h0 h1 h2
      by_cases hY : Y = []
      · subst hY
        have hn : headF [] = none := rfl
        cases f1 <;> cases f2 <;> simp [scanL, hn]
      · have hp : 0 < Y.length := List.length_pos_iff.2 hY
        obtain ⟨a, rfl⟩ : ∃ a, f1 = a + 1 := ⟨f1 - 1, by omega⟩
        obtain ⟨b, rfl⟩ : ∃ b, f2 = b + 1 := ⟨f2 - 1, by omega⟩
        rw [scanL, scanL]
        cases hh : headF Y with
        | none => rfl
        | some p =>
          obtain ⟨g', s⟩ := p
          simp only []
          split
          · have := frameB_pos g s
            rw [ih a b _ (by rw [List.length_drop]; omega) (by rw [List.length_drop]; omega) (by rw [List.length_drop]; omega)]
          · rfl
  intro f Y h
  exact main Y.length f Y.length Y (Nat.le_refl _) h (Nat.le_refl _)

theorem rowsL_step {g : Nat} {Y s : List UInt8} (h : headF Y = some (g, s)) : rowsL g Y = s :: rowsL g (Y.drop (frameB g s).length) := by
  obtain ⟨_, _, r, hr⟩ := headF_some h
  have hp := frameB_pos g s
  have hl : (frameB g s).length ≤ Y.length := by rw [hr, List.length_append]; omega
  obtain ⟨n, hn⟩ : ∃ n, Y.length = n + 1 := ⟨Y.length - 1, by omega⟩
  unfold rowsL
  rw [hn, scanL, h]
  simp only [if_true]
  rw [scanL_fuel g n _ (by rw [List.length_drop]; omega)]
  rfl
theorem rowsL_none {g : Nat} {Y : List UInt8} (h : headF Y = none) : rowsL g Y = [] := by
  unfold rowsL
  cases Y.length <;> simp [scanL, h]
theorem rowsL_other {g g' : Nat} {Y s : List UInt8} (h : headF Y = some (g', s)) (hg : g' ≠ g) : rowsL g Y = [] := by
  unfold rowsL
  cases Y.length <;> simp [scanL, h, hg]

/-- what is scanned is what stands there -/
theorem rowsL_stand (g : Nat) : ∀ (n : Nat) (Y : List UInt8), Y.length ≤ n → ∃ r, Y = frames g (rowsL g Y) ++ r := by
  intro n
  induction n with
  | zero =>
    intro Y h
    have hY : Y = [] := List.eq_nil_of_length_eq_zero (by omega)
    subst hY
    exact ⟨[], rfl⟩
  | succ n ih =>
    intro Y h
    cases hh : headF Y with
    | none => rw [rowsL_none hh]; exact ⟨Y, rfl⟩
    | some p =>
      obtain ⟨g', s⟩ := p
      by_cases hg : g' = g
      · subst hg
        obtain ⟨_, _, r, hr⟩ := headF_some hh
        have hp := frameB_pos g' s
        have hd : Y.drop (frameB g' s).length = r := by rw [hr, List.drop_left]
        have hlen := congrArg List.length hr
        rw [List.length_append] at hlen
        obtain ⟨r', hr'⟩ := ih r (by omega)
        refine ⟨r', ?_⟩
        rw [rowsL_step hh, hd, frames, List.append_assoc, ← hr']
        exact hr
      · rw [rowsL_other hh hg]; exact ⟨Y, rfl⟩
theorem lenL_le (g : Nat) (Y : List UInt8) : lenL g (rowsL g Y) ≤ Y.length := by
  obtain ⟨r, hr⟩ := rowsL_stand g Y.length Y (Nat.le_refl _)
  have := congrArg List.length hr
  rw [List.length_append, frames_len] at this
  omega
theorem take_lenL (g : Nat) (Y : List UInt8) : Y.take (lenL g (rowsL g Y)) = frames g (rowsL g Y) := by
  obtain ⟨r, hr⟩ := rowsL_stand g Y.length Y (Nat.le_refl _)
  have h2 : Y.take (frames g (rowsL g Y)).length = (frames g (rowsL g Y) ++ r).take (frames g (rowsL g Y)).length := by rw [← hr]
  rw [← frames_len, h2, List.take_left]
/-- frames behind frames -/
theorem rowsL_frames (g : Nat) (hg : g < 4294967296) (Y : List UInt8) : ∀ (l : List (List UInt8)), (∀ s ∈ l, s.length < 18446744073709551616) → rowsL g (frames g l ++ Y) = l ++ rowsL g Y
  | [], _ => rfl
  | s :: l, h => by
    have h1 := headF_frame g s (frames g l ++ Y) hg (h s List.mem_cons_self)
    rw [frames, List.append_assoc, rowsL_step h1, List.drop_left, rowsL_frames g hg Y l fun x hx => h x (List.mem_cons_of_mem _ hx)]
    rfl
theorem rowsL_lt (g : Nat) (Y : List UInt8) : ∀ s ∈ rowsL g Y, s.length ≤ Y.length := by
  intro s hs
  obtain ⟨r, hr⟩ := rowsL_stand g Y.length Y (Nat.le_refl _)
  have hm : ∀ (l : List (List UInt8)), s ∈ l → s.length ≤ (frames g l).length := by
    intro l
    induction l with
    | nil => intro h; cases h
    | cons a l ih =>
      intro h
      rw [frames, List.length_append]
      rcases List.mem_cons.1 h with rfl | h
      · rw [frameB_len]; omega
      · have := ih h; omega
  have h1 := hm _ hs
  have h2 := congrArg List.length hr
  rw [List.length_append] at h2
  omega
/-- what is scanned is scanned again, alone -/
theorem rowsL_again (g : Nat) (hg : g < 4294967296) (Y : List UInt8) (hY : Y.length < 18446744073709551616) : rowsL g (frames g (rowsL g Y)) = rowsL g Y := by
  have h := rowsL_frames g hg [] (rowsL g Y) (fun s hs => by have := rowsL_lt g Y s hs; omega)
  rw [List.append_nil] at h
  rw [h]
  show _ ++ [] = _
  rw [List.append_nil]

/-- the text of just such bytes -/
def imageF (Y : List UInt8) : Option (Nat × List UInt8) := match headF Y with
  | some (g, s) => if (frameB g s).length = Y.length then some (g, s) else none
  | none => none
theorem imageF_frame (g : Nat) (s : List UInt8) (hg : g < 4294967296) (hs : s.length < 18446744073709551616) : imageF (frameB g s) = some (g, s) := by
  have h := headF_frame g s [] hg hs
  rw [List.append_nil] at h
  unfold imageF
  rw [h]
  simp
theorem imageF_some {Y : List UInt8} {g : Nat} {s : List UInt8} (h : imageF Y = some (g, s)) : Y = frameB g s ∧ g < 4294967296 ∧ s.length < 18446744073709551616 := by
  unfold imageF at h
  cases hh : headF Y with
  | none => rw [hh] at h; cases h
  | some p =>
    obtain ⟨g', s'⟩ := p
    rw [hh] at h
    simp only [] at h
    split at h
    · rename_i hl
      simp only [Option.some.injEq, Prod.mk.injEq] at h
      obtain ⟨rfl, rfl⟩ := h
      obtain ⟨h1, h2, r, hr⟩ := headF_some hh
      have := congrArg List.length hr
      rw [List.length_append] at this
      have hr0 : r = [] := List.eq_nil_of_length_eq_zero (by omega)
      subst hr0
      exact ⟨by rw [hr, List.append_nil], h1, h2⟩
    · cases h
end Go.Proofs.Ytbdgdmieggpmhaa.L4
