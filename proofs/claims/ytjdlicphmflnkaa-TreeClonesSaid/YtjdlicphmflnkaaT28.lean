/-
  Layer 5: a Tree: Delete.
-/
import Derived.Test.YtjdlicphmflnkaaT27
import Derived.Test.YtjdlicphmflnkaaT22
namespace Go.Proofs.Ytjdlicphmflnkaa.L5
open Go.ChangeShapes Go.WideShapes Go.ChangeAt Go.RowKit By Reg
set_option linter.unusedVariables false

theorem delL_length (x : Int) : ∀ L : List Th, Rise L → ((delL x L).length : Int) = L.length - (if (getL x L).isSome then 1 else 0)
  | [], _ => by simp [delL, getL]
  | t :: L, h => by
    have h' := List.pairwise_cons.1 h
    have e : delL x (t :: L) = if t.1 = x then delL x L else t :: delL x L := by
      unfold delL
      rw [List.filter_cons]
      by_cases h2 : t.1 = x
      · simp [h2]
      · simp [h2]
    rw [e, getL]
    by_cases h2 : t.1 = x
    · rw [if_pos h2, if_pos h2, delL_gt (x := x) (fun u hu => by have := h'.1 u hu; omega)]
      simp
    · rw [if_neg h2, if_neg h2]
      have := delL_length x L h'.2
      simp only [List.length_cons, Int.natCast_add]
      omega

def TDel (x : Int) (w : World) (p : Nat) (L : List Th) (F : Nat → Prop) (e : Ending) (w' : World) : Prop :=
  ∃ F', e = .returned (.tuple #[i64 ((getL x L).getD 0), .bool (getL x L).isSome]) ∧ TreeAt w' p (delL x L) F' ∧ Fr F w w' ∧ (∀ k, F' k → F k ∨ w.heap.size ≤ k)

/-- the parts of a root -/
theorem Held.parts : ∀ {d : Nat} {w : World} {s : Sub}, Held d w s → ∃ ao cap, w.cell? ⟨s.b, 2, none⟩ = some (.slice ao (if d = 0 then 0 else s.n) cap)
  | 0, w, s, ⟨N, h⟩ => by
    obtain ⟨ao, cap, h1, _, _⟩ := h.na.pform
    have c2 := h.na.c2
    rw [h.b, h1, h.ps] at c2
    exact ⟨ao, cap, c2⟩
  | d + 1, w, s, ⟨N, cs, h, _⟩ => by
    obtain ⟨ao, cap, h1, _, _⟩ := h.na.pform
    have c2 := h.na.c2
    rw [h.b, h1, h.ps, List.length_map, ← h.n] at c2
    exact ⟨ao, cap, by rw [if_neg (by omega)]; exact c2⟩

theorem tn_off {w w1 : World} {p : Nat} {s s1 : Sub} (t : Tn w s w1 s1) (ho : ¬ s.F p) (hp : p < w.heap.size) : ¬ s1.F p := fun h => by
  rcases t.F p h with h' | h'
  · exact ho h'
  · omega

set_option maxHeartbeats 4000000 in
set_option maxRecDepth 100000 in
theorem tdel_full (x : Int) (w : World) (p : Nat) (L : List Th) (d : Nat) (s : Sub) (h : Full w p L d s) (hL : L.length ≤ 100000) :
    Calls Try.prog 15 #[ptrv p, i64 x] w (TDel x w p L (fun k => k = p ∨ s.F k)) := by
  have CE := Lib.hid (tempty_yes w p s.b _ h.blk)
  have CP := Lib.hid (take_any x d w s [] [] h.held h.eight h.two (by simpa using h.srt) (fun a ha => by cases ha) (fun b hb => by cases hb))
  have b0 := h.blk.cell 0
  have HF := Lib.hid h
  have hr : Rise L := by rw [← h.items]; exact rise_items h.srt
  have HPL := Lib.hid (delL_length x L hr)
  have hi := h.items
  have hLb : L.length ≤ 100000 := hL
  unfold TakePost at CP
  rw [hi] at CP
  obtain ⟨g1, hg1⟩ : ∃ g1, g1 = (getL x L).getD 0 := ⟨_, rfl⟩
  rw [← hg1] at CP
  unfold TDel
  rw [← hg1]
  clear hr hi hg1 h
  cases hg : (getL x L).isSome
  · rw [hg] at CP HPL
    simp only [Bool.false_eq_true, if_false, Int.sub_zero] at HPL
    clear hg
    go_enter Try.func15, Try.ntmps15
    go_wp2_with (first | (go_at_call 28; refine CE.out.mono ?_; rintro e w' ⟨rfl, rfl⟩) | (go_at_call 30; refine CP.out.mono ?_))
    first | (rintro e w1 s1 rfl hh t e1 e2 e4 e5) | (rintro e w1 ⟨s1, rfl, hh, t, e1, e2, e4, e5⟩)
    have hb1 : Blk w1 p 26 [ptrv s.b, i64 L.length] := HF.out.blk.same (t.fr.block _ HF.out.blk.lt HF.out.off)
    have hoff : ¬ s1.F p := tn_off t HF.out.off HF.out.blk.lt
    have HB1 := Lib.hid hb1
    have H1 : Hid (Held d w1 s1 ∧ Tn w s w1 s1 ∧ s1.n ≤ s.n ∧ s.n ≤ s1.n + 1 ∧ Srt s1.M ∧ items s1.M = delL x L ∧ ¬ s1.F p) := ⟨hh, t, e1, e2, by simpa using e4, e5, hoff⟩
    clear hh t e1 e2 e4 e5 hoff CP
    obtain ⟨w2, hww⟩ : ∃ w2, w2 = w1 := ⟨_, rfl⟩
    rw [← hww]
    have hw2 : Wrote p w1 w2 := by rw [hww]; exact ⟨rfl, rfl, rfl, rfl, fun _ _ => rfl⟩
    have hlen : (L.length : Int) = ((delL x L).length : Int) := HPL.out.symm
    have hb2' : Blk w2 p 26 [ptrv s.b, i64 (delL x L).length] := by
      rw [← hlen, hww]; exact hb1
    clear hww hb1 hlen
    have hh2 : Held d w2 s1 := H1.out.1.same d fun k hk => hw2.block k (fun e => H1.out.2.2.2.2.2.2 (by rw [← e]; exact hk))
    have HB2 := Lib.hid hb2'
    have HW2 := Lib.hid hw2
    have HH2 := Lib.hid hh2
    have d1 := hb2'.cell 1
    have d0 := hb2'.cell 0
    clear hw2 hh2
    by_cases h0 : delL x L = []
    · have hl0 : (((delL x L).length : Int) == 0) = true := by rw [h0]; rfl
      have HB3 : Hid (Blk w2 p 26 [ptrv s.b, i64 0]) := by
        have := HB2.out
        rw [h0] at this
        exact this
      have H0 := Lib.hid h0
      clear h0 hb2'
      go_wp2_with (refine wpList_store rfl 24 _ _ rfl p 0 26 _ [.pointer none] _ rfl rfl HB3.out rfl sizeptr (by simp) (one1 rfl) ?_)
      intro w3 hb3 hw3
      have HB4 : Hid (Blk w3 p 26 [.pointer none, i64 0]) := hb3
      have HW3 := Lib.hid hw3
      clear hb3 hw3
      go_wp2
      go_ret2
      obtain ⟨h1, t, f1, f2, f3, f4, f5⟩ := H1.out
      refine ⟨fun k => k = p, rfl, .inl ⟨HB4.out, H0.out, fun _ => Iff.rfl⟩, ?_, fun k hk => .inl (.inl hk)⟩
      exact ((t.fr.mono (G := fun k => k = p ∨ s.F k) (fun k hk _ => .inr hk)).wrote HW2.out (.inl (.inl rfl))).wrote HW3.out (.inl (.inl rfl))
    · have hl0 : (((delL x L).length : Int) == 0) = false := by
        rw [beq_eq_false_iff_ne]
        intro e
        exact h0 (List.eq_nil_of_length_eq_zero (by omega))
      have hlp : 0 < (delL x L).length := by
        rcases Nat.eq_zero_or_pos (delL x L).length with e | e
        · exact absurd (List.eq_nil_of_length_eq_zero e) h0
        · exact e
      have H0 := Lib.hid hlp
      obtain ⟨ao, cap, hpc⟩ := HH2.out.parts
      rw [H1.out.2.1.b] at hpc
      clear h0 hlp hb2'
      by_cases hone : d ≠ 0 ∧ s1.n = 1
      · rw [if_neg hone.1, hone.2] at hpc
        obtain ⟨d', rfl⟩ : ∃ d', d = d' + 1 := ⟨d - 1, by omega⟩
        obtain ⟨N, cs, o, hcs⟩ := HH2.out
        obtain ⟨c, rfl⟩ : ∃ c, cs = [c] := by
          have := o.n
          rw [hone.2] at this
          cases cs with
          | nil => simp at this
          | cons c cs =>
            cases cs with
            | nil => exact ⟨c, rfl⟩
            | cons _ _ => simp at this
        obtain ⟨g, cap', q1, q2, q3⟩ := part_at (l := []) (r := []) o
        simp only [List.length_nil, Nat.zero_add] at q1 q2 q3
        rw [H1.out.2.1.b] at q1
        have HO : Hid (OpenP (Held d') w2 s1 N [c] ∧ 4 ≤ c.n ∧ c.n ≤ 8) := ⟨o, hcs c (by simp)⟩
        clear o hcs hpc
        go_wp2_with (refine wpList_store rfl 24 _ _ rfl p 0 26 _ [ptrv c.b] _ rfl rfl HB2.out rfl sizeptr (by simp) (one1 rfl) ?_)
        intro w3 hb3 hw3
        have HB4 : Hid (Blk w3 p 26 [ptrv c.b, i64 (delL x L).length]) := hb3
        have HW3 := Lib.hid hw3
        clear hb3 hw3
        go_wp2
        go_ret2
        obtain ⟨h1, t, f1, f2, f3, f4, f5⟩ := H1.out
        obtain ⟨o, o1, o2⟩ := HO.out
        have cF : ∀ k, c.F k → s1.F k := fun k hk => (o.F k).2 (.inr ⟨c, by simp, hk⟩)
        have eM : s1.M = c.M := by
          rw [o.M]
          have : N.ks = [] := List.eq_nil_of_length_eq_zero (by have := o.len; simp only [List.length_singleton] at this; omega)
          rw [this]
          show c.M ++ postW [] [] = c.M
          simp [postW]
        refine ⟨_, rfl, Full.tree (d := d') (s := c) ⟨HB4.out, (o.held c (by simp)).same d' fun k hk => HW3.out.block k (fun e => f5 (by rw [← e]; exact cF k hk)), by omega, o2, fun _ => by omega, by rw [← eM]; exact f3, by rw [← eM]; exact f4, fun hp => f5 (cF p hp)⟩, ?_, fun k hk => ?_⟩
        · exact ((t.fr.mono (G := fun k => k = p ∨ s.F k) (fun k hk _ => .inr hk)).wrote HW2.out (.inl (.inl rfl))).wrote HW3.out (.inl (.inl rfl))
        · rcases hk with hk | hk
          · exact .inl (.inl hk)
          · rcases t.F k (cF k hk) with h' | h'
            · exact .inl (.inr h')
            · exact .inr h'
      · have hne : (((if d = 0 then 0 else s1.n : Nat) : Int) == 1) = false := by
          rw [beq_eq_false_iff_ne]
          intro e
          by_cases hd : d = 0
          · rw [if_pos hd] at e; omega
          · rw [if_neg hd] at e
            exact hone ⟨hd, by omega⟩
        have HON := Lib.hid hone
        generalize (if d = 0 then 0 else s1.n) = m at hpc hne
        clear hone
        go_wp2
        go_ret2
        obtain ⟨h1, t, f1, f2, f3, f4, f5⟩ := H1.out
        have h1n : 1 ≤ s1.n := by
          have h2 := HF.out.two
          by_cases hd : d = 0
          · subst hd
            obtain ⟨N, hN⟩ := HH2.out
            have hl := H0.out
            rw [← f4, hN.M, items_map, List.length_zip, hN.len, Nat.min_self, ← hN.n] at hl
            exact hl
          · have := h2 (by omega); omega
        have h8 := HF.out.eight
        refine ⟨_, rfl, Full.tree (d := d) (s := s1) ⟨by rw [t.b]; exact HB2.out, HH2.out, h1n, by omega, fun hd => ?_, f3, f4, f5⟩, ?_, fun k hk => ?_⟩
        · have hq : ¬ (d ≠ 0 ∧ s1.n = 1) := HON.out
          by_cases h1 : s1.n = 1
          · exact absurd ⟨by omega, h1⟩ hq
          · omega
        · exact ((t.fr.mono (G := fun k => k = p ∨ s.F k) (fun k hk _ => .inr hk)).wrote HW2.out (.inl (.inl rfl)))
        · rcases hk with hk | hk
          · exact .inl (.inl hk)
          · rcases t.F k hk with h' | h'
            · exact .inl (.inr h')
            · exact .inr h'
  · rw [hg] at CP HPL
    simp only [if_true] at HPL
    clear hg
    go_enter Try.func15, Try.ntmps15
    go_wp2_with (first | (go_at_call 28; refine CE.out.mono ?_; rintro e w' ⟨rfl, rfl⟩) | (go_at_call 30; refine CP.out.mono ?_))
    first | (rintro e w1 s1 rfl hh t e1 e2 e4 e5) | (rintro e w1 ⟨s1, rfl, hh, t, e1, e2, e4, e5⟩)
    have hb1 : Blk w1 p 26 [ptrv s.b, i64 L.length] := HF.out.blk.same (t.fr.block _ HF.out.blk.lt HF.out.off)
    have hoff : ¬ s1.F p := tn_off t HF.out.off HF.out.blk.lt
    have HB1 := Lib.hid hb1
    have H1 : Hid (Held d w1 s1 ∧ Tn w s w1 s1 ∧ s1.n ≤ s.n ∧ s.n ≤ s1.n + 1 ∧ Srt s1.M ∧ items s1.M = delL x L ∧ ¬ s1.F p) := ⟨hh, t, e1, e2, by simpa using e4, e5, hoff⟩
    have c1 := hb1.cell 1
    have hw1 : IntKind.i64.wrap ((L.length : Int) - 1) = (L.length : Int) - 1 := by rw [IntKind.wrap_i64]; omega
    clear hh t e1 e2 e4 e5 hb1 hoff CP
    go_wp2_with (refine wpList_store rfl 3 _ _ rfl p 1 26 _ [_] _ rfl rfl HB1.out rfl sizeint (by simp) (one1 rfl) ?_)
    intro w2 hb2 hw2
    have hlen : ((L.length : Int) - 1) = ((delL x L).length : Int) := HPL.out.symm
    have hb2' : Blk w2 p 26 [ptrv s.b, i64 (delL x L).length] := by
      rw [← hlen]; exact hb2
    clear hb2 hw1 c1 hlen
    have hh2 : Held d w2 s1 := H1.out.1.same d fun k hk => hw2.block k (fun e => H1.out.2.2.2.2.2.2 (by rw [← e]; exact hk))
    have HB2 := Lib.hid hb2'
    have HW2 := Lib.hid hw2
    have HH2 := Lib.hid hh2
    have d1 := hb2'.cell 1
    have d0 := hb2'.cell 0
    clear hw2 hh2
    by_cases h0 : delL x L = []
    · have hl0 : (((delL x L).length : Int) == 0) = true := by rw [h0]; rfl
      have HB3 : Hid (Blk w2 p 26 [ptrv s.b, i64 0]) := by
        have := HB2.out
        rw [h0] at this
        exact this
      have H0 := Lib.hid h0
      clear h0 hb2'
      go_wp2_with (refine wpList_store rfl 24 _ _ rfl p 0 26 _ [.pointer none] _ rfl rfl HB3.out rfl sizeptr (by simp) (one1 rfl) ?_)
      intro w3 hb3 hw3
      have HB4 : Hid (Blk w3 p 26 [.pointer none, i64 0]) := hb3
      have HW3 := Lib.hid hw3
      clear hb3 hw3
      go_wp2
      go_ret2
      obtain ⟨h1, t, f1, f2, f3, f4, f5⟩ := H1.out
      refine ⟨fun k => k = p, rfl, .inl ⟨HB4.out, H0.out, fun _ => Iff.rfl⟩, ?_, fun k hk => .inl (.inl hk)⟩
      exact ((t.fr.mono (G := fun k => k = p ∨ s.F k) (fun k hk _ => .inr hk)).wrote HW2.out (.inl (.inl rfl))).wrote HW3.out (.inl (.inl rfl))
    · have hl0 : (((delL x L).length : Int) == 0) = false := by
        rw [beq_eq_false_iff_ne]
        intro e
        exact h0 (List.eq_nil_of_length_eq_zero (by omega))
      have hlp : 0 < (delL x L).length := by
        rcases Nat.eq_zero_or_pos (delL x L).length with e | e
        · exact absurd (List.eq_nil_of_length_eq_zero e) h0
        · exact e
      have H0 := Lib.hid hlp
      obtain ⟨ao, cap, hpc⟩ := HH2.out.parts
      rw [H1.out.2.1.b] at hpc
      clear h0 hlp hb2'
      by_cases hone : d ≠ 0 ∧ s1.n = 1
      · rw [if_neg hone.1, hone.2] at hpc
        obtain ⟨d', rfl⟩ : ∃ d', d = d' + 1 := ⟨d - 1, by omega⟩
        obtain ⟨N, cs, o, hcs⟩ := HH2.out
        obtain ⟨c, rfl⟩ : ∃ c, cs = [c] := by
          have := o.n
          rw [hone.2] at this
          cases cs with
          | nil => simp at this
          | cons c cs =>
            cases cs with
            | nil => exact ⟨c, rfl⟩
            | cons _ _ => simp at this
        obtain ⟨g, cap', q1, q2, q3⟩ := part_at (l := []) (r := []) o
        simp only [List.length_nil, Nat.zero_add] at q1 q2 q3
        rw [H1.out.2.1.b] at q1
        have HO : Hid (OpenP (Held d') w2 s1 N [c] ∧ 4 ≤ c.n ∧ c.n ≤ 8) := ⟨o, hcs c (by simp)⟩
        clear o hcs hpc
        go_wp2_with (refine wpList_store rfl 24 _ _ rfl p 0 26 _ [ptrv c.b] _ rfl rfl HB2.out rfl sizeptr (by simp) (one1 rfl) ?_)
        intro w3 hb3 hw3
        have HB4 : Hid (Blk w3 p 26 [ptrv c.b, i64 (delL x L).length]) := hb3
        have HW3 := Lib.hid hw3
        clear hb3 hw3
        go_wp2
        go_ret2
        obtain ⟨h1, t, f1, f2, f3, f4, f5⟩ := H1.out
        obtain ⟨o, o1, o2⟩ := HO.out
        have cF : ∀ k, c.F k → s1.F k := fun k hk => (o.F k).2 (.inr ⟨c, by simp, hk⟩)
        have eM : s1.M = c.M := by
          rw [o.M]
          have : N.ks = [] := List.eq_nil_of_length_eq_zero (by have := o.len; simp only [List.length_singleton] at this; omega)
          rw [this]
          show c.M ++ postW [] [] = c.M
          simp [postW]
        refine ⟨_, rfl, Full.tree (d := d') (s := c) ⟨HB4.out, (o.held c (by simp)).same d' fun k hk => HW3.out.block k (fun e => f5 (by rw [← e]; exact cF k hk)), by omega, o2, fun _ => by omega, by rw [← eM]; exact f3, by rw [← eM]; exact f4, fun hp => f5 (cF p hp)⟩, ?_, fun k hk => ?_⟩
        · exact ((t.fr.mono (G := fun k => k = p ∨ s.F k) (fun k hk _ => .inr hk)).wrote HW2.out (.inl (.inl rfl))).wrote HW3.out (.inl (.inl rfl))
        · rcases hk with hk | hk
          · exact .inl (.inl hk)
          · rcases t.F k (cF k hk) with h' | h'
            · exact .inl (.inr h')
            · exact .inr h'
      · have hne : (((if d = 0 then 0 else s1.n : Nat) : Int) == 1) = false := by
          rw [beq_eq_false_iff_ne]
          intro e
          by_cases hd : d = 0
          · rw [if_pos hd] at e; omega
          · rw [if_neg hd] at e
            exact hone ⟨hd, by omega⟩
        have HON := Lib.hid hone
        generalize (if d = 0 then 0 else s1.n) = m at hpc hne
        clear hone
        go_wp2
        go_ret2
        obtain ⟨h1, t, f1, f2, f3, f4, f5⟩ := H1.out
        have h1n : 1 ≤ s1.n := by
          have h2 := HF.out.two
          by_cases hd : d = 0
          · subst hd
            obtain ⟨N, hN⟩ := HH2.out
            have hl := H0.out
            rw [← f4, hN.M, items_map, List.length_zip, hN.len, Nat.min_self, ← hN.n] at hl
            exact hl
          · have := h2 (by omega); omega
        have h8 := HF.out.eight
        refine ⟨_, rfl, Full.tree (d := d) (s := s1) ⟨by rw [t.b]; exact HB2.out, HH2.out, h1n, by omega, fun hd => ?_, f3, f4, f5⟩, ?_, fun k hk => ?_⟩
        · have hq : ¬ (d ≠ 0 ∧ s1.n = 1) := HON.out
          by_cases h1 : s1.n = 1
          · exact absurd ⟨by omega, h1⟩ hq
          · omega
        · exact ((t.fr.mono (G := fun k => k = p ∨ s.F k) (fun k hk _ => .inr hk)).wrote HW2.out (.inl (.inl rfl)))
        · rcases hk with hk | hk
          · exact .inl (.inl hk)
          · rcases t.F k hk with h' | h'
            · exact .inl (.inr h')
            · exact .inr h'

theorem tdel (x : Int) (w : World) (p : Nat) (L : List Th) (F : Nat → Prop) (h : TreeAt w p L F) (hL : L.length ≤ 100000) :
    Calls Try.prog 15 #[ptrv p, i64 x] w (TDel x w p L F) := by
  rcases h with ⟨hb, rfl, hF⟩ | ⟨d, s, h, hF⟩
  · have CE := Lib.hid (tempty_no w p 0 hb)
    have HB := Lib.hid hb
    have HF := Lib.hid hF
    clear hb hF
    unfold TDel
    dsimp only [getL, Option.getD, Option.isSome]
    go_enter Try.func15, Try.ntmps15
    go_wp2_with (go_at_call 28; refine CE.out.mono ?_; rintro e w' ⟨rfl, rfl⟩)
    go_ret2
    exact ⟨F, rfl, .inl ⟨HB.out, rfl, HF.out⟩, Fr.refl _ _, fun _ h => .inl h⟩
  · refine (tdel_full x w p L d s h hL).mono ?_
    rintro e w' ⟨F', h1, h2, h3, h4⟩
    refine ⟨F', h1, h2, h3.mono (fun k hk _ => (hF k).2 hk), fun k hk => ?_⟩
    rcases h4 k hk with h | h
    · exact .inl ((hF k).2 h)
    · exact .inr h
end Go.Proofs.Ytjdlicphmflnkaa.L5
