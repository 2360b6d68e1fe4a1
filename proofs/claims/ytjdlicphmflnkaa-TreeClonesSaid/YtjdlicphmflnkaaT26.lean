/-
  Layer 5: a Tree; Put.
-/
import Derived.Test.YtjdlicphmflnkaaT19
import Derived.Test.YtjdlicphmflnkaaT21
namespace Go.Proofs.Ytjdlicphmflnkaa.L5
open Go.ChangeShapes Go.WideShapes Go.ChangeAt Go.RowKit By Reg
set_option linter.unusedVariables false

/-- a Tree with something in it -/
structure Full (w : World) (p : Nat) (L : List Th) (d : Nat) (s : Sub) : Prop where
  blk : Blk w p 26 [ptrv s.b, i64 L.length]
  held : Held d w s
  one : 1 ≤ s.n
  eight : s.n ≤ 8
  two : 0 < d → 2 ≤ s.n
  srt : Srt s.M
  items : items s.M = L
  off : ¬ s.F p

def TreeAt (w : World) (p : Nat) (L : List Th) (F : Nat → Prop) : Prop :=
  (Blk w p 26 [.pointer none, i64 0] ∧ L = [] ∧ ∀ k, F k ↔ k = p) ∨ ∃ d s, Full w p L d s ∧ ∀ k, F k ↔ (k = p ∨ s.F k)

theorem Full.tree {w : World} {p : Nat} {L : List Th} {d : Nat} {s : Sub} (h : Full w p L d s) : TreeAt w p L (fun k => k = p ∨ s.F k) := .inr ⟨d, s, h, fun _ => Iff.rfl⟩

theorem putL_length (x y : Int) : ∀ L : List Th, Rise L → ((putL x y L).length : Int) = L.length + (if (getL x L).isSome then 0 else 1)
  | [], _ => by simp [putL, getL]
  | t :: L, h => by
    have h' := List.pairwise_cons.1 h
    rw [putL, getL]
    by_cases h1 : t.1 < x
    · rw [if_pos h1, if_neg (show ¬ t.1 = x by omega)]
      have := putL_length x y L h'.2
      simp only [List.length_cons, Int.natCast_add]
      omega
    · rw [if_neg h1]
      by_cases h2 : t.1 = x
      · rw [if_pos h2, if_pos h2]
        simp
      · rw [if_neg h2, if_neg h2, getL_gt (x := x) (fun u hu => by have := h'.1 u hu; omega)]
        simp

theorem sizeptr : (Try.prog.info? 24).map (·.size) = some 1 := by kernel_rfl
theorem sizeint : (Try.prog.info? 3).map (·.size) = some 1 := by kernel_rfl

/-- the post of Put -/
def TPut (x y : Int) (w : World) (p : Nat) (L : List Th) (F : Nat → Prop) (e : Ending) (w' : World) : Prop :=
  ∃ F', e = .returned (.tuple #[i64 ((getL x L).getD 0), .bool (getL x L).isSome]) ∧ TreeAt w' p (putL x y L) F' ∧ Fr F w w' ∧ (∀ k, F' k → F k ∨ w.heap.size ≤ k)

/-- the parts behind put, put together -/
theorem put_fin {x y : Int} {w w1 w' : World} {p : Nat} {L : List Th} {d : Nat} {s s1 : Sub} (h : Full w p L d s) (hh : Held d w1 s1) (t : Tn w s w1 s1) (hn : 1 ≤ s1.n) (h8 : s1.n ≤ 8) (h2 : s.n ≤ s1.n) (hs : Srt s1.M) (hi : items s1.M = putL x y L)
    (hb : Blk w' p 26 [ptrv s.b, i64 (putL x y L).length]) (hw : Wrote p w1 w') :
    ∃ F', TreeAt w' p (putL x y L) F' ∧ Fr (fun k => k = p ∨ s.F k) w w' ∧ (∀ k, F' k → (k = p ∨ s.F k) ∨ w.heap.size ≤ k) := by
  have hp : ¬ s1.F p := fun hp => by
    rcases t.F p hp with h' | h'
    · exact h.off h'
    · have := h.blk.lt; omega
  refine ⟨_, Full.tree (d := d) (s := s1) ⟨by rw [t.b]; exact hb, hh.same d fun k hk => hw.block k (fun e => hp (by rw [← e]; exact hk)), hn, h8, fun hd => by have := h.two hd; omega, hs, hi, hp⟩, ?_, fun k hk => ?_⟩
  · exact (t.fr.mono (fun k hk _ => .inr hk)).wrote hw (.inl (.inl rfl))
  · rcases hk with hk | hk
    · exact .inl (.inl hk)
    · rcases t.F k hk with h' | h'
      · exact .inl (.inr h')
      · exact .inr h'

/-- a new root over the old one -/
theorem open_root {w2 w3 w4 : World} {d : Nat} {s1 : Sub} {p : Nat} (hh : Held d w2 s1) (hp : ¬ s1.F p) (hpl : p < w2.heap.size)
    (e3 : w3 = (w2.alloc (.cells #[ptrv s1.b] 24)).alloc (.cells #[.slice none 0 0, .slice none 0 0, .slice (some ⟨w2.heap.size, 0, none⟩) 1 1] 70)) (hw : Wrote p w3 w4) :
    OpenP (Held d) w4 ⟨w2.heap.size + 1, 1, s1.M, fun k => (k = w2.heap.size + 1 ∨ k = w2.heap.size) ∨ s1.F k⟩ ⟨w2.heap.size + 1, .slice none 0 0, .slice none 0 0, .slice (some ⟨w2.heap.size, 0, none⟩) 1 1, [], [], [s1.b]⟩ [s1] := by
  have hs1 : (w2.alloc (.cells #[ptrv s1.b] 24)).heap.size = w2.heap.size + 1 := by simp
  have r1 : Rb w2 (w2.alloc (.cells #[ptrv s1.b] 24)) := (Below.refl _ w2).alloc (Nat.le_refl _) _
  have r2 : Rb (w2.alloc (.cells #[ptrv s1.b] 24)) w3 := by rw [e3]; exact (Below.refl _ _).alloc (Nat.le_refl _) _
  have b1 : Blk w3 w2.heap.size 24 [ptrv s1.b] := (Blk.new w2 _ [ptrv s1.b]).rb r2
  have b2 : Blk w3 (w2.heap.size + 1) 70 [.slice none 0 0, .slice none 0 0, .slice (some ⟨w2.heap.size, 0, none⟩) 1 1] := by
    rw [e3, ← hs1]
    exact Blk.new _ _ [.slice none 0 0, .slice none 0 0, .slice (some ⟨w2.heap.size, 0, none⟩) 1 1]
  have b1' := b1.same (hw.block _ (by omega))
  have b2' := b2.same (hw.block _ (by omega))
  have lt := hh.lt d
  have h4 : Held d w4 s1 := ((hh.rb r1).rb r2).same d fun k hk => hw.block k (fun e => hp (by rw [← e]; exact hk))
  refine ⟨⟨b2', Row.nil _ _, Row.nil _ _, ?_⟩, rfl, rfl, rfl, rfl, rfl, ?_, fun c hc => ?_, ?_, fun c hc k hk hk' => ?_, fun k => ?_⟩
  · exact Row.mk' (xs := [ptrv s1.b]) (rest := []) b1' (by unfold maxLen; simp)
  · show s1.M = s1.M ++ postW [] []
    simp [postW]
  · simp at hc; subst hc; exact h4
  · simp
  · simp at hc; subst hc
    have := lt k hk'
    rcases hk with hk | hk | hk | hk
    · dsimp only at hk; omega
    · cases hk
    · cases hk
    · cases hk; simp at this
  · constructor
    · rintro ((h | h) | h)
      · exact .inl (.inl h)
      · exact .inl (.inr (.inr (.inr (by rw [h]; rfl))))
      · exact .inr ⟨s1, by simp, h⟩
    · rintro (h | ⟨c, hc, h⟩)
      · rcases h with h | h | h | h
        · exact .inl (.inl h)
        · cases h
        · cases h
        · cases h; exact .inl (.inr rfl)
      · simp at hc; subst hc; exact .inr h
set_option maxHeartbeats 4000000 in
set_option maxRecDepth 100000 in
theorem tput_full (x y : Int) (w : World) (p : Nat) (L : List Th) (d : Nat) (s : Sub) (h : Full w p L d s) (hL : L.length ≤ 100000) :
    Calls Try.prog 16 #[ptrv p, i64 x, i64 y] w (TPut x y w p L (fun k => k = p ∨ s.F k)) := by
  have CP := Lib.hid (put_any x y d w s [] [] h.held h.eight (by simpa using h.srt) (fun a ha => by cases ha) (fun b hb => by cases hb))
  have b0 := h.blk.cell 0
  have HF := Lib.hid h
  have hr : Rise L := by rw [← h.items]; exact rise_items h.srt
  have HPL := Lib.hid (putL_length x y L hr)
  have hi := h.items
  have hLb : L.length ≤ 100000 := hL
  unfold PutPost at CP
  rw [hi] at CP
  obtain ⟨g1, hg1⟩ : ∃ g1, g1 = (getL x L).getD 0 := ⟨_, rfl⟩
  rw [← hg1] at CP
  unfold TPut
  rw [← hg1]
  have HG1 := Lib.hid hg1
  clear hr hi hg1 h
  cases hg : (getL x L).isSome
  · -- a new key
    rw [hg] at CP HPL
    simp only [Bool.false_eq_true, if_false] at HPL
    clear hg
    go_enter Try.func16, Try.ntmps16
    go_wp2_with (go_at_call 31; refine CP.out.mono ?_)
    first | (rintro e w1 s1 rfl hh t e1 e2 e3 e4 e5) | (rintro e w1 ⟨s1, rfl, hh, t, e1, e2, e3, e4, e5⟩)
    have hb1 : Blk w1 p 26 [ptrv s.b, i64 L.length] := HF.out.blk.same (t.fr.block _ HF.out.blk.lt HF.out.off)
    have hoff : ¬ s1.F p := fun hp => by
      rcases t.F p hp with h' | h'
      · exact HF.out.off h'
      · have := HF.out.blk.lt; omega
    have c0 := hb1.cell 0
    have c1 := hb1.cell 1
    have HB1 := Lib.hid hb1
    have H1 : Hid (Held d w1 s1 ∧ Tn w s w1 s1 ∧ s.n ≤ s1.n ∧ s1.n ≤ s.n + 1 ∧ 1 ≤ s1.n ∧ Srt s1.M ∧ items s1.M = putL x y L ∧ ¬ s1.F p) := ⟨hh, t, e1, e2, e3, by simpa using e4, e5, hoff⟩
    have hw1 : IntKind.i64.wrap ((L.length : Int) + 1) = (L.length : Int) + 1 := by rw [IntKind.wrap_i64]; omega
    clear hh t e1 e2 e3 e4 e5 hb1 hoff CP
    go_wp2_with (refine wpList_store rfl 3 _ _ rfl p 1 26 _ [_] _ rfl rfl HB1.out rfl sizeint (by simp) (one1 rfl) ?_)
    intro w2 hb2 hw2
    have hh2 : Held d w2 s1 := H1.out.1.same d fun k hk => hw2.block k (fun e => H1.out.2.2.2.2.2.2.2 (by rw [← e]; exact hk))
    have hlen : ((L.length : Int) + 1) = ((putL x y L).length : Int) := HPL.out.symm
    have hb2' : Blk w2 p 26 [ptrv s.b, i64 (putL x y L).length] := by
      rw [← hlen]; exact hb2
    have d0 := hb2'.cell 0
    have SC := Lib.hid (size_sub hh2)
    rw [H1.out.2.1.b] at SC
    have HB2 := Lib.hid hb2'
    have HW2 := Lib.hid hw2
    have HH2 := Lib.hid hh2
    clear hb2 hb2' hw2 hh2 hw1 c0 c1 hlen
    by_cases h8 : (s1.n : Int) > 8
    · obtain ⟨w3, e3⟩ : ∃ w3, w3 = (w2.alloc (.cells #[ptrv s1.b] 24)).alloc (.cells #[.slice none 0 0, .slice none 0 0, .slice (some ⟨w2.heap.size, 0, none⟩) 1 1] 70) := ⟨_, rfl⟩
      have hpl : p < w2.heap.size := HB2.out.lt
      have r3 : Rb w2 w3 := by
        rw [e3]
        exact Below.trans ((Below.refl _ w2).alloc (Nat.le_refl _) _) (((Below.refl _ _).alloc (Nat.le_refl _) _).mono (by simp))
      have HB3 := Lib.hid (HB2.out.rb r3)
      have HR3 := Lib.hid r3
      have E3 := Lib.hid e3
      rw [H1.out.2.1.b] at e3
      have hsz : (w2.alloc (.cells #[ptrv s.b] 24)).heap.size = w2.heap.size + 1 := by simp
      clear r3
      go_wp2_with (first | (go_at_call 32; refine SC.out.mono ?_; rintro e w' ⟨rfl, rfl⟩) | (rw [← e3]; refine wpList_store rfl 24 _ _ rfl p 0 26 _ [ptrv (w2.heap.size + 1)] _ rfl rfl HB3.out rfl sizeptr (by simp) (one1 rfl) ?_))
      intro w4 hb4 hw4
      rw [← e3] at hw4
      have OR := open_root HH2.out H1.out.2.2.2.2.2.2.2 hpl E3.out hw4
      have SP := split_any d w4 _ _ [] [] s1 OR (by simp) (by omega) (by have a := H1.out.2.2.2.1; have b := HF.out.eight; omega)
      have SP' : Hid (Calls Try.prog 33 #[ptrv (w2.heap.size + 1), i64 0] w4 _) := SP
      have q0 := hb4.cell 0
      have HB4 : Hid (Blk w4 p 26 [ptrv (w2.heap.size + 1), i64 (putL x y L).length]) := hb4
      have HW4 := Lib.hid hw4
      clear OR SP hb4 hw4 e3 hsz
      go_wp2_with (go_at_call 33; refine SP'.out.mono ?_)
      first | (rintro e w5 v rfl s4 N4 c1 c2 o4 t4 n4 x4 m1 m2) | (rintro e w5 ⟨⟨v, rfl⟩, s4, N4, c1, c2, o4, t4, n4, x4, m1, m2⟩)
      have H4 : Hid (OpenP (Held d) w5 s4 N4 ([] ++ c1 :: c2 :: []) ∧ Tn w4 _ w5 s4 ∧ s4.n = 1 + 1 ∧ Ext s1.M s4.M ∧ c1.n = s1.n / 2 ∧ c2.n = s1.n - s1.n / 2) := ⟨o4, t4, n4, x4, m1, m2⟩
      clear o4 t4 n4 x4 m1 m2
      go_wp2
      go_ret2
      obtain ⟨o4, t4, n4, x4, m1, m2⟩ := H4.out
      obtain ⟨h1, t, f1, f2, f3, f4, f5, f6⟩ := H1.out
      have h8s := HF.out.eight
      have hsz2 := HW2.out.size
      have hsz1 := t.fr.size
      have hsz3 := HR3.out.size
      have hpw := HF.out.blk.lt
      have off4 : ¬ s4.F p := fun hp => by
        rcases t4.F p hp with h' | h'
        · rcases h' with (h' | h') | h'
          · omega
          · omega
          · exact f6 h'
        · have := HB4.out.lt; omega
      refine ⟨_, rfl, Full.tree (d := d + 1) (s := s4) ⟨?_, ⟨N4, _, o4, fun z hz => ?_⟩, by omega, by omega, fun _ => by omega, ?_, ?_, off4⟩, ?_, fun k hk => ?_⟩
      · have hb5 := HB4.out.same (t4.fr.block _ HB4.out.lt (fun h' => by
          rcases h' with (h' | h') | h'
          · omega
          · omega
          · exact f6 h'))
        rw [t4.b]
        exact hb5
      · simp only [List.nil_append, List.mem_cons, List.not_mem_nil, or_false] at hz
        rcases hz with rfl | rfl
        · omega
        · omega
      · have := x4.1 [] [] (by simpa using f4)
        simpa using this
      · rw [x4.2, f5]
      · refine ((((t.fr.mono (G := fun k => k = p ∨ s.F k) (fun k hk _ => .inr hk)).wrote HW2.out (.inl (.inl rfl))).then_rb HR3.out).wrote HW4.out (.inl (.inl rfl))).trans t4.fr (fun k hk => ?_)
        rcases hk with (h' | h') | h'
        · exact .inr (by omega)
        · exact .inr (by omega)
        · rcases t.F k h' with h'' | h''
          · exact .inl (.inr h'')
          · exact .inr h''
      · have hsz4 := HW4.out.size
        rcases hk with hk | hk
        · exact .inl (.inl hk)
        · rcases t4.F k hk with (h' | h') | h'
          · rcases h' with h' | h'
            · exact .inr (by omega)
            · exact .inr (by omega)
          · rcases t.F k h' with h'' | h''
            · exact .inl (.inr h'')
            · exact .inr h''
          · exact .inr (by omega)
    · go_wp2_with (go_at_call 32; refine SC.out.mono ?_; rintro e w' ⟨rfl, rfl⟩)
      go_ret2
      obtain ⟨h1, t, f1, f2, f3, f4, f5, f6⟩ := H1.out
      obtain ⟨F', q1, q2, q3⟩ := put_fin HF.out h1 t f3 (by omega) f1 f4 f5 HB2.out HW2.out
      exact ⟨F', rfl, q1, q2, q3⟩
  · -- the key was there
    rw [hg] at CP HPL
    simp only [if_true, Int.add_zero] at HPL
    clear hg
    go_enter Try.func16, Try.ntmps16
    go_wp2_with (go_at_call 31; refine CP.out.mono ?_)
    first | (rintro e w1 s1 rfl hh t e1 e2 e3 e4 e5) | (rintro e w1 ⟨s1, rfl, hh, t, e1, e2, e3, e4, e5⟩)
    have hb1 : Blk w1 p 26 [ptrv s.b, i64 L.length] := HF.out.blk.same (t.fr.block _ HF.out.blk.lt HF.out.off)
    have hoff : ¬ s1.F p := fun hp => by
      rcases t.F p hp with h' | h'
      · exact HF.out.off h'
      · have := HF.out.blk.lt; omega
    have c0 := hb1.cell 0
    have c1 := hb1.cell 1
    have HB1 := Lib.hid hb1
    have H1 : Hid (Held d w1 s1 ∧ Tn w s w1 s1 ∧ s.n ≤ s1.n ∧ s1.n ≤ s.n + 1 ∧ 1 ≤ s1.n ∧ Srt s1.M ∧ items s1.M = putL x y L ∧ ¬ s1.F p) := ⟨hh, t, e1, e2, e3, by simpa using e4, e5, hoff⟩
    clear hh t e1 e2 e3 e4 e5 hb1 hoff CP
    obtain ⟨w2, hww⟩ : ∃ w2, w2 = w1 := ⟨_, rfl⟩
    rw [← hww]
    have hh2 : Held d w2 s1 := by rw [hww]; exact H1.out.1
    have hw2 : Wrote p w1 w2 := by rw [hww]; exact ⟨rfl, rfl, rfl, rfl, fun _ _ => rfl⟩
    have hlen : (L.length : Int) = ((putL x y L).length : Int) := HPL.out.symm
    have hb2' : Blk w2 p 26 [ptrv s.b, i64 (putL x y L).length] := by
      rw [← hlen, hww]; exact HB1.out
    have d0 := hb2'.cell 0
    have SC := Lib.hid (size_sub hh2)
    rw [H1.out.2.1.b] at SC
    have HB2 := Lib.hid hb2'
    have HW2 := Lib.hid hw2
    have HH2 := Lib.hid hh2
    clear hb2' hw2 hh2 c0 c1 hlen hww
    by_cases h8 : (s1.n : Int) > 8
    · obtain ⟨w3, e3⟩ : ∃ w3, w3 = (w2.alloc (.cells #[ptrv s1.b] 24)).alloc (.cells #[.slice none 0 0, .slice none 0 0, .slice (some ⟨w2.heap.size, 0, none⟩) 1 1] 70) := ⟨_, rfl⟩
      have hpl : p < w2.heap.size := HB2.out.lt
      have r3 : Rb w2 w3 := by
        rw [e3]
        exact Below.trans ((Below.refl _ w2).alloc (Nat.le_refl _) _) (((Below.refl _ _).alloc (Nat.le_refl _) _).mono (by simp))
      have HB3 := Lib.hid (HB2.out.rb r3)
      have HR3 := Lib.hid r3
      have E3 := Lib.hid e3
      rw [H1.out.2.1.b] at e3
      have hsz : (w2.alloc (.cells #[ptrv s.b] 24)).heap.size = w2.heap.size + 1 := by simp
      clear r3
      go_wp2_with (first | (go_at_call 32; refine SC.out.mono ?_; rintro e w' ⟨rfl, rfl⟩) | (rw [← e3]; refine wpList_store rfl 24 _ _ rfl p 0 26 _ [ptrv (w2.heap.size + 1)] _ rfl rfl HB3.out rfl sizeptr (by simp) (one1 rfl) ?_))
      intro w4 hb4 hw4
      rw [← e3] at hw4
      have OR := open_root HH2.out H1.out.2.2.2.2.2.2.2 hpl E3.out hw4
      have SP := split_any d w4 _ _ [] [] s1 OR (by simp) (by omega) (by have a := H1.out.2.2.2.1; have b := HF.out.eight; omega)
      have SP' : Hid (Calls Try.prog 33 #[ptrv (w2.heap.size + 1), i64 0] w4 _) := SP
      have q0 := hb4.cell 0
      have HB4 : Hid (Blk w4 p 26 [ptrv (w2.heap.size + 1), i64 (putL x y L).length]) := hb4
      have HW4 := Lib.hid hw4
      clear OR SP hb4 hw4 e3 hsz
      go_wp2_with (go_at_call 33; refine SP'.out.mono ?_)
      first | (rintro e w5 v rfl s4 N4 c1 c2 o4 t4 n4 x4 m1 m2) | (rintro e w5 ⟨⟨v, rfl⟩, s4, N4, c1, c2, o4, t4, n4, x4, m1, m2⟩)
      have H4 : Hid (OpenP (Held d) w5 s4 N4 ([] ++ c1 :: c2 :: []) ∧ Tn w4 _ w5 s4 ∧ s4.n = 1 + 1 ∧ Ext s1.M s4.M ∧ c1.n = s1.n / 2 ∧ c2.n = s1.n - s1.n / 2) := ⟨o4, t4, n4, x4, m1, m2⟩
      clear o4 t4 n4 x4 m1 m2
      go_wp2
      go_ret2
      obtain ⟨o4, t4, n4, x4, m1, m2⟩ := H4.out
      obtain ⟨h1, t, f1, f2, f3, f4, f5, f6⟩ := H1.out
      have h8s := HF.out.eight
      have hsz2 := HW2.out.size
      have hsz1 := t.fr.size
      have hsz3 := HR3.out.size
      have hpw := HF.out.blk.lt
      have off4 : ¬ s4.F p := fun hp => by
        rcases t4.F p hp with h' | h'
        · rcases h' with (h' | h') | h'
          · omega
          · omega
          · exact f6 h'
        · have := HB4.out.lt; omega
      refine ⟨_, rfl, Full.tree (d := d + 1) (s := s4) ⟨?_, ⟨N4, _, o4, fun z hz => ?_⟩, by omega, by omega, fun _ => by omega, ?_, ?_, off4⟩, ?_, fun k hk => ?_⟩
      · have hb5 := HB4.out.same (t4.fr.block _ HB4.out.lt (fun h' => by
          rcases h' with (h' | h') | h'
          · omega
          · omega
          · exact f6 h'))
        rw [t4.b]
        exact hb5
      · simp only [List.nil_append, List.mem_cons, List.not_mem_nil, or_false] at hz
        rcases hz with rfl | rfl
        · omega
        · omega
      · have := x4.1 [] [] (by simpa using f4)
        simpa using this
      · rw [x4.2, f5]
      · refine ((((t.fr.mono (G := fun k => k = p ∨ s.F k) (fun k hk _ => .inr hk)).wrote HW2.out (.inl (.inl rfl))).then_rb HR3.out).wrote HW4.out (.inl (.inl rfl))).trans t4.fr (fun k hk => ?_)
        rcases hk with (h' | h') | h'
        · exact .inr (by omega)
        · exact .inr (by omega)
        · rcases t.F k h' with h'' | h''
          · exact .inl (.inr h'')
          · exact .inr h''
      · have hsz4 := HW4.out.size
        rcases hk with hk | hk
        · exact .inl (.inl hk)
        · rcases t4.F k hk with (h' | h') | h'
          · rcases h' with h' | h'
            · exact .inr (by omega)
            · exact .inr (by omega)
          · rcases t.F k h' with h'' | h''
            · exact .inl (.inr h'')
            · exact .inr h''
          · exact .inr (by omega)
    · go_wp2_with (go_at_call 32; refine SC.out.mono ?_; rintro e w' ⟨rfl, rfl⟩)
      go_ret2
      obtain ⟨h1, t, f1, f2, f3, f4, f5, f6⟩ := H1.out
      obtain ⟨F', q1, q2, q3⟩ := put_fin HF.out h1 t f3 (by omega) f1 f4 f5 HB2.out HW2.out
      exact ⟨F', rfl, q1, q2, q3⟩
set_option maxHeartbeats 4000000 in
set_option maxRecDepth 100000 in
theorem tput_empty (x y : Int) (w : World) (p : Nat) (hb : Blk w p 26 [.pointer none, i64 0]) :
    Calls Try.prog 16 #[ptrv p, i64 x, i64 y] w (TPut x y w p [] (fun k => k = p)) := by
  have b0 := hb.cell 0
  have HB0 := Lib.hid hb
  obtain ⟨w1, e1⟩ : ∃ w1, w1 = w.alloc (.cells #[.slice none 0 0, .slice none 0 0, .slice none 0 0] 70) := ⟨_, rfl⟩
  have r1 : Rb w w1 := by rw [e1]; exact (Below.refl _ w).alloc (Nat.le_refl _) _
  have HB1 := Lib.hid (hb.rb r1)
  have NB : Hid (Blk w1 w.heap.size 70 [.slice none 0 0, .slice none 0 0, .slice none 0 0]) := by rw [e1]; exact Blk.new w _ [.slice none 0 0, .slice none 0 0, .slice none 0 0]
  have R1 := Lib.hid r1
  clear r1 hb
  unfold TPut
  go_enter Try.func16, Try.ntmps16
  go_wp2_with (rw [← e1]; refine wpList_store rfl 24 _ _ rfl p 0 26 _ [ptrv w.heap.size] _ rfl rfl HB1.out rfl sizeptr (by simp) (one1 rfl) ?_)
  intro w2 hb2 hw2
  rw [← e1] at hw2
  have hp : p ≠ w.heap.size := by have := HB0.out.lt; omega
  have hn : NodeAt w2 ⟨w.heap.size, .slice none 0 0, .slice none 0 0, .slice none 0 0, [], [], []⟩ := ⟨NB.out.same (hw2.block _ (fun e => hp e.symm)), Row.nil _ _, Row.nil _ _, Row.nil _ _⟩
  have hh : Held 0 w2 ⟨w.heap.size, 0, [], fun k => k = w.heap.size⟩ := ⟨_, hn, rfl, rfl, rfl, rfl, rfl, fun k => by
    constructor
    · intro h; exact .inl h
    · rintro (h | h | h | h)
      · exact h
      · cases h
      · cases h
      · cases h⟩
  have CP0 := put_any x y 0 w2 ⟨w.heap.size, 0, [], fun k => k = w.heap.size⟩ [] [] hh (Nat.zero_le _) (by simp [Srt]) (fun a ha => by cases ha) (fun b hb => by cases hb)
  have CP : Hid (Calls Try.prog 31 #[ptrv w.heap.size, i64 x, i64 y] w2 (PutPost x y 0 w2 ⟨w.heap.size, 0, [], fun k => k = w.heap.size⟩ [] [])) := CP0
  have c0 := hb2.cell 0
  have HB2 : Hid (Blk w2 p 26 [ptrv w.heap.size, i64 0]) := hb2
  have HW2 := Lib.hid hw2
  clear hb2 hw2 hn hh CP0 b0
  go_wp2_with (go_at_call 31; refine CP.out.mono ?_)
  rintro e w3 hp3
  obtain ⟨s1, rfl, hh, t, f1, f2, f3, f4, f5⟩ := hp3
  have hitem : items ([] : List Tok) = [] := rfl
  have ef : items s1.M = putL x y [] := f5
  have hoff : ¬ s1.F p := fun h' => by
    rcases t.F p h' with h | h
    · exact hp h
    · have := HB2.out.lt; omega
  have hb3 := HB2.out.same (t.fr.block _ HB2.out.lt (fun h => hp h))
  have c1 := hb3.cell 0
  have c2 := hb3.cell 1
  have HB3 : Hid (Blk w3 p 26 [ptrv w.heap.size, i64 0]) := hb3
  have f2' : s1.n ≤ 0 + 1 := f2
  have H1 : Hid (Held 0 w3 s1 ∧ Tn w2 ⟨w.heap.size, 0, [], fun k => k = w.heap.size⟩ w3 s1 ∧ s1.n = 1 ∧ Srt s1.M ∧ items s1.M = putL x y [] ∧ ¬ s1.F p ∧ s1.b = w.heap.size) := ⟨hh, t, by omega, by simpa using f4, ef, hoff, t.b⟩
  clear hh t f1 f2 f2' f3 f4 f5 ef hoff hb3 CP hitem c0
  have eg : (getL x (items ([] : List Tok))).getD 0 = 0 := rfl
  have eg2 : (getL x (items ([] : List Tok))).isSome = false := rfl
  dsimp only [eg, eg2]
  rw [show (getL x (items [])) = none from rfl]
  dsimp only [Option.getD, Option.isSome]
  have hw1 : IntKind.i64.wrap ((0 : Int) + 1) = 1 := by decide
  clear eg eg2
  go_wp2_with (refine wpList_store rfl 3 _ _ rfl p 1 26 _ [_] _ rfl rfl HB3.out rfl sizeint (by simp) (one1 rfl) ?_)
  intro w4 hb4 hw4
  have hh4 : Held 0 w4 s1 := H1.out.1.same 0 fun k hk => hw4.block k (fun e => H1.out.2.2.2.2.2.1 (by rw [← e]; exact hk))
  have SC := Lib.hid (size_sub hh4)
  rw [H1.out.2.2.2.2.2.2, H1.out.2.2.1] at SC
  have HB4 : Hid (Blk w4 p 26 [ptrv w.heap.size, i64 1]) := hb4
  have d0 := HB4.out.cell 0
  have HH4 := Lib.hid hh4
  have HW4 := Lib.hid hw4
  clear hb4 hw4 hh4 c1 c2 hw1
  go_wp2_with (go_at_call 32; refine SC.out.mono ?_; rintro e w' ⟨rfl, rfl⟩)
  go_ret2
  obtain ⟨hh, t, f1, f2, f3, f4, f5⟩ := H1.out
  have hsz2 := HW2.out.size
  have hszr := R1.out.size
  refine ⟨_, rfl, Full.tree (d := 0) (s := s1) ⟨by rw [f5]; exact HB4.out, HH4.out, by omega, by omega, fun h => absurd h (by decide), f2, f3, f4⟩, ?_, fun k hk => ?_⟩
  · refine ((((Fr.of_rb (F := fun k => k = p) R1.out).wrote HW2.out (.inl rfl)).trans t.fr (fun k hk => ?_))).wrote HW4.out (.inl rfl)
    exact .inr (by have : k = w.heap.size := hk; omega)
  · rcases hk with hk | hk
    · exact .inl hk
    · rcases t.F k hk with h | h
      · have : k = w.heap.size := h
        exact .inr (by omega)
      · exact .inr (by omega)

theorem tput (x y : Int) (w : World) (p : Nat) (L : List Th) (F : Nat → Prop) (h : TreeAt w p L F) (hL : L.length ≤ 100000) :
    Calls Try.prog 16 #[ptrv p, i64 x, i64 y] w (TPut x y w p L F) := by
  rcases h with ⟨hb, rfl, hF⟩ | ⟨d, s, h, hF⟩
  · refine (tput_empty x y w p hb).mono ?_
    rintro e w' ⟨F', h1, h2, h3, h4⟩
    refine ⟨F', h1, h2, h3.mono (fun k hk _ => (hF k).2 hk), fun k hk => ?_⟩
    rcases h4 k hk with h | h
    · exact .inl ((hF k).2 h)
    · exact .inr h
  · refine (tput_full x y w p L d s h hL).mono ?_
    rintro e w' ⟨F', h1, h2, h3, h4⟩
    refine ⟨F', h1, h2, h3.mono (fun k hk _ => (hF k).2 hk), fun k hk => ?_⟩
    rcases h4 k hk with h | h
    · exact .inl ((hF k).2 h)
    · exact .inr h
end Go.Proofs.Ytjdlicphmflnkaa.L5
