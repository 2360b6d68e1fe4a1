/-
  Layer 5: put, of a tree.
-/
import Derived.Test.YtjdlicphmflnkaaT18
namespace Go.Proofs.Ytjdlicphmflnkaa.L5
open Go.ChangeShapes Go.WideShapes Go.ChangeAt Go.RowKit By Reg
set_option linter.unusedVariables false

theorem PutPost.rb {x y : Int} {d : Nat} {w w1 : World} {s : Sub} {A B : List Tok} {e : Ending} {w' : World} (hr : Rb w w1) (h : PutPost x y d w1 s A B e w') : PutPost x y d w s A B e w' := by
  obtain ⟨s', h1, h2, h3, h4⟩ := h
  exact ⟨s', h1, h2, (Tn.of_rb s hr).trans h3, h4⟩

set_option maxHeartbeats 2000000 in
set_option maxRecDepth 100000 in
theorem put_leaf (x y : Int) (w : World) (s : Sub) (A B : List Tok) (h : Held 0 w s) (hn : s.n ≤ 100) (hs : Srt (A ++ (s.M ++ B))) (hA : ∀ a ∈ A, a.1 < 2 * x + 1) (hB : ∀ b ∈ B, 2 * x + 1 < b.1) :
    Calls Try.prog 31 #[ptrv s.b, i64 x, i64 y] w (PutPost x y 0 w s A B) := by
  obtain ⟨N, hN⟩ := h
  have CL := leaf_any w N hN.na
  have hle : isLeaf N = true := by unfold isLeaf; rw [hN.ps]; rfl
  rw [hle, hN.b] at CL
  have CL' := Lib.hid CL
  have CP := Lib.hid (puthere_any x y w s N A B hN hn hs hA hB)
  clear CL hN hle hs hA hB hn
  go_enter Try.func31, Try.ntmps31
  go_wp2_with (go_at_call 34; refine CL'.out.mono ?_; rintro e w' ⟨rfl, rfl⟩)
  refine CP.out.mono ?_
  rintro e w' hp
  obtain ⟨s', rfl, h2⟩ := hp
  have H2 := Lib.hid h2
  clear h2
  obtain ⟨g1, hg1⟩ : ∃ g1, g1 = (getL x (items s.M)).getD 0 := ⟨_, rfl⟩
  obtain ⟨g2, hg2⟩ : ∃ g2, g2 = (getL x (items s.M)).isSome := ⟨_, rfl⟩
  rw [← hg1, ← hg2]
  have G1 := Lib.hid hg1
  have G2 := Lib.hid hg2
  clear hg1 hg2
  go_wp2
  go_ret2
  refine ⟨s', ?_, H2.out⟩
  show Ending.returned (.tuple #[i64 g1, .bool g2]) = _
  rw [G1.out, G2.out]

set_option maxHeartbeats 4000000 in
set_option maxRecDepth 100000 in
theorem put_any (x y : Int) : ∀ (d : Nat) (w : World) (s : Sub) (A B : List Tok), Held d w s → s.n ≤ 8 → Srt (A ++ (s.M ++ B)) → (∀ a ∈ A, a.1 < 2 * x + 1) → (∀ b ∈ B, 2 * x + 1 < b.1) →
    Calls Try.prog 31 #[ptrv s.b, i64 x, i64 y] w (PutPost x y d w s A B)
  | 0, w, s, A, B, h, hn, hs, hA, hB => put_leaf x y w s A B h (by omega) hs hA hB
  | d + 1, w, s, A, B, h, hn, hs, hA, hB => by
    obtain ⟨N, cs, o, hcs⟩ := h
    obtain ⟨p, hr, hp, l, c, r, P, Q, rfl, hpl, at_⟩ := o.at_ hs x
    have hcl := o.len
    have hlen : N.ps.length = N.ks.length + 1 := by rw [o.ps, List.length_map]; exact o.len
    have hsn := o.n
    have cn := hcs c (by simp)
    have hle : isLeaf N = false := by unfold isLeaf; rw [decide_eq_false_iff_not]; omega
    have hs' := hs
    rw [at_.M] at hs'
    obtain ⟨k1, k2, k3⟩ := ctx hs' hA hB at_.lo at_.hi
    -- what is called
    have CL := leaf_any w N o.na
    rw [hle, o.b] at CL
    have CP := place_any w N x p o.na (by omega) hr hp
    rw [hpl, o.b] at CP
    have IH : ∀ w1, Rb w w1 → Hid (Calls Try.prog 31 #[ptrv c.b, i64 x, i64 y] w1 (PutPost x y d w1 c (A ++ P) (Q ++ B))) := fun w1 hr => put_any x y d w1 c (A ++ P) (Q ++ B) ((o.held c (by simp)).rb hr) cn.2 k1 k2 k3
    have PT : ∀ (w1 : World) (s1 : Sub) (c1 : Sub), OpenP (Held d) w1 s1 N (l ++ c1 :: r) → s1.b = s.b → ∃ g cap, Hid (w1.cell? ⟨s.b, 2, none⟩ = some (.slice (some ⟨g, 0, none⟩) (l.length + (r.length + 1)) cap) ∧ l.length + (r.length + 1) ≤ cap ∧ w1.cell? ⟨g, l.length, none⟩ = some (ptrv c1.b)) := fun w1 s1 c1 o1 e1 => by
      obtain ⟨g, cap, q1, q2, q3, q4⟩ := o1.na.rp.ptr_at (j := l.length) (b := c1.b) (by rw [o1.ps]; simp)
      have e : N.ps.length = l.length + (r.length + 1) := by rw [o1.ps]; simp
      rw [e] at q1 q2
      refine ⟨g, cap, ?_, q2, q4⟩
      rw [← e1, ← o1.b, ← q1]
      exact o1.na.c2
    have SZ : ∀ (w1 : World) (c1 : Sub), Held d w1 c1 → Hid (Calls Try.prog 32 #[ptrv c1.b] w1 fun e w' => e = .returned (i64 c1.n) ∧ w1 = w') := fun w1 c1 hc1 => by
      obtain ⟨N1, a1, a2, a3, a4⟩ := hc1.node
      have := size_any w1 N1 a1
      rw [a2, a3] at this
      exact this
    have CL' := Lib.hid CL
    have CP' := Lib.hid CP
    have HO := Lib.hid o
    have HAT := Lib.hid at_
    have HCS := Lib.hid hcs
    have HI : Hid (items s.M = items P ++ (items c.M ++ items Q) ∧ Lt x (items P) ∧ Gt x (items Q)) := ⟨by rw [at_.M, items_append, items_append], lt_items at_.lo, gt_items at_.hi⟩
    have HSN : Hid (s.n = (l ++ c :: r).length ∧ s.n ≤ 8 ∧ 4 ≤ c.n ∧ c.n ≤ 8) := ⟨o.n, hn, cn.1, cn.2⟩
    have hll : l.length ≤ 8 := by have := o.n; simp at this; omega
    have hlr : l.length < l.length + (r.length + 1) := by omega
    have eget : getL x (items s.M) = getL x (items c.M) := by rw [HI.out.1, getL_mid HI.out.2.1 HI.out.2.2]
    have eput : ∀ L, L = putL x y (items c.M) → items P ++ (L ++ items Q) = putL x y (items s.M) := fun L hL => by rw [HI.out.1, putL_mid HI.out.2.1 HI.out.2.2, hL]
    have EG := Lib.hid eget
    have EP := Lib.hid eput
    generalize hN2 : (l.length + (r.length + 1)) = m at PT hlr
    clear o at_ hcs cn CL CP hle hs hA hB hs' k1 k2 k3 hcl hlen hsn hn hr hp hpl eget eput hN2
    go_enter Try.func31, Try.ntmps31
    go_wp2_with (first | (go_at_call 34; refine CL'.out.mono ?_; rintro e w' ⟨rfl, rfl⟩) | (go_at_call 40; refine CP'.out.mono ?_))
    rintro e w1 ⟨rfl, hr1⟩
    obtain ⟨g, cap, hq⟩ := PT w1 s c (HO.out.rb hr1) rfl
    obtain ⟨q1, q2, q3⟩ := hq.out
    have J := IH w1 hr1
    have HR1 := Lib.hid hr1
    clear hr1 hq IH
    go_wp2_with (go_at_call 31; refine J.out.mono ?_)
    first | (rintro e w2 c' rfl hc' t e1 e2 e3 e4 e5) | (rintro e w2 ⟨c', rfl, hc', t, e1, e2, e3, e4, e5⟩)
    obtain ⟨s1, o1, t1, n1⟩ := (HO.out.rb HR1.out).part hc' t
    have o1M : s1.M = P ++ (c'.M ++ Q) := by rw [o1.M]; exact HAT.out.any c'
    obtain ⟨g2, cap2, hq2⟩ := PT w2 s1 c' o1 t1.b
    obtain ⟨p1, p2, p3⟩ := hq2.out
    have SC := SZ w2 c' hc'
    have H1 : Hid (OpenP (Held d) w2 s1 N (l ++ c' :: r) ∧ Tn w1 s w2 s1 ∧ s1.n = s.n ∧ s1.M = P ++ (c'.M ++ Q)) := ⟨o1, t1, n1, o1M⟩
    have H2 : Hid (c.n ≤ c'.n ∧ c'.n ≤ c.n + 1 ∧ Srt ((A ++ P) ++ (c'.M ++ (Q ++ B))) ∧ items c'.M = putL x y (items c.M)) := ⟨e1, e2, e4, e5⟩
    have hb1 : s1.b = s.b := t1.b
    have hG : Hid (getL x (items s.M) = getL x (items c.M)) := EG.out
    clear hc' t e1 e2 e3 e4 e5 o1 t1 n1 o1M hq2 PT SZ J q1 q2 q3
    generalize hg1 : (getL x (items c.M)).getD 0 = g1 at *
    generalize hg2 : (getL x (items c.M)).isSome = g2' at *
    have HG1 := Lib.hid hg1
    have HG2 := Lib.hid hg2
    clear hg1 hg2
    by_cases h8 : (c'.n : Int) > 8
    · have SP := Lib.hid (split_any d w2 s1 N l r c' H1.out.1 (by have a := HSN.out; simp at a ⊢; omega) (by omega) (by have a := HSN.out; have b := H2.out; omega))
      rw [hb1] at SP
      go_wp2_with (first | (go_at_call 32; refine SC.out.mono ?_; rintro e w' ⟨rfl, rfl⟩) | (go_at_call 33; refine SP.out.mono ?_))
      first | (rintro e w3 v rfl s2 N2 c1 c2 o2 t2 n2 x2 n3 n4) | (rintro e w3 ⟨⟨v, rfl⟩, s2, N2, c1, c2, o2, t2, n2, x2, n3, n4⟩)
      have H3 : Hid (OpenP (Held d) w3 s2 N2 (l ++ c1 :: c2 :: r) ∧ Tn w2 s1 w3 s2 ∧ s2.n = s1.n + 1 ∧ Ext s1.M s2.M ∧ c1.n = c'.n / 2 ∧ c2.n = c'.n - c'.n / 2) := ⟨o2, t2, n2, x2, n3, n4⟩
      clear o2 t2 n2 x2 n3 n4
      go_wp2
      go_ret2
      obtain ⟨o2, t2, n2, x2, n3, n4⟩ := H3.out
      obtain ⟨o1, t1, n1, o1M⟩ := H1.out
      obtain ⟨f1, f2, f3, f4⟩ := H2.out
      obtain ⟨z1, z2, z3, z4⟩ := HSN.out
      refine ⟨s2, show Ending.returned (.tuple #[i64 g1, .bool g2']) = _ by rw [hG.out, HG1.out, HG2.out], ⟨N2, _, o2, fun z hz => ?_⟩, (Tn.of_rb s HR1.out).trans (t1.trans t2), by omega, by omega, by omega, ?_, ?_⟩
      · simp only [List.mem_append, List.mem_cons] at hz
        rcases hz with hz | rfl | rfl | hz
        · exact HCS.out z (by simp [hz])
        · omega
        · omega
        · exact HCS.out z (by simp [hz])
      · refine x2.1 A B ?_
        rw [o1M]
        exact unctx f3
      · rw [x2.2, o1M, items_append, items_append]
        exact EP.out _ f4
    · go_wp2_with (go_at_call 32; refine SC.out.mono ?_; rintro e w' ⟨rfl, rfl⟩)
      go_ret2
      obtain ⟨o1, t1, n1, o1M⟩ := H1.out
      obtain ⟨f1, f2, f3, f4⟩ := H2.out
      obtain ⟨z1, z2, z3, z4⟩ := HSN.out
      refine ⟨s1, show Ending.returned (.tuple #[i64 g1, .bool g2']) = _ by rw [hG.out, HG1.out, HG2.out], ⟨N, _, o1, fun z hz => ?_⟩, (Tn.of_rb s HR1.out).trans t1, by omega, by omega, ?_, ?_, ?_⟩
      · simp only [List.mem_append, List.mem_cons] at hz
        rcases hz with hz | rfl | hz
        · exact HCS.out z (by simp [hz])
        · omega
        · exact HCS.out z (by simp [hz])
      · rw [n1, z1]; simp; omega
      · rw [o1M]
        exact unctx f3
      · rw [o1M, items_append, items_append]
        exact EP.out _ f4
end Go.Proofs.Ytjdlicphmflnkaa.L5
