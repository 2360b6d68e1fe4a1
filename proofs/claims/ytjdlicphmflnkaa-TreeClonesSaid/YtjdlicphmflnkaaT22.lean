/-
  Layer 5: take.
-/
import Derived.Test.YtjdlicphmflnkaaT21
namespace Go.Proofs.Ytjdlicphmflnkaa.L5
open Go.ChangeShapes Go.WideShapes Go.ChangeAt Go.RowKit By Reg
set_option linter.unusedVariables false

def TakePost (x : Int) (d : Nat) (w : World) (s : Sub) (A B : List Tok) (e : Ending) (w' : World) : Prop :=
  ∃ s', e = .returned (.tuple #[i64 ((getL x (items s.M)).getD 0), .bool (getL x (items s.M)).isSome]) ∧ Held d w' s' ∧ Tn w s w' s' ∧ s'.n ≤ s.n ∧ s.n ≤ s'.n + 1 ∧ Srt (A ++ (s'.M ++ B)) ∧ items s'.M = delL x (items s.M)

theorem takehere_any (x : Int) (w : World) (s : Sub) (N : Nd) (A B : List Tok) (h : LeafP w s N) (hn : s.n ≤ 100) (hs : Srt (A ++ (s.M ++ B))) :
    Calls Try.prog 42 #[ptrv s.b, i64 x] w (TakePost x 0 w s A B) := by
  have hr := leaf_rise h hs
  obtain ⟨p, hp⟩ := Pos.exists x N.ks hr
  have hnn := h.n
  have hi : items s.M = N.ks.zip N.vs := by rw [h.M, items_map]
  rw [← h.b]
  cases hf : found x N.ks p
  · refine (takehere_none w N x p h.na (by omega) hr hp hf).mono ?_
    rintro e w' ⟨rfl, hrb⟩
    have hg := leaf_get_none h.len hp hr hf
    have hdel := leaf_del_none h.len hp hr hf
    exact ⟨s, by rw [hi, hg]; rfl, Held.rb (d := 0) ⟨N, h⟩ hrb, Tn.of_rb s hrb, Nat.le_refl _, by omega, hs, by rw [hi, hdel]⟩
  · obtain ⟨hpl, hpe⟩ := found_at hf
    refine (takehere_some w N x p h.na h.len (by omega) hr hp hf).mono ?_
    rintro e w' ⟨rfl, kv', vv', X⟩
    obtain ⟨a, t⟩ := Nx.leaf h X h.ps (by have := h.len; simp; omega)
    have hg := leaf_get_some h.len hp hpl hpe
    have hdel := leaf_del_some h.len hp hr hpl hpe
    refine ⟨_, by rw [hi, hg]; rfl, a, t, ?_, ?_, ?_, ?_⟩
    · show (N.ks.take p ++ N.ks.drop (p + 1)).length ≤ s.n
      simp; omega
    · show s.n ≤ (N.ks.take p ++ N.ks.drop (p + 1)).length + 1
      simp; omega
    · show Srt (A ++ (((N.ks.take p ++ N.ks.drop (p + 1)).zip (N.vs.take p ++ N.vs.drop (p + 1))).map tk ++ B))
      rw [hdel]
      rw [h.M] at hs
      refine srt_sub hs (List.Sublist.append_left (List.Sublist.append_right (List.Sublist.map _ ?_) B) A)
      exact List.filter_sublist
    · show items (((N.ks.take p ++ N.ks.drop (p + 1)).zip (N.vs.take p ++ N.vs.drop (p + 1))).map tk) = _
      rw [items_map, hi, hdel]

set_option maxHeartbeats 2000000 in
set_option maxRecDepth 100000 in
theorem take_leaf (x : Int) (w : World) (s : Sub) (A B : List Tok) (h : Held 0 w s) (hn : s.n ≤ 100) (hs : Srt (A ++ (s.M ++ B))) :
    Calls Try.prog 30 #[ptrv s.b, i64 x] w (TakePost x 0 w s A B) := by
  obtain ⟨N, hN⟩ := h
  have CL := leaf_any w N hN.na
  have hle : isLeaf N = true := by unfold isLeaf; rw [hN.ps]; rfl
  rw [hle, hN.b] at CL
  have CL' := Lib.hid CL
  have CP := Lib.hid (takehere_any x w s N A B hN hn hs)
  clear CL hN hle hs hn
  go_enter Try.func30, Try.ntmps30
  go_wp2_with (go_at_call 34; refine CL'.out.mono ?_; rintro e w' ⟨rfl, rfl⟩)
  refine CP.out.mono ?_
  rintro e w' hp
  obtain ⟨s', rfl, h2⟩ := hp
  have H2 := Lib.hid h2
  clear h2
  obtain ⟨g1, hg1⟩ : ∃ g1, g1 = (getL x (items s.M)).getD 0 := ⟨_, rfl⟩
  obtain ⟨g2, hg2⟩ : ∃ g2, g2 = (getL x (items s.M)).isSome := ⟨_, rfl⟩
  rw [← hg1, ← hg2]
  have G1 := Lib.hid hg1
  have G2 := Lib.hid hg2
  clear hg1 hg2
  go_wp2
  go_ret2
  refine ⟨s', ?_, H2.out⟩
  show Ending.returned (.tuple #[i64 g1, .bool g2]) = _
  rw [G1.out, G2.out]

set_option maxHeartbeats 4000000 in
set_option maxRecDepth 100000 in
theorem take_any (x : Int) : ∀ (d : Nat) (w : World) (s : Sub) (A B : List Tok), Held d w s → s.n ≤ 8 → (0 < d → 2 ≤ s.n) → Srt (A ++ (s.M ++ B)) → (∀ a ∈ A, a.1 < 2 * x + 1) → (∀ b ∈ B, 2 * x + 1 < b.1) →
    Calls Try.prog 30 #[ptrv s.b, i64 x] w (TakePost x d w s A B)
  | 0, w, s, A, B, h, hn, h2, hs, hA, hB => take_leaf x w s A B h (by omega) hs
  | d + 1, w, s, A, B, h, hn, h2, hs, hA, hB => by
    obtain ⟨N, cs, o, hcs⟩ := h
    obtain ⟨p, hr, hp, l, c, r, P, Q, rfl, hpl, at_⟩ := o.at_ hs x
    have hcl := o.len
    have hlen : N.ps.length = N.ks.length + 1 := by rw [o.ps, List.length_map]; exact o.len
    have hsn := o.n
    have cn := hcs c (by simp)
    have hle : isLeaf N = false := by unfold isLeaf; rw [decide_eq_false_iff_not]; omega
    have hs' := hs
    rw [at_.M] at hs'
    obtain ⟨k1, k2, k3⟩ := ctx hs' hA hB at_.lo at_.hi
    have CL := leaf_any w N o.na
    rw [hle, o.b] at CL
    have CP := place_any w N x p o.na (by omega) hr hp
    rw [hpl, o.b] at CP
    have IH : ∀ w1, Rb w w1 → Hid (Calls Try.prog 30 #[ptrv c.b, i64 x] w1 (TakePost x d w1 c (A ++ P) (Q ++ B))) := fun w1 hr => take_any x d w1 c (A ++ P) (Q ++ B) ((o.held c (by simp)).rb hr) cn.2 (fun _ => by omega) k1 k2 k3
    have CL' := Lib.hid CL
    have CP' := Lib.hid CP
    have HO := Lib.hid o
    have HAT := Lib.hid at_
    have HCS := Lib.hid hcs
    have HI : Hid (items s.M = items P ++ (items c.M ++ items Q) ∧ Lt x (items P) ∧ Gt x (items Q)) := ⟨by rw [at_.M, items_append, items_append], lt_items at_.lo, gt_items at_.hi⟩
    have HSN : Hid (s.n = (l ++ c :: r).length ∧ s.n ≤ 8 ∧ 2 ≤ s.n ∧ 4 ≤ c.n ∧ c.n ≤ 8) := ⟨o.n, hn, h2 (by omega), cn.1, cn.2⟩
    have hll : l.length ≤ 8 := by have := o.n; simp at this; omega
    have hlr : l.length < l.length + (r.length + 1) := by omega
    have HG : Hid (getL x (items s.M) = getL x (items c.M)) := by
      show getL x (items s.M) = getL x (items c.M)
      rw [HI.out.1, getL_mid HI.out.2.1 HI.out.2.2]
    have EP : Hid (∀ L, L = delL x (items c.M) → items P ++ (L ++ items Q) = delL x (items s.M)) := fun L hL => by rw [HI.out.1, delL_mid HI.out.2.1 HI.out.2.2, hL]
    clear o at_ hcs cn CL CP hle hs hA hB hs' k1 k2 k3 hcl hlen hsn hn h2 hr hp hpl
    go_enter Try.func30, Try.ntmps30
    go_wp2_with (first | (go_at_call 34; refine CL'.out.mono ?_; rintro e w' ⟨rfl, rfl⟩) | (go_at_call 40; refine CP'.out.mono ?_))
    rintro e w1 ⟨rfl, hr1⟩
    obtain ⟨g, cap, q1, q2, q3⟩ := part_at (HO.out.rb hr1)
    have J := IH w1 hr1
    have HR1 := Lib.hid hr1
    generalize hm : l.length + (r.length + 1) = m at q1 q2 hlr
    have HM := Lib.hid hm
    clear hr1 IH hm
    go_wp2_with (go_at_call 30; refine J.out.mono ?_)
    first | (rintro e w2 c' rfl hc' t e1 e2 e4 e5) | (rintro e w2 ⟨c', rfl, hc', t, e1, e2, e4, e5⟩)
    obtain ⟨s1, o1, t1, n1⟩ := (HO.out.rb HR1.out).part hc' t
    have o1M : s1.M = P ++ (c'.M ++ Q) := by rw [o1.M]; exact HAT.out.any c'
    have hb1 : s1.b = s.b := t1.b
    clear q1 q2 q3
    obtain ⟨g2, cap2, p1, p2, p3⟩ := part_at o1
    rw [hb1] at p1
    rw [HM.out] at p1 p2
    have SC := Lib.hid (size_sub hc')
    have H1 : Hid (OpenP (Held d) w2 s1 N (l ++ c' :: r) ∧ Tn w1 s w2 s1 ∧ s1.n = s.n ∧ s1.M = P ++ (c'.M ++ Q)) := ⟨o1, t1, n1, o1M⟩
    have H2 : Hid (c'.n ≤ c.n ∧ c.n ≤ c'.n + 1 ∧ Srt ((A ++ P) ++ (c'.M ++ (Q ++ B))) ∧ items c'.M = delL x (items c.M)) := ⟨e1, e2, e4, e5⟩
    clear hc' t e1 e2 e4 e5 o1 t1 n1 o1M J
    generalize hg1 : (getL x (items c.M)).getD 0 = g1 at *
    generalize hg2 : (getL x (items c.M)).isSome = g2' at *
    have HG1 := Lib.hid hg1
    have HG2 := Lib.hid hg2
    clear hg1 hg2
    by_cases h8 : (c'.n : Int) < 4
    · have SP := Lib.hid (fill_any d w2 s1 N l r c' H1.out.1 (by have a := HSN.out; simp at a ⊢; omega) (by have a := HSN.out; simp at a ⊢; omega) (by have a := HSN.out; have b := H2.out; omega) (fun z hz => HCS.out z (by
        rcases List.mem_append.1 hz with hz | hz
        · simp [hz]
        · simp [hz])))
      rw [hb1] at SP
      go_wp2_with (first | (go_at_call 32; refine SC.out.mono ?_; rintro e w' ⟨rfl, rfl⟩) | (go_at_call 43; refine SP.out.mono ?_))
      rintro e w3 hf
      obtain ⟨⟨v, rfl⟩, hf2⟩ := hf
      have H3 := Lib.hid hf2
      clear hf2
      go_wp2
      go_ret2
      obtain ⟨s2, N2, cs2, o2, hn2, t2, m1, m2, x2⟩ := H3.out
      obtain ⟨o1, t1, n1, o1M⟩ := H1.out
      obtain ⟨f1, f2, f3, f4⟩ := H2.out
      obtain ⟨z1, z2, z3, z4⟩ := HSN.out
      refine ⟨s2, show Ending.returned (.tuple #[i64 g1, .bool g2']) = _ by rw [HG.out, HG1.out, HG2.out], ⟨N2, _, o2, hn2⟩, (Tn.of_rb s HR1.out).trans (t1.trans t2), by omega, by omega, ?_, ?_⟩
      · refine x2.1 A B ?_
        rw [o1M]
        exact unctx f3
      · rw [x2.2, o1M, items_append, items_append]
        exact EP.out _ f4
    · go_wp2_with (go_at_call 32; refine SC.out.mono ?_; rintro e w' ⟨rfl, rfl⟩)
      go_ret2
      obtain ⟨o1, t1, n1, o1M⟩ := H1.out
      obtain ⟨f1, f2, f3, f4⟩ := H2.out
      obtain ⟨z1, z2, z3, z4⟩ := HSN.out
      refine ⟨s1, show Ending.returned (.tuple #[i64 g1, .bool g2']) = _ by rw [HG.out, HG1.out, HG2.out], ⟨N, _, o1, fun z hz => ?_⟩, (Tn.of_rb s HR1.out).trans t1, by omega, by omega, ?_, ?_⟩
      · simp only [List.mem_append, List.mem_cons] at hz
        rcases hz with hz | rfl | hz
        · exact HCS.out z (by simp [hz])
        · omega
        · exact HCS.out z (by simp [hz])
      · rw [o1M]
        exact unctx f3
      · rw [o1M, items_append, items_append]
        exact EP.out _ f4
end Go.Proofs.Ytjdlicphmflnkaa.L5
