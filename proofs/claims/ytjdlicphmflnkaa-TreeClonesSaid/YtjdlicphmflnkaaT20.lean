/-
  Layer 5: join, of a tree.
-/
import Derived.Test.YtjdlicphmflnkaaT17
import Derived.Test.YtjdlicphmflnkaaT12
import Derived.Test.YtjdlicphmflnkaaT13
namespace Go.Proofs.Ytjdlicphmflnkaa.L5
open Go.RowKit Reg
set_option linter.unusedVariables false

theorem OpenP.join {d : Nat} {w w' : World} {s : Sub} {N A B N' A' : Nd} {l r : List Sub} {a b a' : Sub} {key : Int} (h : OpenP (Held d) w s N (l ++ a :: b :: r)) (S : Tri w N A w' N' A' B) (hA : ∀ k, A.has k → a.F k)
    (h1 : Held d w' a') (f1 : ∀ k, a'.F k → A'.has k ∨ a.F k ∨ b.F k) (b1 : a'.b = a.b)
    (hk : N.ks[l.length]? = some key) (eks : N'.ks = N.ks.take l.length ++ N.ks.drop (l.length + 1)) (eps : N'.ps = N.ps.take (l.length + 1) ++ N.ps.drop (l.length + 2)) (evs : N'.vs = [])
    (hM : Ext (a.M ++ sp key :: b.M) a'.M) :
    ∃ s', OpenP (Held d) w' s' N' (l ++ a' :: r) ∧ Tn w s w' s' ∧ s'.n + 1 = s.n ∧ Ext s.M s'.M := by
  have hd := List.pairwise_append.1 h.dj
  have hd2 := List.pairwise_cons.1 hd.2.1
  have hd3 := List.pairwise_cons.1 hd2.2
  have aF : ∀ k, a.F k → s.F k := fun k hk => (h.F k).2 (.inr ⟨a, by simp, hk⟩)
  have bF : ∀ k, b.F k → s.F k := fun k hk => (h.F k).2 (.inr ⟨b, by simp, hk⟩)
  have keep : ∀ x ∈ l ++ r, (∀ k, x.F k → ¬ a.F k) ∧ (∀ k, x.F k → ¬ b.F k) ∧ Held d w x ∧ (∀ k, N.has k → ¬ x.F k) := fun x hx => by
    rcases List.mem_append.1 hx with hx | hx
    · exact ⟨fun k hk hk' => hd.2.2 x hx a (by simp) k hk hk', fun k hk hk' => hd.2.2 x hx b (by simp) k hk hk', h.held x (by simp [hx]), h.off x (by simp [hx])⟩
    · exact ⟨fun k hk hk' => hd2.1 x (by simp [hx]) k hk' hk, fun k hk hk' => hd3.1 x hx k hk' hk, h.held x (by simp [hx]), h.off x (by simp [hx])⟩
  have kept : ∀ x ∈ l ++ r, Held d w' x := fun x hx => by
    obtain ⟨q1, q2, q3, q4⟩ := keep x hx
    exact q3.fr S.fr fun k hk hk' => by
      rcases hk' with hk' | hk'
      · exact q4 k hk' hk
      · exact q1 k hk (hA k hk')
  have n1 : ∀ x ∈ l ++ r, ∀ k, x.F k → ¬ a'.F k := fun x hx k hk hk' => by
    obtain ⟨q1, q2, q3, q4⟩ := keep x hx
    rcases f1 k hk' with h' | h' | h'
    · rcases S.ah k h' with h'' | h''
      · exact q1 k hk (hA k h'')
      · have := q3.lt d k hk; omega
    · exact q1 k hk h'
    · exact q2 k hk h'
  have hlen := h.len
  simp only [List.length_append, List.length_cons] at hlen
  have hkl := (List.getElem?_eq_some_iff.1 hk)
  have htk : (N.ks.take l.length).length = l.length := by rw [List.length_take]; omega
  have hdr : N.ks.drop l.length = key :: N.ks.drop (l.length + 1) := by
    rw [drop_cons hkl.1, hkl.2]
  have e0 : s.M = preW (N.ks.take l.length) (l.map (·.M)) ++ ((a.M ++ sp key :: b.M) ++ postW (N.ks.drop (l.length + 1)) (r.map (·.M))) := by
    have hw := weave_split (N.ks.take l.length) (l.map (·.M)) (N.ks.drop l.length) a.M (b.M :: r.map (·.M)) (by rw [List.length_map, htk])
    rw [List.take_append_drop, hdr] at hw
    rw [h.M, show (l ++ a :: b :: r).map (·.M) = l.map (·.M) ++ a.M :: b.M :: r.map (·.M) by simp, hw]
    show _ ++ (_ ++ (sp key :: (b.M ++ _))) = _
    simp
  have e1 : weave N'.ks ((l ++ a' :: r).map (·.M)) = preW (N.ks.take l.length) (l.map (·.M)) ++ (a'.M ++ postW (N.ks.drop (l.length + 1)) (r.map (·.M))) := by
    have hw := weave_split (N.ks.take l.length) (l.map (·.M)) (N.ks.drop (l.length + 1)) a'.M (r.map (·.M)) (by rw [List.length_map, htk])
    rw [eks, ← hw]
    simp
  refine ⟨⟨s.b, s.n - 1, weave N'.ks ((l ++ a' :: r).map (·.M)), fun k => N'.has k ∨ ∃ x ∈ l ++ a' :: r, x.F k⟩, ⟨S.na, S.nb.trans h.b, evs, ?_, ?_, ?_, rfl, fun x hx => ?_, ?_, fun x hx k hk => ?_, fun k => Iff.rfl⟩, ⟨rfl, ?_, fun k hk => ?_⟩, ?_, ?_⟩
  · rw [eps, h.ps]
    simp [b1, List.take_append, List.drop_append, List.take_of_length_le, List.drop_eq_nil_of_le]
  · show s.n - 1 = _
    rw [h.n]; simp
  · rw [eks]; simp; omega
  · simp only [List.mem_append, List.mem_cons] at hx
    rcases hx with hx | rfl | hx
    · exact kept x (by simp [hx])
    · exact h1
    · exact kept x (by simp [hx])
  · refine List.pairwise_append.2 ⟨hd.1, List.pairwise_cons.2 ⟨fun x hx k hk hk' => n1 x (by simp [hx]) k hk' hk, hd3.2⟩, fun x hx y hy => ?_⟩
    rcases List.mem_cons.1 hy with rfl | hy
    · exact n1 x (by simp [hx])
    · exact hd.2.2 x hx y (by simp [hy])
  · have old : ∀ x ∈ l ++ a :: b :: r, ¬ x.F k := fun x hx hk' => by
      rcases S.nh k hk with h' | h'
      · exact h.off x hx k h' hk'
      · have := (h.held x hx).lt d k hk'; omega
    simp only [List.mem_append, List.mem_cons] at hx
    rcases hx with hx | rfl | hx
    · exact old x (by simp [hx])
    · intro hk'
      rcases f1 k hk' with h' | h' | h'
      · exact S.oA k hk h'
      · exact old a (by simp) h'
      · exact old b (by simp) h'
    · exact old x (by simp [hx])
  · exact S.fr.mono fun k hk _ => by
      rcases hk with hk | hk
      · exact (h.F k).2 (.inl hk)
      · exact aF k (hA k hk)
  · rcases hk with hk | ⟨x, hx, hk⟩
    · rcases S.nh k hk with h' | h'
      · exact .inl ((h.F k).2 (.inl h'))
      · exact .inr h'
    · simp only [List.mem_append, List.mem_cons] at hx
      rcases hx with hx | rfl | hx
      · exact .inl ((h.F k).2 (.inr ⟨x, by simp [hx], hk⟩))
      · rcases f1 k hk with h' | h' | h'
        · rcases S.ah k h' with h'' | h''
          · exact .inl (aF k (hA k h''))
          · exact .inr h''
        · exact .inl (aF k h')
        · exact .inl (bF k h')
      · exact .inl ((h.F k).2 (.inr ⟨x, by simp [hx], hk⟩))
  · show s.n - 1 + 1 = s.n
    have := h.n
    simp at this
    omega
  · show Ext s.M (weave _ _)
    rw [e0, e1]
    exact Ext.mid _ _ hM

theorem join_tree (d : Nat) (w : World) (s : Sub) (N : Nd) (l r : List Sub) (a b : Sub) (h : OpenP (Held d) w s N (l ++ a :: b :: r)) (hn : (l ++ a :: b :: r).length ≤ 20) (ha : a.n ≤ 9) (hb : b.n ≤ 9) (a1 : 1 ≤ a.n) :
    Calls Try.prog 56 #[ptrv s.b, i64 l.length] w fun e w' => (∃ v, e = .returned v) ∧ ∃ s' N' a', OpenP (Held d) w' s' N' (l ++ a' :: r) ∧ Tn w s w' s' ∧ s'.n + 1 = s.n ∧ Ext s.M s'.M ∧ a'.n = a.n + b.n := by
  have hd := List.pairwise_append.1 h.dj
  have hab : Dj a b := (List.pairwise_cons.1 hd.2.1).1 b (by simp)
  have hlen := h.len
  simp only [List.length_append, List.length_cons] at hlen hn
  have hps : N.ps.length = N.ks.length + 1 := by rw [h.ps, List.length_map]; exact h.len
  have hpa : N.ps[l.length]? = some a.b := by rw [h.ps]; simp
  have hpb : N.ps[l.length + 1]? = some b.b := by rw [h.ps]; simp
  have hkl : l.length < N.ks.length := by omega
  have hkey : N.ks[l.length]? = some (N.ks.getD l.length 0) := by rw [List.getD_eq_getElem?_getD, List.getElem?_eq_getElem hkl]; rfl
  have tri : ∀ A B : Nd, NodeAt w A → NodeAt w B → (∀ k, A.has k → a.F k) → (∀ k, B.has k → b.F k) → Tri w N A w N A B := fun A B hA hB fA fB =>
    Tri.start h.na hA hB (fun k hk hk' => h.off a (by simp) k hk (fA k hk')) (fun k hk hk' => h.off b (by simp) k hk (fB k hk')) (fun k hk hk' => hab k (fA k hk) (fB k hk'))
  rw [← h.b]
  cases d with
  | zero =>
    obtain ⟨A, hA⟩ := h.held a (by simp)
    obtain ⟨B, hB⟩ := h.held b (by simp)
    have T := tri A B hA.na hB.na (fun k hk => (hA.F k).2 hk) (fun k hk => (hB.F k).2 hk)
    have n1 := hA.n; have n2 := hB.n; have n3 := hA.len; have n4 := hB.len
    refine (join_leaf w N A B l.length T hA.ps (by rw [hpa, hA.b]) (by rw [hpb, hB.b]) hps (by omega) (by omega) (by omega) (by omega) (by omega) (by rw [hA.ps]; simp) (by rw [hB.ps]; simp)).mono ?_
    rintro e w' ⟨hv, kv, pv, kA, vA, pA, S⟩
    refine ⟨hv, ?_⟩
    have hz : (A.ks ++ B.ks).zip (A.vs ++ B.vs) = A.ks.zip A.vs ++ B.ks.zip B.vs := List.zip_append (by omega)
    obtain ⟨s', o, t, e1, e2⟩ := h.join (a' := ⟨A.b, (A.ks ++ B.ks).length, ((A.ks ++ B.ks).zip (A.vs ++ B.vs)).map tk, Nd.has { A with kv := kA, vv := vA, pv := pA, ks := A.ks ++ B.ks, vs := A.vs ++ B.vs, ps := A.ps ++ B.ps }⟩) S (fun k hk => (hA.F k).2 hk)
      ⟨_, S.aa, rfl, by show A.ps ++ B.ps = []; rw [hA.ps, hB.ps]; rfl, by show (A.vs ++ B.vs).length = (A.ks ++ B.ks).length; simp; omega, rfl, rfl, fun k => Iff.rfl⟩ (fun k hk => .inl hk) hA.b hkey rfl rfl h.vs (by
        show Ext (a.M ++ sp _ :: b.M) (((A.ks ++ B.ks).zip (A.vs ++ B.vs)).map tk)
        rw [hz, List.map_append, ← hA.M, ← hB.M]
        exact Ext.sub (List.Sublist.append_left (List.sublist_cons_self _ _) _) (by rw [items_append, items_append, items_sp]))
    exact ⟨s', _, _, o, t, e1, e2, by show (A.ks ++ B.ks).length = _; simp; omega⟩
  | succ d =>
    obtain ⟨A, ga, hA, gA⟩ := h.held a (by simp)
    obtain ⟨B, gb, hB, gB⟩ := h.held b (by simp)
    have T := tri A B hA.na hB.na (fun k hk => (hA.F k).2 (.inl hk)) (fun k hk => (hB.F k).2 (.inl hk))
    have n1 := hA.n; have n2 := hB.n; have n3 := hA.len; have n4 := hB.len
    have p1 : A.ps.length = ga.length := by rw [hA.ps, List.length_map]
    have p2 : B.ps.length = gb.length := by rw [hB.ps, List.length_map]
    refine (join_inner w N A B l.length T (by omega) (by rw [hpa, hA.b]) (by rw [hpb, hB.b]) hps (by omega) (by omega) (by omega) (by rw [hA.vs]; simp) (by rw [hB.vs]; simp) (by omega) (by omega)).mono ?_
    rintro e w' ⟨hv, kv, pv, kA, vA, pA, S⟩
    refine ⟨hv, ?_⟩
    have keepA : ∀ x ∈ ga, Held d w' x := fun x hx => (hA.held x hx).fr S.fr fun k hk hk' => by
      rcases hk' with hk' | hk'
      · exact h.off a (by simp) k hk' ((hA.F k).2 (.inr ⟨x, hx, hk⟩))
      · exact hA.off x hx k hk' hk
    have keepB : ∀ x ∈ gb, Held d w' x := fun x hx => (hB.held x hx).fr S.fr fun k hk hk' => by
      rcases hk' with hk' | hk'
      · exact h.off b (by simp) k hk' ((hB.F k).2 (.inr ⟨x, hx, hk⟩))
      · exact hab k ((hA.F k).2 (.inl hk')) ((hB.F k).2 (.inr ⟨x, hx, hk⟩))
    have offA : ∀ x ∈ ga ++ gb, ∀ k, Nd.has { A with kv := kA, vv := vA, pv := pA, ks := A.ks ++ N.ks.getD l.length 0 :: B.ks, vs := A.vs ++ B.vs, ps := A.ps ++ B.ps } k → ¬ x.F k := fun x hx k hk hk' => by
      rcases S.ah k hk with h' | h'
      · rcases List.mem_append.1 hx with hx | hx
        · exact hA.off x hx k h' hk'
        · exact hab k ((hA.F k).2 (.inl h')) ((hB.F k).2 (.inr ⟨x, hx, hk'⟩))
      · rcases List.mem_append.1 hx with hx | hx
        · have := (hA.held x hx).lt d k hk'; omega
        · have := (hB.held x hx).lt d k hk'; omega
    have eM : weave (A.ks ++ N.ks.getD l.length 0 :: B.ks) ((ga ++ gb).map (·.M)) = a.M ++ sp (N.ks.getD l.length 0) :: b.M := by
      rcases List.eq_nil_or_concat ga with rfl | ⟨ga', z, rfl⟩
      · simp at n3
      obtain ⟨m, gb', rfl⟩ : ∃ m gb', gb = m :: gb' := by cases gb with | nil => simp at n4 | cons m gb' => exact ⟨m, gb', rfl⟩
      simp only [List.concat_eq_append] at *
      have hl : (ga'.map (·.M)).length = A.ks.length := by simp at n3 ⊢; omega
      have w1 := weave_split A.ks (ga'.map (·.M)) (N.ks.getD l.length 0 :: B.ks) z.M ((m :: gb').map (·.M)) hl
      have w2 := weave_split A.ks (ga'.map (·.M)) [] z.M [] hl
      rw [List.append_nil] at w2
      rw [hA.M, hB.M]
      rw [show (ga' ++ [z] ++ m :: gb').map (·.M) = ga'.map (·.M) ++ z.M :: (m :: gb').map (·.M) by simp, w1]
      rw [show (ga' ++ [z]).map (·.M) = ga'.map (·.M) ++ [z.M] by simp, w2]
      rw [List.map_cons, postW_ne]
      simp [postW]
    obtain ⟨s', o, t, e1, e2⟩ := h.join (a' := Sub.mk' { A with kv := kA, vv := vA, pv := pA, ks := A.ks ++ N.ks.getD l.length 0 :: B.ks, vs := A.vs ++ B.vs, ps := A.ps ++ B.ps } (ga ++ gb).length (weave (A.ks ++ N.ks.getD l.length 0 :: B.ks) ((ga ++ gb).map (·.M))) (ga ++ gb)) S (fun k hk => (hA.F k).2 (.inl hk))
      ⟨_, ga ++ gb, ⟨S.aa, rfl, by show A.vs ++ B.vs = []; rw [hA.vs, hB.vs]; rfl, by show A.ps ++ B.ps = _; rw [hA.ps, hB.ps, List.map_append], rfl, by simp; omega, rfl, fun x hx => by
          rcases List.mem_append.1 hx with hx | hx
          · exact keepA x hx
          · exact keepB x hx, List.pairwise_append.2 ⟨hA.dj, hB.dj, fun x hx y hy k hk hk' => hab k ((hA.F k).2 (.inr ⟨x, hx, hk⟩)) ((hB.F k).2 (.inr ⟨y, hy, hk'⟩))⟩, offA, fun k => Iff.rfl⟩, fun x hx => by
          rcases List.mem_append.1 hx with hx | hx
          · exact gA x hx
          · exact gB x hx⟩ (fun k hk => by
          rcases hk with hk | ⟨x, hx, hk⟩
          · exact .inl hk
          · rcases List.mem_append.1 hx with hx | hx
            · exact .inr (.inl ((hA.F k).2 (.inr ⟨x, hx, hk⟩)))
            · exact .inr (.inr ((hB.F k).2 (.inr ⟨x, hx, hk⟩)))) hA.b hkey rfl rfl h.vs (by
        show Ext (a.M ++ sp _ :: b.M) (weave (A.ks ++ N.ks.getD l.length 0 :: B.ks) ((ga ++ gb).map (·.M)))
        rw [eM]
        exact Ext.refl _)
    exact ⟨s', _, _, o, t, e1, e2, by show (ga ++ gb).length = _; simp; omega⟩
end Go.Proofs.Ytjdlicphmflnkaa.L5
