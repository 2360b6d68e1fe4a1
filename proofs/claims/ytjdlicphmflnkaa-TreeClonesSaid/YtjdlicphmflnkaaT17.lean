/-
  Layer 5: split, of a tree.
-/
import Derived.Test.YtjdlicphmflnkaaT16
import Derived.Test.YtjdlicphmflnkaaT14
namespace Go.Proofs.Ytjdlicphmflnkaa.L5
open Go.RowKit Reg
set_option linter.unusedVariables false

/-- other tokens for the same things -/
def Ext (M M' : List Tok) : Prop := (∀ A B, Srt (A ++ (M ++ B)) → Srt (A ++ (M' ++ B))) ∧ items M' = items M
theorem Ext.refl (M : List Tok) : Ext M M := ⟨fun _ _ h => h, rfl⟩
theorem Ext.trans {a b c : List Tok} (h : Ext a b) (k : Ext b c) : Ext a c := ⟨fun A B x => k.1 A B (h.1 A B x), k.2.trans h.2⟩
theorem Ext.mid {m m' : List Tok} (P Q : List Tok) (h : Ext m m') : Ext (P ++ (m ++ Q)) (P ++ (m' ++ Q)) := by
  refine ⟨fun A B x => ?_, by rw [items_append, items_append, items_append, items_append, h.2]⟩
  have e : ∀ z : List Tok, A ++ ((P ++ (z ++ Q)) ++ B) = (A ++ P) ++ (z ++ (Q ++ B)) := fun z => by simp
  rw [e] at x ⊢
  exact h.1 _ _ x
theorem Ext.sub {m m' : List Tok} (h : m'.Sublist m) (hi : items m' = items m) : Ext m m' :=
  ⟨fun A B x => srt_sub x (List.Sublist.append_left (List.Sublist.append_right h B) A), hi⟩

theorem OpenP.split {d : Nat} {w w' : World} {s : Sub} {N C N' C' M : Nd} {l r : List Sub} {c c1 c2 : Sub} {key : Int} (h : OpenP (Held d) w s N (l ++ c :: r)) (S : Spl w N C w' N' C' M) (hC : ∀ k, C.has k → c.F k)
    (h1 : Held d w' c1) (h2 : Held d w' c2) (f1 : ∀ k, c1.F k → c.F k) (f2 : ∀ k, c2.F k → c.F k ∨ M.has k) (dj : Dj c1 c2) (b1 : c1.b = c.b) (b2 : c2.b = M.b)
    (eks : N'.ks = N.ks.take l.length ++ key :: N.ks.drop l.length) (eps : N'.ps = N.ps.take (l.length + 1) ++ M.b :: N.ps.drop (l.length + 1)) (evs : N'.vs = [])
    (hM : Ext c.M (c1.M ++ sp key :: c2.M)) :
    ∃ s', OpenP (Held d) w' s' N' (l ++ c1 :: c2 :: r) ∧ Tn w s w' s' ∧ s'.n = s.n + 1 ∧ Ext s.M s'.M := by
  have hd := List.pairwise_append.1 h.dj
  have hd2 := List.pairwise_cons.1 hd.2.1
  have cF : ∀ k, c.F k → s.F k := fun k hk => (h.F k).2 (.inr ⟨c, by simp, hk⟩)
  have keep : ∀ x ∈ l ++ r, (∀ k, x.F k → ¬ c.F k) ∧ Held d w x ∧ (∀ k, N.has k → ¬ x.F k) := fun x hx => by
    rcases List.mem_append.1 hx with hx | hx
    · exact ⟨fun k hk hk' => hd.2.2 x hx c (by simp) k hk hk', h.held x (by simp [hx]), h.off x (by simp [hx])⟩
    · exact ⟨fun k hk hk' => hd2.1 x hx k hk' hk, h.held x (by simp [hx]), h.off x (by simp [hx])⟩
  have kept : ∀ x ∈ l ++ r, Held d w' x := fun x hx => by
    obtain ⟨a, b, e⟩ := keep x hx
    exact b.fr S.fr fun k hk hk' => by
      rcases hk' with hk' | hk'
      · exact e k hk' hk
      · exact a k hk (hC k hk')
  have n1 : ∀ x ∈ l ++ r, ∀ k, x.F k → ¬ c1.F k := fun x hx k hk hk' => (keep x hx).1 k hk (f1 k hk')
  have n2 : ∀ x ∈ l ++ r, ∀ k, x.F k → ¬ c2.F k := fun x hx k hk hk' => by
    rcases f2 k hk' with h' | h'
    · exact (keep x hx).1 k hk h'
    · have a := S.mh k h'; have b := (keep x hx).2.1.lt d k hk; omega
  have kl : l.length ≤ N.ks.length := by have := h.len; simp at this; omega
  have htk : (N.ks.take l.length).length = l.length := by rw [List.length_take]; omega
  have e0 : s.M = preW (N.ks.take l.length) (l.map (·.M)) ++ (c.M ++ postW (N.ks.drop l.length) (r.map (·.M))) := by
    have hw := weave_split (N.ks.take l.length) (l.map (·.M)) (N.ks.drop l.length) c.M (r.map (·.M)) (by rw [List.length_map, htk])
    rw [List.take_append_drop] at hw
    rw [h.M, ← hw]
    simp
  have e1 : weave N'.ks ((l ++ c1 :: c2 :: r).map (·.M)) = preW (N.ks.take l.length) (l.map (·.M)) ++ ((c1.M ++ sp key :: c2.M) ++ postW (N.ks.drop l.length) (r.map (·.M))) := by
    have hw := weave_split (N.ks.take l.length) (l.map (·.M)) (key :: N.ks.drop l.length) c1.M (c2.M :: r.map (·.M)) (by rw [List.length_map, htk])
    rw [eks]
    rw [show (l ++ c1 :: c2 :: r).map (·.M) = l.map (·.M) ++ c1.M :: c2.M :: r.map (·.M) by simp, hw]
    show _ ++ (_ ++ (sp key :: (c2.M ++ _))) = _
    simp
  refine ⟨⟨s.b, s.n + 1, weave N'.ks ((l ++ c1 :: c2 :: r).map (·.M)), fun k => N'.has k ∨ ∃ x ∈ l ++ c1 :: c2 :: r, x.F k⟩, ⟨S.na, S.nb.trans h.b, evs, ?_, ?_, ?_, rfl, fun x hx => ?_, ?_, fun x hx k hk => ?_, fun k => Iff.rfl⟩, ⟨rfl, ?_, fun k hk => ?_⟩, rfl, ?_⟩
  · rw [eps, h.ps]
    simp [b1, b2, List.take_append, List.drop_append, List.take_of_length_le, List.drop_eq_nil_of_le]
  · show s.n + 1 = _
    rw [h.n]; simp; omega
  · rw [eks]; have := h.len; simp at this ⊢; omega
  · simp only [List.mem_append, List.mem_cons] at hx
    rcases hx with hx | rfl | rfl | hx
    · exact kept x (by simp [hx])
    · exact h1
    · exact h2
    · exact kept x (by simp [hx])
  · refine List.pairwise_append.2 ⟨hd.1, List.pairwise_cons.2 ⟨fun x hx => ?_, List.pairwise_cons.2 ⟨fun x hx k hk hk' => n2 x (by simp [hx]) k hk' hk, hd2.2⟩⟩, fun x hx y hy => ?_⟩
    · rcases List.mem_cons.1 hx with rfl | hx
      · exact dj
      · exact fun k hk hk' => n1 x (by simp [hx]) k hk' hk
    · simp only [List.mem_cons] at hy
      rcases hy with rfl | rfl | hy
      · exact n1 x (by simp [hx])
      · exact n2 x (by simp [hx])
      · exact hd.2.2 x hx y (by simp [hy])
  · have old : ∀ x ∈ l ++ r, ¬ x.F k := fun x hx hk' => by
      rcases S.nh k hk with h' | h'
      · exact (keep x hx).2.2 k h' hk'
      · have := (keep x hx).2.1.lt d k hk'; omega
    have oc : ¬ c.F k := fun hk' => by
      rcases S.nh k hk with h' | h'
      · exact h.off c (by simp) k h' hk'
      · have := (h.held c (by simp)).lt d k hk'; omega
    simp only [List.mem_append, List.mem_cons] at hx
    rcases hx with hx | rfl | rfl | hx
    · exact old x (by simp [hx])
    · exact fun hk' => oc (f1 k hk')
    · intro hk'
      rcases f2 k hk' with h' | h'
      · exact oc h'
      · exact S.oM k hk h'
    · exact old x (by simp [hx])
  · exact S.fr.mono fun k hk _ => by
      rcases hk with hk | hk
      · exact (h.F k).2 (.inl hk)
      · exact cF k (hC k hk)
  · rcases hk with hk | ⟨x, hx, hk⟩
    · rcases S.nh k hk with h' | h'
      · exact .inl ((h.F k).2 (.inl h'))
      · exact .inr h'
    · simp only [List.mem_append, List.mem_cons] at hx
      rcases hx with hx | rfl | rfl | hx
      · exact .inl ((h.F k).2 (.inr ⟨x, by simp [hx], hk⟩))
      · exact .inl (cF k (f1 k hk))
      · rcases f2 k hk with h' | h'
        · exact .inl (cF k h')
        · exact .inr (S.mh k h')
      · exact .inl ((h.F k).2 (.inr ⟨x, by simp [hx], hk⟩))
  · show Ext s.M (weave _ _)
    rw [e0, e1]
    exact Ext.mid _ _ hM

theorem split_leaf (w : World) (s : Sub) (N : Nd) (l r : List Sub) (c : Sub) (h : OpenP (Held 0) w s N (l ++ c :: r)) (hn : (l ++ c :: r).length ≤ 20) (h9 : 9 ≤ c.n) (h16 : c.n ≤ 20) :
    Calls Try.prog 33 #[ptrv s.b, i64 l.length] w fun e w' => (∃ v, e = .returned v) ∧ ∃ s' N' c1 c2, OpenP (Held 0) w' s' N' (l ++ c1 :: c2 :: r) ∧ Tn w s w' s' ∧ s'.n = s.n + 1 ∧ Ext s.M s'.M ∧ c1.n = c.n / 2 ∧ c2.n = c.n - c.n / 2 := by
  obtain ⟨C, hc⟩ := h.held c (by simp)
  have hoff : ∀ k, N.has k → ¬ C.has k := fun k hk hk' => h.off c (by simp) k hk ((hc.F k).2 hk')
  have hps : N.ps[l.length]? = some C.b := by rw [h.ps, hc.b]; simp
  have hlen : N.ps.length = N.ks.length + 1 := by rw [h.ps, List.length_map]; exact h.len
  have h100 : N.ps.length ≤ 100 := by rw [h.ps, List.length_map]; omega
  rw [hc.n] at h9 h16
  have hh := (halve_leaf w C hc.na hc.ps hc.len h9 (by omega)).mono (R' := fun e w' => ∃ C' M key, e = .returned (.tuple #[i64 key, ptrv M.b]) ∧ Two w C w' C' M ∧ (C'.ks = C.ks.take (C.ks.length / 2) ∧ C'.vs = C.vs.take (C.ks.length / 2) ∧ C'.ps = C.ps ∧ M.ks = C.ks.drop (C.ks.length / 2) ∧ M.vs = C.vs.drop (C.ks.length / 2) ∧ M.ps = [] ∧ key = C.ks.getD (C.ks.length / 2) 0)) (by
    rintro e w' ⟨kv, vv, pv, M, rfl, t, h1, h2, h3⟩
    exact ⟨_, M, _, rfl, t, rfl, rfl, rfl, h1, h2, h3, rfl⟩)
  rw [← h.b]
  refine (split_node w N C l.length (fun C' M key => C'.ks = C.ks.take (C.ks.length / 2) ∧ C'.vs = C.vs.take (C.ks.length / 2) ∧ C'.ps = C.ps ∧ M.ks = C.ks.drop (C.ks.length / 2) ∧ M.vs = C.vs.drop (C.ks.length / 2) ∧ M.ps = [] ∧ key = C.ks.getD (C.ks.length / 2) 0) h.na hc.na hoff hps hlen h100 hh).mono ?_
  rintro e w' ⟨hv, kv, pv, C', M, key, S, g1, g2, g3, g4, g5, g6, g7⟩
  refine ⟨hv, ?_⟩
  have hq : C.ks.length / 2 < C.ks.length := by omega
  have hlv := hc.len
  have hz := zip_split (C.ks.length / 2) hlv
  have hM : Ext c.M ((C'.ks.zip C'.vs).map tk ++ sp key :: (M.ks.zip M.vs).map tk) := by
    refine ⟨fun A B x => ?_, ?_⟩
    · rw [hc.M, hz] at x
      rw [g1, g2, g4, g5]
      refine srt_halve x ?_ ?_
      · intro e
        have := congrArg List.length e
        rw [List.length_zip, List.length_take, List.length_take, List.length_nil] at this
        omega
      · rw [drop_cons hq, drop_cons (l := C.vs) (by omega), List.zip_cons_cons, g7, List.getD_eq_getElem?_getD, List.getElem?_eq_getElem hq]
        exact ⟨_, _, rfl⟩
    · rw [items_append, items_sp, items_map, items_map, hc.M, items_map, g1, g2, g4, g5, ← hz]
  obtain ⟨s', o, t, e1, e2⟩ := h.split (c1 := ⟨C'.b, C'.ks.length, (C'.ks.zip C'.vs).map tk, C'.has⟩) (c2 := ⟨M.b, M.ks.length, (M.ks.zip M.vs).map tk, M.has⟩) (key := key) S (fun k hk => (hc.F k).2 hk)
    ⟨C', S.ca, rfl, by rw [g3]; exact hc.ps, by rw [g1, g2]; simp [hlv], rfl, rfl, fun k => Iff.rfl⟩ ⟨M, S.ma, rfl, g6, by rw [g4, g5]; simp [hlv], rfl, rfl, fun k => Iff.rfl⟩
    (fun k hk => (hc.F k).2 (S.ch k hk)) (fun k hk => .inr hk) (fun k hk hk' => by have a := S.mh k hk'; have b := hc.na.lt k (S.ch k hk); omega) (S.cb.trans hc.b) rfl rfl rfl h.vs hM
  exact ⟨s', _, _, _, o, t, e1, e2, by show C'.ks.length = _; rw [g1, hc.n, List.length_take]; omega, by show M.ks.length = _; rw [g4, hc.n, List.length_drop]⟩

theorem split_inner (d : Nat) (w : World) (s : Sub) (N : Nd) (l r : List Sub) (c : Sub) (h : OpenP (Held (d + 1)) w s N (l ++ c :: r)) (hn : (l ++ c :: r).length ≤ 20) (h9 : 9 ≤ c.n) (h16 : c.n ≤ 20) :
    Calls Try.prog 33 #[ptrv s.b, i64 l.length] w fun e w' => (∃ v, e = .returned v) ∧ ∃ s' N' c1 c2, OpenP (Held (d + 1)) w' s' N' (l ++ c1 :: c2 :: r) ∧ Tn w s w' s' ∧ s'.n = s.n + 1 ∧ Ext s.M s'.M ∧ c1.n = c.n / 2 ∧ c2.n = c.n - c.n / 2 := by
  obtain ⟨C, gs, hc, hg⟩ := h.held c (by simp)
  have hoff : ∀ k, N.has k → ¬ C.has k := fun k hk hk' => h.off c (by simp) k hk ((hc.F k).2 (.inl hk'))
  have hps : N.ps[l.length]? = some C.b := by rw [h.ps, hc.b]; simp
  have hlen : N.ps.length = N.ks.length + 1 := by rw [h.ps, List.length_map]; exact h.len
  have h100 : N.ps.length ≤ 100 := by rw [h.ps, List.length_map]; omega
  have cps : C.ps.length = gs.length := by rw [hc.ps, List.length_map]
  have cn := hc.n
  have cl := hc.len
  have hh := (halve_inner w C hc.na hc.vs (by omega) (by omega) (by omega)).mono (R' := fun e w' => ∃ C' M key, e = .returned (.tuple #[i64 key, ptrv M.b]) ∧ Two w C w' C' M ∧ (C'.ks = C.ks.take (C.ps.length / 2 - 1) ∧ C'.vs = C.vs ∧ C'.ps = C.ps.take (C.ps.length / 2) ∧ M.ks = C.ks.drop (C.ps.length / 2) ∧ M.vs = [] ∧ M.ps = C.ps.drop (C.ps.length / 2) ∧ key = C.ks.getD (C.ps.length / 2 - 1) 0)) (by
    rintro e w' ⟨kv, vv, pv, M, rfl, t, h1, h2, h3⟩
    exact ⟨_, M, _, rfl, t, rfl, rfl, rfl, h1, h2, h3, rfl⟩)
  rw [← h.b]
  refine (split_node w N C l.length (fun C' M key => C'.ks = C.ks.take (C.ps.length / 2 - 1) ∧ C'.vs = C.vs ∧ C'.ps = C.ps.take (C.ps.length / 2) ∧ M.ks = C.ks.drop (C.ps.length / 2) ∧ M.vs = [] ∧ M.ps = C.ps.drop (C.ps.length / 2) ∧ key = C.ks.getD (C.ps.length / 2 - 1) 0) h.na hc.na hoff hps hlen h100 hh).mono ?_
  rintro e w' ⟨hv, kv, pv, C', M, key, S, g1, g2, g3, g4, g5, g6, g7⟩
  refine ⟨hv, ?_⟩
  rw [cps] at g1 g3 g4 g6 g7
  obtain ⟨q, hq⟩ : ∃ q, q = gs.length / 2 := ⟨_, rfl⟩
  rw [← hq] at g1 g3 g4 g6 g7
  have kept : ∀ x ∈ gs, Held d w' x := fun x hx => (hc.held x hx).fr S.fr fun k hk hk' => by
    rcases hk' with hk' | hk'
    · exact h.off c (by simp) k hk' ((hc.F k).2 (.inr ⟨x, hx, hk⟩))
    · exact hc.off x hx k hk' hk
  have hdj : (gs.take q ++ gs.drop q).Pairwise Dj := by rw [List.take_append_drop]; exact hc.dj
  have hd := List.pairwise_append.1 hdj
  have mt : ∀ x ∈ gs.take q, x ∈ gs := fun x hx => List.mem_of_mem_take hx
  have md : ∀ x ∈ gs.drop q, x ∈ gs := fun x hx => List.mem_of_mem_drop hx
  have o1 : OpenP (Held d) w' (Sub.mk' C' (gs.take q).length (weave C'.ks ((gs.take q).map (·.M))) (gs.take q)) C' (gs.take q) :=
    ⟨S.ca, rfl, by rw [g2]; exact hc.vs, by rw [g3, hc.ps, List.map_take], rfl, by rw [g1]; simp; omega, rfl, fun x hx => kept x (mt x hx), hd.1, fun x hx k hk => hc.off x (mt x hx) k (S.ch k hk), fun k => Iff.rfl⟩
  have o2 : OpenP (Held d) w' (Sub.mk' M (gs.drop q).length (weave M.ks ((gs.drop q).map (·.M))) (gs.drop q)) M (gs.drop q) :=
    ⟨S.ma, rfl, g5, by rw [g6, hc.ps, List.map_drop], rfl, by rw [g4]; simp; omega, rfl, fun x hx => kept x (md x hx), hd.2.1, fun x hx k hk hk' => by
      have a := S.mh k hk; have b := (hc.held x (md x hx)).lt d k hk'; omega, fun k => Iff.rfl⟩
  have eM : c.M = weave C'.ks ((gs.take q).map (·.M)) ++ sp key :: weave M.ks ((gs.drop q).map (·.M)) := by
    have hk1 : q - 1 < C.ks.length := by omega
    have e1 : C.ks = C.ks.take (q - 1) ++ C.ks.drop (q - 1) := (List.take_append_drop _ _).symm
    have hg1 : q - 1 < gs.length := by omega
    have e2 : gs = gs.take (q - 1) ++ gs[q - 1] :: gs.drop q := by
      have := drop_cons hg1
      rw [show q - 1 + 1 = q by omega] at this
      rw [← this, List.take_append_drop]
    have hkd : C.ks.drop (q - 1) = key :: M.ks := by
      rw [drop_cons hk1, g4, g7, List.getD_eq_getElem?_getD, List.getElem?_eq_getElem hk1, show q - 1 + 1 = q by omega]
      rfl
    have hgt : gs.take q = gs.take (q - 1) ++ [gs[q - 1]] := by
      have := List.take_succ_eq_append_getElem hg1
      rw [show q - 1 + 1 = q by omega] at this
      exact this
    have hl : ((gs.take (q - 1)).map (·.M)).length = (C.ks.take (q - 1)).length := by simp; omega
    have w1 := weave_split (C.ks.take (q - 1)) ((gs.take (q - 1)).map (·.M)) (key :: M.ks) gs[q - 1].M ((gs.drop q).map (·.M)) hl
    have w2 := weave_split (C.ks.take (q - 1)) ((gs.take (q - 1)).map (·.M)) [] gs[q - 1].M [] hl
    rw [List.append_nil] at w2
    have c1 : weave C.ks (gs.map (·.M)) = weave (C.ks.take (q - 1) ++ key :: M.ks) ((gs.take (q - 1)).map (·.M) ++ gs[q - 1].M :: (gs.drop q).map (·.M)) := by
      rw [← hkd, ← e1]
      congr 1
      conv => lhs; rw [e2]
      simp
    have c2 : weave C'.ks ((gs.take q).map (·.M)) = weave (C.ks.take (q - 1)) ((gs.take (q - 1)).map (·.M) ++ [gs[q - 1].M]) := by
      rw [g1, hgt, List.map_append]
      rfl
    have hne : (gs.drop q).map (·.M) ≠ [] := by
      intro e
      have := congrArg List.length e
      simp at this
      omega
    obtain ⟨m, ms, hm⟩ : ∃ m ms, (gs.drop q).map (·.M) = m :: ms := by
      cases hx : (gs.drop q).map (·.M) with
      | nil => exact absurd hx hne
      | cons a b => exact ⟨a, b, rfl⟩
    rw [hc.M, c1, w1, c2, w2, hm, postW_ne]
    simp [postW]
  obtain ⟨s', o, t, e1, e2⟩ := h.split (c1 := Sub.mk' C' (gs.take q).length (weave C'.ks ((gs.take q).map (·.M))) (gs.take q)) (c2 := Sub.mk' M (gs.drop q).length (weave M.ks ((gs.drop q).map (·.M))) (gs.drop q)) (key := key) S (fun k hk => (hc.F k).2 (.inl hk))
    ⟨C', gs.take q, o1, fun x hx => hg x (mt x hx)⟩ ⟨M, gs.drop q, o2, fun x hx => hg x (md x hx)⟩
    (fun k hk => by
      rcases hk with hk | ⟨x, hx, hk⟩
      · exact (hc.F k).2 (.inl (S.ch k hk))
      · exact (hc.F k).2 (.inr ⟨x, mt x hx, hk⟩))
    (fun k hk => by
      rcases hk with hk | ⟨x, hx, hk⟩
      · exact .inr hk
      · exact .inl ((hc.F k).2 (.inr ⟨x, md x hx, hk⟩)))
    (fun k hk hk' => by
      rcases hk with hk | ⟨x, hx, hk⟩
      · rcases hk' with hk' | ⟨y, hy, hk'⟩
        · have a := S.mh k hk'; have b := hc.na.lt k (S.ch k hk); omega
        · exact hc.off y (md y hy) k (S.ch k hk) hk'
      · rcases hk' with hk' | ⟨y, hy, hk'⟩
        · have a := S.mh k hk'; have b := (hc.held x (mt x hx)).lt d k hk; omega
        · exact hd.2.2 x hx y hy k hk hk')
    (S.cb.trans hc.b) rfl rfl rfl h.vs (show Ext c.M (weave C'.ks ((gs.take q).map (·.M)) ++ sp key :: weave M.ks ((gs.drop q).map (·.M))) from eM ▸ Ext.refl _)
  exact ⟨s', _, _, _, o, t, e1, e2, by show (gs.take q).length = _; rw [cn, List.length_take, ← hq]; omega, by show (gs.drop q).length = _; rw [cn, List.length_drop, ← hq]⟩

theorem split_any (d : Nat) (w : World) (s : Sub) (N : Nd) (l r : List Sub) (c : Sub) (h : OpenP (Held d) w s N (l ++ c :: r)) (hn : (l ++ c :: r).length ≤ 20) (h9 : 9 ≤ c.n) (h16 : c.n ≤ 20) :
    Calls Try.prog 33 #[ptrv s.b, i64 l.length] w fun e w' => (∃ v, e = .returned v) ∧ ∃ s' N' c1 c2, OpenP (Held d) w' s' N' (l ++ c1 :: c2 :: r) ∧ Tn w s w' s' ∧ s'.n = s.n + 1 ∧ Ext s.M s'.M ∧ c1.n = c.n / 2 ∧ c2.n = c.n - c.n / 2 := by
  cases d with
  | zero => exact split_leaf w s N l r c h hn h9 h16
  | succ d => exact split_inner d w s N l r c h hn h9 h16
end Go.Proofs.Ytjdlicphmflnkaa.L5
