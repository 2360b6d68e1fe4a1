/-
  Layer 5: put.
-/
import Derived.Test.YtjdlicphmflnkaaT17
import Derived.Test.YtjdlicphmflnkaaT8
namespace Go.Proofs.Ytjdlicphmflnkaa.L5
open Go.ChangeShapes Go.WideShapes Go.ChangeAt Go.RowKit By Reg
set_option linter.unusedVariables false

theorem Row.ptr_at {w : World} {e : TypeId} {v : Value} {ps : List Nat} (h : Row w e v (ps.map ptrv)) {j b : Nat} (hj : ps[j]? = some b) :
    ∃ g cap, v = .slice (some ⟨g, 0, none⟩) ps.length cap ∧ ps.length ≤ cap ∧ cap ≤ maxLen ∧ w.cell? ⟨g, j, none⟩ = some (ptrv b) := by
  have hjl := (List.getElem?_eq_some_iff.1 hj)
  obtain ⟨g, cap, h1, h2, h3, h4⟩ := h.at_ (j := j) (by rw [List.length_map]; exact hjl.1)
  rw [List.length_map] at h1 h2
  refine ⟨g, cap, h1, h2, h3, ?_⟩
  rw [h4, List.getElem_map, hjl.2]

theorem leaf_rise {w : World} {s : Sub} {N : Nd} {A B : List Tok} (h : LeafP w s N) (hs : Srt (A ++ (s.M ++ B))) : N.ks.Pairwise (· < ·) := by
  have h1 := srt_mid hs
  rw [h.M, srt_map_tk] at h1
  have h2 : ((N.ks.zip N.vs).map (·.1)).Pairwise (· < ·) := List.pairwise_map.2 h1
  have e : (N.ks.zip N.vs).map (·.1) = N.ks := List.map_fst_zip (by rw [h.len]; exact Nat.le_refl _)
  rwa [e] at h2

theorem Nx.leaf {w w' : World} {s : Sub} {N N' : Nd} (h : LeafP w s N) (x : Nx w N w' N') (hp : N'.ps = []) (hl : N'.vs.length = N'.ks.length) :
    Held 0 w' ⟨N'.b, N'.ks.length, (N'.ks.zip N'.vs).map tk, N'.has⟩ ∧ Tn w s w' ⟨N'.b, N'.ks.length, (N'.ks.zip N'.vs).map tk, N'.has⟩ :=
  ⟨⟨N', x.at_, rfl, hp, hl, rfl, rfl, fun k => Iff.rfl⟩, ⟨x.b.trans h.b, x.fr.mono (fun k hk _ => (h.F k).2 hk), fun k hk => by
    rcases x.has k hk with h' | h'
    · exact .inl ((h.F k).2 h')
    · exact .inr h'⟩⟩

/-- what put answers and leaves -/
def PutPost (x y : Int) (d : Nat) (w : World) (s : Sub) (A B : List Tok) (e : Ending) (w' : World) : Prop :=
  ∃ s', e = .returned (.tuple #[i64 ((getL x (items s.M)).getD 0), .bool (getL x (items s.M)).isSome]) ∧ Held d w' s' ∧ Tn w s w' s' ∧ s.n ≤ s'.n ∧ s'.n ≤ s.n + 1 ∧ 1 ≤ s'.n ∧ Srt (A ++ (s'.M ++ B)) ∧ items s'.M = putL x y (items s.M)

theorem puthere_any (x y : Int) (w : World) (s : Sub) (N : Nd) (A B : List Tok) (h : LeafP w s N) (hn : s.n ≤ 100) (hs : Srt (A ++ (s.M ++ B))) (hA : ∀ a ∈ A, a.1 < 2 * x + 1) (hB : ∀ b ∈ B, 2 * x + 1 < b.1) :
    Calls Try.prog 44 #[ptrv s.b, i64 x, i64 y] w (PutPost x y 0 w s A B) := by
  have hr := leaf_rise h hs
  obtain ⟨p, hp⟩ := Pos.exists x N.ks hr
  have hnn := h.n
  have hi : items s.M = N.ks.zip N.vs := by rw [h.M, items_map]
  rw [← h.b]
  cases hf : found x N.ks p
  · refine (puthere_new w N x y p h.na h.len (by omega) hr hp hf).mono ?_
    rintro e w' ⟨rfl, kv', vv', X⟩
    have hpl := hp.le
    obtain ⟨a, t⟩ := Nx.leaf h X h.ps (by have := h.len; simp; omega)
    have hg := leaf_get_none h.len hp hr hf
    have hput := leaf_put_none y h.len hp hr hf
    refine ⟨_, by rw [hi, hg]; rfl, a, t, ?_, ?_, ?_, ?_, ?_⟩
    · show s.n ≤ (N.ks.take p ++ x :: N.ks.drop p).length
      simp; omega
    · show (N.ks.take p ++ x :: N.ks.drop p).length ≤ s.n + 1
      simp; omega
    · show 1 ≤ (N.ks.take p ++ x :: N.ks.drop p).length
      simp; omega
    · show Srt (A ++ (((N.ks.take p ++ x :: N.ks.drop p).zip (N.vs.take p ++ y :: N.vs.drop p)).map tk ++ B))
      rw [hput]
      rw [h.M] at hs
      exact srt_put hs hA hB
    · show items (((N.ks.take p ++ x :: N.ks.drop p).zip (N.vs.take p ++ y :: N.vs.drop p)).map tk) = _
      rw [items_map, hi, hput]
  · obtain ⟨hpl, hpe⟩ := found_at hf
    refine (puthere_old w N x y p h.na h.len (by omega) hr hp hf).mono ?_
    rintro e w' ⟨rfl, X⟩
    obtain ⟨a, t⟩ := Nx.leaf h X h.ps (by have := h.len; simp; omega)
    have hg := leaf_get_some h.len hp hpl hpe
    have hput := leaf_put_some y h.len hp hpl hpe
    refine ⟨_, by rw [hi, hg]; rfl, a, t, ?_, ?_, ?_, ?_, ?_⟩
    · show s.n ≤ N.ks.length
      omega
    · show N.ks.length ≤ s.n + 1
      omega
    · show 1 ≤ N.ks.length
      omega
    · show Srt (A ++ ((N.ks.zip (N.vs.set p y)).map tk ++ B))
      rw [hput]
      rw [h.M] at hs
      exact srt_put hs hA hB
    · show items ((N.ks.zip (N.vs.set p y)).map tk) = _
      rw [items_map, hi, hput]

/-- the part in which a key lies -/
structure At (x : Int) (s : Sub) (N : Nd) (l : List Sub) (c : Sub) (r : List Sub) (P Q : List Tok) : Prop where
  M : s.M = P ++ (c.M ++ Q)
  any : ∀ c' : Sub, weave N.ks ((l ++ c' :: r).map (·.M)) = P ++ (c'.M ++ Q)
  lo : ∀ t ∈ P, t.1 < 2 * x + 1
  hi : ∀ t ∈ Q, 2 * x + 1 < t.1

theorem OpenP.at_ {H : World → Sub → Prop} {w : World} {s : Sub} {N : Nd} {cs : List Sub} (h : OpenP H w s N cs) {A B : List Tok} (hs : Srt (A ++ (s.M ++ B))) (x : Int) :
    ∃ p, N.ks.Pairwise (· < ·) ∧ Pos x N.ks p ∧ ∃ l c r P Q, cs = l ++ c :: r ∧ placeAt x N.ks p = l.length ∧ At x s N l c r P Q := by
  have hsm := srt_mid hs
  have hsM := hsm
  rw [h.M] at hsM
  have hr := seps_rise (by rw [List.length_map]; exact h.len) hsM
  obtain ⟨p, hp⟩ := Pos.exists x N.ks hr
  refine ⟨p, hr, hp, ?_⟩
  obtain ⟨i, hi⟩ : ∃ i, i = placeAt x N.ks p := ⟨_, rfl⟩
  rw [← hi]
  have hpl := hp.le
  have hil : i ≤ N.ks.length ∧ (∀ k ∈ N.ks.take i, k ≤ x) ∧ (∀ k ∈ N.ks.drop i, x < k) := by
    unfold placeAt at hi
    cases hf : found x N.ks p
    · rw [hf] at hi
      simp only [Bool.false_eq_true, if_false] at hi
      subst hi
      refine ⟨hpl, fun k hk => ?_, gt_of_none hp hr hf⟩
      obtain ⟨j, hj, e⟩ := List.mem_iff_getElem.1 hk
      rw [List.length_take] at hj
      rw [List.getElem_take] at e
      have := hp.lo j (by omega)
      rw [List.getD_eq_getElem?_getD, List.getElem?_eq_getElem (by omega), Option.getD_some, e] at this
      omega
    · rw [hf] at hi
      simp only [if_true] at hi
      subst hi
      obtain ⟨hpl', hpe⟩ := found_at hf
      refine ⟨hpl', fun k hk => ?_, gt_of_some hr hpl' hpe⟩
      obtain ⟨j, hj, e⟩ := List.mem_iff_getElem.1 hk
      rw [List.length_take] at hj
      rw [List.getElem_take] at e
      by_cases hjp : j < p
      · have := hp.lo j hjp
        rw [List.getD_eq_getElem?_getD, List.getElem?_eq_getElem (by omega), Option.getD_some, e] at this
        omega
      · have : j = p := by omega
        subst this
        omega
  obtain ⟨h1, h2, h3⟩ := hil
  have hlen := h.len
  have hic : i < cs.length := by omega
  have hcs : cs = cs.take i ++ cs[i] :: cs.drop (i + 1) := by rw [← drop_cons hic, List.take_append_drop]
  have htl : (cs.take i).length = i := by rw [List.length_take]; omega
  have hkt : (N.ks.take i).length = i := by rw [List.length_take]; omega
  have any : ∀ c' : Sub, weave N.ks ((cs.take i ++ c' :: cs.drop (i + 1)).map (·.M)) = preW (N.ks.take i) ((cs.take i).map (·.M)) ++ (c'.M ++ postW (N.ks.drop i) ((cs.drop (i + 1)).map (·.M))) := fun c' => by
    have := weave_split (N.ks.take i) ((cs.take i).map (·.M)) (N.ks.drop i) c'.M ((cs.drop (i + 1)).map (·.M)) (by rw [List.length_map, htl, hkt])
    rw [List.take_append_drop] at this
    rw [← this]
    simp only [List.map_append, List.map_cons]
  have hM : s.M = preW (N.ks.take i) ((cs.take i).map (·.M)) ++ (cs[i].M ++ postW (N.ks.drop i) ((cs.drop (i + 1)).map (·.M))) := by
    rw [← any, ← hcs, h.M]
  have hs2 := hsm
  rw [hM] at hs2
  refine ⟨cs.take i, cs[i], cs.drop (i + 1), _, _, hcs, htl.symm, hM, any, ?_, ?_⟩
  · exact pre_lt _ _ (srt_append.1 hs2).1 h2
  · exact post_gt _ _ (srt_append.1 (srt_append.1 hs2).2.1).2.1 h3

theorem ctx {x : Int} {A B P Q m : List Tok} (h : Srt (A ++ ((P ++ (m ++ Q)) ++ B))) (hA : ∀ a ∈ A, a.1 < 2 * x + 1) (hB : ∀ b ∈ B, 2 * x + 1 < b.1) (hP : ∀ t ∈ P, t.1 < 2 * x + 1) (hQ : ∀ t ∈ Q, 2 * x + 1 < t.1) :
    Srt ((A ++ P) ++ (m ++ (Q ++ B))) ∧ (∀ a ∈ A ++ P, a.1 < 2 * x + 1) ∧ (∀ b ∈ Q ++ B, 2 * x + 1 < b.1) := by
  refine ⟨by simpa using h, fun a ha => ?_, fun b hb => ?_⟩
  · rcases List.mem_append.1 ha with h | h
    · exact hA a h
    · exact hP a h
  · rcases List.mem_append.1 hb with h | h
    · exact hQ b h
    · exact hB b h
theorem unctx {A B P Q m : List Tok} (h : Srt ((A ++ P) ++ (m ++ (Q ++ B)))) : Srt (A ++ ((P ++ (m ++ Q)) ++ B)) := by simpa using h
end Go.Proofs.Ytjdlicphmflnkaa.L5
