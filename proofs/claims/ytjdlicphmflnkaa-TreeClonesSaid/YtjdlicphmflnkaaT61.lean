/-
  Layer 5: the document's Delete.
-/
import Derived.Test.YtjdlicphmflnkaaT35
import Derived.Deep.CutRange
namespace Go.Proofs.Ytjdlicphmflnkaa.L5
open Go.ChangeShapes Go.WideShapes Go.ChangeAt Go.RowKit By Reg
set_option linter.unusedVariables false

theorem delL_at {x : Int} {L : List Th} {p : Nat} (hr : Rise L) (hp : PosL x L p) : delL x L = if foundL x L p then L.take p ++ L.drop (p + 1) else L := by
  have key : ∀ j (hj : j < L.length), L.getD j (0, 0) = L[j] := fun j hj => by rw [List.getD_eq_getElem?_getD, List.getElem?_eq_getElem hj]; rfl
  have hlt : Lt x (L.take p) := fun t ht => by
    obtain ⟨j, hj, e⟩ := List.mem_iff_getElem.1 ht
    rw [List.length_take] at hj
    rw [List.getElem_take] at e
    have := hp.lo j (by omega)
    rw [key j (by omega), e] at this
    exact this
  have hgt : ∀ j, p < j → ∀ h : j < L.length, (L.getD p (0, 0)).1 < (L[j]).1 := fun j hj h => by
    rw [key p (by omega)]
    exact List.pairwise_iff_getElem.1 hr p j (by omega) h hj
  cases hf : foundL x L p
  · simp only [Bool.false_eq_true, if_false]
    unfold foundL at hf
    rw [decide_eq_false_iff_not] at hf
    refine List.filter_eq_self.2 fun t ht => ?_
    obtain ⟨j, hj, rfl⟩ := List.mem_iff_getElem.1 ht
    simp only [decide_eq_true_eq, ne_eq]
    intro e
    rcases Nat.lt_trichotomy j p with h | h | h
    · have := hp.lo j h
      rw [key j hj] at this
      omega
    · subst h
      exact hf ⟨hj, by rw [key j hj]; exact e⟩
    · have := hgt j h hj
      have := hp.hi (by omega)
      omega
  · simp only [if_true]
    unfold foundL at hf
    obtain ⟨h1, h2⟩ := of_decide_eq_true hf
    have e : L = L.take p ++ L[p] :: L.drop (p + 1) := by rw [← drop_cons h1, List.take_append_drop]
    conv => lhs; rw [e]
    rw [delL_append, delL_lt hlt]
    congr 1
    show List.filter _ _ = _
    rw [List.filter_cons_of_neg (by rw [key p h1] at h2; simp [h2])]
    refine delL_gt fun t ht => ?_
    obtain ⟨j, hj, e⟩ := List.mem_iff_getElem.1 ht
    rw [List.length_drop] at hj
    rw [List.getElem_drop] at e
    have := hgt (p + 1 + j) (by omega) (by omega)
    rw [e] at this
    omega

/-- what the document's Delete leaves -/
def Fresh2 (w : World) (v : Value) (L' : List Th) (e : Ending) (w' : World) : Prop := ∃ v', e = .returned v' ∧ PRow w' v' L' ∧ (∀ k, v'.ownBlock = some k → v.ownBlock = some k ∨ w.heap.size ≤ k) ∧ Rb w w'

set_option maxHeartbeats 2000000 in
set_option maxRecDepth 100000 in
theorem refdel (w : World) (v : Value) (L : List Th) (x : Int) (h : PRow w v L) (hL : L.length ≤ 40000) (hri : Rise L) :
    Calls Try.prog 24 #[v, i64 x] w (Fresh2 w v (delL x L)) := by
  obtain ⟨p, hp⟩ := PosL.exists x L
  have CA := Lib.hid (refat w _ L x p h (by omega) hp)
  have hdel := delL_at hri hp
  obtain ⟨n, hn⟩ : ∃ n, n = L.length := ⟨_, rfl⟩
  cases hf : foundL x L p
  · rw [hf] at CA hdel
    simp only [Bool.false_eq_true, if_false] at hdel
    rw [hdel]
    have H := Lib.hid h
    unfold Fresh2
    obtain ⟨ao, cap, rfl⟩ : ∃ ao cap, v = .slice ao n cap := by
      rcases h.cases' with ⟨h1, h2⟩ | ⟨g, cap, h1, _⟩
      · exact ⟨none, 0, by rw [h1, hn, h2]; rfl⟩
      · exact ⟨_, cap, by rw [h1, hn]⟩
    clear h hn hp hdel hf hri
    go_enter Try.func24, Try.ntmps24
    go_wp2_with (go_at_call 23; refine CA.out.mono ?_)
    first | (rintro e w1 rfl hd) | (rintro e w1 ⟨rfl, hd⟩)
    have HD := Lib.hid hd
    clear hd
    go_wp2
    go_ret
    exact ⟨_, rfl, H.out.rb HD.out.rb, fun k hk => .inl hk, HD.out.rb⟩
  · rw [hf] at CA hdel
    simp only [if_true] at hdel
    have hpl : p < n := by
      unfold foundL at hf
      rw [hn]
      exact (of_decide_eq_true hf).1
    obtain ⟨g, cap, rfl, hnc, hcm⟩ : ∃ g cap, v = .slice (some ⟨g, 0, none⟩) n cap ∧ n ≤ cap ∧ cap ≤ maxLen := by
      rcases h.cases' with ⟨h1, h2⟩ | ⟨g, cap, h1, h2, h3, _⟩
      · rw [hn, h2] at hpl; simp at hpl
      · exact ⟨g, cap, by rw [h1, hn], by omega, h3⟩
    have hgs : g < w.heap.size := h.lt g rfl
    have H := Lib.hid h
    have HDEL := Lib.hid hdel
    have HN : Hid (n = L.length ∧ p < n ∧ n ≤ 40000) := ⟨hn, hpl, by omega⟩
    have STEPS : ∀ w1, Dn w w1 → ∃ v1 w2 v3 w4, ∃ ad, Hid ((∀ ty, (Builtin.append_ #[27, 27] ty #[.slice (some ⟨w1.heap.size, 0, none⟩) 0 0, .slice (some ⟨g, 0, none⟩) p cap]).run Try.prog (w1.alloc (.cells #[] 47)) = .ok v1 w2) ∧
        (if cap = p + 1 then some (⟨g, 0, none⟩ : Addr) else some ⟨g, (p + 1) * 2, none⟩) = some ad ∧
        (∀ ty, (Builtin.append_ #[27, 27] ty #[v1, .slice (some ad) (n - (p + 1)) (cap - (p + 1))]).run Try.prog w2 = .ok v3 w4) ∧
        PRow w4 v3 (delL x L) ∧ (∀ k, v3.ownBlock = some k → w.heap.size ≤ k) ∧ Rb w w4) := fun w1 hd => by
      have r1 := hd.rb
      have hsz : w1.heap.size = w.heap.size := by obtain ⟨m, rfl⟩ := hd; rfl
      have B1 : Below w.heap.size w (w1.alloc (.cells #[] 47)) := Below.trans r1 ((Below.refl _ w1).alloc (by omega) _)
      have own0 : (w1.alloc (.cells #[] 47)).ownsRow w.heap.size 47 2 (.slice (some ⟨w1.heap.size, 0, none⟩) 0 0) ([] : List Th).length (cells2 []) := World.ownsRow_made w1 #[] 0 (by omega) (Nat.zero_le _) rfl
      have s1 : Sl2 (w1.alloc (.cells #[] 47)) (.slice (some ⟨g, 0, none⟩) p cap) (L.take p) := (H.out.head p (by have := HN.out; omega)).below B1 (fun k hk => by cases hk; exact hgs)
      obtain ⟨v1, w2, ra1, o1, b1⟩ := append_pairs own0 s1 (by have := HN.out; simp; omega) B1.size
      have B2 : Below w.heap.size w w2 := B1.trans b1
      obtain ⟨ad, ha, hab, s3⟩ := H.out.tail (p + 1) (by have := HN.out; omega)
      have s3' := s3.below B2 (fun k hk => by cases hk; rw [hab]; exact hgs)
      obtain ⟨v3, w4, ra3, o3, b3⟩ := append_pairs o1 s3' (by have := HN.out; simp; omega) B2.size
      have e : ([] ++ L.take p ++ L.drop (p + 1)) = delL x L := by rw [HDEL.out]; simp
      rw [e] at o3
      exact ⟨v1, w2, v3, w4, ad, ra1, ha, ra3, o3.mono (Nat.zero_le _), fun k hk => (World.ownsRow.lt o3 k hk).1, B2.trans b3⟩
    have hw1 : IntKind.i64.wrap ((p : Int) + 1) = (p : Int) + 1 := by rw [IntKind.wrap_i64]; omega
    have htn : ((p : Int) + 1).toNat = p + 1 := by omega
    have hb1 : (0 : Int) ≤ (p : Int) + 1 := by omega
    have hpc : p ≤ cap := by omega
    have hqc : p + 1 ≤ cap := by omega
    have hqn : p + 1 ≤ n := by omega
    have hn4 : n ≤ 40000 := by omega
    have hqi : (p : Int) + 1 ≤ (n : Int) := by omega
    clear h hn hp hdel hf hri hL
    unfold Fresh2
    unfold maxLen at hcm
    go_enter Try.func24, Try.ntmps24
    go_wp2_with (go_at_call 23; refine CA.out.mono ?_)
    first | (rintro e w1 rfl hd) | (rintro e w1 ⟨rfl, hd⟩)
    have hd2 : Dn w w1.drew := by obtain ⟨q, rfl⟩ := hd; exact ⟨q + 1, rfl⟩
    obtain ⟨v1, w2, v3, w4, ad, hst⟩ := STEPS w1.drew hd2
    obtain ⟨ra1, had, ra3, hrest⟩ := hst.out
    have e0 : w1.drew.heap.size = w1.heap.size := rfl
    rw [e0] at ra1
    have HREST := Lib.hid hrest
    clear hst hrest STEPS hd hd2 e0
    have mixed : Try.prog.follows Departure.mixedOrders = true := by kernel_rfl
    go_wp2_with fail
    go_region_law_o (first | (refine step_run_append rfl rfl (by simp [Act.eval]) (by simp [Act.eval]) (ra1 _) ?_) | (refine step_run_append rfl rfl (by simp [Act.eval]) (by simp [Act.eval]) (ra3 _) ?_))
    all_goals
      go_wp2
      go_ret
      exact ⟨_, rfl, HREST.out.1, fun k hk => .inr (HREST.out.2.1 k hk), HREST.out.2.2⟩

theorem getL_rise {x : Int} {L : List Th} {p : Nat} (hr : Rise L) (hp : PosL x L p) : getL x L = if foundL x L p then some (L.getD p (0, 0)).2 else none := by
  have key : ∀ j (hj : j < L.length), L.getD j (0, 0) = L[j] := fun j hj => by rw [List.getD_eq_getElem?_getD, List.getElem?_eq_getElem hj]; rfl
  have hlt : Lt x (L.take p) := fun t ht => by
    obtain ⟨j, hj, e⟩ := List.mem_iff_getElem.1 ht
    rw [List.length_take] at hj
    rw [List.getElem_take] at e
    have := hp.lo j (by omega)
    rw [key j (by omega), e] at this
    exact this
  have e : getL x L = getL x (L.drop p) := by
    conv => lhs; rw [← List.take_append_drop p L]
    exact getL_lt _ hlt
  rw [e]
  rcases Nat.lt_or_ge p L.length with h1 | h1
  · rw [drop_cons h1, getL]
    by_cases h2 : L[p].1 = x
    · rw [if_pos h2, if_pos (show foundL x L p = true by unfold foundL; rw [decide_eq_true_eq]; exact ⟨h1, by rw [key p h1]; exact h2⟩), key p h1]
    · rw [if_neg h2, if_neg (show ¬ foundL x L p = true by unfold foundL; rw [decide_eq_true_eq]; exact fun h => h2 (by rw [← key p h1]; exact h.2))]
      refine getL_gt fun t ht => ?_
      obtain ⟨j, hj, e⟩ := List.mem_iff_getElem.1 ht
      rw [List.length_drop] at hj
      rw [List.getElem_drop] at e
      have h3 := List.pairwise_iff_getElem.1 hr p (p + 1 + j) (by omega) (by omega) (by omega)
      rw [e] at h3
      have h4 := hp.hi h1
      rw [key p h1] at h4
      omega
  · rw [List.drop_eq_nil_of_le h1, if_neg (show ¬ foundL x L p = true by unfold foundL; rw [decide_eq_true_eq]; exact fun h => by omega)]
    rfl
end Go.Proofs.Ytjdlicphmflnkaa.L5
