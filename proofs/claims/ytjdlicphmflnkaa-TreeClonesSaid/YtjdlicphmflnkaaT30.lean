/-
  Layer 5: the document's Put.
-/
import Derived.Test.YtjdlicphmflnkaaT29
namespace Go.Proofs.Ytjdlicphmflnkaa.L5
open Go.ChangeShapes Go.WideShapes Go.ChangeAt Go.RowKit By Reg
set_option linter.unusedVariables false

/-- a part of a row of pairs -/
theorem PRow.tail {w : World} {g n cap : Nat} {L : List Th} (h : PRow w (.slice (some ⟨g, 0, none⟩) n cap) L) (i : Nat) (hi : i ≤ n) : ∃ ad, (if cap = i then some (⟨g, 0, none⟩ : Addr) else some ⟨g, i * 2, none⟩) = some ad ∧ ad.block = g ∧ Sl2 w (.slice (some ad) (n - i) (cap - i)) (L.drop i) := by
  rcases h.cases' with ⟨e, _⟩ | ⟨g', cap', e, h1, h2, h3⟩
  · cases e
  · simp only [Value.slice.injEq, Option.some.injEq, Addr.mk.injEq, and_true] at e
    obtain ⟨rfl, rfl, rfl⟩ := e
    by_cases hc : cap = i
    · refine ⟨⟨g, 0, none⟩, by simp [hc], rfl, _, _, by rw [List.length_drop], by rw [List.length_drop]; omega, by omega, (fun h => by cases h), fun ad e j u hu => ?_⟩
      rw [List.drop_eq_nil_of_le (by omega)] at hu
      cases hu
    · refine ⟨⟨g, i * 2, none⟩, by simp [hc], rfl, _, _, by rw [List.length_drop], by rw [List.length_drop]; omega, by omega, (fun h => by cases h), fun ad e j u hu => ?_⟩
      cases e
      rw [cells2_drop, List.getElem?_drop] at hu
      rw [Addr.add_lit]
      exact h3 _ _ hu
theorem PRow.head {w : World} {g n cap : Nat} {L : List Th} (h : PRow w (.slice (some ⟨g, 0, none⟩) n cap) L) (i : Nat) (hi : i ≤ n) : Sl2 w (.slice (some ⟨g, 0, none⟩) i cap) (L.take i) := by
  rcases h.cases' with ⟨e, _⟩ | ⟨g', cap', e, h1, h2, h3⟩
  · cases e
  · simp only [Value.slice.injEq, Option.some.injEq, Addr.mk.injEq, and_true] at e
    obtain ⟨rfl, rfl, rfl⟩ := e
    refine ⟨_, _, by rw [List.length_take, Nat.min_eq_left hi], by rw [List.length_take]; omega, h2, (fun h => by cases h), fun ad e j u hu => ?_⟩
    cases e
    rw [cells2_take, List.getElem?_take] at hu
    split at hu
    · rw [Addr.add_lit, Nat.zero_add]
      exact h3 _ _ hu
    · cases hu

/-- what the document's operations leave: a row of their own -/
def Fresh (w : World) (L' : List Th) (e : Ending) (w' : World) : Prop := ∃ v', e = .returned v' ∧ PRow w' v' L' ∧ (∀ k, v'.ownBlock = some k → w.heap.size ≤ k) ∧ Rb w w'

set_option maxHeartbeats 2000000 in
set_option maxRecDepth 100000 in
theorem refput_some (w : World) (g n cap : Nat) (L : List Th) (x y : Int) (h : PRow w (.slice (some ⟨g, 0, none⟩) n cap) L) (hn : n = L.length) (hL : L.length ≤ 40000) (f : Bool) (p : Nat) (hp : PosL x L p) (hf : foundL x L p = f) :
    Calls Try.prog 25 #[.slice (some ⟨g, 0, none⟩) n cap, i64 x, i64 y] w (Fresh w (putL x y L)) := by
  have CA := Lib.hid (refat w _ L x p h (by omega) hp)
  rw [hf] at CA
  have hput := putL_at x y L p hp
  rw [hf] at hput
  have hple := hp.le
  obtain ⟨q, hq⟩ : ∃ q, q = if f then p + 1 else p := ⟨_, rfl⟩
  have hqn : q ≤ n := by
    rw [hq]
    cases f
    · simp; omega
    · have : p < L.length := by
        unfold foundL at hf
        exact (of_decide_eq_true hf).1
      simp; omega
  rw [← hq] at hput
  have hgs : g < w.heap.size := h.lt g rfl
  have hpn : p ≤ n := by omega
  have hcapn : n ≤ cap ∧ cap ≤ maxLen := by
    rcases h.cases' with ⟨e, _⟩ | ⟨g', cap', e, h1, h2, h3⟩
    · cases e
    · simp only [Value.slice.injEq, Option.some.injEq, Addr.mk.injEq, and_true] at e
      obtain ⟨rfl, e2, rfl⟩ := e
      exact ⟨by omega, h2⟩
  have H := Lib.hid h
  have HPUT := Lib.hid hput
  obtain ⟨hc1, hc2⟩ := hcapn
  unfold maxLen at hc2
  have hpc : p ≤ cap := by omega
  have hqc : q ≤ cap := by omega
  have hnb : n ≤ 40000 := by omega
  have HN : Hid (n = L.length ∧ q ≤ n ∧ p ≤ n ∧ n ≤ 40000) := ⟨hn, hqn, hpn, hnb⟩
  have HQ := Lib.hid hq
  -- what is appended, in a world w1 that only draws part from w
  have STEPS : ∀ w1, Dn w w1 → ∃ v1 w2 v2 w3 v3 w4, ∃ ad, Hid ((∀ ty, (Builtin.append_ #[27, 27] ty #[.slice (some ⟨w1.heap.size, 0, none⟩) 0 0, .slice (some ⟨g, 0, none⟩) p cap]).run Try.prog (w1.alloc (.cells #[] 47)) = .ok v1 w2) ∧
      (∀ ty, (Builtin.append_ #[27, 27] ty #[v1, .slice (some ⟨w2.heap.size, 0, none⟩) 1 1]).run Try.prog (w2.alloc (.cells #[i64 x, i64 y] 47)) = .ok v2 w3) ∧
      (if cap = q then some (⟨g, 0, none⟩ : Addr) else some ⟨g, q * 2, none⟩) = some ad ∧
      (∀ ty, (Builtin.append_ #[27, 27] ty #[v2, .slice (some ad) (n - q) (cap - q)]).run Try.prog w3 = .ok v3 w4) ∧
      PRow w4 v3 (putL x y L) ∧ (∀ k, v3.ownBlock = some k → w.heap.size ≤ k) ∧ Rb w w4) := fun w1 hd => by
    have r1 := hd.rb
    have hsz : w1.heap.size = w.heap.size := by obtain ⟨m, rfl⟩ := hd; rfl
    have B1 : Below w.heap.size w (w1.alloc (.cells #[] 47)) := Below.trans r1 ((Below.refl _ w1).alloc (by omega) _)
    have own0 : (w1.alloc (.cells #[] 47)).ownsRow w.heap.size 47 2 (.slice (some ⟨w1.heap.size, 0, none⟩) 0 0) ([] : List Th).length (cells2 []) := World.ownsRow_made w1 #[] 0 (by omega) (Nat.zero_le _) rfl
    have s1 : Sl2 (w1.alloc (.cells #[] 47)) (.slice (some ⟨g, 0, none⟩) p cap) (L.take p) := (H.out.head p HN.out.2.2.1).below B1 (fun k hk => by cases hk; exact hgs)
    obtain ⟨v1, w2, ra1, o1, b1⟩ := append_pairs own0 s1 (by simp; omega) B1.size
    have B2 : Below w.heap.size w w2 := B1.trans b1
    have B2' : Below w.heap.size w (w2.alloc (.cells #[i64 x, i64 y] 47)) := B2.alloc B2.size _
    have hbk : Blk (w2.alloc (.cells #[i64 x, i64 y] 47)) w2.heap.size 47 [i64 x, i64 y] := Blk.new w2 _ [i64 x, i64 y]
    have s2 : Sl2 (w2.alloc (.cells #[i64 x, i64 y] 47)) (.slice (some ⟨w2.heap.size, 0, none⟩) 1 1) [(x, y)] := ⟨_, 1, rfl, Nat.le_refl _, by unfold maxLen; omega, (fun h => by cases h), fun ad e j u hu => by
      cases e
      rw [Addr.add_lit, hbk.cell, Nat.zero_add]; exact hu⟩
    obtain ⟨v2, w3, ra2, o2, b2⟩ := append_pairs (o1.alloc _) s2 (by simp; omega) B2'.size
    have B3 : Below w.heap.size w w3 := B2'.trans b2
    obtain ⟨ad, ha, hab, s3⟩ := H.out.tail q HN.out.2.1
    have s3' := s3.below B3 (fun k hk => by cases hk; rw [hab]; exact hgs)
    obtain ⟨v3, w4, ra3, o3, b3⟩ := append_pairs o2 s3' (by simp; omega) B3.size
    have e : ([] ++ L.take p ++ [(x, y)] ++ L.drop q) = putL x y L := by rw [HPUT.out]; simp
    rw [e] at o3
    exact ⟨v1, w2, v2, w3, v3, w4, ad, ra1, ra2, ha, ra3, o3.mono (Nat.zero_le _), fun k hk => (World.ownsRow.lt o3 k hk).1, B3.trans b3⟩
  have hw1 : IntKind.i64.wrap ((p : Int) + 1) = (p : Int) + 1 := by rw [IntKind.wrap_i64]; omega
  have htn : ((p : Int) + 1).toNat = p + 1 := by omega
  have hb1 : (0 : Int) ≤ (p : Int) + 1 := by omega
  clear h hn hL hp hf hput hple hgs hc1 hc2 H
  unfold Fresh
  cases f
  · have hqp : q = p := by rw [HQ.out]; rfl
    subst hqp
    clear HQ hq
    go_enter Try.func25, Try.ntmps25
    go_wp2_with (go_at_call 23; refine CA.out.mono ?_)
    first | (rintro e w1 rfl hd) | (rintro e w1 ⟨rfl, hd⟩)
    obtain ⟨v1, w2, v2, w3, v3, w4, ad, hst⟩ := STEPS w1 hd
    obtain ⟨ra1, ra2, had, ra3, hrest⟩ := hst.out
    have HREST := Lib.hid hrest
    clear hst hrest STEPS hd
    go_wp2_with (at_builtin; first | (refine wpList_run_append rfl rfl rfl rfl (ra1 _) ?_) | (refine wpList_run_append rfl rfl rfl rfl (ra2 _) ?_) | (refine wpList_run_append rfl rfl rfl rfl (ra3 _) ?_))
    go_ret
    exact ⟨_, rfl, HREST.out⟩
  · have hqp : q = p + 1 := by rw [HQ.out]; rfl
    subst hqp
    clear HQ hq
    go_enter Try.func25, Try.ntmps25
    go_wp2_with (go_at_call 23; refine CA.out.mono ?_)
    first | (rintro e w1 rfl hd) | (rintro e w1 ⟨rfl, hd⟩)
    obtain ⟨v1, w2, v2, w3, v3, w4, ad, hst⟩ := STEPS w1 hd
    obtain ⟨ra1, ra2, had, ra3, hrest⟩ := hst.out
    have HREST := Lib.hid hrest
    clear hst hrest STEPS hd
    go_wp2_with (at_builtin; first | (refine wpList_run_append rfl rfl rfl rfl (ra1 _) ?_) | (refine wpList_run_append rfl rfl rfl rfl (ra2 _) ?_) | (refine wpList_run_append rfl rfl rfl rfl (ra3 _) ?_))
    go_ret
    exact ⟨_, rfl, HREST.out⟩
set_option maxHeartbeats 2000000 in
set_option maxRecDepth 100000 in
theorem refput_nil (w : World) (x y : Int) :
    Calls Try.prog 25 #[.slice none 0 0, i64 x, i64 y] w (Fresh w [(x, y)]) := by
  have CA := Lib.hid (refat w _ [] x 0 (PRow.nil w) (by simp) ⟨Nat.le_refl _, fun j hj => absurd hj (Nat.not_lt_zero _), fun h => absurd h (Nat.not_lt_zero _)⟩)
  rw [show foundL x [] 0 = false from rfl] at CA
  have STEPS : ∀ w1, Dn w w1 → ∃ v1 w2 v2 w3 v3 w4, Hid ((∀ ty, (Builtin.append_ #[27, 27] ty #[.slice (some ⟨w1.heap.size, 0, none⟩) 0 0, .slice none 0 0]).run Try.prog (w1.alloc (.cells #[] 47)) = .ok v1 w2) ∧
      (∀ ty, (Builtin.append_ #[27, 27] ty #[v1, .slice (some ⟨w2.heap.size, 0, none⟩) 1 1]).run Try.prog (w2.alloc (.cells #[i64 x, i64 y] 47)) = .ok v2 w3) ∧
      (∀ ty, (Builtin.append_ #[27, 27] ty #[v2, .slice none 0 0]).run Try.prog w3 = .ok v3 w4) ∧
      PRow w4 v3 [(x, y)] ∧ (∀ k, v3.ownBlock = some k → w.heap.size ≤ k) ∧ Rb w w4) := fun w1 hd => by
    have r1 := hd.rb
    have hsz : w1.heap.size = w.heap.size := by obtain ⟨m, rfl⟩ := hd; rfl
    have B1 : Below w.heap.size w (w1.alloc (.cells #[] 47)) := Below.trans r1 ((Below.refl _ w1).alloc (by omega) _)
    have own0 : (w1.alloc (.cells #[] 47)).ownsRow w.heap.size 47 2 (.slice (some ⟨w1.heap.size, 0, none⟩) 0 0) ([] : List Th).length (cells2 []) := World.ownsRow_made w1 #[] 0 (by omega) (Nat.zero_le _) rfl
    have snil : ∀ w, Sl2 w (.slice none 0 0) [] := fun w => (PRow.nil w).sl
    obtain ⟨v1, w2, ra1, o1, b1⟩ := append_pairs own0 (snil _) (by simp) B1.size
    have B2 : Below w.heap.size w w2 := B1.trans b1
    have B2' : Below w.heap.size w (w2.alloc (.cells #[i64 x, i64 y] 47)) := B2.alloc B2.size _
    have hbk : Blk (w2.alloc (.cells #[i64 x, i64 y] 47)) w2.heap.size 47 [i64 x, i64 y] := Blk.new w2 _ [i64 x, i64 y]
    have s2 : Sl2 (w2.alloc (.cells #[i64 x, i64 y] 47)) (.slice (some ⟨w2.heap.size, 0, none⟩) 1 1) [(x, y)] := ⟨_, 1, rfl, Nat.le_refl _, by unfold maxLen; omega, (fun h => by cases h), fun ad e j u hu => by
      cases e
      rw [Addr.add_lit, hbk.cell, Nat.zero_add]; exact hu⟩
    obtain ⟨v2, w3, ra2, o2, b2⟩ := append_pairs (o1.alloc _) s2 (by simp) B2'.size
    have B3 : Below w.heap.size w w3 := B2'.trans b2
    obtain ⟨v3, w4, ra3, o3, b3⟩ := append_pairs o2 (snil _) (by simp) B3.size
    exact ⟨v1, w2, v2, w3, v3, w4, ra1, ra2, ra3, o3.mono (Nat.zero_le _), fun k hk => (World.ownsRow.lt o3 k hk).1, B3.trans b3⟩
  unfold Fresh
  go_enter Try.func25, Try.ntmps25
  go_wp2_with (go_at_call 23; refine CA.out.mono ?_)
  first | (rintro e w1 rfl hd) | (rintro e w1 ⟨rfl, hd⟩)
  obtain ⟨v1, w2, v2, w3, v3, w4, hst⟩ := STEPS w1 hd
  obtain ⟨ra1, ra2, ra3, hrest⟩ := hst.out
  have HREST := Lib.hid hrest
  clear hst hrest STEPS hd
  go_wp2_with (at_builtin; first | (refine wpList_run_append rfl rfl rfl rfl (ra1 _) ?_) | (refine wpList_run_append rfl rfl rfl rfl (ra2 _) ?_) | (refine wpList_run_append rfl rfl rfl rfl (ra3 _) ?_))
  go_ret
  exact ⟨_, rfl, HREST.out⟩

theorem refput (w : World) (v : Value) (L : List Th) (x y : Int) (h : PRow w v L) (hL : L.length ≤ 40000) :
    Calls Try.prog 25 #[v, i64 x, i64 y] w (Fresh w (putL x y L)) := by
  rcases h.cases' with ⟨rfl, rfl⟩ | ⟨g, cap, rfl, h1, h2, h3⟩
  · exact refput_nil w x y
  · obtain ⟨p, hp⟩ := PosL.exists x L
    exact refput_some w g L.length cap L x y h rfl hL _ p hp rfl
end Go.Proofs.Ytjdlicphmflnkaa.L5
