/-
  Layer 5: rising, between.
-/
import Derived.Test.YtjdlicphmflnkaaT23
namespace Go.Proofs.Ytjdlicphmflnkaa.L5
open Go.ChangeShapes Go.WideShapes Go.ChangeAt Go.RowKit By Reg
set_option linter.unusedVariables false

set_option maxHeartbeats 2000000 in
set_option maxRecDepth 100000 in
theorem rising_any (w : World) (v : Value) (ks : List Int) (h : Row w 2 v (ks.map i64)) (hb : ks.length ≤ 1000) (hs : ks.Pairwise (· < ·)) :
    Calls Try.prog 48 #[v] w fun e w' => e = .returned (.bool true) ∧ Dn w w' := by
  obtain ⟨n, hn⟩ : ∃ n, n = ks.length := ⟨_, rfl⟩
  have cell : ∀ j, j < n → ∃ g cap, v = .slice (some ⟨g, 0, none⟩) n cap ∧ n ≤ cap ∧ w.cell? ⟨g, j, none⟩ = some (i64 (ks.getD j 0)) := fun j hj => by
    obtain ⟨g, cap, h1, h2, h3, h4⟩ := h.int_at (j := j) (by omega)
    rw [← hn] at h1 h2
    exact ⟨g, cap, h1, h2, h4⟩
  have lt : ∀ j, j + 1 < n → ks.getD j 0 < ks.getD (j + 1) 0 := fun j hj => by
    have := List.pairwise_iff_getElem.1 hs j (j + 1) (by omega) (by omega) (by omega)
    rw [List.getD_eq_getElem?_getD, List.getD_eq_getElem?_getD, List.getElem?_eq_getElem (by omega), List.getElem?_eq_getElem (by omega)]
    exact this
  obtain ⟨ao, cap, hv, _, _⟩ := h.form
  rw [List.length_map, ← hn] at hv
  have CELL := Lib.hid cell
  have LT := Lib.hid lt
  rw [← hn] at hb
  clear h hs hn cell lt
  subst hv
  go_enter Try.func48, Try.ntmps48
  go_wp2
  go_loopg [3] n (fun g s3 wr => ∃ i q : Nat, s3 = .int .i64 i ∧ 1 ≤ i ∧ (i ≤ n ∨ i = 1) ∧ n - i ≤ g ∧ wr = w.drewN q)
  case atStart => exact ⟨1, 0, rfl, by omega, .inr rfl, by omega, rfl⟩
  case round =>
    obtain ⟨i, q, rfl, h1, h2, h3, rfl⟩ := hrel
    by_cases hi : i < n
    · obtain ⟨g1, cap1, e1, e2, e3⟩ := CELL.out i hi
      obtain ⟨g2, cap2, f1, f2, f3⟩ := CELL.out (i - 1) (by omega)
      simp only [Value.slice.injEq] at e1 f1
      obtain ⟨rfl, -, rfl⟩ := e1
      simp only [Option.some.injEq, Addr.mk.injEq, and_true, true_and] at f1
      obtain ⟨rfl, rfl⟩ := f1
      have hlt := LT.out (i - 1) (by omega)
      rw [show i - 1 + 1 = i by omega] at hlt
      have hw1 : IntKind.i64.wrap ((i : Int) - 1) = ((i - 1 : Nat) : Int) := by rw [IntKind.wrap_i64]; omega
      have hw2 : (i : Int) - 1 = ((i - 1 : Nat) : Int) := by omega
      have hi1 : i - 1 < n := by omega
      have hng : ¬ ks.getD i 0 ≤ ks.getD (i - 1) 0 := by omega
      generalize ks.getD i 0 = y1 at *
      generalize ks.getD (i - 1) 0 = y0 at *
      clear hlt h2
      go_wp2
      go_quiet (fail)
      go_wp2
      go_roundg (n - (i + 1))
      case measure => omega
      case rel => exact ⟨i + 1, _, by rw [show ((i : Int) + 1) = ((i + 1 : Nat) : Int) by omega], by omega, .inl (by omega), Nat.le_refl _, rfl⟩
    · go_wp2
      go_ret
      exact ⟨rfl, _, rfl⟩
/-- a key between two parts -/
theorem OpenP.sep {H : World → Sub → Prop} {w : World} {s : Sub} {N : Nd} {cs : List Sub} (o : OpenP H w s N cs) (hs : Srt s.M) (i : Nat) (hi : i < N.ks.length) :
    ∃ l a b r, cs = l ++ a :: b :: r ∧ l.length = i ∧ (∀ t ∈ items a.M, t.1 < N.ks.getD i 0) ∧ (∀ t ∈ items b.M, N.ks.getD i 0 ≤ t.1) := by
  have hlen := o.len
  have hic : i < cs.length := by omega
  have hic2 : i + 1 < cs.length := by omega
  have hcs : cs = cs.take i ++ cs[i] :: cs[i + 1] :: cs.drop (i + 1 + 1) := by rw [← drop_cons hic2, ← drop_cons hic, List.take_append_drop]
  have hkd : N.ks.drop i = N.ks.getD i 0 :: N.ks.drop (i + 1) := by
    rw [drop_cons hi, List.getD_eq_getElem?_getD, List.getElem?_eq_getElem hi]; rfl
  have hw := weave_split (N.ks.take i) ((cs.take i).map (·.M)) (N.ks.drop i) cs[i].M (cs[i + 1].M :: (cs.drop (i + 1 + 1)).map (·.M)) (by simp; omega)
  rw [List.take_append_drop, hkd] at hw
  have e : s.M = preW (N.ks.take i) ((cs.take i).map (·.M)) ++ (cs[i].M ++ sp (N.ks.getD i 0) :: (cs[i + 1].M ++ postW (N.ks.drop (i + 1)) ((cs.drop (i + 1 + 1)).map (·.M)))) := by
    rw [o.M]
    conv => lhs; rw [hcs]
    rw [List.map_append, List.map_cons, List.map_cons, hw]
    rfl
  rw [e] at hs
  obtain ⟨h1, h2, h3⟩ := srt_append.1 (srt_append.1 hs).2.1
  refine ⟨cs.take i, cs[i], cs[i + 1], cs.drop (i + 1 + 1), hcs, by rw [List.length_take]; omega, fun t ht => ?_, fun t ht => ?_⟩
  · obtain ⟨c, hc, e⟩ := items_mem ht
    have := h3 c hc _ (List.mem_cons_self ..)
    unfold sp at this; dsimp only at this
    omega
  · obtain ⟨c, hc, e⟩ := items_mem ht
    have := (srt_cons.1 h2).1 c (by simp [hc])
    unfold sp at this; dsimp only at this
    omega

set_option maxHeartbeats 4000000 in
set_option maxRecDepth 100000 in
theorem between_any (d : Nat) (w : World) (s : Sub) (N : Nd) (cs : List Sub) (o : OpenP (Held d) w s N cs) (hc : ∀ c ∈ cs, 4 ≤ c.n ∧ c.n ≤ 8) (hs : Srt s.M) (hn : s.n ≤ 100) :
    Calls Try.prog 49 #[ptrv s.b] w fun e w' => e = .returned (.bool true) ∧ Dn w w' := by
  obtain ⟨n, hnn⟩ : ∃ n, n = N.ks.length := ⟨_, rfl⟩
  have hlen := o.len
  have hsn := o.n
  have hkb : n ≤ 100 := by omega
  have cell : ∀ j, j < n → ∃ g cap, N.kv = .slice (some ⟨g, 0, none⟩) n cap ∧ n ≤ cap ∧ w.cell? ⟨g, j, none⟩ = some (i64 (N.ks.getD j 0)) := fun j hj => by
    obtain ⟨g, cap, h1, h2, h3, h4⟩ := o.na.rk.int_at (j := j) (by omega)
    rw [← hnn] at h1 h2
    exact ⟨g, cap, h1, h2, h4⟩
  have edges : ∀ j, j < n → ∃ g cap a b ta tb, N.pv = .slice (some ⟨g, 0, none⟩) (n + 1) cap ∧ n + 1 ≤ cap ∧ w.cell? ⟨g, j, none⟩ = some (ptrv a) ∧ w.cell? ⟨g, j + 1, none⟩ = some (ptrv b) ∧
      (∀ w', Dn w w' → Calls Try.prog 39 #[ptrv a, .bool true] w' fun e w'' => e = .returned (.tuple #[i64 (Prod.fst ta), i64 (Prod.snd ta)]) ∧ Dn w' w'') ∧
      (∀ w', Dn w w' → Calls Try.prog 39 #[ptrv b, .bool false] w' fun e w'' => e = .returned (.tuple #[i64 (Prod.fst tb), i64 (Prod.snd tb)]) ∧ Dn w' w'') ∧ ta.1 < N.ks.getD j 0 ∧ N.ks.getD j 0 ≤ tb.1 := fun j hj => by
    obtain ⟨l, a, b, r, hcs, hl, h1, h2⟩ := o.sep hs j (by omega)
    subst hl
    have ha := hc a (by rw [hcs]; simp)
    have hb := hc b (by rw [hcs]; simp)
    have Ha := o.held a (by rw [hcs]; simp)
    have Hb := o.held b (by rw [hcs]; simp)
    obtain ⟨g, cap, q1, q2, q3, q4⟩ := o.na.rp.ptr_at (j := l.length) (b := a.b) (by rw [o.ps, hcs]; simp)
    obtain ⟨g', cap', p1, p2, p3, p4⟩ := o.na.rp.ptr_at (j := l.length + 1) (b := b.b) (by rw [o.ps, hcs]; simp)
    rw [q1] at p1
    simp only [Value.slice.injEq, Option.some.injEq, Addr.mk.injEq, and_true, true_and] at p1
    obtain ⟨rfl, rfl⟩ := p1
    have e : N.ps.length = n + 1 := by rw [o.ps, List.length_map]; omega
    rw [e] at q1 q2
    obtain ⟨ta, hta⟩ : ∃ ta, edgeOf true (items a.M) = some ta := by
      have := Held.items_ne d Ha (by omega)
      cases hx : (items a.M).getLast? with
      | none => exact absurd (List.getLast?_eq_none_iff.1 hx) this
      | some t => exact ⟨t, by simp [edgeOf, hx]⟩
    obtain ⟨tb, htb⟩ : ∃ tb, edgeOf false (items b.M) = some tb := by
      have := Held.items_ne d Hb (by omega)
      cases hx : (items b.M).head? with
      | none => exact absurd (List.head?_eq_none_iff.1 hx) this
      | some t => exact ⟨t, by simp [edgeOf, hx]⟩
    refine ⟨g, cap, a.b, b.b, ta, tb, q1, q2, q4, p4, fun w' hd => edge_any true ta d w' a (Ha.rb hd.rb) (by omega) (by omega) hta, fun w' hd => edge_any false tb d w' b (Hb.rb hd.rb) (by omega) (by omega) htb, ?_, ?_⟩
    · exact h1 ta (List.mem_of_getLast? (by simpa [edgeOf] using hta))
    · exact h2 tb (List.mem_of_head? (by simpa [edgeOf] using htb))
  obtain ⟨ao, cap, hk, _, _⟩ := o.na.kform
  rw [← hnn] at hk
  have c0 := o.na.c0
  have c2 := o.na.c2
  rw [o.b] at c0 c2
  rw [hk] at c0
  have HK := Lib.hid hk
  have CELL := Lib.hid cell
  have ED := Lib.hid edges
  clear o hc hs hn hnn hlen hsn cell edges hk
  go_enter Try.func49, Try.ntmps49
  go_wp2
  go_loopg [14] n (fun g s14 wr => ∃ i q : Nat, s14 = .int .i64 i ∧ i ≤ n ∧ n - i ≤ g ∧ wr = w.drewN q)
  case atStart => exact ⟨0, 0, rfl, Nat.zero_le _, by omega, rfl⟩
  case round =>
    obtain ⟨i, q, rfl, h2, h3, rfl⟩ := hrel
    by_cases hi : i < n
    · obtain ⟨g1, cap1, e1, e2, e3⟩ := CELL.out i hi
      rw [HK.out] at e1
      simp only [Value.slice.injEq] at e1
      obtain ⟨rfl, -, rfl⟩ := e1
      obtain ⟨g2, cap2, a, b, ta, tb, f1, f2, f3, f4, f5, f6, f7, f8⟩ := ED.out i hi
      rw [f1] at c2
      have F5 := Lib.hid f5
      have F6 := Lib.hid f6
      have hw1 : IntKind.i64.wrap ((i : Int) + 1) = (i : Int) + 1 := by rw [IntKind.wrap_i64]; omega
      have htn : ((i : Int) + 1).toNat = i + 1 := by omega
      have hb1 : (0 : Int) ≤ (i : Int) + 1 := by omega
      have hi1 : i + 1 < n + 1 := by omega
      have hib : i ≤ 100 := by omega
      have hi2 : i < n + 1 := by omega
      obtain ⟨ka, va⟩ := ta
      obtain ⟨kb, vb⟩ := tb
      dsimp only at f7 f8 F5 F6
      have G1 : ¬ ka ≥ N.ks.getD i 0 := by omega
      have G2 : ¬ kb < N.ks.getD i 0 := by omega
      generalize N.ks.getD i 0 = kk at *
      have HI := Lib.hid hi
      clear f1 f5 f6 f7 f8 h2
      go_wp2_with (go_at_call 39; refine (F5.out _ ⟨q, rfl⟩).mono ?_)
      first | (rintro e w1 rfl hd1) | (rintro e w1 ⟨rfl, hd1⟩)
      obtain ⟨q1, rfl⟩ := hd1
      go_wp2_with (go_at_call 39; refine (F6.out _ ⟨_, rfl⟩).mono ?_)
      first | (rintro e w2 rfl hd2) | (rintro e w2 ⟨rfl, hd2⟩)
      obtain ⟨q2, rfl⟩ := hd2
      go_wp2
      go_roundg (n - (i + 1))
      case measure => have := HI.out; omega
      case rel => exact ⟨i + 1, _, by rw [show ((i : Int) + 1) = ((i + 1 : Nat) : Int) by omega], HI.out, Nat.le_refl _, rfl⟩
    · go_wp2
      go_ret
      exact ⟨rfl, _, rfl⟩
end Go.Proofs.Ytjdlicphmflnkaa.L5
