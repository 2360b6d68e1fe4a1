/-
  Layer 5: fill.
-/
import Derived.Test.YtjdlicphmflnkaaT20
import Derived.Test.YtjdlicphmflnkaaT18
namespace Go.Proofs.Ytjdlicphmflnkaa.L5
open Go.ChangeShapes Go.WideShapes Go.ChangeAt Go.RowKit By Reg
set_option linter.unusedVariables false

theorem part_at {d : Nat} {w1 : World} {s1 : Sub} {N : Nd} {l r : List Sub} {c1 : Sub} (o1 : OpenP (Held d) w1 s1 N (l ++ c1 :: r)) : ∃ g cap, w1.cell? ⟨s1.b, 2, none⟩ = some (.slice (some ⟨g, 0, none⟩) (l.length + (r.length + 1)) cap) ∧ l.length + (r.length + 1) ≤ cap ∧ w1.cell? ⟨g, l.length, none⟩ = some (ptrv c1.b) := by
  obtain ⟨g, cap, q1, q2, q3, q4⟩ := o1.na.rp.ptr_at (j := l.length) (b := c1.b) (by rw [o1.ps]; simp)
  have e : N.ps.length = l.length + (r.length + 1) := by rw [o1.ps]; simp
  rw [e] at q1 q2
  refine ⟨g, cap, ?_, q2, q4⟩
  rw [← o1.b, ← q1]
  exact o1.na.c2
theorem size_sub {d : Nat} {w1 : World} {c1 : Sub} (hc1 : Held d w1 c1) : Calls Try.prog 32 #[ptrv c1.b] w1 fun e w' => e = .returned (i64 c1.n) ∧ w1 = w' := by
  obtain ⟨N1, a1, a2, a3, a4⟩ := hc1.node
  have := size_any w1 N1 a1
  rw [a2, a3] at this
  exact this

/-- what fill leaves -/
def FillPost (d : Nat) (w : World) (s : Sub) (e : Ending) (w' : World) : Prop :=
  (∃ v, e = .returned v) ∧ ∃ s' N' cs', OpenP (Held d) w' s' N' cs' ∧ (∀ c ∈ cs', 4 ≤ c.n ∧ c.n ≤ 8) ∧ Tn w s w' s' ∧ s'.n ≤ s.n ∧ s.n ≤ s'.n + 1 ∧ Ext s.M s'.M

set_option maxHeartbeats 2000000 in
set_option maxRecDepth 100000 in
theorem fill_pair (d : Nat) (w : World) (s : Sub) (N : Nd) (l r : List Sub) (a b : Sub) (j : Nat) (h : OpenP (Held d) w s N (l ++ a :: b :: r)) (hn : (l ++ a :: b :: r).length ≤ 8) (hj : max ((j : Int) - 1) 0 = (l.length : Int)) (hj9 : j ≤ 9)
    (ha : a.n ≤ 8) (hb : b.n ≤ 8) (h4 : 7 ≤ a.n + b.n) (h11 : a.n + b.n ≤ 11) (a1 : 1 ≤ a.n) (hr : ∀ c ∈ l ++ r, 4 ≤ c.n ∧ c.n ≤ 8) :
    Calls Try.prog 43 #[ptrv s.b, i64 j] w (FillPost d w s) := by
  have CJ := Lib.hid (join_tree d w s N l r a b h (by omega) (by omega) (by omega) a1)
  have hll : l.length ≤ 8 := by simp at hn; omega
  have HN : Hid (s.n ≤ 8 ∧ (l ++ r).length ≤ 6) := ⟨by rw [h.n]; exact hn, by simp at hn ⊢; omega⟩
  have HR := Lib.hid hr
  have HAB : Hid (7 ≤ a.n + b.n ∧ a.n + b.n ≤ 11) := ⟨h4, h11⟩
  have hw1 : IntKind.i64.wrap ((j : Int) - 1) = (j : Int) - 1 := by rw [IntKind.wrap_i64]; omega
  clear h hn ha hb h4 h11 a1 hr
  go_enter Try.func43, Try.ntmps43
  go_wp2_with (go_at_call 56; refine CJ.out.mono ?_)
  first | (rintro e w1 v rfl s1 N1 a' o1 t1 n1 x1 m1) | (rintro e w1 ⟨⟨v, rfl⟩, s1, N1, a', o1, t1, n1, x1, m1⟩)
  have hs1 : s1.b = s.b := t1.b
  obtain ⟨g, cap, q1, q2, q3⟩ := part_at o1
  rw [hs1] at q1
  have SC := Lib.hid (size_sub (o1.held a' (by simp)))
  have H1 : Hid (OpenP (Held d) w1 s1 N1 (l ++ a' :: r) ∧ Tn w s w1 s1 ∧ s1.n + 1 = s.n ∧ Ext s.M s1.M ∧ a'.n = a.n + b.n) := ⟨o1, t1, n1, x1, m1⟩
  have hlm : l.length < l.length + (r.length + 1) := by omega
  generalize l.length + (r.length + 1) = m at q1 q2 hlm
  clear o1 t1 n1 x1 m1 CJ hj hw1
  by_cases h8 : (a'.n : Int) > 8
  · have SP := Lib.hid (split_any d w1 s1 N1 l r a' H1.out.1 (by have q := HN.out; simp at q ⊢; omega) (by omega) (by have q := HAB.out; have p := H1.out.2.2.2.2; omega))
    rw [hs1] at SP
    go_wp2_with (first | (go_at_call 32; refine SC.out.mono ?_; rintro e w' ⟨rfl, rfl⟩) | (go_at_call 33; refine SP.out.mono ?_))
    first | (rintro e w3 v2 rfl s2 N2 c1 c2 o2 t2 n2 x2 n3 n4) | (rintro e w3 ⟨⟨v2, rfl⟩, s2, N2, c1, c2, o2, t2, n2, x2, n3, n4⟩)
    have H3 : Hid (OpenP (Held d) w3 s2 N2 (l ++ c1 :: c2 :: r) ∧ Tn w1 s1 w3 s2 ∧ s2.n = s1.n + 1 ∧ Ext s1.M s2.M ∧ c1.n = a'.n / 2 ∧ c2.n = a'.n - a'.n / 2) := ⟨o2, t2, n2, x2, n3, n4⟩
    clear o2 t2 n2 x2 n3 n4
    go_wp2
    go_end0
    obtain ⟨o2, t2, n2, x2, n3, n4⟩ := H3.out
    obtain ⟨o1, t1, n1, x1, m1⟩ := H1.out
    have hab := HAB.out
    refine ⟨⟨_, rfl⟩, s2, N2, _, o2, fun z hz => ?_, t1.trans t2, by omega, by omega, x1.trans x2⟩
    simp only [List.mem_append, List.mem_cons] at hz
    rcases hz with hz | rfl | rfl | hz
    · exact HR.out z (by simp [hz])
    · omega
    · omega
    · exact HR.out z (by simp [hz])
  · go_wp2_with (go_at_call 32; refine SC.out.mono ?_; rintro e w' ⟨rfl, rfl⟩)
    go_end0
    obtain ⟨o1, t1, n1, x1, m1⟩ := H1.out
    have hab := HAB.out
    refine ⟨⟨_, rfl⟩, s1, N1, _, o1, fun z hz => ?_, t1, by omega, by omega, x1⟩
    simp only [List.mem_append, List.mem_cons] at hz
    rcases hz with hz | rfl | hz
    · exact HR.out z (by simp [hz])
    · omega
    · exact HR.out z (by simp [hz])

theorem fill_any (d : Nat) (w : World) (s : Sub) (N : Nd) (l r : List Sub) (c : Sub) (h : OpenP (Held d) w s N (l ++ c :: r)) (hn : (l ++ c :: r).length ≤ 8) (h2 : 2 ≤ (l ++ c :: r).length) (hc : c.n = 3) (hr : ∀ x ∈ l ++ r, 4 ≤ x.n ∧ x.n ≤ 8) :
    Calls Try.prog 43 #[ptrv s.b, i64 l.length] w (FillPost d w s) := by
  rcases List.eq_nil_or_concat l with rfl | ⟨l', z, rfl⟩
  · obtain ⟨b, r', rfl⟩ : ∃ b r', r = b :: r' := by cases r with | nil => simp at h2 | cons b r' => exact ⟨b, r', rfl⟩
    have hb := hr b (by simp)
    exact fill_pair d w s N [] r' c b 0 h hn (by decide) (by omega) (by omega) hb.2 (by omega) (by omega) (by omega) (fun x hx => hr x (by simp at hx ⊢; exact .inr hx))
  · simp only [List.concat_eq_append] at *
    have hz := hr z (by simp)
    have e : l' ++ [z] ++ c :: r = l' ++ z :: c :: r := by simp
    rw [e] at h hn
    have hll : l'.length ≤ 8 := by simp at hn; omega
    exact fill_pair d w s N l' r z c (l' ++ [z]).length h hn (by simp only [List.length_append, List.length_singleton]; omega) (by simp; omega) hz.2 (by omega) (by omega) (by omega) (by omega) (fun x hx => hr x (by
      rcases List.mem_append.1 hx with hx | hx
      · simp [hx]
      · simp [hx]))
end Go.Proofs.Ytjdlicphmflnkaa.L5
