/-
  Layer 5: depth, edge, rising.
-/
import Derived.Test.YtjdlicphmflnkaaT18
import Derived.Test.YtjdlicphmflnkaaT21
import Derived.BigQuiet
namespace Go.Proofs.Ytjdlicphmflnkaa.L5
open Go.ChangeShapes Go.WideShapes Go.ChangeAt Go.RowKit By Reg
set_option linter.unusedVariables false

/-- nothing but draws -/
def Dn (w w' : World) : Prop := ∃ q, w' = w.drewN q
theorem Dn.refl (w : World) : Dn w w := ⟨0, rfl⟩
theorem Dn.trans {a b c : World} (h : Dn a b) (k : Dn b c) : Dn a c := by
  obtain ⟨m, rfl⟩ := h
  obtain ⟨n, rfl⟩ := k
  exact ⟨m + n, by rw [World.drewN_drewN]⟩
theorem Dn.rb {w w' : World} (h : Dn w w') : Rb w w' := by
  obtain ⟨m, rfl⟩ := h
  exact ⟨rfl, rfl, rfl, Nat.le_refl _, fun _ _ => rfl⟩

/-- a subtree with something in every node -/
theorem Held.items_ne : ∀ (d : Nat) {w : World} {s : Sub}, Held d w s → 1 ≤ s.n → items s.M ≠ []
  | 0, w, s, ⟨N, h⟩, hn => by
    rw [h.M, items_map]
    intro e
    have := congrArg List.length e
    rw [List.length_zip, h.len, List.length_nil] at this
    have := h.n
    omega
  | d + 1, w, s, ⟨N, cs, h, hc⟩, hn => by
    rw [h.M, items_weave (by rw [List.length_map]; exact h.len)]
    obtain ⟨c, cs', rfl⟩ : ∃ c cs', cs = c :: cs' := by cases cs with | nil => have := h.n; simp at this; omega | cons c cs' => exact ⟨c, cs', rfl⟩
    have := Held.items_ne d (h.held c (by simp)) (by have := hc c (by simp); omega)
    simp [this]

def edgeOf (last : Bool) (L : List Th) : Option Th := if last then L.getLast? else L.head?

set_option maxRecDepth 100000 in
theorem depth_any : ∀ (d : Nat) (w : World) (s : Sub), Held d w s → (d < 1000000) → 1 ≤ s.n → Calls Try.prog 36 #[ptrv s.b] w fun e w' => e = .returned (i64 ((d : Int) + 1)) ∧ w = w'
  | 0, w, s, ⟨N, h⟩, hd, hn => by
    have CL := leaf_any w N h.na
    have hle : isLeaf N = true := by unfold isLeaf; rw [h.ps]; rfl
    rw [hle, h.b] at CL
    have CL' := Lib.hid CL
    clear CL h
    go_enter Try.func36, Try.ntmps36
    go_wp2_with (go_at_call 34; refine CL'.out.mono ?_; rintro e w' ⟨rfl, rfl⟩)
    go_ret
    exact ⟨rfl, rfl⟩
  | d + 1, w, s, ⟨N, cs, h, hc⟩, hd, hn => by
    obtain ⟨c, cs', rfl⟩ : ∃ c cs', cs = c :: cs' := by cases cs with | nil => have := h.n; simp at this; omega | cons c cs' => exact ⟨c, cs', rfl⟩
    have CL := leaf_any w N h.na
    have hlen : N.ps.length = N.ks.length + 1 := by rw [h.ps, List.length_map]; exact h.len
    have hle : isLeaf N = false := by unfold isLeaf; rw [decide_eq_false_iff_not]; omega
    rw [hle, h.b] at CL
    have CL' := Lib.hid CL
    have CD := Lib.hid (depth_any d w c (h.held c (by simp)) (by omega) (by have := hc c (by simp); omega))
    obtain ⟨g, cap, q1, q2, q3⟩ := part_at (l := []) h
    simp only [List.length_nil, Nat.zero_add] at q1 q2 q3
    have hm : 0 < cs'.length + 1 := by omega
    generalize cs'.length + 1 = m at q1 q2 hm
    clear CL h hc hlen hle hn
    go_enter Try.func36, Try.ntmps36
    go_wp2_with (first | (go_at_call 34; refine CL'.out.mono ?_; rintro e w' ⟨rfl, rfl⟩) | (go_at_call 36; refine CD.out.mono ?_; rintro e w' ⟨rfl, rfl⟩))
    go_ret
    refine ⟨?_, rfl⟩
    first | rfl | (congr 2; omega) | (simp; omega)

theorem edge_split {w : World} {d : Nat} {s : Sub} {N : Nd} {cs : List Sub} (o : OpenP (Held d) w s N cs) (hc : ∀ c ∈ cs, 4 ≤ c.n ∧ c.n ≤ 8) (hn : 1 ≤ s.n) (last : Bool) (t : Th) (ht : edgeOf last (items s.M) = some t) :
    ∃ l c r, cs = l ++ c :: r ∧ l.length = (if last then s.n - 1 else 0) ∧ edgeOf last (items c.M) = some t := by
  have hne : cs ≠ [] := fun e => by have := o.n; rw [e] at this; simp at this; omega
  have hi : items s.M = (cs.map (·.M)).flatMap items := by rw [o.M, items_weave (by rw [List.length_map]; exact o.len)]
  cases last with
  | true =>
    rcases List.eq_nil_or_concat cs with e | ⟨l, c, rfl⟩
    · exact absurd e hne
    · simp only [List.concat_eq_append] at *
      refine ⟨l, c, [], rfl, ?_, ?_⟩
      · have := o.n; simp at this ⊢; omega
      · have hcn := Held.items_ne d (o.held c (by simp)) (by have := hc c (by simp); omega)
        have e : items s.M = (l.map (·.M)).flatMap items ++ items c.M := by rw [hi]; simp
        rw [e] at ht
        simp only [edgeOf, if_true] at ht ⊢
        rw [List.getLast?_append] at ht
        cases hx : (items c.M).getLast? with
        | none => exact absurd (List.getLast?_eq_none_iff.1 hx) hcn
        | some u => rw [hx] at ht; simpa using ht
  | false =>
    obtain ⟨c, r, rfl⟩ : ∃ c r, cs = c :: r := by cases cs with | nil => exact absurd rfl hne | cons c r => exact ⟨c, r, rfl⟩
    refine ⟨[], c, r, rfl, rfl, ?_⟩
    have hcn := Held.items_ne d (o.held c (by simp)) (by have := hc c (by simp); omega)
    have e : items s.M = items c.M ++ (r.map (·.M)).flatMap items := by rw [hi]; simp
    rw [e] at ht
    simp only [edgeOf, Bool.false_eq_true, if_false] at ht ⊢
    rw [List.head?_append] at ht
    cases hx : (items c.M).head? with
    | none => exact absurd (List.head?_eq_none_iff.1 hx) hcn
    | some u => rw [hx] at ht; simpa using ht

set_option maxHeartbeats 2000000 in
set_option maxRecDepth 100000 in
theorem edge_leaf (last : Bool) (w : World) (s : Sub) (t : Th) (h : Held 0 w s) (hn : 1 ≤ s.n) (h8 : s.n ≤ 100) (ht : edgeOf last (items s.M) = some t) :
    Calls Try.prog 39 #[ptrv s.b, .bool last] w fun e w' => e = .returned (.tuple #[i64 t.1, i64 t.2]) ∧ Dn w w' := by
  have CS := Lib.hid (size_sub h)
  obtain ⟨N, h⟩ := h
  have CL := leaf_any w N h.na
  have hle : isLeaf N = true := by unfold isLeaf; rw [h.ps]; rfl
  rw [hle, h.b] at CL
  have CL' := Lib.hid CL
  obtain ⟨j, hj, hjn, hk, hv⟩ : ∃ j : Nat, (j : Int) = (if last then (s.n : Int) - 1 else 0) ∧ j < N.ks.length ∧ N.ks.getD j 0 = t.1 ∧ N.vs.getD j 0 = t.2 := by
    have hnn := h.n
    have hlen := h.len
    rw [h.M, items_map] at ht
    have key : ∀ j, j < N.ks.length → (N.ks.zip N.vs)[j]? = some t → N.ks.getD j 0 = t.1 ∧ N.vs.getD j 0 = t.2 := fun j hj e => by
      rw [List.getElem?_eq_getElem (by rw [List.length_zip]; omega), List.getElem_zip] at e
      have e := Option.some.inj e
      rw [List.getD_eq_getElem?_getD, List.getD_eq_getElem?_getD, List.getElem?_eq_getElem hj, List.getElem?_eq_getElem (show j < N.vs.length by omega), ← e]
      exact ⟨rfl, rfl⟩
    cases last with
    | true =>
      refine ⟨s.n - 1, by simp; omega, by omega, key _ (by omega) ?_⟩
      simp only [edgeOf, if_true] at ht
      rw [List.getLast?_eq_getElem?] at ht
      rw [← ht, List.length_zip, hlen]
      congr 1
      omega
    | false =>
      refine ⟨0, by simp, by omega, key _ (by omega) ?_⟩
      simp only [edgeOf, Bool.false_eq_true, if_false] at ht
      rw [← ht]
      exact List.head?_eq_getElem?.symm
  obtain ⟨g1, p1, f1, f2, f3, f4⟩ := h.na.rk.int_at (j := j) hjn
  obtain ⟨g2, p2, e1, e2, e3, e4⟩ := h.na.rv.int_at (j := j) (by rw [h.len]; exact hjn)
  have c0 := h.na.c0
  have c1 := h.na.c1
  rw [h.b, f1] at c0
  rw [h.b, e1] at c1
  rw [hk] at f4
  rw [hv] at e4
  have hnn := h.n
  have hlv := h.len
  rw [← hnn] at hjn c0 f2
  rw [hlv, ← hnn] at c1 e2
  clear h CL hle ht f1 e1 hk hv hnn hlv
  cases last with
  | true =>
    simp only [if_true] at hj
    have hw1 : IntKind.i64.wrap ((s.n : Int) - 1) = (j : Int) := by rw [IntKind.wrap_i64]; omega
    have hw2 : (s.n : Int) - 1 = (j : Int) := by omega
    clear hj
    go_enter Try.func39, Try.ntmps39
    go_wp2_with (first | (go_at_call 32; refine CS.out.mono ?_; rintro e w' ⟨rfl, rfl⟩) | (go_at_call 34; refine CL'.out.mono ?_; rintro e w' ⟨rfl, rfl⟩))
    go_quiet (fail)
    go_wp2
    go_ret2
    exact ⟨rfl, _, rfl⟩
  | false =>
    simp only [Bool.false_eq_true, if_false] at hj
    have hj0 : j = 0 := by omega
    subst hj0
    go_enter Try.func39, Try.ntmps39
    go_wp2_with (first | (go_at_call 32; refine CS.out.mono ?_; rintro e w' ⟨rfl, rfl⟩) | (go_at_call 34; refine CL'.out.mono ?_; rintro e w' ⟨rfl, rfl⟩))
    go_quiet (fail)
    go_wp2
    go_ret2
    exact ⟨rfl, _, rfl⟩

set_option maxHeartbeats 2000000 in
set_option maxRecDepth 100000 in
theorem edge_any (last : Bool) (t : Th) : ∀ (d : Nat) (w : World) (s : Sub), Held d w s → 1 ≤ s.n → s.n ≤ 100 → edgeOf last (items s.M) = some t →
    Calls Try.prog 39 #[ptrv s.b, .bool last] w fun e w' => e = .returned (.tuple #[i64 t.1, i64 t.2]) ∧ Dn w w'
  | 0, w, s, h, hn, h8, ht => edge_leaf last w s t h hn h8 ht
  | d + 1, w, s, h, hn, h8, ht => by
    have CS := Lib.hid (size_sub h)
    obtain ⟨N, cs, o, hc⟩ := h
    obtain ⟨l, c, r, rfl, hl, hct⟩ := edge_split o hc hn last t ht
    have CL := leaf_any w N o.na
    have hlen : N.ps.length = N.ks.length + 1 := by rw [o.ps, List.length_map]; exact o.len
    have hle : isLeaf N = false := by unfold isLeaf; rw [decide_eq_false_iff_not]; omega
    rw [hle, o.b] at CL
    have CL' := Lib.hid CL
    have CE := Lib.hid (edge_any last t d w c (o.held c (by simp)) (by have := hc c (by simp); omega) (by have := hc c (by simp); omega) hct)
    obtain ⟨g, cap, q1, q2, q3⟩ := part_at o
    have hsn : s.n = l.length + (r.length + 1) := by rw [o.n]; simp
    have hm : l.length < l.length + (r.length + 1) := by omega
    rw [← hsn] at q1 q2 hm
    clear CL o hc hlen hle ht hct
    cases last with
    | true =>
      simp only [if_true] at hl
      have hw1 : IntKind.i64.wrap ((s.n : Int) - 1) = (l.length : Int) := by rw [IntKind.wrap_i64]; omega
      have hw2 : (s.n : Int) - 1 = (l.length : Int) := by omega
      generalize l.length = j at *
      clear hsn hl
      go_enter Try.func39, Try.ntmps39
      go_wp2_with (first | (go_at_call 32; refine CS.out.mono ?_; rintro e w' ⟨rfl, rfl⟩) | (go_at_call 34; refine CL'.out.mono ?_; rintro e w' ⟨rfl, rfl⟩) | (go_at_call 39; refine CE.out.mono ?_))
      rintro e w1 ⟨rfl, hd⟩
      have HD := Lib.hid hd
      clear hd
      go_wp2
      go_ret2
      exact ⟨rfl, HD.out⟩
    | false =>
      simp only [Bool.false_eq_true, if_false] at hl
      generalize l.length = j at *
      subst hl
      clear hsn
      go_enter Try.func39, Try.ntmps39
      go_wp2_with (first | (go_at_call 32; refine CS.out.mono ?_; rintro e w' ⟨rfl, rfl⟩) | (go_at_call 34; refine CL'.out.mono ?_; rintro e w' ⟨rfl, rfl⟩) | (go_at_call 39; refine CE.out.mono ?_))
      rintro e w1 ⟨rfl, hd⟩
      have HD := Lib.hid hd
      clear hd
      go_wp2
      go_ret2
      exact ⟨rfl, HD.out⟩
end Go.Proofs.Ytjdlicphmflnkaa.L5
