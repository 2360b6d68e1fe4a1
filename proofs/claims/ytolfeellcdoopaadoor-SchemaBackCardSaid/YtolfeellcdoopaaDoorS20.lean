/-
  Layer 6: from the form's reading of tables, columns and rows to the words of these proofs.
-/
import Derived.Test.YtolfeellcdoopaaDoorS1
import Derived.Test.YtolfeellcdoopaaDoorShell
import Derived.Deep.Slices
import Derived.ChangeArms
import Derived.ChangeSlices
namespace Go.Proofs.YtolfeellcdoopaaDoor.L6
open Go.ChangeShapes Go.WideShapes Go.ChangeAt Go.RowKit By Reg Go.Deep
set_option linter.unusedVariables false

theorem choose_list {α : Type} (n : Nat) (R : Nat → α → Prop) (h : ∀ i, i < n → ∃ x, R i x) : ∃ l : List α, l.length = n ∧ ∀ i x, l[i]? = some x → R i x := by
  induction n with
  | zero => exact ⟨[], rfl, fun i x hx => by simp at hx⟩
  | succ n ih =>
    obtain ⟨l, hl, hr⟩ := ih fun i hi => h i (by omega)
    obtain ⟨y, hy⟩ := h n (by omega)
    refine ⟨l ++ [y], by simp [hl], fun i x hx => ?_⟩
    rcases Nat.lt_or_ge i l.length with hi | hi
    · rw [List.getElem?_append_left hi] at hx; exact hr i x hx
    · rw [List.getElem?_append_right hi] at hx
      have : i - l.length = 0 := by
        rcases Nat.eq_zero_or_pos (i - l.length) with h | h
        · exact h
        · rw [List.getElem?_eq_none (by simp; omega)] at hx; cases hx
      rw [this] at hx
      simp at hx
      subst hx
      have : i = n := by omega
      rw [this]; exact hy

section
variable {H : Type} {enc : TypeId × Value → H} {W : World}
theorem row3_of_trod {α : Type} {en : α → Value × Value × Value} {P : α → Prop} {T S : TypeId} (hS : Tryd.prog.underlying S = some (.slice T)) (hc : Tryd.prog.cellsOf T = 3)
    (one : ∀ fuel cs x, DataW.trod enc Tryd.prog W 0 (fun _ => true) true fuel T cs = some x → cs.length = 3 → ∃ q : α, cs = [(en q).1, (en q).2.1, (en q).2.2] ∧ P q)
    {fuel : Nat} {cs : List Value} {x : DataW H × List MemPlace} (h : DataW.trod enc Tryd.prog W 0 (fun _ => true) true fuel S cs = some x) :
    ∃ v L, cs = [v] ∧ Row3 en W v L ∧ ∀ q ∈ L, P q := by
  rcases open_slice hS h with ⟨h0, _⟩ | ⟨ad, len, cp, m, k, D, Pl, hcs, hb, hl, hm, hmm, hx, each⟩
  · exact ⟨_, [], h0, ⟨none, 0, rfl, Nat.le_refl _, Nat.zero_le _, fun h => absurd h (Nat.lt_irrefl _)⟩, fun q hq => by cases hq⟩
  · have hmn : len ≤ m := by rw [hmm]; simp; exact hl
    by_cases hn0 : len = 0
    · subst hn0
      exact ⟨_, [], hcs, ⟨_, cp, rfl, Nat.zero_le _, hm, fun h => absurd h (Nat.lt_irrefl _)⟩, fun q hq => by cases hq⟩
    obtain ⟨g0, off0, spot⟩ := ad
    have hs : spot = none := by
      obtain ⟨cs, h1, h2⟩ := each 0 (by omega)
      rw [hc] at h1
      obtain ⟨_, hlen, hcell⟩ := World.cells?_some h1
      have c0 := hcell 0 (by decide)
      rw [List.getElem?_eq_getElem (by omega)] at c0
      exact World.cell?_spot (a := ⟨g0, off0, spot⟩) c0
    subst hs
    obtain ⟨l, hll, hr⟩ := choose_list (α := α) len (fun i q => P q ∧ W.cell? ⟨g0, off0 + i * 3, none⟩ = some (en q).1 ∧ W.cell? ⟨g0, off0 + i * 3 + 1, none⟩ = some (en q).2.1 ∧ W.cell? ⟨g0, off0 + i * 3 + 2, none⟩ = some (en q).2.2) fun i hi => by
      obtain ⟨cs, h1, h2⟩ := each i (by omega)
      rw [hc] at h1
      obtain ⟨_, hlen, hcell⟩ := World.cells?_some h1
      obtain ⟨q, hq, hp⟩ := one _ _ _ h2 hlen
      subst hq
      have c0 := hcell 0 (by decide)
      have c1 := hcell 1 (by decide)
      have c2 := hcell 2 (by decide)
      rw [By.add_add] at c0 c1 c2
      simp only [Addr.add_lit] at c0 c1 c2
      exact ⟨q, hp, by simpa using c0, by rw [Nat.add_assoc]; simpa using c1, by rw [Nat.add_assoc]; simpa using c2⟩
    refine ⟨_, l, hcs, ⟨_, cp, by rw [hll], by rw [hll]; exact hl, hm, fun _ => ⟨g0, off0, rfl, fun k hk => ?_⟩⟩, fun q hq => ?_⟩
    · exact (hr k l[k] (List.getElem?_eq_getElem hk)).2
    · obtain ⟨i, hi⟩ := List.getElem?_of_mem hq
      exact (hr i q hi).1

theorem cellsV3 : Tryd.prog.cellsOf 70 = 3 := by kernel_rfl
theorem cellsC3 : Tryd.prog.cellsOf 57 = 3 := by kernel_rfl
theorem cellsT3 : Tryd.prog.cellsOf 25 = 3 := by kernel_rfl
theorem structV : ∃ f0 f1 f2 : Field, Tryd.prog.underlying 70 = some (.struct #[f0, f1, f2]) ∧ f0.offset = 0 ∧ f1.offset = 1 ∧ f2.offset = 2 ∧ f0.type = 3 ∧ f1.type = 2 ∧ f2.type = 9 :=
  ⟨_, _, _, Tryd.underlying70, rfl, rfl, rfl, rfl, rfl, rfl⟩
theorem structC : ∃ f0 f1 : Field, Tryd.prog.underlying 57 = some (.struct #[f0, f1]) ∧ f0.offset = 0 ∧ f1.offset = 1 ∧ f0.type = 9 ∧ f1.type = 55 :=
  ⟨_, _, Tryd.underlying57, rfl, rfl, rfl, rfl⟩
theorem structK : ∃ f0 f1 : Field, Tryd.prog.underlying 55 = some (.struct #[f0, f1]) ∧ f0.offset = 0 ∧ f1.offset = 1 ∧ f0.type = 3 ∧ f1.type = 3 :=
  ⟨_, _, Tryd.underlying55, rfl, rfl, rfl, rfl⟩
theorem structT : ∃ f0 f1 f2 : Field, Tryd.prog.underlying 25 = some (.struct #[f0, f1, f2]) ∧ f0.offset = 0 ∧ f1.offset = 1 ∧ f2.offset = 2 ∧ f0.type = 9 ∧ f1.type = 3 ∧ f2.type = 23 :=
  ⟨_, _, _, Tryd.underlying25, rfl, rfl, rfl, rfl, rfl, rfl⟩

set_option maxRecDepth 100000 in
theorem val_of_trod (fuel : Nat) (cs : List Value) (x : DataW H × List MemPlace) (h : DataW.trod enc Tryd.prog W 0 (fun _ => true) true fuel 70 cs = some x) (hl : cs.length = 3) :
    ∃ q : ValD, cs = [(vE q).1, (vE q).2.1, (vE q).2.2] ∧ ValOk q := by
  obtain ⟨f0, f1, f2, hu, o0, o1, o2, t0, t1, t2⟩ := structV
  obtain ⟨xs, k, hk, hxy, _, hxl, hf⟩ := DataW.trod_struct hu h
  match xs, hxl, cs, hl with
  | [y0, y1, y2], _, [v0, v1, v2], _ =>
    have g0 := hf 0 f0 rfl
    have g1 := hf 1 f1 rfl
    have g2 := hf 2 f2 rfl
    rw [o0, t0] at g0
    rw [o1, t1] at g1
    rw [o2, t2] at g2
    rw [show Tryd.prog.cellsOf 3 = 1 by kernel_rfl] at g0
    rw [show Tryd.prog.cellsOf 2 = 1 by kernel_rfl] at g1
    rw [show Tryd.prog.cellsOf 9 = 1 by kernel_rfl] at g2
    simp at g0 g1 g2
    obtain ⟨n0, e0, _, w0⟩ := DataW.trod_int Tryd.underlying3 g0
    obtain ⟨n1, e1, _, w1⟩ := DataW.trod_int Tryd.underlying2 g1
    obtain ⟨s2, e2, _, w2⟩ := DataW.trod_string Tryd.underlying9 g2
    simp at e0 e1 e2
    subst e0 e1 e2
    have b0 := wf_i64 w0
    have b1 := wf_i64 w1
    exact ⟨⟨n0, n1, s2⟩, rfl, ⟨w2, b0.1, b0.2, b1.1, b1.2⟩⟩
set_option maxRecDepth 100000 in
theorem col_of_trod (fuel : Nat) (cs : List Value) (x : DataW H × List MemPlace) (h : DataW.trod enc Tryd.prog W 0 (fun _ => true) true fuel 57 cs = some x) (hl : cs.length = 3) :
    ∃ q : ColD, cs = [(cE q).1, (cE q).2.1, (cE q).2.2] ∧ ColOk q := by
  obtain ⟨f0, f1, hu, o0, o1, t0, t1⟩ := structC
  obtain ⟨xs, k, hk, hxy, _, hxl, hf⟩ := DataW.trod_struct hu h
  match xs, hxl, cs, hl with
  | [y0, y1], _, [v0, v1, v2], _ =>
    have g0 := hf 0 f0 rfl
    have g1 := hf 1 f1 rfl
    rw [o0, t0] at g0
    rw [o1, t1] at g1
    rw [show Tryd.prog.cellsOf 9 = 1 by kernel_rfl] at g0
    rw [show Tryd.prog.cellsOf 55 = 2 by kernel_rfl] at g1
    simp at g0 g1
    obtain ⟨s0, e0, _, w0⟩ := DataW.trod_string Tryd.underlying9 g0
    obtain ⟨f2, f3, hu2, o2, o3, t2, t3⟩ := structK
    obtain ⟨xs2, k2, hk2, hxy2, _, hxl2, hf2⟩ := DataW.trod_struct hu2 g1
    match xs2, hxl2 with
    | [z0, z1], _ =>
      have g2 := hf2 0 f2 rfl
      have g3 := hf2 1 f3 rfl
      rw [o2, t2] at g2
      rw [o3, t3] at g3
      rw [show Tryd.prog.cellsOf 3 = 1 by kernel_rfl] at g2 g3
      simp at g2 g3
      obtain ⟨n0, e1, _, w1⟩ := DataW.trod_int Tryd.underlying3 g2
      obtain ⟨n1, e2, _, w2⟩ := DataW.trod_int Tryd.underlying3 g3
      simp at e0 e1 e2
      subst e0 e1 e2
      have b0 := wf_i64 w1
      have b1 := wf_i64 w2
      exact ⟨⟨s0, n0, n1⟩, rfl, ⟨w0, b0.1, b0.2, b1.1, b1.2⟩⟩
theorem cols_of_trod {fuel : Nat} {cs : List Value} {x : DataW H × List MemPlace} (h : DataW.trod enc Tryd.prog W 0 (fun _ => true) true fuel 23 cs = some x) : ∃ v L, cs = [v] ∧ Cols W v L ∧ ∀ q ∈ L, ColOk q :=
  row3_of_trod Tryd.underlying23 cellsC3 col_of_trod h
theorem vals_of_trod {fuel : Nat} {cs : List Value} {x : DataW H × List MemPlace} (h : DataW.trod enc Tryd.prog W 0 (fun _ => true) true fuel 39 cs = some x) : ∃ v L, cs = [v] ∧ Vals W v L ∧ ∀ q ∈ L, ValOk q :=
  row3_of_trod Tryd.underlying39 cellsV3 val_of_trod h
set_option maxRecDepth 100000 in
theorem tab_of_trod (fuel : Nat) (cs : List Value) (x : DataW H × List MemPlace) (h : DataW.trod enc Tryd.prog W 0 (fun _ => true) true fuel 25 cs = some x) (hl : cs.length = 3) :
    ∃ q : TabD, cs = [(tE q).1, (tE q).2.1, (tE q).2.2] ∧ (TabIn W q ∧ TabOk q) := by
  obtain ⟨f0, f1, f2, hu, o0, o1, o2, t0, t1, t2⟩ := structT
  obtain ⟨xs, k, hk, hxy, _, hxl, hf⟩ := DataW.trod_struct hu h
  match xs, hxl, cs, hl with
  | [y0, y1, y2], _, [v0, v1, v2], _ =>
    have g0 := hf 0 f0 rfl
    have g1 := hf 1 f1 rfl
    have g2 := hf 2 f2 rfl
    rw [o0, t0] at g0
    rw [o1, t1] at g1
    rw [o2, t2] at g2
    rw [show Tryd.prog.cellsOf 9 = 1 by kernel_rfl] at g0
    rw [show Tryd.prog.cellsOf 3 = 1 by kernel_rfl] at g1
    rw [show Tryd.prog.cellsOf 23 = 1 by kernel_rfl] at g2
    simp at g0 g1 g2
    obtain ⟨s0, e0, _, w0⟩ := DataW.trod_string Tryd.underlying9 g0
    obtain ⟨n1, e1, _, w1⟩ := DataW.trod_int Tryd.underlying3 g1
    obtain ⟨v, L, e2, hc, hok⟩ := cols_of_trod g2
    simp at e0 e1 e2
    subst e0 e1 e2
    have b1 := wf_i64 w1
    exact ⟨⟨s0, n1, v2, L⟩, rfl, hc, ⟨w0, b1.1, b1.2, hok⟩⟩
theorem tabs_of_trod {fuel : Nat} {cs : List Value} {x : DataW H × List MemPlace} (h : DataW.trod enc Tryd.prog W 0 (fun _ => true) true fuel 22 cs = some x) : ∃ v L, cs = [v] ∧ Tabs W v L ∧ ∀ q ∈ L, TabOk q := by
  obtain ⟨v, L, e, hr, hp⟩ := row3_of_trod (en := tE) (P := fun q => TabIn W q ∧ TabOk q) Tryd.underlying22 cellsT3 tab_of_trod h
  exact ⟨v, L, e, ⟨hr, fun t ht => (hp t ht).1⟩, fun t ht => (hp t ht).2⟩
end
end Go.Proofs.YtolfeellcdoopaaDoor.L6
