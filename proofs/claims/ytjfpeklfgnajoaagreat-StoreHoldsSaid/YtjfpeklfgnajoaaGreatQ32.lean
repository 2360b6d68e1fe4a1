/-
  Layer 7: the form's reading of a law's steps.
-/
import Derived.Test.YtjfpeklfgnajoaaGreatL6b
import Derived.Test.YtjfpeklfgnajoaaGreatShell
import Derived.Deep.Slices
import Derived.ChangeArms
import Derived.ChangeSlices
namespace Go.Proofs.YtjfpeklfgnajoaaGreat.L6
open Go.ChangeShapes Go.WideShapes Go.ChangeAt Go.RowKit By Reg Go.Deep
set_option linter.unusedVariables false
set_option linter.unusedSimpArgs false

/-- a slice of things of d cells each, read -/
def RowN {α : Type} (en : α → List Value) (d : Nat) (w : World) (v : Value) (L : List α) : Prop :=
  ∃ ao cap, v = .slice ao L.length cap ∧ L.length ≤ cap ∧ cap ≤ maxLen ∧ (0 < L.length → ∃ b o, ao = some ⟨b, o, none⟩ ∧ ∀ k (hk : k < L.length) j u, (en L[k])[j]? = some u → w.cell? ⟨b, o + k * d + j, none⟩ = some u)
theorem RowN.rb {α : Type} {en : α → List Value} {d : Nat} {w w' : World} {v : Value} {L : List α} (h : RowN en d w v L) (hb : Rb w w') : RowN en d w' v L := by
  obtain ⟨ao, cap, h1, h2, h3, h4⟩ := h
  refine ⟨ao, cap, h1, h2, h3, fun h0 => ?_⟩
  obtain ⟨b, o, h5, h6⟩ := h4 h0
  refine ⟨b, o, h5, fun k hk j u hu => ?_⟩
  have c := h6 k hk j u hu
  exact (hb.cell (World.block_lt_of_cell? w _ c)).trans c
theorem RowN.at_ {α : Type} {en : α → List Value} {d : Nat} {w : World} {v : Value} {L : List α} (h : RowN en d w v L) (k : Nat) (hk : k < L.length) : ∃ b o cap, v = .slice (some ⟨b, o, none⟩) L.length cap ∧ ∀ j u, (en L[k])[j]? = some u → w.cell? ⟨b, o + k * d + j, none⟩ = some u := by
  obtain ⟨ao, cap, rfl, h1, h2, h3⟩ := h
  obtain ⟨b, o, rfl, h4⟩ := h3 (by omega)
  exact ⟨b, o, cap, rfl, h4 k hk⟩
/-- a beginning of it -/
theorem RowN.take {α : Type} {en : α → List Value} {d : Nat} {w : World} {ao : Option Addr} {n cap : Nat} {L : List α} (h : RowN en d w (.slice ao n cap) L) (m : Nat) (hm : m ≤ L.length) : RowN en d w (.slice ao m cap) (L.take m) := by
  obtain ⟨ao', cap', e, h1, h2, h3⟩ := h
  simp only [Value.slice.injEq] at e
  obtain ⟨rfl, rfl, rfl⟩ := e
  refine ⟨ao, cap, by rw [List.length_take, Nat.min_eq_left hm], by rw [List.length_take]; omega, h2, fun h0 => ?_⟩
  rw [List.length_take] at h0
  obtain ⟨b, o, e, h4⟩ := h3 (by omega)
  refine ⟨b, o, e, fun k hk j u hu => ?_⟩
  rw [List.length_take] at hk
  rw [List.getElem_take] at hu
  exact h4 k (by omega) j u hu

structure OpD where
  kind : Int
  who : Int
  t : Int
  key : Int
  col : Int
  v : ValD
  need : Value
abbrev opE (o : OpD) : List Value := [.int .u64 o.kind, .int .u64 o.who, .int .i64 o.t, .int .i64 o.key, .int .i64 o.col, .int .i64 o.v.k, .int .i64 o.v.n, .string o.v.s, o.need]
structure OpOk (o : OpD) : Prop where
  kd : 0 ≤ o.kind ∧ o.kind ≤ 18446744073709551615
  t : -9223372036854775808 ≤ o.t ∧ o.t ≤ 9223372036854775807
  key : -9223372036854775808 ≤ o.key ∧ o.key ≤ 9223372036854775807
  col : -9223372036854775808 ≤ o.col ∧ o.col ≤ 9223372036854775807
  v : ValOk o.v
  need : ∃ ao n cap, o.need = .slice ao n cap

section
variable {H : Type} {enc : TypeId × Value → H} {W : World}
theorem rowN_of_trod {α : Type} {en : α → List Value} {d : Nat} {P : α → Prop} {T S : TypeId} (hS : Tryz.prog.underlying S = some (.slice T)) (hc : Tryz.prog.cellsOf T = d) (hd : 0 < d)
    (one : ∀ fuel cs x, DataW.trod enc Tryz.prog W 0 (fun _ => true) true fuel T cs = some x → cs.length = d → ∃ q : α, cs = en q ∧ P q)
    {fuel : Nat} {cs : List Value} {x : DataW H × List MemPlace} (h : DataW.trod enc Tryz.prog W 0 (fun _ => true) true fuel S cs = some x) :
    ∃ v L, cs = [v] ∧ RowN en d W v L ∧ ∀ q ∈ L, P q := by
  rcases open_slice hS h with ⟨h0, _⟩ | ⟨ad, len, cp, m, k, D, Pl, hcs, hb, hl, hm, hmm, hx, each⟩
  · exact ⟨_, [], h0, ⟨none, 0, rfl, Nat.le_refl _, Nat.zero_le _, fun h => absurd h (Nat.lt_irrefl _)⟩, fun q hq => by cases hq⟩
  · have hmn : len ≤ m := by rw [hmm]; simp; exact hl
    by_cases hn0 : len = 0
    · subst hn0
      exact ⟨_, [], hcs, ⟨_, cp, rfl, Nat.zero_le _, hm, fun h => absurd h (Nat.lt_irrefl _)⟩, fun q hq => by cases hq⟩
    obtain ⟨g0, off0, spot⟩ := ad
    have hs : spot = none := by
      obtain ⟨cs, h1, h2⟩ := each 0 (by omega)
      rw [hc] at h1
      obtain ⟨_, hlen, hcell⟩ := World.cells?_some h1
      have c0 := hcell 0 (by omega)
      rw [List.getElem?_eq_getElem (by omega)] at c0
      simp only [Nat.zero_mul, Addr.add, if_true] at c0
      exact World.cell?_spot (a := ⟨g0, off0, spot⟩) c0
    subst hs
    obtain ⟨l, hll, hr⟩ := choose_list (α := α) len (fun i q => P q ∧ ∀ j u, (en q)[j]? = some u → W.cell? ⟨g0, off0 + i * d + j, none⟩ = some u) fun i hi => by
      obtain ⟨cs, h1, h2⟩ := each i (by omega)
      rw [hc] at h1
      obtain ⟨_, hlen, hcell⟩ := World.cells?_some h1
      obtain ⟨q, hq, hp⟩ := one _ _ _ h2 hlen
      refine ⟨q, hp, fun j u hu => ?_⟩
      rw [← hq] at hu
      have hj : j < d := by
        have := (List.getElem?_eq_some_iff.1 hu).1
        omega
      have c0 := hcell j hj
      rw [By.add_add] at c0
      simp only [Addr.add_lit] at c0
      rw [hu] at c0
      rw [Nat.add_assoc]
      exact c0
    refine ⟨_, l, hcs, ⟨_, cp, by rw [hll], by rw [hll]; exact hl, hm, fun _ => ⟨g0, off0, rfl, fun k hk => ?_⟩⟩, fun q hq => ?_⟩
    · exact (hr k l[k] (List.getElem?_eq_getElem hk)).2
    · obtain ⟨i, hi⟩ := List.getElem?_of_mem hq
      exact (hr i q hi).1

theorem cellsOp7 : Tryz.prog.cellsOf 62 = 9 := by kernel_rfl
theorem structOp7 : ∃ f0 f1 f2 f3 f4 f5 f6 : Field, Tryz.prog.underlying 62 = some (.struct #[f0, f1, f2, f3, f4, f5, f6]) ∧ f0.offset = 0 ∧ f1.offset = 1 ∧ f2.offset = 2 ∧ f3.offset = 3 ∧ f4.offset = 4 ∧ f5.offset = 5 ∧ f6.offset = 8 ∧
    f0.type = 58 ∧ f1.type = 58 ∧ f2.type = 3 ∧ f3.type = 2 ∧ f4.type = 3 ∧ f5.type = 60 ∧ f6.type = 43 :=
  ⟨_, _, _, _, _, _, _, Tryz.underlying62, rfl, rfl, rfl, rfl, rfl, rfl, rfl, rfl, rfl, rfl, rfl, rfl, rfl, rfl⟩

set_option maxRecDepth 100000 in
theorem op7_of_trod (fuel : Nat) (cs : List Value) (x : DataW H × List MemPlace) (h : DataW.trod enc Tryz.prog W 0 (fun _ => true) true fuel 62 cs = some x) (hl : cs.length = 9) :
    ∃ q : OpD, cs = opE q ∧ OpOk q := by
  obtain ⟨f0, f1, f2, f3, f4, f5, f6, hu, o0, o1, o2, o3, o4, o5, o6, t0, t1, t2, t3, t4, t5, t6⟩ := structOp7
  obtain ⟨xs, k, hk, hxy, _, hxl, hf⟩ := DataW.trod_struct hu h
  match xs, hxl, cs, hl with
  | [y0, y1, y2, y3, y4, y5, y6], _, [v0, v1, v2, v3, v4, v5, v6, v7, v8], _ =>
    have g0 := hf 0 f0 rfl
    have g1 := hf 1 f1 rfl
    have g2 := hf 2 f2 rfl
    have g3 := hf 3 f3 rfl
    have g4 := hf 4 f4 rfl
    have g5 := hf 5 f5 rfl
    have g6 := hf 6 f6 rfl
    rw [o0, t0, show Tryz.prog.cellsOf 58 = 1 by kernel_rfl] at g0
    rw [o1, t1, show Tryz.prog.cellsOf 58 = 1 by kernel_rfl] at g1
    rw [o2, t2, show Tryz.prog.cellsOf 3 = 1 by kernel_rfl] at g2
    rw [o3, t3, show Tryz.prog.cellsOf 2 = 1 by kernel_rfl] at g3
    rw [o4, t4, show Tryz.prog.cellsOf 3 = 1 by kernel_rfl] at g4
    rw [o5, t5, show Tryz.prog.cellsOf 60 = 3 by kernel_rfl] at g5
    rw [o6, t6, show Tryz.prog.cellsOf 43 = 1 by kernel_rfl] at g6
    simp at g0 g1 g2 g3 g4 g5 g6
    obtain ⟨n0, e0, _, w0⟩ := DataW.trod_int Tryz.underlying58 g0
    obtain ⟨n1, e1, _, w1⟩ := DataW.trod_int Tryz.underlying58 g1
    obtain ⟨n2, e2, _, w2⟩ := DataW.trod_int Tryz.underlying3 g2
    obtain ⟨n3, e3, _, w3⟩ := DataW.trod_int Tryz.underlying2 g3
    obtain ⟨n4, e4, _, w4⟩ := DataW.trod_int Tryz.underlying3 g4
    obtain ⟨q, e5, hq⟩ := val_of_trod _ _ _ g5 rfl
    have e6 : ∃ ao n cap, v8 = .slice ao n cap := by
      rcases open_ints Tryz.underlying43 Tryz.underlying3 (by kernel_rfl) g6 with ⟨hcs, _⟩ | ⟨ad, len, cap, zs, hcs, _⟩
      · simp at hcs; exact ⟨_, _, _, hcs⟩
      · simp at hcs; exact ⟨_, _, _, hcs⟩
    simp at e0 e1 e2 e3 e4 e5
    obtain ⟨e5, e7, e8⟩ := e5
    subst e0 e1 e2 e3 e4 e5 e7 e8
    have b0 := wf_u64 w0
    have b2 := wf_i64 w2
    have b3 := wf_i64 w3
    have b4 := wf_i64 w4
    exact ⟨⟨n0, n1, n2, n3, n4, q, v8⟩, rfl, ⟨⟨b0.1, by have := b0.2; show n0 ≤ _; omega⟩, b2, b3, b4, hq, e6⟩⟩
theorem ops7_of_trod {fuel : Nat} {cs : List Value} {x : DataW H × List MemPlace} (h : DataW.trod enc Tryz.prog W 0 (fun _ => true) true fuel 53 cs = some x) : ∃ v L, cs = [v] ∧ RowN opE 9 W v L ∧ ∀ q ∈ L, OpOk q :=
  rowN_of_trod Tryz.underlying53 cellsOp7 (by decide) op7_of_trod h
end
end Go.Proofs.YtjfpeklfgnajoaaGreat.L6
