/-
  Layer 5: from the form's reading of a slice of steps, of three numbers, to the words of these proofs.
-/
import Derived.Test.YtjdlicphmflnkaaT1
import Derived.Deep.Slices
import Derived.ChangeArms
import Derived.ChangeSlices
import Derived.WideKeyArr2
namespace Go.Proofs.Ytjdlicphmflnkaa.L5
open Go.ChangeShapes Go.WideShapes Go.ChangeAt Go.RowKit By Reg Go.Deep
set_option linter.unusedVariables false

structure OpV where
  k : Nat
  x : Int
  y : Int
abbrev opcs (q : OpV) : List Value := [.int .u64 q.k, i64 q.x, i64 q.y]
/-- a slice of steps -/
def OpsIn (w : World) (ao : Option Addr) (n : Nat) (l : List OpV) : Prop :=
  n = l.length ∧ ∀ i q, l[i]? = some q → q.k < 18446744073709551616 ∧ ∃ g off, ao = some ⟨g, off, none⟩ ∧ w.cell? ⟨g, off + i * 3, none⟩ = some (.int .u64 q.k) ∧ w.cell? ⟨g, off + i * 3 + 1, none⟩ = some (i64 q.x) ∧ w.cell? ⟨g, off + i * 3 + 2, none⟩ = some (i64 q.y)

theorem wf_u {n : Int} (h : (Lit.int .u64 n).wf = true) : 0 ≤ n ∧ n < 18446744073709551616 := by
  have e1 : IntKind.u64.min = 0 := by decide
  have e2 : IntKind.u64.max = 18446744073709551615 := by decide
  simp [Lit.wf, e1, e2] at h
  omega
theorem wf_i {n : Int} (h : (Lit.int .i64 n).wf = true) : -9223372036854775808 ≤ n ∧ n ≤ 9223372036854775807 := by
  have e1 : IntKind.i64.min = -9223372036854775808 := by decide
  simp [Lit.wf, e1] at h
  exact h

theorem cellsOp : Try.prog.cellsOf 30 = 3 := by kernel_rfl
theorem structOp : ∃ f0 f1 f2 : Field, Try.prog.underlying 30 = some (.struct #[f0, f1, f2]) ∧ f0.offset = 0 ∧ f1.offset = 1 ∧ f2.offset = 2 ∧ f0.type = 28 ∧ f1.type = 2 ∧ f2.type = 3 :=
  ⟨_, _, _, Try.underlying30, rfl, rfl, rfl, rfl, rfl, rfl⟩

theorem choose_list {α : Type} (n : Nat) (R : Nat → α → Prop) (h : ∀ i, i < n → ∃ x, R i x) : ∃ l : List α, l.length = n ∧ ∀ i x, l[i]? = some x → R i x := by
  induction n with
  | zero => exact ⟨[], rfl, fun i x hx => by simp at hx⟩
  | succ n ih =>
    obtain ⟨l, hl, hr⟩ := ih fun i hi => h i (by omega)
    obtain ⟨y, hy⟩ := h n (by omega)
    refine ⟨l ++ [y], by simp [hl], fun i x hx => ?_⟩
    rcases Nat.lt_or_ge i l.length with hi | hi
    · rw [List.getElem?_append_left hi] at hx; exact hr i x hx
    · rw [List.getElem?_append_right hi] at hx
      have : i - l.length = 0 := by
        rcases Nat.eq_zero_or_pos (i - l.length) with h | h
        · exact h
        · rw [List.getElem?_eq_none (by simp; omega)] at hx; cases hx
      rw [this] at hx
      simp at hx
      subst hx
      have : i = n := by omega
      rw [this]; exact hy

section
variable {H : Type} {enc : TypeId × Value → H} {W : World}
set_option maxRecDepth 100000 in
theorem op_of_trod {fuel : Nat} {cs : List Value} {x : DataW H × List MemPlace} (h : DataW.trod enc Try.prog W 0 (fun _ => true) true fuel 30 cs = some x) (hl : cs.length = 3) :
    ∃ q : OpV, cs = opcs q ∧ q.k < 18446744073709551616 := by
  obtain ⟨f0, f1, f2, hu, o0, o1, o2, t0, t1, t2⟩ := structOp
  obtain ⟨xs, k, hk, hxy, _, hxl, hf⟩ := DataW.trod_struct hu h
  match xs, hxl, cs, hl with
  | [y0, y1, y2], _, [v0, v1, v2], _ =>
    have g0 := hf 0 f0 rfl
    have g1 := hf 1 f1 rfl
    have g2 := hf 2 f2 rfl
    rw [o0, t0] at g0
    rw [o1, t1] at g1
    rw [o2, t2] at g2
    rw [show Try.prog.cellsOf 28 = 1 by kernel_rfl] at g0
    rw [show Try.prog.cellsOf 2 = 1 by kernel_rfl] at g1
    rw [show Try.prog.cellsOf 3 = 1 by kernel_rfl] at g2
    simp at g0 g1 g2
    obtain ⟨n0, e0, _, w0⟩ := DataW.trod_int Try.underlying28 g0
    obtain ⟨n1, e1, _, w1⟩ := DataW.trod_int Try.underlying2 g1
    obtain ⟨n2, e2, _, w2⟩ := DataW.trod_int Try.underlying3 g2
    simp at e0 e1 e2
    subst e0 e1 e2
    have b0 := wf_u w0
    obtain ⟨m0, rfl⟩ := Int.eq_ofNat_of_zero_le b0.1
    exact ⟨⟨m0, n1, n2⟩, rfl, by show m0 < 18446744073709551616; omega⟩

set_option maxRecDepth 100000 in
theorem ops_of_trod {fuel : Nat} {ao : Option Addr} {n cap : Nat} {x : DataW H × List MemPlace} (h : DataW.trod enc Try.prog W 0 (fun _ => true) true fuel 22 [.slice ao n cap] = some x) :
    ∃ l, OpsIn W ao n l ∧ n ≤ cap ∧ n ≤ 9223372036854775807 := by
  rcases open_slice Try.underlying22 h with ⟨h0, _⟩ | ⟨ad, len, cp, m, k, D, Pl, hcs, hb, hl, hm, hmm, hx, each⟩
  · simp at h0
    obtain ⟨rfl, rfl, rfl⟩ := h0
    exact ⟨[], ⟨rfl, fun i p hp => by simp at hp⟩, Nat.le_refl _, by omega⟩
  · simp at hcs
    obtain ⟨rfl, rfl, rfl⟩ := hcs
    have hmn : n ≤ m := by rw [hmm]; simp; exact hl
    by_cases hn0 : n = 0
    · subst hn0
      exact ⟨[], ⟨rfl, fun i p hp => by simp at hp⟩, Nat.zero_le _, by omega⟩
    obtain ⟨g0, off0, spot⟩ := ad
    have hs : spot = none := by
      obtain ⟨cs, h1, h2⟩ := each 0 (by omega)
      rw [cellsOp] at h1
      obtain ⟨_, hlen, hcell⟩ := World.cells?_some h1
      have c0 := hcell 0 (by decide)
      rw [List.getElem?_eq_getElem (by omega)] at c0
      exact World.cell?_spot (a := ⟨g0, off0, spot⟩) c0
    subst hs
    obtain ⟨l, hll, hr⟩ := choose_list (α := OpV) n (fun i q => q.k < 18446744073709551616 ∧ ∃ g off, some (⟨g0, off0, none⟩ : Addr) = some ⟨g, off, none⟩ ∧ W.cell? ⟨g, off + i * 3, none⟩ = some (.int .u64 q.k) ∧ W.cell? ⟨g, off + i * 3 + 1, none⟩ = some (i64 q.x) ∧ W.cell? ⟨g, off + i * 3 + 2, none⟩ = some (i64 q.y)) fun i hi => by
      obtain ⟨cs, h1, h2⟩ := each i (by omega)
      rw [cellsOp] at h1
      obtain ⟨_, hlen, hcell⟩ := World.cells?_some h1
      obtain ⟨q, hq, hbs⟩ := op_of_trod h2 hlen
      subst hq
      have c0 := hcell 0 (by decide)
      have c1 := hcell 1 (by decide)
      have c2 := hcell 2 (by decide)
      rw [By.add_add] at c0 c1 c2
      simp only [Addr.add_lit] at c0 c1 c2
      exact ⟨q, hbs, g0, off0, rfl, by simpa using c0, by rw [Nat.add_assoc]; simpa using c1, by rw [Nat.add_assoc]; simpa using c2⟩
    exact ⟨l, ⟨hll.symm, hr⟩, hl, by unfold maxLen at hm; omega⟩

theorem mapM_ints {e : TypeId} {q : IntKind} (he : Try.prog.underlying e = some (.int q)) {m : Nat} {cs : List Value} {c : Nat} : ∀ (L : List Nat) (xs : List (DataW H × List MemPlace)),
    L.mapM (fun i => DataW.trod enc Try.prog W 0 (fun _ => true) true m e ((cs.drop (i * c)).take c)) = some xs → ∀ i ∈ L, ∃ a, (cs.drop (i * c)).take c = [.int q a] ∧ (Lit.int q a).wf = true
  | [], xs, h, i, hi => by cases hi
  | i :: L, xs, h, j, hj => by
    rw [List.mapM_cons] at h
    simp only [bind, Option.bind_eq_some_iff, pure, Option.some.injEq] at h
    obtain ⟨y, hy, ys, hys, rfl⟩ := h
    rcases List.mem_cons.1 hj with rfl | hj
    · obtain ⟨a, ea, _, wa⟩ := DataW.trod_int he hy
      exact ⟨a, ea, wa⟩
    · exact mapM_ints he L ys hys j hj

theorem arr3 : WideMaps.ArrKey Try.prog 54 2 3 := ⟨Try.underlying54, by kernel_rfl, by kernel_rfl, by kernel_rfl⟩
set_option maxRecDepth 100000 in
theorem arr3_of_trod {v : Value} {b0 : Nat} {d : DataW H} {ps : List MemPlace} (hval : Value.okWide Try.prog W .any b0 54 v) (hd : DataW.Trod enc Try.prog W 0 (fun _ => true) true 54 v d ps) :
    ∃ a b c : Int, v = .agg #[i64 a, i64 b, i64 c] ∧ (-9223372036854775808 ≤ b ∧ a ≤ 9223372036854775807 ∧ b ≤ 9223372036854775807 ∧ c ≤ 9223372036854775807) := by
  obtain ⟨xs, rfl, hn⟩ := WideMaps.okWide_arr arr3 hval
  obtain ⟨fuel, hf⟩ := hd
  cases fuel with
  | zero => simp [DataW.trod] at hf
  | succ m =>
    rw [DataW.trod_step] at hf
    unfold DataW.trodStep at hf
    simp only [arr3.hu, Value.cells] at hf
    rw [if_pos (by rw [arr3.size]; simpa using hn)] at hf
    simp only [Option.map_eq_some_iff] at hf
    obtain ⟨ys, hy, e1⟩ := hf
    have key := mapM_ints Try.underlying2 _ ys hy
    rw [arr3.one] at key
    obtain ⟨a, ha, wa⟩ := key 0 (by simp)
    obtain ⟨b, hb, wb⟩ := key 1 (by simp)
    obtain ⟨c, hc, wc⟩ := key 2 (by simp)
    obtain ⟨l⟩ := xs
    match l, hn with
    | [x0, x1, x2], _ =>
      simp at ha hb hc
      subst ha hb hc
      have := wf_i wa
      have := wf_i wb
      have := wf_i wc
      exact ⟨a, b, c, rfl, by omega, by omega, by omega, by omega⟩
end
end Go.Proofs.Ytjdlicphmflnkaa.L5
