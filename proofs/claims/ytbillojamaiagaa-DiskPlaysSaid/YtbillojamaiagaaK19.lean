/-
  Layer 3: from the form's reading of a slice of steps to the words of these proofs; the loop's round.
-/
import Derived.Test.YtbillojamaiagaaK17
import Derived.Test.YtbillojamaiagaaShell
import Derived.Deep.Slices
import Derived.ChangeArms
import Derived.ChangeSlices
namespace Go.Proofs.Ytbillojamaiagaa
open Go.ChangeShapes Go.WideShapes Go.ChangeAt Go.RowKit By Reg Go.Deep
set_option linter.unusedVariables false

theorem cellsOp : Try.prog.cellsOf 34 = 3 := by kernel_rfl
theorem structOp : ∃ f0 f1 f2 : Field, Try.prog.underlying 34 = some (.struct #[f0, f1, f2]) ∧ f0.offset = 0 ∧ f1.offset = 1 ∧ f2.offset = 2 ∧ f0.type = 31 ∧ f1.type = 3 ∧ f2.type = 32 :=
  ⟨_, _, _, Try.underlying34, rfl, rfl, rfl, rfl, rfl, rfl⟩

theorem choose_list {α : Type} (n : Nat) (R : Nat → α → Prop) (h : ∀ i, i < n → ∃ x, R i x) : ∃ l : List α, l.length = n ∧ ∀ i x, l[i]? = some x → R i x := by
  induction n with
  | zero => exact ⟨[], rfl, fun i x hx => by simp at hx⟩
  | succ n ih =>
    obtain ⟨l, hl, hr⟩ := ih fun i hi => h i (by omega)
    obtain ⟨y, hy⟩ := h n (by omega)
    refine ⟨l ++ [y], by simp [hl], fun i x hx => ?_⟩
    rcases Nat.lt_or_ge i l.length with hi | hi
    · rw [List.getElem?_append_left hi] at hx; exact hr i x hx
    · rw [List.getElem?_append_right hi] at hx
      have : i - l.length = 0 := by
        rcases Nat.eq_zero_or_pos (i - l.length) with h | h
        · exact h
        · rw [List.getElem?_eq_none (by simp; omega)] at hx; cases hx
      rw [this] at hx
      simp at hx
      subst hx
      have : i = n := by omega
      rw [this]; exact hy

section
variable {H : Type} {enc : TypeId × Value → H} {W : World}
theorem op_of_trod {fuel : Nat} {cs : List Value} {x : DataW H × List MemPlace} (h : DataW.trod enc Try.prog W 0 (fun _ => true) true fuel 34 cs = some x) (hl : cs.length = 3) :
    ∃ q : OX, cs = opcs q.1 ∧ Bs W q.1.v q.2 := by
  obtain ⟨f0, f1, f2, hu, o0, o1, o2, t0, t1, t2⟩ := structOp
  obtain ⟨xs, k, hk, hxy, _, hxl, hf⟩ := DataW.trod_struct hu h
  match xs, hxl, cs, hl with
  | [y0, y1, y2], _, [v0, v1, v2], _ =>
    have g0 := hf 0 f0 rfl
    have g1 := hf 1 f1 rfl
    have g2 := hf 2 f2 rfl
    rw [o0, t0] at g0
    rw [o1, t1] at g1
    rw [o2, t2] at g2
    rw [show Try.prog.cellsOf 31 = 1 by kernel_rfl] at g0
    rw [show Try.prog.cellsOf 3 = 1 by kernel_rfl] at g1
    rw [show Try.prog.cellsOf 32 = 1 by kernel_rfl] at g2
    simp at g0 g1 g2
    obtain ⟨n0, e0, _, w0⟩ := DataW.trod_int Try.underlying31 g0
    obtain ⟨n1, e1, _, w1⟩ := DataW.trod_int Try.underlying3 g1
    simp at e0 e1
    subst e0 e1
    have b0 := wf_u64 w0
    obtain ⟨m0, rfl⟩ := Int.eq_ofNat_of_zero_le b0.1
    rcases open_ints Try.underlying32 Try.underlying5 (by kernel_rfl) g2 with ⟨hcs, _⟩ | ⟨ad, len, cap, zs, hcs, _, hl, hm, hz, _, hcell, hw⟩
    · simp at hcs
      subst hcs
      exact ⟨(⟨m0, n1, .slice none 0 0⟩, []), rfl, Bs.nil W⟩
    · simp at hcs
      subst hcs
      exact ⟨(⟨m0, n1, .slice (some ad) len cap⟩, ofNums (zs.take len)), rfl, Bs.of_row (.inr ⟨ad, rfl, hl, hm, by simpa using hz, hcell, hw⟩)⟩

theorem ops_of_trod {fuel : Nat} {ao : Option Addr} {n cap : Nat} {x : DataW H × List MemPlace} (h : DataW.trod enc Try.prog W 0 (fun _ => true) true fuel 22 [.slice ao n cap] = some x) :
    ∃ l, OpsIn W ao n l ∧ n ≤ 9223372036854775807 := by
  rcases open_slice Try.underlying22 h with ⟨h0, _⟩ | ⟨ad, len, cp, m, k, D, Pl, hcs, hb, hl, hm, hmm, hx, each⟩
  · simp at h0
    obtain ⟨rfl, rfl, rfl⟩ := h0
    exact ⟨[], ⟨rfl, fun p hp => by simp at hp, fun i p hp => by simp at hp⟩, by omega⟩
  · simp at hcs
    obtain ⟨rfl, rfl, rfl⟩ := hcs
    have hmn : n ≤ m := by rw [hmm]; simp; exact hl
    by_cases hn0 : n = 0
    · subst hn0
      exact ⟨[], ⟨rfl, fun p hp => by simp at hp, fun i p hp => by simp at hp⟩, by omega⟩
    obtain ⟨g0, off0, spot⟩ := ad
    have hs : spot = none := by
      obtain ⟨cs, h1, h2⟩ := each 0 (by omega)
      rw [cellsOp] at h1
      obtain ⟨_, hlen, hcell⟩ := World.cells?_some h1
      have c0 := hcell 0 (by decide)
      rw [List.getElem?_eq_getElem (by omega)] at c0
      exact World.cell?_spot (a := ⟨g0, off0, spot⟩) c0
    subst hs
    obtain ⟨l, hll, hr⟩ := choose_list (α := OX) n (fun i q => Bs W q.1.v q.2 ∧ ∃ g off, some (⟨g0, off0, none⟩ : Addr) = some ⟨g, off, none⟩ ∧ Cell3 W g (off + i * 3) q.1) fun i hi => by
      obtain ⟨cs, h1, h2⟩ := each i (by omega)
      rw [cellsOp] at h1
      obtain ⟨_, hlen, hcell⟩ := World.cells?_some h1
      obtain ⟨q, hq, hbs⟩ := op_of_trod h2 hlen
      subst hq
      have c0 := hcell 0 (by decide)
      have c1 := hcell 1 (by decide)
      have c2 := hcell 2 (by decide)
      rw [By.add_add] at c0 c1 c2
      simp only [Addr.add_lit] at c0 c1 c2
      exact ⟨q, hbs, g0, off0, rfl, by simpa using c0, by rw [Nat.add_assoc]; simpa using c1, by rw [Nat.add_assoc]; simpa using c2⟩
    refine ⟨l, ⟨hll.symm, fun p hp => ?_, fun i p hp => (hr i p hp).2⟩, by unfold maxLen at hm; omega⟩
    obtain ⟨i, hi⟩ := List.getElem?_of_mem hp
    exact (hr i p hi).1
end
end Go.Proofs.Ytbillojamaiagaa
