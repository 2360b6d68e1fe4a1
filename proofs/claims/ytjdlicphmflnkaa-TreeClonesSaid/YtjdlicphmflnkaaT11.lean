/-
  Layer 5: join.
-/
import Derived.Test.YtjdlicphmflnkaaT10
namespace Go.Proofs.Ytjdlicphmflnkaa.L5
open Go.ChangeShapes Go.WideShapes Go.ChangeAt Go.RowKit By Reg
set_option linter.unusedVariables false

section
variable {P : Program} {w : World} {ops : Array Oper} {o : Oper} {a : Act} {Q : Exit → Act → World → Prop}
theorem step_store {K : Act → World → Prop} {E : Prop} (hg : o.guard = none) (ty : TypeId) (x y : Operand) (ho : o.op = .store ty x y) (N off : Nat) (T : TypeId) (cs vs : List Value) (v : Value) (hx : a.eval x = .pointer (some ⟨N, off, none⟩)) (hy : a.eval y = v)
    (hb : Blk w N T cs) (hv : v.cells = vs.toArray) (hs : (P.info? ty).map (·.size) = some vs.length) (hl : off + vs.length ≤ cs.length) (h1 : ∀ v ∈ vs, v.oneCell' = true)
    (hK : ∀ w', Blk w' N T (cs.take off ++ vs ++ cs.drop (off + vs.length)) → Wrote N w w' → K (a.put o.dst undef) w') : if Region.wanted o (yielded ops a.tmps) = true then Oper.wp P o a w K Q else E := by
  obtain ⟨w', hr, h2, h3⟩ := run_store_blk (P := P) (v := v) hb hv hs hl h1
  rw [if_pos (by simp [Region.wanted, hg])]
  unfold Oper.wp
  simp only [execOp, ho, hx, hy, Sem.run_bind, hr]
  exact hK w' h2 h3
end

/-- three nodes on their way: the parent, and two of its parts -/
structure Tri (w0 : World) (N0 A0 : Nd) (w : World) (N A B : Nd) : Prop where
  na : NodeAt w N
  aa : NodeAt w A
  ba : NodeAt w B
  nb : N.b = N0.b
  ab : A.b = A0.b
  nh : ∀ k, N.has k → N0.has k ∨ w0.heap.size ≤ k
  ah : ∀ k, A.has k → A0.has k ∨ w0.heap.size ≤ k
  oA : ∀ k, N.has k → ¬ A.has k
  oB : ∀ k, N.has k → ¬ B.has k
  oAB : ∀ k, A.has k → ¬ B.has k
  fr : Fr (fun k => N0.has k ∨ A0.has k) w0 w

namespace Tri
variable {w0 w w' : World} {N0 A0 N A B N' A' : Nd}
theorem start {w : World} {N A B : Nd} (hn : NodeAt w N) (ha : NodeAt w A) (hb : NodeAt w B) (oA : ∀ k, N.has k → ¬ A.has k) (oB : ∀ k, N.has k → ¬ B.has k) (oAB : ∀ k, A.has k → ¬ B.has k) : Tri w N A w N A B :=
  ⟨hn, ha, hb, rfl, rfl, fun _ h => .inl h, fun _ h => .inl h, oA, oB, oAB, Fr.refl _ _⟩
theorem stepA (h : Tri w0 N0 A0 w N A B) (x : Nx w A w' A') : Tri w0 N0 A0 w' N A' B := by
  have hs := h.fr.size
  have new : ∀ k, A'.has k → A.has k ∨ w.heap.size ≤ k := x.has
  refine ⟨h.na.fr x.fr (fun k hk hk' => h.oA k hk hk'), x.at_, h.ba.fr x.fr (fun k hk hk' => h.oAB k hk' hk), h.nb, x.b.trans h.ab, h.nh, fun k hk => ?_, fun k hk hk' => ?_, h.oB, fun k hk hk' => ?_, h.fr.trans x.fr fun k hk => ?_⟩
  · rcases new k hk with h' | h'
    · exact h.ah k h'
    · exact .inr (by omega)
  · rcases new k hk' with h' | h'
    · exact h.oA k hk h'
    · have := h.na.lt k hk; omega
  · rcases new k hk with h' | h'
    · exact h.oAB k h' hk'
    · have := h.ba.lt k hk'; omega
  · rcases h.ah k hk with h' | h'
    · exact .inl (.inr h')
    · exact .inr h'
theorem stepN (h : Tri w0 N0 A0 w N A B) (x : Nx w N w' N') : Tri w0 N0 A0 w' N' A B := by
  have hs := h.fr.size
  have new : ∀ k, N'.has k → N.has k ∨ w.heap.size ≤ k := x.has
  refine ⟨x.at_, h.aa.fr x.fr (fun k hk hk' => h.oA k hk' hk), h.ba.fr x.fr (fun k hk hk' => h.oB k hk' hk), x.b.trans h.nb, h.ab, fun k hk => ?_, h.ah, fun k hk hk' => ?_, fun k hk hk' => ?_, h.oAB, h.fr.trans x.fr fun k hk => ?_⟩
  · rcases new k hk with h' | h'
    · exact h.nh k h'
    · exact .inr (by omega)
  · rcases new k hk with h' | h'
    · exact h.oA k h' hk'
    · have := h.aa.lt k hk'; omega
  · rcases new k hk with h' | h'
    · exact h.oB k h' hk'
    · have := h.ba.lt k hk'; omega
  · rcases h.nh k hk with h' | h'
    · exact .inl (.inl h')
    · exact .inr h'
theorem rb (h : Tri w0 N0 A0 w N A B) (hr : Rb w w') : Tri w0 N0 A0 w' N A B :=
  ⟨h.na.rb hr, h.aa.rb hr, h.ba.rb hr, h.nb, h.ab, h.nh, h.ah, h.oA, h.oB, h.oAB, h.fr.then_rb hr⟩
end Tri

theorem blk_setCell {w : World} {N : Nat} {T : TypeId} {cs : List Value} (h : Blk w N T cs) {off : Nat} (hl : off < cs.length) (v : Value) : Blk (w.setCell ⟨N, off, none⟩ v) N T (splice cs off [v]) ∧ Wrote N w (w.setCell ⟨N, off, none⟩ v) :=
  blk_setCells N T [v] off w cs h hl

theorem Re.of_append {w w' : World} {e : TypeId} {v v' : Value} {xs : List Value} (h : Row w' e v' xs) (hg : w.grownBy w' v.ownBlock) (hn : NewRow w v v') : Re w e v xs v' w' :=
  ⟨h, (Fr.refl _ w).grown hg (fun k hk => .inl hk), hn⟩

theorem append_keys {w : World} {A : Nd} (h : NodeAt w A) {v2 : Value} {ys : List Int} (hs : Sl w v2 (ys.map i64)) (hb : A.ks.length + ys.length ≤ 1000) :
    ∃ v' w', (∀ ty, (Builtin.append_ #[36, 36] ty #[A.kv, v2]).run Try.prog w = .ok v' w') ∧ Re w 2 A.kv ((A.ks ++ ys).map i64) v' w' := by
  obtain ⟨i0, hi0, hz0, hzs, hzb⟩ := info_parts info_K
  obtain ⟨v', w', hra, h2, h3, h4⟩ := run_append_row (P := Try.prog) Try.underlying36 hi0 hz0 hzs hzb (by omega) rfl h.rk hs i64_one (by simp; omega)
  rw [← List.map_append] at h2
  exact ⟨v', w', hra, Re.of_append h2 h3 h4⟩
theorem append_vals {w : World} {A : Nd} (h : NodeAt w A) {v2 : Value} {ys : List Int} (hs : Sl w v2 (ys.map i64)) (hb : A.vs.length + ys.length ≤ 1000) :
    ∃ v' w', (∀ ty, (Builtin.append_ #[67, 67] ty #[A.vv, v2]).run Try.prog w = .ok v' w') ∧ Re w 3 A.vv ((A.vs ++ ys).map i64) v' w' := by
  obtain ⟨i0, hi0, hz0, hzs, hzb⟩ := info_parts info_V
  obtain ⟨v', w', hra, h2, h3, h4⟩ := run_append_row (P := Try.prog) Try.underlying67 hi0 hz0 hzs hzb (by omega) rfl h.rv hs i64_one (by simp; omega)
  rw [← List.map_append] at h2
  exact ⟨v', w', hra, Re.of_append h2 h3 h4⟩
theorem append_parts {w : World} {A : Nd} (h : NodeAt w A) {v2 : Value} {ys : List Nat} (hs : Sl w v2 (ys.map ptrv)) (hb : A.ps.length + ys.length ≤ 1000) :
    ∃ v' w', (∀ ty, (Builtin.append_ #[68, 68] ty #[A.pv, v2]).run Try.prog w = .ok v' w') ∧ Re w 24 A.pv ((A.ps ++ ys).map ptrv) v' w' := by
  obtain ⟨i0, hi0, hz0, hzs, hzb⟩ := info_parts info_Q
  obtain ⟨v', w', hra, h2, h3, h4⟩ := run_append_row (P := Try.prog) Try.underlying68 hi0 hz0 hzs hzb (by omega) rfl h.rp hs ptr_one (by simp; omega)
  rw [← List.map_append] at h2
  exact ⟨v', w', hra, Re.of_append h2 h3 h4⟩
end Go.Proofs.Ytjdlicphmflnkaa.L5
