/-
  Layer 5: slices.Insert, Delete, Clone, and cut, of rows of any kind: the words.
-/
import Derived.Test.YtjdlicphmflnkaaT2
import Derived.Lib.SliceRun
import Derived.Lib.AppendZerosOnto
import Derived.Deep.RegionLaw
import Derived.Laws.IdiomCopy
import Derived.Lib.Overlaps
import Derived.Shelf.Spec.SlicesInsert
namespace Go.Proofs.Ytjdlicphmflnkaa.L5
open Go.ChangeShapes Go.WideShapes Go.ChangeAt Go.RowKit By Reg
set_option linter.unusedVariables false
set_option linter.unusedSimpArgs false

/-! ### blocks known whole: copy, append in place, clear -/
theorem splice_eq {α : Type} (cs : List α) (off : Nat) (vs : List α) : splice cs off vs = cs.take off ++ (vs ++ cs.drop (off + vs.length)) := rfl

theorem blk_setCells (N : Nat) (T : TypeId) : ∀ (vs : List Value) (off : Nat) (w : World) (cs : List Value), Blk w N T cs → off + vs.length ≤ cs.length → Blk (w.setCells N off vs) N T (splice cs off vs) ∧ Wrote N w (w.setCells N off vs)
  | [], off, w, cs, h, hl => ⟨by rw [splice_eq]; simpa [World.setCells] using h, ⟨rfl, rfl, rfl, rfl, fun _ _ => rfl⟩⟩
  | v :: r, off, w, cs, h, hl => by
    simp only [List.length_cons] at hl
    have h1 : Blk (w.setCell ⟨N, off, none⟩ v) N T (cs.set off v) := by
      unfold Blk at h ⊢
      have hlt : N < w.heap.size := (Array.getElem?_eq_some_iff.1 h).1
      have hv := (Array.getElem?_eq_some_iff.1 h).2
      simp only [World.setCell]
      rw [Array.getElem?_eq_getElem (by simpa using hlt), Array.getElem_modify]
      simp [hv]
    have h2 : Wrote N w (w.setCell ⟨N, off, none⟩ v) := ⟨rfl, rfl, rfl, by simp [World.setCell], fun k hk => Below.heap_setCell _ _ _ _ (by simpa using hk)⟩
    obtain ⟨a, b⟩ := blk_setCells N T r (off + 1) _ _ h1 (by rw [List.length_set]; omega)
    refine ⟨?_, h2.trans b⟩
    have e : splice (cs.set off v) (off + 1) r = splice cs off (v :: r) := by
      obtain ⟨A, c, B, rfl, rfl⟩ : ∃ A c B, cs = A ++ c :: B ∧ A.length = off := ⟨cs.take off, cs[off]'(by omega), cs.drop (off + 1), by simp, by simp; omega⟩
      rw [splice_eq, splice_eq]
      simp [List.set_append_right, List.take_append, List.drop_append]
      rw [List.take_of_length_le (by omega), List.drop_eq_nil_of_le (by omega : A.length ≤ A.length + 1 + r.length), List.drop_eq_nil_of_le (by omega : A.length ≤ A.length + (r.length + 1))]
      simp
      rw [show A.length + 1 + r.length - A.length = r.length + 1 by omega]
      rfl
    rw [← e]
    exact a

section
variable {P : Program} {w : World}
/-- copy into a block known whole -/
theorem run_copy_blk {N off : Nat} {T t e : TypeId} {cs news : List Value} (hb : Blk w N T cs) (hu : P.underlying t = some (.slice e)) (hs : (P.info? e).map (·.size) = some 1)
    (dLen dCap sLen sCap : Nat) (ad : Addr) (hn : news.length = Nat.min sLen dLen) (hsrc : ∀ j v, news[j]? = some v → w.cell? (ad.add j) = some v) (hfit : off + news.length ≤ cs.length) (h1 : ∀ v ∈ news, v.oneCell' = true) :
    ∃ w', (∀ ty, (Builtin.copy_ #[t, t] ty #[.slice (some ⟨N, off, none⟩) dLen dCap, .slice (some ad) sLen sCap]).run P w = .ok (goInt news.length) w') ∧ Blk w' N T (splice cs off news) ∧ Wrote N w w' := by
  obtain ⟨h2, h3⟩ := blk_setCells N T news off w cs hb hfit
  refine ⟨_, fun ty => run_copy_cells w t t ty e N off dLen dCap ad sLen sCap news hu hs hn hsrc (fun j hj => ?_) (fun j hj => hb.frozen _) h1, h2, h3⟩
  rw [hb.cell, List.getElem?_eq_getElem (by omega)]; rfl

/-- append in place, into a block known whole -/
theorem run_append_blk {N off n cap : Nat} {T t e : TypeId} {i : TypeInfo} {cs news : List Value} (hb : Blk w N T cs) (hu : P.underlying t = some (.slice e)) (hi : P.info? e = some i) (hs : i.size = 1)
    (ad : Addr) (m c : Nat) (hn : news.length = m) (hsrc : ∀ j v, news[j]? = some v → w.cell? (ad.add j) = some v) (hroom : n + m ≤ cap) (hfit : off + n + news.length ≤ cs.length) (h1 : ∀ v ∈ news, v.oneCell' = true) :
    ∃ w', (∀ ty, (Builtin.append_ #[t, t] ty #[.slice (some ⟨N, off, none⟩) n cap, .slice (some ad) m c]).run P w = .ok (.slice (some ⟨N, off, none⟩) (n + m) cap) w') ∧ Blk w' N T (splice cs (off + n) news) ∧ Wrote N w w' := by
  obtain ⟨h2, h3⟩ := blk_setCells N T news (off + n) w cs hb hfit
  have e1 : off + n * i.size = off + n := by rw [hs, Nat.mul_one]
  refine ⟨_, fun ty => ?_, h2, h3⟩
  rw [← e1]
  exact run_append_room_cells w t ty e i hu hi N off n cap ad m c news (by rw [hs, Nat.mul_one]; exact hn) hsrc h1 hroom (fun j hj => by rw [e1, hb.cell, List.getElem?_eq_getElem (by omega)]; rfl) (fun j hj => hb.frozen _)

theorem Wrote.below {N B : Nat} {a b c : World} (h : Below B a b) (k : Wrote N b c) (hN : B ≤ N) : Below B a c :=
  h.trans ⟨k.os, k.tape, k.output, by rw [k.size]; exact Nat.le_refl _, fun i hi => k.block i (by omega)⟩

/-- clear of a part of a block known whole -/
theorem run_clear_blk {N off n c : Nat} {T t e : TypeId} {z : Value} {cs : List Value} (hb : Blk w N T cs) (hu : P.underlying t = some (.slice e)) (hv : ∀ w, (zeroValue e).run P w = .ok z w) (hz : z.cells = #[z]) (h1 : z.oneCell' = true) (hn : 0 < n) (hfit : off + n ≤ cs.length) :
    ∃ w', (∀ ty, (Builtin.clear_ #[t] ty #[.slice (some ⟨N, off, none⟩) n c]).run P w = .ok (.tuple #[]) w') ∧ Blk w' N T (splice cs off (List.replicate n z)) ∧ Wrote N w w' := by
  obtain ⟨h2, h3⟩ := blk_setCells N T (List.replicate n z) off w cs hb (by simpa using hfit)
  exact ⟨_, fun ty => Lib.run_clear_slice w t e ty z hu hv hz h1 N off n c hn (fun j hj => by rw [hb.cell, List.getElem?_eq_getElem (by omega)]; rfl) (fun j hj => hb.frozen _), h2, h3⟩

/-- append to a row, and where the row lies then -/
theorem run_append_row {t e : TypeId} {i : TypeInfo} {z : Value} {b : Nat} (ht : P.underlying t = some (.slice e)) (hi : P.info? e = some i) (hz : i.zero = some z) (hsize : i.size = 1) (hby : i.bytes = b) (hb : b ≤ 16) (hzc : z.cells.size = 1)
    {v v2 : Value} {xs ys : List Value} (hr : Row w e v xs) (hs : Sl w v2 ys) (h1 : ∀ u ∈ ys, u.oneCell' = true) (h63 : xs.length + ys.length ≤ 100000000) :
    ∃ v' w', (∀ ty, (Builtin.append_ #[t, t] ty #[v, v2]).run P w = .ok v' w') ∧ Row w' e v' (xs ++ ys) ∧ w.grownBy w' v.ownBlock ∧ NewRow w v v' := by
  have hrow : w.ownsRow 0 e 1 v xs.length xs := hr
  obtain ⟨ao, cap, rfl, e2, e3, e4, e5⟩ := hs
  cases ao with
  | none =>
    have hc := e4 rfl
    have h0 : ys = [] := List.eq_nil_of_length_eq_zero (by omega)
    subst h0
    subst hc
    refine ⟨v, w, fun ty => run_append_owned_none (P := P) (w := w) 0 t ty e i 1 ht hi v _ xs hrow, ?_, ⟨rfl, rfl, rfl, Nat.le_refl _, fun _ _ _ => rfl⟩, fun k hk => .inl hk⟩
    rw [List.append_nil]
    exact hr
  | some ad =>
    have hm : xs.length + ys.length ≤ maxLen := by unfold maxLen; omega
    have hbt : (xs.length + ys.length) * b ≤ 140737488355328 := by
      have := Nat.mul_le_mul h63 hb
      omega
    obtain ⟨v', w', hrun, h2, h3, h4⟩ := run_append_own (P := P) w 0 t t e i z 1 b ht hi hz hsize hby hzc (by decide) v xs.length xs hrow ad ys.length cap ys (by omega) (e5 ad rfl) h1 hm hbt (Nat.zero_le _)
    have hall : ∀ ty, (Builtin.append_ #[t, t] ty #[v, .slice (some ad) ys.length cap]).run P w = .ok v' w' := fun ty => hrun
    refine ⟨v', w', hall, ?_, h3, ?_⟩
    · unfold Row
      rw [List.length_append]
      exact h2
    · rcases hrow.2 with ⟨rfl, h0⟩ | ⟨g, cp, cur, rfl, hbg, hg, hnc, hcm, hcs, htake⟩
      · have hx : xs = [] := List.eq_nil_of_length_eq_zero h0
        subst hx
        obtain ⟨u2, w2, hr2, k2, _, _⟩ := run_append_own (P := P) w w.heap.size t t e i z 1 b ht hi hz hsize hby hzc (by decide) _ _ _ (World.ownsRow_nil w _ e 1) ad ys.length cap ys (by omega) (e5 ad rfl) h1 hm hbt (Nat.le_refl _)
        have hrun' : (Builtin.append_ #[t, t] t #[.slice none 0 0, .slice (some ad) ys.length cap]).run P w = .ok v' w' := hrun
        rw [hrun'] at hr2
        cases hr2
        intro k hk
        exact .inr (k2.lt k hk).1
      · by_cases hroom : xs.length + ys.length ≤ cp
        · have hr2 := run_append_room (P := P) w t t e i ht hi g xs.length cp cur hg ad ys.length cap ys (by rw [hsize]; omega) (e5 ad rfl) h1 hroom (by rw [hsize, hcs]; omega)
          rw [hrun] at hr2
          cases hr2
          intro k hk
          exact .inl hk
        · have holds : ∀ j u, xs[j]? = some u → w.cell? ((⟨g, 0, none⟩ : Addr).add j) = some u := World.ownsRow.cells hrow (g := g) rfl
          obtain ⟨u2, w2, hr2, k2, _⟩ := run_append_arg_grows (P := P) w t t e i z 1 b ht hi hz hsize hby hzc (by decide) ⟨g, 0, none⟩ xs.length cp xs hrow.1 holds ad ys.length cap ys (by omega) (e5 ad rfl) (by omega) hm hbt
          rw [hrun] at hr2
          cases hr2
          intro k hk
          exact .inr (k2.lt k hk).1

/-- what a list operation on a row leaves: a row of the same block or a new one; all else is as it was -/
structure Re (w : World) (e : TypeId) (v : Value) (xs' : List Value) (v' : Value) (w' : World) : Prop where
  row : Row w' e v' xs'
  fr : Fr (fun k => v.ownBlock = some k) w w'
  new : NewRow w v v'

variable {ops : Array Oper} {rest : List Oper} {o : Oper} {a : Act} {Q : Exit → Act → World → Prop}
theorem wpList_run_append {s x : Operand} {t t2 : TypeId} (hg : o.guard = none) (hop : o.op = Op.call { callee := Callee.builtin Builtin.append, args := #[s, x], argTypes := #[t, t2] })
    {v1 v2 v' : Value} {w' : World} (hs : a.eval s = v1) (hx : a.eval x = v2) (hr : (Builtin.append_ #[t, t2] o.type #[v1, v2]).run P w = .ok v' w') (h : wpList P ops Q rest (a.put o.dst v') w') : wpList P ops Q (o :: rest) a w := by
  refine wpList_plain hg fun K hK' => ?_
  unfold Oper.wp
  simp [execOp, hop, resolve, invoke, builtin, hs, hx, hr, Result.andThen]
  exact hK' _ _ h
theorem wpList_run_copy {s x : Operand} {t t2 : TypeId} (hg : o.guard = none) (hop : o.op = Op.call { callee := Callee.builtin Builtin.copy, args := #[s, x], argTypes := #[t, t2] })
    {v1 v2 v' : Value} {w' : World} (hs : a.eval s = v1) (hx : a.eval x = v2) (hr : (Builtin.copy_ #[t, t2] o.type #[v1, v2]).run P w = .ok v' w') (h : wpList P ops Q rest (a.put o.dst v') w') : wpList P ops Q (o :: rest) a w := by
  refine wpList_plain hg fun K hK' => ?_
  unfold Oper.wp
  simp [execOp, hop, resolve, invoke, builtin, hs, hx, hr, Result.andThen]
  exact hK' _ _ h
theorem wpList_run_clear {s : Operand} {t : TypeId} (hg : o.guard = none) (hop : o.op = Op.call { callee := Callee.builtin Builtin.clear, args := #[s], argTypes := #[t] })
    {v1 v' : Value} {w' : World} (hs : a.eval s = v1) (hr : (Builtin.clear_ #[t] o.type #[v1]).run P w = .ok v' w') (h : wpList P ops Q rest (a.put o.dst v') w') : wpList P ops Q (o :: rest) a w := by
  refine wpList_plain hg fun K hK' => ?_
  unfold Oper.wp
  simp [execOp, hop, resolve, invoke, builtin, hs, hr, Result.andThen]
  exact hK' _ _ h
theorem step_run_append {K : Act → World → Prop} {E : Prop} {s x : Operand} {t t2 : TypeId} (hg : o.guard = none) (hop : o.op = Op.call { callee := Callee.builtin Builtin.append, args := #[s, x], argTypes := #[t, t2] })
    {v1 v2 v' : Value} {w' : World} (hs : a.eval s = v1) (hx : a.eval x = v2) (hr : (Builtin.append_ #[t, t2] o.type #[v1, v2]).run P w = .ok v' w') (h : K (a.put o.dst v') w') : if Region.wanted o (yielded ops a.tmps) = true then Oper.wp P o a w K Q else E := by
  rw [if_pos (by simp [Region.wanted, hg])]
  unfold Oper.wp
  simp [execOp, hop, resolve, invoke, builtin, hs, hx, hr, Result.andThen]
  exact h
theorem step_run_copy {K : Act → World → Prop} {E : Prop} {s x : Operand} {t t2 : TypeId} (hg : o.guard = none) (hop : o.op = Op.call { callee := Callee.builtin Builtin.copy, args := #[s, x], argTypes := #[t, t2] })
    {v1 v2 v' : Value} {w' : World} (hs : a.eval s = v1) (hx : a.eval x = v2) (hr : (Builtin.copy_ #[t, t2] o.type #[v1, v2]).run P w = .ok v' w') (h : K (a.put o.dst v') w') : if Region.wanted o (yielded ops a.tmps) = true then Oper.wp P o a w K Q else E := by
  rw [if_pos (by simp [Region.wanted, hg])]
  unfold Oper.wp
  simp [execOp, hop, resolve, invoke, builtin, hs, hx, hr, Result.andThen]
  exact h
end

end Go.Proofs.Ytjdlicphmflnkaa.L5
