/-
  Layer 7: slices.AppendSeq, slices.Collect over the iterator of maps.Keys.
-/
import Derived.Test.YtjfpeklfgnajoaaGreatQ15
namespace Go.Proofs.YtjfpeklfgnajoaaGreat.L6
open Go.ChangeShapes Go.WideShapes Go.ChangeAt Go.RowKit By Reg Val Go.Shelf Go.MapKept
set_option linter.unusedVariables false
set_option linter.unusedSimpArgs false
attribute [local go_sem] Oper.semAt_some

theorem grownBy_putObj_b (W : World) (l : Nat) (o : Obj) : W.grownBy (W.putObj l o) (some l) :=
  ⟨rfl, rfl, rfl, by simp, fun k _ hk => World.putObj_heap_other (fun e => hk (by rw [e]))⟩
/-- between two rounds of AppendSeq -/
def GathI (w : World) (Bs : Nat) (pre : List Spot) (W : World) : Prop :=
  (∃ v, Boxed W Bs 146 v ∧ SRow W w.heap.size v pre ∧ (v = .slice none 0 0 ↔ pre = [])) ∧ Below w.heap.size w W
theorem gathI_own (w : World) (Bs B : Nat) (hB : w.heap.size ≤ B) : OwnFrom B (GathI w Bs) := fun s X Y row hs hg hr => by
  obtain ⟨⟨v, h1, h2, h3⟩, h4⟩ := hs
  have nc : ∀ r, row = some r → ∃ o, X.heap[r]? = some o ∧ o.isCells = false := fun r e => (hr r e).2
  refine ⟨⟨v, ?_, ?_, h3⟩, ?_⟩
  · exact boxed_own Bs _ (fun _ : Unit => v) () X Y row h1 hg nc
  · refine h2.kept hg ?_
    rcases h2.2 with ⟨rfl, _⟩ | ⟨g, cap, cur, rfl, _, hgb, _⟩
    · exact .inl rfl
    · refine .inr fun e' => ?_
      obtain ⟨o, ho, hc⟩ := nc g (by simpa [Value.ownBlock] using e'.symm)
      rw [hgb] at ho; cases ho; cases hc
  · exact h4.grown hg h4.size (fun k e => Nat.le_trans hB (hr k e).1)

def GathA (tm : Array Value) (Bs : Nat) (x : Spot) (a' : Act) (W : World) : Prop := ∃ B, B ≠ Bs ∧ a' = { tmps := (tm.setIfInBounds 7 (spV x)).setIfInBounds 5 (.pointer (some ⟨B, 0, none⟩)), defers := [] } ∧ Blk W B 111 [i64 x.1, i64 x.2]
theorem gathA_own (tm : Array Value) (Bs B : Nat) (x : Spot) (a' : Act) : OwnFrom B (fun (_ : Unit) W => GathA tm Bs x a' W) :=
  own_ck fun _ W W' k h => by
    obtain ⟨b, h1, h2, h3⟩ := h
    exact ⟨b, h1, h2, h3.ck k⟩

set_option maxRecDepth 100000 in
set_option maxHeartbeats 1000000 in
theorem appendSeq_any (w : World) (Bm m : Nat) (l : List (Spot × SV)) (hm : MapAt w m l) (hbx : w.cell? ⟨Bm, 0, none⟩ = some (.map (some m))) (hl : l.length ≤ 100000) :
    Calls Tryz.prog 142 #[.slice none 0 0, .func (.func 125) #[] #[.pointer (some ⟨Bm, 0, none⟩)]] w fun e w' => ∃ v ss, e = .returned v ∧ ss.Perm (l.map (·.1)) ∧ SRow w' w.heap.size v ss ∧ (v = .slice none 0 0 ↔ ss = []) ∧ Below w.heap.size w w' := by
  have HM := Lib.hid (And.intro hm hbx)
  clear hm hbx
  refine (callsIn_wide (n := 7)).1 (callsIn_of_wp_marks Tryz.func142 rfl trivial ?_ rfl)
  simp only [Tryz.ntmps142, List.size_toArray, List.length_cons, List.length_nil, Nat.reduceAdd, Nat.reduceSub, Array.replicate_succ, Array.replicate_zero, List.push_toArray, List.append_toArray, List.nil_append, List.cons_append]
  gi_wp2
  obtain ⟨W0, hW0⟩ : ∃ W0, W0 = w.alloc (.cells #[.slice none 0 0] 146) := ⟨_, rfl⟩
  have hb0 : Below w.heap.size w W0 := by rw [hW0]; exact (Below.refl _ w).alloc (Nat.le_refl _) _
  have hx0 : Boxed W0 w.heap.size 146 (.slice none 0 0) := by rw [hW0]; exact Boxed.new _ _ _
  have hs0 : W0.heap.size = w.heap.size + 1 := by rw [hW0]; simp
  rw [← hW0]
  refine wpIn_rangeFunc_ownH (α := Spot) (encs := fun p => #[spV p]) (Kp := KeepsWalks) (S := fun xs => xs.Perm (l.map (·.1))) (Sp := fun _ => True) (N := l.length) (w0 := w) rfl (by omega) (gf := 125) rfl trivial
    (enters_of Tryz.func125 (by kernel_rfl) rfl) (keys_stops w Bm m l HM.out.1 HM.out.2) (fun h k => walksK_t h k) (fun W l o o' _ h1 _ h3 => KeepsWalks.putObj _ h1 h3) hb0 (fun _ => rfl)
    (GathI w w.heap.size) (fun _ _ _ => False) (gathI_own w _ _ (by omega)) (fun _ _ _ _ _ h _ _ => h.elim) ⟨⟨_, hx0, ⟨rfl, .inl ⟨rfl, rfl⟩⟩, by simp⟩, hb0⟩ (GathA #[.slice none 0 0, .func (.func 125) #[] #[.pointer (some ⟨Bm, 0, none⟩)], .pointer (some ⟨w.heap.size, 0, none⟩), undef, .slice none 0 0, undef, .func (.func 125) #[] #[.pointer (some ⟨Bm, 0, none⟩)], undef, undef, undef, undef, undef, undef] w.heap.size) (fun x a' => gathA_own _ _ _ x a') ?_ ?_ ?_ (fun _ _ _ _ _ _ h _ => h.elim)
  · intro lp pre x W K hI hK
    simp only [List.zip_toArray, List.foldl_toArray', List.zip_cons_cons, List.zip_nil_right, List.foldl_cons, List.foldl_nil, Array.zip_eq_zipWith, List.zipWith_toArray, List.size_toArray, List.length_cons, List.length_nil]
    have HK := Lib.hid hK
    have HI := Lib.hid hI
    clear hK hI
    gi_wp2
    have hk : Below w.heap.size w W := HI.out.2
    refine HK.out _ _ ((KeepsOthers.alloc W _).from _) (KeepsWalks.alloc W _) ?_ ⟨W.heap.size, ?_, rfl, Blk.new W _ _⟩
    · obtain ⟨⟨v, h1, h2, h3⟩, h4⟩ := HI.out
      exact ⟨⟨v, h1.alloc _, h2.alloc _, h3⟩, h4.alloc h4.size _⟩
    · obtain ⟨⟨v, h1, h2, h3⟩, h4⟩ := HI.out
      have := h1.lt
      omega
  · intro lp pre x a' W hlp hrec hI hA hlen
    obtain ⟨B, hBB, rfl, hB⟩ := hA
    obtain ⟨⟨v, h1, h2, h3⟩, h4⟩ := hI
    have c0 := hB.cell 0
    have c1 := hB.cell 1
    have k1 := h1.cell
    have f1 := h1.frozen
    simp only [List.getElem?_cons_zero, List.getElem?_cons_succ] at c0 c1
    have HX := Lib.hid (And.intro h1 (And.intro h2 (And.intro h3 h4)))
    clear h1 h2 h3 h4 hB hrec hb0 hx0
    simp only [List.setIfInBounds_toArray, List.set_cons_succ, List.set_cons_zero]
    gi_wp2_with (gi_at_builtin; refine wpListIn_append_own _ rfl _ _ 146 rfl w.heap.size 111 _ (.agg #[.int .i64 0, .int .i64 0]) 2 16 rfl rfl rfl rfl rfl rfl (by decide) _ _ _ rfl (HX.out.2.1.alloc _) ⟨W.heap.size, 0, none⟩ 1 1 [i64 x.1, i64 x.2] rfl rfl ?_ (by simp [Value.oneCell', i64]) (by unfold maxLen; omega) (by omega) (by have := HX.out.2.2.2.size; simp; omega) ?_; rotate_left; intro v' w3 hown hg3 hnil; obtain ⟨p1, p2, p3, p4, p5⟩ := Boxed.appended HX.out.1 (by decide) HX.out.2.1 HX.out.2.2.2.size (Nat.le_refl _) hown hg3; obtain ⟨g', cap', rfl⟩ := ownsRow_succ hown; have q1 := p1.cell; have q2 := p1.frozen; have HP := Lib.hid (And.intro p2 (And.intro p3 (And.intro p4 p5))); change (W.alloc (.cells #[i64 x.1, i64 x.2] 111)).grownBy w3 v.ownBlock at hg3; have HG := Lib.hid hg3; clear p1 p2 p3 p4 p5 hown hg3 hnil)
    · have hrow := HX.out.2.1
      have hgr := HG.out
      refine ⟨HP.out.2.2.1.from _, ?_, ⟨⟨_, HP.out.1, ?_, by simp⟩, ?_⟩⟩
      · refine ((KeepsWalks.alloc W _).trans (KeepsWalks.of_grownBy hgr fun j o ej hj => ?_)).trans (KeepsWalks.setCell _ _ _)
        rcases (hrow.alloc (.cells #[i64 x.1, i64 x.2] 111)).2 with ⟨rfl, _⟩ | ⟨g, cap, cur, rfl, _, hgb, _⟩
        · simp [Value.ownBlock] at ej
        · obtain rfl : g = j := by simpa [Value.ownBlock] using ej
          rw [hgb] at hj; cases hj; rfl
      · have := HP.out.2.1
        unfold SRow
        rw [flatS_append, List.length_append]
        exact this
      · exact HX.out.2.2.2.trans HP.out.2.2.2
    · intro j u hu
      have := (Blk.new W 111 [i64 x.1, i64 x.2]).cell j
      rw [Addr.add_lit, Nat.zero_add]
      exact this.trans hu
  · intro D xs W hD hS hI hK
    obtain ⟨⟨v, h1, h2, h3⟩, h4⟩ := hI
    have k1 := h1.cell
    gi_wp2
    have hb : Below W0.heap.size W (W.putObj D (.deferred none)) := belowK_b (w := W0) (Nat.le_refl _) W D _ _ hD hK rfl rfl
    refine ⟨by simp, .inl ⟨_, _, rfl, run_takeDeferred hK, ?_⟩⟩
    refine ⟨_, results_tmp rfl _ _ _, v, xs, rfl, hS, ?_, h3, ?_⟩
    · refine h2.kept (grownBy_putObj_b W D _) ?_
      rcases h2.2 with ⟨rfl, _⟩ | ⟨g, cap, cur, rfl, _, hgb, _⟩
      · exact .inl rfl
      · refine .inr fun e' => ?_
        have : g = D := by simpa [Value.ownBlock] using e'
        subst this
        rw [hK] at hgb; cases hgb
    · exact h4.grown (grownBy_putObj_b W D _) h4.size (fun k e => by cases e; omega)
end Go.Proofs.YtjfpeklfgnajoaaGreat.L6
