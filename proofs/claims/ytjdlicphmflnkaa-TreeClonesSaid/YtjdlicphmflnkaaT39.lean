/-
  Layer 5: told.
-/
import Derived.Test.YtjdlicphmflnkaaT38
namespace Go.Proofs.Ytjdlicphmflnkaa.L5
open Go.ChangeShapes Go.WideShapes Go.ChangeAt Go.RowKit Go.Shelf By Reg
set_option linter.unusedVariables false
attribute [local go_sem] Oper.semAt_some

/-- the world in which the iterator's boxes are made -/
def rangeW (w : World) (p : Nat) (lo hi : Int) : World := ((w.alloc (.cells #[ptrv p] 23)).alloc (.cells #[i64 lo] 2)).alloc (.cells #[i64 hi] 2)
theorem rangeW_rb (w : World) (p : Nat) (lo hi : Int) : Rb w (rangeW w p lo hi) :=
  (((Below.refl _ w).alloc (Nat.le_refl _) _).alloc (by simp) _).alloc (by simp; omega) _
theorem rangeW_its (w : World) (p : Nat) (lo hi : Int) : Its w.heap.size p lo hi (rangeW w p lo hi) := by
  unfold rangeW
  have b1 := Boxed.new w 23 (ptrv p)
  have b2 := Boxed.new (w.alloc (.cells #[ptrv p] 23)) 2 (i64 lo)
  have b3 := Boxed.new ((w.alloc (.cells #[ptrv p] 23)).alloc (.cells #[i64 lo] 2)) 2 (i64 hi)
  refine ⟨(b1.alloc _).alloc _, ?_, ?_⟩
  · have := b2.alloc (.cells #[i64 hi] 2)
    simpa using this
  · simpa using b3
theorem rangeW_size (w : World) (p : Nat) (lo hi : Int) : (rangeW w p lo hi).heap.size = w.heap.size + 3 := by unfold rangeW; simp

theorem makes_range' (d : Nat) (p : Nat) (lo hi : Int) (w : World) :
    CallsIn Fence.wide d Try.prog 14 #[ptrv p, i64 lo, i64 hi] w fun e w' => e = .returned (.func (.func 27) #[] #[.pointer (some ⟨w.heap.size, 0, none⟩), .pointer (some ⟨w.heap.size + 1, 0, none⟩), .pointer (some ⟨w.heap.size + 2, 0, none⟩)]) ∧
      w' = rangeW w p lo hi := makes_range d p lo hi w

theorem not_nil (fn : Fn) (f c : Array Value) (W : World) : Sem.run Try.prog (binOp BinOp.eql 41 (Value.func fn f c) Value.nilFunc) W = .ok (.bool false) W := by kernel_rfl
theorem gives_range {w : World} {Bt p : Nat} {lo hi : Int} {L : List Th} {F : Nat → Prop} (hi3 : Its Bt p lo hi w) (ht : TreeAt w p L F) (hL : L.length ≤ 50000) :
    Gives Fence.wide 6 Try.prog 27 #[.pointer (some ⟨Bt, 0, none⟩), .pointer (some ⟨Bt + 1, 0, none⟩), .pointer (some ⟨Bt + 2, 0, none⟩)] encT KeepT (fun pre x => ∃ r, filt lo hi L = pre ++ x :: r) (fun xs => xs = filt lo hi L) 50000 w :=
  fun l J W hW hJ hY h0 => walks_range Bt l p lo hi L F hL J W hJ (hi3.rb hW) (ht.rb hW) h0 hY

/-- a store into a box, in a round -/
theorem box_round {W : World} {Bn n B : Nat} {t : TypeId} {v : Value} (hb : Boxed W Bn t v) (ht : t ≠ 66) (hn : n ≤ Bn) (v' : Value) :
    KeepsFrom B W (W.setCell ⟨Bn, 0, none⟩ v') ∧ KeepT W (W.setCell ⟨Bn, 0, none⟩ v') ∧ Boxed (W.setCell ⟨Bn, 0, none⟩ v') Bn t v' ∧ Below n W (W.setCell ⟨Bn, 0, none⟩ v') := by
  have hg := grownBy_setCell' W Bn v'
  have ho : ∀ k, k ≠ Bn → (W.setCell ⟨Bn, 0, none⟩ v').heap[k]? = W.heap[k]? := fun k h => Below.heap_setCell _ _ _ k h
  refine ⟨⟨hg.size, fun k o _ hk hc => ?_⟩, ⟨hg.size, fun k cs m hk => ho k fun e => ?_⟩, hb.set v', ⟨hg.os, hg.tape, hg.output, hg.size, fun k hk => ho k (by omega)⟩⟩
  · rw [ho k fun e => ?_]
    · exact hk
    · subst e
      rw [show W.heap[k]? = _ from hb] at hk
      cases hk; cases hc
  · subst e
    rw [show W.heap[k]? = _ from hb] at hk
    cases hk
    exact ht rfl

set_option maxRecDepth 100000 in
set_option maxHeartbeats 2000000 in
theorem told_any (p : Nat) (lo hi : Int) (L : List Th) (F : Nat → Prop) (w : World) (ht : TreeAt w p L F) (hL : L.length ≤ 50000) :
    Calls Try.prog 22 #[ptrv p, i64 lo, i64 hi] w fun e w' => e = .returned (i64 (filt lo hi L).length) ∧ Rb w w' := by
  refine (callsIn_wide (n := 7)).1 ?_
  refine callsIn_of_wp_marks Try.func22 rfl trivial ?_ rfl
  simp only [Try.ntmps22, List.size_toArray, List.length_cons, List.length_nil, Nat.reduceAdd, Nat.reduceSub, Array.replicate_succ, Array.replicate_zero, List.push_toArray, List.append_toArray, List.nil_append, List.cons_append]
  have NN := not_nil (.func 27) #[] #[.pointer (some ⟨w.heap.size, 0, none⟩), .pointer (some ⟨w.heap.size + 1, 0, none⟩), .pointer (some ⟨w.heap.size + 2, 0, none⟩)] (rangeW w p lo hi)
  gi_wp2_with (refine ⟨trivial, ?_⟩; gi_at_call 14; refine (makes_range' _ _ _ _ _).mono ?_; rintro e w' ⟨rfl, rfl⟩)
  obtain ⟨W0, hW0⟩ : ∃ W0, W0 = (rangeW w p lo hi).alloc (.cells #[.int .i64 0] 3) := ⟨_, rfl⟩
  have r0 : Rb w W0 := by rw [hW0]; exact (rangeW_rb w p lo hi).alloc (Nat.le_trans (Nat.le_add_right _ 3) (Nat.le_of_eq (rangeW_size w p lo hi).symm)) _
  have its : Its w.heap.size p lo hi W0 := by rw [hW0]; exact (rangeW_its w p lo hi).rb ((Below.refl _ _).alloc (Nat.le_refl _) _)
  have hbox : Boxed W0 (rangeW w p lo hi).heap.size 3 (.int .i64 0) := by rw [hW0]; exact Boxed.new _ _ _
  have hsz : W0.heap.size = (rangeW w p lo hi).heap.size + 1 := by rw [hW0]; simp
  rw [← hW0]
  have ht0 := ht.rb r0
  have hle : w.heap.size ≤ (rangeW w p lo hi).heap.size := by rw [rangeW_size]; omega
  obtain ⟨Bn, hBn⟩ : ∃ Bn, Bn = (rangeW w p lo hi).heap.size := ⟨_, rfl⟩
  rw [← hBn] at hbox hsz hle ⊢
  clear hBn hW0 NN
  refine wpIn_range_told (α := Th) (encs := encT) (Kp := KeepT) (Tl := fun pre x => ∃ r, filt lo hi L = pre ++ x :: r) (S := fun xs => xs = filt lo hi L) (N := 50000)
    rfl (by omega) (gf := 27) (lb := #[.pointer (some ⟨w.heap.size, 0, none⟩), .pointer (some ⟨w.heap.size + 1, 0, none⟩), .pointer (some ⟨w.heap.size + 2, 0, none⟩)]) rfl trivial (enters_of Try.func27 (by kernel_rfl) rfl)
    (gives_range its ht0 hL) (fun A B C h k => h.trans k) (fun W l o o' hl h1 h2 => KeepT.put W l o o' h1 h2) (fun _ => rfl)
    (fun pre W => Boxed W Bn 3 (.int .i64 (pre.length : Nat)) ∧ Below w.heap.size w W)
    ?own ?start
    (fun x => { tmps := #[ptrv p, i64 lo, i64 hi, undef, undef, undef, .int .i64 0, .func (.func 27) #[] #[.pointer (some ⟨w.heap.size, 0, none⟩), .pointer (some ⟨w.heap.size + 1, 0, none⟩), .pointer (some ⟨w.heap.size + 2, 0, none⟩)],
      .pointer (some ⟨Bn, 0, none⟩), ptrv p, i64 lo, i64 hi, .func (.func 27) #[] #[.pointer (some ⟨w.heap.size, 0, none⟩), .pointer (some ⟨w.heap.size + 1, 0, none⟩), .pointer (some ⟨w.heap.size + 2, 0, none⟩)],
      .func (.func 27) #[] #[.pointer (some ⟨w.heap.size, 0, none⟩), .pointer (some ⟨w.heap.size + 1, 0, none⟩), .pointer (some ⟨w.heap.size + 2, 0, none⟩)], .bool false,
      .func (.func 27) #[] #[.pointer (some ⟨w.heap.size, 0, none⟩), .pointer (some ⟨w.heap.size + 1, 0, none⟩), .pointer (some ⟨w.heap.size + 2, 0, none⟩)],
      i64 x.1, i64 x.2, undef, undef, undef], defers := [] }) ?assign ?body ?done
  case own =>
    exact OwnFrom.and (Own.from (boxed_own Bn 3 (fun (pre : List Th) => .int .i64 (pre.length : Nat))) _) (ownFrom_below (Nat.le_refl _) (by omega))
  case start => exact ⟨hbox, r0⟩
  case assign =>
    intro l x W K hK
    gi_wp2
    simpa [encT] using hK
  case body =>
    rintro l pre x W ⟨hb, hbl⟩ ht hN
    have hc := hb.cell
    have hf := hb.frozen
    have hlt := hb.lt
    gi_wp2
    obtain ⟨k1, k2, k3, k4⟩ := box_round (B := W0.heap.size) hb (by decide) hle (.int .i64 ((pre.length : Int) + 1))
    exact ⟨k1, k2, by rw [List.length_append]; exact k3, hbl.trans k4⟩
  case done =>
    rintro D ys W hD rfl ⟨hb, hbl⟩ hK
    have hc := hb.cell
    gi_wp2
    refine ⟨by simp, .inl ⟨_, _, rfl, run_takeDeferred hK, ?_⟩⟩
    refine ⟨_, results_tmp rfl _ _ _, rfl, ?_⟩
    exact hbl.trans (belowK_b (w := w) (Nat.le_refl _) W D _ _ (by omega) hK rfl rfl)
end Go.Proofs.Ytjdlicphmflnkaa.L5
