/-
  Layer 7: how two spots stand; SortFunc of spots.
-/
import Derived.Test.YtjfpeklfgnajoaaGreatM4
import Derived.Test.YtjfpeklfgnajoaaGreatShelf
import Derived.StillTailTactics
namespace Go.Proofs.YtjfpeklfgnajoaaGreat.L6
open Go.ChangeShapes Go.WideShapes Go.ChangeAt Go.RowKit By Reg Val
set_option linter.unusedVariables false
set_option linter.unusedSimpArgs false

def cmpI (x y : Int) : Int := if x < y then -1 else if y < x then 1 else 0
def cmpS (a b : Spot) : Int := if cmpI a.1 b.1 = 0 then cmpI a.2 b.2 else cmpI a.1 b.1

theorem isnan7 (x : Int) (w : World) : Calls Tryz.prog 126 #[i64 x] w fun e w' => e = .returned (.bool false) ∧ w = w' := by
  go_enter Tryz.func126, Tryz.ntmps126
  go_wp2
  go_ret
  exact ⟨by simp, rfl⟩
theorem cmp_int (x y : Int) (w : World) : Calls Tryz.prog 103 #[i64 x, i64 y] w fun e w' => e = .returned (i64 (cmpI x y)) ∧ w = w' := by
  have C := fun z => isnan7 z w
  unfold cmpI
  by_cases h1 : x < y
  · rw [if_pos h1]
    go_enter Tryz.func103, Tryz.ntmps103
    go_wp2_with (go_at_call 126; refine (C _).mono ?_; rintro e w' ⟨rfl, rfl⟩)
    go_ret
    exact ⟨rfl, rfl⟩
  · rw [if_neg h1]
    by_cases h2 : y < x
    · rw [if_pos h2]
      go_enter Tryz.func103, Tryz.ntmps103
      go_wp2_with (go_at_call 126; refine (C _).mono ?_; rintro e w' ⟨rfl, rfl⟩)
      go_ret
      exact ⟨rfl, rfl⟩
    · rw [if_neg h2]
      go_enter Tryz.func103, Tryz.ntmps103
      go_wp2_with (go_at_call 126; refine (C _).mono ?_; rintro e w' ⟨rfl, rfl⟩)
      go_ret
      exact ⟨rfl, rfl⟩
theorem cmp_i64 (x y : Int) (w : World) : Calls Tryz.prog 104 #[i64 x, i64 y] w fun e w' => e = .returned (i64 (cmpI x y)) ∧ w = w' := by
  have C := fun z => isnan1 z w
  unfold cmpI
  by_cases h1 : x < y
  · rw [if_pos h1]
    go_enter Tryz.func104, Tryz.ntmps104
    go_wp2_with (go_at_call 127; refine (C _).mono ?_; rintro e w' ⟨rfl, rfl⟩)
    go_ret
    exact ⟨rfl, rfl⟩
  · rw [if_neg h1]
    by_cases h2 : y < x
    · rw [if_pos h2]
      go_enter Tryz.func104, Tryz.ntmps104
      go_wp2_with (go_at_call 127; refine (C _).mono ?_; rintro e w' ⟨rfl, rfl⟩)
      go_ret
      exact ⟨rfl, rfl⟩
    · rw [if_neg h2]
      go_enter Tryz.func104, Tryz.ntmps104
      go_wp2_with (go_at_call 127; refine (C _).mono ?_; rintro e w' ⟨rfl, rfl⟩)
      go_ret
      exact ⟨rfl, rfl⟩

set_option maxRecDepth 100000 in
theorem or2 (g : Nat) (a b : Int) (w : World) (h0 : w.cell? ⟨g, 0, none⟩ = some (i64 a)) (h1 : w.cell? ⟨g, 1, none⟩ = some (i64 b)) :
    Calls Tryz.prog 102 #[.slice (some ⟨g, 0, none⟩) 2 2] w fun e w' => e = .returned (i64 (if a = 0 then b else a)) ∧ w = w' := by
  by_cases ha : a = 0
  · subst ha
    rw [if_pos rfl]
    by_cases hb : b = 0
    · subst hb
      go_enter Tryz.func102, Tryz.ntmps102
      go_wp2
      refine wp_loop_rounds 3 ?_
      rw [rounds_succ]; go_wp2
      rw [rounds_succ]; go_wp2
      rw [rounds_succ]; go_wp2
      go_ret
      exact ⟨rfl, rfl⟩
    · have hne : (b != 0) = true := by simp [hb]
      have hne2 : (b == 0) = false := beq_eq_false_iff_ne.2 hb
      go_enter Tryz.func102, Tryz.ntmps102
      go_wp2
      refine wp_loop_rounds 3 ?_
      rw [rounds_succ]; go_wp2
      rw [rounds_succ]; go_wp2
      go_ret
      exact ⟨rfl, rfl⟩
  · rw [if_neg ha]
    have hne : (a != 0) = true := by simp [ha]
    have hne2 : (a == 0) = false := beq_eq_false_iff_ne.2 ha
    go_enter Tryz.func102, Tryz.ntmps102
    go_wp2
    refine wp_loop_rounds 3 ?_
    rw [rounds_succ]; go_wp2
    go_ret
    exact ⟨rfl, rfl⟩

open Go.Sort in
set_option maxRecDepth 100000 in
set_option maxHeartbeats 1000000 in
theorem each1_any (a b : Spot) (W : World) : Calls Tryz.prog 101 #[spV a, spV b] W fun e w' => e = .returned (i64 (cmpS a b)) ∧ ∃ q os, w' = grow (W.drewN q) os := by
  obtain ⟨a1, a2⟩ := a
  obtain ⟨b1, b2⟩ := b
  obtain ⟨W1, hW1⟩ : ∃ W1, W1 = (W.alloc (.cells #[i64 a1, i64 a2] 111)).alloc (.cells #[i64 b1, i64 b2] 111) := ⟨_, rfl⟩
  have hs1 : (W.alloc (.cells #[i64 a1, i64 a2] 111)).heap.size = W.heap.size + 1 := by simp
  have ba : Blk W1 W.heap.size 111 [i64 a1, i64 a2] := by
    rw [hW1]
    exact (Blk.new W _ [i64 a1, i64 a2]).rb ((Below.refl _ _).alloc (Nat.le_refl _) _)
  have bb : Blk W1 (W.heap.size + 1) 111 [i64 b1, i64 b2] := by
    rw [hW1, ← hs1]
    exact Blk.new _ _ [i64 b1, i64 b2]
  have x0 : W1.cell? ⟨W.heap.size, 0, none⟩ = some (i64 a1) := ba.cell 0
  have x1 : W1.cell? ⟨W.heap.size, 1, none⟩ = some (i64 a2) := ba.cell 1
  have y0 : W1.cell? ⟨W.heap.size + 1, 0, none⟩ = some (i64 b1) := bb.cell 0
  have y1 : W1.cell? ⟨W.heap.size + 1, 1, none⟩ = some (i64 b2) := bb.cell 1
  have C1 : Hid (Calls Tryz.prog 103 #[i64 a1, i64 b1] W1.drew fun e w'' => e = .returned (i64 (cmpI a1 b1)) ∧ w'' = W1.drew) := (cmp_int a1 b1 W1.drew).mono fun e w' ⟨h1, h2⟩ => ⟨h1, h2.symm⟩
  have C2 : Hid (Calls Tryz.prog 104 #[i64 a2, i64 b2] W1.drew fun e w'' => e = .returned (i64 (cmpI a2 b2)) ∧ w'' = W1.drew) := (cmp_i64 a2 b2 W1.drew).mono fun e w' ⟨h1, h2⟩ => ⟨h1, h2.symm⟩
  obtain ⟨W3, hW3⟩ : ∃ W3, W3 = (W1.alloc (.cells #[i64 (cmpI a1 b1), i64 (cmpI a2 b2)] 3)).drew := ⟨_, rfl⟩
  have b3 : Blk W3 W1.heap.size 3 [i64 (cmpI a1 b1), i64 (cmpI a2 b2)] := by rw [hW3]; exact Blk.new W1 _ [i64 (cmpI a1 b1), i64 (cmpI a2 b2)]
  have CO := Lib.hid (or2 W1.heap.size (cmpI a1 b1) (cmpI a2 b2) W3 (b3.cell 0) (b3.cell 1))
  have FIN : Hid (∃ q os, W3 = grow (W.drewN q) os) := ⟨1, _, by
    rw [hW3, hW1, alloc_eq_grow, alloc_eq_grow, alloc_eq_grow]
    show grow (grow (grow W.drew _) _) _ = _
    rw [grow_grow, grow_grow]
    rfl⟩
  have E1 := Lib.hid hW1
  have E3 := Lib.hid hW3
  have hcs : cmpS (a1, a2) (b1, b2) = if cmpI a1 b1 = 0 then cmpI a2 b2 else cmpI a1 b1 := rfl
  rw [hcs]
  clear hW1 hW3 ba bb b3 hcs
  generalize cmpI a1 b1 = r1 at *
  generalize cmpI a2 b2 = r2 at *
  generalize (if r1 = 0 then r2 else r1) = rr at *
  go_enter Tryz.func101, Tryz.ntmps101
  go_wp2_with (rw [← E1.out])
  refine wp_region_still_tail 10 (by kernel_rfl) (by kernel_rfl) ?_
  simp only [List.take_succ_cons, List.take_zero, List.drop_succ_cons, List.drop_zero]
  repeat still_step
  still_call C1.out
  repeat still_step
  still_call C2.out
  repeat still_step
  refine wpStill_nil ?_
  change wpList _ _ _ _ _ W1.drew
  go_wp2_with (first | (rw [← E3.out]; go_at_call 102; refine CO.out.mono ?_; rintro e w' ⟨rfl, rfl⟩))
  go_ret
  exact ⟨rfl, FIN.out⟩

/-! ### the order -/
open Go.Shelf Go.Lib Go.Sort
theorem cmpI_neg (x y : Int) : cmpI x y < 0 ↔ x < y := by unfold cmpI; split <;> (try split) <;> omega
theorem cmpI_zero (x y : Int) : cmpI x y = 0 ↔ x = y := by unfold cmpI; split <;> (try split) <;> omega
theorem cmpS_neg (a b : Spot) : cmpS a b < 0 ↔ (a.1 < b.1 ∨ a.1 = b.1 ∧ a.2 < b.2) := by
  unfold cmpS
  by_cases h : cmpI a.1 b.1 = 0
  · rw [if_pos h, cmpI_neg]
    have := (cmpI_zero _ _).1 h
    omega
  · rw [if_neg h, cmpI_neg]
    have : a.1 ≠ b.1 := fun e => h ((cmpI_zero _ _).2 e)
    omega
/-- ahead of -/
def ltS (a b : Spot) : Prop := a.1 < b.1 ∨ a.1 = b.1 ∧ a.2 < b.2
theorem ltOf_t (a b : Spot) : ltOf cmpS a b = true ↔ ltS a b := by
  unfold ltOf ltS
  rw [decide_eq_true_eq]
  exact cmpS_neg a b
theorem ltOf_f (a b : Spot) : ltOf cmpS a b = false ↔ ¬ ltS a b := by
  rw [← ltOf_t]; simp
theorem swoS : SWO (ltOf cmpS) where
  irrefl x := by rw [ltOf_f]; unfold ltS; omega
  trans x y z h1 h2 := by rw [ltOf_t] at *; unfold ltS at *; omega
  ntrans x y z h1 h2 := by rw [ltOf_f] at *; unfold ltS at *; omega
theorem totS (x y : Spot) (h1 : ltOf cmpS x y = false) (h2 : ltOf cmpS y x = false) : x = y := by
  rw [ltOf_f] at h1 h2
  unfold ltS at h1 h2
  exact Prod.ext (by omega) (by omega)
def sortS (l : List Spot) : List Spot := l.mergeSort fun x y => !ltOf cmpS y x
theorem sortS_perm (l : List Spot) : (sortS l).Perm l := List.mergeSort_perm _ _
theorem sortS_rise {l : List Spot} (h : l.Nodup) : (sortS l).Pairwise ltS := by
  have h1 : (sortS l).Pairwise fun a b => (!ltOf cmpS b a) = true := List.pairwise_mergeSort (le := fun x y => !ltOf cmpS y x) (fun a b c h1 h2 => by
    simp only [Bool.not_eq_true'] at *
    rw [ltOf_f] at *
    unfold ltS at *
    omega) (fun a b => by
    simp only [Bool.or_eq_true, Bool.not_eq_true']
    rw [ltOf_f, ltOf_f]
    unfold ltS
    omega) l
  have h2 : (sortS l).Nodup := (sortS_perm l).nodup_iff.2 h
  refine (List.Pairwise.and h1 h2).imp fun {a b} hab => ?_
  have h3 := hab.1
  simp only [Bool.not_eq_true'] at h3
  rw [ltOf_f] at h3
  have h4 : ¬ (a.1 = b.1 ∧ a.2 = b.2) := fun e => hab.2 (Prod.ext e.1 e.2)
  unfold ltS at *
  omega

abbrev encSp (p : Spot) : List Value := [i64 p.1, i64 p.2]
theorem isAgg_sp (w : World) : (isAgg 111).run Tryz.prog w = .ok true w := by kernel_rfl
theorem sizeOf_sp (w : World) : (Go.sizeOf 111).run Tryz.prog w = .ok 2 w := by kernel_rfl
instance : Inhabited Spot := ⟨(0, 0)⟩

open Go.Sort Go.Shelf in
/-- slices.SortFunc of spots -/
theorem sortFunc_any (blk cap : Nat) (d : List Spot) (w : World) (hH : HoldsK encSp 2 w blk 0 d.toArray) (hblk : blk < w.heap.size) (hsz : d.length ≤ 1000000) :
    Calls Tryz.prog 124 #[.slice (some ⟨blk, 0, none⟩) d.length cap, .func (.func 101) #[] #[]] w fun e w' =>
      e = .returned (.tuple #[]) ∧ ∃ n os, w' = sortWorldK encSp 2 w blk 0 n (sortS d).toArray os := by
  have eg : ∀ args w, (callFunc 101 args).run Tryz.prog w = .ok (.enter 101 args) w := enters_of Tryz.func101 (by kernel_rfl) rfl
  have hcon := Go.Proofs.AnyQ.slices_SortFunc_total Tryz.sortSp 2 isAgg_sp sizeOf_sp encSp (fun _ => rfl) (fun x v hv => by simp [encSp] at hv; rcases hv with rfl | rfl <;> rfl) cmpS swoS 101 #[] blk 0 cap d.toArray w eg
    (fun m os dk hs x y => each1_any x y _) hH hblk (by simpa using Nat.lt_of_le_of_lt hsz (by decide)) totS
  have e1 : (d.toArray.toList.mergeSort fun x y => !ltOf cmpS y x) = sortS d := rfl
  rw [e1] at hcon
  exact hcon
end Go.Proofs.YtjfpeklfgnajoaaGreat.L6
