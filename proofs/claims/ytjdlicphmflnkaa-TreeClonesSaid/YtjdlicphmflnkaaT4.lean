/-
  Layer 5: slices.Insert, Delete, Clone, and cut, of rows of int.
-/
import Derived.Test.YtjdlicphmflnkaaT3a

namespace Go.Proofs.Ytjdlicphmflnkaa.L5
open Go.ChangeShapes Go.WideShapes Go.ChangeAt Go.RowKit By Reg
set_option linter.unusedVariables false
set_option linter.unusedSimpArgs false

theorem info_V : (Try.prog.info? 3).map (fun i => (i.zero, i.size, i.bytes)) = some (some (.int .i64 0), 1, 8) := by kernel_rfl


set_option maxHeartbeats 4000000 in
set_option maxRecDepth 100000 in
/-- slices.Insert in place -/
theorem insert_shift_V (w : World) (g i vb : Nat) (xs rest : List Value) (x : Value) (hb : Blk w g 3 (xs ++ rest)) (hv : Blk w vb 3 [x]) (hne : vb ≠ g) (hi : i < xs.length) (hr : 0 < rest.length) (hbig : xs.length + rest.length ≤ maxLen) (h1 : ∀ u ∈ xs, u.oneCell' = true) (hx : x.oneCell' = true) :
    Calls Try.prog 57 #[.slice (some ⟨g, 0, none⟩) xs.length (xs.length + rest.length), i64 i, .slice (some ⟨vb, 0, none⟩) 1 1] w fun e w' =>
      e = .returned (.slice (some ⟨g, 0, none⟩) (xs.length + 1) (xs.length + rest.length)) ∧ Blk w' g 3 (xs.take i ++ x :: xs.drop i ++ rest.drop 1) ∧ Fr (fun k => k = g) w w' := by
  have hu := Try.underlying67
  have hsz : (Try.prog.info? 3).map (·.size) = some 1 := by kernel_rfl
  have hov : ∀ lb cb, (callFunc 67 #[.slice (some ⟨vb, 0, none⟩) 1 1, .slice (some ⟨g, i + 1, none⟩) lb cb]).run Try.prog w = .ok (.value (.bool false)) w := fun lb cb => by
    rw [run_callFunc_extern Try.func67 (by kernel_rfl) (by kernel_rfl) (by kernel_rfl) (e := Extern.SlicesOverlaps.overlaps #[67, 67] #[4]) (by kernel_rfl),
      Lib.run_overlaps_apart w 67 4 3 hu 1 (fun w => by kernel_rfl) ⟨vb, 0, none⟩ ⟨g, i + 1, none⟩ 1 1 lb cb hne _ _ _ _ hv.shape hb.shape (by rw [List.length_append]; omega) (hv.frozen _) (hv.frozen _)]
    rfl
  have hd : Blk w.drew g 3 (xs ++ rest) := hb
  obtain ⟨W1, hr1, hb1, hw1⟩ := run_copy_blk (P := Try.prog) (w := w.drew) (off := i + 1) hd hu hsz (xs.length + 1 - (i + 1)) (xs.length + rest.length - (i + 1)) (xs.length + 1 - i) (xs.length + rest.length - i) ⟨g, i, none⟩ (news := xs.drop i)
    (by rw [List.length_drop]; simp only [Nat.min_def]; split <;> omega) (fun j v hj => by
      rw [Addr.add_lit, hd.cell]
      have hj' := (List.getElem?_eq_some_iff.1 hj).1
      rw [List.length_drop] at hj'
      rw [List.getElem?_append_left (by omega)]
      rwa [List.getElem?_drop] at hj) (by rw [List.length_drop, List.length_append]; omega) (fun v hv => h1 v (List.mem_of_mem_drop hv))
  have hv1 : Blk W1 vb 3 [x] := hv.same (hw1.block vb hne)
  obtain ⟨W2, hr2, hb2, hw2⟩ := run_copy_blk (P := Try.prog) (w := W1) (off := i) hb1 hu hsz (xs.length + 1 - i) (xs.length + rest.length - i) 1 1 ⟨vb, 0, none⟩ (news := [x])
    (by simp only [List.length_singleton, Nat.min_def]; split <;> omega) (fun j v hj => by
      rw [Addr.add_lit, hv1.cell, Nat.zero_add]; exact hj) (by rw [length_splice _ _ _ (by rw [List.length_drop, List.length_append]; omega), List.length_append]; simp; omega) (fun v hv => by simp at hv; subst hv; exact hx)
  have hB : Blk W2 g 3 (xs.take i ++ x :: xs.drop i ++ rest.drop 1) := by
    have e : splice (splice (xs ++ rest) (i + 1) (xs.drop i)) i [x] = xs.take i ++ x :: xs.drop i ++ rest.drop 1 := by
      obtain ⟨A, B, rfl, rfl⟩ : ∃ A B, xs = A ++ B ∧ A.length = i := ⟨xs.take i, xs.drop i, by simp, by simp; omega⟩
      obtain ⟨b, B, rfl⟩ : ∃ b B', B = b :: B' := by cases B with | nil => simp at hi | cons b B => exact ⟨b, B, rfl⟩
      rw [splice_eq, splice_eq]
      simp [List.take_append, List.drop_append]
      rw [List.take_of_length_le (by omega), List.drop_eq_nil_of_le (by omega : A.length ≤ A.length + 1 + (B.length + 1)), show A.length + 1 + (B.length + 1) - A.length = B.length + 1 + 1 by omega]
      simp
    rw [← e]
    exact hb2
  have hF : Fr (fun k => k = g) w W2 := (((Fr.refl (fun k => k = g) w).drew).wrote hw1 (.inl rfl)).wrote hw2 (.inl rfl)
  have HB := Lib.hid hB
  have HF := Lib.hid hF
  obtain ⟨n, hn⟩ : ∃ n, n = xs.length := ⟨_, rfl⟩
  obtain ⟨m, hm⟩ : ∃ m, m = rest.length := ⟨_, rfl⟩
  rw [← hn] at hi hr1 hr2 hbig ⊢
  rw [← hm] at hr hr1 hr2 hbig ⊢
  rw [show (xs.drop i).length = n - i by rw [List.length_drop, hn]] at hr1
  clear hB hF hb hv hb1 hw1 hv1 hb2 hw2 hn hm h1 hx hd
  have hz2 : ((i : Int) == (n : Int)) = false := beq_eq_false_iff_ne.2 (by omega)
  have hz3 : ¬ ((n : Int) + 1 > (n : Int) + (m : Int)) := by omega
  unfold maxLen at hbig
  have hw1 : IntKind.i64.wrap ((i : Int) + 1) = (i : Int) + 1 := by rw [IntKind.wrap_i64]; omega
  have hw2 : IntKind.i64.wrap ((n : Int) + 1) = (n : Int) + 1 := by rw [IntKind.wrap_i64]; omega
  have htn : ((i : Int) + 1).toNat = i + 1 := by omega
  have htn2 : ((n : Int) + 1).toNat = n + 1 := by omega
  have hb2 : ¬ (n + m = i + 1) := by omega
  have hb4 : ¬ (n + m = i) := by omega
  have hin : i ≤ n := by omega
  have hb1 : (0 : Int) ≤ (i : Int) + 1 := by omega
  have hb3 : (i : Int) ≤ (n : Int) + 1 := by omega
  have mixed : Try.prog.follows Departure.mixedOrders = true := by kernel_rfl
  go_enter Try.func57, Try.ntmps57
  go_wp2_with (simp only [hov])
  go_region_law_o (refine step_run_copy rfl rfl (by simp [Act.eval, Act.put]) (by simp [Act.eval, Act.put]) (hr1 _) ?_)
  go_wp2_with (at_builtin; refine wpList_run_copy rfl rfl rfl rfl (hr2 _) ?_)
  go_ret
  exact ⟨rfl, HB.out, HF.out⟩



set_option maxHeartbeats 4000000 in
set_option maxRecDepth 100000 in
/-- slices.Insert where there is no room, ahead of the end -/
theorem insert_grow_V (w : World) (g i vb : Nat) (xs : List Value) (x : Value) (hb : Blk w g 3 xs) (hv : Blk w vb 3 [x]) (hi : i < xs.length) (hbig : xs.length ≤ 1000000) (h1 : ∀ u ∈ xs, u.oneCell' = true) (hx : x.oneCell' = true) :
    Calls Try.prog 57 #[.slice (some ⟨g, 0, none⟩) xs.length xs.length, i64 i, .slice (some ⟨vb, 0, none⟩) 1 1] w fun e w' =>
      ∃ v', e = .returned v' ∧ Row w' 3 v' (xs.take i ++ x :: xs.drop i) ∧ v'.ownBlock = some w.heap.size ∧ Rb w w' := by
  have hu := Try.underlying67
  have hui := Try.underlying3
  have hsz : (Try.prog.info? 3).map (·.size) = some 1 := by kernel_rfl
  obtain ⟨i0, hi0, hz0, hzs, hzb⟩ := info_parts info_V
  have hold : (Builtin.firstCells i0.size i (.slice (some ⟨g, 0, none⟩) i xs.length)).run Try.prog w.drew = .ok (xs.take i).toArray w.drew := by
    rw [hzs]
    exact run_firstCells_some w.drew 1 i ⟨g, 0, none⟩ i xs.length (xs.take i) (by rw [List.length_take]; omega) (fun j v hj => by
      rw [Addr.add_lit, Nat.zero_add]
      show w.cell? _ = _
      rw [hb.cell]
      rw [List.getElem?_take] at hj
      split at hj
      · exact hj
      · cases hj)
  obtain ⟨n, hn⟩ : ∃ n, n = xs.length := ⟨_, rfl⟩
  have hik : i + (n + 1 - i) = n + 1 := by omega
  have hra := fun ty => Lib.run_append_grow_zeros w 67 3 ty 3 i0 _ .i64 .i64 hu hui hi0 hz0 (some ⟨g, 0, none⟩) i xs.length (xs.take i) hold (n + 1 - i) (by omega) (by omega) (by omega) (by omega) (by rw [hzb]; omega) (by rw [hzb, hik]; exact growslice_fits (by omega) (by omega))
  rw [hik] at hra
  obtain ⟨G, hG⟩ : ∃ G, G = grownCap w (n + 1) xs.length 3 := ⟨_, rfl⟩
  rw [← hG] at hra
  have hGn : n + 1 ≤ G := by rw [hG]; exact grownCap_ge w _ _ _
  have hG63 : G ≤ maxLen := by rw [hG]; exact grownCap_le_maxLen w _ _ _ (by unfold maxLen; omega)
  obtain ⟨ROW, hROW⟩ : ∃ ROW : List Value, ROW = xs.take i ++ List.replicate (n + 1 - i) (.int .i64 0) ++ List.replicate (G - (n + 1)) (.int .i64 0) := ⟨_, rfl⟩
  have hzr : ∀ k, (Builtin.zeroCells ((.int .i64 0) : Value).cells k) = (List.replicate k ((.int .i64 0) : Value)).toArray := fun k => by
    apply Array.ext
    · simp [Builtin.zeroCells, Value.cells]
    · intro j h1 h2
      simp [Builtin.zeroCells, Value.cells, Nat.mod_one]
  have hrow : ((xs.take i).toArray ++ Builtin.zeroCells ((.int .i64 0) : Value).cells (n + 1 - i) ++ Builtin.zeroCells ((.int .i64 0) : Value).cells (G - (n + 1))) = ROW.toArray := by
    rw [hROW, hzr, hzr]
    simp
  rw [hrow] at hra
  have hRl : ROW.length = G := by rw [hROW]; simp; omega
  obtain ⟨W1, hW1⟩ : ∃ W1, W1 = w.drew.alloc (.cells ROW.toArray 3) := ⟨_, rfl⟩
  rw [← hW1] at hra
  have hb1 : Blk W1 w.heap.size 3 ROW := by rw [hW1]; exact Blk.new w.drew _ _
  have hrb1 : Rb w W1 := by rw [hW1]; exact ((Below.refl _ w).drew).alloc (Nat.le_refl _) _
  have hv1 : Blk W1 vb 3 [x] := hv.rb hrb1
  have hgb1 : Blk W1 g 3 xs := hb.rb hrb1
  obtain ⟨W2, hr2, hb2, hw2⟩ := run_copy_blk (P := Try.prog) (w := W1) (off := i) hb1 hu hsz (n + 1 - i) (G - i) 1 1 ⟨vb, 0, none⟩ (news := [x])
    (by simp only [List.length_singleton, Nat.min_def]; split <;> omega) (fun j v hj => by
      rw [Addr.add_lit, hv1.cell, Nat.zero_add]; exact hj) (by simp; omega) (fun v hv => by simp at hv; subst hv; exact hx)
  have hgs : g < w.heap.size := hb.lt
  have hgb2 : Blk W2.drew g 3 xs := hgb1.same (hw2.block g (by omega))
  have hb2d : Blk W2.drew w.heap.size 3 (splice ROW i [x]) := hb2
  obtain ⟨W3, hr3, hb3, hw3⟩ := run_copy_blk (P := Try.prog) (w := W2.drew) (off := i + 1) hb2d hu hsz (n + 1 - (i + 1)) (G - (i + 1)) (n - i) (n - i) ⟨g, i, none⟩ (news := xs.drop i)
    (by rw [List.length_drop]; simp only [Nat.min_def]; split <;> omega) (fun j v hj => by
      rw [Addr.add_lit, hgb2.cell]
      rwa [List.getElem?_drop] at hj) (by rw [length_splice _ _ _ (by simp; omega), List.length_drop]; omega) (fun v hv => h1 v (List.mem_of_mem_drop hv))
  have hB : Row W3 3 (.slice (some ⟨w.heap.size, 0, none⟩) (n + 1) G) (xs.take i ++ x :: xs.drop i) := by
    have e : splice (splice ROW i [x]) (i + 1) (xs.drop i) = (xs.take i ++ x :: xs.drop i) ++ List.replicate (G - (n + 1)) (.int .i64 0) := by
      obtain ⟨A, B, rfl, rfl⟩ : ∃ A B, xs = A ++ B ∧ A.length = i := ⟨xs.take i, xs.drop i, by simp, by simp; omega⟩
      obtain ⟨k, hk⟩ : ∃ k, n + 1 - A.length = k + 1 := ⟨n - A.length, by rw [List.length_append] at hn; omega⟩
      have hkB : B.length = k := by rw [List.length_append] at hn; omega
      rw [hROW, hk, splice_eq, splice_eq]
      simp [List.take_append, List.drop_append, List.replicate_succ]
      rw [List.take_of_length_le (by omega), List.drop_eq_nil_of_le (by omega : A.length ≤ A.length + 1 + B.length), hkB]
      simp
      rw [show A.length + 1 + k - A.length = k + 1 by omega]
      simp
      rw [List.drop_eq_nil_of_le (by omega : A.length ≤ A.length + 1)]
      simp
    rw [e] at hb3
    have hl : (xs.take i ++ x :: xs.drop i).length = n + 1 := by simp; omega
    have := Row.mk' hb3 (by rw [hl, List.length_replicate]; omega)
    rw [hl, List.length_replicate, show n + 1 + (G - (n + 1)) = G by omega] at this
    exact this
  have hR : Rb w W3 := by
    have a : Below w.heap.size w W1 := hrb1
    have b := Wrote.below a hw2 (Nat.le_refl _)
    exact Wrote.below b.drew hw3 (Nat.le_refl _)
  have HB := Lib.hid hB
  have HR := Lib.hid hR
  rw [← hn] at hi hbig hra ⊢
  rw [show (xs.drop i).length = n - i by rw [List.length_drop, hn]] at hr3
  clear hB hR hb hv hb1 hrb1 hv1 hgb1 hb2 hw2 hgs hgb2 hb2d hb3 hw3 hrow hzr hRl hROW hold hW1 hG hn h1 hx hi0 hz0 hzs hzb
  unfold maxLen at hG63
  have hz2 : ((i : Int) == (n : Int)) = false := beq_eq_false_iff_ne.2 (by omega)
  have hz3 : (n : Int) + 1 > (n : Int) := by omega
  have hkk : (n : Int) + 1 - (i : Int) = ((n + 1 - i : Nat) : Int) := by omega
  have hw1 : IntKind.i64.wrap ((i : Int) + 1) = (i : Int) + 1 := by rw [IntKind.wrap_i64]; omega
  have hw2 : IntKind.i64.wrap ((n : Int) + 1) = (n : Int) + 1 := by rw [IntKind.wrap_i64]; omega
  have htn : ((i : Int) + 1).toNat = i + 1 := by omega
  have hin : i ≤ n := by omega
  have hb1 : (0 : Int) ≤ (i : Int) + 1 := by omega
  have hb3 : (i : Int) ≤ (n : Int) + 1 := by omega
  have hGi : ¬ (G = i) := by omega
  have hGi1 : ¬ (G = i + 1) := by omega
  have hci : ¬ (n = i) := by omega
  have mixed : Try.prog.follows Departure.mixedOrders = true := by kernel_rfl
  go_enter Try.func57, Try.ntmps57
  go_wp2_with (at_builtin; first | (refine wpList_run_append rfl rfl rfl rfl (hra _) ?_) | (refine wpList_run_copy rfl rfl rfl rfl (hr2 _) ?_))
  go_region_law_o (refine step_run_copy rfl rfl (by simp [Act.eval, Act.put]) (by simp [Act.eval, Act.put]) (hr3 _) ?_)
  go_wp2
  go_ret
  exact ⟨_, rfl, HB.out, rfl, HR.out⟩



set_option maxHeartbeats 4000000 in
set_option maxRecDepth 100000 in
/-- slices.Insert at the end -/
theorem insert_end_V (w : World) (v : Value) (vb : Nat) (xs : List Value) (x : Value) (hr : Row w 3 v xs) (hv : Blk w vb 3 [x]) (hbig : xs.length ≤ 1000000) (hx : x.oneCell' = true) :
    Calls Try.prog 57 #[v, i64 xs.length, .slice (some ⟨vb, 0, none⟩) 1 1] w fun e w' => ∃ v', e = .returned v' ∧ Re w 3 v (xs ++ [x]) v' w' := by
  have hu := Try.underlying67
  obtain ⟨i0, hi0, hz0, hzs, hzb⟩ := info_parts info_V
  have hsl : Sl w (.slice (some ⟨vb, 0, none⟩) 1 1) [x] := ⟨_, 1, rfl, Nat.le_refl _, by unfold maxLen; omega, (fun h => by cases h), fun ad ha j u hj => by
    cases ha
    rw [Addr.add_lit, hv.cell, Nat.zero_add]; exact hj⟩
  obtain ⟨v', w', hra, h2, h3, h4⟩ := run_append_row (P := Try.prog) hu hi0 hz0 hzs hzb (by omega) rfl hr hsl (fun u hu => by simp at hu; subst hu; exact hx) (by simp; omega)
  have H : Re w 3 v (xs ++ [x]) v' w' := ⟨h2, (Fr.refl _ w).grown h3 (fun k hk => .inl hk), h4⟩
  have HH := Lib.hid H
  obtain ⟨ao, cap, rfl, hl, hm⟩ := hr.form
  obtain ⟨n, hn⟩ : ∃ n, n = xs.length := ⟨_, rfl⟩
  rw [← hn] at hra hl HH ⊢
  clear hi0 hz0 hzs hzb hsl h2 h3 h4 H hr hv hbig hx
  unfold maxLen at hm
  clear hn
  by_cases hcn : cap = n
  · subst hcn
    go_enter Try.func57, Try.ntmps57
    go_wp2_with (at_builtin; refine wpList_run_append rfl rfl rfl rfl (hra _) ?_)
    go_ret
    exact ⟨_, rfl, HH.out⟩
  · go_enter Try.func57, Try.ntmps57
    go_wp2_with (at_builtin; refine wpList_run_append rfl rfl rfl rfl (hra _) ?_)
    go_ret
    exact ⟨_, rfl, HH.out⟩



theorem insert_any_V (w : World) (v : Value) (i vb : Nat) (xs : List Value) (x : Value) (hr : Row w 3 v xs) (hv : Blk w vb 3 [x]) (hne : v.ownBlock ≠ some vb) (hi : i ≤ xs.length) (hbig : xs.length ≤ 1000000) (h1 : ∀ u ∈ xs, u.oneCell' = true) (hx : x.oneCell' = true) :
    Calls Try.prog 57 #[v, i64 i, .slice (some ⟨vb, 0, none⟩) 1 1] w fun e w' => ∃ v', e = .returned v' ∧ Re w 3 v (xs.take i ++ x :: xs.drop i) v' w' := by
  by_cases he : i = xs.length
  · subst he
    refine (insert_end_V w v vb xs x hr hv hbig hx).mono ?_
    rintro e w' ⟨v', rfl, h⟩
    refine ⟨v', rfl, ?_⟩
    simpa using h
  · rcases hr.cases' with ⟨rfl, rfl⟩ | ⟨g, rest, rfl, h2, h3⟩
    · simp at hi; exact absurd hi he
    · have hg : vb ≠ g := fun e => hne (by rw [e]; rfl)
      by_cases h0 : rest.length = 0
      · have : rest = [] := List.eq_nil_of_length_eq_zero h0
        subst this
        rw [List.append_nil] at h2
        refine (insert_grow_V w g i vb xs x h2 hv (by omega) hbig h1 hx).mono ?_
        rintro e w' ⟨v', rfl, k1, k2, k3⟩
        refine ⟨v', rfl, k1, Fr.of_rb k3, fun k hk => ?_⟩
        rw [k2] at hk
        cases hk
        exact .inr (Nat.le_refl _)
      · refine (insert_shift_V w g i vb xs rest x h2 hv hg (by omega) (by omega) h3 h1 hx).mono ?_
        rintro e w' ⟨rfl, k1, k2⟩
        refine ⟨_, rfl, ?_, k2.mono (fun k hk _ => by subst hk; rfl), fun k hk => .inl hk⟩
        have hl : (xs.take i ++ x :: xs.drop i).length = xs.length + 1 := by simp; omega
        have := Row.mk' k1 (by rw [hl, List.length_drop]; omega)
        rw [hl, List.length_drop, show xs.length + 1 + (rest.length - 1) = xs.length + rest.length by omega] at this
        exact this



set_option maxHeartbeats 4000000 in
set_option maxRecDepth 100000 in
theorem delete_any_V (w : World) (v : Value) (i j : Nat) (xs : List Value) (hr : Row w 3 v xs) (hij : i < j) (hj : j ≤ xs.length) (h1 : ∀ u ∈ xs, u.oneCell' = true) :
    Calls Try.prog 55 #[v, i64 i, i64 j] w fun e w' => ∃ v', e = .returned v' ∧ Re w 3 v (xs.take i ++ xs.drop j) v' w' ∧ v'.ownBlock = v.ownBlock := by
  rcases hr.cases' with ⟨rfl, rfl⟩ | ⟨g, rest, rfl, hb, hm⟩
  · simp at hj; omega
  have hu := Try.underlying67
  obtain ⟨i0, hi0, hz0, hzs, hzb⟩ := info_parts info_V
  obtain ⟨n, hn⟩ : ∃ n, n = xs.length := ⟨_, rfl⟩
  obtain ⟨cap, hcap⟩ : ∃ cap, cap = xs.length + rest.length := ⟨_, rfl⟩
  have hd : Blk w.drew g 3 (xs ++ rest) := hb
  obtain ⟨A, hA, hsrc⟩ : ∃ A : Addr, (if cap = j then some (⟨g, 0, none⟩ : Addr) else some ⟨g, j, none⟩) = some A ∧ ∀ t u, (xs.drop j)[t]? = some u → w.drew.cell? (A.add t) = some u := by
    by_cases h : cap = j
    · refine ⟨⟨g, 0, none⟩, by simp [h], fun t u hu => ?_⟩
      rw [List.drop_eq_nil_of_le (by omega)] at hu
      cases hu
    · refine ⟨⟨g, j, none⟩, by simp [h], fun t u hu => ?_⟩
      rw [Addr.add_lit, hd.cell]
      have ht := (List.getElem?_eq_some_iff.1 hu).1
      rw [List.length_drop] at ht
      rw [List.getElem?_append_left (by omega)]
      rwa [List.getElem?_drop] at hu
  obtain ⟨W1, hr1, hb1, hw1⟩ := run_append_blk (P := Try.prog) (w := w.drew) (off := 0) (n := i) (cap := cap) hd hu hi0 hzs A (n - j) (cap - j) (news := xs.drop j) (by rw [List.length_drop, hn]) hsrc (by omega) (by rw [List.length_drop, List.length_append]; omega) (fun v hv => h1 v (List.mem_of_mem_drop hv))
  have hl1 : (splice (xs ++ rest) (0 + i) (xs.drop j)).length = cap := by rw [length_splice _ _ _ (by rw [List.length_drop, List.length_append]; omega), List.length_append, hcap]
  obtain ⟨W2, hr2, hb2, hw2⟩ := run_clear_blk (P := Try.prog) (w := W1) (off := i + (n - j)) (n := n - (i + (n - j))) (c := cap - (i + (n - j))) hb1 hu Try.zeroValue3 rfl rfl (by omega) (by rw [hl1]; omega)
  have hB : Row W2 3 (.slice (some ⟨g, 0, none⟩) (i + (n - j)) cap) (xs.take i ++ xs.drop j) := by
    obtain ⟨rest', e⟩ : ∃ rest', splice (splice (xs ++ rest) (0 + i) (xs.drop j)) (i + (n - j)) (List.replicate (n - (i + (n - j))) (.int .i64 0)) = (xs.take i ++ xs.drop j) ++ rest' := by
      refine ⟨List.replicate (n - (i + (n - j))) (.int .i64 0) ++ (splice (xs ++ rest) (0 + i) (xs.drop j)).drop (i + (n - j) + (n - (i + (n - j)))), ?_⟩
      rw [splice_eq (splice _ _ _), List.length_replicate]
      rw [show (splice (xs ++ rest) (0 + i) (xs.drop j)).take (i + (n - j)) = xs.take i ++ xs.drop j by
        rw [splice_eq, Nat.zero_add, List.take_append_of_le_length (l₁ := xs) (by omega), ← List.append_assoc, List.take_append_of_le_length (by simp; omega)]
        exact List.take_of_length_le (by simp; omega)]
    have hl : (xs.take i ++ xs.drop j).length = i + (n - j) := by simp; omega
    have hl2 : ((xs.take i ++ xs.drop j) ++ rest').length = cap := by
      rw [← e, length_splice _ _ _ (by rw [hl1, List.length_replicate]; omega), hl1]
    rw [List.length_append, hl] at hl2
    rw [e] at hb2
    have := Row.mk' hb2 (by rw [hl, hl2, hcap]; exact hm)
    rw [hl, hl2] at this
    exact this
  have hF : Fr (fun k => (Value.slice (some ⟨g, 0, none⟩) xs.length (xs.length + rest.length)).ownBlock = some k) w W2 := (((Fr.refl (fun k => (Value.slice (some ⟨g, 0, none⟩) xs.length (xs.length + rest.length)).ownBlock = some k) w).drew).wrote hw1 (.inl rfl)).wrote hw2 (.inl rfl)
  have H : Re w 3 (.slice (some ⟨g, 0, none⟩) xs.length (xs.length + rest.length)) (xs.take i ++ xs.drop j) (.slice (some ⟨g, 0, none⟩) (i + (n - j)) cap) W2 := ⟨hB, hF, fun k hk => .inl hk⟩
  have HH := Lib.hid H
  have hnc : n ≤ cap := by omega
  rw [← hcap] at hm HH ⊢
  rw [← hn] at hj HH ⊢
  clear hB hF H hr h1 hi0 hz0 hzs hzb hb hd hsrc hb1 hw1 hb2 hw2 hl1
  clear hcap hn
  unfold maxLen at hm
  have hz2 : ((i : Int) == (j : Int)) = false := beq_eq_false_iff_ne.2 (by omega)
  have hic : i ≤ cap := by omega
  have hjc : j ≤ cap := by omega
  have hij' : i ≤ j := by omega
  have hin : i ≤ n := by omega
  have hni : ¬ (n = i) := by omega
  have hci : ¬ (cap = i) := by omega
  have hq : ¬ (cap = i + (n - j)) := by omega
  have hq1 : i + (n - j) ≤ n := by omega
  have hq2 : i + (n - j) ≤ cap := by omega
  have mixed : Try.prog.follows Departure.mixedOrders = true := by kernel_rfl
  go_enter Try.func55, Try.ntmps55
  go_wp2_with fail
  go_region_law_o (refine step_run_append rfl rfl (by simp [Act.eval, Act.put]) (by simp [Act.eval, Act.put]) (hr1 _) ?_)
  go_wp2_with (at_builtin; refine wpList_run_clear rfl rfl rfl (hr2 _) ?_)
  go_ret
  exact ⟨_, rfl, HH.out, rfl⟩


set_option maxHeartbeats 4000000 in
set_option maxRecDepth 100000 in
theorem clone_any_V (w : World) (v : Value) (xs : List Value) (hs : Sl w v xs) (hbig : xs.length ≤ 1000000) (h1 : ∀ u ∈ xs, u.oneCell' = true) :
    Calls Try.prog 51 #[v] w fun e w' => ∃ v', e = .returned v' ∧ Row w' 3 v' xs ∧ (∀ k, v'.ownBlock = some k → w.heap.size ≤ k) ∧ Rb w w' := by
  have hu := Try.underlying67
  obtain ⟨ao, cap, rfl, e2, e3, e4, e5⟩ := hs
  have q22 : ∀ (w : World) (a : Option Addr) (n c n' c' : Nat), (binOp .eql 67 (.slice a n c) (.slice none n' c')).run Try.prog w = .ok (.bool a.isNone) w := fun w a n c n' c' => Lib.run_eql_slice_nil w _ _ a n c n' c' hu
  cases ao with
  | none =>
    have hc := e4 rfl
    have h0 : xs = [] := List.eq_nil_of_length_eq_zero (by omega)
    subst h0
    clear e5 e4 e2 e3
    go_enter Try.func51, Try.ntmps51
    go_wp2_with fail
    go_ret
    exact ⟨_, rfl, Row.nil _ _, (fun k hk => by cases hk), Rb.refl _⟩
  | some ad =>
    obtain ⟨i0, hi0, hz0, hzs, hzb⟩ := info_parts info_V
    obtain ⟨W0, hW0⟩ : ∃ W0, W0 = w.alloc (.cells #[] 3) := ⟨_, rfl⟩
    have hr0 : Row W0 3 (.slice (some ⟨w.heap.size, 0, none⟩) 0 0) [] := by
      have hb : Blk W0 w.heap.size 3 ([] ++ []) := by rw [hW0]; exact Blk.new w _ []
      exact Row.mk' hb (Nat.zero_le _)
    have hrb : Rb w W0 := by rw [hW0]; exact (Below.refl _ w).alloc (Nat.le_refl _) _
    have hsl : Sl W0 (.slice (some ad) xs.length cap) xs := Sl.rb ⟨_, _, rfl, e2, e3, e4, e5⟩ hrb
    obtain ⟨v', w', hra, h2, h3, h4⟩ := run_append_row (P := Try.prog) hu hi0 hz0 hzs hzb (by omega) rfl hr0 hsl h1 (by simp; omega)
    have hR : Rb w w' := Below.grown (show Below w.heap.size w W0 from hrb) h3 hrb.size (fun k hk => by cases hk; exact Nat.le_refl _)
    have hN : ∀ k, v'.ownBlock = some k → w.heap.size ≤ k := fun k hk => by
      rcases h4 k hk with h | h
      · cases h; exact Nat.le_refl _
      · exact Nat.le_trans hrb.size h
    have HR := Lib.hid hR
    have HN := Lib.hid hN
    have H2 := Lib.hid h2
    obtain ⟨n, hn⟩ : ∃ n, n = xs.length := ⟨_, rfl⟩
    rw [← hn] at hra ⊢
    rw [hW0] at hra
    clear hR hN h2 h3 h4 hi0 hz0 hzs hzb hr0 hrb hsl hn hW0 e2 e3 e4 e5 hbig h1
    go_enter Try.func51, Try.ntmps51
    go_wp2_with (at_builtin; refine wpList_run_append rfl rfl rfl rfl (hra _) ?_)
    go_ret
    exact ⟨_, rfl, H2.out, HN.out, HR.out⟩


set_option maxHeartbeats 4000000 in
set_option maxRecDepth 100000 in
theorem cut_any_V (w : World) (v : Value) (at_ : Nat) (xs : List Value) (hr : Row w 3 v xs) (ha : at_ < xs.length) (hbig : xs.length ≤ 1000000) (h1 : ∀ u ∈ xs, u.oneCell' = true) :
    Calls Try.prog 59 #[v, i64 at_] w fun e w' => ∃ v1 v2, e = .returned (.tuple #[v1, v2]) ∧ Re w 3 v (xs.take at_) v1 w' ∧ v1.ownBlock = v.ownBlock ∧ Row w' 3 v2 (xs.drop at_) ∧ (∀ k, v2.ownBlock = some k → w.heap.size ≤ k) := by
  have HR := Lib.hid hr
  rcases hr.cases' with ⟨rfl, rfl⟩ | ⟨g, rest, rfl, hb, hm⟩
  · simp at ha
  have hsl : Sl w (.slice (some ⟨g, at_, none⟩) (xs.length - at_) (xs.length + rest.length - at_)) (xs.drop at_) := by
    refine ⟨_, _, by rw [List.length_drop], by rw [List.length_drop]; omega, by omega, (fun h => by cases h), fun ad e t u hu => ?_⟩
    cases e
    rw [Addr.add_lit, hb.cell]
    have ht := (List.getElem?_eq_some_iff.1 hu).1
    rw [List.length_drop] at ht
    rw [List.getElem?_append_left (by omega)]
    rwa [List.getElem?_drop] at hu
  have C := Lib.hid (clone_any_V w _ _ hsl (by rw [List.length_drop]; omega) (fun u hu => h1 u (List.mem_of_mem_drop hu)))
  have D := fun w' h => Lib.hid (delete_any_V w' (.slice (some ⟨g, 0, none⟩) xs.length (xs.length + rest.length)) at_ xs.length xs h ha (Nat.le_refl _) h1)
  obtain ⟨n, hn⟩ : ∃ n, n = xs.length := ⟨_, rfl⟩
  obtain ⟨cap, hcap⟩ : ∃ cap, cap = xs.length + rest.length := ⟨_, rfl⟩
  have hnc : n ≤ cap := by omega
  rw [← hcap] at HR C D hm ⊢
  rw [← hn] at HR C D ha ⊢
  have HB := Lib.hid hb
  have HN := Lib.hid hn
  clear hr hsl hb hcap hn hbig h1
  unfold maxLen at hm
  have hci : ¬ (cap = at_) := by omega
  have hic : at_ ≤ cap := by omega
  have hin : at_ ≤ n := by omega
  go_enter Try.func59, Try.ntmps59
  go_wp2_with (go_at_call 51; refine C.out.mono ?_)
  rintro e w1 ⟨v2, rfl, k1, k2, k3⟩
  have D1 := Lib.hid ((D w1 (HR.out.rb k3)).out)
  have K1 := Lib.hid k1
  have K2 := Lib.hid k2
  have K3 := Lib.hid k3
  clear k1 k2 k3 D
  go_wp2_with (go_at_call 55; refine D1.out.mono ?_)
  rintro e w2 ⟨v1, rfl, r1, r2⟩
  have R1 := Lib.hid r1
  have R2 := Lib.hid r2
  clear r1 r2
  go_wp2_with fail
  go_ret2
  have r1 := R1.out
  have k1 := K1.out
  have k2 := K2.out
  have k3 := K3.out
  refine ⟨v1, v2, rfl, ⟨?_, ?_, ?_⟩, R2.out, ?_, k2⟩
  · have := r1.row
    rwa [List.drop_eq_nil_of_le (by rw [HN.out]; exact Nat.le_refl _), List.append_nil] at this
  · exact (Fr.of_rb k3).trans r1.fr (fun k hk => .inl hk)
  · intro k hk
    rcases r1.new k hk with h | h
    · exact .inl h
    · have := k3.size; exact .inr (by omega)
  · exact k1.fr r1.fr (fun k hk h => by
      have h1 := k2 k hk
      have h2 := HB.out.lt
      have h3 : g = k := by simpa [Value.ownBlock] using h
      omega)

end Go.Proofs.Ytjdlicphmflnkaa.L5
