/-
  Layer 2: zero values; which value fits which type.
-/
import Derived.Test.YtolfeellcdoopaaDoorVC
namespace Go.Proofs.YtolfeellcdoopaaDoor
open Go.ChangeShapes Go.WideShapes Go.ChangeAt Go.RowKit Oct By Reg Val

theorem bcell {W w1 : World} (hb : Below W.heap.size W w1) : (∀ b o, b < W.heap.size → w1.cell? ⟨b, o, none⟩ = W.cell? ⟨b, o, none⟩) ∧ (∀ b o, b < W.heap.size → w1.frozen? ⟨b, o, none⟩ = W.frozen? ⟨b, o, none⟩) :=
  ⟨fun b o h => hb.cell (p := ⟨b, o, none⟩) h, fun b o h => hb.frozen (p := ⟨b, o, none⟩) h⟩

set_option maxRecDepth 100000 in
theorem zero_any (k m : Int) (w : World) :
    Calls Tryd.prog 50 #[tv k m] w fun e w' => e = .returned (vv (if rightTypeB k m = true then k else 0) 0 ⟨#[]⟩) ∧ Below w.heap.size w w' := by
  have c := fun w => righttype_any k m w
  cases hr : rightTypeB k m
  · rw [hr] at c
    have C := Lib.hid c; clear c hr
    go_enter Tryd.func50, Tryd.ntmps50
    go_wp2_with fail
    refine (C.out _).mono ?_
    rintro e w' ⟨rfl, hb⟩
    obtain ⟨hc, hf⟩ := bcell hb
    have HB := Lib.hid hb; clear hb
    go_wp2
    refine bodyPost_ret (v := vv 0 0 ⟨#[]⟩) (by simp [results, Tryd.results50, go_sem, hc]) rfl ⟨rfl, ?_⟩
    exact Below.setCell (Below.setCell (Below.setCell ((((Below.refl _ _).alloc (Nat.le_refl _) _).alloc (by simp) _).trans (HB.out.mono (by simp; omega))) (by simp) _) (by simp) _) (by simp) _
  · rw [hr] at c
    have C := Lib.hid c; clear c hr
    go_enter Tryd.func50, Tryd.ntmps50
    go_wp2_with fail
    refine (C.out _).mono ?_
    rintro e w' ⟨rfl, hb⟩
    obtain ⟨hc, hf⟩ := bcell hb
    have HB := Lib.hid hb; clear hb
    go_wp2
    refine bodyPost_ret (v := vv k 0 ⟨#[]⟩) (by simp [results, Tryd.results50, go_sem, hc]) rfl ⟨rfl, ?_⟩
    exact Below.setCell (Below.setCell (Below.setCell ((((Below.refl _ _).alloc (Nat.le_refl _) _).alloc (by simp) _).trans (HB.out.mono (by simp; omega))) (by simp) _) (by simp) _) (by simp) _

set_option maxRecDepth 100000 in
theorem refzero_any (k m : Int) (w : World) :
    Calls Tryd.prog 51 #[tv k m] w fun e w' => e = .returned (vv (if rightTypeB k m = true then k else 0) 0 ⟨#[]⟩) ∧ Below w.heap.size w w' := by
  have c := fun w => refrighttype_any k m w
  cases hr : rightTypeB k m
  · rw [hr] at c
    have C := Lib.hid c; clear c hr
    go_enter Tryd.func51, Tryd.ntmps51
    go_wp2_with fail
    refine (C.out _).mono ?_
    rintro e w' ⟨rfl, hb⟩
    obtain ⟨hc, hf⟩ := bcell hb
    have HB := Lib.hid hb; clear hb
    go_wp2
    refine bodyPost_ret (v := vv 0 0 ⟨#[]⟩) (by simp [results, Tryd.results51, go_sem, hc]) rfl ⟨rfl, ?_⟩
    exact Below.setCell (Below.setCell (Below.setCell (((((Below.refl _ _).alloc (Nat.le_refl _) _).alloc (by simp) _).alloc (by simp; omega) _).trans (HB.out.mono (by simp; omega))) (by simp) _) (by simp) _) (by simp) _
  · rw [hr] at c
    have C := Lib.hid c; clear c hr
    go_enter Tryd.func51, Tryd.ntmps51
    go_wp2_with fail
    refine (C.out _).mono ?_
    rintro e w' ⟨rfl, hb⟩
    obtain ⟨hc, hf⟩ := bcell hb
    have HB := Lib.hid hb; clear hb
    go_wp2
    refine bodyPost_ret (v := vv k 0 ⟨#[]⟩) (by simp [results, Tryd.results51, go_sem, hc]) rfl ⟨rfl, ?_⟩
    exact Below.setCell (Below.setCell (Below.setCell (Below.setCell (((((Below.refl _ _).alloc (Nat.le_refl _) _).alloc (by simp) _).alloc (by simp; omega) _).trans (HB.out.mono (by simp; omega))) (by simp; omega) _) (by simp) _) (by simp) _) (by simp) _

theorem fits_end {k n m : Int} {s : ByteArray} (h1 : rightB k n s.data.toList = true) (h2 : rightTypeB k m = true) : decide ((s.size : Int) ≤ m) = fitsB k n s.data.toList k m := by
  have hlen : s.data.toList.length = s.size := Array.length_toList
  unfold fitsB
  rw [h1, h2, hlen]
  by_cases h3 : k = 3
  · simp [h3]
  · have hl : s.size = 0 := by
      rw [← hlen]
      generalize s.data.toList = l at h1
      have hl : l.isEmpty = true := by
        unfold rightB at h1
        split at h1
        · exact h1
        · split at h1
          · rw [Bool.and_eq_true] at h1; exact h1.1
          · simp at h1
      rw [List.isEmpty_iff.1 hl]; rfl
    have hm : m = 0 := by
      unfold rightTypeB at h2
      rw [if_neg h3] at h2
      split at h2
      · simpa using h2
      · cases h2
    simp [h3, hl, hm]

set_option maxRecDepth 100000 in
theorem fits_any (k n : Int) (s : ByteArray) (t m : Int) (w : World) (hs : s.size ≤ maxLen) :
    Calls Tryd.prog 55 #[vv k n s, tv t m] w fun e w' => e = .returned (.bool (fitsB k n s.data.toList t m)) ∧ Below w.heap.size w w' := by
  have c1 := fun w => right_any k n s w hs
  have c2 := fun w => righttype_any t m w
  cases hr : rightB k n s.data.toList
  · have hR := Lib.hid (show false = fitsB k n s.data.toList t m by unfold fitsB; rw [hr]; rfl)
    rw [hr] at c1
    have C1 := Lib.hid c1; clear c1 c2 hr
    go_enter Tryd.func55, Tryd.ntmps55
    go_wp2_with fail
    refine (C1.out _).mono ?_
    rintro e w' ⟨rfl, hb⟩
    have HB := Lib.hid hb; clear hb
    go_wp2
    go_ret
    exact ⟨ret_bool hR.out, (((Below.refl _ _).alloc (Nat.le_refl _) _).alloc (by simp) _).trans (HB.out.mono (by simp; omega))⟩
  rw [hr] at c1
  cases ht : rightTypeB t m
  · have hR := Lib.hid (show false = fitsB k n s.data.toList t m by unfold fitsB; rw [hr, ht]; rfl)
    rw [ht] at c2
    have C1 := Lib.hid c1; have C2 := Lib.hid c2; clear c1 c2 hr ht
    go_enter Tryd.func55, Tryd.ntmps55
    go_wp2_with fail
    refine (C1.out _).mono ?_
    rintro e w1 ⟨rfl, hb⟩
    obtain ⟨hc, hf⟩ := bcell hb
    have HB := Lib.hid hb; clear hb
    go_wp2_with fail
    refine (C2.out _).mono ?_
    rintro e w2 ⟨rfl, hb2⟩
    have HB2 := Lib.hid hb2; clear hb2
    have hz : w.heap.size + 2 ≤ w1.heap.size := by have := HB.out.size; simp at this; omega
    go_wp2
    go_ret
    exact ⟨ret_bool hR.out, ((((Below.refl _ _).alloc (Nat.le_refl _) _).alloc (by simp) _).trans (HB.out.mono (by simp; omega))).trans (HB2.out.mono (by omega))⟩
  rw [ht] at c2
  by_cases hk : k = t
  · subst hk
    have hR := Lib.hid (fits_end hr ht)
    have C1 := Lib.hid c1; have C2 := Lib.hid c2; clear c1 c2 hr ht
    go_enter Tryd.func55, Tryd.ntmps55
    go_wp2_with fail
    refine (C1.out _).mono ?_
    rintro e w1 ⟨rfl, hb⟩
    obtain ⟨hc, hf⟩ := bcell hb
    have HB := Lib.hid hb; clear hb
    go_wp2_with fail
    refine (C2.out _).mono ?_
    rintro e w2 ⟨rfl, hb2⟩
    obtain ⟨hc2, hf2⟩ := bcell hb2
    have HB2 := Lib.hid hb2; clear hb2
    have hz : w.heap.size + 2 ≤ w1.heap.size := by have := HB.out.size; simp at this; omega
    have e1 : w2.cell? ⟨w.heap.size, 0, none⟩ = some (.int .i64 k) := by rw [hc2 _ _ (by omega), hc _ _ (by simp; omega)]; simp
    have e2 : w2.cell? ⟨w.heap.size + 1, 0, none⟩ = some (.int .i64 k) := by rw [hc2 _ _ (by omega), hc _ _ (by simp)]; simp
    have e3 : w2.cell? ⟨w.heap.size, 2, none⟩ = some (.string s) := by rw [hc2 _ _ (by omega), hc _ _ (by simp; omega)]; simp
    have e4 : w2.cell? ⟨w.heap.size + 1, 1, none⟩ = some (.int .i64 m) := by rw [hc2 _ _ (by omega), hc _ _ (by simp)]; simp
    clear hc hf hc2 hf2
    go_wp2
    go_ret
    exact ⟨ret_bool hR.out, ((((Below.refl _ _).alloc (Nat.le_refl _) _).alloc (by simp) _).trans (HB.out.mono (by simp; omega))).trans (HB2.out.mono (by omega))⟩
  · have hR := Lib.hid (show false = fitsB k n s.data.toList t m by unfold fitsB; rw [hr, ht, decide_eq_false hk]; rfl)
    have C1 := Lib.hid c1; have C2 := Lib.hid c2; clear c1 c2 hr ht
    go_enter Tryd.func55, Tryd.ntmps55
    go_wp2_with fail
    refine (C1.out _).mono ?_
    rintro e w1 ⟨rfl, hb⟩
    obtain ⟨hc, hf⟩ := bcell hb
    have HB := Lib.hid hb; clear hb
    go_wp2_with fail
    refine (C2.out _).mono ?_
    rintro e w2 ⟨rfl, hb2⟩
    obtain ⟨hc2, hf2⟩ := bcell hb2
    have HB2 := Lib.hid hb2; clear hb2
    have hz : w.heap.size + 2 ≤ w1.heap.size := by have := HB.out.size; simp at this; omega
    have e1 : w2.cell? ⟨w.heap.size, 0, none⟩ = some (.int .i64 k) := by rw [hc2 _ _ (by omega), hc _ _ (by simp; omega)]; simp
    have e2 : w2.cell? ⟨w.heap.size + 1, 0, none⟩ = some (.int .i64 t) := by rw [hc2 _ _ (by omega), hc _ _ (by simp)]; simp
    clear hc hf hc2 hf2
    go_wp2
    go_ret
    exact ⟨ret_bool hR.out, ((((Below.refl _ _).alloc (Nat.le_refl _) _).alloc (by simp) _).trans (HB.out.mono (by simp; omega))).trans (HB2.out.mono (by omega))⟩
set_option maxRecDepth 100000 in
theorem reffits_any (k n : Int) (s : ByteArray) (t m : Int) (w : World) (hs : s.size ≤ maxLen) :
    Calls Tryd.prog 57 #[vv k n s, tv t m] w fun e w' => e = .returned (.bool (fitsB k n s.data.toList t m)) ∧ Below w.heap.size w w' := by
  have c1 := fun w => refright_any k n s w hs
  have c2 := fun w => refrighttype_any t m w
  cases hr : rightB k n s.data.toList
  · have hR := Lib.hid (show false = fitsB k n s.data.toList t m by unfold fitsB; rw [hr]; rfl)
    rw [hr] at c1
    have C1 := Lib.hid c1; clear c1 c2 hr
    go_enter Tryd.func57, Tryd.ntmps57
    go_wp2_with fail
    refine (C1.out _).mono ?_
    rintro e w' ⟨rfl, hb⟩
    have HB := Lib.hid hb; clear hb
    go_wp2
    go_ret
    exact ⟨ret_bool hR.out, (((Below.refl _ _).alloc (Nat.le_refl _) _).alloc (by simp) _).trans (HB.out.mono (by simp; omega))⟩
  rw [hr] at c1
  cases ht : rightTypeB t m
  · have hR := Lib.hid (show false = fitsB k n s.data.toList t m by unfold fitsB; rw [hr, ht]; rfl)
    rw [ht] at c2
    have C1 := Lib.hid c1; have C2 := Lib.hid c2; clear c1 c2 hr ht
    go_enter Tryd.func57, Tryd.ntmps57
    go_wp2_with fail
    refine (C1.out _).mono ?_
    rintro e w1 ⟨rfl, hb⟩
    obtain ⟨hc, hf⟩ := bcell hb
    have HB := Lib.hid hb; clear hb
    go_wp2_with fail
    refine (C2.out _).mono ?_
    rintro e w2 ⟨rfl, hb2⟩
    have HB2 := Lib.hid hb2; clear hb2
    have hz : w.heap.size + 2 ≤ w1.heap.size := by have := HB.out.size; simp at this; omega
    go_wp2
    go_ret
    exact ⟨ret_bool hR.out, ((((Below.refl _ _).alloc (Nat.le_refl _) _).alloc (by simp) _).trans (HB.out.mono (by simp; omega))).trans (HB2.out.mono (by omega))⟩
  rw [ht] at c2
  by_cases hk : k = t
  · subst hk
    have hR := Lib.hid (show (decide (k ≠ 3) || decide ((s.size : Int) ≤ m)) = fitsB k n s.data.toList k m by unfold fitsB; rw [hr, ht, show s.data.toList.length = s.size from Array.length_toList]; simp)
    have C1 := Lib.hid c1; have C2 := Lib.hid c2; clear c1 c2 hr ht
    go_enter Tryd.func57, Tryd.ntmps57
    go_wp2_with fail
    refine (C1.out _).mono ?_
    rintro e w1 ⟨rfl, hb⟩
    obtain ⟨hc, hf⟩ := bcell hb
    have HB := Lib.hid hb; clear hb
    go_wp2_with fail
    refine (C2.out _).mono ?_
    rintro e w2 ⟨rfl, hb2⟩
    obtain ⟨hc2, hf2⟩ := bcell hb2
    have HB2 := Lib.hid hb2; clear hb2
    have hz : w.heap.size + 2 ≤ w1.heap.size := by have := HB.out.size; simp at this; omega
    have e1 : w2.cell? ⟨w.heap.size, 0, none⟩ = some (.int .i64 k) := by rw [hc2 _ _ (by omega), hc _ _ (by simp; omega)]; simp
    have e2 : w2.cell? ⟨w.heap.size + 1, 0, none⟩ = some (.int .i64 k) := by rw [hc2 _ _ (by omega), hc _ _ (by simp)]; simp
    have e3 : w2.cell? ⟨w.heap.size, 2, none⟩ = some (.string s) := by rw [hc2 _ _ (by omega), hc _ _ (by simp; omega)]; simp
    have e4 : w2.cell? ⟨w.heap.size + 1, 1, none⟩ = some (.int .i64 m) := by rw [hc2 _ _ (by omega), hc _ _ (by simp)]; simp
    clear hc hf hc2 hf2
    have HE := Lib.hid (show Below w.heap.size w w2 from ((((Below.refl _ _).alloc (Nat.le_refl _) _).alloc (by simp) _).trans (HB.out.mono (by simp; omega))).trans (HB2.out.mono (by omega)))
    by_cases h3 : k = 3
    · subst h3
      go_wp2
      go_ret
      exact ⟨ret_bool (by rw [← hR.out]; simp), HE.out⟩
    · go_wp2
      go_ret
      exact ⟨ret_bool (by rw [← hR.out]; simp [h3]), HE.out⟩
  · have hR := Lib.hid (show false = fitsB k n s.data.toList t m by unfold fitsB; rw [hr, ht, decide_eq_false hk]; rfl)
    have C1 := Lib.hid c1; have C2 := Lib.hid c2; clear c1 c2 hr ht
    go_enter Tryd.func57, Tryd.ntmps57
    go_wp2_with fail
    refine (C1.out _).mono ?_
    rintro e w1 ⟨rfl, hb⟩
    obtain ⟨hc, hf⟩ := bcell hb
    have HB := Lib.hid hb; clear hb
    go_wp2_with fail
    refine (C2.out _).mono ?_
    rintro e w2 ⟨rfl, hb2⟩
    obtain ⟨hc2, hf2⟩ := bcell hb2
    have HB2 := Lib.hid hb2; clear hb2
    have hz : w.heap.size + 2 ≤ w1.heap.size := by have := HB.out.size; simp at this; omega
    have e1 : w2.cell? ⟨w.heap.size, 0, none⟩ = some (.int .i64 k) := by rw [hc2 _ _ (by omega), hc _ _ (by simp; omega)]; simp
    have e2 : w2.cell? ⟨w.heap.size + 1, 0, none⟩ = some (.int .i64 t) := by rw [hc2 _ _ (by omega), hc _ _ (by simp)]; simp
    clear hc hf hc2 hf2
    go_wp2
    go_ret
    exact ⟨ret_bool hR.out, ((((Below.refl _ _).alloc (Nat.le_refl _) _).alloc (by simp) _).trans (HB.out.mono (by simp; omega))).trans (HB2.out.mono (by omega))⟩
end Go.Proofs.YtolfeellcdoopaaDoor
