/-
  Layer 5: TreeParts.
-/
import Derived.Test.YtjdlicphmflnkaaT39
import Derived.Test.YtjdlicphmflnkaaT33
namespace Go.Proofs.Ytjdlicphmflnkaa.L5
open Go.ChangeShapes Go.WideShapes Go.ChangeAt Go.RowKit By Reg
set_option linter.unusedVariables false

theorem filt_split {lo mid hi : Int} (h1 : lo ≤ mid) (h2 : mid ≤ hi) : ∀ L : List Th, (filt lo hi L).length = (filt lo mid L).length + (filt (mid + 1) hi L).length
  | [] => rfl
  | t :: L => by
    have ih := filt_split h1 h2 L
    unfold filt at ih ⊢
    by_cases a : inR lo mid t = true
    · have b : inR lo hi t = true := by unfold inR at a ⊢; simp at a ⊢; omega
      have c : ¬ inR (mid + 1) hi t = true := by unfold inR at a ⊢; simp at a ⊢; omega
      rw [List.filter_cons_of_pos a, List.filter_cons_of_pos b, List.filter_cons_of_neg c, List.length_cons, List.length_cons]
      omega
    · by_cases c : inR (mid + 1) hi t = true
      · have b : inR lo hi t = true := by unfold inR at c ⊢; simp at c ⊢; omega
        rw [List.filter_cons_of_neg a, List.filter_cons_of_pos b, List.filter_cons_of_pos c, List.length_cons, List.length_cons]
        omega
      · have b : ¬ inR lo hi t = true := by unfold inR at a c ⊢; simp at a c ⊢; omega
        rw [List.filter_cons_of_neg a, List.filter_cons_of_neg b, List.filter_cons_of_neg c]
        omega
theorem filt_none {lo hi : Int} (h : hi < lo) (L : List Th) : filt lo hi L = [] := List.filter_eq_nil_iff.2 fun t _ => by
  unfold inR; simp; omega

theorem Sl.take {w : World} {ao : Option Addr} {len cap : Nat} {xs : List Value} (h : Sl w (.slice ao len cap) xs) {m : Nat} (hm : m ≤ len) : Sl w (.slice ao m cap) (xs.take m) := by
  obtain ⟨ao', cap', e, h2, h3, h4, h5⟩ := h
  simp only [Value.slice.injEq] at e
  obtain ⟨rfl, rfl, rfl⟩ := e
  refine ⟨ao, cap, by rw [List.length_take, Nat.min_eq_left hm], by rw [List.length_take]; omega, h3, h4, fun ad ha j u hu => ?_⟩
  rw [List.getElem?_take] at hu
  split at hu
  · exact h5 ad ha j u hu
  · cases hu

set_option maxHeartbeats 4000000 in
set_option maxRecDepth 100000 in
theorem parts_walk (w : World) (v : Value) (ks : List Int) (h : Sl w v (ks.map i64)) (e0 e1 e2 : Int) (b1 : -9223372036854775808 ≤ e1) (q0 : e0 ≤ 9223372036854775807) (q1 : e1 ≤ 9223372036854775807) (q2 : e2 ≤ 9223372036854775807) :
    Calls Try.prog 8 #[v, .agg #[i64 e0, i64 e1, i64 e2]] w fun e w' => e = .returned (.bool true) ∧ Below w.heap.size w w' := by
  obtain ⟨ao, cap, rfl, hcap, hcell⟩ := h.form
  obtain ⟨n, hn⟩ : ∃ n, n = ks.length := ⟨_, rfl⟩
  go_enter Try.func8, Try.ntmps8
  go_upto_region 2 with fail
  have c0 : ∀ i : Nat, (w.alloc (Obj.cells #[i64 e0, i64 e1, i64 e2] 54)).drew.cell? ⟨w.heap.size, i, none⟩ = [i64 e0, i64 e1, i64 e2][i]? := fun i => by
    have := (Blk.new w 54 [i64 e0, i64 e1, i64 e2]).cell i
    exact this
  have c00 := c0 0
  have c01 := c0 1
  have c02 := c0 2
  simp only [List.getElem?_cons_zero, List.getElem?_cons_succ] at c00 c01 c02
  clear c0
  have mixed : Try.prog.follows Departure.mixedOrders = true := by kernel_rfl
  have HS := Lib.hid h
  have HN := Lib.hid hn
  obtain ⟨m, hm⟩ : ∃ m : Nat, m = (min (↑ks.length) 200 : Int).toNat := ⟨_, rfl⟩
  rw [← hm]
  have hml : m ≤ ks.length ∧ m ≤ 200 := by omega
  have HML := Lib.hid hml
  clear hml hm hn hcell h hcap
  go_cut [5, 6, 7] from 17 (fun s5 s6 s7 wr => ∃ lo hi : Int, s5 = i64 lo ∧ s6 = i64 e1 ∧ s7 = i64 hi ∧ Hid (lo ≤ e1 ∧ e1 ≤ hi ∧ hi ≤ 9223372036854775807 ∧ Rb w wr))
  · rename_i J K' hJ hK
    go_region
    all_goals
      refine hK _ _ (Met.intro (hJ _ _ ?_))
      repeat apply Exists.intro
      refine ⟨?_, rfl⟩
      refine ⟨_, _, rfl, rfl, rfl, ?_, ?_, ?_, ?_⟩
      · (repeat' split) <;> omega
      · (repeat' split) <;> omega
      · (repeat' split) <;> omega
      · exact ((Below.refl _ w).alloc (Nat.le_refl _) _).drew
  · obtain ⟨lo, hi, rfl, rfl, rfl, hc⟩ := hcut
    obtain ⟨h1, h2, hq, hr⟩ := hc.out
    have HQ := Lib.hid hq
    have HB1 := Lib.hid b1
    clear q0 q1 q2 b1 hq
    have hmin : min e1 hi = e1 := by omega
    have hmax : max lo e1 = e1 := by omega
    have hsl : Sl wc (.slice ao m cap) ((ks.take m).map i64) := by
      have := (HS.out.rb hr).take (m := m) HML.out.1
      rwa [← List.map_take] at this
    have CM := Lib.hid (made_any wc _ _ hsl)
    have H12 : Hid (lo ≤ e1 ∧ e1 ≤ hi ∧ Rb w wc) := ⟨h1, h2, hr⟩
    clear hsl hc h1 h2 hr c00 c01 c02
    go_upto_region 5 with (go_at_call 12; refine CM.out.mono ?_)
    first | (rintro e w1 p vl F rfl hm) | (rintro e w1 ⟨p, vl, F, rfl, hm⟩)
    obtain ⟨L, hL⟩ : ∃ L, L = madeL (ks.take m) := ⟨_, rfl⟩
    have hL3 : L.length ≤ 300 := by rw [hL]; exact madeL_le _
    rw [← hL] at hm
    have CT : ∀ (a b : Int) w', Rb w1 w' → Hid (Calls Try.prog 22 #[ptrv p, i64 a, i64 b] w' fun e w'' => e = .returned (i64 (filt a b L).length) ∧ Rb w' w'') := fun a b w' hr => told_any p a b L F w' (hm.tree.rb hr) (by omega)
    have T1 := CT lo hi w1 (Rb.refl _)
    have R1 := Lib.hid (Rb.trans _ _ _ H12.out.2.2 hm.rb)
    have SP := Lib.hid (filt_split H12.out.1 H12.out.2.1 L)
    have hfl1 := filt_le lo hi L
    have hfl2 := filt_le lo e1 L
    have hfl3 := filt_le (e1 + 1) hi L
    have SN : Hid (¬ e1 < hi → (filt (e1 + 1) hi L).length = 0) := fun h => by rw [filt_none (by omega)]; rfl
    obtain ⟨n1, hn1⟩ : ∃ n, n = (filt lo hi L).length := ⟨_, rfl⟩
    obtain ⟨n2, hn2⟩ : ∃ n, n = (filt lo e1 L).length := ⟨_, rfl⟩
    obtain ⟨n3, hn3⟩ : ∃ n, n = (filt (e1 + 1) hi L).length := ⟨_, rfl⟩
    rw [← hn1, ← hn2, ← hn3] at SP
    rw [← hn3] at SN
    rw [← hn1] at T1 hfl1
    rw [← hn2] at hfl2
    rw [← hn3] at hfl3
    have N1 := Lib.hid hn1
    have N2 := Lib.hid hn2
    have N3 := Lib.hid hn3
    clear hm CM hmin hmax hL hn1 hn2 hn3
    go_upto_region 6 with (go_at_call 22; go_must (refine T1.out.mono ?_); rintro e w2 ⟨rfl, hr2⟩)
    have T2 := CT lo e1 w2 hr2
    rw [← N2.out] at T2
    go_upto_region 7 with (go_at_call 22; go_must (refine T2.out.mono ?_); rintro e w3 ⟨rfl, hr3⟩)
    have T3 := CT (e1 + 1) hi w3 (Rb.trans _ _ _ hr2 hr3)
    rw [← N3.out] at T3
    have HB : Hid (Rb w w3) := Rb.trans _ _ _ R1.out (Rb.trans _ _ _ hr2 hr3)
    clear CT T1 T2 hr2 hr3 N1 N2 N3
    have NB : n1 ≤ 300 ∧ n2 ≤ 300 ∧ n3 ≤ 300 := by omega
    obtain ⟨nb1, nb2, nb3⟩ := NB
    clear hL3 hfl1 hfl2 hfl3
    by_cases hlt : e1 < hi
    · have HW : Hid (wrap64 (n1 : Int) = (n1 : Int)) := by show wrap64 (n1 : Int) = (n1 : Int); unfold wrap64; omega
      have hnn : (n2 : Int) + n3 = (n1 : Int) := by have := SP.out; omega
      clear nb1 nb2 nb3 SP SN
      have hw1 : IntKind.i64.wrap (e1 + 1) = e1 + 1 := by have := HQ.out; have := HB1.out; rw [IntKind.wrap_i64]; omega
      go_upto_region 9 with (go_at_call 22; go_must (refine T3.out.mono ?_); rintro e w4 ⟨rfl, hr4⟩)
      have HB4 : Hid (Rb w w4) := Rb.trans _ _ _ HB.out hr4
      clear T3 hr4 hw1 hnn
      rw [HW.out]
      go_wp2_with (go_at_call 11; refine (lives_any _).mono ?_; rintro e w5 ⟨rfl, hr5⟩)
      go_ret
      exact ⟨rfl, Rb.trans _ _ _ HB4.out hr5⟩
    · have hnn : n2 = n1 := by have := SP.out; have := SN.out (by omega); omega
      subst hnn
      clear nb1 nb3 SP SN
      go_wp2_with (go_at_call 11; refine (lives_any _).mono ?_; rintro e w4 ⟨rfl, hr4⟩)
      go_ret
      exact ⟨rfl, Rb.trans _ _ _ HB.out hr4⟩
end Go.Proofs.Ytjdlicphmflnkaa.L5
