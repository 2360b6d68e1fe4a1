/-
  Layer 5: the law's alike.
-/
import Derived.Test.YtjdlicphmflnkaaT60
import Derived.Test.YtjdlicphmflnkaaT61
import Derived.Test.YtjdlicphmflnkaaT43
namespace Go.Proofs.Ytjdlicphmflnkaa.L5
open Go.ChangeShapes Go.WideShapes Go.ChangeAt Go.RowKit By Reg
set_option linter.unusedVariables false
set_option linter.unusedSimpArgs false

theorem edgeR_nil (last : Bool) : edgeR last [] = .tuple #[i64 0, i64 0, .bool false] := by cases last <;> rfl
theorem edgeR_first {L : List Th} (h : 0 < L.length) : edgeR false L = .tuple #[i64 (L.getD 0 (0, 0)).1, i64 (L.getD 0 (0, 0)).2, .bool true] := by
  cases L with
  | nil => cases h
  | cons t L => rfl
theorem edgeR_last {L : List Th} {q : Nat} (h : 0 < L.length) (hq : q = L.length - 1) : edgeR true L = .tuple #[i64 (L.getD q (0, 0)).1, i64 (L.getD q (0, 0)).2, .bool true] := by
  have e : edgeOf true L = some (L.getD q (0, 0)) := by
    show L.getLast? = _
    rw [List.getLast?_eq_getElem?, List.getD_eq_getElem?_getD, hq, List.getElem?_eq_getElem (by omega)]
    rfl
  unfold edgeR
  rw [e]

set_option maxHeartbeats 4000000 in
set_option maxRecDepth 100000 in
theorem alike_any (key : Int) (w : World) (p : Nat) (v : Value) (L : List Th) (F : Nat → Prop) (ht : TreeAt w p L F) (h : PRow w v L) (hL : L.length ≤ 30000) :
    Calls Try.prog 10 #[ptrv p, v, i64 key] w fun e w' => e = .returned (.bool true) ∧ Rb w w' := by
  have hri := ht.rise
  obtain ⟨pos, hp⟩ := PosL.exists key L
  have hget := getL_rise hri hp
  obtain ⟨n, hn⟩ : ∃ n, n = L.length := ⟨_, rfl⟩
  obtain ⟨ao, cap, hv, hnc⟩ : ∃ ao cap, v = .slice ao n cap ∧ n ≤ cap := by
    rcases h.cases' with ⟨h1, h2⟩ | ⟨g, cap, h1, h2, h3, h4⟩
    · exact ⟨none, 0, by rw [h1, hn, h2]; rfl, by rw [hn, h2]; simp⟩
    · exact ⟨_, cap, by rw [h1, hn], by omega⟩
  have CELL : Hid (∀ j, j < n → ∃ g, ao = some ⟨g, 0, none⟩ ∧ ∀ w', Rb w w' → w'.cell? ⟨g, j * 2, none⟩ = some (i64 (L.getD j (0, 0)).1) ∧ w'.cell? ⟨g, j * 2 + 1, none⟩ = some (i64 (L.getD j (0, 0)).2)) := fun j hj => by
    rcases h.cases' with ⟨_, hx⟩ | ⟨g, cap', h1, h2, h3, h4⟩
    · subst hx; simp at hn; omega
    · rw [hv] at h1
      simp only [Value.slice.injEq] at h1
      obtain ⟨rfl, -, rfl⟩ := h1
      have hk := cells2_key L j (by omega)
      have a := h4 _ _ hk.1
      have b := h4 _ _ hk.2
      exact ⟨g, rfl, fun w' hb => ⟨by rw [Below.cell hb (World.block_lt_of_cell? w _ a)]; exact a, by rw [Below.cell hb (World.block_lt_of_cell? w _ b)]; exact b⟩⟩
  subst hv
  have CA := Lib.hid (refat w _ L key pos h (by omega) hp)
  have CG : Hid (∀ w', Rb w w' → Calls Try.prog 21 #[ptrv p, i64 key] w' (GetPost key L w')) := fun w' hb => tget key w' p L F (ht.rb hb)
  have CE : Hid (∀ (last : Bool) w', Rb w w' → Calls Try.prog 26 #[ptrv p, .bool last] w' fun e w'' => e = .returned (edgeR last L) ∧ Rb w' w'') := fun last w' hb => tedge last w' p L F (ht.rb hb)
  have CN : Hid (∀ w', Rb w w' → Calls Try.prog 18 #[ptrv p] w' fun e w'' => e = .returned (i64 n) ∧ w' = w'') := fun w' hb => by rw [hn]; exact tlen w' p L F (ht.rb hb)
  have CR : Hid (∀ w', Rb w w' → Calls Try.prog 17 #[ptrv p] w' fun e w'' => e = .returned (.bool true) ∧ Dn w' w'') := fun w' hb => tright w' p L F (ht.rb hb) (by omega)
  have CD : Hid (∀ w', Rb w w' → Calls Try.prog 19 #[ptrv p] w' fun e w'' => ∃ n, e = .returned (i64 n) ∧ DeepOk L n ∧ w' = w'') := fun w' hb => tdepth w' p L F (ht.rb hb) (by omega)
  have CX : Hid (∀ w', Rb w w' → Calls Try.prog 13 #[ptrv p, .slice ao n cap, i64 (-9223372036854775808), i64 9223372036854775807] w' fun e w'' => e = .returned (.bool true) ∧ Rb w' w'') := fun w' hb => ranged_any p _ _ _ L F w' (ht.rb hb) (h.rb hb) (by omega)
  have hL3 : n ≤ 30000 := by omega
  have HN := Lib.hid hn
  have hpn : pos ≤ n := by rw [hn]; exact hp.le
  have hfp : foundL key L pos = true → pos < n := fun hf => by
    unfold foundL at hf
    rw [hn]
    exact (of_decide_eq_true hf).1
  clear h hn hri hp ht
  by_cases hn0 : n = 0
  · have hf : foundL key L pos = false := by
      cases hx : foundL key L pos
      · rfl
      · have := hfp hx
        omega
    have hLn : L = [] := List.eq_nil_of_length_eq_zero (by rw [← HN.out]; exact hn0)
    subst hLn
    subst hn0
    rw [hf] at CA hget
    simp only [Bool.false_eq_true, if_false] at hget
    have HG := Lib.hid hget
    have EF := Lib.hid (edgeR_nil false)
    have EL := Lib.hid (edgeR_nil true)
    clear hget hf hfp CELL
    go_enter Try.func10, Try.ntmps10
    go_wp2_with (go_at_call 23; refine CA.out.mono ?_)
    first | (rintro e w1 rfl hd) | (rintro e w1 ⟨rfl, hd⟩)
    have hr1 : Rb w w1 := hd.rb
    have J := CG.out w1 hr1
    unfold GetPost at J
    rw [HG.out] at J
    simp only [Option.getD_some, Option.isSome_some, Option.getD_none, Option.isSome_none] at J
    have J1 := Lib.hid J
    have R1 := Lib.hid hr1
    clear hd hr1 J CA
    go_wp2_with (go_at_call 21; refine J1.out.mono ?_)
    first | (rintro e w2 rfl hr2) | (rintro e w2 ⟨rfl, hr2⟩)
    have R2 := Lib.hid (Rb.trans _ _ _ R1.out hr2)
    have J := CE.out false w2 R2.out
    rw [EF.out] at J
    have J2 := Lib.hid J
    clear hr2 J J1
    go_wp2_with (go_at_call 26; refine J2.out.mono ?_)
    first | (rintro e w3 rfl hr3) | (rintro e w3 ⟨rfl, hr3⟩)
    have R3 := Lib.hid (Rb.trans _ _ _ R2.out hr3)
    have J := CE.out true w3 R3.out
    rw [EL.out] at J
    have J3 := Lib.hid J
    clear hr3 J J2
    go_wp2_with (go_at_call 26; refine J3.out.mono ?_)
    first | (rintro e w4 rfl hr4) | (rintro e w4 ⟨rfl, hr4⟩)
    have R4 := Lib.hid (Rb.trans _ _ _ R3.out hr4)
    have J4 := Lib.hid (CN.out w4 R4.out)
    have J5 := Lib.hid (CR.out w4 R4.out)
    clear hr4 J3
    go_wp2_with (first | (go_at_call 18; refine J4.out.mono ?_; rintro e w' ⟨rfl, rfl⟩) | (go_at_call 17; refine J5.out.mono ?_))
    first | (rintro e w5 rfl hd) | (rintro e w5 ⟨rfl, hd⟩)
    have R5 := Lib.hid (Rb.trans _ _ _ R4.out hd.rb)
    clear hd J4 J5
    have J6 := Lib.hid (CD.out w5 R5.out)
    go_wp2_with (go_at_call 19; refine J6.out.mono ?_)
    first | (rintro e w6 dn rfl hd rfl) | (rintro e w6 ⟨dn, rfl, hd, rfl⟩)
    have hd0 : dn = 0 := by
      rcases hd with ⟨_, h⟩ | ⟨d, h, h', _⟩
      · exact h
      · simp at h'
    subst hd0
    clear hd J6
    go_wp2
    go_ret
    exact ⟨rfl, R5.out⟩
  · cases hf : foundL key L pos
    · skip
      rw [hf] at CA hget
      simp only [Bool.false_eq_true, if_false] at hget
      have HG := Lib.hid hget
      obtain ⟨q, hq⟩ : ∃ q, q = n - 1 := ⟨_, rfl⟩
      have hqn : q < n := by omega
      have hw1 : IntKind.i64.wrap ((n : Int) - 1) = (q : Int) := by rw [IntKind.wrap_i64]; omega
      have hw2 : (n : Int) - 1 = (q : Int) := by omega
      have hn1 : (0 : Int) < (n : Int) := by omega
      have hn2 : 0 < n := by omega
      have EF := Lib.hid (edgeR_first (L := L) (by rw [← HN.out]; omega))
      have EL := Lib.hid (edgeR_last (L := L) (q := q) (by rw [← HN.out]; omega) (by rw [← HN.out]; exact hq))
      obtain ⟨g, rfl, cz⟩ := CELL.out 0 hn2
      obtain ⟨g', eg, cq⟩ := CELL.out q hqn
      cases eg
      generalize (L.getD 0 (0, 0)).1 = k0 at cz EF
      generalize (L.getD 0 (0, 0)).2 = v0 at cz EF
      generalize (L.getD q (0, 0)).1 = k1 at cq EL
      generalize (L.getD q (0, 0)).2 = v1 at cq EL
      have HCZ := Lib.hid cz
      have HCQ := Lib.hid cq
      clear cz cq hq
      clear hget hf hfp CELL
      go_enter Try.func10, Try.ntmps10
      go_wp2_with (go_at_call 23; refine CA.out.mono ?_)
      first | (rintro e w1 rfl hd) | (rintro e w1 ⟨rfl, hd⟩)
      have hr1 : Rb w w1 := hd.rb
      have J := CG.out w1 hr1
      unfold GetPost at J
      rw [HG.out] at J
      simp only [Option.getD_some, Option.isSome_some, Option.getD_none, Option.isSome_none] at J
      have J1 := Lib.hid J
      have R1 := Lib.hid hr1
      clear hd hr1 J CA
      go_wp2_with (go_at_call 21; refine J1.out.mono ?_)
      first | (rintro e w2 rfl hr2) | (rintro e w2 ⟨rfl, hr2⟩)
      have R2 := Lib.hid (Rb.trans _ _ _ R1.out hr2)
      have J := CE.out false w2 R2.out
      rw [EF.out] at J
      have J2 := Lib.hid J
      clear hr2 J J1
      go_wp2_with (go_at_call 26; refine J2.out.mono ?_)
      first | (rintro e w3 rfl hr3) | (rintro e w3 ⟨rfl, hr3⟩)
      have R3 := Lib.hid (Rb.trans _ _ _ R2.out hr3)
      have J := CE.out true w3 R3.out
      rw [EL.out] at J
      have J3 := Lib.hid J
      clear hr3 J J2
      go_wp2_with (go_at_call 26; refine J3.out.mono ?_)
      first | (rintro e w4 rfl hr4) | (rintro e w4 ⟨rfl, hr4⟩)
      have R4 := Lib.hid (Rb.trans _ _ _ R3.out hr4)
      have J4 := Lib.hid (CN.out w4 R4.out)
      have J5 := Lib.hid (CR.out w4 R4.out)
      clear hr4 J3
      go_wp2_with (first | (go_at_call 18; refine J4.out.mono ?_; rintro e w' ⟨rfl, rfl⟩) | (go_at_call 17; refine J5.out.mono ?_))
      first | (rintro e w5 rfl hd) | (rintro e w5 ⟨rfl, hd⟩)
      have R5 := Lib.hid (Rb.trans _ _ _ R4.out hd.rb)
      clear hd J4 J5
      obtain ⟨a0, a1⟩ := HCZ.out w5 R5.out
      obtain ⟨b0, b1⟩ := HCQ.out w5 R5.out
      simp only [Nat.zero_mul, Nat.zero_add] at a0 a1
      have hlt := World.block_lt_of_cell? w5 _ a0
      have hw6 : Rb w (w5.alloc (.cells #[i64 k1, i64 v1] 47)) := Rb.trans _ _ _ R5.out ((Below.refl _ w5).alloc (Nat.le_refl _) _)
      have J6 := Lib.hid (CX.out _ hw6)
      have R6 := Lib.hid hw6
      clear hw6
      go_wp2_with (go_at_call 13; refine J6.out.mono ?_)
      first | (rintro e w7 rfl hr7) | (rintro e w7 ⟨rfl, hr7⟩)
      have R7 := Lib.hid (Rb.trans _ _ _ R6.out hr7)
      clear hr7 a0 a1 b0 b1 hlt J6
      go_wp2
      go_ret
      exact ⟨rfl, R7.out⟩
    · skip
      rw [hf] at CA hget
      simp only [if_true] at hget
      have hpl := hfp hf
      have HG := Lib.hid hget
      obtain ⟨q, hq⟩ : ∃ q, q = n - 1 := ⟨_, rfl⟩
      have hqn : q < n := by omega
      have hw1 : IntKind.i64.wrap ((n : Int) - 1) = (q : Int) := by rw [IntKind.wrap_i64]; omega
      have hw2 : (n : Int) - 1 = (q : Int) := by omega
      have hn1 : (0 : Int) < (n : Int) := by omega
      have hn2 : 0 < n := by omega
      have EF := Lib.hid (edgeR_first (L := L) (by rw [← HN.out]; omega))
      have EL := Lib.hid (edgeR_last (L := L) (q := q) (by rw [← HN.out]; omega) (by rw [← HN.out]; exact hq))
      obtain ⟨g, rfl, cz⟩ := CELL.out 0 hn2
      obtain ⟨g', eg, cq⟩ := CELL.out q hqn
      cases eg
      obtain ⟨g', eg, cp⟩ := CELL.out pos hpl
      cases eg
      generalize (L.getD pos (0, 0)).1 = zk at cp
      obtain ⟨z, hz⟩ : ∃ z, z = (L.getD pos (0, 0)).2 := ⟨_, rfl⟩
      rw [← hz] at cp HG
      have HCP := Lib.hid cp
      clear cp hz
      generalize (L.getD 0 (0, 0)).1 = k0 at cz EF
      generalize (L.getD 0 (0, 0)).2 = v0 at cz EF
      generalize (L.getD q (0, 0)).1 = k1 at cq EL
      generalize (L.getD q (0, 0)).2 = v1 at cq EL
      have HCZ := Lib.hid cz
      have HCQ := Lib.hid cq
      clear cz cq hq
      clear hget hf hfp CELL
      go_enter Try.func10, Try.ntmps10
      go_wp2_with (go_at_call 23; refine CA.out.mono ?_)
      first | (rintro e w1 rfl hd) | (rintro e w1 ⟨rfl, hd⟩)
      have hr1 : Rb w w1 := hd.rb
      have J := CG.out w1 hr1
      unfold GetPost at J
      rw [HG.out] at J
      simp only [Option.getD_some, Option.isSome_some, Option.getD_none, Option.isSome_none] at J
      have J1 := Lib.hid J
      have R1 := Lib.hid hr1
      clear hd hr1 J CA
      go_wp2_with (go_at_call 21; refine J1.out.mono ?_)
      first | (rintro e w2 rfl hr2) | (rintro e w2 ⟨rfl, hr2⟩)
      have R2 := Lib.hid (Rb.trans _ _ _ R1.out hr2)
      have J := CE.out false w2 R2.out
      rw [EF.out] at J
      have J2 := Lib.hid J
      clear hr2 J J1
      go_wp2_with (go_at_call 26; refine J2.out.mono ?_)
      first | (rintro e w3 rfl hr3) | (rintro e w3 ⟨rfl, hr3⟩)
      have R3 := Lib.hid (Rb.trans _ _ _ R2.out hr3)
      have J := CE.out true w3 R3.out
      rw [EL.out] at J
      have J3 := Lib.hid J
      clear hr3 J J2
      go_wp2_with (go_at_call 26; refine J3.out.mono ?_)
      first | (rintro e w4 rfl hr4) | (rintro e w4 ⟨rfl, hr4⟩)
      have R4 := Lib.hid (Rb.trans _ _ _ R3.out hr4)
      have J4 := Lib.hid (CN.out w4 R4.out)
      have J5 := Lib.hid (CR.out w4 R4.out)
      clear hr4 J3
      go_wp2_with (first | (go_at_call 18; refine J4.out.mono ?_; rintro e w' ⟨rfl, rfl⟩) | (go_at_call 17; refine J5.out.mono ?_))
      first | (rintro e w5 rfl hd) | (rintro e w5 ⟨rfl, hd⟩)
      have R5 := Lib.hid (Rb.trans _ _ _ R4.out hd.rb)
      clear hd J4 J5
      obtain ⟨a0, a1⟩ := HCZ.out w5 R5.out
      obtain ⟨b0, b1⟩ := HCQ.out w5 R5.out
      simp only [Nat.zero_mul, Nat.zero_add] at a0 a1
      obtain ⟨d0, d1⟩ := HCP.out w5 R5.out
      have hlt := World.block_lt_of_cell? w5 _ a0
      have hw6 : Rb w (w5.alloc (.cells #[i64 k1, i64 v1] 47)) := Rb.trans _ _ _ R5.out ((Below.refl _ w5).alloc (Nat.le_refl _) _)
      have J6 := Lib.hid (CX.out _ hw6)
      have R6 := Lib.hid hw6
      clear hw6
      go_wp2_with (go_at_call 13; refine J6.out.mono ?_)
      first | (rintro e w7 rfl hr7) | (rintro e w7 ⟨rfl, hr7⟩)
      have R7 := Lib.hid (Rb.trans _ _ _ R6.out hr7)
      clear hr7 a0 a1 b0 b1 hlt J6
      go_wp2
      go_ret
      exact ⟨rfl, R7.out⟩
end Go.Proofs.Ytjdlicphmflnkaa.L5
