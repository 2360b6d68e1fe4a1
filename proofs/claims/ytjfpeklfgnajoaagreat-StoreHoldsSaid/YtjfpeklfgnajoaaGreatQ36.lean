/-
  Layer 7: StoreHolds.
-/
import Derived.Test.YtjfpeklfgnajoaaGreatQ35
import Derived.Test.YtjfpeklfgnajoaaGreatQ32
namespace Go.Proofs.YtjfpeklfgnajoaaGreat.L6
open Go.ChangeShapes Go.WideShapes Go.ChangeAt Go.RowKit By Reg Val
set_option linter.unusedVariables false
set_option linter.unusedSimpArgs false

theorem row_blk {w : World} {e : TypeId} {g n : Nat} {xs : List Value} (h : Row w e (.slice (some ⟨g, 0, none⟩) n n) xs) : Blk w g e xs := by
  rcases h.2 with ⟨h1, _⟩ | ⟨g', cap, cur, h1, h2, h3, h4, h5, h6, h7⟩
  · cases h1
  · simp only [Value.slice.injEq, Option.some.injEq, Addr.mk.injEq] at h1
    obtain ⟨⟨rfl, -, -⟩, rfl, rfl⟩ := h1
    have h8 := h.1
    rw [List.take_of_length_le (by rw [Array.length_toList]; omega)] at h7
    unfold Blk
    rw [h3, ← h7]
theorem blk_row {w : World} {e : TypeId} {g n : Nat} {xs : List Value} (h : Blk w g e xs) (hn : n = xs.length) (hm : n ≤ maxLen) : Row w e (.slice (some ⟨g, 0, none⟩) n n) xs := by
  refine ⟨by simp, .inr ⟨g, n, xs.toArray, by rw [hn], Nat.zero_le _, h, by omega, hm, by simp; omega, by simp⟩⟩
/-- the first i are reckoned -/
def needL (f : Nat → Int) (n i : Nat) : List Value := (List.range n).map fun j => i64 (if j < i then f j else 0)
theorem needL_zero (f : Nat → Int) (n : Nat) : needL f n 0 = List.replicate n (i64 0) := by
  apply List.ext_getElem (by simp [needL])
  intro j h1 h2
  simp [needL]
theorem needL_step (f : Nat → Int) (n i : Nat) (hi : i < n) : (needL f n i).set i (i64 (f i)) = needL f n (i + 1) := by
  apply List.ext_getElem (by simp [needL])
  intro j h1 h2
  by_cases e : i = j
  · subst e
    rw [List.getElem_set_self]
    simp [needL]
  · rw [List.getElem_set_ne e]
    simp only [needL, List.getElem_map, List.getElem_range]
    by_cases h : j < i
    · rw [if_pos h, if_pos (by omega)]
    · rw [if_neg h, if_neg (by omega)]
theorem needL_all (f : Nat → Int) (n : Nat) : needL f n n = ((List.range n).map f).map i64 := by
  rw [List.map_map]
  refine List.map_congr_left fun j hj => ?_
  rw [if_pos (List.mem_range.1 hj)]
  rfl
theorem blk_setI {w : World} {g : Nat} {T : TypeId} {cs : List Value} (h : Blk w g T cs) (i : Nat) (hi : i < cs.length) (x : Value) : Blk (w.setCell ⟨g, i, none⟩ x) g T (cs.set i x) ∧ Wrote g w (w.setCell ⟨g, i, none⟩ x) := by
  have h1 := blk_setCells g T [x] i w cs h (by simp; omega)
  refine ⟨?_, by simpa [World.setCells] using h1.2⟩
  have h2 := h1.1
  rw [splice_eq] at h2
  simp only [World.setCells] at h2
  rw [List.set_eq_take_append_cons_drop, if_pos hi]
  simpa using h2

set_option maxRecDepth 100000 in
set_option maxHeartbeats 4000000 in
theorem holds_walk (L : List TabD) (lv : Value) (nn : Int) (ov : Value) (ops : List OpD) (w : World) (hT : Tabs w lv L) (hok : ∀ t ∈ L, TabOk t) (hn : 0 ≤ nn ∧ nn ≤ 18446744073709551615) (hO : RowN opE 9 w ov ops) (hoo : ∀ o ∈ ops, OpOk o) :
    Calls Tryz.prog 5 #[lv, .int .u64 nn, ov] w fun e w' => e = .returned (.bool true) ∧ Rb w w' := by
  obtain ⟨ao, cap, hov, p1, p2, _⟩ := id hO
  obtain ⟨⟨al, capl, hlv, q1, q2, _⟩, _⟩ := id hT
  obtain ⟨n, hnl⟩ : ∃ n, n = L.length := ⟨_, rfl⟩
  have HN := Lib.hid hnl
  rw [← hnl] at hlv q1
  obtain ⟨m, hm⟩ : ∃ m, m = ops.length := ⟨_, rfl⟩
  rw [← hm] at hov p1
  subst hov
  obtain ⟨m', hm'⟩ : ∃ m', m' = min m 40 := ⟨_, rfl⟩
  have hm1 : m' ≤ m := by omega
  have hm2 : m' ≤ 40 := by omega
  have hmi : (if (m : Int) ≤ 40 then (m : Int) else 40) = (m' : Int) := by split <;> omega
  have hmi2 : min (m : Int) 40 = (m' : Int) := by omega
  have HO := Lib.hid (hO.take m' (by omega))
  have HOO : Hid (∀ o ∈ ops.take m', OpOk o) := fun o ho => hoo o (List.mem_of_mem_take ho)
  have HT := Lib.hid hT
  have HOK := Lib.hid hok
  obtain ⟨ops', hops⟩ : ∃ o, o = ops.take m' := ⟨_, rfl⟩
  have hol : ops'.length = m' := by rw [hops, List.length_take]; omega
  rw [← hops] at HO HOO
  have HOL := Lib.hid hol
  have CN := Lib.hid (new_any L lv w hT hok)
  have CT := Lib.hid (fun w' (hb : Rb w w') => tables_any L lv w' (hT.rb hb) hok)
  have CLV := Lib.hid lives_any
  unfold maxLen at p2
  clear hO hoo hT hok hm hops hol hm' hnl
  subst hlv
  go_enter Tryz.func5, Tryz.ntmps5
  go_wp2_with fail
  refine CN.out.mono ?_
  rintro e w1 (⟨hbad, rfl, hb⟩ | ⟨hgood, st, v, sh0, rfl, hS, hsl⟩)
  · have HB := Lib.hid hb
    have C1 := CT.out w1 hb
    have HC1 := Lib.hid C1
    clear hb C1 hbad
    go_wp2_with fail
    refine HC1.out.mono ?_
    rintro e w2 ⟨⟨b, rfl⟩, hb2⟩
    have HB2 := Lib.hid (Rb.trans _ _ _ HB.out hb2)
    clear hb2
    cases b
    · go_wp2_with fail
      refine (CLV.out _).mono ?_
      rintro e w3 ⟨rfl, hb3⟩
      have HB3 := Lib.hid (Rb.trans _ _ _ HB2.out hb3)
      clear hb3
      go_wp2_with fail
      go_ret
      exact ⟨rfl, HB3.out⟩
    · go_wp2_with fail
      refine (CLV.out _).mono ?_
      rintro e w3 ⟨rfl, hb3⟩
      have HB3 := Lib.hid (Rb.trans _ _ _ HB2.out hb3)
      clear hb3
      go_wp2_with fail
      go_ret
      exact ⟨rfl, HB3.out⟩
  · have C1 := CT.out w1 hS.rb
    have HC1 := Lib.hid C1
    have HS := Lib.hid (And.intro hS (And.intro hsl hgood))
    clear C1 hS hsl hgood
    go_wp2_with fail
    refine HC1.out.mono ?_
    rintro e w2 ⟨⟨b, rfl⟩, hb2⟩
    have HB2 := Lib.hid hb2
    clear hb2
    cases b
    · go_wp2_with fail
      refine (CLV.out _).mono ?_
      rintro e w3 ⟨rfl, hb3⟩
      have HB3 := Lib.hid (Rb.trans _ _ _ HS.out.1.rb (Rb.trans _ _ _ HB2.out hb3))
      clear hb3
      go_wp2_with fail
      go_ret
      exact ⟨rfl, HB3.out⟩
    · by_cases hn0 : n = 0
      · subst hn0
        go_wp2_with fail
        refine (CLV.out _).mono ?_
        rintro e w3 ⟨rfl, hb3⟩
        have HB3 := Lib.hid (Rb.trans _ _ _ HS.out.1.rb (Rb.trans _ _ _ HB2.out hb3))
        clear hb3
        go_wp2_with fail
        go_ret
        exact ⟨rfl, HB3.out⟩
      · have hT2 := HT.out.rb (Rb.trans _ _ _ HS.out.1.rb HB2.out)
        have h0L : 0 < L.length := by rw [← HN.out]; omega
        obtain ⟨bL, oL, cL, y, c0, c1, c2⟩ := row3_at hT2.1 0 h0L
        simp only [Value.slice.injEq] at y
        obtain ⟨rfl, -, -⟩ := y
        obtain ⟨hL8, htab⟩ := checkD_ok HS.out.2.2
        obtain ⟨t0, ht0⟩ : ∃ t0, t0 = L[0] := ⟨_, rfl⟩
        rw [← ht0] at c0 c1 c2
        obtain ⟨⟨r1, r2⟩, _⟩ := htab t0 (by rw [ht0]; exact List.getElem_mem _)
        have HT0 := Lib.hid ht0
        simp only [Nat.zero_mul, Nat.add_zero] at c0 c1 c2
        obtain ⟨rw0, hrw0⟩ : ∃ r, r = t0.rows := ⟨_, rfl⟩
        rw [← hrw0] at c1 r1 r2
        have HRW0 := Lib.hid hrw0
        have hn8 : n ≤ 8 := by rw [HN.out]; exact hL8
        clear htab ht0 hrw0 hT2
        have hnz : (n : Int) ≠ 0 := by omega
        have u1 : IntKind.u64.wrap (rw0 + 1) = rw0 + 1 := by simp [IntKind.wrap, IntKind.bits, IntKind.signed]; omega
        obtain ⟨kN, hkN⟩ : ∃ kN : Nat, nn % (rw0 + 1) = kN := ⟨(nn % (rw0 + 1)).toNat, by have := Int.emod_nonneg nn (b := rw0 + 1) (by omega); omega⟩
        have hkr : (kN : Int) ≤ rw0 := by have := Int.emod_lt_of_pos nn (b := rw0 + 1) (by omega); omega
        have u2 : wrap64 (nn % (rw0 + 1)) = (kN : Int) := by rw [hkN]; unfold wrap64; omega
        obtain ⟨W3, hW3⟩ : ∃ W3, W3 = w2.alloc (.cells #[.int .i64 (kN : Int)] 3) := ⟨_, rfl⟩
        have r3 : Rb w2 W3 := by rw [hW3]; exact (Below.refl _ w2).alloc (Nat.le_refl _) _
        have b3 : Blk W3 w2.heap.size 3 [i64 (kN : Int)] := by rw [hW3]; exact Blk.new w2 _ [_]
        have R3 : Row W3 3 (.slice (some ⟨w2.heap.size, 0, none⟩) 1 1) ([(kN : Int)].map i64) := ⟨rfl, .inr ⟨w2.heap.size, 1, #[i64 (kN : Int)], rfl, Nat.zero_le _, b3, Nat.le_refl _, by decide, rfl, rfl⟩⟩
        have S3 := HS.out.1.sto.rb (Rb.trans _ _ _ HB2.out r3)
        have hsm : ∀ s ∈ sh0, SmallS s := fun s hs => by
          obtain ⟨j, hj, rfl⟩ := List.getElem_of_mem hs
          obtain ⟨⟨a1, a2, a3⟩, a4, a5⟩ := HS.out.1.at_ j hj (by have := HS.out.2.1; omega)
          obtain ⟨⟨z1, z2⟩, _⟩ := (checkD_ok HS.out.2.2).2 (L[j]'(by have := HS.out.2.1; omega)) (List.getElem_mem _)
          exact ⟨by rw [a2]; exact z1, by rw [a2]; exact z2, by rw [a4]; simp, by rw [a5]; decide, by rw [a5]; decide⟩
        have hcan : canNeed sh0 [(kN : Int)] 1 := fun i hi => by
          have e0 : i = 0 := by omega
          subst e0
          have hl0 : 0 < sh0.length := by have := HS.out.2.1; omega
          obtain ⟨⟨a1, a2, a3⟩, a4, a5⟩ := HS.out.1.at_ 0 hl0 h0L
          have hsh : shOf sh0 ((0 : Nat) : Int) = some sh0[0] := by unfold shOf; simp; try omega
          unfold freeSh
          rw [hsh]
          show (kN : Int) ≤ max _ _
          rw [a2, a4, a5, ← HT0.out, ← HRW0.out]
          show (kN : Int) ≤ max (rw0 - ((0 : Nat) : Int) - 0) 0
          omega
        have C2 := claim_any W3 st v _ sh0 [(kN : Int)] S3 R3 (fun hbad => by
          have h9 := HS.out.2.1
          rcases hbad with h | h
          · simp only [List.length_singleton] at h; omega
          · simp at h; omega) hsm (by have := HS.out.2.1; omega) (fun x hx => by simp only [List.mem_singleton] at hx; subst hx; omega)
        have HC2 := Lib.hid C2
        have HCAN := Lib.hid hcan
        have HW3 := Lib.hid (And.intro hW3 r3)
        clear C2 hcan hsm S3 R3 b3 r3 hW3 hkN CT HC1
        go_wp2_with (rw [← HW3.out.1])
        refine HC2.out.mono ?_
        rintro e w4 (⟨hno, _⟩ | ⟨_, sh1, c, rfl, hP⟩)
        · exact absurd HCAN.out hno
        · have I1 : In w w4 v sh1 c := In.claim (Rb.trans _ _ _ HS.out.1.rb (Rb.trans _ _ _ HB2.out HW3.out.2)) HS.out.1.news hP
          obtain ⟨W5, z1, z2, z3, z4⟩ := run_zeros w4 n (by omega)
          have HZ := Lib.hid (And.intro z2 (And.intro z3 z4))
          have H1 := Lib.hid (And.intro I1 hP)
          clear z2 z3 z4 I1 hP HC2
          obtain ⟨g, hg⟩ : ∃ g, g = w4.heap.size := ⟨_, rfl⟩
          have HG := Lib.hid hg
          rw [← hg] at z1
          have A0 : Hid (Rb w4 W5 ∧ Blk W5 g 3 (needL (fun j => freeSh sh1 j) n 0)) := ⟨HZ.out.2.1, by rw [needL_zero, hg]; exact row_blk HZ.out.1⟩
          have hsm1 : ∀ s ∈ sh1, SmallS s := fun s hs => by
            obtain ⟨j, hj, rfl⟩ := List.getElem_of_mem hs
            have hlj := H1.out.2.len
            have hl0 := HS.out.2.1
            obtain ⟨b1, b2, b3, b4⟩ := H1.out.2.at_ j (by omega) hj
            obtain ⟨⟨a1, a2, a3⟩, a4, a5⟩ := HS.out.1.at_ j (by omega) (by omega)
            obtain ⟨⟨y1, y2⟩, _⟩ := (checkD_ok HS.out.2.2).2 (L[j]'(by omega)) (List.getElem_mem _)
            have hk2 : 0 ≤ [(kN : Int)].getD j 0 ∧ [(kN : Int)].getD j 0 ≤ 64 := by
              cases j with
              | zero => show (0 : Int) ≤ kN ∧ (kN : Int) ≤ 64; omega
              | succ j => show (0 : Int) ≤ 0 ∧ (0 : Int) ≤ 64; omega
            exact ⟨by rw [b2, a2]; exact y1, by rw [b2, a2]; exact y2, by rw [b3, a4]; simp, by rw [b4, a5]; omega, by rw [b4, a5]; omega⟩
          have HSM := Lib.hid hsm1
          clear hg hsm1
          go_wp2_with fail
          go_loopw [68] (fun p wr => ∃ (i : Nat), p = .int .i64 i ∧ i ≤ n ∧ Hid (Rb w4 wr ∧ Blk wr g 3 (needL (fun j => freeSh sh1 j) n i))) (fun p _ => n - (intOf p).toNat)
          case atStart => exact ⟨0, rfl, Nat.zero_le _, A0⟩
          case round =>
            obtain ⟨i, rfl, hin, hr⟩ := hrel
            by_cases hlt : i < n
            · have C := free_any wr c.st v sh1 i (H1.out.1.duo.st.rb hr.out.1) HSM.out
              rw [H1.out.2.st] at C
              obtain ⟨y, hy⟩ : ∃ y, y = freeSh sh1 i := ⟨_, rfl⟩
              rw [← hy] at C
              have HC := Lib.hid C
              have HY := Lib.hid hy
              clear C hy z1
              go_wp2_with fail
              refine HC.out.mono ?_
              rintro e w6 ⟨rfl, hb6⟩
              have hbk := hr.out.2.rb hb6
              have hci := hbk.cell i
              have hlen : i < (needL (fun j => freeSh sh1 j) n i).length := by simp [needL]; exact hlt
              rw [List.getElem?_eq_getElem hlen] at hci
              obtain ⟨zz, hci'⟩ : ∃ zz, w6.cell? ⟨g, i, none⟩ = some zz := ⟨_, hci⟩
              clear hci
              have hfi : w6.frozen? ⟨g, i, none⟩ = false := by
                have h0 := hbk
                unfold Blk at h0
                simp [World.frozen?, h0]
              obtain ⟨s1, s2⟩ := blk_setI hbk i hlen (i64 y)
              have H3 : Hid (Rb w4 (w6.setCell ⟨g, i, none⟩ (i64 y)) ∧ Blk (w6.setCell ⟨g, i, none⟩ (i64 y)) g 3 (needL (fun j => freeSh sh1 j) n (i + 1))) := by
                refine ⟨?_, ?_⟩
                · have := (Fr.of_rb (F := fun _ => False) (Rb.trans _ _ _ hr.out.1 hb6)).wrote s2 (.inr (by rw [HG.out]; exact Nat.le_refl _))
                  exact this.rb fun k hk => hk.elim
                · have e := needL_step (fun j => freeSh sh1 j) n i hlt
                  rw [← e, ← HY.out]
                  exact s1
              obtain ⟨W7, hW7⟩ : ∃ W7, W7 = w6.setCell ⟨g, i, none⟩ (i64 y) := ⟨_, rfl⟩
              rw [← hW7] at H3
              have HW7 := Lib.hid hW7
              clear hbk hlen s1 s2 hb6 hr hW7
              go_wp2
              rw [← HW7.out]
              go_roundw
              case rel => exact ⟨i + 1, by go_num, by omega, H3⟩
              case measure => simp [intOf]; omega
            · have hni : i = n := by omega
              subst hni
              obtain ⟨need, hneed⟩ : ∃ need, need = (List.range i).map fun (j : Nat) => freeSh sh1 (j : Int) := ⟨_, rfl⟩
              have hnl : need.length = i := by rw [hneed]; simp
              have hRow : Row wr 3 (.slice (some ⟨g, 0, none⟩) i i) (need.map i64) := by
                have := hr.out.2
                rw [needL_all] at this
                rw [hneed]
                exact blk_row this (by simp) (by unfold maxLen; omega)
              have hl1 : sh1.length = i := by rw [H1.out.2.len, HS.out.2.1, HN.out]
              have hfree0 : ∀ q : Int, 0 ≤ freeSh sh1 q ∧ (freeSh sh1 q ≤ 1000000) := fun q => by
                unfold freeSh
                cases hq : shOf sh1 q with
                | none => exact ⟨Int.le_refl _, by decide⟩
                | some s =>
                  obtain ⟨j, _, hj, rfl⟩ := shOf_some hq
                  have := HSM.out _ (List.getElem_mem hj)
                  show 0 ≤ max _ _ ∧ max _ _ ≤ _
                  obtain ⟨r0, r1, l0, h0, h1⟩ := this
                  have hlj := H1.out.2.len
                  have hl0 := HS.out.2.1
                  obtain ⟨b1, b2, b3, b4⟩ := H1.out.2.at_ j (by omega) hj
                  obtain ⟨_, _, a5⟩ := HS.out.1.at_ j (by omega) (by omega)
                  have hk2 : 0 ≤ [(kN : Int)].getD j 0 := by
                    cases j with
                    | zero => show (0 : Int) ≤ kN; omega
                    | succ j => exact Int.le_refl _
                  omega
              have hget : ∀ q, q < i → need.getD q 0 = freeSh sh1 q := fun q hq => by
                rw [hneed, List.getD_eq_getElem?_getD, List.getElem?_map, List.getElem?_range hq]
                rfl
              have C3 := claim_any wr c.st v _ sh1 need (H1.out.1.duo.st.rb hr.out.1) hRow (fun hbad => by
                rcases hbad with h | h
                · omega
                · obtain ⟨x, hx, hx0⟩ := List.any_eq_true.1 h
                  rw [hneed] at hx
                  obtain ⟨q, _, rfl⟩ := List.mem_map.1 hx
                  have := (hfree0 q).1
                  simp at hx0
                  omega) HSM.out (by omega) (fun x hx => by
                  rw [hneed] at hx
                  obtain ⟨q, _, rfl⟩ := List.mem_map.1 hx
                  exact (hfree0 q).2)
              have hcan : canNeed sh1 need need.length := fun q hq => by rw [hget q (by omega)]; exact Int.le_refl _
              rw [H1.out.2.st] at C3
              have HC3 := Lib.hid C3
              have HCAN2 := Lib.hid hcan
              have HNE := Lib.hid hneed
              have HI4 := Lib.hid (H1.out.1.then_rb hr.out.1)
              clear C3 hcan hneed hRow hget hfree0 hl1 hnl hr A0 z1 HZ
              go_wp2_with fail
              refine HC3.out.mono ?_
              rintro e w8 (⟨hno, _⟩ | ⟨_, sh2, d, rfl, hP2⟩)
              · exact absurd HCAN2.out hno
              · have hP2' : ClaimP wr c.st v sh1 need w8 sh2 d := by rw [H1.out.2.st]; exact hP2
                obtain ⟨i1, i2, i3, i4, i5⟩ := holds_start (k := (kN : Int)) HS.out.2.2 HS.out.1 HS.out.2.1 h0L ⟨by omega, by rw [← HT0.out, ← HRW0.out]; exact hkr⟩ H1.out.2 (by rw [HNE.out, HN.out]) hP2'
                have HI : Hid (HoldsI w w8 v L sh2 c d 1 1099511627776 kN) := ⟨TwoC.claim HI4.out hP2', i1, i2, i3, i4, i5⟩
                clear i1 i2 i3 i4 i5 hP2 hP2' HC3 HCAN2
                go_wp2_with fail
                go_loopw [88] (fun p wq => ∃ (q : Nat), p = .int .i64 q ∧ q ≤ m' ∧ Hid (∃ shq dq, dq.b = d.b ∧ HoldsI w wq v L shq c dq (q + 1) 1099511627776 kN)) (fun p _ => m' - (intOf p).toNat)
                case atStart => exact ⟨0, rfl, Nat.zero_le _, _, _, rfl, HI.out⟩
                case round =>
                  obtain ⟨q, rfl, hqn, hr⟩ := hrel
                  by_cases hltq : q < m'
                  · obtain ⟨shq, dq, hdb, hIq⟩ := hr.out
                    have hRN := HO.out.rb hIq.two.rb
                    obtain ⟨ob, oo, ocap, oy, oc⟩ := hRN.at_ q (by rw [HOL.out]; exact hltq)
                    simp only [Value.slice.injEq] at oy
                    obtain ⟨rfl, -, -⟩ := oy
                    obtain ⟨o, ho⟩ : ∃ o, o = ops'[q]'(by rw [HOL.out]; exact hltq) := ⟨_, rfl⟩
                    rw [← ho] at oc
                    have hoo := HOO.out o (by rw [ho]; exact List.getElem_mem _)
                    obtain ⟨kd, wh, ot, okey, ocol, ⟨vk, vn, vs⟩, nd⟩ := o
                    obtain ⟨na, nnn, nc, rfl⟩ : ∃ a n c, nd = .slice a n c := hoo.need
                    have d0 := oc 0 _ rfl
                    have d1 := oc 1 _ rfl
                    have d2 := oc 2 _ rfl
                    have d3 := oc 3 _ rfl
                    have d4 := oc 4 _ rfl
                    have d5 := oc 5 _ rfl
                    have d6 := oc 6 _ rfl
                    have d7 := oc 7 _ rfl
                    have d8 := oc 8 _ rfl
                    rw [Nat.add_zero] at d0
                    have kk := hoo.key
                    dsimp only at d0 d1 d2 d3 d4 d5 d6 d7 d8 kk
                    have HOX := Lib.hid hoo
                    have HIQ := Lib.hid (And.intro hdb hIq)
                    clear oc ho hoo hRN hr hdb hIq
                    obtain ⟨WB, hWB⟩ : ∃ WB, WB = wr.alloc (.cells #[.int .u64 kd, .int .u64 wh, .int .i64 ot, .int .i64 okey, .int .i64 ocol, .int .i64 vk, .int .i64 vn, .string vs, .slice na nnn nc] 62) := ⟨_, rfl⟩
                    obtain ⟨bx, hbx⟩ : ∃ bx, bx = wr.heap.size := ⟨_, rfl⟩
                    have rB : Rb wr WB := by rw [hWB]; exact (Below.refl _ wr).alloc (Nat.le_refl _) _
                    have bB : Blk WB bx 62 [.int .u64 kd, .int .u64 wh, .int .i64 ot, .int .i64 okey, .int .i64 ocol, .int .i64 vk, .int .i64 vn, .string vs, .slice na nnn nc] := by rw [hWB, hbx]; exact Blk.new wr _ [_, _, _, _, _, _, _, _, _]
                    have f2 := bB.cell 2
                    have f3 := bB.cell 3
                    have f4 := bB.cell 4
                    have f5 := bB.cell 5
                    have f6 := bB.cell 6
                    have f7 := bB.cell 7
                    simp only [List.getElem?_cons_succ, List.getElem?_cons_zero] at f2 f3 f4 f5 f6 f7
                    have HB0 := Lib.hid (And.intro hWB (And.intro hbx rB))
                    clear hWB hbx rB bB
                    by_cases hin : 1099511627776 ≤ okey ∧ okey < 2199023255552
                    · have g1 : decide ((1099511627776 : Int) ≤ okey) = true := decide_eq_true hin.1
                      go_wp2_with (rw [← HB0.out.1, ← HB0.out.2.1])
                      refine (CLV.out _).mono ?_
                      rintro e w9 ⟨rfl, hb9⟩
                      have HB9 := Lib.hid (Rb.trans _ _ _ HIQ.out.2.two.rb (Rb.trans _ _ _ HB0.out.2.2 hb9))
                      clear hb9
                      go_wp2_with fail
                      go_ret
                      exact ⟨rfl, HB9.out⟩
                    · have C := holds_op w WB v L shq c dq (q + 1) kN (HIQ.out.2.then_rb HB0.out.2.2) (by omega) ot okey ocol ⟨vk, vn, vs⟩ HOX.out.v ⟨kk.1, kk.2⟩ hin
                      rw [HIQ.out.1] at C
                      have HC := Lib.hid C
                      clear C
                      by_cases h40 : 1099511627776 ≤ okey
                      · have h41 : ¬ okey < 2199023255552 := fun h => hin ⟨h40, h⟩
                        go_wp2_with (rw [← HB0.out.1, ← HB0.out.2.1])
                        refine HC.out.mono ?_
                        first | (rintro e w9 u rfl sh3 d3 hdb3 hI3) | (rintro e w9 ⟨⟨u, rfl⟩, sh3, d3, hdb3, hI3⟩)
                        have H3 : Hid (∃ shq dq, dq.b = d.b ∧ HoldsI w w9 v L shq c dq (q + 1 + 1) 1099511627776 kN) := ⟨_, _, hdb3, hI3⟩
                        clear hdb3 hI3 HC d0 d1 d2 d3 d4 d5 d6 d7 d8 f2 f3 f4 f5 f6 f7
                        go_wp2
                        go_roundw
                        case rel => exact ⟨q + 1, by go_num, by omega, H3⟩
                        case measure => simp [intOf]; omega
                      · go_wp2_with (rw [← HB0.out.1, ← HB0.out.2.1])
                        refine HC.out.mono ?_
                        first | (rintro e w9 u rfl sh3 d3 hdb3 hI3) | (rintro e w9 ⟨⟨u, rfl⟩, sh3, d3, hdb3, hI3⟩)
                        have H3 : Hid (∃ shq dq, dq.b = d.b ∧ HoldsI w w9 v L shq c dq (q + 1 + 1) 1099511627776 kN) := ⟨_, _, hdb3, hI3⟩
                        clear hdb3 hI3 HC d0 d1 d2 d3 d4 d5 d6 d7 d8 f2 f3 f4 f5 f6 f7
                        go_wp2
                        go_roundw
                        case rel => exact ⟨q + 1, by go_num, by omega, H3⟩
                        case measure => simp [intOf]; omega
                  · have hnq : q = m' := by omega
                    subst hnq
                    obtain ⟨shq, dq, hdb, hIq⟩ := hr.out
                    have hTq := HT.out.rb hIq.two.rb
                    obtain ⟨b', o', cap', y', e0, e1, e2⟩ := row3_at hTq.1 0 h0L
                    simp only [Value.slice.injEq, Option.some.injEq, Addr.mk.injEq] at y'
                    obtain ⟨⟨rfl, rfl, -⟩, -, -⟩ := y'
                    have hmem : t0 ∈ L := by rw [HT0.out]; exact List.getElem_mem _
                    rw [← HT0.out] at e0 e1 e2
                    have hIn : TabIn wr t0 := hTq.2 t0 hmem
                    obtain ⟨_, hc1, hc8⟩ := (checkD_ok HS.out.2.2).2 t0 hmem
                    have hty := checkD_types HS.out.2.2 t0 hmem
                    simp only [Nat.zero_mul, Nat.add_zero] at e0 e1 e2
                    obtain ⟨nm0, rws0, cv0, cols0⟩ := t0
                    obtain ⟨ao2, cap2, hcv, _, _, _⟩ := id hIn
                    dsimp only at e0 e1 e2 hcv hc1 hc8 hty
                    subst hcv
                    have CZ := Lib.hid (refzero_row nm0 rws0 _ cols0 wr hIn (by omega))
                    have HIQ := Lib.hid (And.intro hdb (And.intro hIq hty))
                    clear hr hTq hmem hIn hdb hIq hty
                    go_wp2_with fail
                    refine CZ.out.mono ?_
                    first | (rintro e w10 v10 rfl hv10 hb10) | (rintro e w10 ⟨v10, rfl, hv10, hb10⟩)
                    obtain ⟨zb, zo, zcap, zy, z0, z1, z2⟩ := row3_at hv10 0 (by rw [List.length_map]; omega)
                    subst zy
                    rw [List.getElem_map] at z0 z1 z2
                    rw [List.length_map]
                    obtain ⟨x0, hx0⟩ : ∃ x0, x0 = zeroV (cols0[0]'(by omega)) := ⟨_, rfl⟩
                    rw [← hx0] at z0 z1 z2
                    simp only [Nat.zero_mul, Nat.add_zero] at z0 z1 z2
                    obtain ⟨ncol, hncol⟩ : ∃ q, q = cols0.length := ⟨_, rfl⟩
                    have hnc0 : 0 < ncol := by omega
                    rw [← hncol]
                    have HX0 := Lib.hid (And.intro hx0 hncol)
                    obtain ⟨xk, xn, xs⟩ := x0
                    dsimp only at z0 z1 z2
                    have HB10 := Lib.hid hb10
                    clear hb10 hv10 hx0 hncol CZ e0 e1 e2
                    obtain ⟨W11, hW11⟩ : ∃ W11, W11 = w10.alloc (.cells #[.int .i64 xk, .int .i64 xn, .string xs] 60) := ⟨_, rfl⟩
                    obtain ⟨bz, hbz⟩ : ∃ bz, bz = w10.heap.size := ⟨_, rfl⟩
                    have r11 : Rb w10 W11 := by rw [hW11]; exact (Below.refl _ w10).alloc (Nat.le_refl _) _
                    have b11 : Blk W11 bz 60 [.int .i64 xk, .int .i64 xn, .string xs] := by rw [hW11, hbz]; exact Blk.new w10 _ [_, _, _]
                    have A5 : Hid (∃ shq' cq, (cq.b = c.b ∧ cq.st = c.st) ∧ HoldsI w W11 v L shq' cq dq (q + 1 + 0) (1099511627776 + (0 : Nat)) ((kN : Int) - (0 : Nat)) ∧ Blk W11 bz 60 [.int .i64 xk, .int .i64 xn, .string xs]) := by
                      have hI := HIQ.out.2.1.then_rb (Rb.trans _ _ _ HB10.out r11)
                      refine ⟨shq, c, ⟨rfl, rfl⟩, ?_, b11⟩
                      simpa using hI
                    have HW11 := Lib.hid (And.intro hW11 hbz)
                    clear hW11 hbz r11 b11
                    go_wp2_with (rw [← HW11.out.1, ← HW11.out.2])
                    have hk64 : kN ≤ 64 := by omega
                    go_loopw [119] (fun p wq => ∃ (j : Nat), p = .int .i64 j ∧ j ≤ kN ∧ Hid (∃ shq' cq, (cq.b = c.b ∧ cq.st = c.st) ∧ HoldsI w wq v L shq' cq dq (q + 1 + j) (1099511627776 + (j : Nat)) ((kN : Int) - (j : Nat)) ∧ Blk wq bz 60 [.int .i64 xk, .int .i64 xn, .string xs])) (fun p _ => kN - (intOf p).toNat)
                    case atStart => exact ⟨0, rfl, Nat.zero_le _, A5⟩
                    case round =>
                      obtain ⟨j, rfl, hjn, hr⟩ := hrel
                      by_cases hltj : j < kN
                      · obtain ⟨shj, cj, hcb, hIj, hbz⟩ := hr.out
                        have hL0 : (L[0]).cols.length = ncol := by rw [← HT0.out]; exact HX0.out.2.symm
                        have hz0 : zeroV ((L[0]).cols[0]'(by omega)) = ⟨xk, xn, xs⟩ := by
                          have h1 := HX0.out.1
                          simp only [← HT0.out]
                          exact h1.symm
                        have hty0 : rightTypeB ((L[0]).cols[0]'(by omega)).kind ((L[0]).cols[0]'(by omega)).max = true := by
                          have h1 := HIQ.out.2.2
                          have h2 : (⟨nm0, rws0, .slice ao2 cols0.length cap2, cols0⟩ : TabD).cols[0]'(by show 0 < cols0.length; have := HX0.out.2; omega) ∈ cols0 := List.getElem_mem _
                          have h3 := h1 _ h2
                          simp only [← HT0.out]
                          exact h3
                        have C := holds_add w wr v L shj cj dq (q + 1 + j) (1099511627776 + (j : Nat)) ((kN : Int) - (j : Nat)) hIj (by omega) ⟨by omega, by omega⟩ (by omega) h0L (by omega) hty0 (zero_ok hty0)
                        rw [hz0, hcb.1] at C
                        have HCST := Lib.hid hcb.2
                        have y0 := hbz.cell 0
                        have y1 := hbz.cell 1
                        have y2 := hbz.cell 2
                        simp only [List.getElem?_cons_succ, List.getElem?_cons_zero] at y0 y1 y2
                        have HBZ := Lib.hid hbz
                        have HC := Lib.hid C
                        clear C hr hIj hcb hbz hL0 hz0 hty0
                        go_wp2_with fail
                        refine HC.out.mono ?_
                        rintro e w12 ⟨rfl, ⟨sh3, c3, hcb3, hI3⟩, hkeep⟩
                        have H3 : Hid (∃ shq' cq, (cq.b = c.b ∧ cq.st = c.st) ∧ HoldsI w w12 v L shq' cq dq (q + 1 + (j + 1)) (1099511627776 + ((j + 1 : Nat) : Int)) ((kN : Int) - ((j + 1 : Nat) : Int)) ∧ Blk w12 bz 60 [.int .i64 xk, .int .i64 xn, .string xs]) := by
                          refine ⟨sh3, c3, ⟨hcb3.1, hcb3.2.trans HCST.out⟩, ?_, hkeep _ _ _ HBZ.out notV⟩
                          have e1 : (1099511627776 : Int) + ((j + 1 : Nat) : Int) = 1099511627776 + (j : Int) + 1 := by omega
                          have e2 : (kN : Int) - ((j + 1 : Nat) : Int) = (kN : Int) - (j : Int) - 1 := by omega
                          rw [e1, e2]
                          exact hI3
                        clear hcb3 hI3 hkeep HC y0 y1 y2
                        go_wp2
                        go_roundw
                        case rel => exact ⟨j + 1, by go_num, by omega, H3⟩
                        case measure => simp [intOf]; omega
                      · have hnj : j = kN := by omega
                        subst hnj
                        obtain ⟨shj, cj, hcb, hIj, hbz⟩ := hr.out
                        have HF := Lib.hid (And.intro hcb (And.intro hIj hbz))
                        obtain ⟨W5, hW5⟩ : ∃ W5, W5 = wr := ⟨_, rfl⟩
                        have A6 : Hid (Rb W5 wr) := by rw [hW5]; exact Rb.refl _
                        have HW5 : Hid (W5 = wr) := hW5
                        rw [← hW5] at HF
                        clear hr hcb hIj hbz hW5
                        go_wp2_with fail
                        go_loopw [131] (fun p wq => ∃ (y : Nat), p = .int .i64 y ∧ y ≤ i ∧ Hid (Rb W5 wq)) (fun p _ => i - (intOf p).toNat)
                        case atStart => exact ⟨0, rfl, Nat.zero_le _, A6⟩
                        case round =>
                          obtain ⟨y, rfl, hyn, hr⟩ := hrel
                          by_cases hlty : y < i
                          · have hTq := (HT.out.rb HF.out.2.1.two.rb).rb hr.out
                            obtain ⟨b', o', cap', y', e0, e1, e2⟩ := row3_at hTq.1 y (by rw [← HN.out]; exact hlty)
                            simp only [Value.slice.injEq, Option.some.injEq, Addr.mk.injEq] at y'
                            obtain ⟨⟨rfl, rfl, -⟩, -, -⟩ := y'
                            obtain ⟨hE1, hE2⟩ := holds_end HF.out.2.1 y (by rw [← HN.out]; exact hlty)
                            obtain ⟨tt, htt⟩ : ∃ tt, tt = L[y]'(by rw [← HN.out]; exact hlty) := ⟨_, rfl⟩
                            rw [← htt] at e0 e1 e2 hE1
                            have hmem : tt ∈ L := by rw [htt]; exact List.getElem_mem _
                            have hIn : TabIn wr tt := hTq.2 tt hmem
                            obtain ⟨nmt, rwt, cvt, colst⟩ := tt
                            obtain ⟨ao5, cap5, hcv5, _, _, _⟩ := id hIn
                            dsimp only at e0 e1 e2 hcv5 hE1
                            subst hcv5
                            obtain ⟨WB, hWB⟩ : ∃ WB, WB = wr.alloc (.cells #[.string nmt, .int .i64 rwt, .slice ao5 colst.length cap5] 69) := ⟨_, rfl⟩
                            obtain ⟨bx, hbx⟩ : ∃ bx, bx = wr.heap.size := ⟨_, rfl⟩
                            have rB : Rb wr WB := by rw [hWB]; exact (Below.refl _ wr).alloc (Nat.le_refl _) _
                            have bB : Blk WB bx 69 [.string nmt, .int .i64 rwt, .slice ao5 colst.length cap5] := by rw [hWB, hbx]; exact Blk.new wr _ [_, _, _]
                            have f1 := bB.cell 1
                            simp only [List.getElem?_cons_succ, List.getElem?_cons_zero] at f1
                            have hStB : StAt WB cj.st v shj := HF.out.2.1.two.dc.st.rb (Rb.trans _ _ _ hr.out rB)
                            have hst0 : cj.st = st := HF.out.1.2.trans H1.out.2.st
                            rw [hst0] at hStB
                            have hsmj : ∀ s ∈ shj, SmallS s := fun s hs => ((HF.out.2.1.sc.shs s hs).pinv (by omega)).small
                            obtain ⟨ln, hln⟩ : ∃ ln, ln = lenSh shj y := ⟨_, rfl⟩
                            rw [← hln] at hE1
                            have CLn : ∀ n, Hid (Calls Tryz.prog 32 #[ptrv st, i64 y] (WB.drewN n) fun e w' => e = .returned (i64 ln) ∧ ∃ m, w' = WB.drewN m) := fun n => by
                              rw [hln]
                              exact (len_any (WB.drewN n) st v shj y (hStB.rb (Dn.rb ⟨n, rfl⟩))).mono fun e w' ⟨h1, h2⟩ => ⟨h1, n, h2.symm⟩
                            have CFn : ∀ n, Hid (Calls Tryz.prog 23 #[ptrv st, i64 y] (WB.drewN n) fun e w' => e = .returned (i64 0) ∧ ∃ m, w' = WB.drewN m) := fun n => by
                              have h1 := free_dn (WB.drewN n) st v shj y (hStB.rb (Dn.rb ⟨n, rfl⟩)) hsmj
                              rw [hE2] at h1
                              exact h1.mono fun e w' ⟨h1, q, h2⟩ => ⟨h1, n + q, by rw [h2, drewN_add]⟩
                            have hd : decide (ln > rwt) = false := decide_eq_false (by omega)
                            have HB0 := Lib.hid (And.intro hWB (And.intro hbx rB))
                            have HRR := Lib.hid hr.out
                            clear hTq htt hmem hIn hWB hbx rB bB hStB hst0 hsmj hln hE2 hr
                            go_wp2_with (rw [← HB0.out.1, ← HB0.out.2.1])
                            go_quiet (first | exact (CLn _).out | exact (CFn _).out)
                            have H3 : Hid (Rb W5 (WB.drewN nq)) := Rb.trans _ _ _ HRR.out (Rb.trans _ _ _ HB0.out.2.2 (Dn.rb ⟨nq, rfl⟩))
                            obtain ⟨W6, hW6⟩ : ∃ W6, W6 = WB.drewN nq := ⟨_, rfl⟩
                            rw [← hW6] at H3 ⊢
                            clear hW6 CLn CFn e0 e1 e2 f1
                            go_wp2_with fail
                            go_roundw
                            case rel => exact ⟨y + 1, by go_num, by omega, H3⟩
                            case measure => simp [intOf]; omega
                          · have hny : y = i := by omega
                            subst hny
                            have HRW := Lib.hid (Rb.trans _ _ _ HF.out.2.1.two.rb hr.out)
                            have hbz := HF.out.2.2.rb hr.out
                            have y0 := hbz.cell 0
                            have y1 := hbz.cell 1
                            have y2 := hbz.cell 2
                            simp only [List.getElem?_cons_succ, List.getElem?_cons_zero] at y0 y1 y2
                            have CHD := held_any wr cj 0 (HF.out.2.1.two.dc.cl.rb hr.out)
                            rw [HF.out.1.1, heldOf_getD, HF.out.2.1.hk, Int.sub_self] at CHD
                            have HCH := Lib.hid CHD
                            clear CHD hbz hr
                            go_wp2_with (first | (go_at_call 28; refine (back_nil _).mono ?_; rintro e w' ⟨⟨u, rfl⟩, rfl⟩) | (go_at_call 33; refine (done_nil _).mono ?_; rintro e w' ⟨⟨u, rfl⟩, rfl⟩) | (go_at_call 34; refine (close_nil _).mono ?_; rintro e w' ⟨⟨u, rfl⟩, rfl⟩) | (go_at_call 24; refine (claim_nil _ _).mono ?_; rintro e w' ⟨rfl, rfl⟩))
                            refine HCH.out.mono ?_
                            rintro e w' ⟨rfl, rfl⟩
                            go_wp2_with fail
                            refine (nil_set wr 0 0 0 ⟨xk, xn, xs⟩).mono ?_
                            rintro e v1 ⟨rfl, k1⟩
                            have K1 := Lib.hid (Rb.trans _ _ _ HRW.out k1)
                            clear k1 y0 y1 y2 HCH
                            go_wp2_with fail
                            refine (apply_nil v1).mono ?_
                            rintro e v2 ⟨rfl, k2⟩
                            have K2 := Lib.hid (Rb.trans _ _ _ K1.out k2)
                            clear k2
                            obtain ⟨v3, hv3⟩ : ∃ v3, v3 = v2.alloc (.cells #[.pointer none] 55) := ⟨_, rfl⟩
                            obtain ⟨bw, hbw⟩ : ∃ bw, bw = v2.heap.size := ⟨_, rfl⟩
                            have r3' : Rb v2 v3 := by rw [hv3]; exact (Below.refl _ v2).alloc (Nat.le_refl _) _
                            have cw : v3.cell? ⟨bw, 0, none⟩ = some (.pointer none) := by rw [hv3, hbw]; exact (Blk.new v2 55 [.pointer none]).cell 0
                            have K3 := Lib.hid (Rb.trans _ _ _ K2.out r3')
                            have CW := Lib.hid (without_nil v3 bw cw)
                            have HV3 := Lib.hid (And.intro hv3 hbw)
                            clear hv3 hbw r3' cw
                            go_wp2_with (rw [← HV3.out.1, ← HV3.out.2])
                            refine CW.out.mono ?_
                            rintro e v4 ⟨rfl, rfl⟩
                            go_wp2_with (first | (go_at_call 22; refine (same_nil _).mono ?_; rintro e w' ⟨rfl, rfl⟩) | (go_at_call 32; refine (len_nil _ _).mono ?_; rintro e w' ⟨rfl, rfl⟩) | (go_at_call 23; refine (free_nil _ _).mono ?_; rintro e w' ⟨rfl, rfl⟩) | (go_at_call 29; refine (held_nil _ _).mono ?_; rintro e w' ⟨rfl, rfl⟩))
                            refine (all_nil _).mono ?_
                            rintro e v5 ⟨rfl, k5⟩
                            have K5 := Lib.hid (Rb.trans _ _ _ K3.out k5)
                            clear k5
                            go_wp2_with fail
                            refine (changes_nil _).mono ?_
                            rintro e v6 ⟨rfl, k6⟩
                            have K6 := Lib.hid (Rb.trans _ _ _ K5.out k6)
                            clear k6
                            go_wp2_with fail
                            refine (CLV.out _).mono ?_
                            rintro e v7 ⟨rfl, k7⟩
                            have K7 := Lib.hid (Rb.trans _ _ _ K6.out k7)
                            clear k7
                            go_wp2_with fail
                            go_ret
                            exact ⟨rfl, K7.out⟩
end Go.Proofs.YtjfpeklfgnajoaaGreat.L6
