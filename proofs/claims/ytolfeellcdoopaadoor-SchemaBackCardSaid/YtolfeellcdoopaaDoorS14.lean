/-
  Layer 6: the walk of SchemaChecks.
-/
import Derived.Test.YtolfeellcdoopaaDoorS13
namespace Go.Proofs.YtolfeellcdoopaaDoor.L6
open Go.ChangeShapes Go.WideShapes Go.ChangeAt Go.RowKit Oct By Reg Val
set_option linter.unusedVariables false
set_option linter.unusedSimpArgs false

theorem max_idx (s : ByteArray) (l : List ByteArray) : max (idxI s l) 0 = idxN s l := by
  unfold idxI idxN
  split <;> omega
theorem ge_idx (s : ByteArray) (l : List ByteArray) : decide (idxI s l ≥ 0) = dup s l := by
  unfold idxI
  split
  · rename_i h; rw [h]; simp
  · rename_i h; rw [Bool.eq_false_iff.2 h]; simp

set_option maxRecDepth 100000 in
set_option maxHeartbeats 4000000 in
theorem checks_walk (L0 : List TabD) (v0 : Value) (s0 : ByteArray) (w0 : World) (h0 : Tabs w0 v0 L0) (hok0 : ∀ t ∈ L0, TabOk t) (hs : s0.size ≤ maxLen) (htab : Tab w0) :
    Calls Tryd.prog 3 #[v0, .string s0] w0 fun e w' => e = .returned (.bool true) ∧ Below w0.heap.size w0 w' := by
  have HT := Lib.hid htab; clear htab
  have hq := h0.1
  obtain ⟨ao, cap, rfl, h1, h2, -⟩ := hq
  have HH0 := Lib.hid h0
  have HOK0 := Lib.hid hok0
  unfold maxLen at hs h2
  obtain ⟨n, hn⟩ : ∃ n, n = min L0.length 12 := ⟨_, rfl⟩
  have HN := Lib.hid hn
  clear h0 hok0
  go_enter Tryd.func3, Tryd.ntmps3
  go_upto_region 1 with (fail)
  go_cut [0, 1] from 13 (fun p q wx => ∃ (t : ByteArray), p = .slice ao n cap ∧ q = .string t ∧ t.size ≤ 40 ∧ Rb w0 wx)
  case first =>
    go_region
    all_goals
      go_wp2_with fail
      go_meet
      refine ⟨_, ?_, rfl, ?_, Rb.drew _⟩
      · rw [show (min (L0.length : Int) 12).toNat = n by have := HN.out; omega]
      · simp only [ByteArray.size_extract]; omega
  obtain ⟨t, rfl, rfl, ht, hb0⟩ := hcut
  have hnl : n ≤ L0.length := by have := HN.out; omega
  have hln : (L0.take n).length = n := by rw [List.length_take]; omega
  have HL : Hid (Tabs w0 (.slice ao n cap) (L0.take n)) := ⟨Row3.take HH0.out.1 n hnl, fun t ht => HH0.out.2 t (List.mem_of_mem_take ht)⟩
  have HOK : Hid (∀ t ∈ L0.take n, TabOk t) := fun t ht => HOK0.out t (List.mem_of_mem_take ht)
  obtain ⟨L, hL⟩ : ∃ L, L = L0.take n := ⟨_, rfl⟩
  rw [← hL] at HL HOK hln
  have Hln := Lib.hid hln
  have HB0 := Lib.hid hb0
  have hn9 : n ≤ 12 := by have := HN.out; omega
  generalize wc = w1 at *
  clear hL hnl hb0 HH0 HOK0 HN hn hln hs h1
  go_wp2
  go_loopw [25] (fun i wr => ∃ k : Nat, k ≤ n ∧ i = .int .i64 k ∧ Rb w0 wr) (fun i _ => n - (intOf i).toNat)
  case atStart => exact ⟨0, Nat.zero_le _, rfl, HB0.out⟩
  case round =>
    obtain ⟨k, hk, rfl, hb⟩ := hrel
    have HB := Lib.hid hb
    by_cases hlt : k < n
    · have hlL : k < L.length := by rw [Hln.out]; exact hlt
      have hq := HL.out.1
      obtain ⟨ao', cap', ee, h3, h4, hr⟩ := hq
      simp only [Value.slice.injEq] at ee
      obtain ⟨rfl, hx, rfl⟩ := ee
      clear hx
      obtain ⟨b, o, rfl, hc⟩ := hr (by omega)
      obtain ⟨z0, z1, z2⟩ := hc k hlL
      have y0 := cell_rb hb z0
      have y1 := cell_rb hb z1
      have y2 := cell_rb hb z2
      obtain ⟨q, hq⟩ : ∃ q, q = L[k] := ⟨_, rfl⟩
      rw [← hq] at y0 y1 y2
      have htin : TabIn w0 q := by rw [hq]; exact HL.out.2 _ (List.getElem_mem hlL)
      have HLI := Lib.hid (fun w' (hw : Rb w0 w') => light_any q w' (htin.rb hw) (HOK.out q (by rw [hq]; exact List.getElem_mem hlL)))
      clear z0 z1 z2 hc hb hq hr h3 h4
      obtain ⟨nm, rws, cv, cols⟩ := q
      obtain ⟨co, ccap, rfl, hcc⟩ := htin.form
      dsimp only at y0 y1 y2
      clear hcc htin
      go_wp2_with (refine wpList_store rfl 25 _ _ rfl wr.heap.size 0 _ _ [_, _, _] _ rfl rfl (Blk.new wr 25 [_, _, _]) rfl sizeT (by simp) (oneT _ _ _ _ _) ?_)
      intro w2 hb2 hw2
      have hr2 := Rb.trans _ _ _ HB.out hw2.rb_new
      have HB2 := Lib.hid hr2
      obtain ⟨x0, x1, x2⟩ := hb2.c3
      have hli := HLI.out w2 hr2
      clear hb2 hw2 y0 y1 y2 hr2 HLI
      generalize lightB ⟨nm, rws, .slice co cols.length ccap, cols⟩ = lb at *
      go_wp2_with fail
      refine hli.mono ?_
      rintro e w3 ⟨rfl, hb3⟩
      have HB3 := Lib.hid (Rb.trans _ _ _ HB2.out hb3)
      clear hli hb3 x0 x1 x2
      cases lb with
      | false =>
        go_wp2_with fail
        refine (lives_any _ (HT.out.rb HB3.out)).mono ?_
        rintro e w4 ⟨rfl, hb4⟩
        have HB4 := Lib.hid (Rb.trans _ _ _ HB3.out hb4)
        clear hb4
        go_wp2
        go_ret
        exact ⟨rfl, HB4.out⟩
      | true =>
        go_wp2
        go_roundw
        case rel => exact ⟨k + 1, by omega, by go_num, HB3.out⟩
        case measure => simp [intOf]; omega
    · have hmt : t.size ≤ maxLen := by unfold maxLen; omega
      clear hb
      go_wp2_with fail
      refine (check_any L _ _ (HL.out.rb HB.out) HOK.out).mono ?_
      rintro e w2 ⟨rfl, hb2⟩
      have HB2 := Lib.hid (Rb.trans _ _ _ HB.out hb2)
      clear hb2
      go_wp2_with fail
      refine (refcheck_any L _ _ (HL.out.rb HB2.out) HOK.out).mono ?_
      rintro e w3 ⟨rfl, hb3⟩
      have HB3 := Lib.hid (Rb.trans _ _ _ HB2.out hb3)
      clear hb3
      go_wp2_with fail
      refine (findT_any L _ t _ (HL.out.rb HB3.out)).mono ?_
      rintro e w4 ⟨rfl, hb4⟩
      have HB4 := Lib.hid (Rb.trans _ _ _ HB3.out hb4)
      have hr5 := fun w' (hw : Rb w0 w') => rfindT_any L _ t w' (HL.out.rb hw)
      have HR5 := Lib.hid hr5
      have HMX := Lib.hid (max_idx t (namesT L))
      have HGE := Lib.hid (ge_idx t (namesT L))
      generalize idxI t (namesT L) = qi at *
      generalize idxN t (namesT L) = qn at *
      generalize dup t (namesT L) = qd at *
      generalize checkD L = cd at *
      obtain ⟨c1, c2⟩ := cd
      clear hb4 hr5
      have nm1 := fun w => isname_any t w hmt
      have nm2 := fun w => refname_any t w hmt
      generalize nameB t = nb at *
      go_wp2_with fail
      refine (nm1 _).mono ?_
      rintro e w5 ⟨rfl, rfl⟩
      go_wp2_with fail
      refine (nm2 _).mono ?_
      rintro e w6 ⟨rfl, hb6⟩
      have HB6 := Lib.hid (Rb.trans _ _ _ HB4.out hb6)
      clear hb6 nm1 nm2
      have hbb : (nb == nb) = true := by cases nb <;> rfl
      go_wp2_with fail
      refine (HR5.out _ HB6.out).mono ?_
      rintro e w7 ⟨rfl, hb7⟩
      have HB7 := Lib.hid (Rb.trans _ _ _ HB6.out hb7)
      clear hb7
      have hmx : max qi 0 = qn := HMX.out
      go_wp2_with fail
      refine (HR5.out _ HB7.out).mono ?_
      rintro e w8 ⟨rfl, hb8⟩
      have HB8 := Lib.hid (Rb.trans _ _ _ HB7.out hb8)
      clear hb8
      have hge : decide (qi ≥ 0) = qd := HGE.out
      have hge2 : decide (0 ≤ qi) = qd := HGE.out
      have hbd : (qd == qd) = true := by cases qd <;> rfl
      go_wp2_with fail
      refine (lives_any _ (HT.out.rb HB8.out)).mono ?_
      rintro e w9 ⟨rfl, hb9⟩
      have HB9 := Lib.hid (Rb.trans _ _ _ HB8.out hb9)
      clear hb9
      go_wp2
      go_ret
      exact ⟨rfl, HB9.out⟩
end Go.Proofs.YtolfeellcdoopaaDoor.L6
