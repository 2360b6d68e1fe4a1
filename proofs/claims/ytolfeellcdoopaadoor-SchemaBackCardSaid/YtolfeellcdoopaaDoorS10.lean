/-
  Layer 6: a table's text, by the document.
-/
import Derived.Test.YtolfeellcdoopaaDoorS9
namespace Go.Proofs.YtolfeellcdoopaaDoor.L6
open Go.ChangeShapes Go.WideShapes Go.ChangeAt Go.RowKit Oct By Reg Val
set_option linter.unusedVariables false
set_option linter.unusedSimpArgs false

theorem ba_ext {a b : ByteArray} (h : a.data.toList = b.data.toList) : a = b := ByteArray.ext (Array.toList_inj.1 h)
theorem head_sum (nm : ByteArray) (rws : Int) : (⟨#[116, 97, 98, 108, 101, 32]⟩ : ByteArray) ++ nm ++ ⟨#[32, 114, 111, 119, 115, 32]⟩ ++ str (Lib.itoa rws) ++ ⟨#[32, 123]⟩ = str (headB nm rws) := by
  apply ba_ext
  simp [ByteArray.data_append, str, headB]
theorem col_sum (c : ColD) : (⟨#[32]⟩ : ByteArray) ++ c.name ++ ⟨#[32]⟩ ++ str (typeText c.kind c.max) ++ semi = str (colB c) := by
  apply ba_ext
  simp [ByteArray.data_append, str, colB]
set_option maxRecDepth 100000 in
set_option maxHeartbeats 4000000 in
theorem refprint_any (nm : ByteArray) (rws : Int) (cv : Value) (L : List ColD) (w : World) (h : Cols w cv L) (h0 : -9223372036854775808 ≤ rws) (h1 : rws ≤ 9223372036854775807) (hn : nm.size ≤ 40) (hl : L.length ≤ 20) (hc : ∀ c ∈ L, c.name.size ≤ 40) :
    Calls Tryd.prog 18 #[tabV ⟨nm, rws, cv, L⟩] w fun e w' => e = .returned (.string (str (printB nm rws L))) ∧ Rb w w' := by
  have hq := h
  obtain ⟨ao, cap, rfl, hl1, hl2, hcr⟩ := hq
  have HR := Lib.hid (show Rb w (w.alloc (.cells #[.string nm, .int .i64 rws, .slice ao L.length cap] 25)) from (Below.refl _ w).alloc (Nat.le_refl _) _)
  have hil := itoa_len h0 h1
  obtain ⟨ii, hii⟩ : ∃ ii, ii = str (Lib.itoa rws) := ⟨_, rfl⟩
  have hdec := fun w' => refdec_any rws w' h0 h1
  unfold strV at hdec
  rw [← hii] at hdec
  have hsz : ii.size ≤ 100 := by rw [hii, str_size]; exact hil
  have HDEC := Lib.hid hdec
  have hsum := head_sum nm rws
  rw [← hii] at hsum
  obtain ⟨S0, hS0⟩ : ∃ S0, S0 = (⟨#[116, 97, 98, 108, 101, 32]⟩ : ByteArray) ++ nm ++ ⟨#[32, 114, 111, 119, 115, 32]⟩ ++ ii ++ ⟨#[32, 123]⟩ := ⟨_, rfl⟩
  rw [← hS0] at hsum
  have HS0 := Lib.hid hS0
  have hS0z : S0.size ≤ 200 := by
    rw [hS0]
    simp only [ByteArray.size_append]
    have e1 : (⟨#[116, 97, 98, 108, 101, 32]⟩ : ByteArray).size = 6 := rfl
    have e2 : (⟨#[32, 114, 111, 119, 115, 32]⟩ : ByteArray).size = 6 := rfl
    have e3 : (⟨#[32, 123]⟩ : ByteArray).size = 2 := rfl
    omega
  have HSUM := Lib.hid hsum
  have HCR := Lib.hid hcr
  have HCN := Lib.hid hc
  unfold maxLen at hl2
  have mixed : Tryd.prog.follows Departure.mixedOrders = true := by kernel_rfl
  clear h hcr hc hii hil hdec hsum hS0
  go_enter Tryd.func18, Tryd.ntmps18
  go_upto_region 1 with (fail)
  obtain ⟨w1, hw1⟩ : ∃ w1, w1 = w.alloc (.cells #[.string nm, .int .i64 rws, .slice ao L.length cap] 25) := ⟨_, rfl⟩
  have HR1 := HR.out
  rw [← hw1] at HR1 ⊢
  have x0 : w1.cell? ⟨w.heap.size, 0, none⟩ = some (.string nm) := by rw [hw1]; simp
  have x1 : w1.cell? ⟨w.heap.size, 1, none⟩ = some (.int .i64 rws) := by rw [hw1]; simp
  have x2 : w1.cell? ⟨w.heap.size, 2, none⟩ = some (.slice ao L.length cap) := by rw [hw1]; simp
  have HR2 := Lib.hid HR1
  have X2 := Lib.hid x2
  have n1 : ¬ 9223372036854775807 < 6 + nm.size := by omega
  have n2 : ¬ 9223372036854775807 < 6 + nm.size + 6 := by omega
  have n3 : ¬ 9223372036854775807 < 6 + nm.size + 6 + ii.size := by omega
  have n4 : ¬ 9223372036854775807 < 6 + nm.size + 6 + ii.size + 2 := by omega
  clear hw1 HR HR1
  go_cut [3] from 6 (fun s3 wr => s3 = .string S0 ∧ Rb w1 wr)
  · rename_i J K' hJ hK
    go_region_with (go_at_call 46; refine (HDEC.out _).mono ?_; rintro e w2 ⟨rfl, hb2⟩; have y0 := cell_rb (Rb.trans _ _ _ (Rb.drew w1) hb2) x0)
    all_goals
      have hb3 := Rb.trans _ _ _ (Rb.drew w1) hb2
      go_wp2_with fail
      go_meet
      exact ⟨by rw [HS0.out], hb3⟩
  obtain ⟨rfl, hr0⟩ := hcut
  generalize wc = w2 at *
  have u2 := cell_rb hr0 X2.out
  have HB2 := Lib.hid (Rb.trans _ _ _ HR2.out hr0)
  clear x0 x1 x2 X2 hr0 HR2 n1 n2 n3 n4
  go_wp2_with fail
  go_loopw [3, 18] (fun p i wr => ∃ (k : Nat) (S : ByteArray), k ≤ L.length ∧ i = .int .i64 k ∧ p = .string S ∧ S.size ≤ 200 + 50 * k ∧ Hid (S = str (headB nm rws ++ (L.take k).flatMap colB)) ∧ Rb w wr) (fun _ i _ => L.length - (intOf i).toNat)
  case atStart => exact ⟨0, S0, Nat.zero_le _, rfl, rfl, by omega, by show S0 = _; rw [HSUM.out]; simp, HB2.out⟩
  case round =>
    obtain ⟨k, S, hk, rfl, rfl, hsz2, hS, hb⟩ := hrel
    have HB := Lib.hid hb
    by_cases hlt : k < L.length
    · obtain ⟨b, o, rfl, hc⟩ := HCR.out (by omega)
      obtain ⟨z0, z1, z2⟩ := hc k hlt
      have y0 := cell_rb hb z0
      have y1 := cell_rb hb z1
      have y2 := cell_rb hb z2
      obtain ⟨t, ht⟩ : ∃ t, t = L[k] := ⟨_, rfl⟩
      rw [← ht] at y0 y1 y2
      have hcn : t.name.size ≤ 40 := HCN.out t (by rw [ht]; exact List.getElem_mem hlt)
      have hnext : S ++ ((⟨#[32]⟩ : ByteArray) ++ t.name ++ ⟨#[32]⟩ ++ str (typeText t.kind t.max) ++ semi) = str (headB nm rws ++ (L.take (k + 1)).flatMap colB) := by
        rw [hS.out, col_sum, str_append, List.take_succ_eq_append_getElem hlt, List.flatMap_append, ← ht, List.append_assoc]
        simp
      have hpt := fun w' => refprinttype_any t.kind t.max w'
      have htl := typeText_len t.kind t.max
      clear z0 z1 z2 hc hb ht hS
      obtain ⟨cn, ck, cm⟩ := t
      dsimp only at y0 y1 y2 hpt htl hnext hcn
      obtain ⟨tt, htt⟩ : ∃ tt, tt = str (typeText ck cm) := ⟨_, rfl⟩
      unfold strV at hpt
      have hts : tt.size ≤ 7 := by rw [htt, str_size]; exact htl
      rw [← htt] at hpt hnext
      have HPT := Lib.hid hpt
      have HNEXT := Lib.hid hnext
      go_wp2_with (refine wpList_store rfl 57 _ _ rfl wr.heap.size 0 _ _ [_, _, _] _ rfl rfl (Blk.new wr 57 [_, _, _]) rfl sizeC (by simp) (oneC _ _ _) ?_)
      intro w3 hb3 hw3
      have HR3 := Lib.hid (Rb.trans _ _ _ HB.out hw3.rb_new)
      obtain ⟨q0, q1, q2⟩ := hb3.c3
      clear hb3 hw3 y0 y1 y2 hpt htl htt hnext
      have n1 : ¬ 9223372036854775807 < 1 + cn.size := by omega
      have n2 : ¬ 9223372036854775807 < 1 + cn.size + 1 := by omega
      have n3 : ¬ 9223372036854775807 < 1 + cn.size + 1 + tt.size := by omega
      have n4 : ¬ 9223372036854775807 < 1 + cn.size + 1 + tt.size + 1 := by omega
      have n5 : ¬ 9223372036854775807 < S.size + (1 + cn.size + 1 + tt.size + 1) := by omega
      go_upto_region 5 with (fail)
      go_region_with (go_at_call 47; refine (HPT.out _).mono ?_; rintro e w4 ⟨rfl, hb4⟩; have z0 := cell_rb (Rb.trans _ _ _ (Rb.drew w3) hb4) q0)
      all_goals
        have HB5 := Lib.hid (Rb.trans _ _ _ HR3.out (Rb.trans _ _ _ (Rb.drew w3) hb4))
        clear hb4 z0 q0 q1 q2 n1 n2 n3 n4 n5
        obtain ⟨S2, hS2⟩ : ∃ S2, S2 = S ++ ((⟨#[32]⟩ : ByteArray) ++ cn ++ ⟨#[32]⟩ ++ tt ++ semi) := ⟨_, rfl⟩
        have hz2 : S2.size ≤ 200 + 50 * (k + 1) := by
          rw [hS2]
          simp only [ByteArray.size_append]
          have e1 : (⟨#[32]⟩ : ByteArray).size = 1 := rfl
          have e2 : semi.size = 1 := rfl
          omega
        rw [← hS2] at HNEXT ⊢
        clear hS2
        go_wp2
        go_roundw
        case rel => exact ⟨k + 1, S2, by omega, by go_num, rfl, by omega, HNEXT, HB5.out⟩
        case measure => simp [intOf]; omega
    · have hk2 : k = L.length := by omega
      have htk : L.take k = L := by rw [hk2]; exact List.take_length
      have hfin : S ++ (⟨#[32, 125]⟩ : ByteArray) = str (printB nm rws L) := by
        rw [hS.out, htk, show (⟨#[32, 125]⟩ : ByteArray) = str [32, 125] from rfl, str_append, List.append_assoc]
        rfl
      have HFIN := Lib.hid hfin
      have n1 : ¬ 9223372036854775807 < S.size + 2 := by omega
      clear htk hk2 hS hb hfin
      go_wp2
      go_ret
      first | exact ⟨rfl, HB.out⟩ | exact ⟨by rw [HFIN.out]; rfl, HB.out⟩
end Go.Proofs.YtolfeellcdoopaaDoor.L6
