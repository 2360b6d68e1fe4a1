/-
  Layer 4: WalKeeps' walk.
-/
import Derived.Test.YtbdgdmieggpmhaaW15
import Derived.Test.YtbdgdmieggpmhaaW17
namespace Go.Proofs.Ytbdgdmieggpmhaa.L4
open Go.ChangeShapes Go.WideShapes Go.ChangeAt Go.RowKit Oct By Reg L3
set_option linter.unusedVariables false

def Sx (B : Nat) (v : Value) (k : Nat) : Prop := k < B ∨ v.ownBlock = some k
/-- what a round reads of the row of steps -/
theorem reads_step {W ws w : World} {n cap B0 : Nat} {co : Option Addr} {C : List OX} (hs : ∀ j, Sx W.heap.size (.slice co n cap) j → w.heap[j]? = ws.heap[j]?) (hW : Below W.heap.size W w)
    (ho : ws.ownsRow B0 59 3 (.slice co n cap) n (flat C)) (hC : ∀ p ∈ C, Bs W p.1.v p.2 ∧ p.2.length ≤ 200) {k : Nat} {q : OX} (hq : C[k]? = some q) : Rd w co k q := by
  obtain ⟨g, cap', e, c⟩ := row_at ho k q hq
  simp only [Value.slice.injEq] at e
  obtain ⟨rfl, _, rfl⟩ := e
  obtain ⟨hbs, hl⟩ := hC q (List.mem_of_getElem? hq)
  exact ⟨⟨g, rfl, c.block (hs g (.inr rfl))⟩, hbs.below hW, hl⟩
theorem bs_cut {w : World} {ao : Option Addr} {n' cap : Nat} {zs : List UInt8} (k : Nat) (hb : Bs w (.slice ao zs.length cap) zs) (hn : n' = min zs.length k) : Bs w (.slice ao n' cap) (zs.take k) ∧ (zs.take k).length = n' := by
  have h := Bs.upto hb n' (by omega)
  have e : zs.take n' = zs.take k := by
    rw [hn]
    by_cases h2 : zs.length ≤ k
    · rw [Nat.min_eq_left h2, List.take_of_length_le (Nat.le_refl _), List.take_of_length_le h2]
    · rw [Nat.min_eq_right (by omega)]
  rw [e] at h
  exact ⟨h, by rw [List.length_take, hn]; omega⟩

theorem add_or {ws w : World} {S : Nat → Prop} {b lb : Nat} {D : Dk} {g k : Nat} {m : Mem} {v : Value} {s : List UInt8} (h : LwM ws S b lb D g k w m) (hb : Bs w v s) (hl : s.length ≤ 1000000) :
    Calls Try.prog 34 #[.pointer (some ⟨lb, 0, none⟩), v] w fun e w' => ∃ c D' m', e = .returned (.int .i64 c) ∧ LwM ws S b lb D' g k w' m' ∧ (D' = D ∧ c = 4 ∧ freeN D k < (frameB g s).length ∨ D' = D.append (frameB g s) ∧ c = 0 ∧ (frameB g s).length ≤ freeN D k) := by
  by_cases hf : (frameB g s).length ≤ freeN D k
  · exact (add_w h hb hl hf).mono fun e w' ⟨he, m', hm⟩ => ⟨0, _, m', he, hm, .inr ⟨rfl, rfl, hf⟩⟩
  · exact (add_full lb m D g k v s w h.held hb hl (by omega)).mono fun e w' ⟨he, hr⟩ => ⟨4, D, m, he, h.rb hr, .inl ⟨rfl, rfl, by omega⟩⟩
theorem OpsIn.belowB {w w' : World} {ao : Option Addr} {n : Nat} {l : List OX} (h : OpsIn w ao n l) (hb : Below w.heap.size w w') : OpsIn w' ao n l := h.below hb
theorem new_eq (n n' : Int) (w : World) (h : n = n') : Calls Try.prog 21 #[.int .i64 n] w (NewK w (clampN n')) := by subst h; exact new_any n w

set_option maxRecDepth 100000 in
set_option maxHeartbeats 1000000 in
theorem keeps_walk (room : Int) (u : Value) (zs : List UInt8) (ao : Option Addr) (n cap : Nat) (l : List OX) (w0 : World) (hb : Bs w0 u zs) (h : OpsIn w0 ao n l) (hn : n ≤ 9223372036854775807) :
    Calls Try.prog 7 #[.int .i64 room, u, .slice ao n cap] w0 fun e w' => e = .returned (.bool true) ∧ Below w0.heap.size w0 w' := by
  have HO := Lib.hid h
  obtain ⟨bo, bcap, rfl, hbc, hbm⟩ := hb.len
  unfold maxLen at hbm
  have HZ := Lib.hid hb
  clear h hb
  go_enter Try.func7, Try.ntmps7
  go_upto_region 1 with (fail)
  go_cut [1] (fun p wx => ∃ n', p = .slice bo n' bcap ∧ n' = min zs.length 200 ∧ wx = w0)
  case first =>
    go_wp2_with fail
    all_goals
      go_meet
      exact ⟨_, rfl, by omega, rfl⟩
  case rest =>
    obtain ⟨n', rfl, hn', hwc⟩ := hcut
    have hw0 := hwc.symm
    subst hw0
    clear hwc
    obtain ⟨hx, hxl⟩ := bs_cut 200 HZ.out hn'
    have hx200 : (zs.take 200).length ≤ 200 := by rw [List.length_take]; omega
    generalize zs.take 200 = xb at *
    subst hxl
    have HX := Lib.hid hx
    have HXL := Lib.hid hx200
    clear hx hx200 HZ hbc hbm hn'
    go_upto_region 2 with (fail)
    go_cut [7] (fun p wx => p = .pointer (some ⟨w0.heap.size, 0, none⟩) ∧ HeldK wx (mem0 w0.heap.size) (Dk.new (clampN (max 0 (min room 4096)))) ∧ Rb w0 wx)
    case first =>
      go_wp2_with fail
      all_goals
        refine (new_eq _ (max 0 (min room 4096)) w0 (by omega)).mono ?_
        rintro e w1 ⟨rfl, hk1, hr1⟩
        have HK1 := Lib.hid hk1
        have HR1 := Lib.hid hr1
        clear hk1 hr1
        go_wp2
        go_meet
        exact ⟨rfl, HK1.out, HR1.out⟩
    case rest =>
      obtain ⟨rfl, hk1, hr1⟩ := hcut
      have hrm : clampN (max 0 (min room 4096)) ≤ 4096 := by unfold clampN; omega
      generalize clampN (max 0 (min room 4096)) = R at *
      have hd1 := DwM.new hk1 hr1
      have H1 := Lib.hid hd1
      have HRM := Lib.hid hrm
      clear hk1 hr1 hd1 hrm
      go_wp2_with fail
      refine (open_w H1.out).mono ?_
      rintro e w2 ⟨lb, m2, vi, vr, rfl, hl2, -, -⟩
      rw [(open_new R).1, (open_new R).2] at hl2
      have H2 := Lib.hid hl2
      clear hl2 H1
      go_wp2_with fail
      refine (cost_any _ w2).mono ?_
      rintro e w3 ⟨rfl, rfl⟩
      obtain ⟨F, hF⟩ : ∃ F, F = (frameB 0 xb).length := ⟨_, rfl⟩
      rw [costN_frame 0 xb (by have := HXL.out; omega), ← hF]
      have hFl : F ≤ 218 ∧ 0 < F := by have := frameB_le 0 xb (by have := HXL.out; omega); have := frameB_pos 0 xb; have := HXL.out; omega
      have HF := Lib.hid hF
      have HFL := Lib.hid hFl
      have C := keep_any lb m2 (Dk.new R) 0 0 (F : Int) w2 H2.out.held
      have hkc : keepC (Dk.new R) 0 (F : Int) = if R < F then 5 else 0 := by
        have e : freeN (Dk.new R) 0 = R := by simp [freeN, Dk.new, Dk.log]
        unfold keepC
        rw [if_neg (by omega), e]
        by_cases h : R < F
        · rw [if_pos (by omega), if_pos h]
        · rw [if_neg (by omega), if_neg h]
      have hkk : ¬ R < F → keepK (Dk.new R) 0 (F : Int) = F := fun h => by
        have e : freeN (Dk.new R) 0 = R := by simp [freeN, Dk.new, Dk.log]
        unfold keepK
        rw [if_neg (by omega), e, if_neg (by omega)]
        omega
      rw [hkc] at C
      have HKK := Lib.hid hkk
      clear hkc hkk hF hFl
      by_cases hRF : R < F
      · rw [if_pos hRF] at C
        have HC := Lib.hid C
        have HRF := Lib.hid hRF
        clear C hRF
        go_wp2_with fail
        refine HC.out.mono ?_
        rintro e w3 ⟨rfl, ht⟩
        have hk0 : keepK (Dk.new R) 0 (F : Int) = 0 := by
          have e : freeN (Dk.new R) 0 = R := by simp [freeN, Dk.new, Dk.log]
          have := HRF.out
          unfold keepK
          rw [e]
          split
          · rfl
          · rw [if_pos (by omega)]
        rw [hk0] at ht
        obtain ⟨m3, h3⟩ := H2.out.turn ht
        have H3 := Lib.hid h3
        have CF := Lib.hid (free_any lb m3 _ 0 0 w3 h3.held)
        rw [show freeN (Dk.new R) 0 = R by simp [freeN, Dk.new, Dk.log]] at CF
        clear ht h3 hk0
        go_wp2_with fail
        refine CF.out.mono ?_
        rintro e w4 ⟨rfl, hr⟩
        have H4 := Lib.hid (H3.out.rb hr)
        have CC := Lib.hid (cost_any (xb.length : Int) w4)
        rw [costN_frame 0 xb (by have := HXL.out; omega), ← HF.out] at CC
        clear hr
        go_wp2_with fail
        refine CC.out.mono ?_
        rintro e w5 ⟨rfl, rfl⟩
        have hlt : (R : Int) < (F : Int) := by have := HRF.out; omega
        go_wp2_with fail
        refine (lives_any w4).mono ?_
        rintro e w5 ⟨rfl, hr⟩
        have HW := Lib.hid ((H4.out.rb hr).below (B := w0.heap.size) fun j hj => hj)
        clear hr
        go_wp2
        go_ret
        exact ⟨rfl, HW.out⟩
      · rw [if_neg hRF] at C
        have HC := Lib.hid C
        have HRF := Lib.hid hRF
        clear C hRF
        go_wp2_with fail
        refine HC.out.mono ?_
        rintro e w3 ⟨rfl, ht⟩
        obtain ⟨m3, h3⟩ := H2.out.turn ht
        rw [HKK.out HRF.out] at h3
        have H3 := Lib.hid h3
        clear ht h3
        have hW3 := H3.out.below (B := w0.heap.size) fun j hj => hj
        have HW3 := Lib.hid hW3
        have CR := Lib.hid (row_any ao n cap l w3 (OpsIn.belowB HO.out hW3) hn)
        clear hW3
        go_wp2_with fail
        refine CR.out.mono ?_
        rintro e w4 ⟨cv, rfl, ho4, hb4⟩
        obtain ⟨co, ccap, rfl⟩ := row_form ho4
        obtain ⟨C, hC⟩ : ∃ C, C = cutL l := ⟨_, rfl⟩
        rw [← hC] at ho4 ⊢
        have hbs := cutL_bs HO.out.bs
        rw [← hC] at hbs
        have HBS := Lib.hid hbs
        obtain ⟨N, hN⟩ : ∃ N, N = C.length := ⟨_, rfl⟩
        rw [← hN] at ho4 ⊢
        have hN40 : N ≤ 40 := by rw [hN, hC, cutL_len]; omega
        have HN := Lib.hid hN
        have HO4 := Lib.hid ho4
        have HW4 := Lib.hid (show Below w0.heap.size w0 w4 from HW3.out.trans (Below.mono hb4 HW3.out.size))
        have H4 := Lib.hid ((H3.out.rb hb4).rebase (S' := Sx w0.heap.size (.slice co N ccap)) (fun j hj => by
          rcases hj with hj | hj
          · have hs := H3.out.s j hj
            exact ⟨Nat.lt_of_lt_of_le hs.1 (H3.out.rb hb4).size, hs.2.1, H3.out.l j hj⟩
          · have hl := ho4.lt j hj
            exact ⟨hl.2, fun e => by have := H3.out.held.disk.lt j e; omega, fun e => by have := H3.out.held.blk.lt; omega⟩))
        have hD0 : (Dk.new R).room = R ∧ (Dk.new R).log.length + F ≤ R := ⟨rfl, by have := HRF.out; simp [Dk.new, Dk.log]; omega⟩
        have HD0 := Lib.hid hD0
        clear ho4 hb4 hbs hN hC CR HC HKK H2 H3 hD0
        go_wp2_with fail
        go_loopw [49] (fun i wr => ∃ (k : Nat) (D : Dk) (m : Mem), k ≤ N ∧ i = .int .i64 k ∧ LwM w4 (Sx w0.heap.size (.slice co N ccap)) w0.heap.size lb D 0 F wr m ∧ D.room = R ∧ D.log.length + F ≤ R) (fun i _ => N - (intOf i).toNat)
        case atStart => exact ⟨0, Dk.new R, m3, Nat.zero_le _, rfl, H4.out, HD0.out⟩
        case round =>
          obtain ⟨k, D, m, hk, rfl, hm, hroom, hfit⟩ := hrel
          have HM := Lib.hid hm
          have HFIT := Lib.hid (And.intro hroom hfit)
          have hWr := HW4.out.trans (hm.below (B := w0.heap.size) fun j hj => .inl hj)
          have HWR := Lib.hid hWr
          by_cases hlt : k < N
          · obtain ⟨q, hq⟩ : ∃ q, C[k]? = some q := ⟨_, List.getElem?_eq_getElem (by rw [← HN.out]; exact hlt)⟩
            obtain ⟨⟨g, rfl, y0, y1, y2⟩, hqb, hql⟩ := reads_step (fun j hj => (hm.s j hj).2.2) hWr HO4.out HBS.out hq
            have HQ := Lib.hid hqb
            have HQL := Lib.hid hql
            have HSZ := Lib.hid (Nat.le_refl wr.heap.size)
            obtain ⟨q1, q2⟩ := q
            obtain ⟨qk, qn, qv⟩ := q1
            have hq1 : qv.oneCell' = true := (bs_one hqb).1
            have HQ1 := Lib.hid hq1
            clear hm hWr hqb hql hq hq1 hroom hfit
            go_wp2_with (refine wpList_store rfl 59 _ _ rfl wr.heap.size 0 _ _ [_, _, _] _ rfl rfl (Blk.new wr 59 [_, _, _]) rfl sizeop (by simp) (op_one (p := ⟨qk, qn, qv⟩) HQ1.out) ?_)
            intro w5 hb5 hw5
            have hr5 : Rb wr w5 := Wrote.below ((Below.refl _ _).alloc (Nat.le_refl _) _) hw5 (Nat.le_refl _)
            obtain ⟨o0, o1, o2⟩ := Blk.cells3 (show Blk w5 wr.heap.size 59 (opcs ⟨qk, qn, qv⟩) from hb5)
            have HM5 := Lib.hid (HM.out.rb hr5)
            have HQ5 := Lib.hid (HQ.out.below hr5)
            clear hb5 hw5 hr5 y0 y1 y2
            rcases (by omega : qk % 3 = 0 ∨ qk % 3 = 1 ∨ qk % 3 = 2) with hr3 | hr3 | hr3
            · have hm3 : (qk : Int).tmod 3 = 0 := by rw [Int.tmod_eq_emod_of_nonneg (by omega)]; omega
              clear hr3
              go_wp2_with fail
              refine (add_or HM5.out HQ5.out (by have := HQL.out; omega)).mono ?_
              rintro e w6 ⟨c, D', m', rfl, hm6, hD'⟩
              have HM6 := Lib.hid hm6
              have HF6 := Lib.hid (show D'.room = R ∧ D'.log.length + F ≤ R by
                obtain ⟨f1, f2⟩ := HFIT.out
                rcases hD' with ⟨rfl, -, -⟩ | ⟨rfl, -, hf⟩
                · exact ⟨f1, f2⟩
                · refine ⟨f1, ?_⟩
                  rw [append_log, List.length_append]
                  have hp := frameB_pos 0 q2
                  unfold freeN at hf
                  omega)
              clear hm6 hD' o0 o1 o2
              go_wp2
              go_roundw
              case rel => exact ⟨k + 1, D', m', by omega, by go_num, HM6.out, HF6.out⟩
              case measure => simp [intOf]; omega
            · have hm3 : (qk : Int).tmod 3 = 1 := by rw [Int.tmod_eq_emod_of_nonneg (by omega)]; omega
              clear hr3
              go_wp2_with fail
              refine (add_or HM5.out HQ5.out (by have := HQL.out; omega)).mono ?_
              rintro e w6 ⟨c, D', m', rfl, hm6, hD'⟩
              have HM6 := Lib.hid hm6
              have HF6 := Lib.hid (show D'.room = R ∧ D'.log.length + F ≤ R by
                obtain ⟨f1, f2⟩ := HFIT.out
                rcases hD' with ⟨rfl, -, -⟩ | ⟨rfl, -, hf⟩
                · exact ⟨f1, f2⟩
                · refine ⟨f1, ?_⟩
                  rw [append_log, List.length_append]
                  have hp := frameB_pos 0 q2
                  unfold freeN at hf
                  omega)
              clear hm6 hD' o0 o1 o2
              go_wp2
              go_roundw
              case rel => exact ⟨k + 1, D', m', by omega, by go_num, HM6.out, HF6.out⟩
              case measure => simp [intOf]; omega
            · have hm3 : (qk : Int).tmod 3 = 2 := by rw [Int.tmod_eq_emod_of_nonneg (by omega)]; omega
              clear hr3
              go_wp2_with fail
              refine (sync_w HM5.out).mono ?_
              rintro e w6 ⟨rfl, m', hm6⟩
              have HM6 := Lib.hid hm6
              have HF6 := Lib.hid (show D.sync.room = R ∧ D.sync.log.length + F ≤ R by
                obtain ⟨f1, f2⟩ := HFIT.out
                rw [sync_log]
                exact ⟨f1, f2⟩)
              clear hm6 o0 o1 o2
              go_wp2
              go_roundw
              case rel => exact ⟨k + 1, D.sync, m', by omega, by go_num, HM6.out, HF6.out⟩
              case measure => simp [intOf]; omega
          · clear hWr hm
            have hn : (wr.heap.size : Int) = wr.heap.size := rfl
            go_wp2_with fail
            refine (let_nil 1 wr).mono ?_
            rintro e w5 ⟨rfl, rfl⟩
            go_wp2_with fail
            refine (lsync_nil wr).mono ?_
            rintro e w5 ⟨rfl, rfl⟩
            have hFe : (frameB 0 xb).length ≤ F := by rw [HF.out]; exact Nat.le_refl _
            have CK := addkept_fits lb m D 0 F _ xb wr HM.out.held (HX.out.below HWR.out) (by have := HXL.out; omega) hFe (by have := HFIT.out; have := HF.out; omega)
            rw [show F - (frameB 0 xb).length = 0 by have := HF.out; omega] at CK
            have CK := Lib.hid CK
            clear hroom hfit hFe
            go_wp2_with fail
            refine CK.out.mono ?_
            rintro e w6 ⟨rfl, ht⟩
            obtain ⟨m6, h6⟩ := HM.out.turn ht
            have HM6 := Lib.hid h6
            have CP := Lib.hid (kept_any lb m6 _ 0 0 w6 h6.held)
            clear ht h6 CK
            go_wp2_with fail
            refine CP.out.mono ?_
            rintro e w7 ⟨rfl, rfl⟩
            go_wp2_with fail
            refine (add_nil _ w6).mono ?_
            rintro e w7 ⟨rfl, rfl⟩
            go_wp2_with fail
            refine (addkept_nil _ w6).mono ?_
            rintro e w7 ⟨rfl, rfl⟩
            go_wp2_with fail
            refine (keep_nil 1 w6).mono ?_
            rintro e w7 ⟨rfl, rfl⟩
            go_wp2_with fail
            refine (check_nil _ w6).mono ?_
            rintro e w7 ⟨rfl, rfl⟩
            go_wp2_with fail
            refine (free_nil w6).mono ?_
            rintro e w7 ⟨rfl, rfl⟩
            go_wp2_with fail
            refine (kept_nil w6).mono ?_
            rintro e w7 ⟨rfl, rfl⟩
            go_wp2_with fail
            refine (gen_nil w6).mono ?_
            rintro e w7 ⟨rfl, rfl⟩
            go_wp2_with fail
            refine (lives_any w6).mono ?_
            rintro e w7 ⟨rfl, hr⟩
            have HW := Lib.hid (HW4.out.trans ((HM6.out.rb hr).below (B := w0.heap.size) fun j hj => .inl hj))
            clear hr
            go_wp2
            go_ret
            exact ⟨rfl, HW.out⟩
end Go.Proofs.Ytbdgdmieggpmhaa.L4
