/-
  Layer 4: the document's Text and Image; the law's cut and its example.
-/
import Derived.Test.YtbdgdmieggpmhaaW4
import Derived.Lib.SlBytesConst
namespace Go.Proofs.Ytbdgdmieggpmhaa.L4
open Go.ChangeShapes Go.WideShapes Go.ChangeAt Go.RowKit Oct By Reg L3
set_option linter.unusedVariables false

theorem cut_any (v : Value) (ys : List UInt8) (w : World) (hb : Bs w v ys) :
    Calls Try.prog 10 #[v] w fun e w' => (∃ u, e = .returned u ∧ Bs w u (ys.take 300)) ∧ w = w' := by
  obtain ⟨ao, cap, rfl, h2, h3, h4, h5⟩ := hb
  have hcap : cap ≤ 9223372036854775807 := by unfold maxLen at h3; omega
  have H : ∀ n, n = min ys.length 300 → Bs w (.slice ao n cap) (ys.take 300) := fun n hn => by
    have hl : (ys.take 300).length = n := by rw [List.length_take, hn, Nat.min_comm]
    rw [← hl]
    refine ⟨ao, cap, rfl, by rw [List.length_take]; omega, h3, h4, fun ad ha j u hu => h5 ad ha j u ?_⟩
    rw [List.map_take, List.getElem?_take] at hu
    split at hu
    · exact hu
    · cases hu
  have HH := Lib.hid H
  clear H h4 h5 h3
  go_enter Try.func10, Try.ntmps10
  go_wp2
  · go_ret
    exact ⟨⟨_, rfl, HH.out 300 (by omega)⟩, rfl⟩
  · go_ret
    exact ⟨⟨_, rfl, HH.out ys.length (by omega)⟩, rfl⟩

theorem Bs.upto {w : World} {ao : Option Addr} {n cap : Nat} {X : List UInt8} (hb : Bs w (.slice ao n cap) X) (h : Nat) (hh : h ≤ X.length) : Bs w (.slice ao h cap) (X.take h) := by
  obtain ⟨ao', cap', e, h2, h3, h4, h5⟩ := hb
  simp only [Value.slice.injEq] at e
  obtain ⟨rfl, rfl, rfl⟩ := e
  have hl : (X.take h).length = h := by rw [List.length_take]; omega
  refine ⟨ao, cap, by rw [hl], by rw [hl]; omega, h3, h4, fun ad ha j u hu => h5 ad ha j u ?_⟩
  rw [List.map_take, List.getElem?_take] at hu
  split at hu
  · exact hu
  · cases hu

theorem head1 : headB 1 [97, 98] = [0, 0, 0, 1, 2, 97, 98] := by
  unfold headB textB; rw [uintB_small (by decide)]; rfl
theorem conv_bs {w : World} {v : Value} {xs : List UInt8} (h : Bs w v xs) : (convert 23 9 v).run Try.prog w = .ok (.string (str xs)) w :=
  run_convert_Bs h 23 5 9 Try.underlying23 Try.underlying5 Try.underlying9

set_option maxRecDepth 100000 in
theorem lives_any (w : World) : Calls Try.prog 17 #[] w fun e w' => e = .returned (.bool true) ∧ Rb w w' := by
  have hts : ∀ xs, (str xs).toList = xs := fun xs => Lib.toList_data _
  have kcs := fun (w : World) (C : Array Value) (n c : Nat) => Lib.run_convert_bytes_const (P := Try.prog) w 23 5 C n c Try.underlying23 Try.underlying5
  have hc2 : costN 2 = 11 := by
    unfold costN
    rw [show clampN 2 = 2 from rfl, sizeN_small (by decide)]
  go_enter Try.func17, Try.ntmps17
  go_wp2_with fail
  clear kcs
  have hL := Bs.marked w 5 (2, 3) [97, 98] (by simp [maxLen])
  have HA := Lib.hid ((Rb.refl w).alloc (Nat.le_refl _) (.cells (List.map c8 [97, 98]).toArray 5 (2, 3)))
  have c1 := frame_any _ 1 _ _ hL (by simp) (by omega)
  have hfl : (frameB 1 [97, 98]).length = 11 := by rw [frameB_len, show ([97, 98] : List UInt8).length = 2 from rfl, sizeN_small (by decide)]
  have hft : (frameB 1 [97, 98]).take 7 = [0, 0, 0, 1, 2, 97, 98] := by
    unfold frameB; rw [head1]; rfl
  generalize frameB 1 [97, 98] = FB at *
  refine c1.mono ?_
  rintro e w1 ⟨g, cap, rfl, h2, h3⟩
  have hb := Bs.of_owns h2
  rw [hfl] at hb ⊢
  have k1 := conv_bs (Bs.upto hb 7 (by omega))
  have hcap : 11 ≤ cap := by
    obtain ⟨_, _, e, hh, _⟩ := hb.len
    simp only [Value.slice.injEq] at e
    omega
  have p1 : (7 : Int) ≤ (cap : Int) := by omega
  rw [hft] at k1
  have H3 := Lib.hid (Rb.trans _ _ _ HA.out h3)
  have C := Lib.hid (cost_any 2 w1)
  rw [hc2] at C
  clear c1 h2 h3 hL hb hfl hft hc2
  go_wp2_with fail
  refine C.out.mono ?_
  rintro e w2 ⟨rfl, rfl⟩
  go_wp2
  go_ret
  exact ⟨rfl, H3.out⟩

/-! ### the document's Text -/
theorem wacc4 (Y : List UInt8) : wacc Y 4 = bt Y 0 * 16777216 + bt Y 1 * 65536 + bt Y 2 * 256 + bt Y 3 := by
  simp only [wacc]; omega
theorem extract_part (X : List UInt8) (i n : Nat) : (str X).extract i (i + n) = str ((X.drop i).take n) := by
  apply ByteArray.ext
  apply Array.toList_inj.1
  simp [str, ByteArray.data_extract]
def TextQ (w : World) (X : List UInt8) (i : Nat) (e : Ending) (w' : World) : Prop :=
  Rb w w' ∧ e = .returned (match headF (X.drop i) with
    | none => .tuple #[.string (str []), .int .i64 0]
    | some (g, s) => .tuple #[.string (str s), .int .i64 ((frameB g s).length : Nat)])

set_option maxRecDepth 100000 in
theorem rtext_short (X : List UInt8) (i : Nat) (w : World) (hx : X.length ≤ 100000000) (h : ¬ i + 4 ≤ X.length) :
    Calls Try.prog 49 #[.string (str X), .int .i64 (i : Int)] w fun e w' => e = .returned (.tuple #[.string (str []), .int .i64 0]) ∧ Rb w w' := by
  have kc := fun (w : World) => Lib.run_convert_string_bytes (P := Try.prog) w 9 23 5 (str X) Try.underlying9 Try.underlying23 Try.underlying5
  have hz : ((str X).size : Int) = (X.length : Int) := by rw [str_size]
  have hB := bytesWorld_below w 5 (str X)
  have f1 : (i : Int) > (X.length : Int) - 4 := by omega
  have f2 : IntKind.i64.wrap ((X.length : Int) - 4) = (X.length : Int) - 4 := IntWalk.i64_in _ (by omega)
  have HB := Lib.hid hB
  clear hB
  go_enter Try.func49, Try.ntmps49
  go_wp2
  go_ret2
  exact ⟨rfl, HB.out⟩

set_option maxRecDepth 100000 in
theorem rtext_in (X : List UInt8) (i : Nat) (w : World) (hx' : X.length ≤ 10000000) (h : i + 4 ≤ X.length) :
    Calls Try.prog 49 #[.string (str X), .int .i64 (i : Int)] w (TextQ w X i) := by
  have hx : X.length ≤ 100000000 := by omega
  have kc := fun (w : World) => Lib.run_convert_string_bytes (P := Try.prog) w 9 23 5 (str X) Try.underlying9 Try.underlying23 Try.underlying5
  have hz : ((str X).size : Int) = (X.length : Int) := by rw [str_size]
  have hF := bytes_fresh w X hx
  have hB := bytesWorld_below w 5 (str X)
  have f1 : ¬ (i : Int) > (X.length : Int) - 4 := by omega
  have f2 : IntKind.i64.wrap ((X.length : Int) - 4) = (X.length : Int) - 4 := IntWalk.i64_in _ (by omega)
  have f0 : ¬ (i : Int) < 0 := by omega
  have HB := Lib.hid hB
  clear hB
  go_enter Try.func49, Try.ntmps49
  go_upto_region 4 with (fail)
  obtain ⟨-, -, -, hb, -⟩ := hF
  obtain ⟨b, o, cap, e1, h2, h3, hc⟩ := hb.form (by omega)
  rw [e1]
  generalize Lib.bytesWorld w 5 (str X) = wb at *
  have hB2 := Lib.hid hb
  clear hb
  clear kc f1 f2
  rw [e1] at hB2
  clear e1
  have c0 := hc i (by omega)
  have c1 := hc (i + 1) (by omega)
  have c2 := hc (i + 2) (by omega)
  have c3 := hc (i + 3) (by omega)
  have b0 := bt_lt X i
  have b1 := bt_lt X (i + 1)
  have b2 := bt_lt X (i + 2)
  have b3 := bt_lt X (i + 3)
  have l0 : (i : Int) < (X.length : Int) := by omega
  have l1 : (i : Int) + 1 < (X.length : Int) := by omega
  have l2 : (i : Int) + 2 < (X.length : Int) := by omega
  have l3 : (i : Int) + 3 < (X.length : Int) := by omega
  clear hc
  have hg : ((bt X i : Int) * 16777216 + (bt X (i + 1) : Int) * 65536 + (bt X (i + 2) : Int) * 256 + (bt X (i + 3) : Int)) = ((wacc (X.drop i) 4 : Nat) : Int) := by
    rw [wacc4, bt_drop, bt_drop, bt_drop, bt_drop]; simp only [Nat.add_zero]; omega
  have HQ : Hid (∀ e w', Rb w w' → (e = .returned (match headF (X.drop i) with
    | none => .tuple #[.string (str []), .int .i64 0]
    | some (g, s) => .tuple #[.string (str s), .int .i64 ((frameB g s).length : Nat)])) → TextQ w X i e w') := fun e w' h1 h2 => ⟨h1, h2⟩
  have HW : Hid (wacc (X.drop i) 4 < 4294967296) := wacc4_lt _
  have hp := fun s m => headF_parts (Y := X.drop i) (s := s) (m := m) (by rw [List.length_drop]; omega)
  rw [← gt_at_drop h] at hp
  have HP := Lib.hid hp
  have HD : Hid (∀ s m, gt X ((i + 4 : Nat) : Int) X.length = some (s, m) → headF (X.drop i) = if (X.drop i).take (frameB (wacc (X.drop i) 4) s).length = frameB (wacc (X.drop i) 4) s then some (wacc (X.drop i) 4, s) else none) := fun s m h0 => by
    rw [gt_at_drop h] at h0
    conv => lhs; unfold headF
    rw [if_pos (by rw [List.length_drop]; omega), h0]
  have HN : Hid (gt X ((i + 4 : Nat) : Int) X.length = none → headF (X.drop i) = none) := fun h0 => by
    rw [gt_at_drop h] at h0
    unfold headF
    rw [if_pos (by rw [List.length_drop]; omega), h0]
  clear hp
  generalize TextQ w X i = QQ at *
  generalize wacc (X.drop i) 4 = g at *
  have HG := Lib.hid hg
  clear hg
  generalize bt X i = x0 at *
  generalize bt X (i + 1) = x1 at *
  generalize bt X (i + 2) = x2 at *
  generalize bt X (i + 3) = x3 at *
  go_quiet (fail)
  rw [HG.out]
  clear c0 c1 c2 c3 b0 b1 b2 b3 l0 l1 l2 l3 HG
  have hr : Rb w (wb.drewN nq) := Rb.trans _ _ _ HB.out (drewN_rb _ _)
  have hb3 := Bs.below (drewN_rb wb nq) hB2.out
  generalize wb.drewN nq = w1 at *
  have HB3 := Lib.hid hb3
  have HR := Lib.hid hr
  have C := Lib.hid (reftext_get _ X ((i + 4 : Nat) : Int) X.length w1 hb3 hx (by omega))
  clear hb3 hr hB2 HB
  have f1 : IntKind.i64.wrap ((X.length : Int) - (i : Int)) = (X.length : Int) - (i : Int) := IntWalk.i64_in _ (by omega)
  cases hgt : gt X ((i + 4 : Nat) : Int) X.length with
  | none =>
    have hn := HN.out hgt
    rw [hgt] at C
    have C : Hid (Calls _ _ _ _ fun e w' => e = .returned (.tuple #[.string (str []), .int .i64 0]) ∧ Below w1.heap.size w1 w') := C
    rw [hn] at HQ
    clear HP HN hgt hn
    go_wp2_with fail
    refine C.out.mono ?_
    rintro e w2 ⟨rfl, hb⟩
    have HB := Lib.hid (Rb.trans _ _ _ HR.out hb)
    clear hb
    go_wp2
    exact HQ.out _ _ HB.out rfl
  | some p =>
    obtain ⟨s, m⟩ := p
    rw [hgt] at C
    have C : Hid (Calls _ _ _ _ fun e w' => e = .returned (.tuple #[.string (str s), .int .i64 (m : Int)]) ∧ Below w1.heap.size w1 w') := C
    obtain ⟨p1, p2, p3, p4, p5⟩ := HP.out s m hgt
    have hd : (X.drop i).length = X.length - i := List.length_drop
    have hsl : s.length ≤ 10000000 := by have := gt_text hgt; omega
    have hm0 : ((m : Int) == 0) = false := by
      have := gt_lt hgt
      simp; omega
    have C2 := fun w => Lib.hid (refframe_any g s w hsl HW.out)
    have HD2 := Lib.hid (HD.out s m hgt)
    clear HP HN hgt HD
    go_wp2_with fail
    refine C.out.mono ?_
    rintro e w2 ⟨rfl, hb⟩
    have HB := Lib.hid (Rb.trans _ _ _ HR.out hb)
    clear hb
    go_wp2_with fail
    refine (C2 _).out.mono ?_
    rintro e w3 ⟨rfl, hb⟩
    have HB4 := Lib.hid (Rb.trans _ _ _ HB.out hb)
    clear hb C2
    have hz2 : ((str (frameB g s)).size : Int) = ((4 + m + 4 : Nat) : Int) := by rw [str_size, p4]
    by_cases hl : i + (4 + m + 4) ≤ X.length
    · have q1 : ¬ (X.length : Int) - (i : Int) < ((4 + m + 4 : Nat) : Int) := by omega
      have hts : ∀ xs, (str xs).toList = xs := fun xs => Lib.toList_data _
      have hex : (str X).extract i (i + (4 + m + 4)) = str ((X.drop i).take (4 + m + 4)) := extract_part X i _
      have HD3 := HD2.out
      rw [p4] at HD3
      have HP4 := Lib.hid p4
      have q2 : IntKind.i64.wrap ((i : Int) + ((4 + m + 4 : Nat) : Int)) = (i : Int) + ((4 + m + 4 : Nat) : Int) := IntWalk.i64_in _ (by omega)
      have q3 : (i : Int) + ((4 + m + 4 : Nat) : Int) ≤ (X.length : Int) := by omega
      have q4 : ((i : Int) + ((4 + m + 4 : Nat) : Int)).toNat = i + (4 + m + 4) := by omega
      clear p1 p2 p3 p4 p5 hd hl
      generalize 4 + m + 4 = L at *
      by_cases hq : (X.drop i).take L = frameB g s
      · rw [if_pos hq] at HD3
        rw [HD3] at HQ
        have HQ2 := Lib.hid (HQ.out)
        rw [hq] at hex
        simp only [HP4.out] at HQ2
        clear HD3 HQ hq HP4 HD2
        generalize frameB g s = F at *
        go_wp2
        exact HQ2.out _ _ HB4.out rfl
      · rw [if_neg hq] at HD3
        rw [HD3] at HQ
        have hq' : ((X.drop i).take L == frameB g s) = false := by simpa using hq
        clear HD3 hq HP4 HD2
        generalize frameB g s = F at *
        generalize (X.drop i).take L = G at *
        go_wp2
        exact HQ.out _ _ HB4.out rfl
    · have q1 : (X.length : Int) - (i : Int) < ((4 + m + 4 : Nat) : Int) := by omega
      rw [p5, if_neg (fun h' => by omega)] at HQ
      generalize frameB g s = F at *
      have HP4 := Lib.hid p4
      clear p1 p2 p3 p4 p5 hd
      generalize 4 + m + 4 = L at *
      go_wp2
      exact HQ.out _ _ HB4.out rfl

theorem rtext_any (X : List UInt8) (i : Nat) (w : World) (hx : X.length ≤ 10000000) (hi : i ≤ X.length) :
    Calls Try.prog 49 #[.string (str X), .int .i64 (i : Int)] w (TextQ w X i) := by
  by_cases h : i + 4 ≤ X.length
  · exact rtext_in X i w hx h
  · refine (rtext_short X i w (by omega) h).mono fun e w' ⟨he, hr⟩ => ⟨hr, ?_⟩
    have hn : headF (X.drop i) = none := by
      unfold headF
      rw [if_neg (by rw [List.length_drop]; omega)]
    rw [hn]
    exact he

/-! ### the document's Image -/
def RImgQ (w : World) (Y : List UInt8) (e : Ending) (w' : World) : Prop :=
  Rb w w' ∧ e = .returned (match imageF Y with
    | none => .tuple #[.int .u32 0, .string (str []), .bool false]
    | some (g, s) => .tuple #[.int .u32 g, .string (str s), .bool true])

set_option maxRecDepth 100000 in
theorem rimage_any (Y : List UInt8) (w : World) (hx : Y.length ≤ 10000000) : Calls Try.prog 13 #[.string (str Y)] w (RImgQ w Y) := by
  have C := rtext_any Y 0 w hx (Nat.zero_le _)
  unfold TextQ at C
  rw [List.drop_zero] at C
  have hz : ((str Y).size : Int) = (Y.length : Int) := by rw [str_size]
  have HI : Hid (imageF Y = match headF Y with | some (g, s) => if (frameB g s).length = Y.length then some (g, s) else none | none => none) := rfl
  have HQ : Hid (∀ e w', Rb w w' → (e = .returned (match imageF Y with
    | none => .tuple #[.int .u32 0, .string (str []), .bool false]
    | some (g, s) => .tuple #[.int .u32 g, .string (str s), .bool true])) → RImgQ w Y e w') := fun e w' h1 h2 => ⟨h1, h2⟩
  generalize RImgQ w Y = QQ at *
  cases hh : headF Y with
  | none =>
    rw [hh] at C HI
    rw [HI.out] at HQ
    have HC : Hid (Calls _ _ _ _ fun e w' => Rb w w' ∧ e = .returned (.tuple #[.string (str []), .int .i64 0])) := C
    clear C hh HI
    go_enter Try.func13, Try.ntmps13
    go_wp2_with fail
    refine HC.out.mono ?_
    rintro e w' ⟨hr, rfl⟩
    have HR := Lib.hid hr
    clear hr
    go_wp2
    go_ret3
    exact HQ.out _ _ HR.out rfl
  | some p =>
    obtain ⟨g, s⟩ := p
    rw [hh] at C HI
    have HI : Hid (imageF Y = if (frameB g s).length = Y.length then some (g, s) else none) := HI
    obtain ⟨hg, hs, r, hr⟩ := headF_some hh
    have hp := frameB_pos g s
    have HC : Hid (Calls _ _ _ _ fun e w' => Rb w w' ∧ e = .returned (.tuple #[.string (str s), .int .i64 ((frameB g s).length : Nat)])) := C
    clear C hh
    by_cases hn : (frameB g s).length = Y.length
    · have hr0 : r = [] := by
        have := congrArg List.length hr
        rw [List.length_append] at this
        exact List.eq_nil_of_length_eq_zero (by omega)
      rw [hr0, List.append_nil] at hr
      rw [HI.out, if_pos hn] at HQ
      have hY4 : 4 ≤ Y.length := by omega
      have hw : wacc Y 4 = g := by
        rw [hr, show frameB g s = wordB g ++ (textB s ++ wordB (sumN (headB g s))) by simp [frameB, headB]]
        exact wacc_word g hg _
      rw [hn] at HC hp
      have hG : ((bt Y 0 : Int) * 16777216 + (bt Y 1 : Int) * 65536 + (bt Y 2 : Int) * 256 + (bt Y 3 : Int)) = (g : Int) := by
        rw [← hw, wacc4]; omega
      have HG := Lib.hid hG
      clear hG
      have b0 := bt_lt Y 0
      have b1 := bt_lt Y 1
      have b2 := bt_lt Y 2
      have b3 := bt_lt Y 3
      clear hn hr hr0 hw HI hs hp
      have hix : ∀ (k : Nat), k < 4 → ∀ w, (Instr.index 9 (.string (str Y)) (.int .i64 (k : Int))).run Try.prog w = .ok (.int .u8 (bt Y k : Int)) w := fun k hk w => by
        have hs : (str Y).size = Y.length := str_size Y
        rw [run_index_string w 9 (str Y) .i64 k Try.underlying9, dif_pos ⟨by omega, by omega⟩]
        congr 2
        unfold bt
        rw [List.getD_eq_getElem?_getD, List.getElem?_eq_getElem (by omega)]
        simp [str, ByteArray.getElem_eq_getElem_data]
      have i0 : ∀ w, (Instr.index 9 (.string (str Y)) (.int .i64 0)).run Try.prog w = .ok (.int .u8 (bt Y 0 : Int)) w := hix 0 (by omega)
      have i1 : ∀ w, (Instr.index 9 (.string (str Y)) (.int .i64 1)).run Try.prog w = .ok (.int .u8 (bt Y 1 : Int)) w := hix 1 (by omega)
      have i2 : ∀ w, (Instr.index 9 (.string (str Y)) (.int .i64 2)).run Try.prog w = .ok (.int .u8 (bt Y 2 : Int)) w := hix 2 (by omega)
      have i3 : ∀ w, (Instr.index 9 (.string (str Y)) (.int .i64 3)).run Try.prog w = .ok (.int .u8 (bt Y 3 : Int)) w := hix 3 (by omega)
      clear hix
      generalize bt Y 0 = x0 at *
      generalize bt Y 1 = x1 at *
      generalize bt Y 2 = x2 at *
      generalize bt Y 3 = x3 at *
      have hY0 : ((Y.length : Int) == 0) = false := by rw [beq_eq_false_iff_ne]; omega
      go_enter Try.func13, Try.ntmps13
      go_wp2_with fail
      refine HC.out.mono ?_
      rintro e w' ⟨hr, rfl⟩
      have HR := Lib.hid hr
      clear hr
      go_upto_region 4 with (fail)
      go_quiet (fail)
      rw [HG.out]
      have hr2 : Rb w (w'.drewN nq) := Rb.trans _ _ _ HR.out (drewN_rb _ _)
      generalize w'.drewN nq = w2 at *
      go_wp2
      go_ret3
      exact HQ.out _ _ hr2 rfl
    · rw [HI.out, if_neg hn] at HQ
      have hn' : (((frameB g s).length : Int) == (Y.length : Int)) = false := by rw [beq_eq_false_iff_ne]; omega
      have hn0 : (((frameB g s).length : Int) == 0) = false := by rw [beq_eq_false_iff_ne]; omega
      clear HI hn hr
      generalize (frameB g s).length = n at *
      have hn2 : ¬ (n : Int) = (Y.length : Int) := by simpa using hn'
      clear hn' hp
      go_enter Try.func13, Try.ntmps13
      go_wp2_with fail
      refine HC.out.mono ?_
      rintro e w' ⟨hr, rfl⟩
      have HR := Lib.hid hr
      clear hr
      go_wp2
      go_ret3
      exact HQ.out _ _ HR.out rfl
end Go.Proofs.Ytbdgdmieggpmhaa.L4
