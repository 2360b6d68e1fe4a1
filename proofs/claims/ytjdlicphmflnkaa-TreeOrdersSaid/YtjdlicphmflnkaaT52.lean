/-
  Layer 5: TreeOrders.
-/
import Derived.Test.YtjdlicphmflnkaaT50
namespace Go.Proofs.Ytjdlicphmflnkaa.L5
open Go.ChangeShapes Go.WideShapes Go.ChangeAt Go.RowKit Go.Shelf By Reg
set_option linter.unusedVariables false
attribute [local go_sem] Oper.semAt_some

set_option maxHeartbeats 4000000 in
set_option maxRecDepth 100000 in
theorem orders_walk (w : World) (v : Value) (ks : List Int) (h : Sl w v (ks.map i64)) (hks : ∀ k ∈ ks, -9223372036854775808 ≤ k ∧ k ≤ 9223372036854775807) (other : Int) :
    Calls Try.prog 7 #[v, i64 other] w fun e w' => e = .returned (.bool true) ∧ Below w.heap.size w w' := by
  obtain ⟨ao, cap, rfl, hcap, hcell⟩ := h.form
  have HC := Lib.hid hcell
  clear hcell h
  refine (callsIn_wide (n := 7)).1 (callsIn_of_wp_marks Try.func7 rfl trivial (wpIn_wide.2 ?_) rfl)
  simp only [Try.ntmps7, List.size_toArray, List.length_cons, List.length_nil, Nat.reduceAdd, Nat.reduceSub, Array.replicate_succ, Array.replicate_zero, List.push_toArray, List.append_toArray, List.nil_append, List.cons_append]
  go_upto_region 2 with fail
  obtain ⟨n, hm⟩ : ∃ n : Nat, n = (min (↑ks.length) 200 : Int).toNat := ⟨_, rfl⟩
  rw [← hm]
  have hnl : n ≤ ks.length ∧ n ≤ 200 := by omega
  have hncap : n ≤ cap := by omega
  have hn200 := hnl.2
  have HNL := Lib.hid hnl
  obtain ⟨W1, e1⟩ : ∃ W1, W1 = ((w.alloc (.cells #[.bool false] 4)).alloc (.cells #[.pointer none, i64 0] 26)).alloc (.cells #[.pointer none, i64 0] 26) := ⟨_, rfl⟩
  have T1 : Hid (Trees2 w w.heap.size (w.heap.size + 1) (w.heap.size + 1 + 1) W1 [] [] (fun k => k = w.heap.size + 1) (fun k => k = w.heap.size + 1 + 1)) := by
    have b0 : Blk W1 w.heap.size 4 [.bool false] := by
      rw [e1]; exact ((Blk.new w _ [.bool false]).rb ((Below.refl _ _).alloc (Nat.le_refl _) _)).rb ((Below.refl _ _).alloc (Nat.le_refl _) _)
    have b1 : Blk W1 (w.heap.size + 1) 26 [.pointer none, i64 0] := by
      have := (Blk.new (w.alloc (.cells #[.bool false] 4)) 26 [.pointer none, i64 0]).rb ((Below.refl _ _).alloc (Nat.le_refl _) (.cells #[.pointer none, i64 0] 26))
      rw [e1]; simpa using this
    have b2 : Blk W1 (w.heap.size + 1 + 1) 26 [.pointer none, i64 0] := by
      have := Blk.new ((w.alloc (.cells #[.bool false] 4)).alloc (.cells #[.pointer none, i64 0] 26)) 26 [.pointer none, i64 0]
      rw [e1]; simpa using this
    refine ⟨.inl ⟨b1, rfl, fun _ => Iff.rfl⟩, .inl ⟨b2, rfl, fun _ => Iff.rfl⟩, fun k h1 h2 => by omega, fun k h1 => by omega, fun k h1 => by omega, b0, ?_⟩
    rw [e1]; exact (((Below.refl _ w).alloc (Nat.le_refl _) _).alloc (by simp) _).alloc (by simp; omega) _
  have E1 := Lib.hid e1
  clear e1 hm hnl
  have CELL : Hid (∀ W, Rb w W → ∀ j, j < n → ∃ b off, ao = some ⟨b, off, none⟩ ∧ W.cell? ⟨b, off + j, none⟩ = some (i64 (ks.getD j 0))) := fun W hr j hj => by
    obtain ⟨b, off, h1, h2⟩ := HC.out j (by have := HNL.out; omega)
    exact ⟨b, off, h1, by rw [Below.cell hr (World.block_lt_of_cell? w _ h2)]; exact h2⟩
  go_wp2_with (rw [← E1.out])
  go_loopg [22] n (fun gk s22 wr => ∃ (i : Nat) (FA FB : Nat → Prop), s22 = .int .i64 i ∧ i ≤ n ∧ n - i ≤ gk ∧ Hid (Trees2 w w.heap.size (w.heap.size + 1) (w.heap.size + 1 + 1) wr (aN ks i) [] FA FB))
  case atStart => exact ⟨0, _, _, rfl, Nat.zero_le _, by omega, T1.out⟩
  case round =>
    obtain ⟨i, FA, FB, rfl, h1, h2, hT⟩ := hrel
    by_cases hin : i < n
    · obtain ⟨q, hq⟩ : ∃ q : Nat, q = n - 1 - i := ⟨_, rfl⟩
      have hqn : q < n := by omega
      obtain ⟨b, off, rfl, hc1⟩ := CELL.out wr hT.out.rb i hin
      have HI : Hid (i < n ∧ n - i ≤ gk) := ⟨hin, h2⟩
      have hw1 : IntKind.i64.wrap ((n : Int) - 1) = (n : Int) - 1 := by rw [IntKind.wrap_i64]; omega
      have hw2 : IntKind.i64.wrap ((n : Int) - 1 - (i : Int)) = (q : Int) := by rw [IntKind.wrap_i64]; omega
      have hw3 : (n : Int) - 1 - (i : Int) = (q : Int) := by omega
      obtain ⟨k1, hk1⟩ : ∃ k, k = ks.getD i 0 := ⟨_, rfl⟩
      obtain ⟨k2, hk2⟩ : ∃ k, k = ks.getD q 0 := ⟨_, rfl⟩
      rw [← hk1] at hc1
      have hle := aN_le ks i
      have CA := Lib.hid (tput k1 1 wr (w.heap.size + 1) (aN ks i) FA hT.out.ta (by omega))
      have HK1 := Lib.hid hk1
      have HK2 := Lib.hid hk2
      unfold TPut at CA
      clear h1 h2 hk1 hk2 hq hle
      go_wp2_with (go_at_call 16; refine CA.out.mono ?_)
      first | (rintro e w2 FA2 rfl t2 f2 n2) | (rintro e w2 ⟨FA2, rfl, t2, f2, n2⟩)
      have T2 := Lib.hid (hT.out.stepA t2 f2 n2)
      obtain ⟨b', off', eb, hc2⟩ := CELL.out w2 T2.out.rb q hqn
      cases eb
      rw [← HK2.out] at hc2
      have CB : ∀ y : Int, Hid (Calls Try.prog 16 #[ptrv (w.heap.size + 1 + 1), i64 y, i64 0] w2 (TPut y 0 w2 (w.heap.size + 1 + 1) [] FB)) := fun y => tput y 0 w2 _ [] FB T2.out.tb (by simp)
      unfold TPut at CB
      clear t2 f2 n2 CA hc1
      go_wp2_with (go_at_call 16; refine (CB _).out.mono ?_)
      first | (rintro e w3 FB3 rfl t3 f3 n3) | (rintro e w3 ⟨FB3, rfl, t3, f3, n3⟩)
      have T3 := Lib.hid (T2.out.stepB t3 f3 n3)
      obtain ⟨b', off', eb, hc3⟩ := CELL.out w3 T3.out.rb q hqn
      cases eb
      rw [← HK2.out] at hc3
      have CX := Lib.hid (tdel (bits BinOp.xor IntKind.i64 k2 other) w3 _ _ FB3 t3 (Nat.le_trans (putL_le _ _ _) (by simp)))
      unfold TDel at CX
      clear t3 f3 n3 CB hc2
      go_wp2_with (go_at_call 15; refine CX.out.mono ?_)
      first | (rintro e w4 FB4 rfl t4 f4 n4) | (rintro e w4 ⟨FB4, rfl, t4, f4, n4⟩)
      rw [del_put_nil] at t4
      have T4 := Lib.hid (T3.out.stepB t4 f4 n4)
      clear t4 f4 n4 CX hc3
      go_wp2
      go_roundg (n - (i + 1))
      case measure => have := HI.out; omega
      case rel => exact ⟨i + 1, FA2, FB4, by rw [show ((i : Int) + 1) = ((i + 1 : Nat) : Int) by omega], HI.out.1, Nat.le_refl _, by rw [aN, ← HK1.out]; exact T4.out⟩
    · have hni : n = i := by omega
      subst hni
      have TA := hT
      clear hT
      clear hin h1 h2 T1 E1
      go_wp2
      go_loopg [55] n (fun gk s55 wr => ∃ (i : Nat) (FA FB : Nat → Prop), s55 = .int .i64 i ∧ i ≤ n ∧ n - i ≤ gk ∧ Hid (Trees2 w w.heap.size (w.heap.size + 1) (w.heap.size + 1 + 1) wr (aN ks n) (bN ks n i) FA FB))
      case atStart => exact ⟨0, _, _, rfl, Nat.zero_le _, by omega, TA.out⟩
      case round =>
        clear TA FA FB
        obtain ⟨i, FA, FB, rfl, h1, h2, hT⟩ := hrel
        by_cases hin : i < n
        · obtain ⟨q, hq⟩ : ∃ q : Nat, q = n - 1 - i := ⟨_, rfl⟩
          have hqn : q < n := by omega
          obtain ⟨b, off, rfl, hc1⟩ := CELL.out wr hT.out.rb q hqn
          have HI : Hid (i < n ∧ n - i ≤ gk) := ⟨hin, h2⟩
          have hw1 : IntKind.i64.wrap ((n : Int) - 1) = (n : Int) - 1 := by rw [IntKind.wrap_i64]; omega
          have hw2 : IntKind.i64.wrap ((n : Int) - 1 - (i : Int)) = (q : Int) := by rw [IntKind.wrap_i64]; omega
          have hw3 : (n : Int) - 1 - (i : Int) = (q : Int) := by omega
          obtain ⟨k2, hk2⟩ : ∃ k, k = ks.getD q 0 := ⟨_, rfl⟩
          rw [← hk2] at hc1
          have hle := bN_le ks n i
          have CB := Lib.hid (tput k2 1 wr (w.heap.size + 1 + 1) (bN ks n i) FB hT.out.tb (by omega))
          have HK2 : Hid (k2 = ks.getD (n - 1 - i) 0) := by rw [← hq]; exact hk2
          unfold TPut at CB
          clear h1 h2 hk2 hq hle
          go_wp2_with (go_at_call 16; refine CB.out.mono ?_)
          first | (rintro e w2 FB2 rfl t2 f2 n2) | (rintro e w2 ⟨FB2, rfl, t2, f2, n2⟩)
          have T2 := Lib.hid (hT.out.stepB t2 f2 n2)
          clear t2 f2 n2 CB hc1
          go_wp2
          go_roundg (n - (i + 1))
          case measure => have := HI.out; omega
          case rel => exact ⟨i + 1, FA, FB2, by rw [show ((i : Int) + 1) = ((i + 1 : Nat) : Int) by omega], HI.out.1, Nat.le_refl _, by rw [bN, ← HK2.out]; exact T2.out⟩
        · have hni : n = i := by omega
          subst hni
          have TB := hT
          rw [← aN_bN] at TB
          clear hin h1 h2 hT
          have hrange : ∀ t ∈ aN ks n, -9223372036854775808 ≤ t.1 ∧ t.1 ≤ 9223372036854775807 := fun t ht => by
            obtain ⟨_, j, hj, e⟩ := (aN_mem ks n t).1 ht
            refine hks _ ?_
            have hjl : j < ks.length := by have := HNL.out; omega
            rw [← e, List.getD_eq_getElem?_getD, List.getElem?_eq_getElem hjl]
            exact List.getElem_mem hjl
          have hfa := filt_all hrange
          obtain ⟨L, hL⟩ : ∃ L, L = aN ks n := ⟨_, rfl⟩
          have hLl : L.length ≤ 200 := by have := aN_le ks n; rw [hL]; omega
          have hrise : Rise L := by rw [hL]; exact aN_rise ks n
          rw [← hL] at hfa TB
          have FA_ := Lib.hid hfa
          have HRISE := Lib.hid hrise
          clear hL hrange hfa hrise CELL HNL HC
          obtain ⟨W5, e5⟩ : ∃ W5, W5 = wr.alloc (.cells #[.slice none 0 0] 36) := ⟨_, rfl⟩
          obtain ⟨W6, e6⟩ : ∃ W6, W6 = rangeW W5 (w.heap.size + 1) (-9223372036854775808) 9223372036854775807 := ⟨_, rfl⟩
          obtain ⟨W7, e7⟩ : ∃ W7, W7 = rangeW W6 (w.heap.size + 1 + 1) (-9223372036854775808) 9223372036854775807 := ⟨_, rfl⟩
          have r5 : Rb wr W5 := by rw [e5]; exact (Below.refl _ wr).alloc (Nat.le_refl _) _
          have r6 : Rb W5 W6 := by rw [e6]; exact rangeW_rb _ _ _ _
          have r7 : Rb W6 W7 := by rw [e7]; exact rangeW_rb _ _ _ _
          have i6 : Its W5.heap.size (w.heap.size + 1) (-9223372036854775808) 9223372036854775807 W7 := by
            have : Its W5.heap.size (w.heap.size + 1) (-9223372036854775808) 9223372036854775807 W6 := by rw [e6]; exact rangeW_its _ _ _ _
            exact this.rb r7
          have i7 : Its W6.heap.size (w.heap.size + 1 + 1) (-9223372036854775808) 9223372036854775807 W7 := by rw [e7]; exact rangeW_its _ _ _ _
          have s5 : W5.heap.size = wr.heap.size + 1 := by rw [e5]; simp
          have s6 : W6.heap.size = W5.heap.size + 3 := by rw [e6]; exact rangeW_size _ _ _ _
          have s7 : W7.heap.size = W6.heap.size + 3 := by rw [e7]; exact rangeW_size _ _ _ _
          have bx : Blk W7 wr.heap.size 36 [.slice none 0 0] := by
            have : Blk W5 wr.heap.size 36 [.slice none 0 0] := by rw [e5]; exact Blk.new wr _ [.slice none 0 0]
            exact (this.rb r6).rb r7
          have T7 := TB.out.rb' (Rb.trans _ _ _ r5 (Rb.trans _ _ _ r6 r7))
          have NN1 := not_nilC (.func 27) #[] #[.pointer (some ⟨W5.heap.size, 0, none⟩), .pointer (some ⟨W5.heap.size + 1, 0, none⟩), .pointer (some ⟨W5.heap.size + 2, 0, none⟩)] W7
          have NN2 := not_nilC (.func 27) #[] #[.pointer (some ⟨W6.heap.size, 0, none⟩), .pointer (some ⟨W6.heap.size + 1, 0, none⟩), .pointer (some ⟨W6.heap.size + 2, 0, none⟩)] W7
          have CLA := Lib.hid (tlen W7 _ _ _ T7.ta)
          have CLB := Lib.hid (tlen W7 _ _ _ T7.tb)
          have hwr := TB.out.rb.size
          have F7 : Hid (Trees2 w w.heap.size (w.heap.size + 1) (w.heap.size + 1 + 1) W7 L L FA FB ∧ Its W5.heap.size (w.heap.size + 1) (-9223372036854775808) 9223372036854775807 W7 ∧ Its W6.heap.size (w.heap.size + 1 + 1) (-9223372036854775808) 9223372036854775807 W7 ∧ Blk W7 wr.heap.size 36 [.slice none 0 0] ∧ W5.heap.size = wr.heap.size + 1 ∧ W6.heap.size = W5.heap.size + 3 ∧ W7.heap.size = W6.heap.size + 3 ∧ w.heap.size ≤ wr.heap.size ∧ (∀ k, FA k → k < wr.heap.size) ∧ (∀ k, FB k → k < wr.heap.size) ∧ w.heap.size < wr.heap.size) := ⟨T7, i6, i7, bx, s5, s6, s7, hwr, TB.out.ta.lt, TB.out.tb.lt, TB.out.res.lt⟩
          have E5 := Lib.hid e5
          have E6 := Lib.hid e6
          have E7 := Lib.hid e7
          clear e5 e6 e7 r5 r6 r7 i6 i7 s5 s6 s7 bx T7 TB hwr
          go_wp2_with (first | (rw [← E5.out]; refine (makes_rangeC _ _ _ _).mono ?_; rintro e w' ⟨rfl, rfl⟩; rw [← E6.out]) | (go_at_call 14; refine (makes_rangeC _ _ _ _).mono ?_; rintro e w' ⟨rfl, rfl⟩; rw [← E7.out]) | (go_at_call 18; first | (refine CLA.out.mono ?_; rintro e w' ⟨rfl, rfl⟩) | (refine CLB.out.mono ?_; rintro e w' ⟨rfl, rfl⟩)))
          obtain ⟨xb, hxb⟩ : ∃ xb, xb = wr.heap.size := ⟨_, rfl⟩
          rw [← hxb] at F7 ⊢
          clear hxb NN1 NN2 CLA CLB E5 E6 E7
          have f7 := F7.out
          have X0 : XS xb W7 [] W7 (.slice none 0 0) := ⟨World.ownsRow_nil _ _ _ _, f7.2.2.2.1, Fr.refl _ _⟩
          have hxb7 : xb < W7.heap.size := by omega
          refine wp_range_tree (Bt := W5.heap.size) (p := w.heap.size + 1) (lo := -9223372036854775808) (hi := 9223372036854775807) (L := L) (F := FA) (by rfl) f7.2.1 f7.1.ta (by omega) (fun pre W => ∃ xv, XS xb W7 (pre.map (·.1)) W xv) ?own ⟨_, X0⟩ ?round ?done
          case own => exact own_ck fun s W W' hk ⟨xv, h⟩ => ⟨xv, h.ck hk (Nat.le_refl _)⟩
          case round =>
            clear f7 X0
            intro x
            apply Exists.intro
            refine ⟨?asg, ?bod⟩
            case asg =>
              intro l W K hK
              simp only [List.setIfInBounds_toArray, List.set_cons_succ, List.set_cons_zero]
              gi_wp2
              exact hK
            case bod =>
              intro l pre r W hI hf hN
              obtain ⟨xv, X⟩ := hI
              obtain ⟨keys, hk⟩ : ∃ keys, keys = pre.map (·.1) := ⟨_, rfl⟩
              rw [← hk] at X
              have hkl : keys.length < 50000 := by rw [hk, List.length_map]; exact hN
              have hlast : ∀ j, j < keys.length → ¬ x.1 ≤ keys.getD j 0 := fun j hj => by
                rw [FA_.out] at hf
                have hr := HRISE.out
                rw [hf] at hr
                have hp := (List.pairwise_append.1 hr).2.2
                have hjl : j < pre.length := by rw [hk, List.length_map] at hj; exact hj
                have := hp pre[j] (List.getElem_mem hjl) x (by simp)
                rw [hk, List.getD_eq_getElem?_getD, List.getElem?_map, List.getElem?_eq_getElem hjl]
                show ¬ x.1 ≤ pre[j].1
                omega
              obtain ⟨v2, w1, ra, k1, k2, k3⟩ := append_key x.1 X.row (by omega) X.fr.size
              obtain ⟨ao3, cap3, rfl, _, _⟩ := k1.form
              have APP := X.app hxb7 k1 k2 k3
              generalize (keys ++ [x.1]).length = m3 at APP ra
              have c1 : w1.cell? ⟨xb, 0, none⟩ = some xv := (X.box.same (k2.block xb hxb7)).cell 0
              have fz1 : w1.frozen? ⟨xb, 0, none⟩ = false := (X.box.same (k2.block xb hxb7)).frozen 0
              have cx : W.cell? ⟨xb, 0, none⟩ = some xv := X.box.cell 0
              have hxl := X.box.lt
              obtain ⟨ao2, cap2, rfl, hc2, hcc⟩ := X.row.form
              have AP : Hid _ := APP
              have HK := Lib.hid hk
              obtain ⟨m, hm⟩ : ∃ m, m = keys.length := ⟨_, rfl⟩
              rw [← hm] at cx c1 hc2 hcc hkl hlast ra
              have RA := Lib.hid ra
              obtain ⟨vv, hvv⟩ : ∃ vv, vv = Value.slice ao2 m cap2 := ⟨_, rfl⟩
              clear APP k1 k2 k3 X hf hN hk hm hvv
              by_cases hm0 : m = 0
              · subst hm0
                clear hcc hlast
                gi_wp2_with (gi_at_builtin; refine wpListIn_run_append rfl rfl rfl rfl (RA.out _) ?_)
                have ap := AP.out
                rw [HK.out] at ap
                first | exact ⟨ap.2.2 _, ap.2.1, .slice ao3 m3 cap3, ap.1⟩ | exact ⟨ap.2.2 _, ap.2.1, .slice ao3 m3 cap3, by rw [List.map_append]; exact ap.1⟩
              · have hm1 : m - 1 < m := by omega
                obtain ⟨g, rfl, hcm⟩ := hcc (m - 1) hm1
                have hlt := hlast (m - 1) hm1
                obtain ⟨q, hq⟩ : ∃ q, q = m - 1 := ⟨_, rfl⟩
                have hw1 : IntKind.i64.wrap ((m : Int) - 1) = (q : Int) := by rw [IntKind.wrap_i64]; omega
                have hw2 : (m : Int) - 1 = (q : Int) := by omega
                have hm2 : (0 : Int) < (m : Int) := by omega
                have hqm : q < m := by omega
                rw [← hq] at hcm hlt
                generalize keys.getD q 0 = y at hcm hlt
                clear hcc hlast hq hm1
                gi_wp2_with (gi_at_builtin; refine wpListIn_run_append rfl rfl rfl rfl (RA.out _) ?_)
                have ap := AP.out
                rw [HK.out] at ap
                first | exact ⟨ap.2.2 _, ap.2.1, .slice ao3 m3 cap3, ap.1⟩ | exact ⟨ap.2.2 _, ap.2.1, .slice ao3 m3 cap3, by rw [List.map_append]; exact ap.1⟩
          case done =>
            clear X0
            intro D W8 hD hI hK
            obtain ⟨xv, X⟩ := hI
            rw [FA_.out] at X
            obtain ⟨W9, e9⟩ : ∃ W9, W9 = W8.alloc (.cells #[.int .i64 0] 3) := ⟨_, rfl⟩
            have r9 : Rb W8 W9 := by rw [e9]; exact (Below.refl _ W8).alloc (Nat.le_refl _) _
            have hbox : Boxed W9 W8.heap.size 3 (.int .i64 0) := by rw [e9]; exact Boxed.new _ _ _
            have s9 : W9.heap.size = W8.heap.size + 1 := by rw [e9]; simp
            have fr9 : Fr (fun k => k = xb) W7 W9 := X.fr.then_rb r9
            obtain ⟨q1, q2, q3, q4, q5, q6, q7, q8, q9, q10, q11⟩ := f7
            have its9 : Its W6.heap.size (w.heap.size + 1 + 1) (-9223372036854775808) 9223372036854775807 W9 :=
              ⟨(fr9.block _ (by omega) (by omega)).trans q3.t, (fr9.block _ (by omega) (by omega)).trans q3.lo, (fr9.block _ (by omega) (by omega)).trans q3.hi⟩
            have T9 : Trees2 w w.heap.size (w.heap.size + 1) (w.heap.size + 1 + 1) W9 L L FA FB :=
              ⟨q1.ta.same fun k hk => fr9.block k (q1.ta.lt k hk) (fun e => by have := q9 k hk; omega), q1.tb.same fun k hk => fr9.block k (q1.tb.lt k hk) (fun e => by have := q10 k hk; omega), q1.dj, q1.na, q1.nb, q1.res.same (fr9.block _ q1.res.lt (by omega)), ((Fr.of_rb (F := fun _ => False) q1.rb).trans fr9 (fun k hk => .inr (by omega))).rb (fun k hk => hk.elim)⟩
            have hrow9 : KRow W7.heap.size W9 xv (L.map (·.1)) := X.row.rb r9
            have hbx9 : Blk W9 xb 36 [xv] := X.box.rb r9
            have hK9 : W9.heap[D]? = some (.deferred (some [])) := (r9.block D (Array.getElem?_eq_some_iff.1 hK).1).trans hK
            have hD8 : D < W8.heap.size := (Array.getElem?_eq_some_iff.1 hK).1
            have hxb8 : xb < W8.heap.size := X.box.lt
            have hk8 : ∀ k, xv.ownBlock = some k → k < W8.heap.size := fun k hk => (World.ownsRow.lt X.row k hk).2
            have hs87 := X.fr.size
            have F9 : Hid (Its W6.heap.size (w.heap.size + 1 + 1) (-9223372036854775808) 9223372036854775807 W9 ∧ Trees2 w w.heap.size (w.heap.size + 1) (w.heap.size + 1 + 1) W9 L L FA FB ∧ KRow W7.heap.size W9 xv (L.map (·.1)) ∧ Blk W9 xb 36 [xv] ∧ W9.heap[D]? = some (.deferred (some [])) ∧ D < W8.heap.size ∧ xb < W8.heap.size ∧ (∀ k, xv.ownBlock = some k → k < W8.heap.size) ∧ W9.heap.size = W8.heap.size + 1 ∧ W7.heap.size ≤ D ∧ w.heap.size ≤ W7.heap.size ∧ W6.heap.size + 3 = W7.heap.size ∧ W7.heap.size ≤ W8.heap.size ∧ w.heap.size < xb ∧ (∀ k, FA k → k < xb) ∧ (∀ k, FB k → k < xb)) := ⟨its9, T9, hrow9, hbx9, hK9, hD8, hxb8, hk8, s9, hD, by omega, by omega, hs87, q11, q9, q10⟩
            have E9 := Lib.hid e9
            have HBX := Lib.hid hbox
            clear e9 r9 hbox s9 fr9 q1 q2 q3 q4 q5 q6 q7 q8 q9 q10 q11 its9 T9 hrow9 hbx9 hK9 hD8 hxb8 hk8 hs87 hK hD X
            go_wp2_with fail
            rw [← E9.out]
            obtain ⟨Bi, hBi⟩ : ∃ Bi, Bi = W8.heap.size := ⟨_, rfl⟩
            rw [← hBi] at F9 HBX ⊢
            clear hBi E9
            have f9 := F9.out
            -- what is seen in a world of which only the counter may have turned
            have SEE : ∀ W, Below Bi W9 W → Trees2 w w.heap.size (w.heap.size + 1) (w.heap.size + 1 + 1) W L L FA FB ∧ KRow W7.heap.size W xv (L.map (·.1)) ∧ Blk W xb 36 [xv] ∧ W.heap[D]? = some (.deferred (some [])) := fun W hb => by
              obtain ⟨-, T, hr, hx, hk, h1, h2, h3, h4, h5, h6, h7, h8, h9, h10, h11⟩ := f9
              refine ⟨⟨T.ta.same fun k hk => hb.block k (by have := h10 k hk; omega), T.tb.same fun k hk => hb.block k (by have := h11 k hk; omega), T.dj, T.na, T.nb, T.res.same (hb.block _ (by omega)), Below.trans T.rb (hb.mono (by omega))⟩, owns_same hr fun k hk => hb.block k (h3 k hk), hx.same (hb.block _ h2), (hb.block _ h1).trans hk⟩
            have SE := Lib.hid SEE
            clear SEE
            have hBi9 : Bi ≤ W9.heap.size := by obtain ⟨_, _, _, _, _, _, _, _, h, _⟩ := f9; omega
            refine wp_range_tree (Bt := W6.heap.size) (p := w.heap.size + 1 + 1) (lo := -9223372036854775808) (hi := 9223372036854775807) (L := L) (F := FB) (by rfl) f9.1 f9.2.1.tb (by omega) (fun pre W => Below Bi W9 W ∧ Boxed W Bi 3 (.int .i64 (pre.length : Nat))) ?own ⟨Below.refl _ _, HBX.out⟩ ?round ?done
            case own => exact OwnFrom.and (ownFrom_below hBi9 hBi9) (Own.from (boxed_own Bi 3 (fun (pre : List Th) => .int .i64 (pre.length : Nat))) _)
            case round =>
              clear f9
              intro x
              apply Exists.intro
              refine ⟨?asg, ?bod⟩
              case asg =>
                intro l W K hK
                simp only [List.setIfInBounds_toArray, List.set_cons_succ, List.set_cons_zero]
                gi_wp2
                exact hK
              case bod =>
                intro l pre r W hI hf hN
                obtain ⟨hT, hrow, hbx, -⟩ := SE.out W hI.1
                rw [FA_.out] at hf
                obtain ⟨m, hm⟩ : ∃ m, m = pre.length := ⟨_, rfl⟩
                have hIb := hI.2
                rw [← hm] at hIb
                have hlen : (L.map (·.1)).length = L.length := List.length_map ..
                have hml : m < L.length := by rw [hf, List.length_append, List.length_cons]; omega
                have hkey : (L.map (·.1)).getD m 0 = x.1 := by
                  rw [List.getD_eq_getElem?_getD, List.getElem?_map, hf, hm, List.getElem?_append_right (Nat.le_refl _), Nat.sub_self]
                  rfl
                obtain ⟨ao2, cap2, rfl, hc2, hcc⟩ := hrow.form
                rw [hlen] at hc2 hcc hbx
                obtain ⟨g, rfl, hcm⟩ := hcc m hml
                rw [hkey] at hcm
                have cx : W.cell? ⟨xb, 0, none⟩ = some (.slice (some ⟨g, 0, none⟩) L.length cap2) := hbx.cell 0
                have ci := hIb.cell
                have fi := hIb.frozen
                obtain ⟨b1, b2, b3, b4⟩ := box_round (B := W9.heap.size) hIb (by decide) (Nat.le_refl _) (.int .i64 ((m : Int) + 1))
                have H3 : Hid (KeepsFrom W9.heap.size W _ ∧ KeepT W _ ∧ Below Bi W9 _ ∧ Boxed _ Bi 3 _) := ⟨b1, b2, hI.1.trans b4, b3⟩
                have HM := Lib.hid hm
                generalize L.length = n2 at *
                have hmn : ¬ ((n2 : Int) ≤ (m : Int)) := by omega
                have hm200 : m < 200 := by omega
                clear hT hrow hbx hf hN hm hIb hI hlen hkey hcc b1 b2 b3 b4
                gi_wp2
                have h3 := H3.out
                refine ⟨h3.1, h3.2.1, h3.2.2.1, ?_⟩
                rw [← HM.out]
                exact h3.2.2.2
            case done =>
              intro D2 W hD2 hI hK2
              obtain ⟨hT, hrow, hbx, hK⟩ := SE.out W hI.1
              rw [FA_.out] at hI
              have ci := hI.2.cell
              have hlen : (L.map (·.1)).length = L.length := List.length_map ..
              obtain ⟨ao2, cap2, rfl, hc2, -⟩ := hrow.form
              rw [hlen] at hbx hc2
              have cx : W.cell? ⟨xb, 0, none⟩ = some (.slice ao2 L.length cap2) := hbx.cell 0
              have CA := Lib.hid (tright W _ _ _ hT.ta (by omega))
              have CB : ∀ W', Rb W W' → Hid (Calls Try.prog 17 #[ptrv (w.heap.size + 1 + 1)] W' fun e w'' => e = .returned (.bool true) ∧ Dn W' w'') := fun W' hr => tright W' _ _ _ (hT.tb.rb hr) (by omega)
              have HT := Lib.hid hT
              have HK := Lib.hid hK
              have HK2 := Lib.hid hK2
              have HIB := Lib.hid hI.1
              have HD : Hid (w.heap.size ≤ D ∧ w.heap.size ≤ D2 ∧ D2 ≠ D) := by
                obtain ⟨_, _, _, _, _, h1, _, _, h2, h3, h4, _, h5, _⟩ := f9
                exact ⟨by omega, by omega, by omega⟩
              generalize L.length = n2 at ci cx
              clear hT hrow hbx hK hI hK2 hD2 hlen f9 hc2
              go_wp2_with (go_at_call 17; refine CA.out.mono ?_)
              first | (rintro e w2 rfl hd) | (rintro e w2 ⟨rfl, hd⟩)
              have hr2 := hd.rb
              have J := CB w2 hr2
              have HR2 := Lib.hid hr2
              clear hd hr2 CA CB ci cx
              go_wp2_with (go_at_call 17; refine J.out.mono ?_)
              first | (rintro e w3 rfl hd) | (rintro e w3 ⟨rfl, hd⟩)
              have HR3 := Lib.hid hd.rb
              clear hd J
              go_wp2_with (go_at_call 11; refine (lives_any _).mono ?_)
              first | (rintro e w4 rfl hr4) | (rintro e w4 ⟨rfl, hr4⟩)
              have hr : Rb W w4 := Rb.trans _ _ _ HR2.out (Rb.trans _ _ _ HR3.out hr4)
              have hres := HT.out.res.rb hr
              have c4 : w4.cell? ⟨w.heap.size, 0, none⟩ = some (.bool false) := hres.cell 0
              have fz4 := hres.frozen 0
              have HR := Lib.hid hr
              have HRES := Lib.hid hres
              clear hr4 hr hres
              go_wp2
              obtain ⟨hb2, hw2⟩ := blk_set1 HRES.out (.bool true)
              have hrw := Rb.trans _ _ _ HT.out.rb HR.out
              have keepD : ∀ D', W.heap[D']? = some (Obj.deferred (some [])) → (w4.setCell ⟨w.heap.size, 0, none⟩ (.bool true)).heap[D']? = some (Obj.deferred (some [])) := fun D' h => by
                have h1 := (HR.out.block D' (Array.getElem?_eq_some_iff.1 h).1).trans h
                refine (hw2.block D' (fun e => ?_)).trans h1
                subst e
                have h2 := HRES.out
                unfold Blk at h2
                rw [h2] at h1
                cases h1
              exact end_cell2 (w := w) (q := 4) (N := w.heap.size) (D := D) (D2 := D2) (b := true) rfl rfl rfl hb2 (keepD D HK.out) (keepD D2 HK2.out) HD.out.1 HD.out.2.1 HD.out.2.2 (((Fr.of_rb (F := fun _ => False) hrw).wrote hw2 (.inr (Nat.le_refl _))).rb (fun k hk => hk.elim)) (fun W' h => ⟨rfl, h⟩)
end Go.Proofs.Ytjdlicphmflnkaa.L5
