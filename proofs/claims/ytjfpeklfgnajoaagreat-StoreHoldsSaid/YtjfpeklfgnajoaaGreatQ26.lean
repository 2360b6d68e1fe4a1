/-
  Layer 7: New.
-/
import Derived.Test.YtjfpeklfgnajoaaGreatQ25
import Derived.Deep.RegionLaw
namespace Go.Proofs.YtjfpeklfgnajoaaGreat.L6
open Go.ChangeShapes Go.WideShapes Go.ChangeAt Go.RowKit By Reg Val
set_option linter.unusedVariables false
set_option linter.unusedSimpArgs false

theorem row3_at {α : Type} {en : α → Value × Value × Value} {w : World} {v : Value} {L : List α} (h : Row3 en w v L) (k : Nat) (hk : k < L.length) : ∃ b o cap, v = .slice (some ⟨b, o, none⟩) L.length cap ∧ w.cell? ⟨b, o + k * 3, none⟩ = some (en L[k]).1 ∧ w.cell? ⟨b, o + k * 3 + 1, none⟩ = some (en L[k]).2.1 ∧ w.cell? ⟨b, o + k * 3 + 2, none⟩ = some (en L[k]).2.2 := by
  obtain ⟨ao, cap, rfl, h1, h2, h3⟩ := h
  obtain ⟨b, o, rfl, h4⟩ := h3 (by omega)
  exact ⟨b, o, cap, rfl, h4 k hk⟩

theorem errTabs_ok : ∀ (L : List TabD) (seen : List ByteArray), (errTabs seen L).1 = 0 → ∀ t ∈ L, (1 ≤ t.rows ∧ t.rows ≤ 64) ∧ (1 ≤ t.cols.length ∧ t.cols.length ≤ 8)
  | [], seen, _, t, ht => by cases ht
  | x :: r, seen, h, t, ht => by
    rw [errTabs] at h
    by_cases he : errTab seen x ≠ 0
    · rw [if_pos he] at h
      exact absurd h he
    · rw [if_neg he] at h
      have he0 : errTab seen x = 0 := Classical.not_not.1 he
      rcases List.mem_cons.1 ht with rfl | ht
      · unfold errTab at he0
        split at he0
        · cases he0
        · split at he0
          · cases he0
          · split at he0
            · cases he0
            · omega
      · exact errTabs_ok r _ h t ht
theorem checkD_ok {L : List TabD} (h : (checkD L).1 = 0) : L.length ≤ 8 ∧ ∀ t ∈ L, (1 ≤ t.rows ∧ t.rows ≤ 64) ∧ (1 ≤ t.cols.length ∧ t.cols.length ≤ 8) := by
  unfold checkD at h
  split at h
  · cases h
  · exact ⟨by omega, errTabs_ok L [] h⟩

set_option maxRecDepth 100000 in
set_option maxHeartbeats 2000000 in
theorem new_any (L : List TabD) (lv : Value) (w : World) (h : Tabs w lv L) (hok : ∀ t ∈ L, TabOk t) :
    Calls Tryz.prog 10 #[lv] w fun e w' => ((checkD L).1 ≠ 0 ∧ e = .returned (.pointer none) ∧ Rb w w') ∨
      ((checkD L).1 = 0 ∧ ∃ st v sh, e = .returned (ptrv st) ∧ NewS w L w' st v sh ∧ sh.length = L.length) := by
  have CC0 := check_any L lv w h hok
  obtain ⟨⟨ao, cap, hlv, q1, q2, _⟩, _⟩ := id h
  obtain ⟨n, hn⟩ : ∃ n, n = L.length := ⟨_, rfl⟩
  have HN := Lib.hid hn
  rw [← hn] at hlv q1
  subst hlv
  have HT := Lib.hid h
  clear h
  obtain ⟨E, hE⟩ : ∃ E, E = checkD L := ⟨_, rfl⟩
  rw [← hE] at CC0 ⊢
  obtain ⟨e1, e2⟩ := E
  have CC := Lib.hid CC0
  have HE := Lib.hid hE
  dsimp only at *
  clear CC0 hok
  by_cases hc : e1 ≠ 0
  · have HC := Lib.hid hc
    clear hE hn
    go_enter Tryz.func10, Tryz.ntmps10
    go_wp2_with fail
    refine CC.out.mono ?_
    rintro e w1 ⟨rfl, hb⟩
    have HB := Lib.hid hb
    clear hb
    go_wp2
    go_ret
    exact .inl ⟨HC.out, rfl, HB.out⟩
  · have hc0 : e1 = 0 := Classical.not_not.1 hc
    subst hc0
    obtain ⟨hL, htab⟩ := checkD_ok (L := L) (by rw [← hE])
    have HTB := Lib.hid htab
    rw [← hn] at hL ⊢
    clear hE hc htab hn
    go_enter Tryz.func10, Tryz.ntmps10
    go_wp2_with fail
    refine CC.out.mono ?_
    rintro e w1 ⟨rfl, hb⟩
    obtain ⟨W1, hW1⟩ : ∃ W1, W1 = w1.alloc (.cells #[.slice none 0 0] 83) := ⟨_, rfl⟩
    obtain ⟨st, hst⟩ : ∃ st, st = w1.heap.size := ⟨_, rfl⟩
    have A0 : NewS w L W1 st (.slice none 0 0) [] := by
      have r1 : Rb w1 W1 := by rw [hW1]; exact (Below.refl _ w1).alloc (Nat.le_refl _) _
      refine ⟨⟨by rw [hW1, hst]; exact Blk.new w1 _ [.slice none 0 0], ⟨rfl, .inl ⟨rfl, rfl⟩⟩, (fun s hs => by cases hs), List.Pairwise.nil⟩, by rw [hst]; exact hb.size, (fun k hk => by cases hk), (fun k ⟨s, hs, _⟩ => by cases hs), Rb.trans _ _ _ hb r1, Nat.zero_le _, fun i hi => absurd hi (Nat.not_lt_zero _)⟩
    have HA0 := Lib.hid A0
    have HW1 := Lib.hid hW1
    have HST := Lib.hid hst
    clear A0 hW1 hst hb CC
    go_wp2_with (rw [← HW1.out, ← HST.out])
    go_loopw [19] (fun p wr => ∃ (i : Nat), p = .int .i64 i ∧ i ≤ n ∧ Hid (∃ v sh, NewS w L wr st v sh ∧ sh.length = i)) (fun p _ => n - (intOf p).toNat)
    case atStart => exact ⟨0, rfl, Nat.zero_le _, _, _, HA0.out, rfl⟩
    case round =>
      obtain ⟨i, rfl, hin, hr⟩ := hrel
      by_cases hlt : i < n
      · obtain ⟨v, sh, hS, hsl⟩ := hr.out
        have hTR := HT.out.rb hS.rb
        obtain ⟨b, o, cap', y, c0, c1, c2⟩ := row3_at hTR.1 i (by rw [← HN.out]; exact hlt)
        simp only [Value.slice.injEq] at y
        obtain ⟨rfl, -, -⟩ := y
        obtain ⟨t, ht⟩ : ∃ t, t = L[i]'(by rw [← HN.out]; exact hlt) := ⟨_, rfl⟩
        rw [← ht] at c0 c1 c2
        have hIn : TabIn wr t := hTR.2 t (by rw [ht]; exact List.getElem_mem _)
        have hcl := (HTB.out t (by rw [ht]; exact List.getElem_mem _)).2
        obtain ⟨nm, rws, cv, cols⟩ := t
        dsimp only at c0 c1 c2 hcl
        obtain ⟨ao2, cap2, hcv, p1, p2, _⟩ := id hIn
        dsimp only at hcv p1
        subst hcv
        have HTT := Lib.hid ht
        have HS := Lib.hid (And.intro hS (And.intro hsl hIn))
        obtain ⟨WB, hWB⟩ : ∃ WB, WB = wr.alloc (.cells #[.string nm, .int .i64 rws, .slice ao2 cols.length cap2] 69) := ⟨_, rfl⟩
        obtain ⟨bx, hbx⟩ : ∃ bx, bx = wr.heap.size := ⟨_, rfl⟩
        have rB : Rb wr WB := by rw [hWB]; exact (Below.refl _ wr).alloc (Nat.le_refl _) _
        have bB : Blk WB bx 69 [.string nm, .int .i64 rws, .slice ao2 cols.length cap2] := by rw [hWB, hbx]; exact Blk.new wr _ [.string nm, .int .i64 rws, .slice ao2 cols.length cap2]
        have C := clone3_C WB (.slice ao2 cols.length cap2) cols (Row3.rb hIn rB) (by omega)
        have cb2 := bB.cell 2
        simp only [List.getElem?_cons_succ, List.getElem?_cons_zero] at cb2
        have HC := Lib.hid C
        have HB := Lib.hid (And.intro rB bB)
        have HWB := Lib.hid hWB
        have HBX := Lib.hid hbx
        clear hS hsl hTR ht hIn hr hWB hbx rB bB C
        go_wp2_with (rw [← HWB.out, ← HBX.out])
        refine HC.out.mono ?_
        rintro e w2 ⟨v2, rfl, k1, k2, k3, k4⟩
        obtain ⟨g2, cap3, rfl⟩ := k3 (by omega)
        have hb2 := HB.out.2.rb k2
        obtain ⟨b5, hw⟩ := blk_setCells bx 69 [.slice (some ⟨g2, 0, none⟩) cols.length cap3] 2 w2 _ hb2 (by simp)
        obtain ⟨W3, hW3⟩ : ∃ W3, W3 = w2.setCell ⟨bx, 2, none⟩ (.slice (some ⟨g2, 0, none⟩) cols.length cap3) := ⟨_, rfl⟩
        have hw' : Wrote bx w2 W3 := by rw [hW3]; simpa [World.setCells] using hw
        have b5' : Blk W3 bx 69 [.string nm, .int .i64 rws, .slice (some ⟨g2, 0, none⟩) cols.length cap3] := by rw [hW3]; simpa [World.setCells, splice_eq] using b5
        have cB := hb2.cell 2
        have fB : w2.frozen? ⟨bx, 2, none⟩ = false := by
          have h0 := hb2
          unfold Blk at h0
          simp [World.frozen?, h0]
        simp only [List.getElem?_cons_succ, List.getElem?_cons_zero] at cB
        have hown : COwn W3 (.slice (some ⟨g2, 0, none⟩) cols.length cap3) cols := owns_same7 (owns_le k1) fun k hk => hw'.block k fun e => by
          subst e
          obtain ⟨cs, hb⟩ := owns_blk k1 _ hk
          exact absurd (hb.inj hb2).1 (by decide)
        have r3 : Rb wr W3 := by
          have q1 : Rb wr w2 := Rb.trans _ _ _ HB.out.1 k2
          have := (Fr.of_rb (F := fun _ => False) q1).wrote hw' (.inr (by rw [HBX.out]; exact Nat.le_refl _))
          exact this.rb fun k hk => hk.elim
        have hst0 := HS.out.1.rb' r3
        have hst := hst0.rb' (Rb.drew W3)
        have hownd : COwn W3.drew (.slice (some ⟨g2, 0, none⟩) cols.length cap3) cols := owns_same7 hown fun k hk => rfl
        obtain ⟨ao4, cap4, w4, ra, ⟨x3, f3⟩, hfin⟩ := NewS.step (t' := ⟨nm, rws, .slice (some ⟨g2, 0, none⟩) cols.length cap3, cols⟩) hst (by rw [HS.out.2.1, ← HN.out]; exact hlt) (by rw [← HN.out]; omega) (by
          have := HTT.out
          simp only [HS.out.2.1]
          rw [← this]
          exact ⟨rfl, rfl, rfl⟩) hownd (fun k hk => by
          rcases k1.2 with ⟨h0, _⟩ | ⟨g, cp, cur, h1, h2, _⟩
          · cases h0
          · cases h1
            cases hk
            have := HB.out.1.size
            have := HS.out.1.rb.size
            show w.heap.size ≤ g2
            omega)
        have y0 := b5'.cell 0
        have y1 := b5'.cell 1
        have y2 := b5'.cell 2
        have y3 := hst0.sto.blk.cell 0
        obtain ⟨ao5, cap5, hv5, _, _⟩ := hst.sto.form
        simp only [List.getElem?_cons_succ, List.getElem?_cons_zero] at y0 y1 y2 y3
        have l1 := World.block_lt_of_cell? _ _ y0
        have l2 := World.block_lt_of_cell? _ _ y3
        dsimp only at l1 l2
        rw [hv5] at y3 x3 ra
        simp only [HS.out.2.1] at y3 x3 ra hfin
        have ra2 : ∀ ty, (Builtin.append_ #[81, 81] ty #[.slice ao5 i cap5, .slice (some ⟨W3.heap.size + 1 + 1, 0, none⟩) 1 1]).run Tryz.prog (((W3.alloc (.cells #[.pointer none, .int .i64 0] 93)).alloc (.cells #[.string nm, .int .i64 rws, .slice (some ⟨g2, 0, none⟩) cols.length cap3, .pointer (some ⟨W3.heap.size, 0, none⟩), .int .i64 0] 95)).alloc (.cells #[.pointer (some ⟨W3.heap.size + 1, 0, none⟩)] 89)).drew = .ok (.slice ao4 (i + 1) cap4) w4 := ra
        clear ra
        have HF : Hid (∃ v sh, NewS w L (w4.setCell ⟨st, 0, none⟩ (.slice ao4 (i + 1) cap4)) st v sh ∧ sh.length = i + 1) := by
          obtain ⟨s', h'⟩ := hfin
          exact ⟨_, _, h', by rw [List.length_append, HS.out.2.1]; rfl⟩
        have HW3 := Lib.hid hW3
        clear hb2 b5 hw hW3 hw' b5' hown hownd r3 hst hst0 hv5 hfin k1 k2 k3 k4 c0 c1 c2
        go_wp2_with (rw [← HW3.out])
        have l3 : bx < W3.heap.size + 1 := Nat.lt_succ_of_lt l1
        have l4 : st < W3.heap.size + 1 := Nat.lt_succ_of_lt l2
        go_region_law (refine step_run_append rfl rfl (by simp [Act.eval, Act.put]) (by simp [Act.eval, Act.put]) (ra2 _) ?_)
        all_goals
          clear y0 y1 y2 y3 l1 l2 l3 l4 ra2 x3 f3 cb2 cB fB
          obtain ⟨W5, hW5⟩ : ∃ W5, W5 = w4.setCell ⟨st, 0, none⟩ (.slice ao4 (i + 1) cap4) := ⟨_, rfl⟩
          rw [← hW5] at HF ⊢
          clear hW5
          go_wp2_with fail
          go_roundw
          case rel => exact ⟨i + 1, by go_num, by omega, HF⟩
          case measure => simp [intOf]; omega
      · have hni : i = n := by omega
        subst hni
        obtain ⟨v, sh, hS, hsl⟩ := hr.out
        have HS := Lib.hid (And.intro hS hsl)
        clear hr hS hsl
        go_wp2
        go_ret
        exact .inr ⟨trivial, st, v, sh, rfl, HS.out.1, HS.out.2⟩
end Go.Proofs.YtjfpeklfgnajoaaGreat.L6
