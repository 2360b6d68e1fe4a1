/-
  Layer 4: WalCrashes' walk.
-/
import Derived.Test.YtbdgdmieggpmhaaW18
import Derived.Test.YtbdgdmieggpmhaaW19
namespace Go.Proofs.Ytbdgdmieggpmhaa.L4
open Go.ChangeShapes Go.WideShapes Go.ChangeAt Go.RowKit Oct By Reg L3
set_option linter.unusedVariables false

/-! ### a row of strings that the walk appends to, beside a log -/
structure Ad (ws w : World) (lb : Nat) (m : Mem) (v : Value) (A : List (List UInt8)) : Prop where
  row : w.ownsRow ws.heap.size 9 1 v A.length (A.map strV)
  off : ∀ j, v.ownBlock = some j → ¬ m.has j ∧ j ≠ lb
def S2 (S : Nat → Prop) (v : Value) (j : Nat) : Prop := S j ∨ v.ownBlock = some j
section
variable {ws w w' : World} {S T : Nat → Prop} {b lb : Nat} {D D' : Dk} {g k g' k' : Nat} {m m' : Mem} {v v' : Value} {A : List (List UInt8)} {s : List UInt8}
theorem Ad.nil : Ad ws w lb m (.slice none 0 0) [] := ⟨World.ownsRow_nil _ _ _ _, fun j h => by cases h⟩
theorem Ad.rb (a : Ad ws w lb m v A) (hr : Rb w w') : Ad ws w' lb m v A := ⟨owns_same a.row fun j hj => hr.block j (a.row.lt j hj).2, a.off⟩
theorem Ad.step (h : LwM ws S b lb D g k w m) (a : Ad ws w lb m v A) : LwM w (S2 S v) b lb D g k w m := h.rebase fun j hj => by
  rcases hj with hj | hj
  · have hs := h.s j hj
    exact ⟨Nat.lt_of_lt_of_le hs.1 h.size, hs.2.1, h.l j hj⟩
  · exact ⟨(a.row.lt j hj).2, a.off j hj⟩
theorem Ad.after (h : LwM ws S b lb D g k w m) (a : Ad ws w lb m v A) (h' : LwM w T b lb D' g' k' w' m') (hT : ∀ j, S2 S v j → T j) : LwM ws S b lb D' g' k' w' m' ∧ Ad ws w' lb m' v A :=
  ⟨⟨h'.hb, h'.held, Nat.le_trans h.size h'.size, h'.os.trans h.os, h'.tape.trans h.tape, h'.output.trans h.output, fun j hj => by
      have h1 := h.s j hj
      have h2 := h'.s j (hT j (.inl hj))
      exact ⟨h1.1, h2.2.1, h2.2.2.trans h1.2.2⟩, fun j hj => h'.l j (hT j (.inl hj))⟩,
    ⟨owns_same a.row fun j hj => (h'.s j (hT j (.inr hj))).2.2, fun j hj => ⟨(h'.s j (hT j (.inr hj))).2.1, h'.l j (hT j (.inr hj))⟩⟩⟩
theorem Ad.app (h : LwM ws S b lb D g k w m) (a : Ad ws w lb m v A) (ho : w'.ownsRow ws.heap.size 9 1 v' (A.length + 1) (A.map strV ++ [strV s])) (hg : w.grownBy w' v.ownBlock) (hn : ∀ j, v'.ownBlock = some j → v.ownBlock = some j ∨ w.heap.size ≤ j) :
    LwM ws S b lb D g k w' m ∧ Ad ws w' lb m v' (A ++ [s]) := by
  have hd : ∀ j, m.has j → w'.heap[j]? = w.heap[j]? := fun j hj => hg.block j (h.held.disk.lt j hj) fun e => (a.off j e.symm).1 hj
  have hl : w'.heap[lb]? = w.heap[lb]? := hg.block lb h.held.blk.lt fun e => (a.off lb e.symm).2 rfl
  refine ⟨⟨h.hb, ⟨h.held.disk.same hg.size hd, h.held.blk.same hl, h.held.off, h.held.hg, h.held.hk⟩, Nat.le_trans h.size hg.size, hg.os.trans h.os, hg.tape.trans h.tape, hg.output.trans h.output, fun j hj => ?_, h.l⟩, ⟨?_, fun j hj => ?_⟩⟩
  · obtain ⟨i1, i2, i3⟩ := h.s j hj
    exact ⟨i1, i2, (hg.block j (Nat.lt_of_lt_of_le i1 h.size) fun e => by have := (a.row.lt j e.symm).1; omega).trans i3⟩
  · rw [List.length_append, List.map_append]
    exact ho
  · rcases hn j hj with e | e
    · exact a.off j e
    · exact ⟨fun hh => by have := h.held.disk.lt j hh; omega, fun e2 => by have := h.held.blk.lt; omega⟩
end
theorem StrsR.upto {w : World} {ao : Option Addr} {n cap k : Nat} {ss : List (List UInt8)} (h : StrsR w (.slice ao n cap) ss) (hk : k ≤ ss.length) : StrsR w (.slice ao k cap) (ss.take k) := by
  obtain ⟨a2, c2, e, h2, h3, h4⟩ := h
  simp only [Value.slice.injEq] at e
  obtain ⟨rfl, rfl, rfl⟩ := e
  have hl : (ss.take k).length = k := by rw [List.length_take]; omega
  refine ⟨ao, cap, by rw [hl], by rw [hl]; omega, h3, fun h0 => ?_⟩
  rw [hl] at h0
  obtain ⟨b, o, e2, hc⟩ := h4 (by omega)
  refine ⟨b, o, e2, fun q hq => ?_⟩
  rw [hl] at hq
  rw [hc q (by omega)]
  simp [List.getD_eq_getElem?_getD, hq]

set_option maxRecDepth 100000 in
set_option maxHeartbeats 2000000 in
theorem crashes_walk (ao : Option Addr) (n cap : Nat) (l : List OX) (keep : Int) (w0 : World) (h : OpsIn w0 ao n l) (hn : n ≤ 9223372036854775807) :
    Calls Try.prog 6 #[.slice ao n cap, .int .i64 keep] w0 fun e w' => e = .returned (.bool true) ∧ Below w0.heap.size w0 w' := by
  obtain ⟨i0, hi, hz0, hz1, hz2⟩ := info_parts infoS
  have HI := Lib.hid hi
  have HZ0 := Lib.hid hz0
  have HZ1 := Lib.hid hz1
  have HZ2 := Lib.hid hz2
  have HO := Lib.hid h
  clear h hi hz0 hz1 hz2
  go_enter Try.func6, Try.ntmps6
  go_wp2_with fail
  refine (new_eq 16384 16384 w0 rfl).mono ?_
  rintro e w1 ⟨rfl, hk1, hr1⟩
  have hd1 := DwM.new hk1 hr1
  rw [show clampN 16384 = 16384 from rfl] at hd1
  have H1 := Lib.hid hd1
  clear hk1 hr1 hd1
  go_wp2_with fail
  refine (open_w H1.out).mono ?_
  rintro e w2 ⟨lb, m2, vi, vr, rfl, hl2, -, -⟩
  rw [(open_new 16384).1, (open_new 16384).2] at hl2
  have hW2 := hl2.below (B := w0.heap.size) fun j hj => hj
  have H2 := Lib.hid hl2
  have HW2 := Lib.hid hW2
  have CR := Lib.hid (row_any ao n cap l w2 (OpsIn.belowB HO.out hW2) hn)
  clear hl2 hW2 H1
  go_wp2_with fail
  refine CR.out.mono ?_
  rintro e w4 ⟨cv, rfl, ho4, hb4⟩
  obtain ⟨co, ccap, rfl⟩ := row_form ho4
  obtain ⟨C, hC⟩ : ∃ C, C = cutL l := ⟨_, rfl⟩
  rw [← hC] at ho4 ⊢
  have hbs := cutL_bs HO.out.bs
  rw [← hC] at hbs
  have HBS := Lib.hid hbs
  obtain ⟨N, hN⟩ : ∃ N, N = C.length := ⟨_, rfl⟩
  rw [← hN] at ho4 ⊢
  have hN40 : N ≤ 40 := by rw [hN, hC, cutL_len]; omega
  have HN := Lib.hid hN
  have HO4 := Lib.hid ho4
  have HW4 := Lib.hid (show Below w0.heap.size w0 w4 from HW2.out.trans (Below.mono hb4 HW2.out.size))
  have H4 := Lib.hid ((H2.out.rb hb4).rebase (S' := Sx w0.heap.size (.slice co N ccap)) (fun j hj => by
    rcases hj with hj | hj
    · have hs := H2.out.s j hj
      exact ⟨Nat.lt_of_lt_of_le hs.1 (H2.out.rb hb4).size, hs.2.1, H2.out.l j hj⟩
    · have hl := ho4.lt j hj
      exact ⟨hl.2, fun e => by have := H2.out.held.disk.lt j e; omega, fun e => by have := H2.out.held.blk.lt; omega⟩))
  clear ho4 hb4 hbs hN hC CR H2
  go_wp2_with fail
  go_loopw [10, 11, 12, 35] (fun im ad su i wr => ∃ (k : Nat) (D : Dk) (g : Nat) (I : List UInt8) (A : List (List UInt8)) (sure : Nat) (m : Mem), k ≤ N ∧ im = .string (str I) ∧ su = .int .i64 sure ∧ i = .int .i64 k ∧
    LwM w4 (Sx w0.heap.size (.slice co N ccap)) w0.heap.size lb D g 0 wr m ∧ Ad w4 wr lb m ad A ∧ CInv k D g I A sure) (fun _ _ _ i _ => N - (intOf i).toNat)
  case atStart => exact ⟨0, Dk.new 16384, 0, [], [], 0, m2, Nat.zero_le _, rfl, rfl, rfl, H4.out, Ad.nil, CInv.start⟩
  case round =>
    obtain ⟨k, D, g, I, A, sure, m, hk, rfl, rfl, rfl, hm, had, hc⟩ := hrel
    have HM := Lib.hid hm
    have HA := Lib.hid had
    have HC := Lib.hid hc
    obtain ⟨da, dc, rfl⟩ := row_form had.row
    have hWr := HW4.out.trans (hm.below (B := w0.heap.size) fun j hj => .inl hj)
    have HWR := Lib.hid hWr
    have HAL := Lib.hid (show A.length ≤ 40 ∧ g < 4294967295 ∧ sure ≤ A.length from ⟨by have := hc.len; omega, by have := hc.gk; omega, hc.le⟩)
    by_cases hlt : k < N
    · obtain ⟨q, hq⟩ : ∃ q, C[k]? = some q := ⟨_, List.getElem?_eq_getElem (by rw [← HN.out]; exact hlt)⟩
      obtain ⟨⟨gg, rfl, y0, y1, y2⟩, hqb, hql⟩ := reads_step (fun j hj => (hm.s j hj).2.2) hWr HO4.out HBS.out hq
      have HQ0 := Lib.hid (HBS.out q (List.mem_of_getElem? hq)).1
      have HQL := Lib.hid hql
      have HSZ := Lib.hid (Nat.le_refl wr.heap.size)
      obtain ⟨q1, q2⟩ := q
      obtain ⟨qk, qn, qv⟩ := q1
      have hq1 : qv.oneCell' = true := (bs_one hqb).1
      have HQ1 := Lib.hid hq1
      clear hm had hc hWr hqb hql hq hq1
      go_wp2_with (refine wpList_store rfl 59 _ _ rfl wr.heap.size 0 _ _ [_, _, _] _ rfl rfl (Blk.new wr 59 [_, _, _]) rfl sizeop (by simp) (op_one (p := ⟨qk, qn, qv⟩) HQ1.out) ?_)
      intro w5 hb5 hw5
      have hr5 : Rb wr w5 := Wrote.below ((Below.refl _ _).alloc (Nat.le_refl _) _) hw5 (Nat.le_refl _)
      obtain ⟨o0, o1, o2⟩ := Blk.cells3 (show Blk w5 wr.heap.size 59 (opcs ⟨qk, qn, qv⟩) from hb5)
      have HM5 := Lib.hid (HM.out.rb hr5)
      have HA5 := Lib.hid (HA.out.rb hr5)
      -- what nothing turns in this round
      have hlt5 : wr.heap.size < w5.heap.size := World.block_lt_of_cell? w5 _ o0
      have HT5 := Lib.hid (HM5.out.rebase (S' := fun j => S2 (Sx w0.heap.size (.slice (some ⟨gg, 0, none⟩) N ccap)) (.slice da A.length dc) j ∨ j = wr.heap.size) (fun j hj => by
        rcases hj with hj | rfl
        · have hs := (Ad.step HM5.out HA5.out).s j hj
          exact ⟨hs.1, hs.2.1, (Ad.step HM5.out HA5.out).l j hj⟩
        · exact ⟨hlt5, fun e => by have := HM.out.held.disk.lt _ e; omega, fun e => by have := HM.out.held.blk.lt; omega⟩))
      have HO2 := Lib.hid o2
      have HW5 := Lib.hid (HWR.out.trans (Below.mono hr5 HWR.out.size))
      have HQ5 := Lib.hid (HQ0.out.below HW5.out)
      clear hb5 hw5 hr5 y0 y1 y2 hlt5
      rcases (by omega : qk % 4 = 0 ∨ qk % 4 = 1 ∨ qk % 4 = 2 ∨ qk % 4 = 3) with hr4 | hr4 | hr4 | hr4
      · have hm4 : (qk : Int).tmod 4 = 0 := by rw [Int.tmod_eq_emod_of_nonneg (by omega)]; omega
        clear hr4
        go_wp2_with fail
        refine (add_or HT5.out HQ5.out (by have := HQL.out; omega)).mono ?_
        rintro e w6 ⟨c, D', m', rfl, hm6, hD'⟩
        have hx := Ad.after HM5.out HA5.out hm6 (fun j hj => .inl hj)
        have z2 : w6.cell? ⟨wr.heap.size, 2, none⟩ = some qv := by rw [World.cell?_of_block (w := w5) (w' := w6) (hm6.s wr.heap.size (.inr rfl)).2.2]; exact HO2.out
        have k2 := conv_bs (HQ0.out.below (HW5.out.trans (hm6.below (B := w0.heap.size) fun j hj => .inl (.inl (.inl hj)))))
        have HM6 := Lib.hid hx.1
        have HA6 := Lib.hid hx.2
        clear hm6 hx o0 o1 o2
        rcases hD' with ⟨rfl, rfl, -⟩ | ⟨rfl, rfl, -⟩
        · have HC6 := Lib.hid HC.out.next
          go_wp2
          go_roundw
          case rel => exact ⟨k + 1, _, g, I, A, sure, m', by omega, rfl, rfl, by go_num, HM6.out, HA6.out, HC6.out⟩
          case measure => simp [intOf]; omega
        · have HC6 := Lib.hid (HC.out.add q2 HQL.out)
          have hr7 : Rb w6 (w6.alloc (.cells #[.string (str q2)] 9)) := (Below.refl _ _).alloc (Nat.le_refl _) _
          have HM7 := Lib.hid (HM6.out.rb hr7)
          have HA7 := Lib.hid (HA6.out.rb hr7)
          have HS7 := Lib.hid HM7.out.size
          clear hr7
          go_wp2_with (at_builtin; go_must (refine wpList_append_str rfl _ _ 37 rfl 9 i0 Try.underlying37 HI.out HZ0.out HZ1.out HZ2.out w4.heap.size ?c1 _ _ _ rfl HA7.out.row ⟨w6.heap.size, 0, none⟩ 1 (str q2) rfl (cell_one_new _ _ _) ?c2 ?_))
          case c1 => exact HS7.out
          case c2 => have := HAL.out; omega
          intro v' w8 hown hg hnew
          have hx := Ad.app HM7.out HA7.out hown hg (fun j hj => by rw [World.size_alloc]; exact hnew j hj)
          have HM8 := Lib.hid hx.1
          have HA8 := Lib.hid hx.2
          clear hown hg hnew hx
          go_wp2
          go_roundw
          case rel => exact ⟨k + 1, _, g, I, A ++ [q2], sure, m', by omega, rfl, rfl, by go_num, HM8.out, HA8.out, HC6.out⟩
          case measure => simp [intOf]; omega
      · have hm4 : (qk : Int).tmod 4 = 1 := by rw [Int.tmod_eq_emod_of_nonneg (by omega)]; omega
        clear hr4
        go_wp2_with fail
        refine (add_or HT5.out HQ5.out (by have := HQL.out; omega)).mono ?_
        rintro e w6 ⟨c, D', m', rfl, hm6, hD'⟩
        have hx := Ad.after HM5.out HA5.out hm6 (fun j hj => .inl hj)
        have z2 : w6.cell? ⟨wr.heap.size, 2, none⟩ = some qv := by rw [World.cell?_of_block (w := w5) (w' := w6) (hm6.s wr.heap.size (.inr rfl)).2.2]; exact HO2.out
        have k2 := conv_bs (HQ0.out.below (HW5.out.trans (hm6.below (B := w0.heap.size) fun j hj => .inl (.inl (.inl hj)))))
        have HM6 := Lib.hid hx.1
        have HA6 := Lib.hid hx.2
        clear hm6 hx o0 o1 o2
        rcases hD' with ⟨rfl, rfl, -⟩ | ⟨rfl, rfl, -⟩
        · have HC6 := Lib.hid HC.out.next
          go_wp2
          go_roundw
          case rel => exact ⟨k + 1, _, g, I, A, sure, m', by omega, rfl, rfl, by go_num, HM6.out, HA6.out, HC6.out⟩
          case measure => simp [intOf]; omega
        · have HC6 := Lib.hid (HC.out.add q2 HQL.out)
          have hr7 : Rb w6 (w6.alloc (.cells #[.string (str q2)] 9)) := (Below.refl _ _).alloc (Nat.le_refl _) _
          have HM7 := Lib.hid (HM6.out.rb hr7)
          have HA7 := Lib.hid (HA6.out.rb hr7)
          have HS7 := Lib.hid HM7.out.size
          clear hr7
          go_wp2_with (at_builtin; go_must (refine wpList_append_str rfl _ _ 37 rfl 9 i0 Try.underlying37 HI.out HZ0.out HZ1.out HZ2.out w4.heap.size ?c1 _ _ _ rfl HA7.out.row ⟨w6.heap.size, 0, none⟩ 1 (str q2) rfl (cell_one_new _ _ _) ?c2 ?_))
          case c1 => exact HS7.out
          case c2 => have := HAL.out; omega
          intro v' w8 hown hg hnew
          have hx := Ad.app HM7.out HA7.out hown hg (fun j hj => by rw [World.size_alloc]; exact hnew j hj)
          have HM8 := Lib.hid hx.1
          have HA8 := Lib.hid hx.2
          clear hown hg hnew hx
          go_wp2
          go_roundw
          case rel => exact ⟨k + 1, _, g, I, A ++ [q2], sure, m', by omega, rfl, rfl, by go_num, HM8.out, HA8.out, HC6.out⟩
          case measure => simp [intOf]; omega
      · have hm4 : (qk : Int).tmod 4 = 2 := by rw [Int.tmod_eq_emod_of_nonneg (by omega)]; omega
        clear hr4
        go_wp2_with fail
        refine (sync_w HT5.out).mono ?_
        rintro e w6 ⟨rfl, m', hm6⟩
        have hx := Ad.after HM5.out HA5.out hm6 (fun j hj => .inl hj)
        have HM6 := Lib.hid hx.1
        have HA6 := Lib.hid hx.2
        have HC6 := Lib.hid HC.out.sync
        clear hm6 hx o0 o1 o2
        go_wp2
        go_roundw
        case rel => exact ⟨k + 1, D.sync, g, I, A, A.length, m', by omega, rfl, rfl, by go_num, HM6.out, HA6.out, HC6.out⟩
        case measure => simp [intOf]; omega
      · have hm4 : (qk : Int).tmod 4 = 3 := by rw [Int.tmod_eq_emod_of_nonneg (by omega)]; omega
        clear hr4
        go_wp2_with fail
        refine (check_w HT5.out HQ5.out (by have := HQL.out; omega) (by have := HAL.out; omega)).mono ?_
        rintro e w6 ⟨rfl, m', hm6⟩
        have hx := Ad.after HM5.out HA5.out hm6 (fun j hj => .inl hj)
        have HM6 := Lib.hid hx.1
        have HC6 := Lib.hid (HC.out.check q2 HQL.out)
        have z2 : w6.cell? ⟨wr.heap.size, 2, none⟩ = some qv := by rw [World.cell?_of_block (w := w5) (w' := w6) (hm6.s wr.heap.size (.inr rfl)).2.2]; exact HO2.out
        have k2 := conv_bs (HQ0.out.below (HW5.out.trans (hm6.below (B := w0.heap.size) fun j hj => .inl (.inl (.inl hj)))))
        clear hm6 hx o0 o1 o2
        go_wp2
        go_roundw
        case rel => exact ⟨k + 1, _, g + 1, q2, [], 0, m', by omega, rfl, rfl, by go_num, HM6.out, Ad.nil, HC6.out⟩
        case measure => simp [intOf]; omega
    · have HT := Lib.hid (Ad.step HM.out HA.out)
      obtain ⟨j, hj1, hj2, hcr⟩ := hc.crash (by omega) keep.toNat
      have HCR := Lib.hid hcr
      have HJ := Lib.hid (And.intro hj1 hj2)
      have HS := Lib.hid had.row
      clear hm had hc hWr hcr hj1 hj2
      go_wp2_with fail
      refine (dcrash_w HT.out keep).mono ?_
      rintro e w6 ⟨rfl, m6, h6⟩
      have H6 := Lib.hid h6
      clear h6
      generalize D.crash keep.toNat = DC at *
      go_wp2_with fail
      refine (open_w H6.out.disk).mono ?_
      rintro e w7 ⟨lb7, m7, vi7, vr7, rfl, h7, hi7, hr7⟩
      obtain ⟨R, hR⟩ : ∃ R, R = A.take j := ⟨_, rfl⟩
      have hRl : R.length = j := by have := HJ.out; rw [hR, List.length_take]; omega
      have hcr := HCR.out
      rw [← hR] at hcr
      obtain ⟨c1, c2, c3, c4, c5, c6⟩ := hcr
      rw [c1] at hi7
      rw [c3] at hr7
      rw [c2] at h7
      generalize openD DC = D7 at *
      have H7 := Lib.hid h7
      have HV7 := Lib.hid (And.intro c4 (And.intro c5 c6))
      have HW7 := Lib.hid (HWR.out.trans (h7.below (B := w0.heap.size) fun j hj => .inl (.inl hj)))
      -- the rows that were added, cut
      have HST : ∀ wx, (∀ q, (Value.slice da A.length dc).ownBlock = some q → wx.heap[q]? = wr.heap[q]?) → StrsR wx (.slice da R.length dc) R := fun wx hx => by
        have h1 : Strs w4.heap.size wx (.slice da A.length dc) A := owns_same HS.out hx
        have h2 := StrsR.upto h1.reads (k := R.length) (by rw [hRl]; exact HJ.out.2)
        rw [show A.take R.length = R by rw [hRl, hR]] at h2
        exact h2
      have hcap : A.length ≤ dc := by
        obtain ⟨x1, x2, e, e2, _⟩ := Strs.reads (B := w4.heap.size) (ss := A) HS.out
        simp only [Value.slice.injEq] at e
        omega
      have s1 := HST w7 fun q hq => (h7.s q (.inr hq)).2.2
      have hr7r := hr7.reads
      obtain ⟨ra, rc, e7, _⟩ := id hr7r
      subst e7
      have HST := Lib.hid HST
      have HR7 := Lib.hid hr7r
      have HR7V := Lib.hid hr7
      have HS7 := Lib.hid s1
      have hj1 : ¬ ((R.length : Int) < (sure : Int)) := by have := HJ.out; omega
      have hj2 : ¬ ((R.length : Int) > (A.length : Int)) := by have := HJ.out; omega
      have p1 : (R.length : Int) ≤ (dc : Int) := by have := HJ.out; omega
      have p2 : (0 : Int) ≤ (R.length : Int) := by omega
      have HRL := Lib.hid (And.intro hR hRl)
      clear hR hRl
      have k1 := conv_bs hi7.1
      have hts : ∀ xs, (str xs).toList = xs := fun xs => Lib.toList_data _
      have HI7 := Lib.hid hi7
      clear h7 hi7 hr7 hr7r s1 c1 c2 c3 c4 c5 c6 hcap
      go_wp2_with fail
      refine (same_any _ _ R w7 HR7.out HS7.out).mono ?_
      rintro e w8 ⟨rfl, hr⟩
      have HR8 := Lib.hid hr
      have H8 := Lib.hid (H7.out.rb hr)
      clear hr k1
      go_wp2_with fail
      refine (clone_at H8.out.hb H8.out.held.disk).mono ?_
      rintro e w9 ⟨lv, rfl, hcl, hlv, hr⟩
      have HCL := Lib.hid hcl
      have HLV := Lib.hid hlv
      have H9 := Lib.hid (H8.out.rb hr)
      have hsz := H8.out.held.disk.lt
      have HSZ := Lib.hid hsz
      have CO := open_any m7 D7 w9 (H9.out.held.disk)
      rw [H9.out.hb] at CO
      have CO := Lib.hid CO
      clear hcl hlv hr hsz
      go_wp2_with fail
      refine CO.out.mono ?_
      rintro e w10 ⟨lb10, m10, vi10, vr10, rfl, hl10, -, hn10, hkp, hh10, hi10, hr10⟩
      obtain ⟨c4, c5, c6⟩ := HV7.out
      rw [c4] at hi10
      rw [c5] at hr10
      rw [c6] at hl10
      have hcl10 : HeldK w10 ⟨w8.heap.size, lv, m7.v0, m7.v1, m7.u0, m7.u1⟩ D7 := HCL.out.kp hkp fun q hq ht => by
        have hd := H8.out.held.disk
        rcases hq with (hq | hq) | hq | hq | hq | hq
        · have := hd.lt q (.inl ht); rw [hq] at this; exact absurd this (Nat.lt_irrefl _)
        · have := HLV.out q hq; have := hd.lt q (.inl ht); omega
        · exact hd.o0 q hq ht
        · exact hd.o1 q hq ht
        · exact hd.q0 q hq ht
        · exact hd.q1 q hq ht
      have s2 := HST.out w10 fun q hq => by
        have hx := H9.out.s q (.inr hq)
        rw [hkp.block q (Nat.lt_of_lt_of_le hx.1 H9.out.size) (fun ht => hx.2.1 (.inl ht))]
        exact hx.2.2
      have hw10 : Below w0.heap.size w0 w10 := by
        have hx := hkp.below (B := w0.heap.size) (by have := H9.out.size; have := HWR.out.size; omega) fun q hq => by
          rcases Nat.lt_or_ge q w0.heap.size with hlt | hge
          · exact absurd (.inl hq) (H9.out.s q (.inl (.inl hlt))).2.1
          · exact hge
        exact (HWR.out.trans (H9.out.below (B := w0.heap.size) fun j hj => .inl (.inl hj))).trans hx
      have hr10r := hr10.reads
      have SM := L3.same_any m10 ⟨w8.heap.size, lv, m7.v0, m7.v1, m7.u0, m7.u1⟩ D7
      rw [hn10.1, H9.out.hb] at SM
      have SM := Lib.hid SM
      have HL10 := Lib.hid hl10.disk
      have HC10 := Lib.hid hcl10
      have HS10 := Lib.hid s2
      have HW10 := Lib.hid hw10
      have HR10 := Lib.hid hr10r
      have k1 := conv_bs hi10.1
      clear hl10 hn10 hkp hh10 hi10 hr10 hcl10 s2 hw10 hr10r c4 c5 c6 CO
      go_wp2_with fail
      refine (same_any _ _ R w10 HR10.out HS10.out).mono ?_
      rintro e w11 ⟨rfl, hr⟩
      have HL11 := Lib.hid (HL10.out.rb hr)
      have HC11 := Lib.hid (HC10.out.rb hr)
      have HW11 := Lib.hid (HW10.out.trans (Below.mono hr HW10.out.size))
      clear hr k1
      go_wp2_with fail
      refine (SM.out w11 HL11.out HC11.out).mono ?_
      rintro e w12 ⟨rfl, hr⟩
      have HW12 := Lib.hid (HW11.out.trans (Below.mono hr HW11.out.size))
      clear hr
      go_wp2_with fail
      refine (lives_any w12).mono ?_
      rintro e w13 ⟨rfl, hr⟩
      have HW13 := Lib.hid (HW12.out.trans (Below.mono hr HW12.out.size))
      clear hr
      go_wp2
      go_ret
      exact ⟨rfl, HW13.out⟩
end Go.Proofs.Ytbdgdmieggpmhaa.L4
