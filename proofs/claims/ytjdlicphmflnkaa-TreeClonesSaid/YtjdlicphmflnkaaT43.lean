/-
  Layer 5: ranged.
-/
import Derived.Test.YtjdlicphmflnkaaT42
import Derived.Deep.Cut
namespace Go.Proofs.Ytjdlicphmflnkaa.L5
open Go.ChangeShapes Go.WideShapes Go.ChangeAt Go.RowKit Go.Shelf By Reg
set_option linter.unusedVariables false
attribute [local go_sem] Oper.semAt_some

theorem Boxed.toBlk {w : World} {N : Nat} {t : TypeId} {v : Value} (h : Boxed w N t v) : Blk w N t [v] := h
theorem not_nilC (fn : Fn) (f c : Array Value) (W : World) : Sem.run Try.prog (binOp BinOp.eql 41 (Value.func fn f c) Value.nilFunc) W = .ok (.bool false) W := not_nil fn f c W

/-- a result that lies in memory -/
theorem res_cell {fn : Func} {q : Tmp} {tmps : Array Value} {w : World} {N : Nat} {b : Bool} (h : fn.results = #[.cell q 4]) (hp : tmps.getD q undef = .pointer (some ⟨N, 0, none⟩)) (hb : Blk w N 4 [.bool b]) :
    (results fn tmps).run Try.prog w = .ok (.bool b) w := by
  have c := hb.cell 0
  simp only [List.getElem?_cons_zero] at c
  have hp' : tmps[q]?.getD undef = .pointer (some ⟨N, 0, none⟩) := by simpa using hp
  simp [results, h, hp', go_sem, c]

/-- the end of a body with one range behind it, whose result lies in memory -/
theorem end_cell {fn : Func} {q : Tmp} {a : Act} {w W : World} {N D : Nat} {b : Bool} {R : Ending → World → Prop} (h : fn.results = #[.cell q 4]) (hp : a.tmps.getD q undef = .pointer (some ⟨N, 0, none⟩)) (hd : a.defers = [{ target := .collected D, args := #[] }])
    (hb : Blk W N 4 [.bool b]) (hK : W.heap[D]? = some (.deferred (some []))) (hD : w.heap.size ≤ D) (hr : Rb w W) (hR : ∀ W', Rb w W' → R (.returned (.bool b)) W') : bodyPostM Fence.wide 7 Try.prog fn R Exit.ret a W := by
  obtain ⟨tmps, defers⟩ := a
  dsimp only at hp hd
  subst hd
  have hN : D ≠ N := fun e => by
    subst e
    unfold Blk at hb
    rw [hK] at hb
    cases hb
  refine ⟨by simp, .inl ⟨_, _, rfl, run_takeDeferred hK, ?_⟩⟩
  refine ⟨_, res_cell h hp (hb.same (World.putObj_heap_other (fun e => hN e.symm))), hR _ ?_⟩
  exact Below.trans hr (belowK_b (w := w) (Nat.le_refl _) W D _ _ hD hK rfl rfl)

/-- a store into a block known whole, in the walk's own words -/
theorem blk_set1 {W : World} {N : Nat} {T : TypeId} {v : Value} (hb : Blk W N T [v]) (v' : Value) : Blk (W.setCell ⟨N, 0, none⟩ v') N T [v'] ∧ Wrote N W (W.setCell ⟨N, 0, none⟩ v') := by
  have := blk_setCells N T [v'] 0 W [v] hb (by simp)
  simpa [World.setCells, splice_eq] using this

set_option maxRecDepth 100000 in
set_option maxHeartbeats 2000000 in
theorem ranged_any (p : Nat) (v : Value) (lo hi : Int) (L : List Th) (F : Nat → Prop) (w : World) (ht : TreeAt w p L F) (hr : PRow w v L) (hL : L.length ≤ 40000) :
    Calls Try.prog 13 #[ptrv p, v, i64 lo, i64 hi] w fun e w' => e = .returned (.bool true) ∧ Rb w w' := by
  obtain ⟨k0, hp⟩ := PosL.exists lo L
  obtain ⟨q, q1, q2, q3, q4⟩ := filt_mid ht.rise hp (hi := hi)
  obtain ⟨n, hn⟩ : ∃ n, n = L.length := ⟨_, rfl⟩
  obtain ⟨ao, cap, hv, hnc⟩ : ∃ ao cap, v = .slice ao n cap ∧ n ≤ cap := by
    rcases hr.cases' with ⟨h1, h2⟩ | ⟨g, cap, h1, h2, h3, h4⟩
    · exact ⟨none, 0, by rw [h1, hn, h2]; rfl, by rw [hn, h2]; simp⟩
    · exact ⟨_, cap, by rw [h1, hn], by omega⟩
  have CELL : Hid (∀ w', Rb w w' → ∀ j, j < n → ∃ g, ao = some ⟨g, 0, none⟩ ∧ w'.cell? ⟨g, j * 2, none⟩ = some (i64 (L.getD j (0, 0)).1) ∧ w'.cell? ⟨g, j * 2 + 1, none⟩ = some (i64 (L.getD j (0, 0)).2)) := fun w' hb j hj => by
    rcases (hr.rb hb).cases' with ⟨_, hx⟩ | ⟨g, cap', h1, h2, h3, h4⟩
    · subst hx; simp at hn; omega
    · rw [hv] at h1
      simp only [Value.slice.injEq] at h1
      obtain ⟨rfl, -, rfl⟩ := h1
      have hk := cells2_key L j (by omega)
      exact ⟨g, rfl, h4 _ _ hk.1, h4 _ _ hk.2⟩
  subst hv
  have HN := Lib.hid hn
  have hnL : n ≤ 40000 := by omega
  have hk0 : k0 ≤ n := by rw [hn]; exact hp.le
  have hqn : q ≤ n := by rw [hn]; exact q2
  have HP := Lib.hid hp
  have HQ := Lib.hid (And.intro q3 q4)
  have hfl : ∀ t ∈ filt lo hi L, t.1 ≤ hi := fun t ht => by
    have := (List.mem_filter.1 ht).2
    unfold inR at this
    exact (of_decide_eq_true this).2
  have HFL := Lib.hid hfl
  clear hn q2 q3 q4 hp hfl
  obtain ⟨W1, e1⟩ : ∃ W1, W1 = ((w.alloc (.cells #[.slice ao n cap] 27)).alloc (.cells #[i64 hi] 2)).alloc (.cells #[.bool false] 4) := ⟨_, rfl⟩
  have r1 : Rb w W1 := by rw [e1]; exact (((Below.refl _ w).alloc (Nat.le_refl _) _).alloc (by simp) _).alloc (by simp; omega) _
  have s1 : W1.heap.size = w.heap.size + 3 := by rw [e1]; simp
  have b1 : Blk W1 w.heap.size 27 [.slice ao n cap] := by
    have := ((Blk.new w 27 [.slice ao n cap]).rb ((Below.refl _ _).alloc (Nat.le_refl _) (.cells #[i64 hi] 2))).rb ((Below.refl _ _).alloc (Nat.le_refl _) (.cells #[.bool false] 4))
    rw [e1]; exact this
  have b2 : Blk W1 (w.heap.size + 1) 2 [i64 hi] := by
    have := (((Blk.new (w.alloc (.cells #[.slice ao n cap] 27)) 2 [i64 hi])).rb ((Below.refl _ _).alloc (Nat.le_refl _) (.cells #[.bool false] 4)))
    rw [e1]; simpa using this
  have b3 : Blk W1 (w.heap.size + 1 + 1) 4 [.bool false] := by
    have := Blk.new ((w.alloc (.cells #[.slice ao n cap] 27)).alloc (.cells #[i64 hi] 2)) 4 [.bool false]
    rw [e1]; simpa using this
  obtain ⟨W3, e3⟩ : ∃ W3, W3 = (rangeW W1 p lo hi).alloc (.cells #[.int .i64 0] 3) := ⟨_, rfl⟩
  have r3 : Rb W1 W3 := by rw [e3]; exact (rangeW_rb W1 p lo hi).alloc (Nat.le_trans (Nat.le_add_right _ 3) (Nat.le_of_eq (rangeW_size W1 p lo hi).symm)) _
  have its : Its W1.heap.size p lo hi W3 := by rw [e3]; exact (rangeW_its W1 p lo hi).rb ((Below.refl _ _).alloc (Nat.le_refl _) _)
  have hbox : Boxed W3 (rangeW W1 p lo hi).heap.size 3 (.int .i64 0) := by rw [e3]; exact Boxed.new _ _ _
  have hsz : W3.heap.size = (rangeW W1 p lo hi).heap.size + 1 := by rw [e3]; simp
  have NN := not_nilC (.func 27) #[] #[.pointer (some ⟨W1.heap.size, 0, none⟩), .pointer (some ⟨W1.heap.size + 1, 0, none⟩), .pointer (some ⟨W1.heap.size + 2, 0, none⟩)] (rangeW W1 p lo hi)
  have c2 := b2.cell 0
  have hle : W1.heap.size ≤ (rangeW W1 p lo hi).heap.size := by rw [rangeW_size]; omega
  obtain ⟨Bk, hBk⟩ : ∃ Bk, Bk = (rangeW W1 p lo hi).heap.size := ⟨_, rfl⟩
  rw [← hBk] at hbox hsz hle
  have FACTS : Hid (Rb w W1 ∧ W1.heap.size = w.heap.size + 3 ∧ Rb W1 W3 ∧ Bk = W1.heap.size + 3 ∧ W3.heap.size = Bk + 1 ∧ Its W1.heap.size p lo hi W3) := ⟨r1, s1, r3, hBk.trans (rangeW_size W1 p lo hi), hsz, its⟩
  have BX := Lib.hid hbox
  -- what is seen in a world of which only the counter may have turned
  have SEEN : ∀ W, Below Bk W3 W → Rb w W ∧ Blk W w.heap.size 27 [.slice ao n cap] ∧ Blk W (w.heap.size + 1) 2 [i64 hi] ∧ Blk W (w.heap.size + 1 + 1) 4 [.bool false] := fun W hW => by
    have hb1 : Rb W1 W := Below.trans r3 (hW.mono hle)
    exact ⟨Rb.trans _ _ _ r1 hb1, b1.rb hb1, b2.rb hb1, b3.rb hb1⟩
  have SE := Lib.hid SEEN
  have HT := Lib.hid ht
  have E1 := Lib.hid e1
  have E3 := Lib.hid e3
  have EB := Lib.hid hBk
  clear SEEN r1 s1 b1 b2 b3 r3 its hbox hsz hle hr ht e1 e3 hBk
  refine (callsIn_wide (n := 7)).1 (callsIn_of_wp_marks Try.func13 rfl trivial (wpIn_wide.2 ?_) rfl)
  simp only [Try.ntmps13, List.size_toArray, List.length_cons, List.length_nil, Nat.reduceAdd, Nat.reduceSub, Array.replicate_succ, Array.replicate_zero, List.push_toArray, List.append_toArray, List.nil_append, List.cons_append]
  simp only [List.getElem?_cons_zero] at c2
  go_wp2_with (first | (rw [← E1.out]; refine (makes_rangeC _ _ _ _).mono ?_; rintro e w' ⟨rfl, rfl⟩))
  rw [← E3.out, ← EB.out]
  go_loopg [] k0 (fun g wr => ∃ i : Nat, i ≤ k0 ∧ k0 - i ≤ g ∧ Hid (Below Bk W3 wr ∧ Boxed wr Bk 3 (.int .i64 (i : Nat))))
  case atStart => exact ⟨0, Nat.zero_le _, Nat.le_refl _, Below.refl _ _, BX.out⟩
  case round =>
    obtain ⟨i, h1, h2, hS⟩ := hrel
    obtain ⟨rw0, bl, bh, br⟩ := SE.out wr hS.out.1
    have cl := bl.cell 0
    have ck := hS.out.2.cell
    have fk := hS.out.2.frozen
    simp only [List.getElem?_cons_zero] at cl
    by_cases hik : i < k0
    · have hin : i < n := by omega
      obtain ⟨g, rfl, hc1, hc2⟩ := CELL.out wr rw0 i hin
      have hlt : (L.getD i (0, 0)).1 < lo := HP.out.lo i hik
      generalize (L.getD i (0, 0)).1 = y at hc1 hlt
      obtain ⟨k1, k2, k3, k4⟩ := box_round (B := 0) hS.out.2 (by decide) (Nat.le_refl _) (.int .i64 ((i : Int) + 1))
      have H3 : Hid (Below Bk W3 _ ∧ Boxed _ Bk 3 _) := ⟨hS.out.1.trans k4, k3⟩
      have HI := Lib.hid (And.intro hik h2)
      have hib : i < 40000 := by omega
      clear k1 k2 k3 k4 hc2 rw0 bl bh br h1 h2
      go_wp2
      go_roundg (k0 - (i + 1))
      case measure => have := HI.out; omega
      case rel => exact ⟨i + 1, by have := HI.out; omega, Nat.le_refl _, H3.out⟩
    · have hik2 : i = k0 := by omega
      subst hik2
      have RW := Lib.hid rw0
      have HLE := Lib.hid (And.intro q1 hqn)
      clear rw0 bl bh br h1 h2 hik q1 hqn
      by_cases hin : i < n
      rotate_left
      go_wp2
      rotate_left
      have hge : ¬ (L.getD i (0, 0)).1 < lo := by
        have := HP.out.hi (by rw [← HN.out]; exact hin)
        omega
      obtain ⟨g, rfl, hc1, hc2⟩ := CELL.out wr RW.out i hin
      generalize (L.getD i (0, 0)).1 = y at hc1 hge
      clear hc2
      go_wp2
      all_goals
        clear ck fk cl
        obtain ⟨f1, f2, f3, f4, f5, f6⟩ := FACTS.out
        have hwl : Bk ≤ wr.heap.size := by have := hS.out.1.size; omega
        refine wp_range_tree (Bt := W1.heap.size) (p := p) (lo := lo) (hi := hi) (L := L) (F := F) (by rfl) ?its (HT.out.rb RW.out) (by omega) (fun pre W => Below Bk W3 W ∧ Boxed W Bk 3 (.int .i64 (i + (pre.length : Nat) : Int))) ?own ?start ?round ?done
        case its => exact ⟨(hS.out.1.block _ (by omega)).trans f6.t, (hS.out.1.block _ (by omega)).trans f6.lo, (hS.out.1.block _ (by omega)).trans f6.hi⟩
        case own => exact OwnFrom.and (ownFrom_below (by omega) hwl) (Own.from (boxed_own Bk 3 (fun (pre : List Th) => .int .i64 (i + (pre.length : Nat) : Int))) _)
        case start => exact ⟨hS.out.1, by simpa using hS.out.2⟩
        case round =>
          intro x
          apply Exists.intro
          refine ⟨?asg, ?bod⟩
          case asg =>
            intro l W K hK
            simp only [List.setIfInBounds_toArray, List.set_cons_succ, List.set_cons_zero]
            gi_wp2
            exact hK
          case bod =>
            intro l pre r W hI hf hN
            obtain ⟨rwW, bl, bh, br⟩ := SE.out W hI.1
            have cl := bl.cell 0
            have ch := bh.cell 0
            simp only [List.getElem?_cons_zero] at cl ch
            obtain ⟨m, hm, hmq, hmx⟩ : ∃ m : Nat, (i + (pre.length : Nat) : Int) = (m : Nat) ∧ m < q ∧ L.getD m (0, 0) = x := by
              refine ⟨i + pre.length, by omega, ?_, ?_⟩
              · have := congrArg List.length (HQ.out.1.symm.trans hf)
                rw [List.length_drop, List.length_take, List.length_append, List.length_cons] at this
                omega
              · have := congrArg (fun M => M[pre.length]?) (HQ.out.1.symm.trans hf)
                simp only [List.getElem?_append_right (Nat.le_refl _), Nat.sub_self, List.getElem?_cons_zero, List.getElem?_drop, List.getElem?_take] at this
                split at this
                · rw [List.getD_eq_getElem?_getD, this]; rfl
                · cases this
            have hxh : ¬ x.1 > hi := by
              have := HFL.out x (by rw [hf]; simp)
              omega
            have hmn : m < n := by have := HLE.out; omega
            have hIk := hI.2
            rw [hm] at hIk
            have ck := hIk.cell
            have fk := hIk.frozen
            obtain ⟨k1, k2, k3, k4⟩ := box_round (B := wr.heap.size) hIk (by decide) (Nat.le_refl _) (.int .i64 ((m : Int) + 1))
            have H3 : Hid (KeepsFrom wr.heap.size W _ ∧ KeepT W _ ∧ Below Bk W3 _ ∧ Boxed _ Bk 3 _) := ⟨k1, k2, hI.1.trans k4, k3⟩
            have HM := Lib.hid hm
            obtain ⟨g', eg, hc1, hc2⟩ := CELL.out W rwW m hmn
            rw [hmx] at hc1 hc2
            cases eg
            have hnm : ¬ ((n : Int) ≤ (m : Int)) := by omega
            have hmb : m < 40000 := by omega
            clear k1 k2 k3 k4 rwW bl bh br hIk hI hf hN hmq hmx hm f1 f2 f3 f4 f5 f6
            gi_wp2
            have h3 := H3.out
            refine ⟨h3.1, h3.2.1, h3.2.2.1, ?_⟩
            have e : (i + (pre.length + 1) : Int) = (m : Int) + 1 := by have := HM.out; omega
            rw [e]
            exact h3.2.2.2
        case done =>
          intro D W hD hI hK
          obtain ⟨rwW, bl, bh, br⟩ := SE.out W hI.1
          have cl := bl.cell 0
          have ch := bh.cell 0
          have cr := br.cell 0
          have fr := br.frozen 0
          simp only [List.getElem?_cons_zero] at cl ch cr
          have hq : (i + ((filt lo hi L).length : Nat) : Int) = (q : Nat) := by
            rw [HQ.out.1, List.length_drop, List.length_take, ← HN.out]
            have := HLE.out
            omega
          rw [hq] at hI
          have ck := hI.2.cell
          have HI := Lib.hid hI
          have HK := Lib.hid hK
          have HB := Lib.hid br
          have mixed : Try.prog.follows Departure.mixedOrders = true := by kernel_rfl
          clear hI hK rwW bl bh br hq f1 f2 f3 f4 f5 f6
          by_cases hqn : q < n
          · obtain ⟨g', eg, hc1, hc2⟩ := CELL.out W (SE.out W HI.out.1).1 q hqn
            have hgt : (L.getD q (0, 0)).1 > hi := HQ.out.2 (by rw [← HN.out]; exact hqn)
            cases eg
            generalize (L.getD q (0, 0)).1 = y at hc1 hgt
            clear hc2
            have hqb : ((q : Int) == (n : Int)) = false := by rw [beq_eq_false_iff_ne]; omega
            go_wp2
            go_region
            go_wp2
            obtain ⟨hb2, hw2⟩ := blk_set1 HB.out (.bool true)
            have hrw := (SE.out W HI.out.1).1
            have hsw := FACTS.out.1.size
            refine end_cell (w := w) (q := 8) (N := w.heap.size + 1 + 1) (D := D) (b := true) rfl rfl rfl (hb2.rb (Rb.drew _)) ?_ ?_ ?_ (fun W' h => ⟨rfl, h⟩)
            · exact (hw2.block D (fun e => by subst e; have h1 := HB.out; have h2 := HK.out; unfold Blk at h1; rw [h1] at h2; cases h2)).trans HK.out
            · have := hS.out.1.size; have := FACTS.out; omega
            · have := Below.size hrw
              exact Below.drew (((Fr.of_rb (F := fun _ => False) hrw).wrote hw2 (.inr (by omega))).rb (fun k hk => hk.elim))
          · have hqe : q = n := by have := HLE.out; omega
            subst hqe
            go_wp2
            go_region
            go_wp2
            obtain ⟨hb2, hw2⟩ := blk_set1 HB.out (.bool true)
            have hrw := (SE.out W HI.out.1).1
            have hsw := FACTS.out.1.size
            refine end_cell (w := w) (q := 8) (N := w.heap.size + 1 + 1) (D := D) (b := true) rfl rfl rfl (hb2.rb (Rb.drew _)) ?_ ?_ ?_ (fun W' h => ⟨rfl, h⟩)
            · exact (hw2.block D (fun e => by subst e; have h1 := HB.out; have h2 := HK.out; unfold Blk at h1; rw [h1] at h2; cases h2)).trans HK.out
            · have := hS.out.1.size; have := FACTS.out; omega
            · have := Below.size hrw
              exact Below.drew (((Fr.of_rb (F := fun _ => False) hrw).wrote hw2 (.inr (by omega))).rb (fun k hk => hk.elim))
end Go.Proofs.Ytjdlicphmflnkaa.L5
