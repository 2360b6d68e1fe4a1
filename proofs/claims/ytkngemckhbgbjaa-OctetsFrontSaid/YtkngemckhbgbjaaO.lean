import Derived.Test.YtkngemckhbgbjaaN
namespace Go.Proofs.Ytkngemckhbgbjaa
open Go.ChangeShapes Go.WideShapes Go.ChangeAt Go.RowKit Oct By Reg

theorem load8 (w : World) (ad : Addr) (v : Value) (h : w.cell? ad = some v) : (Instr.loadAt 5 (.pointer (some ad))).run Try.prog w = .ok v w := by
  simp [go_sem, h]

theorem adl_fst : ∀ (l : List UInt8) (x y : Nat), x < 65521 → (adl l (x, y)).1 = (x + (l.map UInt8.toNat).sum) % 65521
  | [], x, y, h => by simp [adl, Nat.mod_eq_of_lt h]
  | c :: l, x, y, h => by
    rw [adl, adl_fst l _ _ (Nat.mod_lt _ (by decide))]
    simp only [List.map_cons, List.sum_cons]
    omega
theorem sum_set : ∀ (l : List UInt8) (k : Nat) (c : UInt8), k < l.length → ((l.set k c).map UInt8.toNat).sum + (l.getD k 0).toNat = (l.map UInt8.toNat).sum + c.toNat
  | [], _, _, h => by simp at h
  | x :: l, 0, c, _ => by simp; omega
  | x :: l, k + 1, c, h => by
    have := sum_set l k c (by simpa using h)
    simp at this ⊢
    omega
theorem sums_iff (xs : List UInt8) (k : Nat) (c : UInt8) (hk : k < xs.length) : sumN xs = sumN (xs.set k c) ↔ bt xs k = c.toNat := by
  have hs := sum_set xs k c hk
  have hb := bt_lt xs k
  have hc := UInt8.toNat_lt c
  constructor
  · intro h
    have h1 := adl_lt xs (1, 0) (by decide) (by decide)
    have h2 := adl_lt (xs.set k c) (1, 0) (by decide) (by decide)
    unfold sumN at h
    have h3 : (adl xs (1, 0)).1 = (adl (xs.set k c) (1, 0)).1 := by omega
    rw [adl_fst _ _ _ (by decide), adl_fst _ _ _ (by decide)] at h3
    unfold bt at *
    omega
  · intro h
    have : xs.set k c = xs := by
      apply List.ext_getElem (by simp)
      intro i h1 h2
      rw [List.getElem_set]
      split
      · rename_i hik
        subst hik
        apply UInt8.toNat_inj.1
        rw [← h, bt, List.getD_eq_getElem?_getD, List.getElem?_eq_getElem hk]
        rfl
      · rfl
    rw [this]

set_option maxRecDepth 100000 in
theorem sums_walk (u : Value) (zs : List UInt8) (A c : Nat) (w : World) (hb : Bs w u zs) (h1 : A < U64) (h2 : c < 256) :
    Calls Try.prog 7 #[u, .int .u64 (A : Int), .int .u8 (c : Int)] w fun e w' => e = .returned (.bool true) ∧ Below w.heap.size w w' := by
  obtain ⟨i0, hi, hz0, hz1, hz2⟩ := info_parts info8
  have H1 := Lib.hid h1
  clear h1
  go_enter Try.func7, Try.ntmps7
  go_wp2_with fail
  refine (cut_any u zs w hb).mono ?_
  rintro e w' ⟨⟨v, rfl, hx⟩, rfl⟩
  have hl : (zs.take 300).length ≤ 300 := by rw [List.length_take]; omega
  obtain ⟨xs, hxs⟩ : ∃ xs, xs = zs.take 300 := ⟨_, rfl⟩
  rw [← hxs] at hx hl
  clear hxs hb
  have hl2 : xs.length ≤ 100000000 := by omega
  by_cases h0 : xs.length = 0
  · obtain ⟨ao, cap, rfl, _, _⟩ := hx.len
    have hne : ((xs.length : Int) == 0) = true := by rw [beq_iff_eq]; omega
    clear hx h0
    go_wp2_with fail
    refine (lives_any w).mono ?_
    rintro e w' ⟨rfl, hb⟩
    go_wp2_with fail
    go_ret
    exact ⟨rfl, hb⟩
  · obtain ⟨b, o, cap, rfl, e2, e3, hc⟩ := hx.form (by omega)
    have HX := Lib.hid hx
    have Hc := Lib.hid hc
    have hne : ((xs.length : Int) == 0) = false := by rw [beq_eq_false_iff_ne]; omega
    have hlp : 1 ≤ (xs.length : Int) := by omega
    obtain ⟨K, hKd⟩ : ∃ K : Nat, K = A % xs.length := ⟨_, rfl⟩
    have hK : K < xs.length := by rw [hKd]; exact Nat.mod_lt _ (by omega)
    have hKi : (A : Int) % (xs.length : Int) = (K : Int) := by rw [hKd]; rfl
    have hxc : ∀ j q, (xs.map c8)[j]? = some q → (w.alloc (.cells #[] 5)).cell? ((⟨b, o, none⟩ : Addr).add j) = some q := fun j q hq => by
      obtain ⟨_, _, hh, _, _, _, h5⟩ := hx
      cases hh
      have h := h5 _ rfl j q hq
      rw [World.cell?_alloc_lt _ _ _ (World.block_lt_of_cell? w _ h)]
      exact h
    have Hxc := Lib.hid hxc
    have hown0 := Lib.hid (World.ownsRow_made (base := w.heap.size) (e := 5) (size := 1) w #[] 0 (Nat.le_refl _) (by simp [maxLen]) (by simp))
    clear hx hc e3 hKd hxc
    go_wp2_with (at_builtin; go_must (refine wpList_append_own _ rfl _ _ 22 rfl w.heap.size 5 i0 (.int .u8 0) 1 1 Try.underlying22 hi hz0 hz1 hz2 rfl (by decide) _ 0 [] rfl hown0.out ⟨b, o, none⟩ xs.length cap (xs.map c8) rfl ?k0 Hxc.out c8_one ?k3 ?k4 ?k5 ?_))
    case k0 => simp
    case k3 => unfold maxLen; omega
    case k4 => omega
    case k5 => simp
    intro v' w1 hown hg _
    have hbl : Below w.heap.size w w1 := ((Below.refl _ w).alloc (Nat.le_refl _) _).trans ((Below.refl _ _).grown hg (by simp) (fun k hk => by simp [Value.ownBlock] at hk; omega))
    replace hown : w1.ownsRow w.heap.size 5 1 v' xs.length (xs.map c8) := by simpa using hown
    obtain ⟨g, cap1, hv⟩ := owns_form hown (by omega)
    rw [hv] at hown ⊢
    have hfr := hown.frozenAt K
    have hgl := (hown.lt g rfl).1
    have hcell : w1.cell? ⟨g, K, none⟩ = some (c8 (xs.getD K 0)) := by
      rw [hown.cellAt K (by omega), List.getElem?_map, List.getD_eq_getElem?_getD, List.getElem?_eq_getElem hK]; rfl
    obtain ⟨ds, hds⟩ : ∃ ds, ds = xs.set K (UInt8.ofNat c) := ⟨_, rfl⟩
    have hdl : ds.length = xs.length := by rw [hds]; simp
    have hst := (hown.stored K (.int .u8 (c : Int))).1
    have hc8 : c8 (UInt8.ofNat c) = .int .u8 (c : Int) := by rw [c8_nat]; congr 1; omega
    have hcnat : (UInt8.ofNat c).toNat = c := by rw [UInt8.toNat_ofNat']; omega
    rw [← hc8, ← List.map_set, ← hds, ← hdl] at hst
    have HD := Lib.hid (Bs.of_owns hst)
    rw [hdl, hc8] at HD
    have HB := Lib.hid (hbl.setCell (p := ⟨g, K, none⟩) hgl (.int .u8 (c : Int)))
    have hcb0 := Hc.out K hK
    have HXb := Lib.hid (HX.out.below HB.out)
    have hcb : (w1.setCell ⟨g, K, none⟩ (.int .u8 (c : Int))).cell? ⟨b, o + K, none⟩ = some (.int .u8 (bt xs K : Int)) := by
      rw [HB.out.cell (World.block_lt_of_cell? w _ hcb0)]; exact hcb0
    have Hcb := Lib.hid hcb
    have Hiff := Lib.hid (sums_iff xs K (UInt8.ofNat c) hK)
    rw [← hds, hcnat] at Hiff
    unfold c8 at hcell
    clear hown hg hbl hv hst hc8 hcnat hds hcb0 hcb hdl
    have Hdl := Lib.hid (show ds.length = xs.length by have := HD.out.len; obtain ⟨_, _, h, _⟩ := this; simp only [Value.slice.injEq] at h; exact h.2.1.symm)
    go_wp2_with fail
    have hcb := Hcb.out
    have hdl := Hdl.out
    by_cases hsame : bt xs K = c
    · have es : ((sumN xs : Int) == (sumN ds : Int)) = true := by have := Hiff.out.2 hsame; rw [this]; simp
      have eb : ((bt xs K : Int) == (c : Int)) = true := by rw [hsame]; simp
      refine wp_region_specs (R := Rb) (S := [Spec.eq (.slice (some ⟨b, o, none⟩) xs.length cap), Spec.eq (.int .u32 ((sumN xs : Int))), Spec.eq (.slice (some ⟨g, 0, none⟩) xs.length cap1), Spec.eq (.int .u32 ((sumN ds : Int))), Spec.eq (.bool true), Spec.eq (.slice (some ⟨b, o, none⟩) xs.length cap), Spec.eq (.int .i64 ((K : Int))), Spec.eq (.pointer (some ⟨b, o + K, none⟩)), Spec.eq (.int .u8 ((bt xs K : Int))), Spec.eq (.int .u8 ((c : Int))), Spec.eq (.bool true), Spec.eq (.bool true), Spec.eq (.bool true), Spec.eq (.bool true), Spec.eq (.bool true), Spec.eq (.bool true)]) (n := 1) (size := 43) (by kernel_rfl) Rb.trans (Rb.drew _) rfl (by kernel_rfl) ?owed ?fin
      case owed =>
        refine Owed.cons ?_ ?_
        · -- 0: slot 28 := Op.move (Operand.tmp 0)
          intro a w hR F
          have e0 : a.eval (.tmp 0) = .slice (some ⟨b, o, none⟩) xs.length cap := F.old 0 (by kernel_rfl)
          exact ok_move _ rfl (wanted_none rfl) ⟨Rb.refl _, e0⟩
        refine Owed.cons ?_ ?_
        · -- 1: slot 29 := Op.call { callee := Callee.value (Operand.func 27), args := #[Operand.tmp 28], argTypes := #[22] }
          intro a w hR F
          have e28 : a.eval (.tmp 28) = .slice (some ⟨b, o, none⟩) xs.length cap := F.new 0 28 (by kernel_rfl)
          refine ok_call 27 _ _ #[.slice (some ⟨b, o, none⟩) xs.length cap] rfl (wanted_none rfl) (by simp [e28]) (Try.call27 _ _) ?_
          exact val_call (sum_any _ xs w (HXb.out.below hR) hl2)
        refine Owed.cons ?_ ?_
        · -- 2: slot 30 := Op.move (Operand.tmp 8)
          intro a w hR F
          have e8 : a.eval (.tmp 8) = .slice (some ⟨g, 0, none⟩) xs.length cap1 := F.old 8 (by kernel_rfl)
          exact ok_move _ rfl (wanted_none rfl) ⟨Rb.refl _, e8⟩
        refine Owed.cons ?_ ?_
        · -- 3: slot 31 := Op.call { callee := Callee.value (Operand.func 27), args := #[Operand.tmp 30], argTypes := #[22] }
          intro a w hR F
          have e30 : a.eval (.tmp 30) = .slice (some ⟨g, 0, none⟩) xs.length cap1 := F.new 2 30 (by kernel_rfl)
          refine ok_call 27 _ _ #[.slice (some ⟨g, 0, none⟩) xs.length cap1] rfl (wanted_none rfl) (by simp [e30]) (Try.call27 _ _) ?_
          exact val_call (sum_any _ ds w (HD.out.below hR) (by rw [hdl]; exact hl2))
        refine Owed.cons ?_ ?_
        · -- 4: slot 32 := Op.binOp BinOp.eql 25 (Operand.tmp 29) (Operand.tmp 31) 25
          intro a w hR F
          have e29 : a.eval (.tmp 29) = .int .u32 ((sumN xs : Int)) := F.new 1 29 (by kernel_rfl)
          have e31 : a.eval (.tmp 31) = .int .u32 ((sumN ds : Int)) := F.new 3 31 (by kernel_rfl)
          refine ok_bin _ _ _ _ _ rfl (wanted_none rfl) e29 e31 (run_eql_int _ _ _ _ _ _) ⟨Rb.refl _, ?_⟩
          exact congrArg Value.bool (es)
        refine Owed.cons ?_ ?_
        · -- 5: slot 33 := Op.move (Operand.tmp 0)
          intro a w hR F
          have e0 : a.eval (.tmp 0) = .slice (some ⟨b, o, none⟩) xs.length cap := F.old 0 (by kernel_rfl)
          exact ok_move _ rfl (wanted_none rfl) ⟨Rb.refl _, e0⟩
        refine Owed.cons ?_ ?_
        · -- 6: slot 34 := Op.move (Operand.tmp 7)
          intro a w hR F
          have e7 : a.eval (.tmp 7) = .int .i64 ((K : Int)) := F.old 7 (by kernel_rfl)
          exact ok_move _ rfl (wanted_none rfl) ⟨Rb.refl _, e7⟩
        refine Owed.cons ?_ ?_
        · -- 7: slot 35 := Op.indexAddr 22 (Operand.tmp 33) (Operand.tmp 34)
          intro a w hR F
          have e33 : a.eval (.tmp 33) = .slice (some ⟨b, o, none⟩) xs.length cap := F.new 5 33 (by kernel_rfl)
          have e34 : a.eval (.tmp 34) = .int .i64 ((K : Int)) := F.new 6 34 (by kernel_rfl)
          exact ok_index _ 5 _ _ (k := K) rfl (wanted_none rfl) Try.underlying22 sizeOf8 e33 e34 hK ⟨Rb.refl _, rfl⟩
        refine Owed.cons ?_ ?_
        · -- 8: slot 36 := Op.load 5 (Operand.tmp 35)
          intro a w hR F
          have e35 : a.eval (.tmp 35) = .pointer (some ⟨b, o + K, none⟩) := F.new 7 35 (by kernel_rfl)
          exact ok_load _ _ rfl (wanted_none rfl) e35 (load8 _ _ _ (by rw [Below.cell hR (World.block_lt_of_cell? _ _ hcb)]; exact hcb)) ⟨Rb.refl _, rfl⟩
        refine Owed.cons ?_ ?_
        · -- 9: slot 37 := Op.move (Operand.tmp 2)
          intro a w hR F
          have e2 : a.eval (.tmp 2) = .int .u8 ((c : Int)) := F.old 2 (by kernel_rfl)
          exact ok_move _ rfl (wanted_none rfl) ⟨Rb.refl _, e2⟩
        refine Owed.cons ?_ ?_
        · -- 10: slot 38 := Op.binOp BinOp.eql 5 (Operand.tmp 36) (Operand.tmp 37) 5
          intro a w hR F
          have e36 : a.eval (.tmp 36) = .int .u8 ((bt xs K : Int)) := F.new 8 36 (by kernel_rfl)
          have e37 : a.eval (.tmp 37) = .int .u8 ((c : Int)) := F.new 9 37 (by kernel_rfl)
          refine ok_bin _ _ _ _ _ rfl (wanted_none rfl) e36 e37 (run_eql_int _ _ _ _ _ _) ⟨Rb.refl _, ?_⟩
          exact congrArg Value.bool (eb)
        refine Owed.cons ?_ ?_
        · -- 11: slot 39 := Op.binOp BinOp.eql 4 (Operand.tmp 32) (Operand.tmp 38) 4
          intro a w hR F
          have e32 : a.eval (.tmp 32) = .bool true := F.new 4 32 (by kernel_rfl)
          have e38 : a.eval (.tmp 38) = .bool true := F.new 10 38 (by kernel_rfl)
          refine ok_bin _ _ _ _ _ rfl (wanted_none rfl) e32 e38 (run_eql_boolB _ _ _ _ _ Try.underlying4) ⟨Rb.refl _, ?_⟩
          exact congrArg Value.bool (by simp)
        refine Owed.cons ?_ ?_
        · -- 12: slot 40 := Op.move (Operand.tmp 39)
          intro a w hR F
          have e39 : a.eval (.tmp 39) = .bool true := F.new 11 39 (by kernel_rfl)
          exact ok_move _ rfl (wanted_none rfl) ⟨Rb.refl _, e39⟩
        refine Owed.cons ?_ ?_
        · -- 13: slot 41 := Op.call { callee := Callee.value (Operand.func 19), args := #[], argTypes := #[] }
          intro a w hR F
          have e40 : a.eval (.tmp 40) = .bool true := F.new 12 40 (by kernel_rfl)
          refine ok_call 19 _ _ #[] rfl (wanted_true (j := 12) (d := 40) rfl (by kernel_rfl) e40) (by simp) (Try.call19 _ _) ?_
          exact val_call_below (lives_any w)
        refine Owed.cons ?_ ?_
        · -- 14: slot 42 := Op.pick (Operand.tmp 40) (Operand.tmp 41) (Operand.const (Value.bool false))
          intro a w hR F
          have e40 : a.eval (.tmp 40) = .bool true := F.new 12 40 (by kernel_rfl)
          have e41 : a.eval (.tmp 41) = .bool true := F.new 13 41 (by kernel_rfl)
          exact ok_pick _ _ _ true rfl (wanted_none rfl) e40 ⟨Rb.refl _, e41⟩
        refine Owed.cons ?_ ?_
        · -- 15: slot 6 := Op.assign (Operand.tmp 42)
          intro a w hR F
          have e42 : a.eval (.tmp 42) = .bool true := F.new 14 42 (by kernel_rfl)
          exact ok_assign _ rfl (wanted_none rfl) ⟨Rb.refl _, e42⟩
        exact Owed.nil
      case fin =>
        intro y w2 hR hy
        have e15 : y 15 = .bool true := hy 15 _ rfl
        have HR := Lib.hid hR
        clear hy hR
        simp only [putAll, Act.put, List.setIfInBounds_toArray, List.set_cons_zero, List.set_cons_succ]
        go_wp2
        go_ret
        exact ⟨congrArg Ending.returned e15, Below.trans HB.out (Below.mono HR.out HB.out.size)⟩
    · have es : ((sumN xs : Int) == (sumN ds : Int)) = false := by
        rw [beq_eq_false_iff_ne]; intro h; exact hsame (Hiff.out.1 (by omega))
      have eb : ((bt xs K : Int) == (c : Int)) = false := by rw [beq_eq_false_iff_ne]; omega
      refine wp_region_specs (R := Rb) (S := [Spec.eq (.slice (some ⟨b, o, none⟩) xs.length cap), Spec.eq (.int .u32 ((sumN xs : Int))), Spec.eq (.slice (some ⟨g, 0, none⟩) xs.length cap1), Spec.eq (.int .u32 ((sumN ds : Int))), Spec.eq (.bool false), Spec.eq (.slice (some ⟨b, o, none⟩) xs.length cap), Spec.eq (.int .i64 ((K : Int))), Spec.eq (.pointer (some ⟨b, o + K, none⟩)), Spec.eq (.int .u8 ((bt xs K : Int))), Spec.eq (.int .u8 ((c : Int))), Spec.eq (.bool false), Spec.eq (.bool true), Spec.eq (.bool true), Spec.eq (.bool true), Spec.eq (.bool true), Spec.eq (.bool true)]) (n := 1) (size := 43) (by kernel_rfl) Rb.trans (Rb.drew _) rfl (by kernel_rfl) ?owed ?fin
      case owed =>
        refine Owed.cons ?_ ?_
        · -- 0: slot 28 := Op.move (Operand.tmp 0)
          intro a w hR F
          have e0 : a.eval (.tmp 0) = .slice (some ⟨b, o, none⟩) xs.length cap := F.old 0 (by kernel_rfl)
          exact ok_move _ rfl (wanted_none rfl) ⟨Rb.refl _, e0⟩
        refine Owed.cons ?_ ?_
        · -- 1: slot 29 := Op.call { callee := Callee.value (Operand.func 27), args := #[Operand.tmp 28], argTypes := #[22] }
          intro a w hR F
          have e28 : a.eval (.tmp 28) = .slice (some ⟨b, o, none⟩) xs.length cap := F.new 0 28 (by kernel_rfl)
          refine ok_call 27 _ _ #[.slice (some ⟨b, o, none⟩) xs.length cap] rfl (wanted_none rfl) (by simp [e28]) (Try.call27 _ _) ?_
          exact val_call (sum_any _ xs w (HXb.out.below hR) hl2)
        refine Owed.cons ?_ ?_
        · -- 2: slot 30 := Op.move (Operand.tmp 8)
          intro a w hR F
          have e8 : a.eval (.tmp 8) = .slice (some ⟨g, 0, none⟩) xs.length cap1 := F.old 8 (by kernel_rfl)
          exact ok_move _ rfl (wanted_none rfl) ⟨Rb.refl _, e8⟩
        refine Owed.cons ?_ ?_
        · -- 3: slot 31 := Op.call { callee := Callee.value (Operand.func 27), args := #[Operand.tmp 30], argTypes := #[22] }
          intro a w hR F
          have e30 : a.eval (.tmp 30) = .slice (some ⟨g, 0, none⟩) xs.length cap1 := F.new 2 30 (by kernel_rfl)
          refine ok_call 27 _ _ #[.slice (some ⟨g, 0, none⟩) xs.length cap1] rfl (wanted_none rfl) (by simp [e30]) (Try.call27 _ _) ?_
          exact val_call (sum_any _ ds w (HD.out.below hR) (by rw [hdl]; exact hl2))
        refine Owed.cons ?_ ?_
        · -- 4: slot 32 := Op.binOp BinOp.eql 25 (Operand.tmp 29) (Operand.tmp 31) 25
          intro a w hR F
          have e29 : a.eval (.tmp 29) = .int .u32 ((sumN xs : Int)) := F.new 1 29 (by kernel_rfl)
          have e31 : a.eval (.tmp 31) = .int .u32 ((sumN ds : Int)) := F.new 3 31 (by kernel_rfl)
          refine ok_bin _ _ _ _ _ rfl (wanted_none rfl) e29 e31 (run_eql_int _ _ _ _ _ _) ⟨Rb.refl _, ?_⟩
          exact congrArg Value.bool (es)
        refine Owed.cons ?_ ?_
        · -- 5: slot 33 := Op.move (Operand.tmp 0)
          intro a w hR F
          have e0 : a.eval (.tmp 0) = .slice (some ⟨b, o, none⟩) xs.length cap := F.old 0 (by kernel_rfl)
          exact ok_move _ rfl (wanted_none rfl) ⟨Rb.refl _, e0⟩
        refine Owed.cons ?_ ?_
        · -- 6: slot 34 := Op.move (Operand.tmp 7)
          intro a w hR F
          have e7 : a.eval (.tmp 7) = .int .i64 ((K : Int)) := F.old 7 (by kernel_rfl)
          exact ok_move _ rfl (wanted_none rfl) ⟨Rb.refl _, e7⟩
        refine Owed.cons ?_ ?_
        · -- 7: slot 35 := Op.indexAddr 22 (Operand.tmp 33) (Operand.tmp 34)
          intro a w hR F
          have e33 : a.eval (.tmp 33) = .slice (some ⟨b, o, none⟩) xs.length cap := F.new 5 33 (by kernel_rfl)
          have e34 : a.eval (.tmp 34) = .int .i64 ((K : Int)) := F.new 6 34 (by kernel_rfl)
          exact ok_index _ 5 _ _ (k := K) rfl (wanted_none rfl) Try.underlying22 sizeOf8 e33 e34 hK ⟨Rb.refl _, rfl⟩
        refine Owed.cons ?_ ?_
        · -- 8: slot 36 := Op.load 5 (Operand.tmp 35)
          intro a w hR F
          have e35 : a.eval (.tmp 35) = .pointer (some ⟨b, o + K, none⟩) := F.new 7 35 (by kernel_rfl)
          exact ok_load _ _ rfl (wanted_none rfl) e35 (load8 _ _ _ (by rw [Below.cell hR (World.block_lt_of_cell? _ _ hcb)]; exact hcb)) ⟨Rb.refl _, rfl⟩
        refine Owed.cons ?_ ?_
        · -- 9: slot 37 := Op.move (Operand.tmp 2)
          intro a w hR F
          have e2 : a.eval (.tmp 2) = .int .u8 ((c : Int)) := F.old 2 (by kernel_rfl)
          exact ok_move _ rfl (wanted_none rfl) ⟨Rb.refl _, e2⟩
        refine Owed.cons ?_ ?_
        · -- 10: slot 38 := Op.binOp BinOp.eql 5 (Operand.tmp 36) (Operand.tmp 37) 5
          intro a w hR F
          have e36 : a.eval (.tmp 36) = .int .u8 ((bt xs K : Int)) := F.new 8 36 (by kernel_rfl)
          have e37 : a.eval (.tmp 37) = .int .u8 ((c : Int)) := F.new 9 37 (by kernel_rfl)
          refine ok_bin _ _ _ _ _ rfl (wanted_none rfl) e36 e37 (run_eql_int _ _ _ _ _ _) ⟨Rb.refl _, ?_⟩
          exact congrArg Value.bool (eb)
        refine Owed.cons ?_ ?_
        · -- 11: slot 39 := Op.binOp BinOp.eql 4 (Operand.tmp 32) (Operand.tmp 38) 4
          intro a w hR F
          have e32 : a.eval (.tmp 32) = .bool false := F.new 4 32 (by kernel_rfl)
          have e38 : a.eval (.tmp 38) = .bool false := F.new 10 38 (by kernel_rfl)
          refine ok_bin _ _ _ _ _ rfl (wanted_none rfl) e32 e38 (run_eql_boolB _ _ _ _ _ Try.underlying4) ⟨Rb.refl _, ?_⟩
          exact congrArg Value.bool (by simp)
        refine Owed.cons ?_ ?_
        · -- 12: slot 40 := Op.move (Operand.tmp 39)
          intro a w hR F
          have e39 : a.eval (.tmp 39) = .bool true := F.new 11 39 (by kernel_rfl)
          exact ok_move _ rfl (wanted_none rfl) ⟨Rb.refl _, e39⟩
        refine Owed.cons ?_ ?_
        · -- 13: slot 41 := Op.call { callee := Callee.value (Operand.func 19), args := #[], argTypes := #[] }
          intro a w hR F
          have e40 : a.eval (.tmp 40) = .bool true := F.new 12 40 (by kernel_rfl)
          refine ok_call 19 _ _ #[] rfl (wanted_true (j := 12) (d := 40) rfl (by kernel_rfl) e40) (by simp) (Try.call19 _ _) ?_
          exact val_call_below (lives_any w)
        refine Owed.cons ?_ ?_
        · -- 14: slot 42 := Op.pick (Operand.tmp 40) (Operand.tmp 41) (Operand.const (Value.bool false))
          intro a w hR F
          have e40 : a.eval (.tmp 40) = .bool true := F.new 12 40 (by kernel_rfl)
          have e41 : a.eval (.tmp 41) = .bool true := F.new 13 41 (by kernel_rfl)
          exact ok_pick _ _ _ true rfl (wanted_none rfl) e40 ⟨Rb.refl _, e41⟩
        refine Owed.cons ?_ ?_
        · -- 15: slot 6 := Op.assign (Operand.tmp 42)
          intro a w hR F
          have e42 : a.eval (.tmp 42) = .bool true := F.new 14 42 (by kernel_rfl)
          exact ok_assign _ rfl (wanted_none rfl) ⟨Rb.refl _, e42⟩
        exact Owed.nil
      case fin =>
        intro y w2 hR hy
        have e15 : y 15 = .bool true := hy 15 _ rfl
        have HR := Lib.hid hR
        clear hy hR
        simp only [putAll, Act.put, List.setIfInBounds_toArray, List.set_cons_zero, List.set_cons_succ]
        go_wp2
        go_ret
        exact ⟨congrArg Ending.returned e15, Below.trans HB.out (Below.mono HR.out HB.out.size)⟩
end Go.Proofs.Ytkngemckhbgbjaa
