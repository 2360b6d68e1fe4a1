/-
  slices.Grow of nil, slices.Concat of two slices of bytes.
-/
import Derived.Test.YtolfeellcdoopaaDoorVH
import Derived.Lib.AppendZerosOnto
namespace Go.Proofs.YtolfeellcdoopaaDoor
open Go.ChangeShapes Go.WideShapes Go.ChangeAt Go.RowKit Oct By Reg Val

set_option maxRecDepth 100000 in
theorem grow_any (n : Nat) (w : World) (hn : n ≤ 1000000) :
    Calls Tryd.prog 80 #[.slice none 0 0, .int .i64 n] w fun e w' => ∃ v, e = .returned v ∧ Own w.heap.size w' v [] ∧ Below w.heap.size w w' := by
  obtain ⟨i0, hi, hz0, hz1, hz2⟩ := info_parts info8
  by_cases h0 : n = 0
  · subst h0
    go_enter Tryd.func80, Tryd.ntmps80
    go_wp2
    go_ret
    exact ⟨_, rfl, ⟨rfl, .inl ⟨rfl, rfl⟩⟩, Below.refl _ _⟩
  · have hpos : 0 < n := by omega
    have hrz : ∀ ty, (Builtin.append_ #[44, 3] ty #[.slice none 0 0, .int .i64 (n : Int)]).run Tryd.prog w =
        .ok (.slice (some ⟨w.heap.size, 0, none⟩) n (grownCap w n 0 5)) (w.drew.alloc (.cells (([] : List Value).toArray ++ Builtin.zeroCells (Value.int .u8 0).cells n ++ Builtin.zeroCells (Value.int .u8 0).cells (grownCap w n 0 5 - n)) 5)) := fun ty => by
      have h := Lib.run_append_grow_zeros (P := Tryd.prog) w 44 3 ty 5 i0 (.int .u8 0) .i64 .i64 Tryd.underlying44 Tryd.underlying3 hi hz0 none 0 0 [] (run_firstCells_none w.drew i0.size 0 0 0) n hpos (by omega) (by omega) (by omega)
        (by rw [hz2]; omega) (by rw [hz2]; exact growslice_fits (by omega) (by omega))
      simpa using h
    have hge : n ≤ grownCap w n 0 5 := grownCap_ge w _ _ _
    have hle := grownCap_le_maxLen w n 0 5 (by unfold maxLen; omega)
    obtain ⟨G, hG⟩ : ∃ G, G = grownCap w n 0 5 := ⟨_, rfl⟩
    rw [← hG] at hrz hge hle
    have hcs : (([] : List Value).toArray ++ Builtin.zeroCells (Value.int .u8 0).cells n ++ Builtin.zeroCells (Value.int .u8 0).cells (G - n)).size = G := by
      simp [size_zeroCells, Value.cells]; omega
    obtain ⟨C, hC⟩ : ∃ C, C = ([] : List Value).toArray ++ Builtin.zeroCells (Value.int .u8 0).cells n ++ Builtin.zeroCells (Value.int .u8 0).cells (G - n) := ⟨_, rfl⟩
    rw [← hC] at hrz hcs
    have Hcs := Lib.hid hcs
    have Hle := Lib.hid hle
    have hG63 : G ≤ 9223372036854775807 := by unfold maxLen at hle; omega
    clear hcs hC hG hle
    go_enter Tryd.func80, Tryd.ntmps80
    go_wp2_with (at_builtin; refine Lib.wpList_append_run _ rfl _ _ _ _ rfl _ _ rfl rfl _ _ (hrz _) ?_)
    go_ret
    refine ⟨_, rfl, ⟨rfl, .inr ⟨w.heap.size, G, C, rfl, Nat.le_refl _, heap_alloc_new w.drew _, Nat.zero_le _, Hle.out, by rw [Hcs.out, Nat.mul_one], rfl⟩⟩, ?_⟩
    exact ((Below.refl _ w).drew).alloc (Nat.le_refl _) _

theorem grow_int (m : Int) (w : World) (h0 : 0 ≤ m) (h1 : m ≤ 1000000) :
    Calls Tryd.prog 80 #[.slice none 0 0, .int .i64 m] w fun e w' => ∃ v, e = .returned v ∧ Own w.heap.size w' v [] ∧ Below w.heap.size w w' := by
  obtain ⟨n, rfl⟩ := Int.eq_ofNat_of_zero_le h0
  exact grow_any n w (by omega)
theorem wpList_append_bs {w : World} {ops : Array Oper} {rest : List Oper} {o : Oper} {a : Act} {Q : Exit → Act → World → Prop} (hgd : o.guard = none) (s x : Operand)
    (ho : o.op = .call { callee := .builtin .append, args := #[s, x], argTypes := #[44, 44] })
    (B : Nat) (v u : Value) (xs ys : List UInt8) (hs : a.eval s = v) (hown : Own B w v xs) (hx : a.eval x = u) (hb : Bs w u ys) (hB : B ≤ w.heap.size) (hl : xs.length + ys.length ≤ 1000000)
    (h : ∀ v' w', Own B w' v' (xs ++ ys) → Below B w w' → wpList Tryd.prog ops Q rest (a.put o.dst v') w') : wpList Tryd.prog ops Q (o :: rest) a w := by
  obtain ⟨i0, hi, hz0, hz1, hz2⟩ := info_parts info8
  have hb0 := hb
  obtain ⟨ao, cap, rfl, h2, h3, h4, h5⟩ := hb
  cases ao with
  | none =>
    have hc := h4 rfl
    have hy : ys = [] := List.eq_nil_of_length_eq_zero (by omega)
    subst hy hc
    refine wpList_append_own_none hgd s x 44 ho B 5 i0 1 Tryd.underlying44 hi v xs.length _ hs hown hx ?_
    exact h _ _ (by rw [List.append_nil]; exact hown) (Below.refl _ _)
  | some ad =>
    refine wpList_append_own w hgd s x 44 ho B 5 i0 (.int .u8 0) 1 1 Tryd.underlying44 hi hz0 hz1 hz2 rfl (by decide) v xs.length _ hs hown ad ys.length cap (ys.map c8) hx (by simp) (h5 ad rfl) c8_one (by unfold maxLen; omega) (by omega) hB ?_
    intro v' w' r1 r2 _
    exact h v' w' (Own.mk r1) ((Below.refl B w).grown r2 hB (fun k hk => (hown.lt k hk).1))

set_option maxRecDepth 100000 in
theorem concat_any (b : Nat) (v0 v1 : Value) (xs ys : List UInt8) (w : World) (c0 : w.cell? ⟨b, 0, none⟩ = some v0) (c1 : w.cell? ⟨b, 1, none⟩ = some v1) (h0 : Bs w v0 xs) (h1 : Bs w v1 ys) (hx : xs.length ≤ 1000) (hy : ys.length ≤ 1000) :
    Calls Tryd.prog 61 #[.slice (some ⟨b, 0, none⟩) 2 2] w fun e w' => ∃ v, e = .returned v ∧ Own w.heap.size w' v (xs ++ ys) ∧ Below w.heap.size w w' := by
  obtain ⟨ao, cap, e0, _, _⟩ := h0.len
  obtain ⟨ao1, cap1, e1, _, _⟩ := h1.len
  have H0 := Lib.hid h0; have H1 := Lib.hid h1
  have hbk : b < w.heap.size := World.block_lt_of_cell? w _ c0
  clear h0 h1
  subst e0 e1
  have C0 := Lib.hid c0; have C1 := Lib.hid c1
  go_enter Tryd.func61, Tryd.ntmps61
  go_wp2
  go_loop [3, 11] (fun n i => ∃ k : Nat, k ≤ 2 ∧ i = .int .i64 (k : Int) ∧ n = .int .i64 (((if 0 < k then xs.length else 0) + (if 1 < k then ys.length else 0) : Nat) : Int)) (fun _ i => 2 - (intOf i).toNat)
  case atStart => exact ⟨0, by omega, rfl, rfl⟩
  case round =>
    obtain ⟨k, hk, rfl, rfl⟩ := hrel
    rcases (show k = 0 ∨ k = 1 ∨ k = 2 by omega) with rfl | rfl | rfl
    · simp only [Nat.lt_irrefl, if_false, Nat.zero_add, Int.natCast_zero, show ¬ (1 < 0) by decide]
      go_wp2_with fail
      go_round
      case rel => exact ⟨1, by omega, by go_num, by simp⟩
      case measure => simp [intOf]
    · simp only [Nat.lt_irrefl, if_false, if_true, Nat.add_zero, show (0 < 1) by decide]
      go_wp2_with fail
      go_round
      case rel => exact ⟨2, by omega, by go_num, by simp⟩
      case measure => simp [intOf]
    · simp only [if_true, show (0 < 2) by decide, show (1 < 2) by decide]
      go_wp2_with fail
      refine (grow_int _ w (by omega) (by omega)).mono ?_
      rintro e w1 ⟨v, rfl, hown, hbel⟩
      have HO := Lib.hid hown
      have HB := Lib.hid hbel
      clear hown hbel
      go_wp2_with fail
      go_loopw [6, 27] (fun v i wr => ∃ k : Nat, k ≤ 2 ∧ i = .int .i64 (k : Int) ∧ Own w.heap.size wr v ((if 0 < k then xs else []) ++ (if 1 < k then ys else [])) ∧ Below w.heap.size w wr) (fun _ i _ => 2 - (intOf i).toNat)
      case atStart => exact ⟨0, by omega, rfl, HO.out, HB.out⟩
      case round =>
        obtain ⟨k, hk, rfl, ho, hb⟩ := hrel
        have c0 : wr.cell? ⟨b, 0, none⟩ = some (.slice ao xs.length cap) := by rw [Below.cell hb (p := ⟨b, 0, none⟩) hbk]; exact C0.out
        have c1 : wr.cell? ⟨b, 1, none⟩ = some (.slice ao1 ys.length cap1) := by rw [Below.cell hb (p := ⟨b, 1, none⟩) hbk]; exact C1.out
        have hsz := hb.size
        have HB2 := Lib.hid hb
        clear hb
        rcases (show k = 0 ∨ k = 1 ∨ k = 2 by omega) with rfl | rfl | rfl
        · simp only [Nat.lt_irrefl, if_false, List.append_nil, show ¬ (1 < 0) by decide] at ho
          have HO2 := Lib.hid ho
          clear ho
          go_wp2_with (at_builtin; go_must (refine wpList_append_bs rfl _ _ rfl w.heap.size _ _ ([]) xs rfl HO2.out rfl (H0.out.below (HB2.out)) hsz (by first | omega | (simp; omega)) ?_))
          intro v' w2 hown hb2
          have HO3 := Lib.hid hown
          have HB3 := Lib.hid (HB2.out.trans hb2)
          clear hown hb2
          go_wp2_with fail
          go_roundw
          case rel => exact ⟨1, by omega, by go_num, by simpa using HO3.out, HB3.out⟩
          case measure => simp [intOf]
        · simp only [Nat.lt_irrefl, if_false, if_true, List.append_nil, show (0 < 1) by decide] at ho
          have HO2 := Lib.hid ho
          clear ho
          go_wp2_with (at_builtin; go_must (refine wpList_append_bs rfl _ _ rfl w.heap.size _ _ (xs) ys rfl HO2.out rfl (H1.out.below (HB2.out)) hsz (by first | omega | (simp; omega)) ?_))
          intro v' w2 hown hb2
          have HO3 := Lib.hid hown
          have HB3 := Lib.hid (HB2.out.trans hb2)
          clear hown hb2
          go_wp2_with fail
          go_roundw
          case rel => exact ⟨2, by omega, by go_num, by simpa using HO3.out, HB3.out⟩
          case measure => simp [intOf]
        · simp only [if_true, show (0 < 2) by decide, show (1 < 2) by decide] at ho
          have HO2 := Lib.hid ho
          clear ho
          go_wp2_with fail
          go_ret
          exact ⟨_, rfl, HO2.out, HB2.out⟩
end Go.Proofs.YtolfeellcdoopaaDoor
