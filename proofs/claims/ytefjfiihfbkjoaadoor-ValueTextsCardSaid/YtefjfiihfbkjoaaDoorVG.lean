/-
  Layer 2: a text in quotes.
-/
import Derived.Test.YtefjfiihfbkjoaaDoorVF
namespace Go.Proofs.YtefjfiihfbkjoaaDoor
open Go.ChangeShapes Go.WideShapes Go.ChangeAt Go.RowKit Oct By Reg Val

theorem esc_append (l m : List UInt8) : esc (l ++ m) = esc l ++ esc m := by
  induction l with
  | nil => rfl
  | cons c l ih =>
    simp only [List.cons_append, esc]
    split <;> simp [ih]
theorem esc_len (l : List UInt8) : (esc l).length ≤ 2 * l.length := by
  induction l with
  | nil => simp [esc]
  | cons c l ih =>
    simp only [esc]
    split <;> simp <;> omega
theorem esc_take (l : List UInt8) (k : Nat) (h : k < l.length) : esc (l.take (k + 1)) = esc (l.take k) ++ (if l.getD k 0 = 34 ∨ l.getD k 0 = 92 then [92, l.getD k 0] else [l.getD k 0]) := by
  rw [List.take_succ_eq_append_getElem h, esc_append, List.getD_eq_getElem?_getD, List.getElem?_eq_getElem h, Option.getD_some]
  congr 1

/-- a row of the call's own that holds the bytes xs -/
def Own (B : Nat) (w : World) (v : Value) (xs : List UInt8) : Prop := w.ownsRow B 5 1 v xs.length (xs.map c8)
theorem Own.full {B : Nat} {w : World} {v : Value} {xs : List UInt8} (h : Own B w v xs) (o : Obj) : Full (w.alloc o) B 5 1 v xs.length (xs.map c8) := (Full.own h).alloc o
theorem Own.mk {B : Nat} {w : World} {v : Value} {xs ys : List UInt8} (h : w.ownsRow B 5 1 v (xs.length + ys.length) (xs.map c8 ++ ys.map c8)) : Own B w v (xs ++ ys) := by
  unfold Own
  rw [List.map_append, List.length_append]
  exact h

set_option maxRecDepth 100000 in
theorem quoted_any (s : ByteArray) (w : World) (hs : s.size ≤ 100) :
    Calls Tryd.prog 51 #[.string s] w fun e w' => e = .returned (strV (quoteB s.data.toList)) ∧ Below w.heap.size w w' := by
  obtain ⟨i0, hi, hz0, hz1, hz2⟩ := info_parts info8
  have Hlen := Lib.hid (show s.data.toList.length = s.size from Array.length_toList)
  have hst : Hid (Own w.heap.size (w.alloc (.cells #[.int .u8 34] 5)) (.slice (some ⟨w.heap.size, 0, none⟩) 1 1) (34 :: esc (s.data.toList.take 0))) :=
    owns_lit w w.heap.size 5 [34] (Nat.le_refl _) (by simp [maxLen])
  go_enter Tryd.func51, Tryd.ntmps51
  go_wp2
  go_loopw [3, 8] (fun v i wr => ∃ (k : Nat), k ≤ s.size ∧ i = .int .i64 (k : Int) ∧ Own w.heap.size wr v (34 :: esc (s.data.toList.take k)) ∧ Below w.heap.size w wr) (fun _ i _ => s.size - (intOf i).toNat)
  case atStart => exact ⟨0, Nat.zero_le _, rfl, hst.out, (Below.refl _ _).alloc (Nat.le_refl _) _⟩
  case round =>
    obtain ⟨k, hk, rfl, ho, hb⟩ := hrel
    have hsz := hb.size
    obtain ⟨xs, hxs⟩ : ∃ xs, xs = 34 :: esc (s.data.toList.take k) := ⟨_, rfl⟩
    have hxl : xs.length ≤ 201 := by
      rw [hxs, List.length_cons]; have := esc_len (s.data.toList.take k); have := List.length_take_le k s.data.toList; omega
    rw [← hxs] at ho
    have HO := Lib.hid ho
    have HB := Lib.hid hb
    have Hxs := Lib.hid hxs
    clear ho hb hxs
    by_cases hlt : k < s.size
    · have hl : k < s.data.toList.length := by rw [Hlen.out]; exact hlt
      have hgd : s.data.toList.getD k 0 = s[k] := by
        rw [List.getD_eq_getElem?_getD, List.getElem?_eq_getElem hl]; rfl
      have het := esc_take s.data.toList k hl
      rw [hgd] at het
      have Het := Lib.hid het; clear het hgd
      by_cases hq : s[k] = 34 ∨ s[k] = 92
      · have hn : Hid (34 :: esc (s.data.toList.take (k + 1)) = (xs ++ [92]) ++ [s[k]]) := by
          show 34 :: esc (s.data.toList.take (k + 1)) = (xs ++ [92]) ++ [s[k]]
          rw [Het.out, if_pos hq, Hxs.out]; simp
        by_cases h34 : s[k] = 34
        · have h1 : ((s[k].toNat : Int) == 34) = true := by rw [h34]; rfl
          clear hq h34
          have Hf := Lib.hid (HO.out.full (.cells #[.int .u8 92] 5))
          go_wp2_with (at_builtin; go_must (refine wpList_append_fo _ rfl _ _ 37 rfl 5 i0 (.int .u8 0) 1 1 Tryd.underlying37 hi hz0 hz1 hz2 rfl (by decide) w.heap.size _ xs.length _ rfl Hf.out ⟨wr.heap.size, 0, none⟩ 1 1 [.int .u8 92] rfl rfl ?c1 ?c2 (by decide) ?c3 ?c4 ?c5 ?_))
          case c1 => exact cell_one_new _ _ _
          case c2 => intro u hu; simp at hu; subst hu; rfl
          case c3 => unfold maxLen; omega
          case c4 => omega
          case c5 => simp; omega
          intro v' w1 hown hb1
          have HO1 := Lib.hid (Own.mk (ys := [92]) hown)
          have HB1 := Lib.hid (HB.out.trans (((Below.refl _ wr).alloc hsz (.cells #[.int .u8 92] 5)).trans hb1))
          clear hown hb1 Hf
          have hsz1 := HB1.out.size
          have hxl1 : (xs ++ [92]).length ≤ 202 := by rw [List.length_append]; simp; omega
          obtain ⟨ys, hys⟩ : ∃ ys, ys = xs ++ [92] := ⟨_, rfl⟩
          rw [← hys] at HO1 hxl1 hn
          clear hys
          have Hf := Lib.hid (HO1.out.full (.cells #[.int .u8 (s[k].toNat : Int)] 5))
          go_wp2_with (at_builtin; go_must (refine wpList_append_fo _ rfl _ _ 37 rfl 5 i0 (.int .u8 0) 1 1 Tryd.underlying37 hi hz0 hz1 hz2 rfl (by decide) w.heap.size _ ys.length _ rfl Hf.out ⟨w1.heap.size, 0, none⟩ 1 1 [.int .u8 (s[k].toNat : Int)] rfl rfl ?d1 ?d2 (by decide) ?d3 ?d4 ?d5 ?_))
          case d1 => exact cell_one_new _ _ _
          case d2 => intro u hu; simp at hu; subst hu; rfl
          case d3 => unfold maxLen; omega
          case d4 => omega
          case d5 => simp; omega
          intro v2 w2 hown hb2
          have HN := Lib.hid (show Own w.heap.size w2 v2 (34 :: esc (s.data.toList.take (k + 1))) by rw [hn.out]; exact Own.mk (ys := [s[k]]) hown)
          have HB2 := Lib.hid (HB1.out.trans (((Below.refl _ w1).alloc hsz1 (.cells #[.int .u8 (s[k].toNat : Int)] 5)).trans hb2))
          clear hown hb2
          go_wp2
          go_roundw
          case rel => exact ⟨k + 1, by omega, by go_num, HN.out, HB2.out⟩
          case measure => simp [intOf]; omega
        · have h92 : s[k] = 92 := by rcases hq with h | h; exact absurd h h34; exact h
          have h1 : ((s[k].toNat : Int) == 34) = false := by rw [h92]; rfl
          have h2 : ((s[k].toNat : Int) == 92) = true := by rw [h92]; rfl
          clear hq h34 h92
          have Hf := Lib.hid (HO.out.full (.cells #[.int .u8 92] 5))
          go_wp2_with (at_builtin; go_must (refine wpList_append_fo _ rfl _ _ 37 rfl 5 i0 (.int .u8 0) 1 1 Tryd.underlying37 hi hz0 hz1 hz2 rfl (by decide) w.heap.size _ xs.length _ rfl Hf.out ⟨wr.heap.size, 0, none⟩ 1 1 [.int .u8 92] rfl rfl ?c1 ?c2 (by decide) ?c3 ?c4 ?c5 ?_))
          case c1 => exact cell_one_new _ _ _
          case c2 => intro u hu; simp at hu; subst hu; rfl
          case c3 => unfold maxLen; omega
          case c4 => omega
          case c5 => simp; omega
          intro v' w1 hown hb1
          have HO1 := Lib.hid (Own.mk (ys := [92]) hown)
          have HB1 := Lib.hid (HB.out.trans (((Below.refl _ wr).alloc hsz (.cells #[.int .u8 92] 5)).trans hb1))
          clear hown hb1 Hf
          have hsz1 := HB1.out.size
          have hxl1 : (xs ++ [92]).length ≤ 202 := by rw [List.length_append]; simp; omega
          obtain ⟨ys, hys⟩ : ∃ ys, ys = xs ++ [92] := ⟨_, rfl⟩
          rw [← hys] at HO1 hxl1 hn
          clear hys
          have Hf := Lib.hid (HO1.out.full (.cells #[.int .u8 (s[k].toNat : Int)] 5))
          go_wp2_with (at_builtin; go_must (refine wpList_append_fo _ rfl _ _ 37 rfl 5 i0 (.int .u8 0) 1 1 Tryd.underlying37 hi hz0 hz1 hz2 rfl (by decide) w.heap.size _ ys.length _ rfl Hf.out ⟨w1.heap.size, 0, none⟩ 1 1 [.int .u8 (s[k].toNat : Int)] rfl rfl ?d1 ?d2 (by decide) ?d3 ?d4 ?d5 ?_))
          case d1 => exact cell_one_new _ _ _
          case d2 => intro u hu; simp at hu; subst hu; rfl
          case d3 => unfold maxLen; omega
          case d4 => omega
          case d5 => simp; omega
          intro v2 w2 hown hb2
          have HN := Lib.hid (show Own w.heap.size w2 v2 (34 :: esc (s.data.toList.take (k + 1))) by rw [hn.out]; exact Own.mk (ys := [s[k]]) hown)
          have HB2 := Lib.hid (HB1.out.trans (((Below.refl _ w1).alloc hsz1 (.cells #[.int .u8 (s[k].toNat : Int)] 5)).trans hb2))
          clear hown hb2
          go_wp2
          go_roundw
          case rel => exact ⟨k + 1, by omega, by go_num, HN.out, HB2.out⟩
          case measure => simp [intOf]; omega
      · have hn : Hid (34 :: esc (s.data.toList.take (k + 1)) = xs ++ [s[k]]) := by
          show 34 :: esc (s.data.toList.take (k + 1)) = xs ++ [s[k]]
          rw [Het.out, if_neg hq, Hxs.out]; rfl
        have h1 : ((s[k].toNat : Int) == 34) = false := by
          rw [beq_eq_false_iff_ne]; intro h; exact hq (.inl (UInt8.toNat_inj.1 (by rw [show s[k].toNat = 34 by omega]; rfl)))
        have h2 : ((s[k].toNat : Int) == 92) = false := by
          rw [beq_eq_false_iff_ne]; intro h; exact hq (.inr (UInt8.toNat_inj.1 (by rw [show s[k].toNat = 92 by omega]; rfl)))
        clear hq
        have Hf := Lib.hid (HO.out.full (.cells #[.int .u8 (s[k].toNat : Int)] 5))
        go_wp2_with (at_builtin; go_must (refine wpList_append_fo _ rfl _ _ 37 rfl 5 i0 (.int .u8 0) 1 1 Tryd.underlying37 hi hz0 hz1 hz2 rfl (by decide) w.heap.size _ xs.length _ rfl Hf.out ⟨wr.heap.size, 0, none⟩ 1 1 [.int .u8 (s[k].toNat : Int)] rfl rfl ?c1 ?c2 (by decide) ?c3 ?c4 ?c5 ?_))
        case c1 => exact cell_one_new _ _ _
        case c2 => intro u hu; simp at hu; subst hu; rfl
        case c3 => unfold maxLen; omega
        case c4 => omega
        case c5 => simp; omega
        intro v' w1 hown hb1
        have HN := Lib.hid (show Own w.heap.size w1 v' (34 :: esc (s.data.toList.take (k + 1))) by rw [hn.out]; exact Own.mk (ys := [s[k]]) hown)
        have HB1 := Lib.hid (HB.out.trans (((Below.refl _ wr).alloc hsz (.cells #[.int .u8 (s[k].toNat : Int)] 5)).trans hb1))
        clear hown hb1
        go_wp2
        go_roundw
        case rel => exact ⟨k + 1, by omega, by go_num, HN.out, HB1.out⟩
        case measure => simp [intOf]; omega
    · have hq : Hid (quoteB s.data.toList = xs ++ [34]) := by
        show quoteB s.data.toList = xs ++ [34]
        rw [Hxs.out, List.take_of_length_le (by rw [Hlen.out]; omega)]; rfl
      have Hf := Lib.hid (HO.out.full (.cells #[.int .u8 34] 5))
      go_wp2_with (at_builtin; go_must (refine wpList_append_fo _ rfl _ _ 37 rfl 5 i0 (.int .u8 0) 1 1 Tryd.underlying37 hi hz0 hz1 hz2 rfl (by decide) w.heap.size _ xs.length _ rfl Hf.out ⟨wr.heap.size, 0, none⟩ 1 1 [.int .u8 34] rfl rfl ?c1 ?c2 (by decide) ?c3 ?c4 ?c5 ?_))
      case c1 => exact cell_one_new _ _ _
      case c2 => intro u hu; simp at hu; subst hu; rfl
      case c3 => unfold maxLen; omega
      case c4 => omega
      case c5 => simp; omega
      intro v' w1 hown hb1
      have hO := Own.mk (ys := [34]) hown
      rw [← hq.out] at hO
      have kc := run_convert_Bs (P := Tryd.prog) (Bs.of_owns hO) 37 5 9 Tryd.underlying37 Tryd.underlying5 Tryd.underlying9
      have HB1 := Lib.hid (HB.out.trans (((Below.refl _ wr).alloc hsz (.cells #[.int .u8 34] 5)).trans hb1))
      clear hown hb1 hO
      go_wp2
      go_ret
      exact ⟨rfl, HB1.out⟩
end Go.Proofs.YtefjfiihfbkjoaaDoor
