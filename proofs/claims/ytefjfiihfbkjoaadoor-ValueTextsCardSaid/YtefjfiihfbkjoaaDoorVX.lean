/-
  Layer 2: the text between the first and the last byte, each escaped byte without its escape.
-/
import Derived.Test.YtefjfiihfbkjoaaDoorVG
import Derived.Test.YtefjfiihfbkjoaaDoorVI
namespace Go.Proofs.YtefjfiihfbkjoaaDoor
open Go.ChangeShapes Go.WideShapes Go.ChangeAt Go.RowKit Oct By Reg Val

/-- from place i on: the bytes ahead of the last one, each that is escaped without its escape (the last one too, if an escape stands ahead of it) -/
def unq (l : List UInt8) : Nat → Nat → List UInt8
  | 0, _ => []
  | f + 1, i => if i + 1 < l.length then (if l.getD i 0 = 92 then l.getD (i + 1) 0 :: unq l f (i + 2) else l.getD i 0 :: unq l f (i + 1)) else []
def unqB (l : List UInt8) : List UInt8 := unq l l.length 1

theorem unq_end (l : List UInt8) (f i : Nat) (h : ¬ i + 1 < l.length) : unq l f i = [] := by
  cases f with
  | zero => rfl
  | succ f => rw [unq, if_neg h]

set_option maxRecDepth 100000 in
theorem unquoted_any (s : ByteArray) (w : World) (hs : s.size ≤ 200) :
    Calls Tryd.prog 63 #[.string s] w fun e w' => e = .returned (strV (unqB s.data.toList)) ∧ Below w.heap.size w w' := by
  have Hlen := Lib.hid (show s.data.toList.length = s.size from Array.length_toList)
  have hst : Hid ([] ++ unq s.data.toList s.data.toList.length 1 = unqB s.data.toList) := rfl
  go_enter Tryd.func63, Tryd.ntmps63
  go_wp2
  go_loopw [3, 4] (fun v i wr => ∃ (k f : Nat) (xs : List UInt8), 1 ≤ k ∧ k ≤ 300 ∧ i = .int .i64 (k : Int) ∧ xs.length ≤ k ∧ s.size ≤ f + k ∧ Hid (xs ++ unq s.data.toList f k = unqB s.data.toList) ∧ Own w.heap.size wr v xs ∧ Below w.heap.size w wr) (fun _ i _ => 400 - (intOf i).toNat)
  case atStart => exact ⟨1, s.data.toList.length, [], by omega, by omega, rfl, by simp, by rw [Hlen.out]; omega, hst, ⟨rfl, .inl ⟨rfl, rfl⟩⟩, Below.refl _ _⟩
  case round =>
    obtain ⟨k, f, xs, hk1, hk2, rfl, hxl, hf, hu, ho, hb⟩ := hrel
    have hsz := hb.size
    have HO := Lib.hid ho
    have HB := Lib.hid hb
    clear ho hb
    by_cases hlt : k + 1 < s.size
    · have hl : k < s.data.toList.length := by rw [Hlen.out]; omega
      have hl1 : k + 1 < s.data.toList.length := by rw [Hlen.out]; omega
      have hgd : s.data.toList.getD k 0 = s[k] := by
        rw [List.getD_eq_getElem?_getD, List.getElem?_eq_getElem hl]; rfl
      have hgd1 : s.data.toList.getD (k + 1) 0 = s[k + 1] := by
        rw [List.getD_eq_getElem?_getD, List.getElem?_eq_getElem hl1]; rfl
      obtain ⟨f', rfl⟩ : ∃ f', f = f' + 1 := ⟨f - 1, by omega⟩
      have hu2 := hu.out
      rw [unq, if_pos hl1, hgd, hgd1] at hu2
      have Hu2 := Lib.hid hu2
      clear hu hu2 hgd hgd1
      by_cases hq : s[k] = 92
      · have h1 : ((s[k].toNat : Int) == 92) = true := by rw [hq]; rfl
        have hn : Hid ((xs ++ [s[k + 1]]) ++ unq s.data.toList f' (k + 2) = unqB s.data.toList) := by
          have h := Hu2.out
          rw [if_pos hq] at h
          show (xs ++ [s[k + 1]]) ++ unq s.data.toList f' (k + 2) = unqB s.data.toList
          rw [← h]; simp
        clear hq
        have HL := fun (w : World) => Bs.of_owns (show Own w.heap.size (w.alloc (.cells #[.int .u8 (s[k + 1].toNat : Int)] 5)) (.slice (some ⟨w.heap.size, 0, none⟩) 1 1) [s[k + 1]] from owns_lit w w.heap.size 5 [s[k + 1]] (Nat.le_refl _) (by simp [maxLen]))
        have HLW := Lib.hid HL
        clear HL
        have HO1 := Lib.hid (show Own w.heap.size (wr.alloc (.cells #[.int .u8 (s[k + 1].toNat : Int)] 5)) _ xs from owns_below HO.out ((Below.refl _ _).alloc (Nat.le_refl _) _))
        go_wp2_with (at_builtin; go_must (refine wpList_append_bs rfl _ _ rfl w.heap.size _ _ xs [s[k + 1]] rfl HO1.out rfl (HLW.out wr) (by simp; omega) (by simp; omega) ?_))
        intro v' w1 hown hb1
        have HN := Lib.hid hown
        have HB1 := Lib.hid (HB.out.trans (((Below.refl _ wr).alloc hsz (.cells #[.int .u8 (s[k + 1].toNat : Int)] 5)).trans hb1))
        clear hown hb1
        go_wp2
        go_roundw
        case rel => exact ⟨k + 2, f', xs ++ [s[k + 1]], by omega, by omega, by go_num, by rw [List.length_append]; simp; omega, by omega, hn, HN.out, HB1.out⟩
        case measure => simp [intOf]; omega
      · have h1 : ((s[k].toNat : Int) == 92) = false := by
          rw [beq_eq_false_iff_ne]; intro h; exact hq (UInt8.toNat_inj.1 (by rw [show s[k].toNat = 92 by omega]; rfl))
        have hn : Hid ((xs ++ [s[k]]) ++ unq s.data.toList f' (k + 1) = unqB s.data.toList) := by
          have h := Hu2.out
          rw [if_neg hq] at h
          show (xs ++ [s[k]]) ++ unq s.data.toList f' (k + 1) = unqB s.data.toList
          rw [← h]; simp
        clear hq
        have HL := fun (w : World) => Bs.of_owns (show Own w.heap.size (w.alloc (.cells #[.int .u8 (s[k].toNat : Int)] 5)) (.slice (some ⟨w.heap.size, 0, none⟩) 1 1) [s[k]] from owns_lit w w.heap.size 5 [s[k]] (Nat.le_refl _) (by simp [maxLen]))
        have HLW := Lib.hid HL
        clear HL
        have HO1 := Lib.hid (show Own w.heap.size (wr.alloc (.cells #[.int .u8 (s[k].toNat : Int)] 5)) _ xs from owns_below HO.out ((Below.refl _ _).alloc (Nat.le_refl _) _))
        go_wp2_with (at_builtin; go_must (refine wpList_append_bs rfl _ _ rfl w.heap.size _ _ xs [s[k]] rfl HO1.out rfl (HLW.out wr) (by simp; omega) (by simp; omega) ?_))
        intro v' w1 hown hb1
        have HN := Lib.hid hown
        have HB1 := Lib.hid (HB.out.trans (((Below.refl _ wr).alloc hsz (.cells #[.int .u8 (s[k].toNat : Int)] 5)).trans hb1))
        clear hown hb1
        go_wp2
        go_roundw
        case rel => exact ⟨k + 1, f', xs ++ [s[k]], by omega, by omega, by go_num, by rw [List.length_append]; simp; omega, by omega, hn, HN.out, HB1.out⟩
        case measure => simp [intOf]; omega
    · have hfin : Hid (xs = unqB s.data.toList) := by
        have h := hu.out
        rw [unq_end _ _ _ (by rw [Hlen.out]; omega), List.append_nil] at h
        exact h
      have kc := run_convert_Bs (P := Tryd.prog) (Bs.of_owns HO.out) 37 5 9 Tryd.underlying37 Tryd.underlying5 Tryd.underlying9
      clear hu
      go_wp2
      go_ret
      exact ⟨by rw [← hfin.out]; rfl, HB.out⟩
end Go.Proofs.YtefjfiihfbkjoaaDoor
