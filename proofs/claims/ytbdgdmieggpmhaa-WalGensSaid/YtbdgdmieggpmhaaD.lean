import Derived.Test.YtbdgdmieggpmhaaC
namespace Go.Proofs.Ytbdgdmieggpmhaa
open Go.ChangeShapes Go.WideShapes Go.ChangeAt Go.RowKit Oct By

theorem putuint_int (v : Value) (xs : List UInt8) (m : Int) (w : World) (hb : Bs w v xs) (hx : xs.length ≤ 100000000) (h0 : 0 ≤ m) (hn : m.toNat < U64) :
    Calls Try.prog 66 #[v, .int .u64 m] w (Put w 5 (xs ++ uintB m.toNat)) := by
  obtain ⟨n, rfl⟩ := Int.eq_ofNat_of_zero_le h0
  exact putuint_any v xs n w hb hx hn

set_option maxRecDepth 100000 in
theorem puttext_any (v : Value) (xs : List UInt8) (s : ByteArray) (w : World) (hb : Bs w v xs) (hx : xs.length ≤ 100000000) (hs : s.size ≤ 100000000) :
    Calls Try.prog 45 #[v, .string s] w (Put w 5 (xs ++ textB s.data.toList)) := by
  obtain ⟨i0, hi, hz0, hz1, hz2⟩ := info_parts info8
  have hu := sizeN_le10 (n := s.size) (by omega)
  rw [← uintB_length] at hu
  obtain ⟨us, hus⟩ : ∃ us, us = xs ++ uintB s.size := ⟨_, rfl⟩
  have hput := putuint_int v xs (s.size : Int) w hb hx (by omega) (by unfold U64; omega)
  rw [Int.toNat_natCast, ← hus] at hput
  have hul : us.length ≤ 100000010 := by rw [hus, List.length_append]; omega
  have hlen : s.data.toList.length = s.size := Array.length_toList
  rw [show xs ++ textB s.data.toList = us ++ s.data.toList by rw [hus, textB, hlen, List.append_assoc]]
  have Hlen := Lib.hid hlen
  have hup : 0 < us.length := by rw [hus, List.length_append, uintB_length]; have := sizeN_pos s.size; omega
  have Hput := Lib.hid hput
  clear hput hus hlen hu
  go_enter Try.func45, Try.ntmps45
  go_wp2_with fail
  refine Hput.out.mono ?_
  rintro e w' ⟨g, cap, rfl, h2, h3⟩
  have hsz := h3.size
  have H2 := Lib.hid h2
  have H3 := Lib.hid h3
  clear h2 h3
  go_wp2_with (at_builtin; go_must (refine Lib.wpList_append_own_string _ rfl _ _ 23 9 rfl w.heap.size 5 i0 Try.underlying23 Try.underlying9 hi hz0 hz1 hz2 _ us.length (us.map c8) rfl H2.out s rfl ?c3 ?c4 hsz ?_))
  case c3 => unfold maxLen; omega
  case c4 => omega
  intro v' w1 hown hg _
  have HP := Lib.hid (Put.mk (E := 5) (xs := us ++ s.data.toList) (w := w) (v := v') (w' := w1) (by rw [List.map_append, List.length_append, Hlen.out]; exact hown) (by simp; omega)
    (H3.out.trans ((Below.refl _ _).grown hg hsz (fun k hk => (H2.out.lt k hk).1))))
  clear hown hg
  go_wp2
  go_ret
  exact HP.out

set_option maxRecDepth 100000 in
theorem reftext_any (s : ByteArray) (w : World) (hs : s.size ≤ 100000000) :
    Calls Try.prog 51 #[.string s] w (Put w 5 (textB s.data.toList)) := by
  obtain ⟨i0, hi, hz0, hz1, hz2⟩ := info_parts info8
  have hu := sizeN_le10 (n := s.size) (by omega)
  rw [← uintB_length] at hu
  obtain ⟨us, hus⟩ : ∃ us, us = uintB s.size := ⟨_, rfl⟩
  have hput := refuint_any (s.size : Int) w (by omega) (by unfold U64; omega)
  rw [Int.toNat_natCast, ← hus] at hput
  rw [← hus] at hu
  have hlen : s.data.toList.length = s.size := Array.length_toList
  rw [show textB s.data.toList = us ++ s.data.toList by rw [hus, textB, hlen]]
  have Hlen := Lib.hid hlen
  have hup : 0 < us.length := by rw [hus, uintB_length]; have := sizeN_pos s.size; omega
  have Hput := Lib.hid hput
  clear hput hus hlen
  have kc := fun (w : World) => Lib.run_convert_string_bytes (P := Try.prog) w 9 23 5 s Try.underlying9 Try.underlying23 Try.underlying5
  go_enter Try.func51, Try.ntmps51
  go_wp2_with fail
  refine Hput.out.mono ?_
  rintro e w' ⟨g, cap, rfl, h2, h3⟩
  have hsz := h3.size
  have hb2 := bytesWorld_below w' 5 s
  have hszb := hb2.size
  have H2 := Lib.hid (owns_below h2 hb2)
  have H3 := Lib.hid (h3.trans (hb2.mono hsz))
  clear h2 h3 hb2
  go_wp2_with (at_builtin; go_must (refine wpList_append_own _ rfl _ _ 23 rfl w.heap.size 5 i0 (.int .u8 0) 1 1 Try.underlying23 hi hz0 hz1 hz2 rfl (by decide) _ us.length (us.map c8) rfl H2.out ⟨w'.heap.size, 0, none⟩ s.size _ (s.data.toList.map c8) rfl ?c0 ?c1 c8_one ?c3 ?c4 ?c5 ?_))
  case c0 => rw [List.length_map, Hlen.out, Nat.mul_one]
  case c1 => exact bytesWorld_cells w' _ s
  case c3 => unfold maxLen; omega
  case c4 => omega
  case c5 => omega
  intro v' w1 hown hg _
  have HP := Lib.hid (Put.mk (E := 5) (xs := us ++ s.data.toList) (w := w) (v := v') (w' := w1) (by rw [List.map_append, List.length_append, Hlen.out]; exact hown) (by simp; omega)
    (H3.out.trans ((Below.refl _ _).grown hg (by omega) (fun k hk => (H2.out.lt k hk).1))))
  clear hown hg
  go_wp2
  go_ret
  exact HP.out

theorem word_cells (n : Int) (h0 : 0 ≤ n) (h1 : n < 4294967296) : (wordB n.toNat).map c8 = [.int .u8 (n / 16777216), .int .u8 (n / 65536 % 256), .int .u8 (n / 256 % 256), .int .u8 (n % 256)] := by
  simp only [wordB, List.map_cons, List.map_nil, c8_nat, List.cons.injEq, Value.int.injEq, true_and, and_true]
  refine ⟨?_, ?_, ?_, ?_⟩ <;> omega

set_option maxRecDepth 100000 in
theorem putword_any (v : Value) (xs : List UInt8) (n : Int) (w : World) (hb : Bs w v xs) (hx : xs.length ≤ 100000000) (h0 : 0 ≤ n) (h1 : n < 4294967296) :
    Calls Try.prog 46 #[v, .int .u32 n] w (Put w 5 (xs ++ wordB n.toNat)) := by
  obtain ⟨i0, hi, hz0, hz1, hz2⟩ := info_parts info8
  obtain ⟨a, cap, rfl, e1, e2, e3, e4⟩ := hb
  have hcap : cap ≤ 9223372036854775807 := by unfold maxLen at e2; omega
  have hF : Full w w.heap.size 5 1 (.slice a xs.length xs.length) xs.length (xs.map c8) :=
    .inl ⟨a, rfl, fun h => by have := e3 h; omega, by simp, e4⟩
  have HF := Lib.hid (hF.alloc (.cells #[.int .u8 (n / 16777216), .int .u8 (n / 65536 % 256), .int .u8 (n / 256 % 256), .int .u8 (n % 256)] 5))
  have Hc := Lib.hid (cells_new w 5 [.int .u8 (n / 16777216), .int .u8 (n / 65536 % 256), .int .u8 (n / 256 % 256), .int .u8 (n % 256)] (by simp [maxLen]))
  have Hw := Lib.hid (word_cells n h0 h1)
  clear hF e3 e4 e2
  go_enter Try.func46, Try.ntmps46
  go_wp2_with (first | (go_at_call 67; refine (apart_any _ _ _ _ e1 hcap).mono ?_; rintro e w' ⟨rfl, rfl⟩) | (at_builtin; go_must (refine wpList_append_fo _ rfl _ _ 23 rfl 5 i0 (.int .u8 0) 1 1 Try.underlying23 hi hz0 hz1 hz2 rfl (by decide) w.heap.size _ xs.length _ rfl HF.out ⟨w.heap.size, 0, none⟩ 4 4 [.int .u8 (n / 16777216), .int .u8 (n / 65536 % 256), .int .u8 (n / 256 % 256), .int .u8 (n % 256)] rfl rfl Hc.out ?c2 (by decide) ?c3 ?c4 ?c5 ?_)))
  case c2 => intro u hu; simp at hu; rcases hu with rfl | rfl | rfl | rfl <;> rfl
  case c3 => unfold maxLen; omega
  case c4 => omega
  case c5 => simp
  intro v' w1 hown hb1
  have HP := Lib.hid (Put.mk (E := 5) (xs := xs ++ wordB n.toNat) (w := w) (v := v') (w' := w1) (by rw [List.map_append, Hw.out, List.length_append]; exact hown) (by simp [wordB])
    (((Below.refl _ _).alloc (Nat.le_refl _) _).trans hb1))
  clear hown hb1
  go_wp2
  go_ret
  exact HP.out

set_option maxRecDepth 100000 in
theorem refword_any (n : Int) (w : World) (h0 : 0 ≤ n) (h1 : n < 4294967296) :
    Calls Try.prog 50 #[.int .u32 n] w (Put w 5 (wordB n.toNat)) := by
  have Hw := Lib.hid (word_cells n h0 h1)
  go_enter Try.func50, Try.ntmps50
  go_wp2
  go_ret
  refine Put.mk (v := .slice (some ⟨w.heap.size, 0, none⟩) 4 4) ?_ (by simp [wordB]) ((Below.refl _ _).alloc (Nat.le_refl _) _)
  rw [Hw.out]
  exact owns_new w _ [.int .u8 (n / 16777216), .int .u8 (n / 65536 % 256), .int .u8 (n / 256 % 256), .int .u8 (n % 256)] (by simp [maxLen])
end Go.Proofs.Ytbdgdmieggpmhaa
