import Derived.Test.YtolfeellcdoopaaDoorC
namespace Go.Proofs.YtolfeellcdoopaaDoor
open Go.ChangeShapes Go.WideShapes Go.ChangeAt Go.RowKit Oct By

set_option maxRecDepth 100000 in
theorem refint_any (n : Int) (w : World) (h0 : -9223372036854775808 ≤ n) (h1 : n ≤ 9223372036854775807) :
    Calls Tryd.prog 81 #[.int .i64 n] w (Put w 5 (intB n)) := by
  by_cases hn : 0 ≤ n
  · have hput := refuint_any (n * 2) w (by omega) (by unfold U64; omega)
    rw [show uintB (n * 2).toNat = intB n by unfold intB zig; rw [if_pos hn, Int.mul_comm]] at hput
    have Hput := Lib.hid hput
    clear hput
    go_enter Tryd.func81, Tryd.ntmps81
    go_wp2_with fail
    refine Hput.out.mono ?_
    rintro e w' ⟨g, cap, rfl, h2, h3⟩
    go_wp2
    go_ret
    exact ⟨g, cap, rfl, h2, h3⟩
  · have hput := refuint_any (-(n + 1) * 2 + 1) w (by omega) (by unfold U64; omega)
    rw [show uintB (-(n + 1) * 2 + 1).toNat = intB n by unfold intB zig; rw [if_neg hn]; congr 2; omega] at hput
    have Hput := Lib.hid hput
    clear hput
    have hn' : n < 0 := by omega
    go_enter Tryd.func81, Tryd.ntmps81
    go_wp2_with fail
    refine Hput.out.mono ?_
    rintro e w' ⟨g, cap, rfl, h2, h3⟩
    go_wp2
    go_ret
    exact ⟨g, cap, rfl, h2, h3⟩

theorem putuint_int (v : Value) (xs : List UInt8) (m : Int) (w : World) (hb : Bs w v xs) (hx : xs.length ≤ 100000000) (h0 : 0 ≤ m) (hn : m.toNat < U64) :
    Calls Tryd.prog 104 #[v, .int .u64 m] w (Put w 5 (xs ++ uintB m.toNat)) := by
  obtain ⟨n, rfl⟩ := Int.eq_ofNat_of_zero_le h0
  exact putuint_any v xs n w hb hx hn

set_option maxRecDepth 100000 in
theorem puttext_any (v : Value) (xs : List UInt8) (s : ByteArray) (w : World) (hb : Bs w v xs) (hx : xs.length ≤ 100000000) (hs : s.size ≤ 100000000) :
    Calls Tryd.prog 95 #[v, .string s] w (Put w 5 (xs ++ textB s.data.toList)) := by
  obtain ⟨i0, hi, hz0, hz1, hz2⟩ := info_parts info8
  have hu := sizeN_le10 (n := s.size) (by omega)
  rw [← uintB_length] at hu
  obtain ⟨us, hus⟩ : ∃ us, us = xs ++ uintB s.size := ⟨_, rfl⟩
  have hput := putuint_int v xs (s.size : Int) w hb hx (by omega) (by unfold U64; omega)
  rw [Int.toNat_natCast, ← hus] at hput
  have hul : us.length ≤ 100000010 := by rw [hus, List.length_append]; omega
  have hlen : s.data.toList.length = s.size := Array.length_toList
  rw [show xs ++ textB s.data.toList = us ++ s.data.toList by rw [hus, textB, hlen, List.append_assoc]]
  have Hlen := Lib.hid hlen
  have hup : 0 < us.length := by rw [hus, List.length_append, uintB_length]; have := sizeN_pos s.size; omega
  have Hput := Lib.hid hput
  clear hput hus hlen hu
  go_enter Tryd.func95, Tryd.ntmps95
  go_wp2_with fail
  refine Hput.out.mono ?_
  rintro e w' ⟨g, cap, rfl, h2, h3⟩
  have hsz := h3.size
  have H2 := Lib.hid h2
  have H3 := Lib.hid h3
  clear h2 h3
  go_wp2_with (at_builtin; go_must (refine Lib.wpList_append_own_string _ rfl _ _ 44 9 rfl w.heap.size 5 i0 Tryd.underlying44 Tryd.underlying9 hi hz0 hz1 hz2 _ us.length (us.map c8) rfl H2.out s rfl ?c3 ?c4 hsz ?_))
  case c3 => unfold maxLen; omega
  case c4 => omega
  intro v' w1 hown hg _
  have HP := Lib.hid (Put.mk (E := 5) (xs := us ++ s.data.toList) (w := w) (v := v') (w' := w1) (by rw [List.map_append, List.length_append, Hlen.out]; exact hown) (by simp; omega)
    (H3.out.trans ((Below.refl _ _).grown hg hsz (fun k hk => (H2.out.lt k hk).1))))
  clear hown hg
  go_wp2
  go_ret
  exact HP.out

set_option maxRecDepth 100000 in
theorem reftext_any (s : ByteArray) (w : World) (hs : s.size ≤ 100000000) :
    Calls Tryd.prog 82 #[.string s] w (Put w 5 (textB s.data.toList)) := by
  obtain ⟨i0, hi, hz0, hz1, hz2⟩ := info_parts info8
  have hu := sizeN_le10 (n := s.size) (by omega)
  rw [← uintB_length] at hu
  obtain ⟨us, hus⟩ : ∃ us, us = uintB s.size := ⟨_, rfl⟩
  have hput := refuint_any (s.size : Int) w (by omega) (by unfold U64; omega)
  rw [Int.toNat_natCast, ← hus] at hput
  rw [← hus] at hu
  have hlen : s.data.toList.length = s.size := Array.length_toList
  rw [show textB s.data.toList = us ++ s.data.toList by rw [hus, textB, hlen]]
  have Hlen := Lib.hid hlen
  have hup : 0 < us.length := by rw [hus, uintB_length]; have := sizeN_pos s.size; omega
  have Hput := Lib.hid hput
  clear hput hus hlen
  have kc := fun (w : World) => Lib.run_convert_string_bytes (P := Tryd.prog) w 9 44 5 s Tryd.underlying9 Tryd.underlying44 Tryd.underlying5
  go_enter Tryd.func82, Tryd.ntmps82
  go_wp2_with fail
  refine Hput.out.mono ?_
  rintro e w' ⟨g, cap, rfl, h2, h3⟩
  have hsz := h3.size
  have hb2 := bytesWorld_below w' 5 s
  have hszb := hb2.size
  have H2 := Lib.hid (owns_below h2 hb2)
  have H3 := Lib.hid (h3.trans (hb2.mono hsz))
  clear h2 h3 hb2
  go_wp2_with (at_builtin; go_must (refine wpList_append_own _ rfl _ _ 44 rfl w.heap.size 5 i0 (.int .u8 0) 1 1 Tryd.underlying44 hi hz0 hz1 hz2 rfl (by decide) _ us.length (us.map c8) rfl H2.out ⟨w'.heap.size, 0, none⟩ s.size _ (s.data.toList.map c8) rfl ?c0 ?c1 c8_one ?c3 ?c4 ?c5 ?_))
  case c0 => rw [List.length_map, Hlen.out, Nat.mul_one]
  case c1 => exact bytesWorld_cells w' _ s
  case c3 => unfold maxLen; omega
  case c4 => omega
  case c5 => omega
  intro v' w1 hown hg _
  have HP := Lib.hid (Put.mk (E := 5) (xs := us ++ s.data.toList) (w := w) (v := v') (w' := w1) (by rw [List.map_append, List.length_append, Hlen.out]; exact hown) (by simp; omega)
    (H3.out.trans ((Below.refl _ _).grown hg (by omega) (fun k hk => (H2.out.lt k hk).1))))
  clear hown hg
  go_wp2
  go_ret
  exact HP.out

end Go.Proofs.YtolfeellcdoopaaDoor
