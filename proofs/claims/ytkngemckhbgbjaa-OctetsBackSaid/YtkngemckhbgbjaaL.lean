import Derived.Test.YtkngemckhbgbjaaK
namespace Go.Proofs.Ytkngemckhbgbjaa
open Go.ChangeShapes Go.WideShapes Go.ChangeAt Go.RowKit Oct By Reg

theorem gt_lt {xs : List UInt8} {i most : Int} {s : List UInt8} {m : Nat} (h : gt xs i most = some (s, m)) : (0 : Int) < m ∧ i + m ≤ xs.length := by
  unfold gt at h
  cases hg : gu xs i with
  | none => rw [hg] at h; cases h
  | some p =>
    obtain ⟨n, k⟩ := p
    obtain ⟨g1, g2, g3, g4, g5, _⟩ := gu_lt hg
    rw [hg] at h
    simp only [] at h
    split at h
    · rename_i hc
      cases h
      omega
    · cases h

set_option maxRecDepth 100000 in
theorem gets_walk (u : Value) (ys : List UInt8) (i most : Int) (w : World) (hb : Bs w u ys) (h3 : most ≤ 9223372036854775807) :
    Calls Try.prog 4 #[u, .int .i64 i, .int .i64 most] w fun e w' => e = .returned (.bool true) ∧ Below w.heap.size w w' := by
  go_enter Try.func4, Try.ntmps4
  go_wp2_with fail
  refine (cut_any u ys w hb).mono ?_
  rintro e w' ⟨⟨v, rfl, hx⟩, rfl⟩
  have hl : (ys.take 300).length ≤ 300 := by rw [List.length_take]; omega
  obtain ⟨xs, hxs⟩ : ∃ xs, xs = ys.take 300 := ⟨_, rfl⟩
  rw [← hxs] at hx hl
  clear hxs hb
  have HX := Lib.hid hx
  clear hx
  have hl2 : xs.length ≤ 100000000 := by omega
  go_wp2_with fail
  refine (getuint_any v xs i w HX.out hl2).mono ?_
  rintro e w' ⟨rfl, rfl⟩
  cases hg : gu xs i with
  | none =>
    have hgt : gt xs i most = none := by unfold gt; rw [hg]
    have Hg := Lib.hid hg
    have Hgt := Lib.hid hgt
    clear hg hgt
    unfold tupU
    go_wp2_with fail
    refine (refget_any v xs i w HX.out hl2).mono ?_
    rintro e w1 ⟨rfl, hb1⟩
    have HB1 := Lib.hid hb1
    clear hb1
    rw [Hg.out]
    unfold tupR
    go_wp2_with fail
    refine (getint_any v xs i w1 (HX.out.below HB1.out) hl2).mono ?_
    rintro e w' ⟨rfl, rfl⟩
    rw [Hg.out]
    unfold tupI
    go_wp2_with fail
    refine (refgetint_any v xs i w1 (HX.out.below HB1.out) hl2).mono ?_
    rintro e w2 ⟨rfl, hb2⟩
    rw [Hg.out]
    unfold tupRI
    have HB2 := Lib.hid (HB1.out.trans (hb2.mono HB1.out.size))
    clear hb2 HB1
    go_wp2_with fail
    refine (gettext_any v xs i most w2 (HX.out.below HB2.out) hl2).mono ?_
    rintro e w' ⟨rfl, rfl⟩
    rw [Hgt.out]
    unfold tupT
    go_wp2_with fail
    refine (reftext_get v xs i most w2 (HX.out.below HB2.out) hl2 h3).mono ?_
    rintro e w3 ⟨rfl, hb3⟩
    rw [Hgt.out]
    unfold tupRT
    have HB3 := Lib.hid (HB2.out.trans (hb3.mono HB2.out.size))
    clear hb3 HB2
    go_wp2_with fail
    refine (lives_any w3).mono ?_
    rintro e w4 ⟨rfl, hb4⟩
    have HB4 := Lib.hid (HB3.out.trans (hb4.mono HB3.out.size))
    clear hb4 HB3
    go_wp2_with fail
    go_ret
    exact ⟨rfl, HB4.out⟩
  | some p =>
    obtain ⟨n, k⟩ := p
    obtain ⟨g1, g2, g3, g4, g5, _⟩ := gu_lt hg
    have hk0 : (0 : Int) < k := by omega
    have Hg := Lib.hid hg
    cases hgt : gt xs i most with
    | none =>
      have Hgt := Lib.hid hgt
      clear hg hgt
      unfold tupU
      go_wp2_with fail
      refine (refget_any v xs i w HX.out hl2).mono ?_
      rintro e w1 ⟨rfl, hb1⟩
      have HB1 := Lib.hid hb1
      clear hb1
      rw [Hg.out]
      unfold tupR
      go_wp2_with fail
      refine (getint_any v xs i w1 (HX.out.below HB1.out) hl2).mono ?_
      rintro e w' ⟨rfl, rfl⟩
      rw [Hg.out]
      unfold tupI
      go_wp2_with fail
      refine (refgetint_any v xs i w1 (HX.out.below HB1.out) hl2).mono ?_
      rintro e w2 ⟨rfl, hb2⟩
      rw [Hg.out]
      unfold tupRI
      have HB2 := Lib.hid (HB1.out.trans (hb2.mono HB1.out.size))
      clear hb2 HB1
      go_wp2_with fail
      refine (gettext_any v xs i most w2 (HX.out.below HB2.out) hl2).mono ?_
      rintro e w' ⟨rfl, rfl⟩
      rw [Hgt.out]
      unfold tupT
      go_wp2_with fail
      refine (reftext_get v xs i most w2 (HX.out.below HB2.out) hl2 h3).mono ?_
      rintro e w3 ⟨rfl, hb3⟩
      rw [Hgt.out]
      unfold tupRT
      have HB3 := Lib.hid (HB2.out.trans (hb3.mono HB2.out.size))
      clear hb3 HB2
      go_wp2_with fail
      refine (lives_any w3).mono ?_
      rintro e w4 ⟨rfl, hb4⟩
      have HB4 := Lib.hid (HB3.out.trans (hb4.mono HB3.out.size))
      clear hb4 HB3
      go_wp2_with fail
      go_ret
      exact ⟨rfl, HB4.out⟩
    | some q =>
      obtain ⟨s, m⟩ := q
      have hm : (0 : Int) < m ∧ i + m ≤ xs.length := gt_lt hgt
      obtain ⟨hm1, hm2⟩ := hm
      have Hgt := Lib.hid hgt
      clear hg hgt
      unfold tupU
      go_wp2_with fail
      refine (refget_any v xs i w HX.out hl2).mono ?_
      rintro e w1 ⟨rfl, hb1⟩
      have HB1 := Lib.hid hb1
      clear hb1
      rw [Hg.out]
      unfold tupR
      go_wp2_with fail
      refine (getint_any v xs i w1 (HX.out.below HB1.out) hl2).mono ?_
      rintro e w' ⟨rfl, rfl⟩
      rw [Hg.out]
      unfold tupI
      go_wp2_with fail
      refine (refgetint_any v xs i w1 (HX.out.below HB1.out) hl2).mono ?_
      rintro e w2 ⟨rfl, hb2⟩
      rw [Hg.out]
      unfold tupRI
      have HB2 := Lib.hid (HB1.out.trans (hb2.mono HB1.out.size))
      clear hb2 HB1
      go_wp2_with fail
      refine (gettext_any v xs i most w2 (HX.out.below HB2.out) hl2).mono ?_
      rintro e w' ⟨rfl, rfl⟩
      rw [Hgt.out]
      unfold tupT
      go_wp2_with fail
      refine (reftext_get v xs i most w2 (HX.out.below HB2.out) hl2 h3).mono ?_
      rintro e w3 ⟨rfl, hb3⟩
      rw [Hgt.out]
      unfold tupRT
      have HB3 := Lib.hid (HB2.out.trans (hb3.mono HB2.out.size))
      clear hb3 HB2
      go_wp2_with fail
      refine (lives_any w3).mono ?_
      rintro e w4 ⟨rfl, hb4⟩
      have HB4 := Lib.hid (HB3.out.trans (hb4.mono HB3.out.size))
      clear hb4 HB3
      go_wp2_with fail
      go_ret
      exact ⟨rfl, HB4.out⟩
end Go.Proofs.Ytkngemckhbgbjaa
