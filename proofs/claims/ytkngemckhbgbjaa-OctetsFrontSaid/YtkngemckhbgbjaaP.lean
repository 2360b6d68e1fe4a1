import Derived.Test.YtkngemckhbgbjaaO
namespace Go.Proofs.Ytkngemckhbgbjaa
open Go.ChangeShapes Go.WideShapes Go.ChangeAt Go.RowKit Oct By Reg

theorem gu_front {xs : List UInt8} {n k : Nat} (ms : List UInt8) (h : gu xs 0 = some (n, k)) : gu (xs ++ ms) 0 = some (n, k) := by
  unfold gu at h ⊢
  rw [if_pos ⟨by omega, by omega⟩] at h ⊢
  exact getU_front h ms
theorem gt_front {xs : List UInt8} {most : Int} {s : List UInt8} {m : Nat} (ms : List UInt8) (h : gt xs 0 most = some (s, m)) : gt (xs ++ ms) 0 most = some (s, m) := by
  unfold gt at h ⊢
  cases hg : gu xs 0 with
  | none => rw [hg] at h; cases h
  | some p =>
    obtain ⟨n, k⟩ := p
    rw [gu_front ms hg]
    rw [hg] at h
    simp only [] at h ⊢
    split at h
    · rename_i hc
      rw [if_pos ⟨hc.1, by rw [List.length_append]; omega⟩]
      rw [← h]
      congr 2
      rw [List.drop_append_of_le_length (by simp; omega), List.take_append_of_le_length (by rw [List.length_drop]; simp; omega)]
    · cases h

set_option maxRecDepth 100000 in
theorem front_walk (u u2 : Value) (zs zs2 : List UInt8) (w : World) (hb : Bs w u zs) (hb2 : Bs w u2 zs2) :
    Calls Try.prog 8 #[u, u2] w fun e w' => e = .returned (.bool true) ∧ Below w.heap.size w w' := by
  obtain ⟨i0, hi, hz0, hz1, hz2⟩ := info_parts info8
  go_enter Try.func8, Try.ntmps8
  go_wp2_with fail
  refine (cut_any u zs w hb).mono ?_
  rintro e w' ⟨⟨v, rfl, hx⟩, rfl⟩
  go_wp2_with fail
  refine (cut_any u2 zs2 w hb2).mono ?_
  rintro e w' ⟨⟨v2, rfl, hm⟩, rfl⟩
  have hl : (zs.take 300).length ≤ 300 := by rw [List.length_take]; omega
  have hlm : (zs2.take 300).length ≤ 300 := by rw [List.length_take]; omega
  obtain ⟨xs, hxs⟩ : ∃ xs, xs = zs.take 300 := ⟨_, rfl⟩
  obtain ⟨ms, hms⟩ : ∃ ms, ms = zs2.take 300 := ⟨_, rfl⟩
  rw [← hxs] at hx hl
  rw [← hms] at hm hlm
  clear hxs hb hms hb2
  have hl2 : xs.length ≤ 100000000 := by omega
  have HX := Lib.hid hx
  have HM := Lib.hid hm
  have hown0 := Lib.hid (World.ownsRow_made (base := w.heap.size) (e := 5) (size := 1) w #[] 0 (Nat.le_refl _) (by simp [maxLen]) (by simp))
  have HX1 := Lib.hid (hx.below ((Below.refl _ w).alloc (Nat.le_refl _) (.cells #[] 5)))
  clear hx hm
  go_wp2_with (at_builtin; go_must (refine wpList_append_bs _ rfl _ _ 22 rfl w.heap.size 5 i0 Try.underlying22 hi hz0 hz1 hz2 _ [] rfl hown0.out _ xs rfl HX1.out ?k3 ?k5 ?_))
  case k3 => simp; omega
  case k5 => simp
  intro v' w1 hown hb1
  replace hown : w1.ownsRow w.heap.size 5 1 v' xs.length (xs.map c8) := by simpa using hown
  have hbl : Below w.heap.size w w1 := ((Below.refl _ w).alloc (Nat.le_refl _) _).trans hb1
  have Hown := Lib.hid hown
  have Hbl := Lib.hid hbl
  have HM1 := Lib.hid (HM.out.below hbl)
  have hsz := hbl.size
  clear hown hb1 hbl hown0
  go_wp2_with (at_builtin; go_must (refine wpList_append_bs _ rfl _ _ 22 rfl w.heap.size 5 i0 Try.underlying22 hi hz0 hz1 hz2 _ xs rfl Hown.out _ ms rfl HM1.out ?k3 hsz ?_))
  case k3 => omega
  intro v3 w2 hown2 hb2
  replace hown2 : w2.ownsRow w.heap.size 5 1 v3 (xs ++ ms).length ((xs ++ ms).map c8) := by rw [List.length_append, List.map_append]; exact hown2
  have HA := Lib.hid (Bs.of_owns hown2)
  have HB := Lib.hid (Hbl.out.trans hb2)
  have HX2 := Lib.hid (HX.out.below HB.out)
  obtain ⟨al, has⟩ : ∃ al, al = xs ++ ms := ⟨_, rfl⟩
  rw [← has] at HA
  have hall : al.length ≤ 100000000 := by rw [has, List.length_append]; omega
  have Has := Lib.hid has
  clear hown2 hb2 Hown Hbl HM1 HM HX1 hsz has
  go_wp2_with fail
  refine (getuint_any v xs 0 w2 HX2.out hl2).mono ?_
  rintro e w' ⟨rfl, rfl⟩
  cases hg : gu xs 0 with
  | none =>
    clear hg
    unfold tupU
    go_wp2_with fail
    refine (getuint_any v3 al 0 w2 HA.out hall).mono ?_
    rintro e w' ⟨rfl, rfl⟩
    cases hg2 : gu al 0 with
    | none =>
      clear hg2
      unfold tupU
      go_wp2_with fail
      refine (gettext_any v xs 0 300 w2 HX2.out hl2).mono ?_
      rintro e w' ⟨rfl, rfl⟩
      cases ht : gt xs 0 300 with
      | none =>
        clear ht
        unfold tupT
        go_wp2_with fail
        refine (gettext_any v3 al 0 300 w2 HA.out hall).mono ?_
        rintro e w' ⟨rfl, rfl⟩
        cases ht2 : gt al 0 300 with
        | none =>
          clear ht2
          unfold tupT
          go_wp2_with fail
          refine (lives_any w2).mono ?_
          rintro e w3 ⟨rfl, hb3⟩
          have HB3 := Lib.hid (HB.out.trans (hb3.mono HB.out.size))
          clear hb3
          go_wp2_with fail
          go_ret
          exact ⟨rfl, HB3.out⟩
        | some q2 =>
          obtain ⟨s2, m2⟩ := q2
          have hq := gt_lt ht2
          obtain ⟨hq1, hq2⟩ := hq
          clear ht2
          unfold tupT
          go_wp2_with fail
          refine (lives_any w2).mono ?_
          rintro e w3 ⟨rfl, hb3⟩
          have HB3 := Lib.hid (HB.out.trans (hb3.mono HB.out.size))
          clear hb3
          go_wp2_with fail
          go_ret
          exact ⟨rfl, HB3.out⟩
      | some q =>
        obtain ⟨s, m⟩ := q
        have Ht2 := Lib.hid (show gt al 0 300 = some (s, m) by rw [Has.out]; exact gt_front ms ht)
        have hq := gt_lt ht
        obtain ⟨hq1, hq2⟩ := hq
        clear ht
        unfold tupT
        go_wp2_with fail
        refine (gettext_any v3 al 0 300 w2 HA.out hall).mono ?_
        rintro e w' ⟨rfl, rfl⟩
        rw [Ht2.out]
        unfold tupT
        go_wp2_with fail
        refine (lives_any w2).mono ?_
        rintro e w3 ⟨rfl, hb3⟩
        have HB3 := Lib.hid (HB.out.trans (hb3.mono HB.out.size))
        clear hb3
        go_wp2_with fail
        go_ret
        exact ⟨rfl, HB3.out⟩
    | some p2 =>
      obtain ⟨n2, k2⟩ := p2
      obtain ⟨g1, g2, g3, g4, g5, _⟩ := gu_lt hg2
      clear hg2
      unfold tupU
      go_wp2_with fail
      refine (gettext_any v xs 0 300 w2 HX2.out hl2).mono ?_
      rintro e w' ⟨rfl, rfl⟩
      cases ht : gt xs 0 300 with
      | none =>
        clear ht
        unfold tupT
        go_wp2_with fail
        refine (gettext_any v3 al 0 300 w2 HA.out hall).mono ?_
        rintro e w' ⟨rfl, rfl⟩
        cases ht2 : gt al 0 300 with
        | none =>
          clear ht2
          unfold tupT
          go_wp2_with fail
          refine (lives_any w2).mono ?_
          rintro e w3 ⟨rfl, hb3⟩
          have HB3 := Lib.hid (HB.out.trans (hb3.mono HB.out.size))
          clear hb3
          go_wp2_with fail
          go_ret
          exact ⟨rfl, HB3.out⟩
        | some q2 =>
          obtain ⟨s2, m2⟩ := q2
          have hq := gt_lt ht2
          obtain ⟨hq1, hq2⟩ := hq
          clear ht2
          unfold tupT
          go_wp2_with fail
          refine (lives_any w2).mono ?_
          rintro e w3 ⟨rfl, hb3⟩
          have HB3 := Lib.hid (HB.out.trans (hb3.mono HB.out.size))
          clear hb3
          go_wp2_with fail
          go_ret
          exact ⟨rfl, HB3.out⟩
      | some q =>
        obtain ⟨s, m⟩ := q
        have Ht2 := Lib.hid (show gt al 0 300 = some (s, m) by rw [Has.out]; exact gt_front ms ht)
        have hq := gt_lt ht
        obtain ⟨hq1, hq2⟩ := hq
        clear ht
        unfold tupT
        go_wp2_with fail
        refine (gettext_any v3 al 0 300 w2 HA.out hall).mono ?_
        rintro e w' ⟨rfl, rfl⟩
        rw [Ht2.out]
        unfold tupT
        go_wp2_with fail
        refine (lives_any w2).mono ?_
        rintro e w3 ⟨rfl, hb3⟩
        have HB3 := Lib.hid (HB.out.trans (hb3.mono HB.out.size))
        clear hb3
        go_wp2_with fail
        go_ret
        exact ⟨rfl, HB3.out⟩
  | some p =>
    obtain ⟨n, k⟩ := p
    have Hg2 := Lib.hid (show gu al 0 = some (n, k) by rw [Has.out]; exact gu_front ms hg)
    obtain ⟨g1, g2, g3, g4, g5, _⟩ := gu_lt hg
    clear hg
    unfold tupU
    go_wp2_with fail
    refine (getuint_any v3 al 0 w2 HA.out hall).mono ?_
    rintro e w' ⟨rfl, rfl⟩
    rw [Hg2.out]
    unfold tupU
    go_wp2_with fail
    refine (gettext_any v xs 0 300 w2 HX2.out hl2).mono ?_
    rintro e w' ⟨rfl, rfl⟩
    cases ht : gt xs 0 300 with
    | none =>
      clear ht
      unfold tupT
      go_wp2_with fail
      refine (gettext_any v3 al 0 300 w2 HA.out hall).mono ?_
      rintro e w' ⟨rfl, rfl⟩
      cases ht2 : gt al 0 300 with
      | none =>
        clear ht2
        unfold tupT
        go_wp2_with fail
        refine (lives_any w2).mono ?_
        rintro e w3 ⟨rfl, hb3⟩
        have HB3 := Lib.hid (HB.out.trans (hb3.mono HB.out.size))
        clear hb3
        go_wp2_with fail
        go_ret
        exact ⟨rfl, HB3.out⟩
      | some q2 =>
        obtain ⟨s2, m2⟩ := q2
        have hq := gt_lt ht2
        obtain ⟨hq1, hq2⟩ := hq
        clear ht2
        unfold tupT
        go_wp2_with fail
        refine (lives_any w2).mono ?_
        rintro e w3 ⟨rfl, hb3⟩
        have HB3 := Lib.hid (HB.out.trans (hb3.mono HB.out.size))
        clear hb3
        go_wp2_with fail
        go_ret
        exact ⟨rfl, HB3.out⟩
    | some q =>
      obtain ⟨s, m⟩ := q
      have Ht2 := Lib.hid (show gt al 0 300 = some (s, m) by rw [Has.out]; exact gt_front ms ht)
      have hq := gt_lt ht
      obtain ⟨hq1, hq2⟩ := hq
      clear ht
      unfold tupT
      go_wp2_with fail
      refine (gettext_any v3 al 0 300 w2 HA.out hall).mono ?_
      rintro e w' ⟨rfl, rfl⟩
      rw [Ht2.out]
      unfold tupT
      go_wp2_with fail
      refine (lives_any w2).mono ?_
      rintro e w3 ⟨rfl, hb3⟩
      have HB3 := Lib.hid (HB.out.trans (hb3.mono HB.out.size))
      clear hb3
      go_wp2_with fail
      go_ret
      exact ⟨rfl, HB3.out⟩
end Go.Proofs.Ytkngemckhbgbjaa
