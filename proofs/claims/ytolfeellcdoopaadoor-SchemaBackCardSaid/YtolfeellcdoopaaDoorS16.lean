/-
  Layer 6: SameTable.
-/
import Derived.Test.YtolfeellcdoopaaDoorS15
import Derived.Test.YtolfeellcdoopaaDoorS3
namespace Go.Proofs.YtolfeellcdoopaaDoor.L6
open Go.ChangeShapes Go.WideShapes Go.ChangeAt Go.RowKit Oct By Reg Val
set_option linter.unusedVariables false
set_option linter.unusedSimpArgs false

def sameTab (t u : TabD) : Bool := eqS t.name u.name && ((t.rows == u.rows) && sameC t.cols u.cols)

set_option maxRecDepth 100000 in
set_option maxHeartbeats 2000000 in
theorem sametab_any (t u : TabD) (w : World) (ht : TabIn w t) (hu : TabIn w u) :
    Calls Tryd.prog 23 #[tabV t, tabV u] w fun e w' => e = .returned (.bool (sameTab t u)) ∧ Rb w w' := by
  obtain ⟨nm, rws, cv, L⟩ := t
  obtain ⟨nm2, rws2, cv2, L2⟩ := u
  obtain ⟨ao, cap, rfl, h1, h2⟩ := ht.form
  obtain ⟨bo, cap2, rfl, h3, h4⟩ := hu.form
  have hr : Rb w ((w.alloc (.cells #[.string nm, .int .i64 rws, .slice ao L.length cap] 25)).alloc (.cells #[.string nm2, .int .i64 rws2, .slice bo L2.length cap2] 25)) := ((Below.refl _ w).alloc (Nat.le_refl _) _).alloc (by simp) _
  have hcl := equalC_any L L2 _ _ _ (Row3.rb ht hr) (Row3.rb hu hr)
  have HR := Lib.hid hr
  obtain ⟨E, hE⟩ : ∃ E, E = sameTab ⟨nm, rws, .slice ao L.length cap, L⟩ ⟨nm2, rws2, .slice bo L2.length cap2, L2⟩ := ⟨_, rfl⟩
  rw [← hE]
  unfold sameTab at hE
  dsimp only at hE
  clear hr ht hu h1 h2 h3 h4
  cases he : eqS nm nm2 with
  | false =>
    have HE := Lib.hid (show E = false by rw [hE, he]; rfl)
    unfold eqS at he
    clear hE hcl
    go_enter Tryd.func23, Tryd.ntmps23
    go_wp2
    go_ret
    exact ⟨ret_bool HE.out.symm, HR.out⟩
  | true =>
    by_cases hrw : rws = rws2
    · have hrb : (rws == rws2) = true := by rw [hrw]; simp
      have HE := Lib.hid (show E = sameC L L2 by rw [hE, he, hrb]; rfl)
      unfold eqS at he
      subst hrw
      have HC := Lib.hid hcl
      clear hE hrb hcl
      go_enter Tryd.func23, Tryd.ntmps23
      go_wp2_with fail
      refine HC.out.mono ?_
      rintro e w2 ⟨rfl, hb2⟩
      have HB2 := Lib.hid (Rb.trans _ _ _ HR.out hb2)
      clear hb2 HC
      go_wp2
      go_ret
      exact ⟨ret_bool HE.out.symm, HB2.out⟩
    · have hrb : (rws == rws2) = false := by rw [beq_eq_false_iff_ne]; exact hrw
      have HE := Lib.hid (show E = false by rw [hE, he, hrb]; rfl)
      unfold eqS at he
      clear hE hcl hrw
      go_enter Tryd.func23, Tryd.ntmps23
      go_wp2
      go_ret
      exact ⟨ret_bool HE.out.symm, HR.out⟩

set_option maxRecDepth 100000 in
set_option maxHeartbeats 4000000 in
theorem refsametab_any (t u : TabD) (w : World) (ht : TabIn w t) (hu : TabIn w u) :
    Calls Tryd.prog 24 #[tabV t, tabV u] w fun e w' => e = .returned (.bool (sameTab t u)) ∧ Rb w w' := by
  obtain ⟨nm, rws, cv, a⟩ := t
  obtain ⟨nm2, rws2, cv2, b⟩ := u
  have ht' : Row3 cE w cv a := ht
  have hu' : Row3 cE w cv2 b := hu
  clear ht hu
  obtain ⟨ao, cap, rfl, h1, h2, hra⟩ := ht'
  obtain ⟨bo, cap2, rfl, h3, h4, hrb⟩ := hu'
  have hr : Rb w ((w.alloc (.cells #[.string nm, .int .i64 rws, .slice ao a.length cap] 25)).alloc (.cells #[.string nm2, .int .i64 rws2, .slice bo b.length cap2] 25)) := ((Below.refl _ w).alloc (Nat.le_refl _) _).alloc (by simp) _
  have HR := Lib.hid hr
  unfold maxLen at h2 h4
  obtain ⟨E, hE⟩ : ∃ E, E = sameTab ⟨nm, rws, .slice ao a.length cap, a⟩ ⟨nm2, rws2, .slice bo b.length cap2, b⟩ := ⟨_, rfl⟩
  rw [← hE]
  unfold sameTab at hE
  dsimp only at hE
  clear hr h3
  cases he : eqS nm nm2 with
  | false =>
    have HE := Lib.hid (show E = false by rw [hE, he]; rfl)
    unfold eqS at he
    clear hE hra hrb
    go_enter Tryd.func24, Tryd.ntmps24
    go_wp2
    go_ret
    exact ⟨ret_bool HE.out.symm, HR.out⟩
  | true =>
    by_cases hrw : rws = rws2
    · have hrw2 : (rws == rws2) = true := by rw [hrw]; simp
      have HE := Lib.hid (show E = sameC a b by rw [hE, he, hrw2]; rfl)
      unfold eqS at he
      subst hrw
      clear hE hrw2
      by_cases hl : a.length = b.length
      · have HL := Lib.hid hl
        have HA := Lib.hid hra
        have HBB := Lib.hid hrb
        rw [← hl] at HR ⊢
        have ha9 : a.length ≤ 9223372036854775807 := by omega
        clear hl hra hrb h1
        go_enter Tryd.func24, Tryd.ntmps24
        go_upto_region 4 with (fail)
        obtain ⟨w1, hw1⟩ : ∃ w1, w1 = ((w.alloc (.cells #[.string nm, .int .i64 rws, .slice ao a.length cap] 25)).alloc (.cells #[.string nm2, .int .i64 rws, .slice bo a.length cap2] 25)) := ⟨_, rfl⟩
        have HR1 := HR.out
        rw [← hw1] at HR1 ⊢
        have x2 : w1.cell? ⟨w.heap.size, 2, none⟩ = some (.slice ao a.length cap) := by rw [hw1]; simp
        have x3 : w1.cell? ⟨w.heap.size + 1, 2, none⟩ = some (.slice bo a.length cap2) := by rw [hw1]; simp
        have X2 := Lib.hid x2
        have X3 := Lib.hid x3
        have HR2 := Lib.hid HR1
        clear hw1 HR HR1 x2 x3
        generalize w.heap.size = TB at *
        go_loopw [30] (fun i wr => ∃ k : Nat, k ≤ a.length ∧ i = .int .i64 k ∧ Hid (sameC a b = sameC (a.drop k) (b.drop k)) ∧ Rb w1 wr) (fun i _ => a.length - (intOf i).toNat)
        case atStart => exact ⟨0, Nat.zero_le _, rfl, rfl, Rb.refl _⟩
        case round =>
          obtain ⟨k, hk, rfl, hs, hb⟩ := hrel
          have HB := Lib.hid hb
          by_cases hlt : k < a.length
          · have hlb : k < b.length := by have := HL.out; omega
            obtain ⟨ab, aoff, rfl, hca⟩ := HA.out (show 0 < a.length by omega)
            obtain ⟨bb, boff, rfl, hcb⟩ := HBB.out (show 0 < b.length by omega)
            obtain ⟨z0, z1, z2⟩ := hca k hlt
            obtain ⟨t0, t1, t2⟩ := hcb k hlb
            have hwb := Rb.trans _ _ _ HR2.out hb
            have y0 := cell_rb hwb z0
            have y1 := cell_rb hwb z1
            have y2 := cell_rb hwb z2
            have u0 := cell_rb hwb t0
            have u1 := cell_rb hwb t1
            have u2 := cell_rb hwb t2
            have v2 := cell_rb hb X2.out
            have q2 := cell_rb hb X3.out
            obtain ⟨x, hx⟩ : ∃ x, x = a[k] := ⟨_, rfl⟩
            obtain ⟨y, hy⟩ : ∃ y, y = b[k] := ⟨_, rfl⟩
            rw [← hx] at y0 y1 y2
            rw [← hy] at u0 u1 u2
            obtain ⟨p1, p2⟩ := sameL_drop hlt hlb hx hy hs.out
            have P1 := Lib.hid p1
            have P2 := Lib.hid p2
            have hkl : (k : Int) < (a.length : Int) := by omega
            clear z0 z1 z2 t0 t1 t2 hca hcb p1 p2 hs hx hy hb hwb
            cases hq : eqCol x y with
            | true =>
              have hp := P2.out hq
              obtain ⟨xs, xk, xn⟩ := x
              obtain ⟨ys, yk, yn⟩ := y
              unfold eqCol at hq
              simp only [Bool.and_eq_true, beq_iff_eq, eqS_iff] at hq
              obtain ⟨rfl, rfl, rfl⟩ := hq
              dsimp only at y0 y1 y2 u0 u1 u2
              have HP := Lib.hid hp
              clear hp P1 P2
              go_upto_region 6 with (fail)
              go_quiet (fail)
              have hrb2 : Rb w1 (wr.drewN nq) := Rb.trans _ _ _ HB.out (drewN_rb _ _)
              generalize wr.drewN nq = w2 at *
              have HB2 := Lib.hid hrb2
              clear hrb2 y0 y1 y2 u0 u1 u2 v2 q2
              go_wp2
              go_roundw
              case rel => exact ⟨k + 1, by omega, by go_num, HP.out, HB2.out⟩
              case measure => simp [intOf]; omega
            | false =>
              have hp := P1.out hq
              obtain ⟨xs, xk, xn⟩ := x
              obtain ⟨ys, yk, yn⟩ := y
              unfold eqCol eqS at hq
              dsimp only at y0 y1 y2 u0 u1 u2 hq
              have HP := Lib.hid hp
              clear hp P1 P2
              by_cases d1 : (xs.toList == ys.toList) = true
              · have d1' : xs = ys := eqS_iff.1 d1
                subst d1'
                by_cases d2 : xk = yk
                · subst d2
                  have d3 : (xn == yn) = false := by simpa using hq
                  clear hq d1
                  go_upto_region 6 with (fail)
                  go_quiet (fail)
                  have hrb2 : Rb w1 (wr.drewN nq) := Rb.trans _ _ _ HB.out (drewN_rb _ _)
                  generalize wr.drewN nq = w2 at *
                  have HB2 := Lib.hid hrb2
                  clear hrb2 y0 y1 y2 u0 u1 u2 v2 q2
                  go_wp2
                  go_ret
                  exact ⟨ret_bool (by rw [HE.out]; exact HP.out.symm), Rb.trans _ _ _ HR2.out HB2.out⟩
                · have d3 : (xk == yk) = false := by rw [beq_eq_false_iff_ne]; exact d2
                  clear hq d2 d1
                  go_upto_region 6 with (fail)
                  go_quiet (fail)
                  have hrb2 : Rb w1 (wr.drewN nq) := Rb.trans _ _ _ HB.out (drewN_rb _ _)
                  generalize wr.drewN nq = w2 at *
                  have HB2 := Lib.hid hrb2
                  clear hrb2 y0 y1 y2 u0 u1 u2 v2 q2
                  go_wp2
                  go_ret
                  exact ⟨ret_bool (by rw [HE.out]; exact HP.out.symm), Rb.trans _ _ _ HR2.out HB2.out⟩
              · have d3 : (xs.toList == ys.toList) = false := Bool.eq_false_iff.2 d1
                clear hq d1
                go_upto_region 6 with (fail)
                go_quiet (fail)
                have hrb2 : Rb w1 (wr.drewN nq) := Rb.trans _ _ _ HB.out (drewN_rb _ _)
                generalize wr.drewN nq = w2 at *
                have HB2 := Lib.hid hrb2
                clear hrb2 y0 y1 y2 u0 u1 u2 v2 q2
                go_wp2
                go_ret
                exact ⟨ret_bool (by rw [HE.out]; exact HP.out.symm), Rb.trans _ _ _ HR2.out HB2.out⟩
          · have HP := Lib.hid (sameL_end (by omega) (by have := HL.out; omega) hs.out)
            clear hs hb
            go_wp2
            go_ret
            exact ⟨ret_bool (by rw [HE.out]; exact HP.out.symm), Rb.trans _ _ _ HR2.out HB.out⟩
      · have HP := Lib.hid (sameL_len (eq := eqCol) hl)
        have hlb : ((a.length : Int) == (b.length : Int)) = false := by rw [beq_eq_false_iff_ne]; omega
        clear hl hra hrb
        go_enter Tryd.func24, Tryd.ntmps24
        go_wp2
        go_ret
        exact ⟨ret_bool (by rw [HE.out]; exact HP.out.symm), HR.out⟩
    · have hrw2 : (rws == rws2) = false := by rw [beq_eq_false_iff_ne]; exact hrw
      have HE := Lib.hid (show E = false by rw [hE, he, hrw2]; rfl)
      unfold eqS at he
      clear hE hra hrb hrw
      go_enter Tryd.func24, Tryd.ntmps24
      go_wp2
      go_ret
      exact ⟨ret_bool HE.out.symm, HR.out⟩
end Go.Proofs.YtolfeellcdoopaaDoor.L6
