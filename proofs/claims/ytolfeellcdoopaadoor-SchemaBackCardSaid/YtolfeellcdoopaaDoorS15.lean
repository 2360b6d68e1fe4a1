/-
  Layer 6: the very same? rows, columns.
-/
import Derived.Test.YtolfeellcdoopaaDoorS0
import Derived.BigQuiet
import Derived.Deep.QuietTactic
import Derived.Outline
import Derived.Deep.Cut
namespace Go.Proofs.YtolfeellcdoopaaDoor.L6
open Go.ChangeShapes Go.WideShapes Go.ChangeAt Go.RowKit Oct By Reg Val
set_option linter.unusedVariables false
set_option linter.unusedSimpArgs false

def eqVal (a b : ValD) : Bool := (a.k == b.k) && ((a.n == b.n) && eqS a.s b.s)
def eqCol (a b : ColD) : Bool := eqS a.name b.name && ((a.kind == b.kind) && (a.max == b.max))
def sameL {α : Type} (eq : α → α → Bool) : List α → List α → Bool
  | [], [] => true
  | a :: r, b :: s => eq a b && sameL eq r s
  | _, _ => false
abbrev sameV : List ValD → List ValD → Bool := sameL eqVal
abbrev sameC : List ColD → List ColD → Bool := sameL eqCol
theorem sameL_len {α : Type} {eq : α → α → Bool} : ∀ {a b : List α}, a.length ≠ b.length → sameL eq a b = false
  | [], [], h => absurd rfl h
  | [], _ :: _, _ => rfl
  | _ :: _, [], _ => rfl
  | x :: r, y :: s, h => by
    rw [sameL, sameL_len (by simpa using h), Bool.and_false]
theorem sameL_drop {α : Type} {eq : α → α → Bool} {a b : List α} {k : Nat} {x y : α} {r : Bool} (ha : k < a.length) (hb : k < b.length) (hx : x = a[k]) (hy : y = b[k]) (h : r = sameL eq (a.drop k) (b.drop k)) :
    (eq x y = false → r = false) ∧ (eq x y = true → r = sameL eq (a.drop (k + 1)) (b.drop (k + 1))) := by
  rw [List.drop_eq_getElem_cons ha, List.drop_eq_getElem_cons hb, ← hx, ← hy, sameL] at h
  refine ⟨fun hp => ?_, fun hp => ?_⟩
  · rw [h, hp]; rfl
  · rw [h, hp]; rfl
theorem sameL_end {α : Type} {eq : α → α → Bool} {a b : List α} {k : Nat} {r : Bool} (ha : a.length ≤ k) (hb : b.length ≤ k) (h : r = sameL eq (a.drop k) (b.drop k)) : r = true := by
  rw [List.drop_eq_nil_of_le ha, List.drop_eq_nil_of_le hb] at h
  exact h
theorem drewN_rb (w : World) (n : Nat) : Rb w (w.drewN n) := by
  induction n with
  | zero => exact Rb.refl _
  | succ n ih => exact Rb.trans _ _ _ ih (Rb.drew _)

set_option maxRecDepth 100000 in
set_option maxHeartbeats 2000000 in
theorem equalV_any (a b : List ValD) (v u : Value) (w : World) (ha : Vals w v a) (hb : Vals w u b) :
    Calls Tryd.prog 64 #[v, u] w fun e w' => e = .returned (.bool (sameL eqVal a b)) ∧ Rb w w' := by
  obtain ⟨ao, cap, rfl, h1, h2, hra⟩ := ha
  obtain ⟨bo, cap2, rfl, h3, h4, hrb⟩ := hb
  unfold maxLen at h2 h4
  by_cases hl : a.length = b.length
  · have HL := Lib.hid hl
    have HA := Lib.hid hra
    have HBB := Lib.hid hrb
    rw [← hl]
    have hlb : ((a.length : Int) == (a.length : Int)) = true := by simp
    have ha9 : a.length ≤ 9223372036854775807 := by omega
    clear hl hra hrb h1 h3 hlb
    go_enter Tryd.func64, Tryd.ntmps64
    go_wp2
    go_loopw [13] (fun i wr => ∃ k : Nat, k ≤ a.length ∧ i = .int .i64 k ∧ Hid (sameL eqVal a b = sameL eqVal (a.drop k) (b.drop k)) ∧ Rb w wr) (fun i _ => a.length - (intOf i).toNat)
    case atStart => exact ⟨0, Nat.zero_le _, rfl, rfl, Rb.refl _⟩
    case round =>
      obtain ⟨k, hk, rfl, hs, hb⟩ := hrel
      have HB := Lib.hid hb
      by_cases hlt : k < a.length
      · have hlb : k < b.length := by have := HL.out; omega
        obtain ⟨ab, aoff, rfl, hca⟩ := HA.out (by omega)
        obtain ⟨bb, boff, rfl, hcb⟩ := HBB.out (by omega)
        obtain ⟨z0, z1, z2⟩ := hca k hlt
        obtain ⟨t0, t1, t2⟩ := hcb k hlb
        have y0 := cell_rb hb z0
        have y1 := cell_rb hb z1
        have y2 := cell_rb hb z2
        have u0 := cell_rb hb t0
        have u1 := cell_rb hb t1
        have u2 := cell_rb hb t2
        obtain ⟨x, hx⟩ : ∃ x, x = a[k] := ⟨_, rfl⟩
        obtain ⟨y, hy⟩ : ∃ y, y = b[k] := ⟨_, rfl⟩
        rw [← hx] at y0 y1 y2
        rw [← hy] at u0 u1 u2
        obtain ⟨p1, p2⟩ := sameL_drop hlt hlb hx hy hs.out
        have P1 := Lib.hid p1
        have P2 := Lib.hid p2
        have hkl : (k : Int) < (a.length : Int) := by omega
        clear z0 z1 z2 t0 t1 t2 hca hcb p1 p2 hs hx hy hb
        cases hq : eqVal x y with
        | true =>
          have hp := P2.out hq
          obtain ⟨xk, xn, xs⟩ := x
          obtain ⟨yk, yn, ys⟩ := y
          unfold eqVal at hq
          simp only [Bool.and_eq_true, beq_iff_eq, eqS_iff] at hq
          obtain ⟨rfl, rfl, rfl⟩ := hq
          dsimp only at y0 y1 y2 u0 u1 u2
          have HP := Lib.hid hp
          clear hp P1 P2
          go_upto_region 6 with (fail)
          go_quiet (fail)
          have hrb2 : Rb w (wr.drewN nq) := Rb.trans _ _ _ HB.out (drewN_rb _ _)
          generalize wr.drewN nq = w2 at *
          have HB2 := Lib.hid hrb2
          clear hrb2 y0 y1 y2 u0 u1 u2
          go_wp2
          go_roundw
          case rel => exact ⟨k + 1, by omega, by go_num, HP.out, HB2.out⟩
          case measure => simp [intOf]; omega
        | false =>
          have hp := P1.out hq
          obtain ⟨xk, xn, xs⟩ := x
          obtain ⟨yk, yn, ys⟩ := y
          unfold eqVal eqS at hq
          dsimp only at y0 y1 y2 u0 u1 u2 hq
          have HP := Lib.hid hp
          clear hp P1 P2
          by_cases d1 : xk = yk
          · subst d1
            by_cases d2 : xn = yn
            · subst d2
              have d3 : (xs.toList == ys.toList) = false := by simpa using hq
              clear hq
              go_upto_region 6 with (fail)
              go_quiet (fail)
              have hrb2 : Rb w (wr.drewN nq) := Rb.trans _ _ _ HB.out (drewN_rb _ _)
              generalize wr.drewN nq = w2 at *
              have HB2 := Lib.hid hrb2
              clear hrb2 y0 y1 y2 u0 u1 u2
              go_wp2
              go_ret
              exact ⟨ret_bool HP.out.symm, HB2.out⟩
            · have d3 : (xn == yn) = false := by rw [beq_eq_false_iff_ne]; exact d2
              clear hq d2
              go_upto_region 6 with (fail)
              go_quiet (fail)
              have hrb2 : Rb w (wr.drewN nq) := Rb.trans _ _ _ HB.out (drewN_rb _ _)
              generalize wr.drewN nq = w2 at *
              have HB2 := Lib.hid hrb2
              clear hrb2 y0 y1 y2 u0 u1 u2
              go_wp2
              go_ret
              exact ⟨ret_bool HP.out.symm, HB2.out⟩
          · have d3 : (xk == yk) = false := by rw [beq_eq_false_iff_ne]; exact d1
            clear hq d1
            go_upto_region 6 with (fail)
            go_quiet (fail)
            have hrb2 : Rb w (wr.drewN nq) := Rb.trans _ _ _ HB.out (drewN_rb _ _)
            generalize wr.drewN nq = w2 at *
            have HB2 := Lib.hid hrb2
            clear hrb2 y0 y1 y2 u0 u1 u2
            go_wp2
            go_ret
            exact ⟨ret_bool HP.out.symm, HB2.out⟩
      · have HP := Lib.hid (sameL_end (by omega) (by have := HL.out; omega) hs.out)
        clear hs hb
        go_wp2
        go_ret
        exact ⟨ret_bool HP.out.symm, HB.out⟩
  · have HP := Lib.hid (sameL_len (eq := eqVal) hl)
    have hlb : ((a.length : Int) == (b.length : Int)) = false := by rw [beq_eq_false_iff_ne]; omega
    clear hl hra hrb h1 h3
    go_enter Tryd.func64, Tryd.ntmps64
    go_wp2
    go_ret
    exact ⟨ret_bool HP.out.symm, Rb.refl _⟩

set_option maxRecDepth 100000 in
set_option maxHeartbeats 2000000 in
theorem equalC_any (a b : List ColD) (v u : Value) (w : World) (ha : Cols w v a) (hb : Cols w u b) :
    Calls Tryd.prog 52 #[v, u] w fun e w' => e = .returned (.bool (sameL eqCol a b)) ∧ Rb w w' := by
  obtain ⟨ao, cap, rfl, h1, h2, hra⟩ := ha
  obtain ⟨bo, cap2, rfl, h3, h4, hrb⟩ := hb
  unfold maxLen at h2 h4
  by_cases hl : a.length = b.length
  · have HL := Lib.hid hl
    have HA := Lib.hid hra
    have HBB := Lib.hid hrb
    rw [← hl]
    have hlb : ((a.length : Int) == (a.length : Int)) = true := by simp
    have ha9 : a.length ≤ 9223372036854775807 := by omega
    clear hl hra hrb h1 h3 hlb
    go_enter Tryd.func52, Tryd.ntmps52
    go_wp2
    go_loopw [13] (fun i wr => ∃ k : Nat, k ≤ a.length ∧ i = .int .i64 k ∧ Hid (sameL eqCol a b = sameL eqCol (a.drop k) (b.drop k)) ∧ Rb w wr) (fun i _ => a.length - (intOf i).toNat)
    case atStart => exact ⟨0, Nat.zero_le _, rfl, rfl, Rb.refl _⟩
    case round =>
      obtain ⟨k, hk, rfl, hs, hb⟩ := hrel
      have HB := Lib.hid hb
      by_cases hlt : k < a.length
      · have hlb : k < b.length := by have := HL.out; omega
        obtain ⟨ab, aoff, rfl, hca⟩ := HA.out (by omega)
        obtain ⟨bb, boff, rfl, hcb⟩ := HBB.out (by omega)
        obtain ⟨z0, z1, z2⟩ := hca k hlt
        obtain ⟨t0, t1, t2⟩ := hcb k hlb
        have y0 := cell_rb hb z0
        have y1 := cell_rb hb z1
        have y2 := cell_rb hb z2
        have u0 := cell_rb hb t0
        have u1 := cell_rb hb t1
        have u2 := cell_rb hb t2
        obtain ⟨x, hx⟩ : ∃ x, x = a[k] := ⟨_, rfl⟩
        obtain ⟨y, hy⟩ : ∃ y, y = b[k] := ⟨_, rfl⟩
        rw [← hx] at y0 y1 y2
        rw [← hy] at u0 u1 u2
        obtain ⟨p1, p2⟩ := sameL_drop hlt hlb hx hy hs.out
        have P1 := Lib.hid p1
        have P2 := Lib.hid p2
        have hkl : (k : Int) < (a.length : Int) := by omega
        clear z0 z1 z2 t0 t1 t2 hca hcb p1 p2 hs hx hy hb
        cases hq : eqCol x y with
        | true =>
          have hp := P2.out hq
          obtain ⟨xs, xk, xn⟩ := x
          obtain ⟨ys, yk, yn⟩ := y
          unfold eqCol at hq
          simp only [Bool.and_eq_true, beq_iff_eq, eqS_iff] at hq
          obtain ⟨rfl, rfl, rfl⟩ := hq
          dsimp only at y0 y1 y2 u0 u1 u2
          have HP := Lib.hid hp
          clear hp P1 P2
          go_upto_region 6 with (fail)
          go_quiet (fail)
          have hrb2 : Rb w (wr.drewN nq) := Rb.trans _ _ _ HB.out (drewN_rb _ _)
          generalize wr.drewN nq = w2 at *
          have HB2 := Lib.hid hrb2
          clear hrb2 y0 y1 y2 u0 u1 u2
          go_wp2
          go_roundw
          case rel => exact ⟨k + 1, by omega, by go_num, HP.out, HB2.out⟩
          case measure => simp [intOf]; omega
        | false =>
          have hp := P1.out hq
          obtain ⟨xs, xk, xn⟩ := x
          obtain ⟨ys, yk, yn⟩ := y
          unfold eqCol eqS at hq
          dsimp only at y0 y1 y2 u0 u1 u2 hq
          have HP := Lib.hid hp
          clear hp P1 P2
          by_cases d1 : (xs.toList == ys.toList) = true
          · have d1' : xs = ys := eqS_iff.1 d1
            subst d1'
            by_cases d2 : xk = yk
            · subst d2
              have d3 : (xn == yn) = false := by simpa using hq
              clear hq d1
              go_upto_region 6 with (fail)
              go_quiet (fail)
              have hrb2 : Rb w (wr.drewN nq) := Rb.trans _ _ _ HB.out (drewN_rb _ _)
              generalize wr.drewN nq = w2 at *
              have HB2 := Lib.hid hrb2
              clear hrb2 y0 y1 y2 u0 u1 u2
              go_wp2
              go_ret
              exact ⟨ret_bool HP.out.symm, HB2.out⟩
            · have d3 : (xk == yk) = false := by rw [beq_eq_false_iff_ne]; exact d2
              clear hq d2 d1
              go_upto_region 6 with (fail)
              go_quiet (fail)
              have hrb2 : Rb w (wr.drewN nq) := Rb.trans _ _ _ HB.out (drewN_rb _ _)
              generalize wr.drewN nq = w2 at *
              have HB2 := Lib.hid hrb2
              clear hrb2 y0 y1 y2 u0 u1 u2
              go_wp2
              go_ret
              exact ⟨ret_bool HP.out.symm, HB2.out⟩
          · have d3 : (xs.toList == ys.toList) = false := Bool.eq_false_iff.2 d1
            clear hq d1
            go_upto_region 6 with (fail)
            go_quiet (fail)
            have hrb2 : Rb w (wr.drewN nq) := Rb.trans _ _ _ HB.out (drewN_rb _ _)
            generalize wr.drewN nq = w2 at *
            have HB2 := Lib.hid hrb2
            clear hrb2 y0 y1 y2 u0 u1 u2
            go_wp2
            go_ret
            exact ⟨ret_bool HP.out.symm, HB2.out⟩
      · have HP := Lib.hid (sameL_end (by omega) (by have := HL.out; omega) hs.out)
        clear hs hb
        go_wp2
        go_ret
        exact ⟨ret_bool HP.out.symm, HB.out⟩
  · have HP := Lib.hid (sameL_len (eq := eqCol) hl)
    have hlb : ((a.length : Int) == (b.length : Int)) = false := by rw [beq_eq_false_iff_ne]; omega
    clear hl hra hrb h1 h3
    go_enter Tryd.func52, Tryd.ntmps52
    go_wp2
    go_ret
    exact ⟨ret_bool HP.out.symm, Rb.refl _⟩

set_option maxRecDepth 100000 in
set_option maxHeartbeats 2000000 in
theorem refsame_any (a b : List ValD) (v u : Value) (w : World) (ha : Vals w v a) (hb : Vals w u b) :
    Calls Tryd.prog 19 #[v, u] w fun e w' => e = .returned (.bool (sameL eqVal a b)) ∧ Rb w w' := by
  obtain ⟨ao, cap, rfl, h1, h2, hra⟩ := ha
  obtain ⟨bo, cap2, rfl, h3, h4, hrb⟩ := hb
  unfold maxLen at h2 h4
  by_cases hl : a.length = b.length
  · have HL := Lib.hid hl
    have HA := Lib.hid hra
    have HBB := Lib.hid hrb
    rw [← hl]
    have hlb : ((a.length : Int) == (a.length : Int)) = true := by simp
    have ha9 : a.length ≤ 9223372036854775807 := by omega
    clear hl hra hrb h1 h3 hlb
    go_enter Tryd.func19, Tryd.ntmps19
    go_wp2
    go_loopw [13] (fun i wr => ∃ k : Nat, k ≤ a.length ∧ i = .int .i64 k ∧ Hid (sameL eqVal a b = sameL eqVal (a.drop k) (b.drop k)) ∧ Rb w wr) (fun i _ => a.length - (intOf i).toNat)
    case atStart => exact ⟨0, Nat.zero_le _, rfl, rfl, Rb.refl _⟩
    case round =>
      obtain ⟨k, hk, rfl, hs, hb⟩ := hrel
      have HB := Lib.hid hb
      by_cases hlt : k < a.length
      · have hlb : k < b.length := by have := HL.out; omega
        obtain ⟨ab, aoff, rfl, hca⟩ := HA.out (by omega)
        obtain ⟨bb, boff, rfl, hcb⟩ := HBB.out (by omega)
        obtain ⟨z0, z1, z2⟩ := hca k hlt
        obtain ⟨t0, t1, t2⟩ := hcb k hlb
        have y0 := cell_rb hb z0
        have y1 := cell_rb hb z1
        have y2 := cell_rb hb z2
        have u0 := cell_rb hb t0
        have u1 := cell_rb hb t1
        have u2 := cell_rb hb t2
        obtain ⟨x, hx⟩ : ∃ x, x = a[k] := ⟨_, rfl⟩
        obtain ⟨y, hy⟩ : ∃ y, y = b[k] := ⟨_, rfl⟩
        rw [← hx] at y0 y1 y2
        rw [← hy] at u0 u1 u2
        obtain ⟨p1, p2⟩ := sameL_drop hlt hlb hx hy hs.out
        have P1 := Lib.hid p1
        have P2 := Lib.hid p2
        have hkl : (k : Int) < (a.length : Int) := by omega
        clear z0 z1 z2 t0 t1 t2 hca hcb p1 p2 hs hx hy hb
        cases hq : eqVal x y with
        | true =>
          have hp := P2.out hq
          obtain ⟨xk, xn, xs⟩ := x
          obtain ⟨yk, yn, ys⟩ := y
          unfold eqVal at hq
          simp only [Bool.and_eq_true, beq_iff_eq, eqS_iff] at hq
          obtain ⟨rfl, rfl, rfl⟩ := hq
          dsimp only at y0 y1 y2 u0 u1 u2
          have HP := Lib.hid hp
          clear hp P1 P2
          go_upto_region 6 with (fail)
          go_quiet (fail)
          have hrb2 : Rb w (wr.drewN nq) := Rb.trans _ _ _ HB.out (drewN_rb _ _)
          generalize wr.drewN nq = w2 at *
          have HB2 := Lib.hid hrb2
          clear hrb2 y0 y1 y2 u0 u1 u2
          go_wp2
          go_roundw
          case rel => exact ⟨k + 1, by omega, by go_num, HP.out, HB2.out⟩
          case measure => simp [intOf]; omega
        | false =>
          have hp := P1.out hq
          obtain ⟨xk, xn, xs⟩ := x
          obtain ⟨yk, yn, ys⟩ := y
          unfold eqVal eqS at hq
          dsimp only at y0 y1 y2 u0 u1 u2 hq
          have HP := Lib.hid hp
          clear hp P1 P2
          by_cases d1 : xk = yk
          · subst d1
            by_cases d2 : xn = yn
            · subst d2
              have d3 : (xs.toList == ys.toList) = false := by simpa using hq
              clear hq
              go_upto_region 6 with (fail)
              go_quiet (fail)
              have hrb2 : Rb w (wr.drewN nq) := Rb.trans _ _ _ HB.out (drewN_rb _ _)
              generalize wr.drewN nq = w2 at *
              have HB2 := Lib.hid hrb2
              clear hrb2 y0 y1 y2 u0 u1 u2
              go_wp2
              go_ret
              exact ⟨ret_bool HP.out.symm, HB2.out⟩
            · have d3 : (xn == yn) = false := by rw [beq_eq_false_iff_ne]; exact d2
              clear hq d2
              go_upto_region 6 with (fail)
              go_quiet (fail)
              have hrb2 : Rb w (wr.drewN nq) := Rb.trans _ _ _ HB.out (drewN_rb _ _)
              generalize wr.drewN nq = w2 at *
              have HB2 := Lib.hid hrb2
              clear hrb2 y0 y1 y2 u0 u1 u2
              go_wp2
              go_ret
              exact ⟨ret_bool HP.out.symm, HB2.out⟩
          · have d3 : (xk == yk) = false := by rw [beq_eq_false_iff_ne]; exact d1
            clear hq d1
            go_upto_region 6 with (fail)
            go_quiet (fail)
            have hrb2 : Rb w (wr.drewN nq) := Rb.trans _ _ _ HB.out (drewN_rb _ _)
            generalize wr.drewN nq = w2 at *
            have HB2 := Lib.hid hrb2
            clear hrb2 y0 y1 y2 u0 u1 u2
            go_wp2
            go_ret
            exact ⟨ret_bool HP.out.symm, HB2.out⟩
      · have HP := Lib.hid (sameL_end (by omega) (by have := HL.out; omega) hs.out)
        clear hs hb
        go_wp2
        go_ret
        exact ⟨ret_bool HP.out.symm, HB.out⟩
  · have HP := Lib.hid (sameL_len (eq := eqVal) hl)
    have hlb : ((a.length : Int) == (b.length : Int)) = false := by rw [beq_eq_false_iff_ne]; omega
    clear hl hra hrb h1 h3
    go_enter Tryd.func19, Tryd.ntmps19
    go_wp2
    go_ret
    exact ⟨ret_bool HP.out.symm, Rb.refl _⟩

set_option maxRecDepth 100000 in
theorem same_any (a b : List ValD) (v u : Value) (w : World) (ha : Vals w v a) (hb : Vals w u b) :
    Calls Tryd.prog 32 #[v, u] w fun e w' => e = .returned (.bool (sameV a b)) ∧ Rb w w' := by
  have hcl := equalV_any a b v u w ha hb
  clear ha hb
  go_enter Tryd.func32, Tryd.ntmps32
  go_wp2_with fail
  refine hcl.mono ?_
  rintro e w2 ⟨rfl, hb2⟩
  have HB2 := Lib.hid hb2
  clear hb2 hcl
  go_wp2
  go_ret
  exact ⟨rfl, HB2.out⟩
end Go.Proofs.YtolfeellcdoopaaDoor.L6
