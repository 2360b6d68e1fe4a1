/-
  Layer 6: light tables and rows; the walk of SchemaChecks.
-/
import Derived.Test.YtolfeellcdoopaaDoorS11
import Derived.Test.YtolfeellcdoopaaDoorS8
import Derived.RegionTactic
namespace Go.Proofs.YtolfeellcdoopaaDoor.L6
open Go.ChangeShapes Go.WideShapes Go.ChangeAt Go.RowKit Oct By Reg Val
set_option linter.unusedVariables false
set_option linter.unusedSimpArgs false

def lightC (L : List ColD) : Bool := L.all fun c => decide (c.name.size ≤ 40)
def lightB (t : TabD) : Bool := decide (t.name.size ≤ 40) && decide (t.cols.length ≤ 20) && lightC t.cols
def lightR (L : List ValD) : Bool := decide (L.length ≤ 20) && L.all fun v => decide (v.s.size ≤ 100)
theorem light_of {t : TabD} (h : lightB t = true) : t.name.size ≤ 40 ∧ t.cols.length ≤ 20 ∧ ∀ c ∈ t.cols, c.name.size ≤ 40 := by
  unfold lightB lightC at h
  simpa [and_assoc] using h
theorem lightR_of {L : List ValD} (h : lightR L = true) : L.length ≤ 20 ∧ ∀ v ∈ L, v.s.size ≤ 100 := by
  unfold lightR at h
  simpa using h
theorem all_drop {α : Type} {p : α → Bool} {L : List α} {k : Nat} {x : α} {r : Bool} (hk : k < L.length) (hx : x = L[k]) (h : r = (L.drop k).all p) : (p x = false → r = false) ∧ (p x = true → r = (L.drop (k + 1)).all p) := by
  rw [List.drop_eq_getElem_cons hk, ← hx, List.all_cons] at h
  refine ⟨fun hp => ?_, fun hp => ?_⟩
  · rw [h, hp]; rfl
  · rw [h, hp]; rfl

set_option maxRecDepth 100000 in
set_option maxHeartbeats 2000000 in
theorem light_any (t : TabD) (w : World) (h : TabIn w t) (hok : TabOk t) :
    Calls Tryd.prog 8 #[tabV t] w fun e w' => e = .returned (.bool (lightB t)) ∧ Rb w w' := by
  obtain ⟨nm, rws, cv, L⟩ := t
  have h' : Row3 cE w cv L := h
  clear h
  obtain ⟨ao, cap, rfl, h1, h2, hr⟩ := h'
  have HR := Lib.hid hr
  have HOK := Lib.hid hok
  have HB0 := Lib.hid (show Rb w (w.alloc (.cells #[.string nm, .int .i64 rws, .slice ao L.length cap] 25)) from (Below.refl _ w).alloc (Nat.le_refl _) _)
  have hnz := hok.name
  unfold maxLen at h2 hnz
  dsimp only at h1 hnz
  obtain ⟨E, hE⟩ : ∃ E, E = lightB ⟨nm, rws, .slice ao L.length cap, L⟩ := ⟨_, rfl⟩
  rw [← hE]
  unfold lightB at hE
  dsimp only at hE
  by_cases c1 : nm.size ≤ 40
  · by_cases c2 : L.length ≤ 20
    · rw [decide_eq_true c1, decide_eq_true c2] at hE
      have HE := Lib.hid (show E = L.all fun c => decide (c.name.size ≤ 40) by rw [hE]; rfl)
      clear hr hok hE
      go_enter Tryd.func8, Tryd.ntmps8
      go_wp2
      go_loopw [18] (fun i wr => ∃ k : Nat, k ≤ L.length ∧ i = .int .i64 k ∧ Hid (E = (L.drop k).all fun c => decide (c.name.size ≤ 40)) ∧ Rb w wr) (fun i _ => L.length - (intOf i).toNat)
      case atStart => exact ⟨0, Nat.zero_le _, rfl, by show E = _; rw [HE.out]; simp, HB0.out⟩
      case round =>
        obtain ⟨k, hk, rfl, ha, hb⟩ := hrel
        have HB := Lib.hid hb
        by_cases hlt : k < L.length
        · obtain ⟨b, o, rfl, hc⟩ := HR.out (show 0 < L.length by omega)
          obtain ⟨z0, z1, z2⟩ := hc k hlt
          have y0 := cell_rb hb z0
          have y1 := cell_rb hb z1
          have y2 := cell_rb hb z2
          obtain ⟨t, ht⟩ : ∃ t, t = L[k] := ⟨_, rfl⟩
          rw [← ht] at y0 y1 y2
          obtain ⟨p1, p2⟩ := all_drop hlt ht ha.out
          have P1 := Lib.hid p1
          have P2 := Lib.hid p2
          have hcz := (HOK.out.cols t (by rw [ht]; exact List.getElem_mem hlt)).name
          unfold maxLen at hcz
          clear z0 z1 z2 hc p1 p2 hb ha ht
          obtain ⟨cn, ck, cm⟩ := t
          dsimp only at y0 y1 y2 P1 P2 hcz
          go_wp2_with (refine wpList_store rfl 57 _ _ rfl wr.heap.size 0 _ _ [_, _, _] _ rfl rfl (Blk.new wr 57 [_, _, _]) rfl sizeC (by simp) (oneC _ _ _) ?_)
          intro w1 hb1 hw1
          have HB2 := Lib.hid (Rb.trans _ _ _ HB.out hw1.rb_new)
          obtain ⟨x0, x1, x2⟩ := hb1.c3
          clear hb1 hw1 y0 y1 y2 x1 x2
          by_cases hz : cn.size ≤ 40
          · have Hp := Lib.hid (P2.out (decide_eq_true hz))
            have hz2 : ¬ (40 : Int) < cn.size := by omega
            go_wp2
            go_roundw
            case rel => exact ⟨k + 1, by omega, by go_num, Hp.out, HB2.out⟩
            case measure => simp [intOf]; omega
          · have Hp := Lib.hid (P1.out (decide_eq_false hz))
            have hz2 : (40 : Int) < cn.size := by omega
            go_wp2
            go_ret
            exact ⟨ret_bool Hp.out.symm, HB2.out⟩
        · have Hp : Hid (E = true) := by
            show _ = _
            rw [ha.out, List.drop_eq_nil_of_le (by omega)]; rfl
          clear ha hb
          go_wp2
          go_ret
          exact ⟨ret_bool Hp.out.symm, HB.out⟩
    · rw [decide_eq_false c2] at hE
      have HE := Lib.hid (show E = false by rw [hE]; simp)
      have c3 : (20 : Int) < L.length := by omega
      have c4 : ¬ (40 : Int) < nm.size := by omega
      clear hr hok hE
      go_enter Tryd.func8, Tryd.ntmps8
      go_wp2
      go_ret
      exact ⟨ret_bool HE.out.symm, HB0.out⟩
  · rw [decide_eq_false c1] at hE
    have HE := Lib.hid (show E = false by rw [hE]; rfl)
    have c4 : (40 : Int) < nm.size := by omega
    clear hr hok hE
    go_enter Tryd.func8, Tryd.ntmps8
    go_wp2
    go_ret
    exact ⟨ret_bool HE.out.symm, HB0.out⟩

set_option maxRecDepth 100000 in
set_option maxHeartbeats 2000000 in
theorem lightrow_any (L : List ValD) (v : Value) (w : World) (h : Vals w v L) (hok : ∀ v ∈ L, ValOk v) :
    Calls Tryd.prog 25 #[v] w fun e w' => e = .returned (.bool (lightR L)) ∧ Rb w w' := by
  obtain ⟨ao, cap, rfl, h1, h2, hr⟩ := h
  have HR := Lib.hid hr
  have HOK := Lib.hid hok
  unfold maxLen at h2
  obtain ⟨E, hE⟩ : ∃ E, E = lightR L := ⟨_, rfl⟩
  rw [← hE]
  unfold lightR at hE
  by_cases c2 : L.length ≤ 20
  · rw [decide_eq_true c2] at hE
    have HE := Lib.hid (show E = L.all fun c => decide (c.s.size ≤ 100) by rw [hE]; rfl)
    clear hr hok hE
    go_enter Tryd.func25, Tryd.ntmps25
    go_wp2
    go_loopw [10] (fun i wr => ∃ k : Nat, k ≤ L.length ∧ i = .int .i64 k ∧ Hid (E = (L.drop k).all fun c => decide (c.s.size ≤ 100)) ∧ Rb w wr) (fun i _ => L.length - (intOf i).toNat)
    case atStart => exact ⟨0, Nat.zero_le _, rfl, by show E = _; rw [HE.out]; simp, Rb.refl _⟩
    case round =>
      obtain ⟨k, hk, rfl, ha, hb⟩ := hrel
      have HB := Lib.hid hb
      by_cases hlt : k < L.length
      · obtain ⟨b, o, rfl, hc⟩ := HR.out (show 0 < L.length by omega)
        obtain ⟨z0, z1, z2⟩ := hc k hlt
        have y0 := cell_rb hb z0
        have y1 := cell_rb hb z1
        have y2 := cell_rb hb z2
        obtain ⟨t, ht⟩ : ∃ t, t = L[k] := ⟨_, rfl⟩
        rw [← ht] at y0 y1 y2
        obtain ⟨p1, p2⟩ := all_drop hlt ht ha.out
        have P1 := Lib.hid p1
        have P2 := Lib.hid p2
        have hcz := (HOK.out t (by rw [ht]; exact List.getElem_mem hlt)).s
        unfold maxLen at hcz
        clear z0 z1 z2 hc p1 p2 hb ha ht
        obtain ⟨vk, vn, vs⟩ := t
        dsimp only at y0 y1 y2 P1 P2 hcz
        go_wp2_with (refine wpList_store rfl 70 _ _ rfl wr.heap.size 0 _ _ [_, _, _] _ rfl rfl (Blk.new wr 70 [_, _, _]) rfl sizeV (by simp) (oneV _ _ _) ?_)
        intro w1 hb1 hw1
        have HB2 := Lib.hid (Rb.trans _ _ _ HB.out hw1.rb_new)
        obtain ⟨x0, x1, x2⟩ := hb1.c3
        clear hb1 hw1 y0 y1 y2 x0 x1
        by_cases hz : vs.size ≤ 100
        · have Hp := Lib.hid (P2.out (decide_eq_true hz))
          have hz2 : ¬ (100 : Int) < vs.size := by omega
          go_wp2
          go_roundw
          case rel => exact ⟨k + 1, by omega, by go_num, Hp.out, HB2.out⟩
          case measure => simp [intOf]; omega
        · have Hp := Lib.hid (P1.out (decide_eq_false hz))
          have hz2 : (100 : Int) < vs.size := by omega
          go_wp2
          go_ret
          exact ⟨ret_bool Hp.out.symm, HB2.out⟩
      · have Hp : Hid (E = true) := by
          show _ = _
          rw [ha.out, List.drop_eq_nil_of_le (by omega)]; rfl
        clear ha hb
        go_wp2
        go_ret
        exact ⟨ret_bool Hp.out.symm, HB.out⟩
  · rw [decide_eq_false c2] at hE
    have HE := Lib.hid (show E = false by rw [hE]; simp)
    have c3 : (20 : Int) < L.length := by omega
    clear hr hok hE
    go_enter Tryd.func25, Tryd.ntmps25
    go_wp2
    go_ret
    exact ⟨ret_bool HE.out.symm, Rb.refl _⟩
end Go.Proofs.YtolfeellcdoopaaDoor.L6
