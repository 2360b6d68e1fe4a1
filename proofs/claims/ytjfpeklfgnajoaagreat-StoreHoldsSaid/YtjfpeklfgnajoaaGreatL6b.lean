/-
  Layer 6: what layer 7 takes of its texts (example, light tables, the very same, zero rows, the form's reading, Fits).
-/
import Derived.Test.YtjfpeklfgnajoaaGreatL6a
import Derived.Test.YtjfpeklfgnajoaaGreatShell
import Derived.Deep.RegionLaw
import Derived.Lib.ItoaLen
import Derived.RegionTactic
import Derived.BigQuiet
import Derived.Deep.QuietTactic
import Derived.Outline
import Derived.Deep.Cut
import Derived.Deep.Slices
import Derived.ChangeArms
import Derived.ChangeSlices
import Derived.Deep.RegionWith
namespace Go.Proofs.YtjfpeklfgnajoaaGreat.L6
open Go.ChangeShapes Go.WideShapes Go.ChangeAt Go.RowKit Oct By Reg Val
set_option linter.unusedVariables false
set_option linter.unusedSimpArgs false

end Go.Proofs.YtjfpeklfgnajoaaGreat.L6

namespace Go.Proofs.YtjfpeklfgnajoaaGreat.L6
open Go.ChangeShapes Go.WideShapes Go.ChangeAt Go.RowKit Oct By Reg Val
set_option linter.unusedVariables false
set_option linter.unusedSimpArgs false

abbrev accS : ByteArray := ⟨#[97, 99, 99]⟩
def exCols : List ColD := [⟨⟨#[98, 97, 108]⟩, 1, 0⟩, ⟨⟨#[119, 104, 111]⟩, 3, 6⟩]
theorem cell?_same {w w' : World} {p : Addr} (h : w'.heap[p.block]? = w.heap[p.block]?) : w'.cell? p = w.cell? p := by
  unfold World.cell?
  rw [h]
theorem Row3.keep {α : Type} {enc : α → Value × Value × Value} {w w' : World} {ad : Addr} {n c : Nat} {L : List α} (h : Row3 enc w (.slice (some ad) n c) L) (hk : w'.heap[ad.block]? = w.heap[ad.block]?) : Row3 enc w' (.slice (some ad) n c) L := by
  obtain ⟨ao, cap, e, h2, h3, h4⟩ := h
  refine ⟨ao, cap, e, h2, h3, fun h0 => ?_⟩
  obtain ⟨b, o, rfl, hc⟩ := h4 h0
  simp only [Value.slice.injEq, Option.some.injEq] at e
  obtain ⟨rfl, -, -⟩ := e
  refine ⟨b, o, rfl, fun k hk2 => ?_⟩
  have := hc k hk2
  refine ⟨?_, ?_, ?_⟩
  · exact (cell?_same (p := ⟨b, o + k * 3, none⟩) hk).trans this.1
  · exact (cell?_same (p := ⟨b, o + k * 3 + 1, none⟩) hk).trans this.2.1
  · exact (cell?_same (p := ⟨b, o + k * 3 + 2, none⟩) hk).trans this.2.2

set_option maxRecDepth 100000 in
set_option maxHeartbeats 1000000 in
theorem example_any (w : World) : Calls Tryz.prog 37 #[] w fun e w' => ∃ cv, e = .returned (tabV ⟨accS, 8, cv, exCols⟩) ∧ Cols w' cv exCols ∧ Rb w w' := by
  obtain ⟨wa, hwa⟩ : ∃ wa, wa = w.alloc (.cells #[.string ⟨#[]⟩, .int .i64 0, .slice none 0 0] 69) := ⟨_, rfl⟩
  have hba : Blk wa w.heap.size 69 [.string ⟨#[]⟩, .int .i64 0, .slice none 0 0] := by rw [hwa]; exact Blk.new w _ _
  have hra : Rb w wa := by rw [hwa]; exact (Below.refl _ _).alloc (Nat.le_refl _) _
  obtain ⟨wb, hwb⟩ : ∃ wb, wb = wa.alloc (.cells #[.string ⟨#[98, 97, 108]⟩, .int .i64 1, .int .i64 0, .string ⟨#[119, 104, 111]⟩, .int .i64 3, .int .i64 6] 88) := ⟨_, rfl⟩
  have hrb : Rb wa wb := by rw [hwb]; exact (Below.refl _ _).alloc (Nat.le_refl _) _
  have hcols : Cols wb (.slice (some ⟨wa.heap.size, 0, none⟩) 2 2) exCols := by
    refine ⟨_, 2, rfl, Nat.le_refl _, by decide, fun _ => ⟨wa.heap.size, 0, rfl, fun k hk => ?_⟩⟩
    have hk2 : k = 0 ∨ k = 1 := by simp [exCols] at hk; omega
    rw [hwb]
    rcases hk2 with rfl | rfl <;> simp [exCols]
  have hbb := hba.rb hrb
  have HB := Lib.hid hbb
  have HC := Lib.hid hcols
  have HRA := Lib.hid hra
  have HRB := Lib.hid hrb
  clear hba hra hrb hcols hbb
  go_enter Tryz.func37, Tryz.ntmps37
  have HWA := Lib.hid hwa
  have HWB := Lib.hid hwb
  clear hwa hwb
  go_wp2_with (rw [← HWA.out, ← HWB.out]; refine wpList_store rfl 69 _ _ rfl w.heap.size 0 _ _ [_, _, _] _ rfl rfl HB.out rfl sizeT (by simp) (oneT _ _ _ _ _) ?_)
  intro w1 hb1 hw1
  have hz : wa.heap.size = w.heap.size + 1 := by rw [HWA.out]; simp
  rw [← hz]
  have HZ := Lib.hid hz
  obtain ⟨x0, x1, x2⟩ := hb1.c3
  rw [← hz] at x2
  have hcol : Cols w1 (.slice (some ⟨wa.heap.size, 0, none⟩) 2 2) exCols := Row3.keep HC.out (hw1.block _ (by show wa.heap.size ≠ w.heap.size; omega))
  have HCOL := Lib.hid hcol
  have HRR : Hid (Rb w w1) := by
    have h1 := HRA.out
    have h2 := Rb.trans _ _ _ HRA.out HRB.out
    refine ⟨hw1.os.trans h2.os, hw1.tape.trans h2.tape, hw1.output.trans h2.output, by rw [hw1.size]; exact h2.size, fun k hk => ?_⟩
    rw [hw1.block k (by omega)]
    exact h2.block k hk
  clear hz hb1 hw1 hcol
  go_wp2
  exact bodyPost_ret (v := tabV ⟨accS, 8, .slice (some ⟨wa.heap.size, 0, none⟩) 2 2, exCols⟩) (by simp [results, Tryz.results37, go_sem, x0, x1, x2]) rfl ⟨_, rfl, HCOL.out, HRR.out⟩

theorem ex_ok : ∀ c ∈ exCols, c.name.size ≤ 40 := by
  intro c hc
  simp [exCols] at hc
  rcases hc with rfl | rfl <;> decide
theorem wordB_data (s : ByteArray) : wordB s = wordsL.any fun x => s.data.toList == x.data.toList := by
  unfold wordB eqS
  simp only [Lib.toList_data]
theorem acc_name : nameB accS = true := by unfold nameB; rw [wordB_data]; rfl
theorem let_name : nameB ⟨#[108, 101, 116]⟩ = false := by unfold nameB; rw [wordB_data]; rfl
end Go.Proofs.YtjfpeklfgnajoaaGreat.L6

namespace Go.Proofs.YtjfpeklfgnajoaaGreat.L6
open Go.ChangeShapes Go.WideShapes Go.ChangeAt Go.RowKit Oct By Reg Val
set_option linter.unusedVariables false
set_option linter.unusedSimpArgs false

def lightC (L : List ColD) : Bool := L.all fun c => decide (c.name.size ≤ 40)
def lightB (t : TabD) : Bool := decide (t.name.size ≤ 40) && decide (t.cols.length ≤ 20) && lightC t.cols
def lightR (L : List ValD) : Bool := decide (L.length ≤ 20) && L.all fun v => decide (v.s.size ≤ 100)
theorem light_of {t : TabD} (h : lightB t = true) : t.name.size ≤ 40 ∧ t.cols.length ≤ 20 ∧ ∀ c ∈ t.cols, c.name.size ≤ 40 := by
  unfold lightB lightC at h
  simpa [and_assoc] using h
theorem lightR_of {L : List ValD} (h : lightR L = true) : L.length ≤ 20 ∧ ∀ v ∈ L, v.s.size ≤ 100 := by
  unfold lightR at h
  simpa using h
theorem all_drop {α : Type} {p : α → Bool} {L : List α} {k : Nat} {x : α} {r : Bool} (hk : k < L.length) (hx : x = L[k]) (h : r = (L.drop k).all p) : (p x = false → r = false) ∧ (p x = true → r = (L.drop (k + 1)).all p) := by
  rw [List.drop_eq_getElem_cons hk, ← hx, List.all_cons] at h
  refine ⟨fun hp => ?_, fun hp => ?_⟩
  · rw [h, hp]; rfl
  · rw [h, hp]; rfl

set_option maxRecDepth 100000 in
set_option maxHeartbeats 2000000 in
theorem light_any (t : TabD) (w : World) (h : TabIn w t) (hok : TabOk t) :
    Calls Tryz.prog 36 #[tabV t] w fun e w' => e = .returned (.bool (lightB t)) ∧ Rb w w' := by
  obtain ⟨nm, rws, cv, L⟩ := t
  have h' : Row3 cE w cv L := h
  clear h
  obtain ⟨ao, cap, rfl, h1, h2, hr⟩ := h'
  have HR := Lib.hid hr
  have HOK := Lib.hid hok
  have HB0 := Lib.hid (show Rb w (w.alloc (.cells #[.string nm, .int .i64 rws, .slice ao L.length cap] 69)) from (Below.refl _ w).alloc (Nat.le_refl _) _)
  have hnz := hok.name
  unfold maxLen at h2 hnz
  dsimp only at h1 hnz
  obtain ⟨E, hE⟩ : ∃ E, E = lightB ⟨nm, rws, .slice ao L.length cap, L⟩ := ⟨_, rfl⟩
  rw [← hE]
  unfold lightB at hE
  dsimp only at hE
  by_cases c1 : nm.size ≤ 40
  · by_cases c2 : L.length ≤ 20
    · rw [decide_eq_true c1, decide_eq_true c2] at hE
      have HE := Lib.hid (show E = L.all fun c => decide (c.name.size ≤ 40) by rw [hE]; rfl)
      clear hr hok hE
      go_enter Tryz.func36, Tryz.ntmps36
      go_wp2
      go_loopw [18] (fun i wr => ∃ k : Nat, k ≤ L.length ∧ i = .int .i64 k ∧ Hid (E = (L.drop k).all fun c => decide (c.name.size ≤ 40)) ∧ Rb w wr) (fun i _ => L.length - (intOf i).toNat)
      case atStart => exact ⟨0, Nat.zero_le _, rfl, by show E = _; rw [HE.out]; simp, HB0.out⟩
      case round =>
        obtain ⟨k, hk, rfl, ha, hb⟩ := hrel
        have HB := Lib.hid hb
        by_cases hlt : k < L.length
        · obtain ⟨b, o, rfl, hc⟩ := HR.out (show 0 < L.length by omega)
          obtain ⟨z0, z1, z2⟩ := hc k hlt
          have y0 := cell_rb hb z0
          have y1 := cell_rb hb z1
          have y2 := cell_rb hb z2
          obtain ⟨t, ht⟩ : ∃ t, t = L[k] := ⟨_, rfl⟩
          rw [← ht] at y0 y1 y2
          obtain ⟨p1, p2⟩ := all_drop hlt ht ha.out
          have P1 := Lib.hid p1
          have P2 := Lib.hid p2
          have hcz := (HOK.out.cols t (by rw [ht]; exact List.getElem_mem hlt)).name
          unfold maxLen at hcz
          clear z0 z1 z2 hc p1 p2 hb ha ht
          obtain ⟨cn, ck, cm⟩ := t
          dsimp only at y0 y1 y2 P1 P2 hcz
          go_wp2_with (refine wpList_store rfl 88 _ _ rfl wr.heap.size 0 _ _ [_, _, _] _ rfl rfl (Blk.new wr 88 [_, _, _]) rfl sizeC (by simp) (oneC _ _ _) ?_)
          intro w1 hb1 hw1
          have HB2 := Lib.hid (Rb.trans _ _ _ HB.out hw1.rb_new)
          obtain ⟨x0, x1, x2⟩ := hb1.c3
          clear hb1 hw1 y0 y1 y2 x1 x2
          by_cases hz : cn.size ≤ 40
          · have Hp := Lib.hid (P2.out (decide_eq_true hz))
            have hz2 : ¬ (40 : Int) < cn.size := by omega
            go_wp2
            go_roundw
            case rel => exact ⟨k + 1, by omega, by go_num, Hp.out, HB2.out⟩
            case measure => simp [intOf]; omega
          · have Hp := Lib.hid (P1.out (decide_eq_false hz))
            have hz2 : (40 : Int) < cn.size := by omega
            go_wp2
            go_ret
            exact ⟨ret_bool Hp.out.symm, HB2.out⟩
        · have Hp : Hid (E = true) := by
            show _ = _
            rw [ha.out, List.drop_eq_nil_of_le (by omega)]; rfl
          clear ha hb
          go_wp2
          go_ret
          exact ⟨ret_bool Hp.out.symm, HB.out⟩
    · rw [decide_eq_false c2] at hE
      have HE := Lib.hid (show E = false by rw [hE]; simp)
      have c3 : (20 : Int) < L.length := by omega
      have c4 : ¬ (40 : Int) < nm.size := by omega
      clear hr hok hE
      go_enter Tryz.func36, Tryz.ntmps36
      go_wp2
      go_ret
      exact ⟨ret_bool HE.out.symm, HB0.out⟩
  · rw [decide_eq_false c1] at hE
    have HE := Lib.hid (show E = false by rw [hE]; rfl)
    have c4 : (40 : Int) < nm.size := by omega
    clear hr hok hE
    go_enter Tryz.func36, Tryz.ntmps36
    go_wp2
    go_ret
    exact ⟨ret_bool HE.out.symm, HB0.out⟩

set_option maxRecDepth 100000 in
set_option maxHeartbeats 2000000 in
theorem lightrow_any (L : List ValD) (v : Value) (w : World) (h : Vals w v L) (hok : ∀ v ∈ L, ValOk v) :
    Calls Tryz.prog 12 #[v] w fun e w' => e = .returned (.bool (lightR L)) ∧ Rb w w' := by
  obtain ⟨ao, cap, rfl, h1, h2, hr⟩ := h
  have HR := Lib.hid hr
  have HOK := Lib.hid hok
  unfold maxLen at h2
  obtain ⟨E, hE⟩ : ∃ E, E = lightR L := ⟨_, rfl⟩
  rw [← hE]
  unfold lightR at hE
  by_cases c2 : L.length ≤ 20
  · rw [decide_eq_true c2] at hE
    have HE := Lib.hid (show E = L.all fun c => decide (c.s.size ≤ 100) by rw [hE]; rfl)
    clear hr hok hE
    go_enter Tryz.func12, Tryz.ntmps12
    go_wp2
    go_loopw [10] (fun i wr => ∃ k : Nat, k ≤ L.length ∧ i = .int .i64 k ∧ Hid (E = (L.drop k).all fun c => decide (c.s.size ≤ 100)) ∧ Rb w wr) (fun i _ => L.length - (intOf i).toNat)
    case atStart => exact ⟨0, Nat.zero_le _, rfl, by show E = _; rw [HE.out]; simp, Rb.refl _⟩
    case round =>
      obtain ⟨k, hk, rfl, ha, hb⟩ := hrel
      have HB := Lib.hid hb
      by_cases hlt : k < L.length
      · obtain ⟨b, o, rfl, hc⟩ := HR.out (show 0 < L.length by omega)
        obtain ⟨z0, z1, z2⟩ := hc k hlt
        have y0 := cell_rb hb z0
        have y1 := cell_rb hb z1
        have y2 := cell_rb hb z2
        obtain ⟨t, ht⟩ : ∃ t, t = L[k] := ⟨_, rfl⟩
        rw [← ht] at y0 y1 y2
        obtain ⟨p1, p2⟩ := all_drop hlt ht ha.out
        have P1 := Lib.hid p1
        have P2 := Lib.hid p2
        have hcz := (HOK.out t (by rw [ht]; exact List.getElem_mem hlt)).s
        unfold maxLen at hcz
        clear z0 z1 z2 hc p1 p2 hb ha ht
        obtain ⟨vk, vn, vs⟩ := t
        dsimp only at y0 y1 y2 P1 P2 hcz
        go_wp2_with (refine wpList_store rfl 60 _ _ rfl wr.heap.size 0 _ _ [_, _, _] _ rfl rfl (Blk.new wr 60 [_, _, _]) rfl sizeV (by simp) (oneV _ _ _) ?_)
        intro w1 hb1 hw1
        have HB2 := Lib.hid (Rb.trans _ _ _ HB.out hw1.rb_new)
        obtain ⟨x0, x1, x2⟩ := hb1.c3
        clear hb1 hw1 y0 y1 y2 x0 x1
        by_cases hz : vs.size ≤ 100
        · have Hp := Lib.hid (P2.out (decide_eq_true hz))
          have hz2 : ¬ (100 : Int) < vs.size := by omega
          go_wp2
          go_roundw
          case rel => exact ⟨k + 1, by omega, by go_num, Hp.out, HB2.out⟩
          case measure => simp [intOf]; omega
        · have Hp := Lib.hid (P1.out (decide_eq_false hz))
          have hz2 : (100 : Int) < vs.size := by omega
          go_wp2
          go_ret
          exact ⟨ret_bool Hp.out.symm, HB2.out⟩
      · have Hp : Hid (E = true) := by
          show _ = _
          rw [ha.out, List.drop_eq_nil_of_le (by omega)]; rfl
        clear ha hb
        go_wp2
        go_ret
        exact ⟨ret_bool Hp.out.symm, HB.out⟩
  · rw [decide_eq_false c2] at hE
    have HE := Lib.hid (show E = false by rw [hE]; simp)
    have c3 : (20 : Int) < L.length := by omega
    clear hr hok hE
    go_enter Tryz.func12, Tryz.ntmps12
    go_wp2
    go_ret
    exact ⟨ret_bool HE.out.symm, Rb.refl _⟩
end Go.Proofs.YtjfpeklfgnajoaaGreat.L6

namespace Go.Proofs.YtjfpeklfgnajoaaGreat.L6
open Go.ChangeShapes Go.WideShapes Go.ChangeAt Go.RowKit Oct By Reg Val
set_option linter.unusedVariables false
set_option linter.unusedSimpArgs false

def eqVal (a b : ValD) : Bool := (a.k == b.k) && ((a.n == b.n) && eqS a.s b.s)
def eqCol (a b : ColD) : Bool := eqS a.name b.name && ((a.kind == b.kind) && (a.max == b.max))
def sameL {α : Type} (eq : α → α → Bool) : List α → List α → Bool
  | [], [] => true
  | a :: r, b :: s => eq a b && sameL eq r s
  | _, _ => false
abbrev sameV : List ValD → List ValD → Bool := sameL eqVal
abbrev sameC : List ColD → List ColD → Bool := sameL eqCol
theorem sameL_len {α : Type} {eq : α → α → Bool} : ∀ {a b : List α}, a.length ≠ b.length → sameL eq a b = false
  | [], [], h => absurd rfl h
  | [], _ :: _, _ => rfl
  | _ :: _, [], _ => rfl
  | x :: r, y :: s, h => by
    rw [sameL, sameL_len (by simpa using h), Bool.and_false]
theorem sameL_drop {α : Type} {eq : α → α → Bool} {a b : List α} {k : Nat} {x y : α} {r : Bool} (ha : k < a.length) (hb : k < b.length) (hx : x = a[k]) (hy : y = b[k]) (h : r = sameL eq (a.drop k) (b.drop k)) :
    (eq x y = false → r = false) ∧ (eq x y = true → r = sameL eq (a.drop (k + 1)) (b.drop (k + 1))) := by
  rw [List.drop_eq_getElem_cons ha, List.drop_eq_getElem_cons hb, ← hx, ← hy, sameL] at h
  refine ⟨fun hp => ?_, fun hp => ?_⟩
  · rw [h, hp]; rfl
  · rw [h, hp]; rfl
theorem sameL_end {α : Type} {eq : α → α → Bool} {a b : List α} {k : Nat} {r : Bool} (ha : a.length ≤ k) (hb : b.length ≤ k) (h : r = sameL eq (a.drop k) (b.drop k)) : r = true := by
  rw [List.drop_eq_nil_of_le ha, List.drop_eq_nil_of_le hb] at h
  exact h
theorem drewN_rb (w : World) (n : Nat) : Rb w (w.drewN n) := by
  induction n with
  | zero => exact Rb.refl _
  | succ n ih => exact Rb.trans _ _ _ ih (Rb.drew _)

set_option maxRecDepth 100000 in
set_option maxHeartbeats 2000000 in
theorem equalV_any (a b : List ValD) (v u : Value) (w : World) (ha : Vals w v a) (hb : Vals w u b) :
    Calls Tryz.prog 92 #[v, u] w fun e w' => e = .returned (.bool (sameL eqVal a b)) ∧ Rb w w' := by
  obtain ⟨ao, cap, rfl, h1, h2, hra⟩ := ha
  obtain ⟨bo, cap2, rfl, h3, h4, hrb⟩ := hb
  unfold maxLen at h2 h4
  by_cases hl : a.length = b.length
  · have HL := Lib.hid hl
    have HA := Lib.hid hra
    have HBB := Lib.hid hrb
    rw [← hl]
    have hlb : ((a.length : Int) == (a.length : Int)) = true := by simp
    have ha9 : a.length ≤ 9223372036854775807 := by omega
    clear hl hra hrb h1 h3 hlb
    go_enter Tryz.func92, Tryz.ntmps92
    go_wp2
    go_loopw [13] (fun i wr => ∃ k : Nat, k ≤ a.length ∧ i = .int .i64 k ∧ Hid (sameL eqVal a b = sameL eqVal (a.drop k) (b.drop k)) ∧ Rb w wr) (fun i _ => a.length - (intOf i).toNat)
    case atStart => exact ⟨0, Nat.zero_le _, rfl, rfl, Rb.refl _⟩
    case round =>
      obtain ⟨k, hk, rfl, hs, hb⟩ := hrel
      have HB := Lib.hid hb
      by_cases hlt : k < a.length
      · have hlb : k < b.length := by have := HL.out; omega
        obtain ⟨ab, aoff, rfl, hca⟩ := HA.out (by omega)
        obtain ⟨bb, boff, rfl, hcb⟩ := HBB.out (by omega)
        obtain ⟨z0, z1, z2⟩ := hca k hlt
        obtain ⟨t0, t1, t2⟩ := hcb k hlb
        have y0 := cell_rb hb z0
        have y1 := cell_rb hb z1
        have y2 := cell_rb hb z2
        have u0 := cell_rb hb t0
        have u1 := cell_rb hb t1
        have u2 := cell_rb hb t2
        obtain ⟨x, hx⟩ : ∃ x, x = a[k] := ⟨_, rfl⟩
        obtain ⟨y, hy⟩ : ∃ y, y = b[k] := ⟨_, rfl⟩
        rw [← hx] at y0 y1 y2
        rw [← hy] at u0 u1 u2
        obtain ⟨p1, p2⟩ := sameL_drop hlt hlb hx hy hs.out
        have P1 := Lib.hid p1
        have P2 := Lib.hid p2
        have hkl : (k : Int) < (a.length : Int) := by omega
        clear z0 z1 z2 t0 t1 t2 hca hcb p1 p2 hs hx hy hb
        cases hq : eqVal x y with
        | true =>
          have hp := P2.out hq
          obtain ⟨xk, xn, xs⟩ := x
          obtain ⟨yk, yn, ys⟩ := y
          unfold eqVal at hq
          simp only [Bool.and_eq_true, beq_iff_eq, eqS_iff] at hq
          obtain ⟨rfl, rfl, rfl⟩ := hq
          dsimp only at y0 y1 y2 u0 u1 u2
          have HP := Lib.hid hp
          clear hp P1 P2
          go_upto_region 6 with (fail)
          go_quiet (fail)
          have hrb2 : Rb w (wr.drewN nq) := Rb.trans _ _ _ HB.out (drewN_rb _ _)
          generalize wr.drewN nq = w2 at *
          have HB2 := Lib.hid hrb2
          clear hrb2 y0 y1 y2 u0 u1 u2
          go_wp2
          go_roundw
          case rel => exact ⟨k + 1, by omega, by go_num, HP.out, HB2.out⟩
          case measure => simp [intOf]; omega
        | false =>
          have hp := P1.out hq
          obtain ⟨xk, xn, xs⟩ := x
          obtain ⟨yk, yn, ys⟩ := y
          unfold eqVal eqS at hq
          dsimp only at y0 y1 y2 u0 u1 u2 hq
          have HP := Lib.hid hp
          clear hp P1 P2
          by_cases d1 : xk = yk
          · subst d1
            by_cases d2 : xn = yn
            · subst d2
              have d3 : (xs.toList == ys.toList) = false := by simpa using hq
              clear hq
              go_upto_region 6 with (fail)
              go_quiet (fail)
              have hrb2 : Rb w (wr.drewN nq) := Rb.trans _ _ _ HB.out (drewN_rb _ _)
              generalize wr.drewN nq = w2 at *
              have HB2 := Lib.hid hrb2
              clear hrb2 y0 y1 y2 u0 u1 u2
              go_wp2
              go_ret
              exact ⟨ret_bool HP.out.symm, HB2.out⟩
            · have d3 : (xn == yn) = false := by rw [beq_eq_false_iff_ne]; exact d2
              clear hq d2
              go_upto_region 6 with (fail)
              go_quiet (fail)
              have hrb2 : Rb w (wr.drewN nq) := Rb.trans _ _ _ HB.out (drewN_rb _ _)
              generalize wr.drewN nq = w2 at *
              have HB2 := Lib.hid hrb2
              clear hrb2 y0 y1 y2 u0 u1 u2
              go_wp2
              go_ret
              exact ⟨ret_bool HP.out.symm, HB2.out⟩
          · have d3 : (xk == yk) = false := by rw [beq_eq_false_iff_ne]; exact d1
            clear hq d1
            go_upto_region 6 with (fail)
            go_quiet (fail)
            have hrb2 : Rb w (wr.drewN nq) := Rb.trans _ _ _ HB.out (drewN_rb _ _)
            generalize wr.drewN nq = w2 at *
            have HB2 := Lib.hid hrb2
            clear hrb2 y0 y1 y2 u0 u1 u2
            go_wp2
            go_ret
            exact ⟨ret_bool HP.out.symm, HB2.out⟩
      · have HP := Lib.hid (sameL_end (by omega) (by have := HL.out; omega) hs.out)
        clear hs hb
        go_wp2
        go_ret
        exact ⟨ret_bool HP.out.symm, HB.out⟩
  · have HP := Lib.hid (sameL_len (eq := eqVal) hl)
    have hlb : ((a.length : Int) == (b.length : Int)) = false := by rw [beq_eq_false_iff_ne]; omega
    clear hl hra hrb h1 h3
    go_enter Tryz.func92, Tryz.ntmps92
    go_wp2
    go_ret
    exact ⟨ret_bool HP.out.symm, Rb.refl _⟩

set_option maxRecDepth 100000 in
set_option maxHeartbeats 2000000 in
theorem equalC_any (a b : List ColD) (v u : Value) (w : World) (ha : Cols w v a) (hb : Cols w u b) :
    Calls Tryz.prog 91 #[v, u] w fun e w' => e = .returned (.bool (sameL eqCol a b)) ∧ Rb w w' := by
  obtain ⟨ao, cap, rfl, h1, h2, hra⟩ := ha
  obtain ⟨bo, cap2, rfl, h3, h4, hrb⟩ := hb
  unfold maxLen at h2 h4
  by_cases hl : a.length = b.length
  · have HL := Lib.hid hl
    have HA := Lib.hid hra
    have HBB := Lib.hid hrb
    rw [← hl]
    have hlb : ((a.length : Int) == (a.length : Int)) = true := by simp
    have ha9 : a.length ≤ 9223372036854775807 := by omega
    clear hl hra hrb h1 h3 hlb
    go_enter Tryz.func91, Tryz.ntmps91
    go_wp2
    go_loopw [13] (fun i wr => ∃ k : Nat, k ≤ a.length ∧ i = .int .i64 k ∧ Hid (sameL eqCol a b = sameL eqCol (a.drop k) (b.drop k)) ∧ Rb w wr) (fun i _ => a.length - (intOf i).toNat)
    case atStart => exact ⟨0, Nat.zero_le _, rfl, rfl, Rb.refl _⟩
    case round =>
      obtain ⟨k, hk, rfl, hs, hb⟩ := hrel
      have HB := Lib.hid hb
      by_cases hlt : k < a.length
      · have hlb : k < b.length := by have := HL.out; omega
        obtain ⟨ab, aoff, rfl, hca⟩ := HA.out (by omega)
        obtain ⟨bb, boff, rfl, hcb⟩ := HBB.out (by omega)
        obtain ⟨z0, z1, z2⟩ := hca k hlt
        obtain ⟨t0, t1, t2⟩ := hcb k hlb
        have y0 := cell_rb hb z0
        have y1 := cell_rb hb z1
        have y2 := cell_rb hb z2
        have u0 := cell_rb hb t0
        have u1 := cell_rb hb t1
        have u2 := cell_rb hb t2
        obtain ⟨x, hx⟩ : ∃ x, x = a[k] := ⟨_, rfl⟩
        obtain ⟨y, hy⟩ : ∃ y, y = b[k] := ⟨_, rfl⟩
        rw [← hx] at y0 y1 y2
        rw [← hy] at u0 u1 u2
        obtain ⟨p1, p2⟩ := sameL_drop hlt hlb hx hy hs.out
        have P1 := Lib.hid p1
        have P2 := Lib.hid p2
        have hkl : (k : Int) < (a.length : Int) := by omega
        clear z0 z1 z2 t0 t1 t2 hca hcb p1 p2 hs hx hy hb
        cases hq : eqCol x y with
        | true =>
          have hp := P2.out hq
          obtain ⟨xs, xk, xn⟩ := x
          obtain ⟨ys, yk, yn⟩ := y
          unfold eqCol at hq
          simp only [Bool.and_eq_true, beq_iff_eq, eqS_iff] at hq
          obtain ⟨rfl, rfl, rfl⟩ := hq
          dsimp only at y0 y1 y2 u0 u1 u2
          have HP := Lib.hid hp
          clear hp P1 P2
          go_upto_region 6 with (fail)
          go_quiet (fail)
          have hrb2 : Rb w (wr.drewN nq) := Rb.trans _ _ _ HB.out (drewN_rb _ _)
          generalize wr.drewN nq = w2 at *
          have HB2 := Lib.hid hrb2
          clear hrb2 y0 y1 y2 u0 u1 u2
          go_wp2
          go_roundw
          case rel => exact ⟨k + 1, by omega, by go_num, HP.out, HB2.out⟩
          case measure => simp [intOf]; omega
        | false =>
          have hp := P1.out hq
          obtain ⟨xs, xk, xn⟩ := x
          obtain ⟨ys, yk, yn⟩ := y
          unfold eqCol eqS at hq
          dsimp only at y0 y1 y2 u0 u1 u2 hq
          have HP := Lib.hid hp
          clear hp P1 P2
          by_cases d1 : (xs.toList == ys.toList) = true
          · have d1' : xs = ys := eqS_iff.1 d1
            subst d1'
            by_cases d2 : xk = yk
            · subst d2
              have d3 : (xn == yn) = false := by simpa using hq
              clear hq d1
              go_upto_region 6 with (fail)
              go_quiet (fail)
              have hrb2 : Rb w (wr.drewN nq) := Rb.trans _ _ _ HB.out (drewN_rb _ _)
              generalize wr.drewN nq = w2 at *
              have HB2 := Lib.hid hrb2
              clear hrb2 y0 y1 y2 u0 u1 u2
              go_wp2
              go_ret
              exact ⟨ret_bool HP.out.symm, HB2.out⟩
            · have d3 : (xk == yk) = false := by rw [beq_eq_false_iff_ne]; exact d2
              clear hq d2 d1
              go_upto_region 6 with (fail)
              go_quiet (fail)
              have hrb2 : Rb w (wr.drewN nq) := Rb.trans _ _ _ HB.out (drewN_rb _ _)
              generalize wr.drewN nq = w2 at *
              have HB2 := Lib.hid hrb2
              clear hrb2 y0 y1 y2 u0 u1 u2
              go_wp2
              go_ret
              exact ⟨ret_bool HP.out.symm, HB2.out⟩
          · have d3 : (xs.toList == ys.toList) = false := Bool.eq_false_iff.2 d1
            clear hq d1
            go_upto_region 6 with (fail)
            go_quiet (fail)
            have hrb2 : Rb w (wr.drewN nq) := Rb.trans _ _ _ HB.out (drewN_rb _ _)
            generalize wr.drewN nq = w2 at *
            have HB2 := Lib.hid hrb2
            clear hrb2 y0 y1 y2 u0 u1 u2
            go_wp2
            go_ret
            exact ⟨ret_bool HP.out.symm, HB2.out⟩
      · have HP := Lib.hid (sameL_end (by omega) (by have := HL.out; omega) hs.out)
        clear hs hb
        go_wp2
        go_ret
        exact ⟨ret_bool HP.out.symm, HB.out⟩
  · have HP := Lib.hid (sameL_len (eq := eqCol) hl)
    have hlb : ((a.length : Int) == (b.length : Int)) = false := by rw [beq_eq_false_iff_ne]; omega
    clear hl hra hrb h1 h3
    go_enter Tryz.func91, Tryz.ntmps91
    go_wp2
    go_ret
    exact ⟨ret_bool HP.out.symm, Rb.refl _⟩

set_option maxRecDepth 100000 in
set_option maxHeartbeats 2000000 in
theorem refsame_any (a b : List ValD) (v u : Value) (w : World) (ha : Vals w v a) (hb : Vals w u b) :
    Calls Tryz.prog 17 #[v, u] w fun e w' => e = .returned (.bool (sameL eqVal a b)) ∧ Rb w w' := by
  obtain ⟨ao, cap, rfl, h1, h2, hra⟩ := ha
  obtain ⟨bo, cap2, rfl, h3, h4, hrb⟩ := hb
  unfold maxLen at h2 h4
  by_cases hl : a.length = b.length
  · have HL := Lib.hid hl
    have HA := Lib.hid hra
    have HBB := Lib.hid hrb
    rw [← hl]
    have hlb : ((a.length : Int) == (a.length : Int)) = true := by simp
    have ha9 : a.length ≤ 9223372036854775807 := by omega
    clear hl hra hrb h1 h3 hlb
    go_enter Tryz.func17, Tryz.ntmps17
    go_wp2
    go_loopw [13] (fun i wr => ∃ k : Nat, k ≤ a.length ∧ i = .int .i64 k ∧ Hid (sameL eqVal a b = sameL eqVal (a.drop k) (b.drop k)) ∧ Rb w wr) (fun i _ => a.length - (intOf i).toNat)
    case atStart => exact ⟨0, Nat.zero_le _, rfl, rfl, Rb.refl _⟩
    case round =>
      obtain ⟨k, hk, rfl, hs, hb⟩ := hrel
      have HB := Lib.hid hb
      by_cases hlt : k < a.length
      · have hlb : k < b.length := by have := HL.out; omega
        obtain ⟨ab, aoff, rfl, hca⟩ := HA.out (by omega)
        obtain ⟨bb, boff, rfl, hcb⟩ := HBB.out (by omega)
        obtain ⟨z0, z1, z2⟩ := hca k hlt
        obtain ⟨t0, t1, t2⟩ := hcb k hlb
        have y0 := cell_rb hb z0
        have y1 := cell_rb hb z1
        have y2 := cell_rb hb z2
        have u0 := cell_rb hb t0
        have u1 := cell_rb hb t1
        have u2 := cell_rb hb t2
        obtain ⟨x, hx⟩ : ∃ x, x = a[k] := ⟨_, rfl⟩
        obtain ⟨y, hy⟩ : ∃ y, y = b[k] := ⟨_, rfl⟩
        rw [← hx] at y0 y1 y2
        rw [← hy] at u0 u1 u2
        obtain ⟨p1, p2⟩ := sameL_drop hlt hlb hx hy hs.out
        have P1 := Lib.hid p1
        have P2 := Lib.hid p2
        have hkl : (k : Int) < (a.length : Int) := by omega
        clear z0 z1 z2 t0 t1 t2 hca hcb p1 p2 hs hx hy hb
        cases hq : eqVal x y with
        | true =>
          have hp := P2.out hq
          obtain ⟨xk, xn, xs⟩ := x
          obtain ⟨yk, yn, ys⟩ := y
          unfold eqVal at hq
          simp only [Bool.and_eq_true, beq_iff_eq, eqS_iff] at hq
          obtain ⟨rfl, rfl, rfl⟩ := hq
          dsimp only at y0 y1 y2 u0 u1 u2
          have HP := Lib.hid hp
          clear hp P1 P2
          go_upto_region 6 with (fail)
          go_quiet (fail)
          have hrb2 : Rb w (wr.drewN nq) := Rb.trans _ _ _ HB.out (drewN_rb _ _)
          generalize wr.drewN nq = w2 at *
          have HB2 := Lib.hid hrb2
          clear hrb2 y0 y1 y2 u0 u1 u2
          go_wp2
          go_roundw
          case rel => exact ⟨k + 1, by omega, by go_num, HP.out, HB2.out⟩
          case measure => simp [intOf]; omega
        | false =>
          have hp := P1.out hq
          obtain ⟨xk, xn, xs⟩ := x
          obtain ⟨yk, yn, ys⟩ := y
          unfold eqVal eqS at hq
          dsimp only at y0 y1 y2 u0 u1 u2 hq
          have HP := Lib.hid hp
          clear hp P1 P2
          by_cases d1 : xk = yk
          · subst d1
            by_cases d2 : xn = yn
            · subst d2
              have d3 : (xs.toList == ys.toList) = false := by simpa using hq
              clear hq
              go_upto_region 6 with (fail)
              go_quiet (fail)
              have hrb2 : Rb w (wr.drewN nq) := Rb.trans _ _ _ HB.out (drewN_rb _ _)
              generalize wr.drewN nq = w2 at *
              have HB2 := Lib.hid hrb2
              clear hrb2 y0 y1 y2 u0 u1 u2
              go_wp2
              go_ret
              exact ⟨ret_bool HP.out.symm, HB2.out⟩
            · have d3 : (xn == yn) = false := by rw [beq_eq_false_iff_ne]; exact d2
              clear hq d2
              go_upto_region 6 with (fail)
              go_quiet (fail)
              have hrb2 : Rb w (wr.drewN nq) := Rb.trans _ _ _ HB.out (drewN_rb _ _)
              generalize wr.drewN nq = w2 at *
              have HB2 := Lib.hid hrb2
              clear hrb2 y0 y1 y2 u0 u1 u2
              go_wp2
              go_ret
              exact ⟨ret_bool HP.out.symm, HB2.out⟩
          · have d3 : (xk == yk) = false := by rw [beq_eq_false_iff_ne]; exact d1
            clear hq d1
            go_upto_region 6 with (fail)
            go_quiet (fail)
            have hrb2 : Rb w (wr.drewN nq) := Rb.trans _ _ _ HB.out (drewN_rb _ _)
            generalize wr.drewN nq = w2 at *
            have HB2 := Lib.hid hrb2
            clear hrb2 y0 y1 y2 u0 u1 u2
            go_wp2
            go_ret
            exact ⟨ret_bool HP.out.symm, HB2.out⟩
      · have HP := Lib.hid (sameL_end (by omega) (by have := HL.out; omega) hs.out)
        clear hs hb
        go_wp2
        go_ret
        exact ⟨ret_bool HP.out.symm, HB.out⟩
  · have HP := Lib.hid (sameL_len (eq := eqVal) hl)
    have hlb : ((a.length : Int) == (b.length : Int)) = false := by rw [beq_eq_false_iff_ne]; omega
    clear hl hra hrb h1 h3
    go_enter Tryz.func17, Tryz.ntmps17
    go_wp2
    go_ret
    exact ⟨ret_bool HP.out.symm, Rb.refl _⟩

set_option maxRecDepth 100000 in
theorem same_any (a b : List ValD) (v u : Value) (w : World) (ha : Vals w v a) (hb : Vals w u b) :
    Calls Tryz.prog 63 #[v, u] w fun e w' => e = .returned (.bool (sameV a b)) ∧ Rb w w' := by
  have hcl := equalV_any a b v u w ha hb
  clear ha hb
  go_enter Tryz.func63, Tryz.ntmps63
  go_wp2_with fail
  refine hcl.mono ?_
  rintro e w2 ⟨rfl, hb2⟩
  have HB2 := Lib.hid hb2
  clear hb2 hcl
  go_wp2
  go_ret
  exact ⟨rfl, HB2.out⟩
end Go.Proofs.YtjfpeklfgnajoaaGreat.L6

namespace Go.Proofs.YtjfpeklfgnajoaaGreat.L6
open Go.ChangeShapes Go.WideShapes Go.ChangeAt Go.RowKit Oct By Reg Val
set_option linter.unusedVariables false
set_option linter.unusedSimpArgs false

def sameTab (t u : TabD) : Bool := eqS t.name u.name && ((t.rows == u.rows) && sameC t.cols u.cols)

set_option maxRecDepth 100000 in
set_option maxHeartbeats 2000000 in
theorem sametab_any (t u : TabD) (w : World) (ht : TabIn w t) (hu : TabIn w u) :
    Calls Tryz.prog 60 #[tabV t, tabV u] w fun e w' => e = .returned (.bool (sameTab t u)) ∧ Rb w w' := by
  obtain ⟨nm, rws, cv, L⟩ := t
  obtain ⟨nm2, rws2, cv2, L2⟩ := u
  obtain ⟨ao, cap, rfl, h1, h2⟩ := ht.form
  obtain ⟨bo, cap2, rfl, h3, h4⟩ := hu.form
  have hr : Rb w ((w.alloc (.cells #[.string nm, .int .i64 rws, .slice ao L.length cap] 69)).alloc (.cells #[.string nm2, .int .i64 rws2, .slice bo L2.length cap2] 69)) := ((Below.refl _ w).alloc (Nat.le_refl _) _).alloc (by simp) _
  have hcl := equalC_any L L2 _ _ _ (Row3.rb ht hr) (Row3.rb hu hr)
  have HR := Lib.hid hr
  obtain ⟨E, hE⟩ : ∃ E, E = sameTab ⟨nm, rws, .slice ao L.length cap, L⟩ ⟨nm2, rws2, .slice bo L2.length cap2, L2⟩ := ⟨_, rfl⟩
  rw [← hE]
  unfold sameTab at hE
  dsimp only at hE
  clear hr ht hu h1 h2 h3 h4
  cases he : eqS nm nm2 with
  | false =>
    have HE := Lib.hid (show E = false by rw [hE, he]; rfl)
    unfold eqS at he
    clear hE hcl
    go_enter Tryz.func60, Tryz.ntmps60
    go_wp2
    go_ret
    exact ⟨ret_bool HE.out.symm, HR.out⟩
  | true =>
    by_cases hrw : rws = rws2
    · have hrb : (rws == rws2) = true := by rw [hrw]; simp
      have HE := Lib.hid (show E = sameC L L2 by rw [hE, he, hrb]; rfl)
      unfold eqS at he
      subst hrw
      have HC := Lib.hid hcl
      clear hE hrb hcl
      go_enter Tryz.func60, Tryz.ntmps60
      go_wp2_with fail
      refine HC.out.mono ?_
      rintro e w2 ⟨rfl, hb2⟩
      have HB2 := Lib.hid (Rb.trans _ _ _ HR.out hb2)
      clear hb2 HC
      go_wp2
      go_ret
      exact ⟨ret_bool HE.out.symm, HB2.out⟩
    · have hrb : (rws == rws2) = false := by rw [beq_eq_false_iff_ne]; exact hrw
      have HE := Lib.hid (show E = false by rw [hE, he, hrb]; rfl)
      unfold eqS at he
      clear hE hcl hrw
      go_enter Tryz.func60, Tryz.ntmps60
      go_wp2
      go_ret
      exact ⟨ret_bool HE.out.symm, HR.out⟩

end Go.Proofs.YtjfpeklfgnajoaaGreat.L6

namespace Go.Proofs.YtjfpeklfgnajoaaGreat.L6
open Go.ChangeShapes Go.WideShapes Go.ChangeAt Go.RowKit Oct By Reg Val
set_option linter.unusedVariables false
set_option linter.unusedSimpArgs false

abbrev cells3 (v : ValD) : List Value := [.int .i64 v.k, .int .i64 v.n, .string v.s]
def flat3 (l : List ValD) : List Value := l.flatMap cells3
theorem flat3_len : ∀ l : List ValD, (flat3 l).length = l.length * 3
  | [] => rfl
  | p :: l => by
    have := flat3_len l
    simp only [flat3, List.flatMap_cons, List.length_append, List.length_cons, List.length_nil] at this ⊢
    rw [this]; omega
theorem flat3_append (a b : List ValD) : flat3 (a ++ b) = flat3 a ++ flat3 b := by unfold flat3; simp
theorem flat3_get : ∀ (l : List ValD) (k : Nat) (hk : k < l.length), (flat3 l)[k * 3]? = some (.int .i64 l[k].k) ∧ (flat3 l)[k * 3 + 1]? = some (.int .i64 l[k].n) ∧ (flat3 l)[k * 3 + 2]? = some (.string l[k].s)
  | [], k, h => by simp at h
  | p :: l, 0, h => ⟨rfl, rfl, rfl⟩
  | p :: l, k + 1, h => by
    have := flat3_get l k (by simpa using h)
    rw [show (k + 1) * 3 = k * 3 + 1 + 1 + 1 by omega]
    exact this
/-- a row that the call made -/
def VRow (w : World) (B : Nat) (v : Value) (l : List ValD) : Prop := w.ownsRow B 60 3 v l.length (flat3 l)
theorem VRow.vals {w : World} {B : Nat} {v : Value} {l : List ValD} (h : VRow w B v l) : Vals w v l := by
  have h0 := h
  rcases h.2 with ⟨rfl, h2⟩ | ⟨g, cap, cur, rfl, h2, h3, h4, h5, h6, h7⟩
  · have : l = [] := List.eq_nil_of_length_eq_zero h2
    subst this
    exact ⟨none, 0, rfl, Nat.le_refl _, Nat.zero_le _, fun h => absurd h (Nat.lt_irrefl _)⟩
  · refine ⟨_, cap, rfl, h4, h5, fun _ => ⟨g, 0, rfl, fun k hk => ?_⟩⟩
    have hc := World.ownsRow.cells h0 (g := g) rfl
    obtain ⟨c0, c1, c2⟩ := flat3_get l k hk
    have a0 := hc _ _ c0
    have a1 := hc _ _ c1
    have a2 := hc _ _ c2
    rw [Addr.add_lit] at a0 a1 a2
    exact ⟨a0, by rw [Nat.add_assoc]; exact a1, by rw [Nat.add_assoc]; exact a2⟩
theorem VRow.of {w : World} {B : Nat} {v : Value} {n : Nat} {l : List ValD} (h : w.ownsRow B 60 3 v n (flat3 l)) (hn : n = l.length) : VRow w B v l := by
  subst hn; exact h
theorem owns_same {w w' : World} {B : Nat} {e : TypeId} {s : Nat} {v : Value} {n : Nat} {xs : List Value} (h : w.ownsRow B e s v n xs) (hb : ∀ k, v.ownBlock = some k → w'.heap[k]? = w.heap[k]?) : w'.ownsRow B e s v n xs := by
  refine ⟨h.1, ?_⟩
  rcases h.2 with h0 | ⟨g, cap, cur, rfl, h2, h3, h4⟩
  · exact .inl h0
  · exact .inr ⟨g, cap, cur, rfl, h2, by rw [hb g rfl]; exact h3, h4⟩
/-- what a call that turns F's blocks keeps of a row of the caller's own -/
theorem owns_fr {F : Nat → Prop} {w w' : World} {B : Nat} {e : TypeId} {s : Nat} {v : Value} {n : Nat} {xs : List Value} (h : w.ownsRow B e s v n xs) (hf : Fr F w w') (hF : ∀ k, F k → k < B) : w'.ownsRow B e s v n xs :=
  owns_same h fun k hk => hf.block k (World.ownsRow.lt h k hk).2 fun hfk => by have := hF k hfk; have := (World.ownsRow.lt h k hk).1; omega
def zeroV (c : ColD) : ValD := ⟨if rightTypeB c.kind c.max = true then c.kind else 0, 0, ⟨#[]⟩⟩
theorem cells3_one (v : ValD) : ∀ u ∈ cells3 v, u.oneCell' = true := by
  intro u hu; simp at hu; rcases hu with rfl | rfl | rfl <;> rfl
theorem map_range_succ (f : Nat → ValD) (k : Nat) : (List.range (k + 1)).map f = (List.range k).map f ++ [f k] := by
  rw [List.range_succ, List.map_append]; rfl

set_option maxRecDepth 100000 in
set_option maxHeartbeats 4000000 in
theorem rowofZ_any (nm : ByteArray) (rws : Int) (cv : Value) (L : List ColD) (w : World) (F : Nat → Prop) (I : Nat → World → Prop) (J : World → Prop) (made : Nat → ValD) (okk : Nat → Bool)
    (hlen : L.length ≤ 1000) (hcv : ∀ w', Fr F w w' → Cols w' cv L) (hF : ∀ k, F k → k < w.heap.size) (hI0 : I 0 w)
    (hI : ∀ k w1 w2, I k w1 → Fr (fun b => w.heap.size ≤ b) w1 w2 → w.heap.size ≤ w1.heap.size → I k w2)
    (hJ : ∀ w1 w2, J w1 → Rb w1 w2 → J w2)
    (hcall : ∀ k (hk : k < L.length) w1, Fr F w w1 → I k w1 → Calls Tryz.prog 98 #[.agg #[.int .i64 L[k].kind, .int .i64 L[k].max]] w1 fun e w2 => e = .returned (.tuple #[valV3 (made k), .bool (okk k)]) ∧ Fr F w1 w2 ∧ (okk k = true → I (k + 1) w2) ∧ J w2) :
    Calls Tryz.prog 97 #[tabV ⟨nm, rws, cv, L⟩, .func (.func 98) #[] #[]] w fun e w' => Fr F w w' ∧
      ((∃ v, (∀ k, k < L.length → okk k = true) ∧ e = .returned (.tuple #[v, .bool true]) ∧ VRow w' w.heap.size v ((List.range L.length).map made) ∧ I L.length w') ∨
       ((∃ k, k < L.length ∧ okk k = false) ∧ e = .returned (.tuple #[.slice none 0 0, .bool false]) ∧ J w')) := by
  have hc0 := hcv w (Fr.refl F w)
  obtain ⟨ao, cap, rfl, h1, h2, hr0⟩ := hc0
  have HCV := Lib.hid hcv
  have HF := Lib.hid hF
  have HI := Lib.hid hI
  have HJ := Lib.hid hJ
  have HCL := Lib.hid hcall
  have hrb0 : Rb w (w.alloc (.cells #[.string nm, .int .i64 rws, .slice ao L.length cap] 69)) := (Below.refl _ w).alloc (Nat.le_refl _) _
  have HB0 := Lib.hid (Fr.of_rb (F := F) hrb0)
  have HI0 := Lib.hid (hI 0 w _ hI0 (Fr.of_rb hrb0) (Nat.le_refl _))
  obtain ⟨i0, hi0, hz0, hz1, hz2⟩ := info_parts infoV3
  have Hi := Lib.hid hi0
  have Hz := Lib.hid hz0
  have Hz1 := Lib.hid hz1
  have Hz2 := Lib.hid hz2
  unfold maxLen at h2
  have h9 : L.length ≤ 9223372036854775807 := by omega
  have hbyte := Lib.hid hlen
  clear hcv hF hI hJ hcall hI0 hr0 hrb0 hi0 hz0 hz1 hz2
  go_enter Tryz.func97, Tryz.ntmps97
  go_wp2
  go_loopw [6, 14] (fun p i wr => ∃ k : Nat, k ≤ L.length ∧ i = .int .i64 k ∧ Hid (∀ j, j < k → okk j = true) ∧ wr.ownsRow w.heap.size 60 3 p k (flat3 ((List.range k).map made)) ∧ Hid (I k wr) ∧ Fr F w wr) (fun _ i _ => L.length - (intOf i).toNat)
  case atStart => exact ⟨0, Nat.zero_le _, rfl, fun j hj => absurd hj (Nat.not_lt_zero _), World.ownsRow_nil _ _ _ _, HI0, HB0.out⟩
  case round =>
    obtain ⟨k, hk, rfl, hall, ho, hIk, hf⟩ := hrel
    have HO := Lib.hid ho
    have HFR := Lib.hid hf
    have hsz := hf.size
    clear ho
    by_cases hlt : k < L.length
    · have hck := HCV.out wr hf
      obtain ⟨ao', cap', ee, _, _, hr⟩ := hck
      simp only [Value.slice.injEq] at ee
      obtain ⟨rfl, -, rfl⟩ := ee
      obtain ⟨b, o, rfl, hc⟩ := hr (by omega)
      obtain ⟨y0, y1, y2⟩ := hc k hlt
      obtain ⟨c, hcx⟩ : ∃ c, c = L[k] := ⟨_, rfl⟩
      have hcl := HCL.out k hlt
      rw [← hcx] at y0 y1 y2 hcl
      obtain ⟨q, hq⟩ : ∃ q, q = made k := ⟨_, rfl⟩
      rw [← hq] at hcl
      have HQ := Lib.hid hq
      clear hc hr hcx hq hf
      obtain ⟨cn, ck, cm⟩ := c
      obtain ⟨qk, qn, qs⟩ := q
      dsimp only at y0 y1 y2 hcl
      go_wp2_with (refine wpList_store rfl 88 _ _ rfl wr.heap.size 0 _ _ [_, _, _] _ rfl rfl (Blk.new wr 88 [_, _, _]) rfl sizeC (by simp) (oneC _ _ _) ?_)
      intro w1 hb1 hw1
      have hr1 := hw1.rb_new
      have HR1 := Lib.hid hr1
      obtain ⟨x0, x1, x2⟩ := hb1.c3
      have hI1 := HI.out k wr w1 hIk.out (Fr.of_rb hr1) hsz
      have hcl1 := hcl w1 (HFR.out.then_rb hr1) hI1
      have HO1 := Lib.hid (owns_below HO.out hr1)
      clear hb1 hw1 y0 y1 y2 hr1 hI1 hcl
      obtain ⟨kk, hkk⟩ : ∃ kk, kk = okk k := ⟨_, rfl⟩
      rw [← hkk] at hcl1
      have HKK := Lib.hid hkk
      clear hkk
      go_wp2_with fail
      refine hcl1.mono ?_
      rintro e w2 ⟨rfl, hf2, hI2, hJ2⟩
      have HJ2 := Lib.hid hJ2
      clear hJ2
      have HFR2 := Lib.hid ((HFR.out.then_rb HR1.out).trans hf2 (fun g hg => .inl hg))
      have HO2 := Lib.hid (owns_fr HO1.out hf2 HF.out)
      have HI2 := Lib.hid hI2
      clear hf2 hI2 hcl1 x0 x1 x2
      go_wp2_with (refine wpList_store rfl 60 _ _ rfl w2.heap.size 0 _ _ [_, _, _] _ rfl rfl (Blk.new w2 60 [_, _, _]) rfl sizeV (by simp) (oneV _ _ _) ?_)
      intro w3 hb3 hw3
      have hr3 := hw3.rb_new
      have HFR3 := Lib.hid (HFR2.out.then_rb hr3)
      have HO3 := Lib.hid (owns_below HO2.out hr3)
      obtain ⟨x0, x1, x2⟩ := hb3.c3
      have HR3 := Lib.hid hr3
      clear hb3 hw3 hr3
      cases kk with
      | false =>
        have HE : Hid (∃ k, k < L.length ∧ okk k = false) := ⟨k, hlt, HKK.out.symm⟩
        have HJ3 := Lib.hid (HJ.out _ _ HJ2.out HR3.out)
        go_wp2
        go_ret2
        exact ⟨HFR3.out, .inr ⟨HE.out, rfl, HJ3.out⟩⟩
      | true =>
        have hsz3 := HFR3.out.size
        have HO4 := Lib.hid (World.ownsRow.alloc HO3.out (.cells (cells3 ⟨qk, qn, qs⟩).toArray 60))
        have HFR4 := Lib.hid (HFR3.out.alloc (.cells (cells3 ⟨qk, qn, qs⟩).toArray 60))
        have hby := hbyte.out
        go_wp2_with (at_builtin; (refine wpList_append_own _ rfl _ _ 32 rfl w.heap.size 60 i0 (.agg #[.int .i64 0, .int .i64 0, .string ⟨#[]⟩]) 3 32 Tryz.underlying32 Hi.out Hz.out Hz1.out Hz2.out rfl (by decide) _ k _ rfl HO4.out ⟨w3.heap.size, 0, none⟩ 1 1 (cells3 ⟨qk, qn, qs⟩) rfl rfl (cells_new _ _ _ (by simp [maxLen])) (cells3_one _) (by unfold maxLen; omega) (by omega) (HFR4.out.size) ?_))
        intro v' w4 ho hg hnil
        have hfl : flat3 ((List.range k).map made) ++ cells3 ⟨qk, qn, qs⟩ = flat3 ((List.range (k + 1)).map made) := by
          rw [map_range_succ, flat3_append, ← HQ.out]
          simp [flat3]
        rw [hfl] at ho
        obtain ⟨g', cap', rfl⟩ := owns_form ho (by omega)
        have HO5 := Lib.hid ho
        have hfr5 := HFR4.out.grown hg (fun b hb => .inr (HO4.out.lt b hb).1)
        have HFR5 := Lib.hid hfr5
        have hI3 := HI2.out (by trivial)
        have hfw : Fr (fun b => w.heap.size ≤ b) w2 w4 := ((Fr.of_rb HR3.out).alloc (.cells (cells3 ⟨qk, qn, qs⟩).toArray 60)).grown hg (fun b hb => .inl (HO4.out.lt b hb).1)
        have HI4 : Hid (I (k + 1) w4) := HI.out (k + 1) w2 w4 hI3 hfw HFR2.out.size
        have HALL : Hid (∀ j, j < k + 1 → okk j = true) := fun j hj => by
          by_cases hjk : j < k
          · exact hall.out j hjk
          · rw [show j = k by omega]; exact HKK.out.symm
        clear ho hg hnil hfl hfr5 hI3 hfw x0 x1 x2 hby hsz3
        go_wp2
        go_roundw
        case rel => exact ⟨k + 1, by omega, by go_num, HALL, HO5.out, HI4, HFR5.out⟩
        case measure => simp [intOf]; omega
    · have hkl : k = L.length := by omega
      have HKL := Lib.hid hkl
      clear hf hkl
      have HV : Hid (∀ j, j < L.length → okk j = true) := by rw [← HKL.out]; exact hall
      have HRW := VRow.of HO.out (by simp)
      rw [HKL.out] at HRW
      have HRX := Lib.hid HRW
      have HIK : Hid (I L.length wr) := by rw [← HKL.out]; exact hIk
      clear hall hIk HRW
      go_wp2
      go_ret2
      exact ⟨HFR.out, .inl ⟨_, HV.out, rfl, HRX.out, HIK.out⟩⟩

set_option maxRecDepth 100000 in
set_option maxHeartbeats 1000000 in
theorem zero1_any (k m : Int) (w : World) :
    Calls Tryz.prog 98 #[.agg #[.int .i64 k, .int .i64 m]] w fun e w' => e = .returned (.tuple #[valV3 (zeroV ⟨⟨#[]⟩, k, m⟩), .bool true]) ∧ Rb w w' := by
  have hz := fun w => zero_any k m w
  unfold zeroV
  dsimp only
  generalize (if rightTypeB k m = true then k else 0) = kk at *
  obtain ⟨wa, hwa⟩ : ∃ wa, wa = (w.alloc (.cells #[.int .i64 k, .int .i64 m] 86)).alloc (.cells #[.int .i64 0, .int .i64 0, .string ⟨#[]⟩] 60) := ⟨_, rfl⟩
  have hra : Rb w wa := by rw [hwa]; exact ((Below.refl _ w).alloc (Nat.le_refl _) _).alloc (by simp) _
  have hba : Blk wa (w.heap.size + 1) 60 [.int .i64 0, .int .i64 0, .string ⟨#[]⟩] := by
    rw [hwa]
    have := Blk.new (w.alloc (.cells #[.int .i64 k, .int .i64 m] 86)) 60 [.int .i64 0, .int .i64 0, .string ⟨#[]⟩]
    rw [show (w.alloc (.cells #[.int .i64 k, .int .i64 m] 86)).heap.size = w.heap.size + 1 by simp] at this
    exact this
  have HRA := Lib.hid hra
  have HBA := Lib.hid hba
  have HWA := Lib.hid hwa
  clear hwa hra hba
  go_enter Tryz.func98, Tryz.ntmps98
  go_wp2_with fail
  rw [← HWA.out]
  refine (hz _).mono ?_
  rintro e w2 ⟨rfl, hb2⟩
  have HB2 := Lib.hid hb2
  have hblk := HBA.out.rb hb2
  have HBK := Lib.hid hblk
  clear hb2 hblk hz
  go_wp2_with (refine wpList_store rfl 60 _ _ rfl (w.heap.size + 1) 0 _ _ [_, _, _] _ rfl rfl HBK.out rfl sizeV (by simp) (oneV _ _ _) ?_)
  intro w3 hb3 hw3
  obtain ⟨x0, x1, x2⟩ := hb3.c3
  have HRR : Hid (Rb w w3) := by
    have h2 := Rb.trans _ _ _ HRA.out HB2.out
    refine ⟨hw3.os.trans h2.os, hw3.tape.trans h2.tape, hw3.output.trans h2.output, by rw [hw3.size]; exact h2.size, fun j hj => ?_⟩
    rw [hw3.block j (by omega)]
    exact h2.block j hj
  clear hb3 hw3
  go_wp2
  exact bodyPost_ret (v := .tuple #[valV3 ⟨kk, 0, ⟨#[]⟩⟩, .bool true]) (by simp [results, Tryz.results98, go_sem, x0, x1, x2]) rfl ⟨rfl, HRR.out⟩

/-- a row for each column, made of the column alone -/
theorem range_map_zero (L : List ColD) (f : Nat → ValD) (h : ∀ k (hk : k < L.length), f k = zeroV L[k]) : (List.range L.length).map f = L.map zeroV := by
  apply List.ext_getElem
  · simp
  · intro i h1 h2
    simp at h1 h2
    rw [List.getElem_map, List.getElem_map, List.getElem_range]
    exact h i h1

set_option maxRecDepth 100000 in
set_option maxHeartbeats 1000000 in
theorem zero_row (nm : ByteArray) (rws : Int) (cv : Value) (L : List ColD) (w : World) (h : Cols w cv L) (hlen : L.length ≤ 1000) :
    Calls Tryz.prog 71 #[tabV ⟨nm, rws, cv, L⟩] w fun e w' => ∃ v, e = .returned v ∧ Vals w' v (L.map zeroV) ∧ Rb w w' := by
  obtain ⟨ao, cap, rfl, h1, h2⟩ := Row3.form h
  have hr : Rb w (w.alloc (.cells #[.string nm, .int .i64 rws, .slice ao L.length cap] 69)) := (Below.refl _ w).alloc (Nat.le_refl _) _
  have hfalse : ∀ w1 w2, Fr (fun _ => False) w1 w2 → Rb w1 w2 := fun w1 w2 hf => hf.rb fun k hk => hk.elim
  have hcl := rowofZ_any nm rws (.slice ao L.length cap) L (w.alloc (.cells #[.string nm, .int .i64 rws, .slice ao L.length cap] 69)) (fun _ => False) (fun _ _ => True) (fun _ => True) (fun k => zeroV (L.getD k ⟨⟨#[]⟩, 0, 0⟩)) (fun _ => true) hlen
    (fun w' hf => Row3.rb h (Rb.trans _ _ _ hr (hfalse _ _ hf))) (fun k hk => hk.elim) trivial (fun _ _ _ _ _ _ => trivial) (fun _ _ _ _ => trivial)
    (fun k hk w1 _ _ => by
      rw [List.getD_eq_getElem?_getD, List.getElem?_eq_getElem hk, Option.getD_some]
      exact (zero1_any L[k].kind L[k].max w1).mono fun e w2 ⟨he, hb⟩ => ⟨he, Fr.of_rb hb, fun _ => trivial, trivial⟩)
  have HR := Lib.hid hr
  have HX := Lib.hid (range_map_zero L (fun k => zeroV (L.getD k ⟨⟨#[]⟩, 0, 0⟩)) fun k hk => by rw [List.getD_eq_getElem?_getD, List.getElem?_eq_getElem hk, Option.getD_some])
  have HFA := Lib.hid hfalse
  clear h hr h1 h2 hfalse
  go_enter Tryz.func71, Tryz.ntmps71
  go_wp2_with fail
  refine hcl.mono ?_
  rintro e w2 ⟨hf, ⟨v, -, rfl, hv, -⟩ | ⟨⟨k, _, hk⟩, _, _⟩⟩
  · have HB2 := Lib.hid (Rb.trans _ _ _ HR.out (HFA.out _ _ hf))
    have HV := Lib.hid hv.vals
    rw [HX.out] at HV
    obtain ⟨ao2, cap2, e2, _, _⟩ := Row3.form HV.out
    rw [List.length_map] at e2
    subst e2
    clear hf hv hcl
    go_wp2
    go_ret
    exact ⟨_, rfl, HV.out, HB2.out⟩
  · cases hk

set_option maxRecDepth 100000 in
set_option maxHeartbeats 2000000 in
theorem refzero_row (nm : ByteArray) (rws : Int) (cv : Value) (L : List ColD) (w : World) (h : Cols w cv L) (hlen : L.length ≤ 1000) :
    Calls Tryz.prog 31 #[tabV ⟨nm, rws, cv, L⟩] w fun e w' => ∃ v, e = .returned v ∧ Vals w' v (L.map zeroV) ∧ Rb w w' := by
  obtain ⟨ao, cap, rfl, h1, h2, hr⟩ := h
  have HR := Lib.hid hr
  have HB0 := Lib.hid (show Rb w (w.alloc (.cells #[.string nm, .int .i64 rws, .slice ao L.length cap] 69)) from (Below.refl _ w).alloc (Nat.le_refl _) _)
  obtain ⟨i0, hi0, hz0, hz1, hz2⟩ := info_parts infoV3
  have Hi := Lib.hid hi0
  have Hz := Lib.hid hz0
  have Hz1 := Lib.hid hz1
  have Hz2 := Lib.hid hz2
  clear hr h1 h2 hi0 hz0 hz1 hz2
  go_enter Tryz.func31, Tryz.ntmps31
  go_wp2
  go_loopw [3, 9] (fun p i wr => ∃ k : Nat, k ≤ L.length ∧ i = .int .i64 k ∧ wr.ownsRow w.heap.size 60 3 p k (flat3 ((L.map zeroV).take k)) ∧ Rb w wr) (fun _ i _ => L.length - (intOf i).toNat)
  case atStart => exact ⟨0, Nat.zero_le _, rfl, World.ownsRow_nil _ _ _ _, HB0.out⟩
  case round =>
    obtain ⟨k, hk, rfl, ho, hb⟩ := hrel
    have HO := Lib.hid ho
    have HB := Lib.hid hb
    clear ho
    by_cases hlt : k < L.length
    · obtain ⟨b, o, rfl, hc⟩ := HR.out (by omega)
      obtain ⟨z0, z1, z2⟩ := hc k hlt
      have y0 := cell_rb hb z0
      have y1 := cell_rb hb z1
      have y2 := cell_rb hb z2
      obtain ⟨c, hcx⟩ : ∃ c, c = L[k] := ⟨_, rfl⟩
      rw [← hcx] at y0 y1 y2
      have hcl := fun w => refzero_any c.kind c.max w
      have hfl : flat3 ((L.map zeroV).take k) ++ cells3 (zeroV c) = flat3 ((L.map zeroV).take (k + 1)) := by
        rw [List.take_succ_eq_append_getElem (by rw [List.length_map]; exact hlt), flat3_append, List.getElem_map, ← hcx]
        simp [flat3]
      clear z0 z1 z2 hc hcx hb
      obtain ⟨cn, ck, cm⟩ := c
      have hzc : zeroV ⟨cn, ck, cm⟩ = ⟨if rightTypeB ck cm = true then ck else 0, 0, ⟨#[]⟩⟩ := rfl
      rw [hzc] at hfl
      dsimp only at y0 y1 y2 hcl
      clear hzc
      generalize (if rightTypeB ck cm = true then ck else 0) = kk at hcl hfl
      have HFL := Lib.hid hfl
      clear hfl
      go_wp2_with (refine wpList_store rfl 88 _ _ rfl wr.heap.size 0 _ _ [_, _, _] _ rfl rfl (Blk.new wr 88 [_, _, _]) rfl sizeC (by simp) (oneC _ _ _) ?_)
      intro w1 hb1 hw1
      have hr1 := hw1.rb_new
      have HR1 := Lib.hid (Rb.trans _ _ _ HB.out hr1)
      obtain ⟨x0, x1, x2⟩ := hb1.c3
      have HO1 := Lib.hid (owns_below HO.out hr1)
      clear hb1 hw1 y0 y1 y2 hr1
      go_wp2_with fail
      refine (hcl _).mono ?_
      rintro e w2 ⟨rfl, hb2⟩
      have HB2 := Lib.hid (Rb.trans _ _ _ HR1.out hb2)
      have HO2 := Lib.hid (owns_below HO1.out hb2)
      have HO4 := Lib.hid (World.ownsRow.alloc HO2.out (.cells #[.int .i64 kk, .int .i64 0, .string ⟨#[]⟩] 60))
      have HB4 := Lib.hid (Below.alloc HB2.out HB2.out.size (.cells #[.int .i64 kk, .int .i64 0, .string ⟨#[]⟩] 60))
      clear hb2 hcl x0 x1 x2
      go_wp2_with (at_builtin; (refine wpList_append_own _ rfl _ _ 32 rfl w.heap.size 60 i0 (.agg #[.int .i64 0, .int .i64 0, .string ⟨#[]⟩]) 3 32 Tryz.underlying32 Hi.out Hz.out Hz1.out Hz2.out rfl (by decide) _ k _ rfl HO4.out ⟨w2.heap.size, 0, none⟩ 1 1 (cells3 ⟨kk, 0, ⟨#[]⟩⟩) rfl rfl (cells_new _ _ _ (by simp [maxLen])) (cells3_one _) (by unfold maxLen; omega) (by omega) (HB4.out.size) ?_))
      intro v' w4 ho hg hnil
      rw [HFL.out] at ho
      obtain ⟨g', cap', rfl⟩ := owns_form ho (by omega)
      have HO5 := Lib.hid ho
      have HB5 := Lib.hid (HB4.out.grown hg HB4.out.size (fun b hb => (HO4.out.lt b hb).1))
      clear ho hg hnil
      go_wp2
      go_roundw
      case rel => exact ⟨k + 1, by omega, by go_num, HO5.out, HB5.out⟩
      case measure => simp [intOf]; omega
    · have hkl : k = L.length := by omega
      have HKL := Lib.hid hkl
      have h := HO.out
      rw [List.take_of_length_le (by rw [List.length_map]; omega)] at h
      have HV := Lib.hid (VRow.of h (by rw [List.length_map]; exact hkl)).vals
      clear h
      clear hkl hb
      go_wp2
      go_ret
      exact ⟨_, rfl, HV.out, HB.out⟩
end Go.Proofs.YtjfpeklfgnajoaaGreat.L6

namespace Go.Proofs.YtjfpeklfgnajoaaGreat.L6
open Go.ChangeShapes Go.WideShapes Go.ChangeAt Go.RowKit Oct By Reg Val
set_option linter.unusedVariables false
set_option linter.unusedSimpArgs false

/-- a table's block -/
def HeldTab (w : World) (B : Nat) (nm : ByteArray) (r : Int) (ao : Option Addr) (n c : Nat) : Prop :=
  w.cell? ⟨B, 0, none⟩ = some (.string nm) ∧ w.cell? ⟨B, 1, none⟩ = some (.int .i64 r) ∧ w.cell? ⟨B, 2, none⟩ = some (.slice ao n c)
theorem HeldTab.rb {w w' : World} {B : Nat} {nm : ByteArray} {r : Int} {ao : Option Addr} {n c : Nat} (h : HeldTab w B nm r ao n c) (hb : Rb w w') : HeldTab w' B nm r ao n c :=
  ⟨cell_rb hb h.1, cell_rb hb h.2.1, cell_rb hb h.2.2⟩
theorem HeldTab.load {w : World} {B : Nat} {nm : ByteArray} {r : Int} {ao : Option Addr} {n c : Nat} (h : HeldTab w B nm r ao n c) : (Instr.loadAt 69 (.pointer (some ⟨B, 0, none⟩))).run Tryz.prog w = .ok (.agg #[.string nm, .int .i64 r, .slice ao n c]) w := by
  obtain ⟨h0, h1, h2⟩ := h
  simp [Instr.loadAt, go_sem, h0, h1, h2]

/-- a value that reads as a row -/
def rowSpec (X : List ValD) : Reg.Spec Rb := ⟨fun w v => Vals w v X, fun _ _ _ h k => Row3.rb k h⟩
theorem row_call {P : Program} {f : FuncId} {vs : Array Value} {w : World} {X : List ValD} (h : Calls P f vs w fun e w' => ∃ v, e = .returned v ∧ Vals w' v X ∧ Rb w w') : Calls P f vs w fun e w'' => ∃ v, e = .returned v ∧ Rb w w'' ∧ (rowSpec X).V w'' v :=
  h.mono fun _ _ ⟨v, he, hv, hb⟩ => ⟨v, he, hb, hv⟩
theorem rb_call {P : Program} {f : FuncId} {vs : Array Value} {w : World} {v : Value} (h : Calls P f vs w fun e w' => e = .returned v ∧ Rb w w') : Calls P f vs w fun e w'' => ∃ u, e = .returned u ∧ Rb w w'' ∧ (Spec.eq (R := Rb) v).V w'' u :=
  h.mono fun _ _ ⟨he, hb⟩ => ⟨_, he, hb, rfl⟩
theorem eqS_refl (a : ByteArray) : eqS a a = true := eqS_iff.2 rfl
theorem sameL_refl {α : Type} {eq : α → α → Bool} (h : ∀ a, eq a a = true) : ∀ l : List α, sameL eq l l = true
  | [] => rfl
  | a :: l => by rw [sameL, h, sameL_refl h l]; rfl
theorem sameV_refl (l : List ValD) : sameL eqVal l l = true := sameL_refl (fun a => by unfold eqVal; rw [eqS_refl]; simp) l
theorem sameC_refl (l : List ColD) : sameL eqCol l l = true := sameL_refl (fun a => by unfold eqCol; rw [eqS_refl]; simp) l
theorem sameTab_refl (t : TabD) : sameTab t t = true := by unfold sameTab; rw [eqS_refl, show sameC t.cols t.cols = true from sameC_refl _]; simp
theorem refsame_refl {w : World} {v u : Value} {X : List ValD} (h1 : Vals w v X) (h2 : Vals w u X) : Calls Tryz.prog 17 #[v, u] w fun e w' => e = .returned (.bool true) ∧ Rb w w' := by
  have := refsame_any X X v u w h1 h2
  rwa [sameV_refl] at this

section
variable {ops : Array Oper} {o : Oper} {a : Act} {w : World} {T : World → Value → Prop}
theorem ok_max (x y : Operand) (n m : Int) (ho : o.op = .call { callee := .builtin .max, args := #[x, y], argTypes := #[3, 3] }) (hw : Region.wanted o (yielded ops a.tmps) = true) (hx : a.eval x = .int .i64 n) (hy : a.eval y = .int .i64 m) (h : T w (.int .i64 (max n m))) : okAt Tryz.prog ops o a w T := by
  refine ok_value (w' := w) (v := .int .i64 (max n m)) hw ?_ h
  simp only [execOp, ho, resolve, invoke, Sem.run_bind, Sem.run_pure, Result.andThen_ok, List.map_toArray, List.map_cons, List.map_nil, hx, hy]
  simp [go_sem]
  try omega
theorem run_geq_int (t : TypeId) (x y : Operand) (k : IntKind) (n m : Int) : (binSem .geq t x y (.int k n) (.int k m)).run Tryz.prog w = .ok (.bool (decide (n ≥ m))) w := by
  simp [binSem, go_sem]
end
end Go.Proofs.YtjfpeklfgnajoaaGreat.L6

namespace Go.Proofs.YtjfpeklfgnajoaaGreat.L6
open Go.ChangeShapes Go.WideShapes Go.ChangeAt Go.RowKit By Reg Go.Deep
set_option linter.unusedVariables false

theorem choose_list {α : Type} (n : Nat) (R : Nat → α → Prop) (h : ∀ i, i < n → ∃ x, R i x) : ∃ l : List α, l.length = n ∧ ∀ i x, l[i]? = some x → R i x := by
  induction n with
  | zero => exact ⟨[], rfl, fun i x hx => by simp at hx⟩
  | succ n ih =>
    obtain ⟨l, hl, hr⟩ := ih fun i hi => h i (by omega)
    obtain ⟨y, hy⟩ := h n (by omega)
    refine ⟨l ++ [y], by simp [hl], fun i x hx => ?_⟩
    rcases Nat.lt_or_ge i l.length with hi | hi
    · rw [List.getElem?_append_left hi] at hx; exact hr i x hx
    · rw [List.getElem?_append_right hi] at hx
      have : i - l.length = 0 := by
        rcases Nat.eq_zero_or_pos (i - l.length) with h | h
        · exact h
        · rw [List.getElem?_eq_none (by simp; omega)] at hx; cases hx
      rw [this] at hx
      simp at hx
      subst hx
      have : i = n := by omega
      rw [this]; exact hy

section
variable {H : Type} {enc : TypeId × Value → H} {W : World}
theorem row3_of_trod {α : Type} {en : α → Value × Value × Value} {P : α → Prop} {T S : TypeId} (hS : Tryz.prog.underlying S = some (.slice T)) (hc : Tryz.prog.cellsOf T = 3)
    (one : ∀ fuel cs x, DataW.trod enc Tryz.prog W 0 (fun _ => true) true fuel T cs = some x → cs.length = 3 → ∃ q : α, cs = [(en q).1, (en q).2.1, (en q).2.2] ∧ P q)
    {fuel : Nat} {cs : List Value} {x : DataW H × List MemPlace} (h : DataW.trod enc Tryz.prog W 0 (fun _ => true) true fuel S cs = some x) :
    ∃ v L, cs = [v] ∧ Row3 en W v L ∧ ∀ q ∈ L, P q := by
  rcases open_slice hS h with ⟨h0, _⟩ | ⟨ad, len, cp, m, k, D, Pl, hcs, hb, hl, hm, hmm, hx, each⟩
  · exact ⟨_, [], h0, ⟨none, 0, rfl, Nat.le_refl _, Nat.zero_le _, fun h => absurd h (Nat.lt_irrefl _)⟩, fun q hq => by cases hq⟩
  · have hmn : len ≤ m := by rw [hmm]; simp; exact hl
    by_cases hn0 : len = 0
    · subst hn0
      exact ⟨_, [], hcs, ⟨_, cp, rfl, Nat.zero_le _, hm, fun h => absurd h (Nat.lt_irrefl _)⟩, fun q hq => by cases hq⟩
    obtain ⟨g0, off0, spot⟩ := ad
    have hs : spot = none := by
      obtain ⟨cs, h1, h2⟩ := each 0 (by omega)
      rw [hc] at h1
      obtain ⟨_, hlen, hcell⟩ := World.cells?_some h1
      have c0 := hcell 0 (by decide)
      rw [List.getElem?_eq_getElem (by omega)] at c0
      exact World.cell?_spot (a := ⟨g0, off0, spot⟩) c0
    subst hs
    obtain ⟨l, hll, hr⟩ := choose_list (α := α) len (fun i q => P q ∧ W.cell? ⟨g0, off0 + i * 3, none⟩ = some (en q).1 ∧ W.cell? ⟨g0, off0 + i * 3 + 1, none⟩ = some (en q).2.1 ∧ W.cell? ⟨g0, off0 + i * 3 + 2, none⟩ = some (en q).2.2) fun i hi => by
      obtain ⟨cs, h1, h2⟩ := each i (by omega)
      rw [hc] at h1
      obtain ⟨_, hlen, hcell⟩ := World.cells?_some h1
      obtain ⟨q, hq, hp⟩ := one _ _ _ h2 hlen
      subst hq
      have c0 := hcell 0 (by decide)
      have c1 := hcell 1 (by decide)
      have c2 := hcell 2 (by decide)
      rw [By.add_add] at c0 c1 c2
      simp only [Addr.add_lit] at c0 c1 c2
      exact ⟨q, hp, by simpa using c0, by rw [Nat.add_assoc]; simpa using c1, by rw [Nat.add_assoc]; simpa using c2⟩
    refine ⟨_, l, hcs, ⟨_, cp, by rw [hll], by rw [hll]; exact hl, hm, fun _ => ⟨g0, off0, rfl, fun k hk => ?_⟩⟩, fun q hq => ?_⟩
    · exact (hr k l[k] (List.getElem?_eq_getElem hk)).2
    · obtain ⟨i, hi⟩ := List.getElem?_of_mem hq
      exact (hr i q hi).1

theorem cellsV3 : Tryz.prog.cellsOf 60 = 3 := by kernel_rfl
theorem cellsC3 : Tryz.prog.cellsOf 88 = 3 := by kernel_rfl
theorem cellsT3 : Tryz.prog.cellsOf 69 = 3 := by kernel_rfl
theorem structV : ∃ f0 f1 f2 : Field, Tryz.prog.underlying 60 = some (.struct #[f0, f1, f2]) ∧ f0.offset = 0 ∧ f1.offset = 1 ∧ f2.offset = 2 ∧ f0.type = 3 ∧ f1.type = 2 ∧ f2.type = 9 :=
  ⟨_, _, _, Tryz.underlying60, rfl, rfl, rfl, rfl, rfl, rfl⟩
theorem structC : ∃ f0 f1 : Field, Tryz.prog.underlying 88 = some (.struct #[f0, f1]) ∧ f0.offset = 0 ∧ f1.offset = 1 ∧ f0.type = 9 ∧ f1.type = 86 :=
  ⟨_, _, Tryz.underlying88, rfl, rfl, rfl, rfl⟩
theorem structK : ∃ f0 f1 : Field, Tryz.prog.underlying 86 = some (.struct #[f0, f1]) ∧ f0.offset = 0 ∧ f1.offset = 1 ∧ f0.type = 3 ∧ f1.type = 3 :=
  ⟨_, _, Tryz.underlying86, rfl, rfl, rfl, rfl⟩
theorem structT : ∃ f0 f1 f2 : Field, Tryz.prog.underlying 69 = some (.struct #[f0, f1, f2]) ∧ f0.offset = 0 ∧ f1.offset = 1 ∧ f2.offset = 2 ∧ f0.type = 9 ∧ f1.type = 3 ∧ f2.type = 67 :=
  ⟨_, _, _, Tryz.underlying69, rfl, rfl, rfl, rfl, rfl, rfl⟩

set_option maxRecDepth 100000 in
theorem val_of_trod (fuel : Nat) (cs : List Value) (x : DataW H × List MemPlace) (h : DataW.trod enc Tryz.prog W 0 (fun _ => true) true fuel 60 cs = some x) (hl : cs.length = 3) :
    ∃ q : ValD, cs = [(vE q).1, (vE q).2.1, (vE q).2.2] ∧ ValOk q := by
  obtain ⟨f0, f1, f2, hu, o0, o1, o2, t0, t1, t2⟩ := structV
  obtain ⟨xs, k, hk, hxy, _, hxl, hf⟩ := DataW.trod_struct hu h
  match xs, hxl, cs, hl with
  | [y0, y1, y2], _, [v0, v1, v2], _ =>
    have g0 := hf 0 f0 rfl
    have g1 := hf 1 f1 rfl
    have g2 := hf 2 f2 rfl
    rw [o0, t0] at g0
    rw [o1, t1] at g1
    rw [o2, t2] at g2
    rw [show Tryz.prog.cellsOf 3 = 1 by kernel_rfl] at g0
    rw [show Tryz.prog.cellsOf 2 = 1 by kernel_rfl] at g1
    rw [show Tryz.prog.cellsOf 9 = 1 by kernel_rfl] at g2
    simp at g0 g1 g2
    obtain ⟨n0, e0, _, w0⟩ := DataW.trod_int Tryz.underlying3 g0
    obtain ⟨n1, e1, _, w1⟩ := DataW.trod_int Tryz.underlying2 g1
    obtain ⟨s2, e2, _, w2⟩ := DataW.trod_string Tryz.underlying9 g2
    simp at e0 e1 e2
    subst e0 e1 e2
    have b0 := wf_i64 w0
    have b1 := wf_i64 w1
    exact ⟨⟨n0, n1, s2⟩, rfl, ⟨w2, b0.1, b0.2, b1.1, b1.2⟩⟩
set_option maxRecDepth 100000 in
theorem col_of_trod (fuel : Nat) (cs : List Value) (x : DataW H × List MemPlace) (h : DataW.trod enc Tryz.prog W 0 (fun _ => true) true fuel 88 cs = some x) (hl : cs.length = 3) :
    ∃ q : ColD, cs = [(cE q).1, (cE q).2.1, (cE q).2.2] ∧ ColOk q := by
  obtain ⟨f0, f1, hu, o0, o1, t0, t1⟩ := structC
  obtain ⟨xs, k, hk, hxy, _, hxl, hf⟩ := DataW.trod_struct hu h
  match xs, hxl, cs, hl with
  | [y0, y1], _, [v0, v1, v2], _ =>
    have g0 := hf 0 f0 rfl
    have g1 := hf 1 f1 rfl
    rw [o0, t0] at g0
    rw [o1, t1] at g1
    rw [show Tryz.prog.cellsOf 9 = 1 by kernel_rfl] at g0
    rw [show Tryz.prog.cellsOf 86 = 2 by kernel_rfl] at g1
    simp at g0 g1
    obtain ⟨s0, e0, _, w0⟩ := DataW.trod_string Tryz.underlying9 g0
    obtain ⟨f2, f3, hu2, o2, o3, t2, t3⟩ := structK
    obtain ⟨xs2, k2, hk2, hxy2, _, hxl2, hf2⟩ := DataW.trod_struct hu2 g1
    match xs2, hxl2 with
    | [z0, z1], _ =>
      have g2 := hf2 0 f2 rfl
      have g3 := hf2 1 f3 rfl
      rw [o2, t2] at g2
      rw [o3, t3] at g3
      rw [show Tryz.prog.cellsOf 3 = 1 by kernel_rfl] at g2 g3
      simp at g2 g3
      obtain ⟨n0, e1, _, w1⟩ := DataW.trod_int Tryz.underlying3 g2
      obtain ⟨n1, e2, _, w2⟩ := DataW.trod_int Tryz.underlying3 g3
      simp at e0 e1 e2
      subst e0 e1 e2
      have b0 := wf_i64 w1
      have b1 := wf_i64 w2
      exact ⟨⟨s0, n0, n1⟩, rfl, ⟨w0, b0.1, b0.2, b1.1, b1.2⟩⟩
theorem cols_of_trod {fuel : Nat} {cs : List Value} {x : DataW H × List MemPlace} (h : DataW.trod enc Tryz.prog W 0 (fun _ => true) true fuel 67 cs = some x) : ∃ v L, cs = [v] ∧ Cols W v L ∧ ∀ q ∈ L, ColOk q :=
  row3_of_trod Tryz.underlying67 cellsC3 col_of_trod h
theorem vals_of_trod {fuel : Nat} {cs : List Value} {x : DataW H × List MemPlace} (h : DataW.trod enc Tryz.prog W 0 (fun _ => true) true fuel 32 cs = some x) : ∃ v L, cs = [v] ∧ Vals W v L ∧ ∀ q ∈ L, ValOk q :=
  row3_of_trod Tryz.underlying32 cellsV3 val_of_trod h
set_option maxRecDepth 100000 in
theorem tab_of_trod (fuel : Nat) (cs : List Value) (x : DataW H × List MemPlace) (h : DataW.trod enc Tryz.prog W 0 (fun _ => true) true fuel 69 cs = some x) (hl : cs.length = 3) :
    ∃ q : TabD, cs = [(tE q).1, (tE q).2.1, (tE q).2.2] ∧ (TabIn W q ∧ TabOk q) := by
  obtain ⟨f0, f1, f2, hu, o0, o1, o2, t0, t1, t2⟩ := structT
  obtain ⟨xs, k, hk, hxy, _, hxl, hf⟩ := DataW.trod_struct hu h
  match xs, hxl, cs, hl with
  | [y0, y1, y2], _, [v0, v1, v2], _ =>
    have g0 := hf 0 f0 rfl
    have g1 := hf 1 f1 rfl
    have g2 := hf 2 f2 rfl
    rw [o0, t0] at g0
    rw [o1, t1] at g1
    rw [o2, t2] at g2
    rw [show Tryz.prog.cellsOf 9 = 1 by kernel_rfl] at g0
    rw [show Tryz.prog.cellsOf 3 = 1 by kernel_rfl] at g1
    rw [show Tryz.prog.cellsOf 67 = 1 by kernel_rfl] at g2
    simp at g0 g1 g2
    obtain ⟨s0, e0, _, w0⟩ := DataW.trod_string Tryz.underlying9 g0
    obtain ⟨n1, e1, _, w1⟩ := DataW.trod_int Tryz.underlying3 g1
    obtain ⟨v, L, e2, hc, hok⟩ := cols_of_trod g2
    simp at e0 e1 e2
    subst e0 e1 e2
    have b1 := wf_i64 w1
    exact ⟨⟨s0, n1, v2, L⟩, rfl, hc, ⟨w0, b1.1, b1.2, hok⟩⟩
theorem tabs_of_trod {fuel : Nat} {cs : List Value} {x : DataW H × List MemPlace} (h : DataW.trod enc Tryz.prog W 0 (fun _ => true) true fuel 22 cs = some x) : ∃ v L, cs = [v] ∧ Tabs W v L ∧ ∀ q ∈ L, TabOk q := by
  obtain ⟨v, L, e, hr, hp⟩ := row3_of_trod (en := tE) (P := fun q => TabIn W q ∧ TabOk q) Tryz.underlying22 cellsT3 tab_of_trod h
  exact ⟨v, L, e, ⟨hr, fun t ht => (hp t ht).1⟩, fun t ht => (hp t ht).2⟩
end
end Go.Proofs.YtjfpeklfgnajoaaGreat.L6

namespace Go.Proofs.YtjfpeklfgnajoaaGreat.L6
open Go.ChangeShapes Go.WideShapes Go.ChangeAt Go.RowKit Oct By Reg Val
set_option linter.unusedVariables false
set_option linter.unusedSimpArgs false

def zipAll {α β : Type} (p : α → β → Bool) : List α → List β → Bool
  | [], [] => true
  | a :: r, b :: s => p a b && zipAll p r s
  | _, _ => false
theorem zipAll_len {α β : Type} {p : α → β → Bool} : ∀ {a : List α} {b : List β}, a.length ≠ b.length → zipAll p a b = false
  | [], [], h => absurd rfl h
  | [], _ :: _, _ => rfl
  | _ :: _, [], _ => rfl
  | x :: r, y :: s, h => by
    rw [zipAll, zipAll_len (by simpa using h), Bool.and_false]
theorem zipAll_iff {α β : Type} {p : α → β → Bool} : ∀ {a : List α} {b : List β}, a.length = b.length → (zipAll p a b = true ↔ ∀ k (h1 : k < a.length) (h2 : k < b.length), p a[k] b[k] = true)
  | [], [], h => by simp [zipAll]
  | [], _ :: _, h => by simp at h
  | _ :: _, [], h => by simp at h
  | x :: r, y :: s, h => by
    rw [zipAll, Bool.and_eq_true, zipAll_iff (by simpa using h)]
    refine ⟨fun ⟨h1, h2⟩ k hk1 hk2 => ?_, fun hh => ⟨hh 0 (by simp) (by simp), fun k h1 h2 => hh (k + 1) (by simp; omega) (by simp; omega)⟩⟩
    cases k with
    | zero => exact h1
    | succ k => exact h2 k (by simpa using hk1) (by simpa using hk2)
theorem zipAll_drop {α β : Type} {p : α → β → Bool} {a : List α} {b : List β} {k : Nat} {x : α} {y : β} {r : Bool} (ha : k < a.length) (hb : k < b.length) (hx : x = a[k]) (hy : y = b[k]) (h : r = zipAll p (a.drop k) (b.drop k)) :
    (p x y = false → r = false) ∧ (p x y = true → r = zipAll p (a.drop (k + 1)) (b.drop (k + 1))) := by
  rw [List.drop_eq_getElem_cons ha, List.drop_eq_getElem_cons hb, ← hx, ← hy, zipAll] at h
  refine ⟨fun hp => ?_, fun hp => ?_⟩
  · rw [h, hp]; rfl
  · rw [h, hp]; rfl
theorem zipAll_end {α β : Type} {p : α → β → Bool} {a : List α} {b : List β} {k : Nat} {r : Bool} (ha : a.length ≤ k) (hb : b.length ≤ k) (h : r = zipAll p (a.drop k) (b.drop k)) : r = true := by
  rw [List.drop_eq_nil_of_le ha, List.drop_eq_nil_of_le hb] at h
  exact h

def fitsV (c : ColD) (v : ValD) : Bool := fitsB v.k v.n v.s.data.toList c.kind c.max
abbrev fitsRow (L : List ColD) (R : List ValD) : Bool := zipAll fitsV L R

set_option maxRecDepth 100000 in
set_option maxHeartbeats 4000000 in
theorem everyF_any (R : List ValD) (v : Value) (w : World) (Bt : Nat) (F : Nat → Prop) (I : Nat → World → Prop) (p : Nat → Bool)
    (hv : ∀ w', Fr F w w' → Vals w' v R) (hI0 : I 0 w)
    (hI : ∀ k w1 w2, I k w1 → Rb w1 w2 → I k w2)
    (hcall : ∀ k (hk : k < R.length) w1, Fr F w w1 → I k w1 → Calls Tryz.prog 84 #[.int .i64 (k : Int), .agg #[.int .i64 R[k].k, .int .i64 R[k].n, .string R[k].s], .pointer (some ⟨Bt, 0, none⟩)] w1 fun e w2 => e = .returned (.bool (p k)) ∧ Fr F w1 w2 ∧ (p k = true → I (k + 1) w2)) :
    Calls Tryz.prog 83 #[v, .func (.func 84) #[] #[.pointer (some ⟨Bt, 0, none⟩)]] w fun e w' => Fr F w w' ∧
      (((∀ k, k < R.length → p k = true) ∧ e = .returned (.bool true) ∧ I R.length w') ∨ ((∃ k, k < R.length ∧ p k = false) ∧ e = .returned (.bool false))) := by
  have hc0 := hv w (Fr.refl F w)
  obtain ⟨ao, cap, rfl, h1, h2, hr0⟩ := hc0
  have HCV := Lib.hid hv
  have HI := Lib.hid hI
  have HCL := Lib.hid hcall
  have HI0 := Lib.hid hI0
  unfold maxLen at h2
  have h9 : R.length ≤ 9223372036854775807 := by omega
  clear hv hI hcall hI0 hr0
  go_enter Tryz.func83, Tryz.ntmps83
  go_wp2
  go_loopw [9] (fun i wr => ∃ k : Nat, k ≤ R.length ∧ i = .int .i64 k ∧ Hid (∀ j, j < k → p j = true) ∧ Hid (I k wr) ∧ Fr F w wr) (fun i _ => R.length - (intOf i).toNat)
  case atStart => exact ⟨0, Nat.zero_le _, rfl, fun j hj => absurd hj (Nat.not_lt_zero _), HI0, Fr.refl _ _⟩
  case round =>
    obtain ⟨k, hk, rfl, hall, hIk, hf⟩ := hrel
    have HFR := Lib.hid hf
    have hsz := hf.size
    by_cases hlt : k < R.length
    · have hck := HCV.out wr hf
      obtain ⟨ao', cap', ee, _, _, hr⟩ := hck
      simp only [Value.slice.injEq] at ee
      obtain ⟨rfl, -, rfl⟩ := ee
      obtain ⟨b, o, rfl, hc⟩ := hr (by omega)
      obtain ⟨y0, y1, y2⟩ := hc k hlt
      have hcl := HCL.out k hlt
      obtain ⟨c, hcx⟩ : ∃ c, c = R[k] := ⟨_, rfl⟩
      rw [← hcx] at y0 y1 y2 hcl
      clear hc hr hcx hf
      obtain ⟨vk, vn, vs⟩ := c
      dsimp only at y0 y1 y2 hcl
      go_wp2_with (refine wpList_store rfl 60 _ _ rfl wr.heap.size 0 _ _ [_, _, _] _ rfl rfl (Blk.new wr 60 [_, _, _]) rfl sizeV (by simp) (oneV _ _ _) ?_)
      intro w1 hb1 hw1
      have hr1 := hw1.rb_new
      obtain ⟨x0, x1, x2⟩ := hb1.c3
      have hI1 := HI.out k wr w1 hIk.out hr1
      have hcl1 := hcl w1 (HFR.out.then_rb hr1) hI1
      have HR1 := Lib.hid hr1
      clear hb1 hw1 y0 y1 y2 hr1 hI1 hcl
      obtain ⟨kk, hkk⟩ : ∃ kk, kk = p k := ⟨_, rfl⟩
      rw [← hkk] at hcl1
      have HKK := Lib.hid hkk
      clear hkk
      go_wp2_with fail
      refine hcl1.mono ?_
      rintro e w2 ⟨rfl, hf2, hI2⟩
      have HFR2 := Lib.hid ((HFR.out.then_rb HR1.out).trans hf2 (fun g hg => .inl hg))
      have HI2 := Lib.hid hI2
      clear hf2 hI2 hcl1 x0 x1 x2
      cases kk with
      | false =>
        have HE : Hid (∃ k, k < R.length ∧ p k = false) := ⟨k, hlt, HKK.out.symm⟩
        go_wp2
        go_ret
        exact ⟨HFR2.out, .inr ⟨HE.out, rfl⟩⟩
      | true =>
        have HI4 : Hid (I (k + 1) w2) := HI2.out (by trivial)
        have HALL : Hid (∀ j, j < k + 1 → p j = true) := fun j hj => by
          by_cases hjk : j < k
          · exact hall.out j hjk
          · rw [show j = k by omega]; exact HKK.out.symm
        go_wp2
        go_roundw
        case rel => exact ⟨k + 1, by omega, by go_num, HALL, HI4, HFR2.out⟩
        case measure => simp [intOf]; omega
    · have hkl : k = R.length := by omega
      have HKL := Lib.hid hkl
      have HV : Hid (∀ j, j < R.length → p j = true) := by rw [← HKL.out]; exact hall
      have HIK : Hid (I R.length wr) := by rw [← HKL.out]; exact hIk
      clear hf hkl hall hIk
      go_wp2
      go_ret
      exact ⟨HFR.out, .inl ⟨HV.out, rfl, HIK.out⟩⟩

set_option maxRecDepth 100000 in
set_option maxHeartbeats 2000000 in
theorem fits1_any (k : Nat) (v : ValD) (Bt : Nat) (cv : Value) (L : List ColD) (w : World) (hb : w.cell? ⟨Bt, 2, none⟩ = some cv) (hc : Cols w cv L) (hk : k < L.length) (hok : ValOk v) :
    Calls Tryz.prog 84 #[.int .i64 (k : Int), .agg #[.int .i64 v.k, .int .i64 v.n, .string v.s], .pointer (some ⟨Bt, 0, none⟩)] w fun e w' => e = .returned (.bool (fitsV L[k] v)) ∧ Rb w w' := by
  obtain ⟨ao, cap, rfl, h1, h2, hr⟩ := hc
  obtain ⟨b, o, rfl, hcell⟩ := hr (by omega)
  obtain ⟨z0, z1, z2⟩ := hcell k hk
  obtain ⟨c, hcx⟩ : ∃ c, c = L[k] := ⟨_, rfl⟩
  rw [← hcx] at z0 z1 z2 ⊢
  unfold fitsV
  unfold maxLen at h2
  obtain ⟨cn, ck, cm⟩ := c
  obtain ⟨vk, vn, vs⟩ := v
  dsimp only at z0 z1 z2 ⊢
  have hcl := fun w => fits_any vk vn vs ck cm w hok.s
  generalize fitsB vk vn vs.data.toList ck cm = fb at *
  obtain ⟨w1, hw1⟩ : ∃ w1, w1 = w.alloc (.cells #[.int .i64 vk, .int .i64 vn, .string vs] 60) := ⟨_, rfl⟩
  have hr1 : Rb w w1 := by rw [hw1]; exact (Below.refl _ w).alloc (Nat.le_refl _) _
  have x0 : w1.cell? ⟨w.heap.size, 0, none⟩ = some (.int .i64 vk) := by rw [hw1]; simp
  have x1 : w1.cell? ⟨w.heap.size, 1, none⟩ = some (.int .i64 vn) := by rw [hw1]; simp
  have x2 : w1.cell? ⟨w.heap.size, 2, none⟩ = some (.string vs) := by rw [hw1]; simp
  have y1 := cell_rb hr1 z1
  have y2 := cell_rb hr1 z2
  have t2 := cell_rb hr1 hb
  have hki : (k : Int) < (L.length : Int) := by omega
  have HR1 := Lib.hid hr1
  have HW1 := Lib.hid hw1
  clear hb hr hcell z0 z1 z2 hcx hok hr1 hw1 hk
  have mixed : Tryz.prog.follows Departure.mixedOrders = true := by kernel_rfl
  go_enter Tryz.func84, Tryz.ntmps84
  go_upto_region 1 with (fail)
  rw [← HW1.out]
  go_region_with (go_at_call 70; refine (hcl _).mono ?_; rintro e w2 ⟨rfl, hb2⟩)
  all_goals
    have HB2 := Lib.hid (Rb.trans _ _ _ HR1.out (Rb.trans _ _ _ (Rb.drew w1) hb2))
    clear hb2 hcl x0 x1 x2 y1 y2 t2
    go_wp2
    go_ret
    exact ⟨rfl, HB2.out⟩

theorem all_of_range {L : List ColD} {R : List ValD} (hl : L.length = R.length) {b : Bool} (h : (b = true ∧ ∀ k, k < R.length → fitsV (L.getD k ⟨⟨#[]⟩, 0, 0⟩) (R.getD k ⟨0, 0, ⟨#[]⟩⟩) = true) ∨ (b = false ∧ ∃ k, k < R.length ∧ fitsV (L.getD k ⟨⟨#[]⟩, 0, 0⟩) (R.getD k ⟨0, 0, ⟨#[]⟩⟩) = false)) : b = fitsRow L R := by
  have hz := zipAll_iff (p := fitsV) hl
  rcases h with ⟨rfl, h⟩ | ⟨rfl, k, hk, h⟩
  · refine (hz.2 fun k h1 h2 => ?_).symm
    have := h k h2
    rwa [List.getD_eq_getElem?_getD, List.getElem?_eq_getElem h1, List.getD_eq_getElem?_getD, List.getElem?_eq_getElem h2] at this
  · rw [eq_comm, Bool.eq_false_iff]
    intro ht
    have := hz.1 ht k (by omega) hk
    rw [List.getD_eq_getElem?_getD, List.getElem?_eq_getElem (by omega), List.getD_eq_getElem?_getD, List.getElem?_eq_getElem hk] at h
    simp only [Option.getD_some] at h
    rw [h] at this
    cases this

set_option maxRecDepth 100000 in
set_option maxHeartbeats 2000000 in
theorem fitsrow_any (nm : ByteArray) (rws : Int) (cv : Value) (L : List ColD) (R : List ValD) (v : Value) (w : World) (h : Cols w cv L) (hv : Vals w v R) (hok : ∀ q ∈ R, ValOk q) :
    Calls Tryz.prog 44 #[tabV ⟨nm, rws, cv, L⟩, v] w fun e w' => e = .returned (.bool (fitsRow L R)) ∧ Rb w w' := by
  obtain ⟨ao, cap, rfl, h1, h2⟩ := Row3.form h
  obtain ⟨bo, cap2, rfl, h3, h4⟩ := Row3.form hv
  have hr : Rb w (w.alloc (.cells #[.string nm, .int .i64 rws, .slice ao L.length cap] 69)) := (Below.refl _ w).alloc (Nat.le_refl _) _
  have HR := Lib.hid hr
  unfold maxLen at h2 h4
  have hmf : ∀ (fn : Fn) (first cap : Array Value) (w : World), (Instr.makeFunc fn first cap).run Tryz.prog w = .ok (.func fn first cap) w := fun _ _ _ _ => rfl
  by_cases hl : L.length = R.length
  · have hfalse : ∀ w1 w2, Fr (fun _ => False) w1 w2 → Rb w1 w2 := fun w1 w2 hf => hf.rb fun k hk => hk.elim
    have x2 : (w.alloc (.cells #[.string nm, .int .i64 rws, .slice ao L.length cap] 69)).cell? ⟨w.heap.size, 2, none⟩ = some (.slice ao L.length cap) := by simp
    have hcl := everyF_any R (.slice bo R.length cap2) (w.alloc (.cells #[.string nm, .int .i64 rws, .slice ao L.length cap] 69)) w.heap.size (fun _ => False) (fun _ _ => True) (fun k => fitsV (L.getD k ⟨⟨#[]⟩, 0, 0⟩) (R.getD k ⟨0, 0, ⟨#[]⟩⟩))
      (fun w' hf => Row3.rb hv (Rb.trans _ _ _ hr (hfalse _ _ hf))) trivial (fun _ _ _ _ _ => trivial)
      (fun k hk w1 hf _ => by
        have hw := hfalse _ _ hf
        have hkl : k < L.length := by omega
        have := fits1_any k R[k] w.heap.size (.slice ao L.length cap) L w1 (cell_rb hw x2) (Row3.rb h (Rb.trans _ _ _ hr hw)) hkl (hok _ (List.getElem_mem hk))
        simp only [List.getD_eq_getElem?_getD, List.getElem?_eq_getElem hk, List.getElem?_eq_getElem hkl, Option.getD_some]
        exact this.mono fun e w2 ⟨he, hb⟩ => ⟨he, Fr.of_rb hb, fun _ => trivial⟩)
    have HFA := Lib.hid hfalse
    have HL := Lib.hid hl
    have HAR := Lib.hid (fun (b : Bool) => all_of_range (b := b) hl)
    rw [hl] at hcl HR ⊢
    have hbl : ((R.length : Int) == (R.length : Int)) = true := by simp
    clear h hv hr h1 h3 hfalse x2 hl hok
    go_enter Tryz.func44, Tryz.ntmps44
    go_wp2_with fail
    refine hcl.mono ?_
    rintro e w2 ⟨hf, ⟨hall, rfl, -⟩ | ⟨hex, rfl⟩⟩
    · have HP := Lib.hid (HAR.out true (.inl ⟨rfl, hall⟩))
      have HB2 := Lib.hid (Rb.trans _ _ _ HR.out (HFA.out _ _ hf))
      clear hf hall hcl
      go_wp2
      go_ret
      exact ⟨ret_bool HP.out, HB2.out⟩
    · have HP := Lib.hid (HAR.out false (.inr ⟨rfl, hex⟩))
      have HB2 := Lib.hid (Rb.trans _ _ _ HR.out (HFA.out _ _ hf))
      clear hf hex hcl
      go_wp2
      go_ret
      exact ⟨ret_bool HP.out, HB2.out⟩
  · have HP := Lib.hid (zipAll_len (p := fitsV) hl)
    have hbl : ((R.length : Int) == (L.length : Int)) = false := by rw [beq_eq_false_iff_ne]; omega
    clear h hv hr h1 h3 hl hok
    go_enter Tryz.func44, Tryz.ntmps44
    go_wp2
    go_ret
    exact ⟨ret_bool HP.out.symm, HR.out⟩

set_option maxRecDepth 100000 in
set_option maxHeartbeats 2000000 in
theorem reffitsrow_any (nm : ByteArray) (rws : Int) (cv : Value) (L : List ColD) (R : List ValD) (v : Value) (w : World) (h : Cols w cv L) (hv : Vals w v R) (hok : ∀ q ∈ R, ValOk q) :
    Calls Tryz.prog 49 #[tabV ⟨nm, rws, cv, L⟩, v] w fun e w' => e = .returned (.bool (fitsRow L R)) ∧ Rb w w' := by
  obtain ⟨ao, cap, rfl, h1, h2, hra⟩ := h
  obtain ⟨bo, cap2, rfl, h3, h4, hrb⟩ := hv
  have hr : Rb w (w.alloc (.cells #[.string nm, .int .i64 rws, .slice ao L.length cap] 69)) := (Below.refl _ w).alloc (Nat.le_refl _) _
  have HR := Lib.hid hr
  unfold maxLen at h2 h4
  by_cases hl : L.length = R.length
  · have HL := Lib.hid hl
    have HA := Lib.hid hra
    have HBB := Lib.hid hrb
    have HOK := Lib.hid hok
    rw [hl] at HR ⊢
    have ha9 : R.length ≤ 9223372036854775807 := by omega
    have mixed : Tryz.prog.follows Departure.mixedOrders = true := by kernel_rfl
    clear hl hra hrb h1 h3 hok hr
    go_enter Tryz.func49, Tryz.ntmps49
    go_upto_region 4 with (fail)
    obtain ⟨w1, hw1⟩ : ∃ w1, w1 = w.alloc (.cells #[.string nm, .int .i64 rws, .slice ao R.length cap] 69) := ⟨_, rfl⟩
    have HR1 := HR.out
    rw [← hw1] at HR1 ⊢
    have X2 := Lib.hid (show w1.cell? ⟨w.heap.size, 2, none⟩ = some (.slice ao R.length cap) by rw [hw1]; simp)
    have HR2 := Lib.hid HR1
    clear hw1 HR HR1
    generalize w.heap.size = TB at *
    go_loopw [15] (fun i wr => ∃ k : Nat, k ≤ R.length ∧ i = .int .i64 k ∧ Hid (fitsRow L R = zipAll fitsV (L.drop k) (R.drop k)) ∧ Rb w1 wr) (fun i _ => R.length - (intOf i).toNat)
    case atStart => exact ⟨0, Nat.zero_le _, rfl, rfl, Rb.refl _⟩
    case round =>
      obtain ⟨k, hk, rfl, hs, hb⟩ := hrel
      have HB := Lib.hid hb
      by_cases hlt : k < R.length
      · have hlb : k < L.length := by have := HL.out; omega
        obtain ⟨ab, aoff, rfl, hca⟩ := HA.out (by omega)
        obtain ⟨bb, boff, rfl, hcb⟩ := HBB.out (by omega)
        obtain ⟨z0, z1, z2⟩ := hca k hlb
        obtain ⟨t0, t1, t2⟩ := hcb k hlt
        have hwb := Rb.trans _ _ _ HR2.out hb
        have y1 := cell_rb hwb z1
        have y2 := cell_rb hwb z2
        have u0 := cell_rb hwb t0
        have u1 := cell_rb hwb t1
        have u2 := cell_rb hwb t2
        have v2 := cell_rb hb X2.out
        obtain ⟨c, hx⟩ : ∃ x, x = L[k] := ⟨_, rfl⟩
        obtain ⟨q, hy⟩ : ∃ y, y = R[k] := ⟨_, rfl⟩
        rw [← hx] at y1 y2
        rw [← hy] at u0 u1 u2
        obtain ⟨p1, p2⟩ := zipAll_drop hlb hlt hx hy hs.out
        have P1 := Lib.hid p1
        have P2 := Lib.hid p2
        have hqs := (HOK.out q (by rw [hy]; exact List.getElem_mem hlt)).s
        have hkl : (k : Int) < (R.length : Int) := by omega
        clear z0 z1 z2 t0 t1 t2 hca hcb p1 p2 hs hx hy hb hwb
        unfold fitsV at P1 P2
        obtain ⟨cn, ck, cm⟩ := c
        obtain ⟨qk, qn, qs⟩ := q
        dsimp only at y1 y2 u0 u1 u2 P1 P2 hqs
        have hcl := fun w => reffits_any qk qn qs ck cm w hqs
        generalize fitsB qk qn qs.data.toList ck cm = fb at *
        go_wp2_with (refine wpList_store rfl 60 _ _ rfl wr.heap.size 0 _ _ [_, _, _] _ rfl rfl (Blk.new wr 60 [_, _, _]) rfl sizeV (by simp) (oneV _ _ _) ?_)
        intro w3 hb3 hw3
        have hr3 := hw3.rb_new
        have HB3 := Lib.hid (Rb.trans _ _ _ HB.out hr3)
        obtain ⟨q0, q1, q2⟩ := hb3.c3
        have k1 := cell_rb hr3 y1
        have k2 := cell_rb hr3 y2
        have k3 := cell_rb hr3 v2
        clear hb3 hw3 hr3 y1 y2 u0 u1 u2 v2
        go_upto_region 6 with (fail)
        go_cut [28] from 20 (fun p wx => p = .bool (!fb) ∧ Rb w3 wx)
        · rename_i J K' hJ hK
          go_region_with (go_at_call 87; refine (hcl _).mono ?_; rintro e w4 ⟨rfl, hb4⟩)
          all_goals
            go_wp2_with fail
            go_meet
            exact ⟨rfl, Rb.trans _ _ _ (Rb.drew w3) hb4⟩
        obtain ⟨rfl, hr4⟩ := hcut
        generalize wc = w4 at *
        have HB4 := Lib.hid (Rb.trans _ _ _ HB3.out hr4)
        clear hr4 hcl q0 q1 q2 k1 k2 k3
        cases fb with
        | false =>
          have HP := Lib.hid (P1.out rfl)
          go_wp2
          go_ret
          exact ⟨ret_bool HP.out.symm, Rb.trans _ _ _ HR2.out HB4.out⟩
        | true =>
          have HP := Lib.hid (P2.out rfl)
          go_wp2
          go_roundw
          case rel => exact ⟨k + 1, by omega, by go_num, HP.out, HB4.out⟩
          case measure => simp [intOf]; omega
      · have HP := Lib.hid (zipAll_end (by have := HL.out; omega) (by omega) hs.out)
        clear hs hb
        go_wp2
        go_ret
        exact ⟨ret_bool HP.out.symm, Rb.trans _ _ _ HR2.out HB.out⟩
  · have HP := Lib.hid (zipAll_len (p := fitsV) hl)
    have hbl : ((R.length : Int) == (L.length : Int)) = false := by rw [beq_eq_false_iff_ne]; omega
    clear hl hra hrb h1 h3 hok hr
    go_enter Tryz.func49, Tryz.ntmps49
    go_wp2
    go_ret
    exact ⟨ret_bool HP.out.symm, HR.out⟩
end Go.Proofs.YtjfpeklfgnajoaaGreat.L6
