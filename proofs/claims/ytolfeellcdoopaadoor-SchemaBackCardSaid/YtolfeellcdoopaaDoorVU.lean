/-
  Layer 2: Get.
-/
import Derived.Test.YtolfeellcdoopaaDoorVS
import Derived.Test.YtolfeellcdoopaaDoorVO
import Derived.Deep.DeepCutAuto
namespace Go.Proofs.YtolfeellcdoopaaDoor
open Go.ChangeShapes Go.WideShapes Go.ChangeAt Go.RowKit Oct By Reg Val

def getV (xs : List UInt8) (i : Int) : Option (Int × Int × List UInt8 × Nat) :=
  if 0 ≤ i ∧ i < xs.length then
    (match candV xs (i + 1) (bt xs i.toNat) with
      | none => none
      | some (n, s, c) => if rightB (bt xs i.toNat) n s = true then some ((bt xs i.toNat : Int), n, s, c + 1) else none)
  else none
def tupV (r : Option (Int × Int × List UInt8 × Nat)) (i : Int) : Value := match r with
  | none => .tuple #[vv 0 0 ⟨#[]⟩, .int .i64 0, .bool false]
  | some (k, n, s, c) => .tuple #[vv k n (str s), .int .i64 (i + c), .bool true]
theorem gt_len {xs s : List UInt8} {i m : Int} {k : Nat} (h : gt xs i m = some (s, k)) : s.length ≤ xs.length := by
  unfold gt at h
  split at h
  · cases h
  · split at h
    · cases h; rw [List.length_take, List.length_drop]; omega
    · cases h
theorem cand_len {xs s : List UInt8} {i b n : Int} {c : Nat} (h : candV xs i b = some (n, s, c)) : s.length ≤ xs.length := by
  unfold candV at h
  split at h
  · split at h
    · cases h
    · cases h; simp
  · split at h
    · split at h
      · cases h; simp
      · cases h
    · split at h
      · split at h
        · cases h
        · rename_i hg; cases h; exact gt_len hg
      · cases h

theorem sc_o {w : World} {a b : Addr} {v : Value} (h : a ≠ b) : (w.setCell a v).cell? b = w.cell? b := by
  first | exact World.cell?_setCell_other _ _ _ _ h | exact World.cell?_setCell_other _ _ _ h | exact World.cell?_setCell_other _ _ h | exact World.cell?_setCell_other _ h | exact World.cell?_setCell_other h
theorem sc_s {w : World} {a : Addr} {v u : Value} (h : w.cell? a = some u) : (w.setCell a v).cell? a = some v := by
  first | exact World.cell?_setCell_same _ _ _ h | exact World.cell?_setCell_same _ _ h | exact World.cell?_setCell_same _ h | exact World.cell?_setCell_same h
theorem ne_off {B i j : Nat} (h : i ≠ j) : (⟨B, i, none⟩ : Addr) ≠ ⟨B, j, none⟩ := fun e => h (by injection e)
theorem set3_held {w : World} {B : Nat} {k0 n0 : Int} {s0 : ByteArray} (h : HeldV w B k0 n0 s0) (k n : Int) (s : ByteArray) :
    HeldV (((w.setCell ⟨B, 0, none⟩ (.int .i64 k)).setCell ⟨B, 1, none⟩ (.int .i64 n)).setCell ⟨B, 2, none⟩ (.string s)) B k n s := by
  obtain ⟨h0, h1, h2⟩ := h
  refine ⟨?_, ?_, ?_⟩
  · rw [sc_o (ne_off (by decide)), sc_o (ne_off (by decide))]; exact sc_s h0
  · rw [sc_o (ne_off (by decide))]; exact sc_s (by rw [sc_o (ne_off (by decide))]; exact h1)
  · exact sc_s (by rw [sc_o (ne_off (by decide)), sc_o (ne_off (by decide))]; exact h2)
theorem fz_keep {w w1 : World} {B o : Nat} {cs : Array Value} {T : TypeId} (hb : Below (w.alloc (.cells cs T)).heap.size (w.alloc (.cells cs T)) w1) (hB : B = w.heap.size := by rfl) : w1.frozen? ⟨B, o, none⟩ = false := by
  subst hB
  rw [Below.frozen hb (p := ⟨w.heap.size, o, none⟩) (by simp)]
  simp
theorem fz_rb {w w1 : World} {B o : Nat} {v : Value} (hb : Below w.heap.size w w1) (h : w.cell? ⟨B, 0, none⟩ = some v) (hf : w.frozen? ⟨B, o, none⟩ = false) : w1.frozen? ⟨B, o, none⟩ = false := by
  have hlt : B < w.heap.size := World.block_lt_of_cell? w _ h
  rw [Below.frozen hb (p := ⟨B, o, none⟩) hlt]; exact hf
set_option maxRecDepth 100000 in
theorem get_any (v : Value) (xs : List UInt8) (i : Int) (w : World) (hb : Bs w v xs) (hx : xs.length ≤ 1000) :
    Calls Tryd.prog 54 #[v, .int .i64 i] w fun e w' => e = .returned (tupV (getV xs i) i) ∧ Below w.heap.size w w' := by
  have HB := Lib.hid hb
  have g := fun (o : Obj) => (show Below w.heap.size w (w.alloc o) from (Below.refl _ _).alloc (Nat.le_refl _) _)
  by_cases hi : 0 ≤ i ∧ i < xs.length
  · obtain ⟨h0, h1⟩ := hi
    obtain ⟨j, rfl⟩ := Int.eq_ofNat_of_zero_le h0
    obtain ⟨bl, o, cap, rfl, e2, e3, hcell⟩ := hb.form (by omega)
    have hc := hcell j (by omega)
    have hc' := fun o' => cell_rb (show Rb w (w.alloc o') from g o') hc
    have hcg := fun w' hw' => getof_any (bt xs j : Int) _ xs ((j : Int) + 1) w' (HB.out.below hw') hx (by omega) (by omega)
    unfold maxLen at e3
    have hj : j < xs.length := by omega
    have hbt := bt_lt xs j
    clear hcell hc hb
    cases hcd : candV xs ((j : Int) + 1) (bt xs j) with
    | none =>
      have hR := Lib.hid (show getV xs j = none by unfold getV; rw [if_pos ⟨by omega, by omega⟩, Int.toNat_natCast, hcd])
      rw [hcd] at hcg
      have HC := Lib.hid hcg; clear hcg hcd h0 h1
      go_enter Tryd.func54, Tryd.ntmps54
      go_upto_region 3 with (fail)
      go_cut [5, 6] (fun a b wx => a = .int .i64 0 ∧ b = .bool false ∧ HeldV wx w.heap.size (bt xs j) 0 ⟨#[]⟩ ∧ (∀ o, wx.frozen? ⟨w.heap.size, o, none⟩ = false) ∧ Rb w wx)
      case first =>
        go_wp2_with fail
        refine (HC.out _ (g _)).mono ?_
        rintro e w' ⟨rfl, hb⟩
        have hh := HeldV.rb (HeldV.at w w.heap.size 0 0 ⟨#[]⟩ 70 rfl) hb
        have hf := fun o => fz_keep (B := w.heap.size) (o := o) hb
        have HB1 := Lib.hid ((g _).trans (hb.mono (by simp)))
        have HH := Lib.hid hh
        have z0 := hh.1
        have z1 := hh.2.1
        have z2 := hh.2.2
        clear hb hh
        unfold tupG
        go_wp2_with fail
        go_meet
        exact ⟨rfl, rfl, set3_held HH.out _ _ _, fun o => by simp [hf o], Below.setCell (Below.setCell (Below.setCell HB1.out (Nat.le_refl _) _) (Nat.le_refl _) _) (Nat.le_refl _) _⟩
      case rest =>
        obtain ⟨rfl, rfl, hh, hf, hb⟩ := hcut
        have HH := Lib.hid hh
        have z0 := hh.1
        have z1 := hh.2.1
        have z2 := hh.2.2
        have HB2 := Lib.hid hb
        clear hh hb
        go_wp2_with fail
        rw [hR.out]
        refine bodyPost_ret (v := tupV none j) (by simp [results, Tryd.results54, go_sem, tupV, z0, z1, z2]) rfl ⟨rfl, ?_⟩
        exact Below.setCell (Below.setCell (Below.setCell HB2.out (Nat.le_refl _) _) (Nat.le_refl _) _) (Nat.le_refl _) _
    | some nsc =>
      obtain ⟨n, s, c⟩ := nsc
      have hl := cand_len hcd
      have hsz : (str s).size ≤ maxLen := by rw [str_size]; unfold maxLen; omega
      have hcr := fun w => right_any (bt xs j : Int) n (str s) w hsz
      rw [show (str s).data.toList = s from rfl] at hcr
      rw [hcd] at hcg
      cases hr : rightB (bt xs j) n s
      · have hR := Lib.hid (show getV xs j = none by unfold getV; rw [if_pos ⟨by omega, by omega⟩, Int.toNat_natCast, hcd]; simp only []; rw [hr]; rfl)
        rw [hr] at hcr
        have HR := Lib.hid hcr
        have HC := Lib.hid hcg; clear hcg hcd h0 h1 hcr hr hsz hl
        go_enter Tryd.func54, Tryd.ntmps54
        go_upto_region 3 with (fail)
        go_cut [5, 6] (fun a b wx => a = .int .i64 ((j : Int) + 1 + (c : Int)) ∧ b = .bool true ∧ HeldV wx w.heap.size (bt xs j) n (str s) ∧ (∀ o, wx.frozen? ⟨w.heap.size, o, none⟩ = false) ∧ Rb w wx)
        case first =>
          go_wp2_with fail
          refine (HC.out _ (g _)).mono ?_
          rintro e w' ⟨rfl, hb⟩
          have hh := HeldV.rb (HeldV.at w w.heap.size 0 0 ⟨#[]⟩ 70 rfl) hb
          have hf := fun o => fz_keep (B := w.heap.size) (o := o) hb
          have HB1 := Lib.hid ((g _).trans (hb.mono (by simp)))
          have HH := Lib.hid hh
          have z0 := hh.1
          have z1 := hh.2.1
          have z2 := hh.2.2
          clear hb hh
          unfold tupG
          go_wp2_with fail
          go_meet
          exact ⟨rfl, rfl, set3_held HH.out _ _ _, fun o => by simp [hf o], Below.setCell (Below.setCell (Below.setCell HB1.out (Nat.le_refl _) _) (Nat.le_refl _) _) (Nat.le_refl _) _⟩
        case rest =>
          obtain ⟨rfl, rfl, hh, hf, hb⟩ := hcut
          have HH := Lib.hid hh
          have z0 := hh.1
          have z1 := hh.2.1
          have z2 := hh.2.2
          have HB2 := Lib.hid hb
          clear hh hb
          go_wp2_with fail
          refine (HR.out _).mono ?_
          rintro e w2 ⟨rfl, hb3⟩
          have hh := HH.out.rb hb3
          have hfz : ∀ o, w2.frozen? ⟨w.heap.size, o, none⟩ = false := fun o => fz_rb hb3 HH.out.1 (hf o)
          have HB3 := Lib.hid (Rb.trans _ _ _ HB2.out hb3)
          clear z0 z1 z2 hf hb3 HB2
          have z0 := hh.1
          have z1 := hh.2.1
          have z2 := hh.2.2
          have HB2 := HB3
          go_wp2_with fail
          rw [hR.out]
          refine bodyPost_ret (v := tupV none j) (by simp [results, Tryd.results54, go_sem, tupV, z0, z1, z2]) rfl ⟨rfl, ?_⟩
          exact Below.setCell (Below.setCell (Below.setCell HB2.out (Nat.le_refl _) _) (Nat.le_refl _) _) (Nat.le_refl _) _
      · have hR := Lib.hid (show getV xs j = some ((bt xs j : Int), n, s, c + 1) by unfold getV; rw [if_pos ⟨by omega, by omega⟩, Int.toNat_natCast, hcd]; simp only []; rw [hr]; rfl)
        rw [hr] at hcr
        have HR := Lib.hid hcr
        have HC := Lib.hid hcg; clear hcg hcd h0 h1 hcr hr hsz hl
        have hsum : (j : Int) + 1 + (c : Int) = (j : Int) + ((c : Int) + 1) := by omega
        have HS := Lib.hid hsum; clear hsum
        go_enter Tryd.func54, Tryd.ntmps54
        go_upto_region 3 with (fail)
        go_cut [5, 6] (fun a b wx => a = .int .i64 ((j : Int) + 1 + (c : Int)) ∧ b = .bool true ∧ HeldV wx w.heap.size (bt xs j) n (str s) ∧ (∀ o, wx.frozen? ⟨w.heap.size, o, none⟩ = false) ∧ Rb w wx)
        case first =>
          go_wp2_with fail
          refine (HC.out _ (g _)).mono ?_
          rintro e w' ⟨rfl, hb⟩
          have hh := HeldV.rb (HeldV.at w w.heap.size 0 0 ⟨#[]⟩ 70 rfl) hb
          have hf := fun o => fz_keep (B := w.heap.size) (o := o) hb
          have HB1 := Lib.hid ((g _).trans (hb.mono (by simp)))
          have HH := Lib.hid hh
          have z0 := hh.1
          have z1 := hh.2.1
          have z2 := hh.2.2
          clear hb hh
          unfold tupG
          go_wp2_with fail
          go_meet
          exact ⟨rfl, rfl, set3_held HH.out _ _ _, fun o => by simp [hf o], Below.setCell (Below.setCell (Below.setCell HB1.out (Nat.le_refl _) _) (Nat.le_refl _) _) (Nat.le_refl _) _⟩
        case rest =>
          obtain ⟨rfl, rfl, hh, hf, hb⟩ := hcut
          have HH := Lib.hid hh
          have z0 := hh.1
          have z1 := hh.2.1
          have z2 := hh.2.2
          have HB2 := Lib.hid hb
          clear hh hb
          go_wp2_with fail
          refine (HR.out _).mono ?_
          rintro e w2 ⟨rfl, hb3⟩
          have hh := HH.out.rb hb3
          have hfz : ∀ o, w2.frozen? ⟨w.heap.size, o, none⟩ = false := fun o => fz_rb hb3 HH.out.1 (hf o)
          have HB3 := Lib.hid (Rb.trans _ _ _ HB2.out hb3)
          clear z0 z1 z2 hf hb3 HB2
          have z0 := hh.1
          have z1 := hh.2.1
          have z2 := hh.2.2
          have HB2 := HB3
          go_wp2_with fail
          rw [hR.out]
          refine bodyPost_ret (v := tupV (some ((bt xs j : Int), n, s, c + 1)) j) (by simp [results, Tryd.results54, go_sem, tupV, HS.out, z0, z1, z2]) rfl ⟨rfl, ?_⟩
          exact Below.setCell (Below.setCell (Below.setCell HB2.out (Nat.le_refl _) _) (Nat.le_refl _) _) (Nat.le_refl _) _
  · have hR := Lib.hid (show getV xs i = none by unfold getV; rw [if_neg hi])
    obtain ⟨ao, cap, rfl, e2, e3⟩ := hb.len
    unfold maxLen at e3
    clear hb
    by_cases h0 : i < 0
    · clear hi
      go_enter Tryd.func54, Tryd.ntmps54
      go_wp2_with fail
      rw [hR.out]
      refine bodyPost_ret (v := tupV none i) (by simp [results, Tryd.results54, go_sem, tupV]) rfl ⟨rfl, ?_⟩
      exact g _
    · have h1 : (xs.length : Int) ≤ i := by omega
      clear hi
      go_enter Tryd.func54, Tryd.ntmps54
      go_wp2_with fail
      rw [hR.out]
      refine bodyPost_ret (v := tupV none i) (by simp [results, Tryd.results54, go_sem, tupV]) rfl ⟨rfl, ?_⟩
      exact g _
end Go.Proofs.YtolfeellcdoopaaDoor
