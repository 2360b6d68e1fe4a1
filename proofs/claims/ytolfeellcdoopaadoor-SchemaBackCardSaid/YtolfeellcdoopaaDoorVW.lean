/-
  Layer 2: Get, by the document's own answer.
-/
import Derived.Test.YtolfeellcdoopaaDoorVU
import Derived.Deep.CutBlock
namespace Go.Proofs.YtolfeellcdoopaaDoor
open Go.ChangeShapes Go.WideShapes Go.ChangeAt Go.RowKit Oct By Reg Val

def tupRV (r : Option (Int × Int × List UInt8 × Nat)) : Value := match r with
  | none => .tuple #[vv 0 0 ⟨#[]⟩, .int .i64 0]
  | some (k, n, s, c) => .tuple #[vv k n (str s), .int .i64 c]
theorem set0_held {w : World} {B : Nat} {k0 n : Int} {s : ByteArray} (h : HeldV w B k0 n s) (k : Int) : HeldV (w.setCell ⟨B, 0, none⟩ (.int .i64 k)) B k n s :=
  ⟨sc_s h.1, by rw [sc_o (ne_off (by decide))]; exact h.2.1, by rw [sc_o (ne_off (by decide))]; exact h.2.2⟩
theorem set1_held {w : World} {B : Nat} {k n0 : Int} {s : ByteArray} (h : HeldV w B k n0 s) (n : Int) : HeldV (w.setCell ⟨B, 1, none⟩ (.int .i64 n)) B k n s :=
  ⟨by rw [sc_o (ne_off (by decide))]; exact h.1, sc_s h.2.1, by rw [sc_o (ne_off (by decide))]; exact h.2.2⟩
theorem set2_held {w : World} {B : Nat} {k n : Int} {s0 : ByteArray} (h : HeldV w B k n s0) (s : ByteArray) : HeldV (w.setCell ⟨B, 2, none⟩ (.string s)) B k n s :=
  ⟨by rw [sc_o (ne_off (by decide))]; exact h.1, by rw [sc_o (ne_off (by decide))]; exact h.2.1, sc_s h.2.2⟩
theorem ne_blk {B C i j : Nat} (h : B ≠ C) : (⟨B, i, none⟩ : Addr) ≠ ⟨C, j, none⟩ := fun e => h (by injection e)
theorem setx_held {w : World} {B C i : Nat} {k n : Int} {s : ByteArray} {v : Value} (h : HeldV w B k n s) (hne : C ≠ B) : HeldV (w.setCell ⟨C, i, none⟩ v) B k n s :=
  ⟨by rw [sc_o (ne_blk hne)]; exact h.1, by rw [sc_o (ne_blk hne)]; exact h.2.1, by rw [sc_o (ne_blk hne)]; exact h.2.2⟩

theorem candV_1 (xs : List UInt8) (i : Int) : candV xs i ((1 : Nat) : Int) = (match gu xs i with | none => none | some (u, k) => some (unzig u, [], k)) := by
  unfold candV; rw [if_pos (show ((1 : Nat) : Int) = 1 from rfl)]; cases gu xs i <;> rfl
theorem candV_2 (xs : List UInt8) (i : Int) : candV xs i ((2 : Nat) : Int) = (if i < xs.length then some ((bt xs i.toNat : Int), [], 1) else none) := by
  unfold candV; rw [if_neg (by decide), if_pos (show ((2 : Nat) : Int) = 2 from rfl)]
theorem candV_3 (xs : List UInt8) (i : Int) : candV xs i ((3 : Nat) : Int) = (match gt xs i 32 with | none => none | some (s, k) => some (0, s, k)) := by
  unfold candV; rw [if_neg (by decide), if_neg (by decide), if_pos (show ((3 : Nat) : Int) = 3 from rfl)]; cases gt xs i 32 <;> rfl
theorem gt_pos {xs s : List UInt8} {i m : Int} {k : Nat} (h : gt xs i m = some (s, k)) : 1 ≤ k ∧ k ≤ xs.length := by
  unfold gt at h
  split at h
  · cases h
  · rename_i hg
    have := gu_lt hg
    split at h
    · cases h; omega
    · cases h
theorem cand_pos {xs s : List UInt8} {i b n : Int} {c : Nat} (h : candV xs i b = some (n, s, c)) (hi : 0 ≤ i) : 1 ≤ c ∧ c ≤ xs.length := by
  unfold candV at h
  split at h
  · split at h
    · cases h
    · rename_i hg; have := gu_lt hg; cases h; omega
  · split at h
    · split at h
      · cases h; omega
      · cases h
    · split at h
      · split at h
        · cases h
        · rename_i hg; cases h; exact gt_pos hg
      · cases h
/-- the two variables of a call behind some steps of it -/
structure Two (w wx : World) (B C : Nat) (n : Int) (s : ByteArray) : Prop where
  res : HeldV wx B 0 0 ⟨#[]⟩
  var : HeldV wx C 0 n s
  fz : ∀ o, wx.frozen? ⟨B, o, none⟩ = false ∧ wx.frozen? ⟨C, o, none⟩ = false
  below : Rb w wx
theorem Two.rb {w wx w1 : World} {B C : Nat} {n : Int} {s : ByteArray} (h : Two w wx B C n s) (hb : Below wx.heap.size wx w1) : Two w w1 B C n s :=
  ⟨h.res.rb hb, h.var.rb hb, fun o => ⟨fz_rb hb h.res.1 (h.fz o).1, fz_rb hb h.var.1 (h.fz o).2⟩, Rb.trans _ _ _ h.below hb⟩
theorem Two.set1 {w wx : World} {B C : Nat} {n : Int} {s : ByteArray} (h : Two w wx B C n s) (hne : C ≠ B) (hC : w.heap.size ≤ C) (m : Int) : Two w (wx.setCell ⟨C, 1, none⟩ (.int .i64 m)) B C m s :=
  ⟨setx_held h.res hne, set1_held h.var m, fun o => by simp [h.fz o], Below.setCell h.below hC _⟩
theorem Two.set2 {w wx : World} {B C : Nat} {n : Int} {s : ByteArray} (h : Two w wx B C n s) (hne : C ≠ B) (hC : w.heap.size ≤ C) (t : ByteArray) : Two w (wx.setCell ⟨C, 2, none⟩ (.string t)) B C n t :=
  ⟨setx_held h.res hne, set2_held h.var t, fun o => by simp [h.fz o], Below.setCell h.below hC _⟩
theorem Two.start (w : World) (n : Int := 0) : Two w ((w.alloc (.cells #[.int .i64 0, .int .i64 0, .string ⟨#[]⟩] 70)).alloc (.cells #[.int .i64 0, .int .i64 n, .string ⟨#[]⟩] 70)) w.heap.size (w.heap.size + 1) n ⟨#[]⟩ := by
  have g := fun (w : World) (o : Obj) => (show Rb w (w.alloc o) from (Below.refl _ _).alloc (Nat.le_refl _) _)
  refine ⟨(HeldV.at w w.heap.size 0 0 ⟨#[]⟩ 70 rfl).rb (g _ _), HeldV.at _ _ 0 n ⟨#[]⟩ 70 (by simp), fun o => ⟨?_, ?_⟩, Rb.trans _ _ _ (g _ _) (g _ _)⟩
  · exact fz_keep (cs := #[.int .i64 0, .int .i64 0, .string ⟨#[]⟩]) (T := 70) (w := w) (B := w.heap.size) (g _ _)
  · have h := fz_keep (cs := #[.int .i64 0, .int .i64 n, .string ⟨#[]⟩]) (T := 70) (w := w.alloc (.cells #[.int .i64 0, .int .i64 0, .string ⟨#[]⟩] 70)) (B := w.heap.size + 1) (o := o) (Below.refl _ _) (by simp)
    exact h

/-- .. the kind laid, too -/
structure Three (w wx : World) (B C : Nat) (k n : Int) (s : ByteArray) : Prop where
  res : HeldV wx B 0 0 ⟨#[]⟩
  var : HeldV wx C k n s
  fz : ∀ o, wx.frozen? ⟨B, o, none⟩ = false ∧ wx.frozen? ⟨C, o, none⟩ = false
  below : Rb w wx
theorem Three.of {w wx : World} {n : Int} {s : ByteArray} (h : Two w wx w.heap.size (w.heap.size + 1) n s) (k : Int) : Three w (wx.setCell ⟨w.heap.size + 1, 0, none⟩ (.int .i64 k)) w.heap.size (w.heap.size + 1) k n s :=
  ⟨setx_held h.res (by omega), set0_held h.var k, fun o => by simp [h.fz o], Below.setCell h.below (by simp) _⟩
theorem Three.rb {w wx w1 : World} {B C : Nat} {k n : Int} {s : ByteArray} (h : Three w wx B C k n s) (hb : Below wx.heap.size wx w1) : Three w w1 B C k n s :=
  ⟨h.res.rb hb, h.var.rb hb, fun o => ⟨fz_rb hb h.res.1 (h.fz o).1, fz_rb hb h.var.1 (h.fz o).2⟩, Rb.trans _ _ _ h.below hb⟩

set_option maxRecDepth 100000 in
theorem refget_val (v : Value) (xs : List UInt8) (i : Int) (w : World) (hb : Bs w v xs) (hx : xs.length ≤ 1000) :
    Calls Tryd.prog 56 #[v, .int .i64 i] w fun e w' => e = .returned (tupRV (getV xs i)) ∧ Below w.heap.size w w' := by
  have HB := Lib.hid hb
  have g := fun (o : Obj) => (show Below w.heap.size w (w.alloc o) from (Below.refl _ _).alloc (Nat.le_refl _) _)
  by_cases hi : 0 ≤ i ∧ i < xs.length
  · obtain ⟨h0, h1⟩ := hi
    obtain ⟨j, rfl⟩ := Int.eq_ofNat_of_zero_le h0
    obtain ⟨bl, o, cap, rfl, e2, e3, hcell⟩ := hb.form (by omega)
    have hc := hcell j (by omega)
    have hc' := fun o' o2 => cell_rb (show Rb (w.alloc o') ((w.alloc o').alloc o2) from (Below.refl _ _).alloc (Nat.le_refl _) _) (cell_rb (show Rb w (w.alloc o') from g o') hc)
    unfold maxLen at e3
    have hj : j < xs.length := by omega
    have hbt := bt_lt xs j
    clear hb h0 h1
    cases hcd : candV xs ((j : Int) + 1) (bt xs j) with
    | none =>
      have hR := Lib.hid (show getV xs j = none by unfold getV; rw [if_pos ⟨by omega, by omega⟩, Int.toNat_natCast, hcd])
      go_enter Tryd.func56, Tryd.ntmps56
      go_upto_block 0 with (fail)
      go_cut [7] (fun a wx => a = .int .i64 0 ∧ Two w wx w.heap.size (w.heap.size + 1) 0 ⟨#[]⟩)
      case first =>
        by_cases h1 : bt xs j = 1
        · have hq : ((bt xs j : Int) == 1) = true := by rw [h1]; rfl
          have hcd' := hcd
          rw [h1] at hcd'
          rw [candV_1] at hcd'
          have hg : gu xs ((j : Int) + 1) = none := by
            cases hg : gu xs ((j : Int) + 1) with
            | none => rfl
            | some p => obtain ⟨u, q⟩ := p; rw [hg] at hcd'; cases hcd'
          have hc := fun w' hw' => refgetint_any _ xs ((j : Int) + 1) w' (HB.out.below hw') (by omega)
          rw [hg] at hc
          have HC := Lib.hid hc; clear hc hg hcd' h1 hcd
          go_wp2_with fail
          refine (HC.out _ (Two.start w).below).mono ?_
          rintro e w1 ⟨rfl, hb⟩
          have H2 := Lib.hid ((Two.start w).rb hb)
          have z0 := H2.out.var.1
          have z1 := H2.out.var.2.1
          have z2 := H2.out.var.2.2
          have zf := fun o => (H2.out.fz o).2
          clear hb
          unfold tupRI
          go_wp2_with fail
          go_meet
          exact ⟨rfl, H2.out.set1 (by omega) (by omega) 0⟩
        by_cases h2 : bt xs j = 2
        · have hq : ((bt xs j : Int) == 1) = false := by rw [h2]; rfl
          have hq2 : ((bt xs j : Int) == 2) = true := by rw [h2]; rfl
          have hcd' := hcd
          rw [h2] at hcd'
          rw [candV_2] at hcd'
          have hl : ¬ j + 1 < xs.length := fun h => by rw [if_pos (by omega)] at hcd'; cases hcd'
          clear hcd' h1 h2 hcd
          go_wp2_with fail
          go_meet
          exact ⟨rfl, Two.start w⟩
        by_cases h3 : bt xs j = 3
        · have hq : ((bt xs j : Int) == 1) = false := by rw [h3]; rfl
          have hq2 : ((bt xs j : Int) == 2) = false := by rw [h3]; rfl
          have hq3 : ((bt xs j : Int) == 3) = true := by rw [h3]; rfl
          have hcd' := hcd
          rw [h3] at hcd'
          rw [candV_3] at hcd'
          have hg : gt xs ((j : Int) + 1) 32 = none := by
            cases hg : gt xs ((j : Int) + 1) 32 with
            | none => rfl
            | some p => obtain ⟨u, q⟩ := p; rw [hg] at hcd'; cases hcd'
          have hc := fun w' hw' => reftext_get _ xs ((j : Int) + 1) 32 w' (HB.out.below hw') (by omega) (by omega)
          rw [hg] at hc
          have HC := Lib.hid hc; clear hc hg hcd' h1 h2 h3 hcd
          go_wp2_with fail
          refine (HC.out _ (Two.start w).below).mono ?_
          rintro e w1 ⟨rfl, hb⟩
          have H2 := Lib.hid ((Two.start w).rb hb)
          have z0 := H2.out.var.1
          have z1 := H2.out.var.2.1
          have z2 := H2.out.var.2.2
          have zf := fun o => (H2.out.fz o).2
          clear hb
          unfold tupRT
          go_wp2_with fail
          go_meet
          exact ⟨rfl, H2.out.set2 (by omega) (by omega) (str [])⟩
        · have hq : ((bt xs j : Int) == 1) = false := by rw [beq_eq_false_iff_ne]; omega
          have hq2 : ((bt xs j : Int) == 2) = false := by rw [beq_eq_false_iff_ne]; omega
          have hq3 : ((bt xs j : Int) == 3) = false := by rw [beq_eq_false_iff_ne]; omega
          clear hcd
          go_wp2_with fail
          go_meet
          exact ⟨rfl, Two.start w⟩
      case rest =>
        clear hcd
        obtain ⟨rfl, h2⟩ := hcut
        have H2 := Lib.hid h2
        have z0 := h2.var.1
        have z1 := h2.var.2.1
        have z2 := h2.var.2.2
        have y0 := h2.res.1
        have y1 := h2.res.2.1
        have y2 := h2.res.2.2
        have zf := fun o => (h2.fz o).2
        have yf := fun o => (h2.fz o).1
        have zb := cell_rb h2.below hc
        clear h2 hcell hc
        go_wp2_with fail
        rw [hR.out]
        refine bodyPost_ret (v := tupRV none) (by simp [results, Tryd.results56, go_sem, tupRV, y0, y1, y2]) rfl ⟨rfl, ?_⟩
        have hB := H2.out.below
        exact Below.setCell (Below.setCell (Below.setCell (Below.setCell hB (by simp) _) (Nat.le_refl _) _) (Nat.le_refl _) _) (Nat.le_refl _) _
    | some nsc =>
      obtain ⟨n, s, c⟩ := nsc
      have hl := cand_len hcd
      have hc1 := cand_pos hcd (by omega)
      have hsz : (str s).size ≤ maxLen := by rw [str_size]; unfold maxLen; omega
      have hcr := fun w => refright_any (bt xs j : Int) n (str s) w hsz
      rw [show (str s).data.toList = s from rfl] at hcr
      go_enter Tryd.func56, Tryd.ntmps56
      go_upto_block 0 with (fail)
      go_cut [7] (fun a wx => a = .int .i64 (c : Int) ∧ Two w wx w.heap.size (w.heap.size + 1) n (str s))
      case first =>
        clear hl hc1 hsz hcr
        by_cases h1 : bt xs j = 1
        · have hq : ((bt xs j : Int) == 1) = true := by rw [h1]; rfl
          have hcd' := hcd
          rw [h1] at hcd'
          rw [candV_1] at hcd'
          cases hg : gu xs ((j : Int) + 1) with
          | none => rw [hg] at hcd'; cases hcd'
          | some p =>
            obtain ⟨u, q⟩ := p
            rw [hg] at hcd'
            simp only [Option.some.injEq, Prod.mk.injEq] at hcd'
            obtain ⟨rfl, rfl, rfl⟩ := hcd'
            have hc := fun w' hw' => refgetint_any _ xs ((j : Int) + 1) w' (HB.out.below hw') (by omega)
            rw [hg] at hc
            have HC := Lib.hid hc; clear hc hg h1 hcd
            go_wp2_with fail
            refine (HC.out _ (Two.start w).below).mono ?_
            rintro e w1 ⟨rfl, hb⟩
            have H2 := Lib.hid ((Two.start w).rb hb)
            have z0 := H2.out.var.1
            have z1 := H2.out.var.2.1
            have z2 := H2.out.var.2.2
            have zf := fun o => (H2.out.fz o).2
            clear hb
            unfold tupRI
            go_wp2_with fail
            go_meet
            exact ⟨rfl, H2.out.set1 (by omega) (by omega) (unzig u)⟩
        by_cases h2 : bt xs j = 2
        · have hq : ((bt xs j : Int) == 1) = false := by rw [h2]; rfl
          have hq2 : ((bt xs j : Int) == 2) = true := by rw [h2]; rfl
          have hcd' := hcd
          rw [h2] at hcd'
          rw [candV_2] at hcd'
          by_cases hl : j + 1 < xs.length
          · rw [if_pos (by omega), show ((j : Int) + 1).toNat = j + 1 by omega] at hcd'
            simp only [Option.some.injEq, Prod.mk.injEq] at hcd'
            obtain ⟨rfl, rfl, rfl⟩ := hcd'
            have hcx := hcell (j + 1) hl
            have hcx' := fun o' => cell_rb (show Rb w (w.alloc o') from g o') hcx
            have hcx2 := fun o' o2 => cell_rb (show Rb (w.alloc o') ((w.alloc o').alloc o2) from (Below.refl _ _).alloc (Nat.le_refl _) _) (hcx' o')
            have hb2 := bt_lt xs (j + 1)
            have hadd : (⟨bl, o + (j + 1), none⟩ : Addr) = ⟨bl, o + j + 1, none⟩ := by rw [Nat.add_assoc]
            clear h1 h2 hcd hcx hcx' hadd
            have htn : ((j : Int) + 1).toNat = j + 1 := by omega
            go_wp2_with fail
            go_meet
            exact ⟨rfl, Two.start w (bt xs (j + 1))⟩
          · rw [if_neg (by omega)] at hcd'; cases hcd'
        by_cases h3 : bt xs j = 3
        · have hq : ((bt xs j : Int) == 1) = false := by rw [h3]; rfl
          have hq2 : ((bt xs j : Int) == 2) = false := by rw [h3]; rfl
          have hq3 : ((bt xs j : Int) == 3) = true := by rw [h3]; rfl
          have hcd' := hcd
          rw [h3] at hcd'
          rw [candV_3] at hcd'
          cases hg : gt xs ((j : Int) + 1) 32 with
          | none => rw [hg] at hcd'; cases hcd'
          | some p =>
            obtain ⟨u, q⟩ := p
            rw [hg] at hcd'
            simp only [Option.some.injEq, Prod.mk.injEq] at hcd'
            obtain ⟨rfl, rfl, rfl⟩ := hcd'
            have hc := fun w' hw' => reftext_get _ xs ((j : Int) + 1) 32 w' (HB.out.below hw') (by omega) (by omega)
            rw [hg] at hc
            have HC := Lib.hid hc; clear hc hg h1 h2 h3 hcd
            go_wp2_with fail
            refine (HC.out _ (Two.start w).below).mono ?_
            rintro e w1 ⟨rfl, hb⟩
            have H2 := Lib.hid ((Two.start w).rb hb)
            have z0 := H2.out.var.1
            have z1 := H2.out.var.2.1
            have z2 := H2.out.var.2.2
            have zf := fun o => (H2.out.fz o).2
            clear hb
            unfold tupRT
            go_wp2_with fail
            go_meet
            exact ⟨rfl, H2.out.set2 (by omega) (by omega) (str u)⟩
        · exfalso
          unfold candV at hcd
          rw [if_neg (by omega), if_neg (by omega), if_neg (by omega)] at hcd
          cases hcd
      case rest =>
        have hqc : ((c : Int) == 0) = false := by rw [beq_eq_false_iff_ne]; omega
        obtain ⟨rfl, h2⟩ := hcut
        have H2 := Lib.hid h2
        have z0 := h2.var.1
        have z1 := h2.var.2.1
        have z2 := h2.var.2.2
        have y0 := h2.res.1
        have y1 := h2.res.2.1
        have y2 := h2.res.2.2
        have zf := fun o => (h2.fz o).2
        have yf := fun o => (h2.fz o).1
        have zb := cell_rb h2.below hc
        clear h2 hcell hc
        cases hr : rightB (bt xs j) n s
        · have hR := Lib.hid (show getV xs j = none by unfold getV; rw [if_pos ⟨by omega, by omega⟩, Int.toNat_natCast, hcd]; simp only []; rw [hr]; rfl)
          rw [hr] at hcr
          have HR := Lib.hid hcr; clear hcr hr hcd hsz hl
          go_wp2_with fail
          refine (HR.out _).mono ?_
          rintro e w3 ⟨rfl, hb3⟩
          have H3 := Lib.hid ((Three.of H2.out (bt xs j : Int)).rb hb3)
          have z0 := H3.out.var.1
          have z1 := H3.out.var.2.1
          have z2 := H3.out.var.2.2
          have y0 := H3.out.res.1
          have y1 := H3.out.res.2.1
          have y2 := H3.out.res.2.2
          have zf := fun o => (H3.out.fz o).2
          have yf := fun o => (H3.out.fz o).1
          clear hb3
          go_wp2_with fail
          rw [hR.out]
          refine bodyPost_ret (v := tupRV none) (by simp [results, Tryd.results56, go_sem, tupRV, y0, y1, y2]) rfl ⟨rfl, ?_⟩
          exact Below.setCell (Below.setCell (Below.setCell H3.out.below (Nat.le_refl _) _) (Nat.le_refl _) _) (Nat.le_refl _) _
        · have hR := Lib.hid (show getV xs j = some ((bt xs j : Int), n, s, c + 1) by unfold getV; rw [if_pos ⟨by omega, by omega⟩, Int.toNat_natCast, hcd]; simp only []; rw [hr]; rfl)
          rw [hr] at hcr
          have HR := Lib.hid hcr; clear hcr hr hcd hsz hl
          go_wp2_with fail
          refine (HR.out _).mono ?_
          rintro e w3 ⟨rfl, hb3⟩
          have H3 := Lib.hid ((Three.of H2.out (bt xs j : Int)).rb hb3)
          have z0 := H3.out.var.1
          have z1 := H3.out.var.2.1
          have z2 := H3.out.var.2.2
          have y0 := H3.out.res.1
          have y1 := H3.out.res.2.1
          have y2 := H3.out.res.2.2
          have zf := fun o => (H3.out.fz o).2
          have yf := fun o => (H3.out.fz o).1
          clear hb3
          go_wp2_with fail
          rw [hR.out]
          refine bodyPost_ret (v := tupRV (some ((bt xs j : Int), n, s, c + 1))) (by simp [results, Tryd.results56, go_sem, tupRV, y0, y1, y2]) rfl ⟨rfl, ?_⟩
          exact Below.setCell (Below.setCell (Below.setCell H3.out.below (Nat.le_refl _) _) (Nat.le_refl _) _) (Nat.le_refl _) _
  · have hR := Lib.hid (show getV xs i = none by unfold getV; rw [if_neg hi])
    obtain ⟨ao, cap, rfl, e2, e3⟩ := hb.len
    unfold maxLen at e3
    clear hb
    by_cases h0 : i < 0
    · clear hi
      go_enter Tryd.func56, Tryd.ntmps56
      go_wp2_with fail
      rw [hR.out]
      refine bodyPost_ret (v := tupRV none) (by simp [results, Tryd.results56, go_sem, tupRV]) rfl ⟨rfl, ?_⟩
      exact (g _).alloc (by simp) _
    · have h1 : (xs.length : Int) ≤ i := by omega
      clear hi
      go_enter Tryd.func56, Tryd.ntmps56
      go_wp2_with fail
      rw [hR.out]
      refine bodyPost_ret (v := tupRV none) (by simp [results, Tryd.results56, go_sem, tupRV]) rfl ⟨rfl, ?_⟩
      exact (g _).alloc (by simp) _
end Go.Proofs.YtolfeellcdoopaaDoor
