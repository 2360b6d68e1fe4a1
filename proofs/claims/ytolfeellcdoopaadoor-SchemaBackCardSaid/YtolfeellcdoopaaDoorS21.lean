/-
  Layer 6: every; which rows fit which table.
-/
import Derived.Test.YtolfeellcdoopaaDoorS17
import Derived.Deep.RegionWith
import Derived.Deep.Cut
namespace Go.Proofs.YtolfeellcdoopaaDoor.L6
open Go.ChangeShapes Go.WideShapes Go.ChangeAt Go.RowKit Oct By Reg Val
set_option linter.unusedVariables false
set_option linter.unusedSimpArgs false

def zipAll {α β : Type} (p : α → β → Bool) : List α → List β → Bool
  | [], [] => true
  | a :: r, b :: s => p a b && zipAll p r s
  | _, _ => false
theorem zipAll_len {α β : Type} {p : α → β → Bool} : ∀ {a : List α} {b : List β}, a.length ≠ b.length → zipAll p a b = false
  | [], [], h => absurd rfl h
  | [], _ :: _, _ => rfl
  | _ :: _, [], _ => rfl
  | x :: r, y :: s, h => by
    rw [zipAll, zipAll_len (by simpa using h), Bool.and_false]
theorem zipAll_iff {α β : Type} {p : α → β → Bool} : ∀ {a : List α} {b : List β}, a.length = b.length → (zipAll p a b = true ↔ ∀ k (h1 : k < a.length) (h2 : k < b.length), p a[k] b[k] = true)
  | [], [], h => by simp [zipAll]
  | [], _ :: _, h => by simp at h
  | _ :: _, [], h => by simp at h
  | x :: r, y :: s, h => by
    rw [zipAll, Bool.and_eq_true, zipAll_iff (by simpa using h)]
    refine ⟨fun ⟨h1, h2⟩ k hk1 hk2 => ?_, fun hh => ⟨hh 0 (by simp) (by simp), fun k h1 h2 => hh (k + 1) (by simp; omega) (by simp; omega)⟩⟩
    cases k with
    | zero => exact h1
    | succ k => exact h2 k (by simpa using hk1) (by simpa using hk2)
theorem zipAll_drop {α β : Type} {p : α → β → Bool} {a : List α} {b : List β} {k : Nat} {x : α} {y : β} {r : Bool} (ha : k < a.length) (hb : k < b.length) (hx : x = a[k]) (hy : y = b[k]) (h : r = zipAll p (a.drop k) (b.drop k)) :
    (p x y = false → r = false) ∧ (p x y = true → r = zipAll p (a.drop (k + 1)) (b.drop (k + 1))) := by
  rw [List.drop_eq_getElem_cons ha, List.drop_eq_getElem_cons hb, ← hx, ← hy, zipAll] at h
  refine ⟨fun hp => ?_, fun hp => ?_⟩
  · rw [h, hp]; rfl
  · rw [h, hp]; rfl
theorem zipAll_end {α β : Type} {p : α → β → Bool} {a : List α} {b : List β} {k : Nat} {r : Bool} (ha : a.length ≤ k) (hb : b.length ≤ k) (h : r = zipAll p (a.drop k) (b.drop k)) : r = true := by
  rw [List.drop_eq_nil_of_le ha, List.drop_eq_nil_of_le hb] at h
  exact h

def fitsV (c : ColD) (v : ValD) : Bool := fitsB v.k v.n v.s.data.toList c.kind c.max
abbrev fitsRow (L : List ColD) (R : List ValD) : Bool := zipAll fitsV L R

set_option maxRecDepth 100000 in
set_option maxHeartbeats 4000000 in
theorem everyF_any (R : List ValD) (v : Value) (w : World) (Bt : Nat) (F : Nat → Prop) (I : Nat → World → Prop) (p : Nat → Bool)
    (hv : ∀ w', Fr F w w' → Vals w' v R) (hI0 : I 0 w)
    (hI : ∀ k w1 w2, I k w1 → Rb w1 w2 → I k w2)
    (hcall : ∀ k (hk : k < R.length) w1, Fr F w w1 → I k w1 → Calls Tryd.prog 63 #[.int .i64 (k : Int), .agg #[.int .i64 R[k].k, .int .i64 R[k].n, .string R[k].s], .pointer (some ⟨Bt, 0, none⟩)] w1 fun e w2 => e = .returned (.bool (p k)) ∧ Fr F w1 w2 ∧ (p k = true → I (k + 1) w2)) :
    Calls Tryd.prog 58 #[v, .func (.func 63) #[] #[.pointer (some ⟨Bt, 0, none⟩)]] w fun e w' => Fr F w w' ∧
      (((∀ k, k < R.length → p k = true) ∧ e = .returned (.bool true) ∧ I R.length w') ∨ ((∃ k, k < R.length ∧ p k = false) ∧ e = .returned (.bool false))) := by
  have hc0 := hv w (Fr.refl F w)
  obtain ⟨ao, cap, rfl, h1, h2, hr0⟩ := hc0
  have HCV := Lib.hid hv
  have HI := Lib.hid hI
  have HCL := Lib.hid hcall
  have HI0 := Lib.hid hI0
  unfold maxLen at h2
  have h9 : R.length ≤ 9223372036854775807 := by omega
  clear hv hI hcall hI0 hr0
  go_enter Tryd.func58, Tryd.ntmps58
  go_wp2
  go_loopw [9] (fun i wr => ∃ k : Nat, k ≤ R.length ∧ i = .int .i64 k ∧ Hid (∀ j, j < k → p j = true) ∧ Hid (I k wr) ∧ Fr F w wr) (fun i _ => R.length - (intOf i).toNat)
  case atStart => exact ⟨0, Nat.zero_le _, rfl, fun j hj => absurd hj (Nat.not_lt_zero _), HI0, Fr.refl _ _⟩
  case round =>
    obtain ⟨k, hk, rfl, hall, hIk, hf⟩ := hrel
    have HFR := Lib.hid hf
    have hsz := hf.size
    by_cases hlt : k < R.length
    · have hck := HCV.out wr hf
      obtain ⟨ao', cap', ee, _, _, hr⟩ := hck
      simp only [Value.slice.injEq] at ee
      obtain ⟨rfl, -, rfl⟩ := ee
      obtain ⟨b, o, rfl, hc⟩ := hr (by omega)
      obtain ⟨y0, y1, y2⟩ := hc k hlt
      have hcl := HCL.out k hlt
      obtain ⟨c, hcx⟩ : ∃ c, c = R[k] := ⟨_, rfl⟩
      rw [← hcx] at y0 y1 y2 hcl
      clear hc hr hcx hf
      obtain ⟨vk, vn, vs⟩ := c
      dsimp only at y0 y1 y2 hcl
      go_wp2_with (refine wpList_store rfl 70 _ _ rfl wr.heap.size 0 _ _ [_, _, _] _ rfl rfl (Blk.new wr 70 [_, _, _]) rfl sizeV (by simp) (oneV _ _ _) ?_)
      intro w1 hb1 hw1
      have hr1 := hw1.rb_new
      obtain ⟨x0, x1, x2⟩ := hb1.c3
      have hI1 := HI.out k wr w1 hIk.out hr1
      have hcl1 := hcl w1 (HFR.out.then_rb hr1) hI1
      have HR1 := Lib.hid hr1
      clear hb1 hw1 y0 y1 y2 hr1 hI1 hcl
      obtain ⟨kk, hkk⟩ : ∃ kk, kk = p k := ⟨_, rfl⟩
      rw [← hkk] at hcl1
      have HKK := Lib.hid hkk
      clear hkk
      go_wp2_with fail
      refine hcl1.mono ?_
      rintro e w2 ⟨rfl, hf2, hI2⟩
      have HFR2 := Lib.hid ((HFR.out.then_rb HR1.out).trans hf2 (fun g hg => .inl hg))
      have HI2 := Lib.hid hI2
      clear hf2 hI2 hcl1 x0 x1 x2
      cases kk with
      | false =>
        have HE : Hid (∃ k, k < R.length ∧ p k = false) := ⟨k, hlt, HKK.out.symm⟩
        go_wp2
        go_ret
        exact ⟨HFR2.out, .inr ⟨HE.out, rfl⟩⟩
      | true =>
        have HI4 : Hid (I (k + 1) w2) := HI2.out (by trivial)
        have HALL : Hid (∀ j, j < k + 1 → p j = true) := fun j hj => by
          by_cases hjk : j < k
          · exact hall.out j hjk
          · rw [show j = k by omega]; exact HKK.out.symm
        go_wp2
        go_roundw
        case rel => exact ⟨k + 1, by omega, by go_num, HALL, HI4, HFR2.out⟩
        case measure => simp [intOf]; omega
    · have hkl : k = R.length := by omega
      have HKL := Lib.hid hkl
      have HV : Hid (∀ j, j < R.length → p j = true) := by rw [← HKL.out]; exact hall
      have HIK : Hid (I R.length wr) := by rw [← HKL.out]; exact hIk
      clear hf hkl hall hIk
      go_wp2
      go_ret
      exact ⟨HFR.out, .inl ⟨HV.out, rfl, HIK.out⟩⟩

set_option maxRecDepth 100000 in
set_option maxHeartbeats 4000000 in
theorem everyP_any (R : List ValD) (v : Value) (w : World) (Bt : Nat) (F : Nat → Prop) (I : Nat → World → Prop) (p : Nat → Bool)
    (hv : ∀ w', Fr F w w' → Vals w' v R) (hI0 : I 0 w)
    (hI : ∀ k w1 w2, I k w1 → Rb w1 w2 → I k w2)
    (hcall : ∀ k (hk : k < R.length) w1, Fr F w w1 → I k w1 → Calls Tryd.prog 59 #[.int .i64 (k : Int), .agg #[.int .i64 R[k].k, .int .i64 R[k].n, .string R[k].s], .pointer (some ⟨Bt, 0, none⟩)] w1 fun e w2 => e = .returned (.bool (p k)) ∧ Fr F w1 w2 ∧ (p k = true → I (k + 1) w2)) :
    Calls Tryd.prog 58 #[v, .func (.func 59) #[] #[.pointer (some ⟨Bt, 0, none⟩)]] w fun e w' => Fr F w w' ∧
      (((∀ k, k < R.length → p k = true) ∧ e = .returned (.bool true) ∧ I R.length w') ∨ ((∃ k, k < R.length ∧ p k = false) ∧ e = .returned (.bool false))) := by
  have hc0 := hv w (Fr.refl F w)
  obtain ⟨ao, cap, rfl, h1, h2, hr0⟩ := hc0
  have HCV := Lib.hid hv
  have HI := Lib.hid hI
  have HCL := Lib.hid hcall
  have HI0 := Lib.hid hI0
  unfold maxLen at h2
  have h9 : R.length ≤ 9223372036854775807 := by omega
  clear hv hI hcall hI0 hr0
  go_enter Tryd.func58, Tryd.ntmps58
  go_wp2
  go_loopw [9] (fun i wr => ∃ k : Nat, k ≤ R.length ∧ i = .int .i64 k ∧ Hid (∀ j, j < k → p j = true) ∧ Hid (I k wr) ∧ Fr F w wr) (fun i _ => R.length - (intOf i).toNat)
  case atStart => exact ⟨0, Nat.zero_le _, rfl, fun j hj => absurd hj (Nat.not_lt_zero _), HI0, Fr.refl _ _⟩
  case round =>
    obtain ⟨k, hk, rfl, hall, hIk, hf⟩ := hrel
    have HFR := Lib.hid hf
    have hsz := hf.size
    by_cases hlt : k < R.length
    · have hck := HCV.out wr hf
      obtain ⟨ao', cap', ee, _, _, hr⟩ := hck
      simp only [Value.slice.injEq] at ee
      obtain ⟨rfl, -, rfl⟩ := ee
      obtain ⟨b, o, rfl, hc⟩ := hr (by omega)
      obtain ⟨y0, y1, y2⟩ := hc k hlt
      have hcl := HCL.out k hlt
      obtain ⟨c, hcx⟩ : ∃ c, c = R[k] := ⟨_, rfl⟩
      rw [← hcx] at y0 y1 y2 hcl
      clear hc hr hcx hf
      obtain ⟨vk, vn, vs⟩ := c
      dsimp only at y0 y1 y2 hcl
      go_wp2_with (refine wpList_store rfl 70 _ _ rfl wr.heap.size 0 _ _ [_, _, _] _ rfl rfl (Blk.new wr 70 [_, _, _]) rfl sizeV (by simp) (oneV _ _ _) ?_)
      intro w1 hb1 hw1
      have hr1 := hw1.rb_new
      obtain ⟨x0, x1, x2⟩ := hb1.c3
      have hI1 := HI.out k wr w1 hIk.out hr1
      have hcl1 := hcl w1 (HFR.out.then_rb hr1) hI1
      have HR1 := Lib.hid hr1
      clear hb1 hw1 y0 y1 y2 hr1 hI1 hcl
      obtain ⟨kk, hkk⟩ : ∃ kk, kk = p k := ⟨_, rfl⟩
      rw [← hkk] at hcl1
      have HKK := Lib.hid hkk
      clear hkk
      go_wp2_with fail
      refine hcl1.mono ?_
      rintro e w2 ⟨rfl, hf2, hI2⟩
      have HFR2 := Lib.hid ((HFR.out.then_rb HR1.out).trans hf2 (fun g hg => .inl hg))
      have HI2 := Lib.hid hI2
      clear hf2 hI2 hcl1 x0 x1 x2
      cases kk with
      | false =>
        have HE : Hid (∃ k, k < R.length ∧ p k = false) := ⟨k, hlt, HKK.out.symm⟩
        go_wp2
        go_ret
        exact ⟨HFR2.out, .inr ⟨HE.out, rfl⟩⟩
      | true =>
        have HI4 : Hid (I (k + 1) w2) := HI2.out (by trivial)
        have HALL : Hid (∀ j, j < k + 1 → p j = true) := fun j hj => by
          by_cases hjk : j < k
          · exact hall.out j hjk
          · rw [show j = k by omega]; exact HKK.out.symm
        go_wp2
        go_roundw
        case rel => exact ⟨k + 1, by omega, by go_num, HALL, HI4, HFR2.out⟩
        case measure => simp [intOf]; omega
    · have hkl : k = R.length := by omega
      have HKL := Lib.hid hkl
      have HV : Hid (∀ j, j < R.length → p j = true) := by rw [← HKL.out]; exact hall
      have HIK : Hid (I R.length wr) := by rw [← HKL.out]; exact hIk
      clear hf hkl hall hIk
      go_wp2
      go_ret
      exact ⟨HFR.out, .inl ⟨HV.out, rfl, HIK.out⟩⟩

set_option maxRecDepth 100000 in
set_option maxHeartbeats 2000000 in
theorem fits1_any (k : Nat) (v : ValD) (Bt : Nat) (cv : Value) (L : List ColD) (w : World) (hb : w.cell? ⟨Bt, 2, none⟩ = some cv) (hc : Cols w cv L) (hk : k < L.length) (hok : ValOk v) :
    Calls Tryd.prog 63 #[.int .i64 (k : Int), .agg #[.int .i64 v.k, .int .i64 v.n, .string v.s], .pointer (some ⟨Bt, 0, none⟩)] w fun e w' => e = .returned (.bool (fitsV L[k] v)) ∧ Rb w w' := by
  obtain ⟨ao, cap, rfl, h1, h2, hr⟩ := hc
  obtain ⟨b, o, rfl, hcell⟩ := hr (by omega)
  obtain ⟨z0, z1, z2⟩ := hcell k hk
  obtain ⟨c, hcx⟩ : ∃ c, c = L[k] := ⟨_, rfl⟩
  rw [← hcx] at z0 z1 z2 ⊢
  unfold fitsV
  unfold maxLen at h2
  obtain ⟨cn, ck, cm⟩ := c
  obtain ⟨vk, vn, vs⟩ := v
  dsimp only at z0 z1 z2 ⊢
  have hcl := fun w => fits_any vk vn vs ck cm w hok.s
  generalize fitsB vk vn vs.data.toList ck cm = fb at *
  obtain ⟨w1, hw1⟩ : ∃ w1, w1 = w.alloc (.cells #[.int .i64 vk, .int .i64 vn, .string vs] 70) := ⟨_, rfl⟩
  have hr1 : Rb w w1 := by rw [hw1]; exact (Below.refl _ w).alloc (Nat.le_refl _) _
  have x0 : w1.cell? ⟨w.heap.size, 0, none⟩ = some (.int .i64 vk) := by rw [hw1]; simp
  have x1 : w1.cell? ⟨w.heap.size, 1, none⟩ = some (.int .i64 vn) := by rw [hw1]; simp
  have x2 : w1.cell? ⟨w.heap.size, 2, none⟩ = some (.string vs) := by rw [hw1]; simp
  have y1 := cell_rb hr1 z1
  have y2 := cell_rb hr1 z2
  have t2 := cell_rb hr1 hb
  have hki : (k : Int) < (L.length : Int) := by omega
  have HR1 := Lib.hid hr1
  have HW1 := Lib.hid hw1
  clear hb hr hcell z0 z1 z2 hcx hok hr1 hw1 hk
  have mixed : Tryd.prog.follows Departure.mixedOrders = true := by kernel_rfl
  go_enter Tryd.func63, Tryd.ntmps63
  go_upto_region 1 with (fail)
  rw [← HW1.out]
  go_region_with (go_at_call 55; refine (hcl _).mono ?_; rintro e w2 ⟨rfl, hb2⟩)
  all_goals
    have HB2 := Lib.hid (Rb.trans _ _ _ HR1.out (Rb.trans _ _ _ (Rb.drew w1) hb2))
    clear hb2 hcl x0 x1 x2 y1 y2 t2
    go_wp2
    go_ret
    exact ⟨rfl, HB2.out⟩

theorem all_of_range {L : List ColD} {R : List ValD} (hl : L.length = R.length) {b : Bool} (h : (b = true ∧ ∀ k, k < R.length → fitsV (L.getD k ⟨⟨#[]⟩, 0, 0⟩) (R.getD k ⟨0, 0, ⟨#[]⟩⟩) = true) ∨ (b = false ∧ ∃ k, k < R.length ∧ fitsV (L.getD k ⟨⟨#[]⟩, 0, 0⟩) (R.getD k ⟨0, 0, ⟨#[]⟩⟩) = false)) : b = fitsRow L R := by
  have hz := zipAll_iff (p := fitsV) hl
  rcases h with ⟨rfl, h⟩ | ⟨rfl, k, hk, h⟩
  · refine (hz.2 fun k h1 h2 => ?_).symm
    have := h k h2
    rwa [List.getD_eq_getElem?_getD, List.getElem?_eq_getElem h1, List.getD_eq_getElem?_getD, List.getElem?_eq_getElem h2] at this
  · rw [eq_comm, Bool.eq_false_iff]
    intro ht
    have := hz.1 ht k (by omega) hk
    rw [List.getD_eq_getElem?_getD, List.getElem?_eq_getElem (by omega), List.getD_eq_getElem?_getD, List.getElem?_eq_getElem hk] at h
    simp only [Option.getD_some] at h
    rw [h] at this
    cases this

set_option maxRecDepth 100000 in
set_option maxHeartbeats 2000000 in
theorem fitsrow_any (nm : ByteArray) (rws : Int) (cv : Value) (L : List ColD) (R : List ValD) (v : Value) (w : World) (h : Cols w cv L) (hv : Vals w v R) (hok : ∀ q ∈ R, ValOk q) :
    Calls Tryd.prog 30 #[tabV ⟨nm, rws, cv, L⟩, v] w fun e w' => e = .returned (.bool (fitsRow L R)) ∧ Rb w w' := by
  obtain ⟨ao, cap, rfl, h1, h2⟩ := Row3.form h
  obtain ⟨bo, cap2, rfl, h3, h4⟩ := Row3.form hv
  have hr : Rb w (w.alloc (.cells #[.string nm, .int .i64 rws, .slice ao L.length cap] 25)) := (Below.refl _ w).alloc (Nat.le_refl _) _
  have HR := Lib.hid hr
  unfold maxLen at h2 h4
  have hmf : ∀ (fn : Fn) (first cap : Array Value) (w : World), (Instr.makeFunc fn first cap).run Tryd.prog w = .ok (.func fn first cap) w := fun _ _ _ _ => rfl
  by_cases hl : L.length = R.length
  · have hfalse : ∀ w1 w2, Fr (fun _ => False) w1 w2 → Rb w1 w2 := fun w1 w2 hf => hf.rb fun k hk => hk.elim
    have x2 : (w.alloc (.cells #[.string nm, .int .i64 rws, .slice ao L.length cap] 25)).cell? ⟨w.heap.size, 2, none⟩ = some (.slice ao L.length cap) := by simp
    have hcl := everyF_any R (.slice bo R.length cap2) (w.alloc (.cells #[.string nm, .int .i64 rws, .slice ao L.length cap] 25)) w.heap.size (fun _ => False) (fun _ _ => True) (fun k => fitsV (L.getD k ⟨⟨#[]⟩, 0, 0⟩) (R.getD k ⟨0, 0, ⟨#[]⟩⟩))
      (fun w' hf => Row3.rb hv (Rb.trans _ _ _ hr (hfalse _ _ hf))) trivial (fun _ _ _ _ _ => trivial)
      (fun k hk w1 hf _ => by
        have hw := hfalse _ _ hf
        have hkl : k < L.length := by omega
        have := fits1_any k R[k] w.heap.size (.slice ao L.length cap) L w1 (cell_rb hw x2) (Row3.rb h (Rb.trans _ _ _ hr hw)) hkl (hok _ (List.getElem_mem hk))
        simp only [List.getD_eq_getElem?_getD, List.getElem?_eq_getElem hk, List.getElem?_eq_getElem hkl, Option.getD_some]
        exact this.mono fun e w2 ⟨he, hb⟩ => ⟨he, Fr.of_rb hb, fun _ => trivial⟩)
    have HFA := Lib.hid hfalse
    have HL := Lib.hid hl
    have HAR := Lib.hid (fun (b : Bool) => all_of_range (b := b) hl)
    rw [hl] at hcl HR ⊢
    have hbl : ((R.length : Int) == (R.length : Int)) = true := by simp
    clear h hv hr h1 h3 hfalse x2 hl hok
    go_enter Tryd.func30, Tryd.ntmps30
    go_wp2_with fail
    refine hcl.mono ?_
    rintro e w2 ⟨hf, ⟨hall, rfl, -⟩ | ⟨hex, rfl⟩⟩
    · have HP := Lib.hid (HAR.out true (.inl ⟨rfl, hall⟩))
      have HB2 := Lib.hid (Rb.trans _ _ _ HR.out (HFA.out _ _ hf))
      clear hf hall hcl
      go_wp2
      go_ret
      exact ⟨ret_bool HP.out, HB2.out⟩
    · have HP := Lib.hid (HAR.out false (.inr ⟨rfl, hex⟩))
      have HB2 := Lib.hid (Rb.trans _ _ _ HR.out (HFA.out _ _ hf))
      clear hf hex hcl
      go_wp2
      go_ret
      exact ⟨ret_bool HP.out, HB2.out⟩
  · have HP := Lib.hid (zipAll_len (p := fitsV) hl)
    have hbl : ((R.length : Int) == (L.length : Int)) = false := by rw [beq_eq_false_iff_ne]; omega
    clear h hv hr h1 h3 hl hok
    go_enter Tryd.func30, Tryd.ntmps30
    go_wp2
    go_ret
    exact ⟨ret_bool HP.out.symm, HR.out⟩

set_option maxRecDepth 100000 in
set_option maxHeartbeats 2000000 in
theorem reffitsrow_any (nm : ByteArray) (rws : Int) (cv : Value) (L : List ColD) (R : List ValD) (v : Value) (w : World) (h : Cols w cv L) (hv : Vals w v R) (hok : ∀ q ∈ R, ValOk q) :
    Calls Tryd.prog 31 #[tabV ⟨nm, rws, cv, L⟩, v] w fun e w' => e = .returned (.bool (fitsRow L R)) ∧ Rb w w' := by
  obtain ⟨ao, cap, rfl, h1, h2, hra⟩ := h
  obtain ⟨bo, cap2, rfl, h3, h4, hrb⟩ := hv
  have hr : Rb w (w.alloc (.cells #[.string nm, .int .i64 rws, .slice ao L.length cap] 25)) := (Below.refl _ w).alloc (Nat.le_refl _) _
  have HR := Lib.hid hr
  unfold maxLen at h2 h4
  by_cases hl : L.length = R.length
  · have HL := Lib.hid hl
    have HA := Lib.hid hra
    have HBB := Lib.hid hrb
    have HOK := Lib.hid hok
    rw [hl] at HR ⊢
    have ha9 : R.length ≤ 9223372036854775807 := by omega
    have mixed : Tryd.prog.follows Departure.mixedOrders = true := by kernel_rfl
    clear hl hra hrb h1 h3 hok hr
    go_enter Tryd.func31, Tryd.ntmps31
    go_upto_region 4 with (fail)
    obtain ⟨w1, hw1⟩ : ∃ w1, w1 = w.alloc (.cells #[.string nm, .int .i64 rws, .slice ao R.length cap] 25) := ⟨_, rfl⟩
    have HR1 := HR.out
    rw [← hw1] at HR1 ⊢
    have X2 := Lib.hid (show w1.cell? ⟨w.heap.size, 2, none⟩ = some (.slice ao R.length cap) by rw [hw1]; simp)
    have HR2 := Lib.hid HR1
    clear hw1 HR HR1
    generalize w.heap.size = TB at *
    go_loopw [15] (fun i wr => ∃ k : Nat, k ≤ R.length ∧ i = .int .i64 k ∧ Hid (fitsRow L R = zipAll fitsV (L.drop k) (R.drop k)) ∧ Rb w1 wr) (fun i _ => R.length - (intOf i).toNat)
    case atStart => exact ⟨0, Nat.zero_le _, rfl, rfl, Rb.refl _⟩
    case round =>
      obtain ⟨k, hk, rfl, hs, hb⟩ := hrel
      have HB := Lib.hid hb
      by_cases hlt : k < R.length
      · have hlb : k < L.length := by have := HL.out; omega
        obtain ⟨ab, aoff, rfl, hca⟩ := HA.out (by omega)
        obtain ⟨bb, boff, rfl, hcb⟩ := HBB.out (by omega)
        obtain ⟨z0, z1, z2⟩ := hca k hlb
        obtain ⟨t0, t1, t2⟩ := hcb k hlt
        have hwb := Rb.trans _ _ _ HR2.out hb
        have y1 := cell_rb hwb z1
        have y2 := cell_rb hwb z2
        have u0 := cell_rb hwb t0
        have u1 := cell_rb hwb t1
        have u2 := cell_rb hwb t2
        have v2 := cell_rb hb X2.out
        obtain ⟨c, hx⟩ : ∃ x, x = L[k] := ⟨_, rfl⟩
        obtain ⟨q, hy⟩ : ∃ y, y = R[k] := ⟨_, rfl⟩
        rw [← hx] at y1 y2
        rw [← hy] at u0 u1 u2
        obtain ⟨p1, p2⟩ := zipAll_drop hlb hlt hx hy hs.out
        have P1 := Lib.hid p1
        have P2 := Lib.hid p2
        have hqs := (HOK.out q (by rw [hy]; exact List.getElem_mem hlt)).s
        have hkl : (k : Int) < (R.length : Int) := by omega
        clear z0 z1 z2 t0 t1 t2 hca hcb p1 p2 hs hx hy hb hwb
        unfold fitsV at P1 P2
        obtain ⟨cn, ck, cm⟩ := c
        obtain ⟨qk, qn, qs⟩ := q
        dsimp only at y1 y2 u0 u1 u2 P1 P2 hqs
        have hcl := fun w => reffits_any qk qn qs ck cm w hqs
        generalize fitsB qk qn qs.data.toList ck cm = fb at *
        go_wp2_with (refine wpList_store rfl 70 _ _ rfl wr.heap.size 0 _ _ [_, _, _] _ rfl rfl (Blk.new wr 70 [_, _, _]) rfl sizeV (by simp) (oneV _ _ _) ?_)
        intro w3 hb3 hw3
        have hr3 := hw3.rb_new
        have HB3 := Lib.hid (Rb.trans _ _ _ HB.out hr3)
        obtain ⟨q0, q1, q2⟩ := hb3.c3
        have k1 := cell_rb hr3 y1
        have k2 := cell_rb hr3 y2
        have k3 := cell_rb hr3 v2
        clear hb3 hw3 hr3 y1 y2 u0 u1 u2 v2
        go_upto_region 6 with (fail)
        go_cut [28] from 20 (fun p wx => p = .bool (!fb) ∧ Rb w3 wx)
        · rename_i J K' hJ hK
          go_region_with (go_at_call 57; refine (hcl _).mono ?_; rintro e w4 ⟨rfl, hb4⟩)
          all_goals
            go_wp2_with fail
            go_meet
            exact ⟨rfl, Rb.trans _ _ _ (Rb.drew w3) hb4⟩
        obtain ⟨rfl, hr4⟩ := hcut
        generalize wc = w4 at *
        have HB4 := Lib.hid (Rb.trans _ _ _ HB3.out hr4)
        clear hr4 hcl q0 q1 q2 k1 k2 k3
        cases fb with
        | false =>
          have HP := Lib.hid (P1.out rfl)
          go_wp2
          go_ret
          exact ⟨ret_bool HP.out.symm, Rb.trans _ _ _ HR2.out HB4.out⟩
        | true =>
          have HP := Lib.hid (P2.out rfl)
          go_wp2
          go_roundw
          case rel => exact ⟨k + 1, by omega, by go_num, HP.out, HB4.out⟩
          case measure => simp [intOf]; omega
      · have HP := Lib.hid (zipAll_end (by have := HL.out; omega) (by omega) hs.out)
        clear hs hb
        go_wp2
        go_ret
        exact ⟨ret_bool HP.out.symm, Rb.trans _ _ _ HR2.out HB.out⟩
  · have HP := Lib.hid (zipAll_len (p := fitsV) hl)
    have hbl : ((R.length : Int) == (L.length : Int)) = false := by rw [beq_eq_false_iff_ne]; omega
    clear hl hra hrb h1 h3 hok hr
    go_enter Tryd.func31, Tryd.ntmps31
    go_wp2
    go_ret
    exact ⟨ret_bool HP.out.symm, HR.out⟩
end Go.Proofs.YtolfeellcdoopaaDoor.L6
