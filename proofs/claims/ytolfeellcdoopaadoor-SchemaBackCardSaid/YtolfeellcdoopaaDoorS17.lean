/-
  Layer 6: rows that the call makes; rowOf; zero rows.
-/
import Derived.Test.YtolfeellcdoopaaDoorS3
import Derived.Test.YtolfeellcdoopaaDoorS0
import Derived.Test.YtolfeellcdoopaaDoorVD
namespace Go.Proofs.YtolfeellcdoopaaDoor.L6
open Go.ChangeShapes Go.WideShapes Go.ChangeAt Go.RowKit Oct By Reg Val
set_option linter.unusedVariables false
set_option linter.unusedSimpArgs false

abbrev cells3 (v : ValD) : List Value := [.int .i64 v.k, .int .i64 v.n, .string v.s]
def flat3 (l : List ValD) : List Value := l.flatMap cells3
theorem flat3_len : ∀ l : List ValD, (flat3 l).length = l.length * 3
  | [] => rfl
  | p :: l => by
    have := flat3_len l
    simp only [flat3, List.flatMap_cons, List.length_append, List.length_cons, List.length_nil] at this ⊢
    rw [this]; omega
theorem flat3_append (a b : List ValD) : flat3 (a ++ b) = flat3 a ++ flat3 b := by unfold flat3; simp
theorem flat3_get : ∀ (l : List ValD) (k : Nat) (hk : k < l.length), (flat3 l)[k * 3]? = some (.int .i64 l[k].k) ∧ (flat3 l)[k * 3 + 1]? = some (.int .i64 l[k].n) ∧ (flat3 l)[k * 3 + 2]? = some (.string l[k].s)
  | [], k, h => by simp at h
  | p :: l, 0, h => ⟨rfl, rfl, rfl⟩
  | p :: l, k + 1, h => by
    have := flat3_get l k (by simpa using h)
    rw [show (k + 1) * 3 = k * 3 + 1 + 1 + 1 by omega]
    exact this
/-- a row that the call made -/
def VRow (w : World) (B : Nat) (v : Value) (l : List ValD) : Prop := w.ownsRow B 70 3 v l.length (flat3 l)
theorem VRow.vals {w : World} {B : Nat} {v : Value} {l : List ValD} (h : VRow w B v l) : Vals w v l := by
  have h0 := h
  rcases h.2 with ⟨rfl, h2⟩ | ⟨g, cap, cur, rfl, h2, h3, h4, h5, h6, h7⟩
  · have : l = [] := List.eq_nil_of_length_eq_zero h2
    subst this
    exact ⟨none, 0, rfl, Nat.le_refl _, Nat.zero_le _, fun h => absurd h (Nat.lt_irrefl _)⟩
  · refine ⟨_, cap, rfl, h4, h5, fun _ => ⟨g, 0, rfl, fun k hk => ?_⟩⟩
    have hc := World.ownsRow.cells h0 (g := g) rfl
    obtain ⟨c0, c1, c2⟩ := flat3_get l k hk
    have a0 := hc _ _ c0
    have a1 := hc _ _ c1
    have a2 := hc _ _ c2
    rw [Addr.add_lit] at a0 a1 a2
    exact ⟨a0, by rw [Nat.add_assoc]; exact a1, by rw [Nat.add_assoc]; exact a2⟩
theorem VRow.of {w : World} {B : Nat} {v : Value} {n : Nat} {l : List ValD} (h : w.ownsRow B 70 3 v n (flat3 l)) (hn : n = l.length) : VRow w B v l := by
  subst hn; exact h
theorem owns_same {w w' : World} {B : Nat} {e : TypeId} {s : Nat} {v : Value} {n : Nat} {xs : List Value} (h : w.ownsRow B e s v n xs) (hb : ∀ k, v.ownBlock = some k → w'.heap[k]? = w.heap[k]?) : w'.ownsRow B e s v n xs := by
  refine ⟨h.1, ?_⟩
  rcases h.2 with h0 | ⟨g, cap, cur, rfl, h2, h3, h4⟩
  · exact .inl h0
  · exact .inr ⟨g, cap, cur, rfl, h2, by rw [hb g rfl]; exact h3, h4⟩
/-- what a call that turns F's blocks keeps of a row of the caller's own -/
theorem owns_fr {F : Nat → Prop} {w w' : World} {B : Nat} {e : TypeId} {s : Nat} {v : Value} {n : Nat} {xs : List Value} (h : w.ownsRow B e s v n xs) (hf : Fr F w w') (hF : ∀ k, F k → k < B) : w'.ownsRow B e s v n xs :=
  owns_same h fun k hk => hf.block k (World.ownsRow.lt h k hk).2 fun hfk => by have := hF k hfk; have := (World.ownsRow.lt h k hk).1; omega
def zeroV (c : ColD) : ValD := ⟨if rightTypeB c.kind c.max = true then c.kind else 0, 0, ⟨#[]⟩⟩
theorem cells3_one (v : ValD) : ∀ u ∈ cells3 v, u.oneCell' = true := by
  intro u hu; simp at hu; rcases hu with rfl | rfl | rfl <;> rfl
theorem map_range_succ (f : Nat → ValD) (k : Nat) : (List.range (k + 1)).map f = (List.range k).map f ++ [f k] := by
  rw [List.range_succ, List.map_append]; rfl

set_option maxRecDepth 100000 in
set_option maxHeartbeats 4000000 in
theorem rowofZ_any (nm : ByteArray) (rws : Int) (cv : Value) (L : List ColD) (w : World) (F : Nat → Prop) (I : Nat → World → Prop) (J : World → Prop) (made : Nat → ValD) (okk : Nat → Bool)
    (hlen : L.length ≤ 1000) (hcv : ∀ w', Fr F w w' → Cols w' cv L) (hF : ∀ k, F k → k < w.heap.size) (hI0 : I 0 w)
    (hI : ∀ k w1 w2, I k w1 → Fr (fun b => w.heap.size ≤ b) w1 w2 → w.heap.size ≤ w1.heap.size → I k w2)
    (hJ : ∀ w1 w2, J w1 → Rb w1 w2 → J w2)
    (hcall : ∀ k (hk : k < L.length) w1, Fr F w w1 → I k w1 → Calls Tryd.prog 49 #[.agg #[.int .i64 L[k].kind, .int .i64 L[k].max]] w1 fun e w2 => e = .returned (.tuple #[valV3 (made k), .bool (okk k)]) ∧ Fr F w1 w2 ∧ (okk k = true → I (k + 1) w2) ∧ J w2) :
    Calls Tryd.prog 48 #[tabV ⟨nm, rws, cv, L⟩, .func (.func 49) #[] #[]] w fun e w' => Fr F w w' ∧
      ((∃ v, (∀ k, k < L.length → okk k = true) ∧ e = .returned (.tuple #[v, .bool true]) ∧ VRow w' w.heap.size v ((List.range L.length).map made) ∧ I L.length w') ∨
       ((∃ k, k < L.length ∧ okk k = false) ∧ e = .returned (.tuple #[.slice none 0 0, .bool false]) ∧ J w')) := by
  have hc0 := hcv w (Fr.refl F w)
  obtain ⟨ao, cap, rfl, h1, h2, hr0⟩ := hc0
  have HCV := Lib.hid hcv
  have HF := Lib.hid hF
  have HI := Lib.hid hI
  have HJ := Lib.hid hJ
  have HCL := Lib.hid hcall
  have hrb0 : Rb w (w.alloc (.cells #[.string nm, .int .i64 rws, .slice ao L.length cap] 25)) := (Below.refl _ w).alloc (Nat.le_refl _) _
  have HB0 := Lib.hid (Fr.of_rb (F := F) hrb0)
  have HI0 := Lib.hid (hI 0 w _ hI0 (Fr.of_rb hrb0) (Nat.le_refl _))
  obtain ⟨i0, hi0, hz0, hz1, hz2⟩ := info_parts infoV3
  have Hi := Lib.hid hi0
  have Hz := Lib.hid hz0
  have Hz1 := Lib.hid hz1
  have Hz2 := Lib.hid hz2
  unfold maxLen at h2
  have h9 : L.length ≤ 9223372036854775807 := by omega
  have hbyte := Lib.hid hlen
  clear hcv hF hI hJ hcall hI0 hr0 hrb0 hi0 hz0 hz1 hz2
  go_enter Tryd.func48, Tryd.ntmps48
  go_wp2
  go_loopw [6, 14] (fun p i wr => ∃ k : Nat, k ≤ L.length ∧ i = .int .i64 k ∧ Hid (∀ j, j < k → okk j = true) ∧ wr.ownsRow w.heap.size 70 3 p k (flat3 ((List.range k).map made)) ∧ Hid (I k wr) ∧ Fr F w wr) (fun _ i _ => L.length - (intOf i).toNat)
  case atStart => exact ⟨0, Nat.zero_le _, rfl, fun j hj => absurd hj (Nat.not_lt_zero _), World.ownsRow_nil _ _ _ _, HI0, HB0.out⟩
  case round =>
    obtain ⟨k, hk, rfl, hall, ho, hIk, hf⟩ := hrel
    have HO := Lib.hid ho
    have HFR := Lib.hid hf
    have hsz := hf.size
    clear ho
    by_cases hlt : k < L.length
    · have hck := HCV.out wr hf
      obtain ⟨ao', cap', ee, _, _, hr⟩ := hck
      simp only [Value.slice.injEq] at ee
      obtain ⟨rfl, -, rfl⟩ := ee
      obtain ⟨b, o, rfl, hc⟩ := hr (by omega)
      obtain ⟨y0, y1, y2⟩ := hc k hlt
      obtain ⟨c, hcx⟩ : ∃ c, c = L[k] := ⟨_, rfl⟩
      have hcl := HCL.out k hlt
      rw [← hcx] at y0 y1 y2 hcl
      obtain ⟨q, hq⟩ : ∃ q, q = made k := ⟨_, rfl⟩
      rw [← hq] at hcl
      have HQ := Lib.hid hq
      clear hc hr hcx hq hf
      obtain ⟨cn, ck, cm⟩ := c
      obtain ⟨qk, qn, qs⟩ := q
      dsimp only at y0 y1 y2 hcl
      go_wp2_with (refine wpList_store rfl 57 _ _ rfl wr.heap.size 0 _ _ [_, _, _] _ rfl rfl (Blk.new wr 57 [_, _, _]) rfl sizeC (by simp) (oneC _ _ _) ?_)
      intro w1 hb1 hw1
      have hr1 := hw1.rb_new
      have HR1 := Lib.hid hr1
      obtain ⟨x0, x1, x2⟩ := hb1.c3
      have hI1 := HI.out k wr w1 hIk.out (Fr.of_rb hr1) hsz
      have hcl1 := hcl w1 (HFR.out.then_rb hr1) hI1
      have HO1 := Lib.hid (owns_below HO.out hr1)
      clear hb1 hw1 y0 y1 y2 hr1 hI1 hcl
      obtain ⟨kk, hkk⟩ : ∃ kk, kk = okk k := ⟨_, rfl⟩
      rw [← hkk] at hcl1
      have HKK := Lib.hid hkk
      clear hkk
      go_wp2_with fail
      refine hcl1.mono ?_
      rintro e w2 ⟨rfl, hf2, hI2, hJ2⟩
      have HJ2 := Lib.hid hJ2
      clear hJ2
      have HFR2 := Lib.hid ((HFR.out.then_rb HR1.out).trans hf2 (fun g hg => .inl hg))
      have HO2 := Lib.hid (owns_fr HO1.out hf2 HF.out)
      have HI2 := Lib.hid hI2
      clear hf2 hI2 hcl1 x0 x1 x2
      go_wp2_with (refine wpList_store rfl 70 _ _ rfl w2.heap.size 0 _ _ [_, _, _] _ rfl rfl (Blk.new w2 70 [_, _, _]) rfl sizeV (by simp) (oneV _ _ _) ?_)
      intro w3 hb3 hw3
      have hr3 := hw3.rb_new
      have HFR3 := Lib.hid (HFR2.out.then_rb hr3)
      have HO3 := Lib.hid (owns_below HO2.out hr3)
      obtain ⟨x0, x1, x2⟩ := hb3.c3
      have HR3 := Lib.hid hr3
      clear hb3 hw3 hr3
      cases kk with
      | false =>
        have HE : Hid (∃ k, k < L.length ∧ okk k = false) := ⟨k, hlt, HKK.out.symm⟩
        have HJ3 := Lib.hid (HJ.out _ _ HJ2.out HR3.out)
        go_wp2
        go_ret2
        exact ⟨HFR3.out, .inr ⟨HE.out, rfl, HJ3.out⟩⟩
      | true =>
        have hsz3 := HFR3.out.size
        have HO4 := Lib.hid (World.ownsRow.alloc HO3.out (.cells (cells3 ⟨qk, qn, qs⟩).toArray 70))
        have HFR4 := Lib.hid (HFR3.out.alloc (.cells (cells3 ⟨qk, qn, qs⟩).toArray 70))
        have hby := hbyte.out
        go_wp2_with (at_builtin; (refine wpList_append_own _ rfl _ _ 39 rfl w.heap.size 70 i0 (.agg #[.int .i64 0, .int .i64 0, .string ⟨#[]⟩]) 3 32 Tryd.underlying39 Hi.out Hz.out Hz1.out Hz2.out rfl (by decide) _ k _ rfl HO4.out ⟨w3.heap.size, 0, none⟩ 1 1 (cells3 ⟨qk, qn, qs⟩) rfl rfl (cells_new _ _ _ (by simp [maxLen])) (cells3_one _) (by unfold maxLen; omega) (by omega) (HFR4.out.size) ?_))
        intro v' w4 ho hg hnil
        have hfl : flat3 ((List.range k).map made) ++ cells3 ⟨qk, qn, qs⟩ = flat3 ((List.range (k + 1)).map made) := by
          rw [map_range_succ, flat3_append, ← HQ.out]
          simp [flat3]
        rw [hfl] at ho
        obtain ⟨g', cap', rfl⟩ := owns_form ho (by omega)
        have HO5 := Lib.hid ho
        have hfr5 := HFR4.out.grown hg (fun b hb => .inr (HO4.out.lt b hb).1)
        have HFR5 := Lib.hid hfr5
        have hI3 := HI2.out (by trivial)
        have hfw : Fr (fun b => w.heap.size ≤ b) w2 w4 := ((Fr.of_rb HR3.out).alloc (.cells (cells3 ⟨qk, qn, qs⟩).toArray 70)).grown hg (fun b hb => .inl (HO4.out.lt b hb).1)
        have HI4 : Hid (I (k + 1) w4) := HI.out (k + 1) w2 w4 hI3 hfw HFR2.out.size
        have HALL : Hid (∀ j, j < k + 1 → okk j = true) := fun j hj => by
          by_cases hjk : j < k
          · exact hall.out j hjk
          · rw [show j = k by omega]; exact HKK.out.symm
        clear ho hg hnil hfl hfr5 hI3 hfw x0 x1 x2 hby hsz3
        go_wp2
        go_roundw
        case rel => exact ⟨k + 1, by omega, by go_num, HALL, HO5.out, HI4, HFR5.out⟩
        case measure => simp [intOf]; omega
    · have hkl : k = L.length := by omega
      have HKL := Lib.hid hkl
      clear hf hkl
      have HV : Hid (∀ j, j < L.length → okk j = true) := by rw [← HKL.out]; exact hall
      have HRW := VRow.of HO.out (by simp)
      rw [HKL.out] at HRW
      have HRX := Lib.hid HRW
      have HIK : Hid (I L.length wr) := by rw [← HKL.out]; exact hIk
      clear hall hIk HRW
      go_wp2
      go_ret2
      exact ⟨HFR.out, .inl ⟨_, HV.out, rfl, HRX.out, HIK.out⟩⟩

set_option maxRecDepth 100000 in
set_option maxHeartbeats 4000000 in
theorem rowofG_any (nm : ByteArray) (rws : Int) (cv : Value) (L : List ColD) (w : World) (Bb Bn : Nat) (F : Nat → Prop) (I : Nat → World → Prop) (J : World → Prop) (made : Nat → ValD) (okk : Nat → Bool)
    (hlen : L.length ≤ 1000) (hcv : ∀ w', Fr F w w' → Cols w' cv L) (hF : ∀ k, F k → k < w.heap.size) (hI0 : I 0 w)
    (hI : ∀ k w1 w2, I k w1 → Fr (fun b => w.heap.size ≤ b) w1 w2 → w.heap.size ≤ w1.heap.size → I k w2)
    (hJ : ∀ w1 w2, J w1 → Rb w1 w2 → J w2)
    (hcall : ∀ k (hk : k < L.length) w1, Fr F w w1 → I k w1 → Calls Tryd.prog 53 #[.agg #[.int .i64 L[k].kind, .int .i64 L[k].max], .pointer (some ⟨Bb, 0, none⟩), .pointer (some ⟨Bn, 0, none⟩)] w1 fun e w2 => e = .returned (.tuple #[valV3 (made k), .bool (okk k)]) ∧ Fr F w1 w2 ∧ (okk k = true → I (k + 1) w2) ∧ J w2) :
    Calls Tryd.prog 48 #[tabV ⟨nm, rws, cv, L⟩, .func (.func 53) #[] #[.pointer (some ⟨Bb, 0, none⟩), .pointer (some ⟨Bn, 0, none⟩)]] w fun e w' => Fr F w w' ∧
      ((∃ v, (∀ k, k < L.length → okk k = true) ∧ e = .returned (.tuple #[v, .bool true]) ∧ VRow w' w.heap.size v ((List.range L.length).map made) ∧ I L.length w') ∨
       ((∃ k, k < L.length ∧ okk k = false) ∧ e = .returned (.tuple #[.slice none 0 0, .bool false]) ∧ J w')) := by
  have hc0 := hcv w (Fr.refl F w)
  obtain ⟨ao, cap, rfl, h1, h2, hr0⟩ := hc0
  have HCV := Lib.hid hcv
  have HF := Lib.hid hF
  have HI := Lib.hid hI
  have HJ := Lib.hid hJ
  have HCL := Lib.hid hcall
  have hrb0 : Rb w (w.alloc (.cells #[.string nm, .int .i64 rws, .slice ao L.length cap] 25)) := (Below.refl _ w).alloc (Nat.le_refl _) _
  have HB0 := Lib.hid (Fr.of_rb (F := F) hrb0)
  have HI0 := Lib.hid (hI 0 w _ hI0 (Fr.of_rb hrb0) (Nat.le_refl _))
  obtain ⟨i0, hi0, hz0, hz1, hz2⟩ := info_parts infoV3
  have Hi := Lib.hid hi0
  have Hz := Lib.hid hz0
  have Hz1 := Lib.hid hz1
  have Hz2 := Lib.hid hz2
  unfold maxLen at h2
  have h9 : L.length ≤ 9223372036854775807 := by omega
  have hbyte := Lib.hid hlen
  clear hcv hF hI hJ hcall hI0 hr0 hrb0 hi0 hz0 hz1 hz2
  go_enter Tryd.func48, Tryd.ntmps48
  go_wp2
  go_loopw [6, 14] (fun p i wr => ∃ k : Nat, k ≤ L.length ∧ i = .int .i64 k ∧ Hid (∀ j, j < k → okk j = true) ∧ wr.ownsRow w.heap.size 70 3 p k (flat3 ((List.range k).map made)) ∧ Hid (I k wr) ∧ Fr F w wr) (fun _ i _ => L.length - (intOf i).toNat)
  case atStart => exact ⟨0, Nat.zero_le _, rfl, fun j hj => absurd hj (Nat.not_lt_zero _), World.ownsRow_nil _ _ _ _, HI0, HB0.out⟩
  case round =>
    obtain ⟨k, hk, rfl, hall, ho, hIk, hf⟩ := hrel
    have HO := Lib.hid ho
    have HFR := Lib.hid hf
    have hsz := hf.size
    clear ho
    by_cases hlt : k < L.length
    · have hck := HCV.out wr hf
      obtain ⟨ao', cap', ee, _, _, hr⟩ := hck
      simp only [Value.slice.injEq] at ee
      obtain ⟨rfl, -, rfl⟩ := ee
      obtain ⟨b, o, rfl, hc⟩ := hr (by omega)
      obtain ⟨y0, y1, y2⟩ := hc k hlt
      obtain ⟨c, hcx⟩ : ∃ c, c = L[k] := ⟨_, rfl⟩
      have hcl := HCL.out k hlt
      rw [← hcx] at y0 y1 y2 hcl
      obtain ⟨q, hq⟩ : ∃ q, q = made k := ⟨_, rfl⟩
      rw [← hq] at hcl
      have HQ := Lib.hid hq
      clear hc hr hcx hq hf
      obtain ⟨cn, ck, cm⟩ := c
      obtain ⟨qk, qn, qs⟩ := q
      dsimp only at y0 y1 y2 hcl
      go_wp2_with (refine wpList_store rfl 57 _ _ rfl wr.heap.size 0 _ _ [_, _, _] _ rfl rfl (Blk.new wr 57 [_, _, _]) rfl sizeC (by simp) (oneC _ _ _) ?_)
      intro w1 hb1 hw1
      have hr1 := hw1.rb_new
      have HR1 := Lib.hid hr1
      obtain ⟨x0, x1, x2⟩ := hb1.c3
      have hI1 := HI.out k wr w1 hIk.out (Fr.of_rb hr1) hsz
      have hcl1 := hcl w1 (HFR.out.then_rb hr1) hI1
      have HO1 := Lib.hid (owns_below HO.out hr1)
      clear hb1 hw1 y0 y1 y2 hr1 hI1 hcl
      obtain ⟨kk, hkk⟩ : ∃ kk, kk = okk k := ⟨_, rfl⟩
      rw [← hkk] at hcl1
      have HKK := Lib.hid hkk
      clear hkk
      go_wp2_with fail
      refine hcl1.mono ?_
      rintro e w2 ⟨rfl, hf2, hI2, hJ2⟩
      have HJ2 := Lib.hid hJ2
      clear hJ2
      have HFR2 := Lib.hid ((HFR.out.then_rb HR1.out).trans hf2 (fun g hg => .inl hg))
      have HO2 := Lib.hid (owns_fr HO1.out hf2 HF.out)
      have HI2 := Lib.hid hI2
      clear hf2 hI2 hcl1 x0 x1 x2
      go_wp2_with (refine wpList_store rfl 70 _ _ rfl w2.heap.size 0 _ _ [_, _, _] _ rfl rfl (Blk.new w2 70 [_, _, _]) rfl sizeV (by simp) (oneV _ _ _) ?_)
      intro w3 hb3 hw3
      have hr3 := hw3.rb_new
      have HFR3 := Lib.hid (HFR2.out.then_rb hr3)
      have HO3 := Lib.hid (owns_below HO2.out hr3)
      obtain ⟨x0, x1, x2⟩ := hb3.c3
      have HR3 := Lib.hid hr3
      clear hb3 hw3 hr3
      cases kk with
      | false =>
        have HE : Hid (∃ k, k < L.length ∧ okk k = false) := ⟨k, hlt, HKK.out.symm⟩
        have HJ3 := Lib.hid (HJ.out _ _ HJ2.out HR3.out)
        go_wp2
        go_ret2
        exact ⟨HFR3.out, .inr ⟨HE.out, rfl, HJ3.out⟩⟩
      | true =>
        have hsz3 := HFR3.out.size
        have HO4 := Lib.hid (World.ownsRow.alloc HO3.out (.cells (cells3 ⟨qk, qn, qs⟩).toArray 70))
        have HFR4 := Lib.hid (HFR3.out.alloc (.cells (cells3 ⟨qk, qn, qs⟩).toArray 70))
        have hby := hbyte.out
        go_wp2_with (at_builtin; (refine wpList_append_own _ rfl _ _ 39 rfl w.heap.size 70 i0 (.agg #[.int .i64 0, .int .i64 0, .string ⟨#[]⟩]) 3 32 Tryd.underlying39 Hi.out Hz.out Hz1.out Hz2.out rfl (by decide) _ k _ rfl HO4.out ⟨w3.heap.size, 0, none⟩ 1 1 (cells3 ⟨qk, qn, qs⟩) rfl rfl (cells_new _ _ _ (by simp [maxLen])) (cells3_one _) (by unfold maxLen; omega) (by omega) (HFR4.out.size) ?_))
        intro v' w4 ho hg hnil
        have hfl : flat3 ((List.range k).map made) ++ cells3 ⟨qk, qn, qs⟩ = flat3 ((List.range (k + 1)).map made) := by
          rw [map_range_succ, flat3_append, ← HQ.out]
          simp [flat3]
        rw [hfl] at ho
        obtain ⟨g', cap', rfl⟩ := owns_form ho (by omega)
        have HO5 := Lib.hid ho
        have hfr5 := HFR4.out.grown hg (fun b hb => .inr (HO4.out.lt b hb).1)
        have HFR5 := Lib.hid hfr5
        have hI3 := HI2.out (by trivial)
        have hfw : Fr (fun b => w.heap.size ≤ b) w2 w4 := ((Fr.of_rb HR3.out).alloc (.cells (cells3 ⟨qk, qn, qs⟩).toArray 70)).grown hg (fun b hb => .inl (HO4.out.lt b hb).1)
        have HI4 : Hid (I (k + 1) w4) := HI.out (k + 1) w2 w4 hI3 hfw HFR2.out.size
        have HALL : Hid (∀ j, j < k + 1 → okk j = true) := fun j hj => by
          by_cases hjk : j < k
          · exact hall.out j hjk
          · rw [show j = k by omega]; exact HKK.out.symm
        clear ho hg hnil hfl hfr5 hI3 hfw x0 x1 x2 hby hsz3
        go_wp2
        go_roundw
        case rel => exact ⟨k + 1, by omega, by go_num, HALL, HO5.out, HI4, HFR5.out⟩
        case measure => simp [intOf]; omega
    · have hkl : k = L.length := by omega
      have HKL := Lib.hid hkl
      clear hf hkl
      have HV : Hid (∀ j, j < L.length → okk j = true) := by rw [← HKL.out]; exact hall
      have HRW := VRow.of HO.out (by simp)
      rw [HKL.out] at HRW
      have HRX := Lib.hid HRW
      have HIK : Hid (I L.length wr) := by rw [← HKL.out]; exact hIk
      clear hall hIk HRW
      go_wp2
      go_ret2
      exact ⟨HFR.out, .inl ⟨_, HV.out, rfl, HRX.out, HIK.out⟩⟩

set_option maxRecDepth 100000 in
set_option maxHeartbeats 1000000 in
theorem zero1_any (k m : Int) (w : World) :
    Calls Tryd.prog 49 #[.agg #[.int .i64 k, .int .i64 m]] w fun e w' => e = .returned (.tuple #[valV3 (zeroV ⟨⟨#[]⟩, k, m⟩), .bool true]) ∧ Rb w w' := by
  have hz := fun w => zero_any k m w
  unfold zeroV
  dsimp only
  generalize (if rightTypeB k m = true then k else 0) = kk at *
  obtain ⟨wa, hwa⟩ : ∃ wa, wa = (w.alloc (.cells #[.int .i64 k, .int .i64 m] 55)).alloc (.cells #[.int .i64 0, .int .i64 0, .string ⟨#[]⟩] 70) := ⟨_, rfl⟩
  have hra : Rb w wa := by rw [hwa]; exact ((Below.refl _ w).alloc (Nat.le_refl _) _).alloc (by simp) _
  have hba : Blk wa (w.heap.size + 1) 70 [.int .i64 0, .int .i64 0, .string ⟨#[]⟩] := by
    rw [hwa]
    have := Blk.new (w.alloc (.cells #[.int .i64 k, .int .i64 m] 55)) 70 [.int .i64 0, .int .i64 0, .string ⟨#[]⟩]
    rw [show (w.alloc (.cells #[.int .i64 k, .int .i64 m] 55)).heap.size = w.heap.size + 1 by simp] at this
    exact this
  have HRA := Lib.hid hra
  have HBA := Lib.hid hba
  have HWA := Lib.hid hwa
  clear hwa hra hba
  go_enter Tryd.func49, Tryd.ntmps49
  go_wp2_with fail
  rw [← HWA.out]
  refine (hz _).mono ?_
  rintro e w2 ⟨rfl, hb2⟩
  have HB2 := Lib.hid hb2
  have hblk := HBA.out.rb hb2
  have HBK := Lib.hid hblk
  clear hb2 hblk hz
  go_wp2_with (refine wpList_store rfl 70 _ _ rfl (w.heap.size + 1) 0 _ _ [_, _, _] _ rfl rfl HBK.out rfl sizeV (by simp) (oneV _ _ _) ?_)
  intro w3 hb3 hw3
  obtain ⟨x0, x1, x2⟩ := hb3.c3
  have HRR : Hid (Rb w w3) := by
    have h2 := Rb.trans _ _ _ HRA.out HB2.out
    refine ⟨hw3.os.trans h2.os, hw3.tape.trans h2.tape, hw3.output.trans h2.output, by rw [hw3.size]; exact h2.size, fun j hj => ?_⟩
    rw [hw3.block j (by omega)]
    exact h2.block j hj
  clear hb3 hw3
  go_wp2
  exact bodyPost_ret (v := .tuple #[valV3 ⟨kk, 0, ⟨#[]⟩⟩, .bool true]) (by simp [results, Tryd.results49, go_sem, x0, x1, x2]) rfl ⟨rfl, HRR.out⟩

/-- a row for each column, made of the column alone -/
theorem range_map_zero (L : List ColD) (f : Nat → ValD) (h : ∀ k (hk : k < L.length), f k = zeroV L[k]) : (List.range L.length).map f = L.map zeroV := by
  apply List.ext_getElem
  · simp
  · intro i h1 h2
    simp at h1 h2
    rw [List.getElem_map, List.getElem_map, List.getElem_range]
    exact h i h1

set_option maxRecDepth 100000 in
set_option maxHeartbeats 1000000 in
theorem zero_row (nm : ByteArray) (rws : Int) (cv : Value) (L : List ColD) (w : World) (h : Cols w cv L) (hlen : L.length ≤ 1000) :
    Calls Tryd.prog 20 #[tabV ⟨nm, rws, cv, L⟩] w fun e w' => ∃ v, e = .returned v ∧ Vals w' v (L.map zeroV) ∧ Rb w w' := by
  obtain ⟨ao, cap, rfl, h1, h2⟩ := Row3.form h
  have hr : Rb w (w.alloc (.cells #[.string nm, .int .i64 rws, .slice ao L.length cap] 25)) := (Below.refl _ w).alloc (Nat.le_refl _) _
  have hfalse : ∀ w1 w2, Fr (fun _ => False) w1 w2 → Rb w1 w2 := fun w1 w2 hf => hf.rb fun k hk => hk.elim
  have hcl := rowofZ_any nm rws (.slice ao L.length cap) L (w.alloc (.cells #[.string nm, .int .i64 rws, .slice ao L.length cap] 25)) (fun _ => False) (fun _ _ => True) (fun _ => True) (fun k => zeroV (L.getD k ⟨⟨#[]⟩, 0, 0⟩)) (fun _ => true) hlen
    (fun w' hf => Row3.rb h (Rb.trans _ _ _ hr (hfalse _ _ hf))) (fun k hk => hk.elim) trivial (fun _ _ _ _ _ _ => trivial) (fun _ _ _ _ => trivial)
    (fun k hk w1 _ _ => by
      rw [List.getD_eq_getElem?_getD, List.getElem?_eq_getElem hk, Option.getD_some]
      exact (zero1_any L[k].kind L[k].max w1).mono fun e w2 ⟨he, hb⟩ => ⟨he, Fr.of_rb hb, fun _ => trivial, trivial⟩)
  have HR := Lib.hid hr
  have HX := Lib.hid (range_map_zero L (fun k => zeroV (L.getD k ⟨⟨#[]⟩, 0, 0⟩)) fun k hk => by rw [List.getD_eq_getElem?_getD, List.getElem?_eq_getElem hk, Option.getD_some])
  have HFA := Lib.hid hfalse
  clear h hr h1 h2 hfalse
  go_enter Tryd.func20, Tryd.ntmps20
  go_wp2_with fail
  refine hcl.mono ?_
  rintro e w2 ⟨hf, ⟨v, -, rfl, hv, -⟩ | ⟨⟨k, _, hk⟩, _, _⟩⟩
  · have HB2 := Lib.hid (Rb.trans _ _ _ HR.out (HFA.out _ _ hf))
    have HV := Lib.hid hv.vals
    rw [HX.out] at HV
    obtain ⟨ao2, cap2, e2, _, _⟩ := Row3.form HV.out
    rw [List.length_map] at e2
    subst e2
    clear hf hv hcl
    go_wp2
    go_ret
    exact ⟨_, rfl, HV.out, HB2.out⟩
  · cases hk

set_option maxRecDepth 100000 in
set_option maxHeartbeats 2000000 in
theorem refzero_row (nm : ByteArray) (rws : Int) (cv : Value) (L : List ColD) (w : World) (h : Cols w cv L) (hlen : L.length ≤ 1000) :
    Calls Tryd.prog 21 #[tabV ⟨nm, rws, cv, L⟩] w fun e w' => ∃ v, e = .returned v ∧ Vals w' v (L.map zeroV) ∧ Rb w w' := by
  obtain ⟨ao, cap, rfl, h1, h2, hr⟩ := h
  have HR := Lib.hid hr
  have HB0 := Lib.hid (show Rb w (w.alloc (.cells #[.string nm, .int .i64 rws, .slice ao L.length cap] 25)) from (Below.refl _ w).alloc (Nat.le_refl _) _)
  obtain ⟨i0, hi0, hz0, hz1, hz2⟩ := info_parts infoV3
  have Hi := Lib.hid hi0
  have Hz := Lib.hid hz0
  have Hz1 := Lib.hid hz1
  have Hz2 := Lib.hid hz2
  clear hr h1 h2 hi0 hz0 hz1 hz2
  go_enter Tryd.func21, Tryd.ntmps21
  go_wp2
  go_loopw [3, 9] (fun p i wr => ∃ k : Nat, k ≤ L.length ∧ i = .int .i64 k ∧ wr.ownsRow w.heap.size 70 3 p k (flat3 ((L.map zeroV).take k)) ∧ Rb w wr) (fun _ i _ => L.length - (intOf i).toNat)
  case atStart => exact ⟨0, Nat.zero_le _, rfl, World.ownsRow_nil _ _ _ _, HB0.out⟩
  case round =>
    obtain ⟨k, hk, rfl, ho, hb⟩ := hrel
    have HO := Lib.hid ho
    have HB := Lib.hid hb
    clear ho
    by_cases hlt : k < L.length
    · obtain ⟨b, o, rfl, hc⟩ := HR.out (by omega)
      obtain ⟨z0, z1, z2⟩ := hc k hlt
      have y0 := cell_rb hb z0
      have y1 := cell_rb hb z1
      have y2 := cell_rb hb z2
      obtain ⟨c, hcx⟩ : ∃ c, c = L[k] := ⟨_, rfl⟩
      rw [← hcx] at y0 y1 y2
      have hcl := fun w => refzero_any c.kind c.max w
      have hfl : flat3 ((L.map zeroV).take k) ++ cells3 (zeroV c) = flat3 ((L.map zeroV).take (k + 1)) := by
        rw [List.take_succ_eq_append_getElem (by rw [List.length_map]; exact hlt), flat3_append, List.getElem_map, ← hcx]
        simp [flat3]
      clear z0 z1 z2 hc hcx hb
      obtain ⟨cn, ck, cm⟩ := c
      have hzc : zeroV ⟨cn, ck, cm⟩ = ⟨if rightTypeB ck cm = true then ck else 0, 0, ⟨#[]⟩⟩ := rfl
      rw [hzc] at hfl
      dsimp only at y0 y1 y2 hcl
      clear hzc
      generalize (if rightTypeB ck cm = true then ck else 0) = kk at hcl hfl
      have HFL := Lib.hid hfl
      clear hfl
      go_wp2_with (refine wpList_store rfl 57 _ _ rfl wr.heap.size 0 _ _ [_, _, _] _ rfl rfl (Blk.new wr 57 [_, _, _]) rfl sizeC (by simp) (oneC _ _ _) ?_)
      intro w1 hb1 hw1
      have hr1 := hw1.rb_new
      have HR1 := Lib.hid (Rb.trans _ _ _ HB.out hr1)
      obtain ⟨x0, x1, x2⟩ := hb1.c3
      have HO1 := Lib.hid (owns_below HO.out hr1)
      clear hb1 hw1 y0 y1 y2 hr1
      go_wp2_with fail
      refine (hcl _).mono ?_
      rintro e w2 ⟨rfl, hb2⟩
      have HB2 := Lib.hid (Rb.trans _ _ _ HR1.out hb2)
      have HO2 := Lib.hid (owns_below HO1.out hb2)
      have HO4 := Lib.hid (World.ownsRow.alloc HO2.out (.cells #[.int .i64 kk, .int .i64 0, .string ⟨#[]⟩] 70))
      have HB4 := Lib.hid (Below.alloc HB2.out HB2.out.size (.cells #[.int .i64 kk, .int .i64 0, .string ⟨#[]⟩] 70))
      clear hb2 hcl x0 x1 x2
      go_wp2_with (at_builtin; (refine wpList_append_own _ rfl _ _ 39 rfl w.heap.size 70 i0 (.agg #[.int .i64 0, .int .i64 0, .string ⟨#[]⟩]) 3 32 Tryd.underlying39 Hi.out Hz.out Hz1.out Hz2.out rfl (by decide) _ k _ rfl HO4.out ⟨w2.heap.size, 0, none⟩ 1 1 (cells3 ⟨kk, 0, ⟨#[]⟩⟩) rfl rfl (cells_new _ _ _ (by simp [maxLen])) (cells3_one _) (by unfold maxLen; omega) (by omega) (HB4.out.size) ?_))
      intro v' w4 ho hg hnil
      rw [HFL.out] at ho
      obtain ⟨g', cap', rfl⟩ := owns_form ho (by omega)
      have HO5 := Lib.hid ho
      have HB5 := Lib.hid (HB4.out.grown hg HB4.out.size (fun b hb => (HO4.out.lt b hb).1))
      clear ho hg hnil
      go_wp2
      go_roundw
      case rel => exact ⟨k + 1, by omega, by go_num, HO5.out, HB5.out⟩
      case measure => simp [intOf]; omega
    · have hkl : k = L.length := by omega
      have HKL := Lib.hid hkl
      have h := HO.out
      rw [List.take_of_length_le (by rw [List.length_map]; omega)] at h
      have HV := Lib.hid (VRow.of h (by rw [List.length_map]; exact hkl)).vals
      clear h
      clear hkl hb
      go_wp2
      go_ret
      exact ⟨_, rfl, HV.out, HB.out⟩
end Go.Proofs.YtolfeellcdoopaaDoor.L6
