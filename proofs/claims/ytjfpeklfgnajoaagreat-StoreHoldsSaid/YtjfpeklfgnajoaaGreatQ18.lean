/-
  Layer 7: a claim's each, over back and over Changes' closure.
-/
import Derived.Test.YtjfpeklfgnajoaaGreatQ17
import Derived.Test.YtjfpeklfgnajoaaGreatM4
namespace Go.Proofs.YtjfpeklfgnajoaaGreat.L6
open Go.ChangeShapes Go.WideShapes Go.ChangeAt Go.RowKit By Reg Val Go.Shelf Go.MapKept
set_option linter.unusedVariables false
set_option linter.unusedSimpArgs false

theorem keys_made (w : World) (m : Nat) : Calls Tryz.prog 100 #[.map (some m)] w fun e w' => e = .returned (keysV w.heap.size) ∧ w' = w.alloc (.cells #[.map (some m)] 120) := by
  go_enter Tryz.func100, Tryz.ntmps100
  go_wp2
  go_ret
  exact ⟨rfl, rfl⟩

/-- what a round keeps: rows of spots -/
structure KeepSp (W W2 : World) : Prop where
  size : W.heap.size ≤ W2.heap.size
  spots : ∀ (n : Nat) (cs : Array Value) (m : Nat × Nat), W.heap[n]? = some (Obj.cells cs 111 m) → W2.heap[n]? = W.heap[n]?
theorem KeepSp.refl (W : World) : KeepSp W W := ⟨Nat.le_refl _, fun _ _ _ _ => rfl⟩
theorem KeepSp.trans {A B C : World} (h : KeepSp A B) (k : KeepSp B C) : KeepSp A C :=
  ⟨Nat.le_trans h.size k.size, fun n cs m hc => by
    have h1 := h.spots n cs m hc
    rw [k.spots n cs m (h1.trans hc), h1]⟩
theorem KeepSp.rb {A B : World} (h : Rb A B) : KeepSp A B := ⟨h.size, fun n cs m hc => h.block n (Array.getElem?_eq_some_iff.1 hc).1⟩
theorem KeepSp.fr {w w' : World} {F : Nat → Prop} (hf : Fr F w w') (hM : ∀ k, F k → k < w.heap.size → MutB w k) : KeepSp w w' := ⟨hf.size, fun n cs m hc => hf.block n (Array.getElem?_eq_some_iff.1 hc).1 fun hF => by
  rcases hM n hF (Array.getElem?_eq_some_iff.1 hc).1 with ⟨T, cs', hb, hT⟩ | h
  · unfold Blk at hb
    rw [hb] at hc
    simp only [Option.some.injEq, Obj.cells.injEq] at hc
    obtain ⟨-, rfl, -⟩ := hc
    rcases hT with (h | h | h | h | h) | h | h | h <;> exact absurd h (by decide)
  · obtain ⟨es, cl, hb⟩ := h
    rw [hb] at hc
    cases hc⟩
theorem SRow.keep {w w' : World} {B : Nat} {v : Value} {l : List Spot} (h : SRow w B v l) (k : KeepSp w w') : SRow w' B v l := by
  refine ⟨h.1, ?_⟩
  rcases h.2 with h0 | ⟨g, cap, cur, h1, h2, h3, h4⟩
  · exact .inl h0
  · exact .inr ⟨g, cap, cur, h1, h2, (k.spots g _ _ h3).trans h3, h4⟩
/-- a claim's spots, in order -/
def spotsOf (c : ClD) : List Spot := sortS (c.tch.map (·.1))
theorem spotsOf_mem {c : ClD} {x : Spot} : x ∈ spotsOf c ↔ ∃ y, (x, y) ∈ c.tch := by
  unfold spotsOf
  rw [(sortS_perm _).mem_iff, List.mem_map]
  constructor
  · rintro ⟨⟨a, b⟩, h, rfl⟩
    exact ⟨b, h⟩
  · rintro ⟨y, h⟩
    exact ⟨_, h, rfl⟩
/-- what was there -/
def wasOf (c : ClD) (x : Spot) : SV := (getM x c.tch).getD sv0

set_option maxRecDepth 100000 in
set_option maxHeartbeats 1000000 in
theorem each_back (w : World) (c : ClD) (st : Nat) (hcl : ClAt w c) (hl : c.tch.length ≤ 100000) (I : List Spot → World → Prop) (hI : ∀ pre W W', Rb W W' → I pre W → I pre W') (hC : ∀ pre W, I pre W → ClAt W c)
    (hdo : ∀ pre x r W, I pre W → spotsOf c = pre ++ x :: r → Calls Tryz.prog 74 #[ptrv st, spV x, sv (wasOf c x)] W fun e W' => (∃ u, e = .returned u) ∧ I (pre ++ [x]) W' ∧ KeepSp W W') (h0 : I [] w) :
    Calls Tryz.prog 73 #[ptrv c.b, .func (.func 74) #[ptrv st] #[]] w fun e w' => (∃ u, e = .returned u) ∧ I (spotsOf c) w' ∧ w.heap.size ≤ w'.heap.size := by
  have c3 := hcl.c3
  have hcl1 := hcl.rb ((Below.refl _ w).alloc (Nat.le_refl _) (.cells #[.map (some c.m)] 120))
  have CS := Lib.hid (sortedFunc_any (w.alloc (.cells #[.map (some c.m)] 120)) w.heap.size c.m c.tch hcl1.map ((Blk.new w 120 [.map (some c.m)]).cell 0) hl)
  have CK := Lib.hid (keys_made w c.m)
  have HI := Lib.hid hI
  have HC := Lib.hid hC
  have HD := Lib.hid hdo
  have H0 := Lib.hid h0
  obtain ⟨l, hle⟩ : ∃ l, l = spotsOf c := ⟨_, rfl⟩
  have HLE := Lib.hid hle
  have hll : l.length ≤ 100000 := by
    rw [hle]
    unfold spotsOf
    rw [(sortS_perm _).length_eq]
    simpa using hl
  have HOK : Hid (∀ x ∈ l, SpOk x) := fun x hx => by
    rw [hle] at hx
    obtain ⟨y, hy⟩ := spotsOf_mem.1 hx
    exact hcl.ok _ hy
  have HKK := Lib.hid hcl.ok
  clear hcl hcl1 hI hC hdo h0 hle
  go_enter Tryz.func73, Tryz.ntmps73
  go_wp2_with (go_at_call 100; refine CK.out.mono ?_; rintro e w2 ⟨rfl, rfl⟩)
  refine CS.out.mono ?_
  rintro e w1 ⟨v, rfl, hr, hb⟩
  have hl2 : sortS (c.tch.map (·.1)) = l := HLE.out.symm
  rw [hl2] at hr
  have hb' : Rb w w1 := Rb.trans _ _ _ ((Below.refl _ w).alloc (Nat.le_refl _) (.cells #[.map (some c.m)] 120)) hb
  obtain ⟨ao, cap, rfl⟩ : ∃ ao cap, v = .slice ao l.length cap := by
    rcases hr.form with ⟨rfl, rfl⟩ | ⟨g, cap, rfl, _⟩
    · exact ⟨none, 0, rfl⟩
    · exact ⟨_, cap, rfl⟩
  have A0 : Hid (SRow w1 (w.alloc (.cells #[.map (some c.m)] 120)).heap.size (.slice ao l.length cap) l ∧ I (l.take 0) w1 ∧ w.heap.size ≤ w1.heap.size) := ⟨hr, by simpa using HI.out _ _ _ hb' H0.out, hb'.size⟩
  clear hl2 hr hb hb' c3
  obtain ⟨B, hB⟩ : ∃ B, B = (w.alloc (.cells #[.map (some c.m)] 120)).heap.size := ⟨_, rfl⟩
  rw [← hB] at A0
  clear hB
  obtain ⟨n, hn⟩ : ∃ n, n = l.length := ⟨_, rfl⟩
  rw [← hn] at A0 hll ⊢
  have HN := Lib.hid hn
  clear hn
  go_wp2_with fail
  go_loopw [15] (fun p wr => ∃ (i : Nat), p = .int .i64 i ∧ i ≤ n ∧ Hid (SRow wr B (.slice ao n cap) l ∧ I (l.take i) wr ∧ w.heap.size ≤ wr.heap.size)) (fun p _ => n - (intOf p).toNat)
  case atStart => exact ⟨0, rfl, Nat.zero_le _, A0⟩
  case round =>
    obtain ⟨i, rfl, hin, hr⟩ := hrel
    by_cases h : i < n
    · obtain ⟨x, hx⟩ : ∃ x, x = l[i]'(by rw [← HN.out]; exact h) := ⟨_, rfl⟩
      obtain ⟨g, hg, y0, y1⟩ : ∃ g, ao = some ⟨g, 0, none⟩ ∧ wr.cell? ⟨g, i * 2, none⟩ = some (i64 x.1) ∧ wr.cell? ⟨g, i * 2 + 1, none⟩ = some (i64 x.2) := by
        rcases hr.out.1.form with ⟨_, h2⟩ | ⟨g, cap', h1, _, _, _, _, h7⟩
        · exfalso
          have := HN.out
          rw [h2] at this
          simp at this
          omega
        · simp only [Value.slice.injEq] at h1
          have := h7 i (by rw [← HN.out]; exact h)
          rw [← hx] at this
          exact ⟨g, h1.1, this.1, this.2⟩
      subst hg
      have hlx : l = l.take i ++ x :: l.drop (i + 1) := by
        rw [hx, ← List.drop_eq_getElem_cons (by rw [← HN.out]; exact h), List.take_append_drop]
      have hlt : l.take (i + 1) = l.take i ++ [x] := by
        conv => lhs; rw [hlx]
        have hti : (l.take i).length = i := by rw [List.length_take]; have := HN.out; omega
        rw [List.take_append, hti, List.take_of_length_le (by omega)]
        simp
      have hxm : x ∈ l := by rw [hlx]; simp
      have HX := Lib.hid (And.intro hlx (And.intro hlt hxm))
      clear hx hlx hlt hxm
      obtain ⟨x1, x2⟩ := x
      dsimp only at y0 y1
      obtain ⟨W, hW⟩ : ∃ W, W = wr.alloc (.cells #[i64 x1, i64 x2] 111) := ⟨_, rfl⟩
      have rW : Rb wr W := by rw [hW]; exact (Below.refl _ wr).alloc (Nat.le_refl _) _
      have bW : Blk W wr.heap.size 111 [i64 x1, i64 x2] := by rw [hW]; exact Blk.new wr _ [i64 x1, i64 x2]
      obtain ⟨bx, hbx⟩ : ∃ bx, bx = wr.heap.size := ⟨_, rfl⟩
      rw [← hbx] at bW
      have z0 : W.cell? ⟨bx, 0, none⟩ = some (i64 x1) := bW.cell 0
      have z1 : W.cell? ⟨bx, 1, none⟩ = some (i64 x2) := bW.cell 1
      have D := (HC.out _ _ hr.out.2.1).rb rW
      have c3 := D.c3
      have lk : (Instr.lookup 120 (.map (some c.m)) (spV (x1, x2)) false).run Tryz.prog W.drew = .ok (sv (wasOf c (x1, x2))) W.drew := run_lookup_map (D.rb (Rb.drew W)).map HKK.out _ (HOK.out _ HX.out.2.2) false
      have HQ := Lib.hid (HD.out (l.take i) (x1, x2) _ W.drew (HI.out _ _ _ (Rb.drew W) (HI.out _ _ _ rW hr.out.2.1)) (by rw [← HLE.out]; exact HX.out.1))
      have HR2 := Lib.hid (And.intro rW hr.out)
      have HWW := Lib.hid hW
      have HBX := Lib.hid hbx
      clear hW hbx rW bW D hr
      go_wp2_with (rw [← HWW.out, ← HBX.out])
      go_still_tail 8, (by kernel_rfl)
      change wpList _ _ _ _ _ W.drew
      obtain ⟨W2, hW2⟩ : ∃ W2, W2 = W.drew := ⟨_, rfl⟩
      have rW2 : Rb wr W2 := by rw [hW2]; exact Rb.trans _ _ _ HR2.out.1 (Rb.drew W)
      rw [← hW2] at lk HQ ⊢
      have HR3 := Lib.hid rW2
      clear hW2 rW2 lk z0 z1 y0 y1 c3 HD CS CK
      go_wp2_with fail
      refine HQ.out.mono ?_
      rintro e W3 ⟨⟨u, rfl⟩, hI3, hk3⟩
      have H3 : Hid (SRow W3 B (.slice (some ⟨g, 0, none⟩) n cap) l ∧ I (l.take (i + 1)) W3 ∧ w.heap.size ≤ W3.heap.size) := ⟨(HR2.out.2.1.rb HR3.out).keep hk3, by rw [HX.out.2.1]; exact hI3, Nat.le_trans HR2.out.2.2.2 (Nat.le_trans HR3.out.size hk3.size)⟩
      clear hI3 hk3
      go_wp2
      go_roundw
      case rel => exact ⟨i + 1, by go_num, by omega, H3⟩
      case measure => simp [intOf]; omega
    · have hni : i = n := by omega
      subst hni
      go_wp2
      go_end0
      refine ⟨⟨_, rfl⟩, ?_, hr.out.2.2⟩
      have := hr.out.2.1
      rw [HN.out, List.take_length] at this
      rw [← HLE.out]
      exact this

set_option maxRecDepth 100000 in
set_option maxHeartbeats 1000000 in
theorem each_chg (w : World) (c : ClD) (Bc Bl : Nat) (hcl : ClAt w c) (hl : c.tch.length ≤ 100000) (I : List Spot → World → Prop) (hI : ∀ pre W W', Rb W W' → I pre W → I pre W') (hC : ∀ pre W, I pre W → ClAt W c)
    (hdo : ∀ pre x r W, I pre W → spotsOf c = pre ++ x :: r → Calls Tryz.prog 75 #[spV x, sv (wasOf c x), .pointer (some ⟨Bc, 0, none⟩), .pointer (some ⟨Bl, 0, none⟩)] W fun e W' => (∃ u, e = .returned u) ∧ I (pre ++ [x]) W' ∧ KeepSp W W') (h0 : I [] w) :
    Calls Tryz.prog 73 #[ptrv c.b, .func (.func 75) #[] #[.pointer (some ⟨Bc, 0, none⟩), .pointer (some ⟨Bl, 0, none⟩)]] w fun e w' => (∃ u, e = .returned u) ∧ I (spotsOf c) w' ∧ w.heap.size ≤ w'.heap.size := by
  have c3 := hcl.c3
  have hcl1 := hcl.rb ((Below.refl _ w).alloc (Nat.le_refl _) (.cells #[.map (some c.m)] 120))
  have CS := Lib.hid (sortedFunc_any (w.alloc (.cells #[.map (some c.m)] 120)) w.heap.size c.m c.tch hcl1.map ((Blk.new w 120 [.map (some c.m)]).cell 0) hl)
  have CK := Lib.hid (keys_made w c.m)
  have HI := Lib.hid hI
  have HC := Lib.hid hC
  have HD := Lib.hid hdo
  have H0 := Lib.hid h0
  obtain ⟨l, hle⟩ : ∃ l, l = spotsOf c := ⟨_, rfl⟩
  have HLE := Lib.hid hle
  have hll : l.length ≤ 100000 := by
    rw [hle]
    unfold spotsOf
    rw [(sortS_perm _).length_eq]
    simpa using hl
  have HOK : Hid (∀ x ∈ l, SpOk x) := fun x hx => by
    rw [hle] at hx
    obtain ⟨y, hy⟩ := spotsOf_mem.1 hx
    exact hcl.ok _ hy
  have HKK := Lib.hid hcl.ok
  clear hcl hcl1 hI hC hdo h0 hle
  go_enter Tryz.func73, Tryz.ntmps73
  go_wp2_with (go_at_call 100; refine CK.out.mono ?_; rintro e w2 ⟨rfl, rfl⟩)
  refine CS.out.mono ?_
  rintro e w1 ⟨v, rfl, hr, hb⟩
  have hl2 : sortS (c.tch.map (·.1)) = l := HLE.out.symm
  rw [hl2] at hr
  have hb' : Rb w w1 := Rb.trans _ _ _ ((Below.refl _ w).alloc (Nat.le_refl _) (.cells #[.map (some c.m)] 120)) hb
  obtain ⟨ao, cap, rfl⟩ : ∃ ao cap, v = .slice ao l.length cap := by
    rcases hr.form with ⟨rfl, rfl⟩ | ⟨g, cap, rfl, _⟩
    · exact ⟨none, 0, rfl⟩
    · exact ⟨_, cap, rfl⟩
  have A0 : Hid (SRow w1 (w.alloc (.cells #[.map (some c.m)] 120)).heap.size (.slice ao l.length cap) l ∧ I (l.take 0) w1 ∧ w.heap.size ≤ w1.heap.size) := ⟨hr, by simpa using HI.out _ _ _ hb' H0.out, hb'.size⟩
  clear hl2 hr hb hb' c3
  obtain ⟨B, hB⟩ : ∃ B, B = (w.alloc (.cells #[.map (some c.m)] 120)).heap.size := ⟨_, rfl⟩
  rw [← hB] at A0
  clear hB
  obtain ⟨n, hn⟩ : ∃ n, n = l.length := ⟨_, rfl⟩
  rw [← hn] at A0 hll ⊢
  have HN := Lib.hid hn
  clear hn
  go_wp2_with fail
  go_loopw [15] (fun p wr => ∃ (i : Nat), p = .int .i64 i ∧ i ≤ n ∧ Hid (SRow wr B (.slice ao n cap) l ∧ I (l.take i) wr ∧ w.heap.size ≤ wr.heap.size)) (fun p _ => n - (intOf p).toNat)
  case atStart => exact ⟨0, rfl, Nat.zero_le _, A0⟩
  case round =>
    obtain ⟨i, rfl, hin, hr⟩ := hrel
    by_cases h : i < n
    · obtain ⟨x, hx⟩ : ∃ x, x = l[i]'(by rw [← HN.out]; exact h) := ⟨_, rfl⟩
      obtain ⟨g, hg, y0, y1⟩ : ∃ g, ao = some ⟨g, 0, none⟩ ∧ wr.cell? ⟨g, i * 2, none⟩ = some (i64 x.1) ∧ wr.cell? ⟨g, i * 2 + 1, none⟩ = some (i64 x.2) := by
        rcases hr.out.1.form with ⟨_, h2⟩ | ⟨g, cap', h1, _, _, _, _, h7⟩
        · exfalso
          have := HN.out
          rw [h2] at this
          simp at this
          omega
        · simp only [Value.slice.injEq] at h1
          have := h7 i (by rw [← HN.out]; exact h)
          rw [← hx] at this
          exact ⟨g, h1.1, this.1, this.2⟩
      subst hg
      have hlx : l = l.take i ++ x :: l.drop (i + 1) := by
        rw [hx, ← List.drop_eq_getElem_cons (by rw [← HN.out]; exact h), List.take_append_drop]
      have hlt : l.take (i + 1) = l.take i ++ [x] := by
        conv => lhs; rw [hlx]
        have hti : (l.take i).length = i := by rw [List.length_take]; have := HN.out; omega
        rw [List.take_append, hti, List.take_of_length_le (by omega)]
        simp
      have hxm : x ∈ l := by rw [hlx]; simp
      have HX := Lib.hid (And.intro hlx (And.intro hlt hxm))
      clear hx hlx hlt hxm
      obtain ⟨x1, x2⟩ := x
      dsimp only at y0 y1
      obtain ⟨W, hW⟩ : ∃ W, W = wr.alloc (.cells #[i64 x1, i64 x2] 111) := ⟨_, rfl⟩
      have rW : Rb wr W := by rw [hW]; exact (Below.refl _ wr).alloc (Nat.le_refl _) _
      have bW : Blk W wr.heap.size 111 [i64 x1, i64 x2] := by rw [hW]; exact Blk.new wr _ [i64 x1, i64 x2]
      obtain ⟨bx, hbx⟩ : ∃ bx, bx = wr.heap.size := ⟨_, rfl⟩
      rw [← hbx] at bW
      have z0 : W.cell? ⟨bx, 0, none⟩ = some (i64 x1) := bW.cell 0
      have z1 : W.cell? ⟨bx, 1, none⟩ = some (i64 x2) := bW.cell 1
      have D := (HC.out _ _ hr.out.2.1).rb rW
      have c3 := D.c3
      have lk : (Instr.lookup 120 (.map (some c.m)) (spV (x1, x2)) false).run Tryz.prog W.drew = .ok (sv (wasOf c (x1, x2))) W.drew := run_lookup_map (D.rb (Rb.drew W)).map HKK.out _ (HOK.out _ HX.out.2.2) false
      have HQ := Lib.hid (HD.out (l.take i) (x1, x2) _ W.drew (HI.out _ _ _ (Rb.drew W) (HI.out _ _ _ rW hr.out.2.1)) (by rw [← HLE.out]; exact HX.out.1))
      have HR2 := Lib.hid (And.intro rW hr.out)
      have HWW := Lib.hid hW
      have HBX := Lib.hid hbx
      clear hW hbx rW bW D hr
      go_wp2_with (rw [← HWW.out, ← HBX.out])
      go_still_tail 8, (by kernel_rfl)
      change wpList _ _ _ _ _ W.drew
      obtain ⟨W2, hW2⟩ : ∃ W2, W2 = W.drew := ⟨_, rfl⟩
      have rW2 : Rb wr W2 := by rw [hW2]; exact Rb.trans _ _ _ HR2.out.1 (Rb.drew W)
      rw [← hW2] at lk HQ ⊢
      have HR3 := Lib.hid rW2
      clear hW2 rW2 lk z0 z1 y0 y1 c3 HD CS CK
      go_wp2_with fail
      refine HQ.out.mono ?_
      rintro e W3 ⟨⟨u, rfl⟩, hI3, hk3⟩
      have H3 : Hid (SRow W3 B (.slice (some ⟨g, 0, none⟩) n cap) l ∧ I (l.take (i + 1)) W3 ∧ w.heap.size ≤ W3.heap.size) := ⟨(HR2.out.2.1.rb HR3.out).keep hk3, by rw [HX.out.2.1]; exact hI3, Nat.le_trans HR2.out.2.2.2 (Nat.le_trans HR3.out.size hk3.size)⟩
      clear hI3 hk3
      go_wp2
      go_roundw
      case rel => exact ⟨i + 1, by go_num, by omega, H3⟩
      case measure => simp [intOf]; omega
    · have hni : i = n := by omega
      subst hni
      go_wp2
      go_end0
      refine ⟨⟨_, rfl⟩, ?_, hr.out.2.2⟩
      have := hr.out.2.1
      rw [HN.out, List.take_length] at this
      rw [← HLE.out]
      exact this
end Go.Proofs.YtjfpeklfgnajoaaGreat.L6
