/-
  Layer 7: StoreHolds: its steps.
-/
import Derived.Test.YtjfpeklfgnajoaaGreatQ34
import Derived.BigQuiet
import Derived.Deep.QuietTactic
namespace Go.Proofs.YtjfpeklfgnajoaaGreat.L6
open Go.ChangeShapes Go.WideShapes Go.ChangeAt Go.RowKit By Reg Val
set_option linter.unusedVariables false
set_option linter.unusedSimpArgs false

structure HoldsI (w0 w : World) (v : Value) (L : List TabD) (sh : List Sh) (c d : ClD) (M : Nat) (lo k : Int) : Prop where
  two : TwoC w0 w v sh c d
  num : NumH L sh c d
  sc : Sane M sh c
  sd : Sane M sh d
  nk : NoKey lo 2199023255552 sh
  hk : c.held.getD 0 0 = k
theorem HoldsI.then_rb {w0 w w' : World} {v : Value} {L : List TabD} {sh : List Sh} {c d : ClD} {M : Nat} {lo k : Int} (h : HoldsI w0 w v L sh c d M lo k) (hb : Rb w w') : HoldsI w0 w' v L sh c d M lo k :=
  ⟨h.two.then_rb hb, h.num, h.sc, h.sd, h.nk, h.hk⟩

theorem holds_op (w0 w : World) (v : Value) (L : List TabD) (sh : List Sh) (c d : ClD) (M : Nat) (k : Int) (h : HoldsI w0 w v L sh c d M 1099511627776 k) (hM : M ≤ 100) (t key col : Int) (x : ValD) (hx : ValOk x) (hk : I64 key) (hr : ¬ (1099511627776 ≤ key ∧ key < 2199023255552)) :
    Calls Tryz.prog 25 #[ptrv d.b, i64 t, i64 key, i64 col, valV3 x] w fun e w' => (∃ u, e = .returned u) ∧ ∃ sh' d', d'.b = d.b ∧ HoldsI w0 w' v L sh' c d' (M + 1) 1099511627776 k := by
  refine (set_law w v sh d M t key col x h.two.dd h.sd (by omega) hx hk).mono ?_
  rintro e w' ⟨r, rfl, ⟨hr0, hb, _⟩ | ⟨_, i, j, y, sh', d', hi, rfl, rfl, hj, hS, hy, hrow, hO⟩⟩
  · exact ⟨⟨_, rfl⟩, sh, d, rfl, ⟨h.two.then_rb hb, h.num, h.sc.mono (by omega), h.sd.mono (by omega), h.nk, h.hk⟩⟩
  · have s1 := hS.sane h.sd h.two.dd.len
    exact ⟨⟨_, rfl⟩, sh', d', hO.b, ⟨h.two.op hO, h.num.step hS h.two.dd.len, h.sc.other s1 (by omega) hS.len, s1, h.nk.step hS (Int.le_refl _) hr, h.hk⟩⟩

theorem holds_add (w0 w : World) (v : Value) (L : List TabD) (sh : List Sh) (c d : ClD) (M : Nat) (lo k : Int) (h : HoldsI w0 w v L sh c d M lo k) (hM : M ≤ 190) (hlo : 1099511627776 ≤ lo ∧ lo < 2199023255552) (hk : k ≠ 0) (h0 : 0 < L.length) (hc0 : 0 < (L[0]).cols.length)
    (hty : rightTypeB ((L[0]).cols[0]).kind ((L[0]).cols[0]).max = true) (hok : ValOk (zeroV ((L[0]).cols[0]))) :
    Calls Tryz.prog 25 #[ptrv c.b, i64 0, i64 lo, i64 0, valV3 (zeroV ((L[0]).cols[0]))] w fun e w' => e = .returned (i64 0) ∧ (∃ sh' c', (c'.b = c.b ∧ c'.st = c.st) ∧ HoldsI w0 w' v L sh' c' d (M + 1) (lo + 1) (k - 1)) ∧ ∀ k T cs, Blk w k T cs → ¬ mutT T → Blk w' k T cs := by
  have hl := h.num.len
  have hs0 : 0 < sh.length := by omega
  obtain ⟨⟨a1, a2, a3⟩, b1, b2⟩ := h.num.at_ 0 hs0 h0
  have hn : getL lo sh[0].L = none := h.nk.none hs0 ⟨Int.le_refl _, hlo.2⟩
  refine (set_law w v sh c M 0 lo 0 _ h.two.dc h.sc (by omega) hok ⟨by omega, by omega⟩).mono ?_
  rintro e w' ⟨r, rfl, ⟨hr0, hb, hno⟩ | ⟨rfl, i, j, y, sh', c', hi, hi0, hj0, hj, hS, hy, hrow, hO⟩⟩
  · exfalso
    refine hno ⟨0, 0, hs0, by rw [a3]; exact hc0, rfl, rfl, ?_, .inr (by rw [h.hk]; exact hk)⟩
    simp only [a3]
    exact zero_fits hty
  · have e0 : i = 0 := by omega
    subst e0
    have s1 := hS.sane h.sc h.two.dc.len
    refine ⟨rfl, ⟨sh', c', ⟨hO.b, hO.st⟩, ⟨(h.two.symm.op hO).symm, (h.num.symm.step hS h.two.dc.len).symm, s1, h.sd.other s1 (by omega) hS.len, h.nk.step hS (by omega) (by omega), ?_⟩⟩, fun k T cs hb hT => hb.same (hO.fr.block k hb.lt fun hk => blk_off hb hT (h.two.dc.mutb k hk))⟩
    rw [hS.cc]
    show (c.held.set 0 _).getD 0 0 = _
    rw [getD_set _ _ _ _ (by have := h.two.dc.len; omega), if_pos rfl, hn, h.hk]
    rfl

theorem zero_ok {c : ColD} (h : rightTypeB c.kind c.max = true) : ValOk (zeroV c) := by
  have hk : c.kind = 1 ∨ c.kind = 2 ∨ c.kind = 3 := by
    unfold rightTypeB at h
    split at h
    · omega
    · split at h
      · omega
      · cases h
  unfold zeroV
  rw [if_pos h]
  exact ⟨by show (0 : Nat) ≤ maxLen; exact Nat.zero_le _, by show (-9223372036854775808 : Int) ≤ c.kind; omega, by show c.kind ≤ (9223372036854775807 : Int); omega, by show (-9223372036854775808 : Int) ≤ 0; decide, by show (0 : Int) ≤ 9223372036854775807; decide⟩
/-- what is left: nothing -/
theorem holds_end {w0 w : World} {v : Value} {L : List TabD} {sh : List Sh} {c d : ClD} {M : Nat} {lo k : Int} (h : HoldsI w0 w v L sh c d M lo k) (i : Nat) (hi : i < L.length) : lenSh sh i ≤ (L[i]).rows ∧ freeSh sh i = 0 := by
  have hl := h.num.len
  obtain ⟨⟨a1, a2, a3⟩, b1, b2⟩ := h.num.at_ i (by omega) hi
  have g1 := h.sc.heldD i
  have g2 := h.sd.heldD i
  have hsh : shOf sh (i : Int) = some (sh[i]'(by omega)) := by unfold shOf; simp; try omega
  unfold lenSh freeSh
  rw [hsh]
  refine ⟨by show ((sh[i]'(by omega)).L.length : Int) ≤ _; omega, ?_⟩
  show max _ _ = _
  rw [a2]
  omega
theorem run_add64 (a b : Int) (w : World) : (binOp .add 2 (.int .i64 a) (.int .i64 b)).run Tryz.prog w = .ok (.int .i64 (wrap64 (a + b))) w := by
  have u := run_underlying (P := Tryz.prog) Tryz.underlying2 (w := w)
  simp [binOp, go_sem]
  rw [IntKind.wrap_i64]
  first | rfl | (unfold wrap64; rfl) | (unfold wrap64; omega)
theorem heldOf_getD (l : List Int) : heldOf l 0 = l.getD 0 0 := by
  unfold heldOf
  rw [if_pos (Int.le_refl _), List.getD_eq_getElem?_getD]
  rfl
set_option maxRecDepth 100000 in
set_option maxHeartbeats 1000000 in
theorem free_dn (w : World) (b : Nat) (v : Value) (l : List Sh) (t : Int) (h : StAt w b v l) (hs : ∀ s ∈ l, SmallS s) :
    Calls Tryz.prog 23 #[ptrv b, i64 t] w fun e w' => e = .returned (i64 (freeSh l t)) ∧ ∃ n, w' = w.drewN n := by
  have C0 := shelf_any w b v l t h
  unfold freeSh
  cases hsh : shOf l t with
  | none =>
    rw [hsh] at C0
    dsimp only [shPtr] at C0 ⊢
    have C := Lib.hid C0
    clear C0 h hsh hs
    go_enter Tryz.func23, Tryz.ntmps23
    go_wp2_with (go_at_call 42; refine C.out.mono ?_; rintro e w' ⟨rfl, rfl⟩)
    go_ret
    exact ⟨rfl, 0, rfl⟩
  | some s =>
    rw [hsh] at C0
    dsimp only [shPtr] at C0 ⊢
    have C := Lib.hid C0
    obtain ⟨i, rfl, hi, rfl⟩ := shOf_some hsh
    have hm := List.getElem_mem hi
    obtain ⟨r0, r1, len, h0, h1⟩ := hs _ hm
    have S := h.at_ _ hm
    have CD : ∀ n, Hid (Calls Tryz.prog 46 #[ptrv l[i].p] (w.drewN n) fun e w' => e = .returned (i64 l[i].L.length) ∧ ∃ m, w' = w.drewN m) := fun n =>
      (tlen (w.drewN n) _ _ _ (S.rb (Dn.rb ⟨n, rfl⟩)).tree).mono fun e w' ⟨h1, h2⟩ => ⟨h1, n, h2.symm⟩
    have c1 := S.c1
    have c3 := S.c3
    have c4 := S.c4
    clear C0 h hsh S hm hs
    unfold freeS
    generalize l[i] = s at *
    obtain ⟨sb, sp, st, sL, sh, sF⟩ := s
    obtain ⟨nm, rw_, cv, cols⟩ := st
    dsimp only at *
    generalize sL.length = n at *
    have k1 : IntKind.i64.wrap (rw_ - n) = rw_ - n := by rw [IntKind.wrap_i64]; omega
    have k2 : IntKind.i64.wrap (rw_ - n - sh) = rw_ - n - sh := by rw [IntKind.wrap_i64]; omega
    have K1 := Lib.hid k1
    have K2 := Lib.hid k2
    clear k1 k2
    have w1 : wrap64 (rw_ - n) = rw_ - n := by unfold wrap64; omega
    have w2 : wrap64 (rw_ - n - sh) = rw_ - n - sh := by unfold wrap64; omega
    go_enter Tryz.func23, Tryz.ntmps23
    go_wp2_with (go_at_call 42; refine C.out.mono ?_; rintro e w' ⟨rfl, rfl⟩)
    go_quiet (exact (CD _).out)
    go_wp2
    go_ret
    refine ⟨?_, ?_⟩
    · rfl
    · exact ⟨_, rfl⟩

/-- both answers, wherever the region stands in its draws -/
theorem drewN_add (w : World) (a b : Nat) : (w.drewN a).drewN b = w.drewN (a + b) := by
  unfold World.drewN
  simp [Nat.add_assoc]
end Go.Proofs.YtjfpeklfgnajoaaGreat.L6
