/-
  Layer 5: TreeOrders: the lists; two trees side by side; the row of keys that is gathered.
-/
import Derived.Test.YtjdlicphmflnkaaT43
import Derived.Test.YtjdlicphmflnkaaT40
namespace Go.Proofs.Ytjdlicphmflnkaa.L5
open Go.ChangeShapes Go.WideShapes Go.ChangeAt Go.RowKit Go.Shelf By Reg
set_option linter.unusedVariables false
attribute [local go_sem] Oper.semAt_some

/-! ### the lists -/
theorem rise_put {L : List Th} (h : Rise L) (x y : Int) : Rise (putL x y L) :=
  srt_map_tk.1 (by
    have := srt_put (A := []) (B := []) (L := L) (x := x) (y := y) (by simpa using srt_map_tk.2 h) (fun a ha => by cases ha) (fun b hb => by cases hb)
    simpa using this)
theorem mem_put {x y : Int} : ∀ {L : List Th}, Rise L → ∀ t : Th, t ∈ putL x y L ↔ t = (x, y) ∨ (t ∈ L ∧ t.1 ≠ x)
  | [], _, t => by simp [putL]
  | u :: L, h, t => by
    obtain ⟨h1, h2⟩ := List.pairwise_cons.1 h
    have ih := mem_put (x := x) (y := y) h2 t
    rw [putL]
    by_cases c1 : u.1 < x
    · rw [if_pos c1, List.mem_cons, List.mem_cons, ih]
      constructor
      · rintro (rfl | h | h)
        · exact .inr ⟨.inl rfl, by omega⟩
        · exact .inl h
        · exact .inr ⟨.inr h.1, h.2⟩
      · rintro (h | ⟨h | h, k⟩)
        · exact .inr (.inl h)
        · exact .inl h
        · exact .inr (.inr ⟨h, k⟩)
    · rw [if_neg c1]
      by_cases c2 : u.1 = x
      · rw [if_pos c2, List.mem_cons, List.mem_cons]
        constructor
        · rintro (h | h)
          · exact .inl h
          · have := h1 t h
            exact .inr ⟨.inr h, by omega⟩
        · rintro (h | ⟨h | h, k⟩)
          · exact .inl h
          · subst h; exact absurd c2 k
          · exact .inr h
      · rw [if_neg c2, List.mem_cons]
        constructor
        · rintro (h | h)
          · exact .inl h
          · refine .inr ⟨h, ?_⟩
            rcases List.mem_cons.1 h with rfl | h
            · exact c2
            · have := h1 t h; omega
        · rintro (h | ⟨h, k⟩)
          · exact .inl h
          · exact .inr h
theorem rise_ext : ∀ (L M : List Th), Rise L → Rise M → (∀ t, t ∈ L ↔ t ∈ M) → L = M
  | [], [], _, _, _ => rfl
  | [], b :: M, _, _, h => by have := (h b).2 (by simp); cases this
  | a :: L, [], _, _, h => by have := (h a).1 (by simp); cases this
  | a :: L, b :: M, hL, hM, h => by
    obtain ⟨l1, l2⟩ := List.pairwise_cons.1 hL
    obtain ⟨m1, m2⟩ := List.pairwise_cons.1 hM
    have hab : a = b := by
      rcases List.mem_cons.1 ((h a).1 (by simp)) with e | e
      · exact e
      · rcases List.mem_cons.1 ((h b).2 (by simp)) with e' | e'
        · exact e'.symm
        · have := m1 a e
          have := l1 b e'
          omega
    subst hab
    congr 1
    refine rise_ext L M l2 m2 fun t => ?_
    constructor
    · intro ht
      rcases List.mem_cons.1 ((h t).1 (by simp [ht])) with rfl | e
      · have := l1 t ht; omega
      · exact e
    · intro ht
      rcases List.mem_cons.1 ((h t).2 (by simp [ht])) with rfl | e
      · have := m1 t ht; omega
      · exact e

/-- the first i keys put in, all with 1 -/
def aN (ks : List Int) : Nat → List Th
  | 0 => []
  | i + 1 => putL (ks.getD i 0) 1 (aN ks i)
/-- the last i of n keys put in, backwards -/
def bN (ks : List Int) (n : Nat) : Nat → List Th
  | 0 => []
  | i + 1 => putL (ks.getD (n - 1 - i) 0) 1 (bN ks n i)
theorem aN_rise (ks : List Int) : ∀ i, Rise (aN ks i)
  | 0 => List.Pairwise.nil
  | i + 1 => rise_put (aN_rise ks i) _ _
theorem bN_rise (ks : List Int) (n : Nat) : ∀ i, Rise (bN ks n i)
  | 0 => List.Pairwise.nil
  | i + 1 => rise_put (bN_rise ks n i) _ _
theorem aN_le (ks : List Int) : ∀ i, (aN ks i).length ≤ i
  | 0 => Nat.le_refl _
  | i + 1 => by
    have := putL_le (ks.getD i 0) 1 (aN ks i)
    have := aN_le ks i
    rw [aN]
    omega
theorem bN_le (ks : List Int) (n : Nat) : ∀ i, (bN ks n i).length ≤ i
  | 0 => Nat.le_refl _
  | i + 1 => by
    have := putL_le (ks.getD (n - 1 - i) 0) 1 (bN ks n i)
    have := bN_le ks n i
    rw [bN]
    omega
theorem aN_mem (ks : List Int) : ∀ i (t : Th), t ∈ aN ks i ↔ t.2 = 1 ∧ ∃ j, j < i ∧ ks.getD j 0 = t.1
  | 0, t => by
    constructor
    · intro h; cases h
    · rintro ⟨_, j, h, _⟩; omega
  | i + 1, t => by
    rw [aN, mem_put (aN_rise ks i), aN_mem ks i]
    constructor
    · rintro (rfl | ⟨⟨h1, j, h2, h3⟩, _⟩)
      · exact ⟨rfl, i, by omega, rfl⟩
      · exact ⟨h1, j, by omega, h3⟩
    · rintro ⟨h1, j, h2, h3⟩
      by_cases e : t.1 = ks.getD i 0
      · left
        ext
        · exact e
        · exact h1
      · right
        refine ⟨⟨h1, j, ?_, h3⟩, e⟩
        rcases Nat.lt_or_ge j i with h | h
        · exact h
        · have : j = i := by omega
          subst this
          exact absurd h3.symm e
theorem bN_mem (ks : List Int) (n : Nat) : ∀ i (t : Th), t ∈ bN ks n i ↔ t.2 = 1 ∧ ∃ j, j < i ∧ ks.getD (n - 1 - j) 0 = t.1
  | 0, t => by
    constructor
    · intro h; cases h
    · rintro ⟨_, j, h, _⟩; omega
  | i + 1, t => by
    rw [bN, mem_put (bN_rise ks n i), bN_mem ks n i]
    constructor
    · rintro (rfl | ⟨⟨h1, j, h2, h3⟩, _⟩)
      · exact ⟨rfl, i, by omega, rfl⟩
      · exact ⟨h1, j, by omega, h3⟩
    · rintro ⟨h1, j, h2, h3⟩
      by_cases e : t.1 = ks.getD (n - 1 - i) 0
      · left
        ext
        · exact e
        · exact h1
      · right
        refine ⟨⟨h1, j, ?_, h3⟩, e⟩
        rcases Nat.lt_or_ge j i with h | h
        · exact h
        · have : j = i := by omega
          subst this
          exact absurd h3.symm e
theorem aN_bN (ks : List Int) (n : Nat) : aN ks n = bN ks n n := rise_ext _ _ (aN_rise ks n) (bN_rise ks n n) fun t => by
  rw [aN_mem, bN_mem]
  refine and_congr_right fun _ => ⟨fun ⟨j, h1, h2⟩ => ⟨n - 1 - j, by omega, by rw [show n - 1 - (n - 1 - j) = j by omega]; exact h2⟩, fun ⟨j, h1, h2⟩ => ⟨n - 1 - j, by omega, h2⟩⟩
theorem del_put_nil (x y : Int) : delL x (putL x y []) = [] := by simp [putL, delL]
theorem filt_all {L : List Th} (h : ∀ t ∈ L, -9223372036854775808 ≤ t.1 ∧ t.1 ≤ 9223372036854775807) : filt (-9223372036854775808) 9223372036854775807 L = L := List.filter_eq_self.2 fun t ht => by
  unfold inR; rw [decide_eq_true_eq]; exact h t ht

/-! ### two trees side by side -/
structure Trees2 (w : World) (r a b : Nat) (W : World) (LA LB : List Th) (FA FB : Nat → Prop) : Prop where
  ta : TreeAt W a LA FA
  tb : TreeAt W b LB FB
  dj : ∀ k, FA k → ¬ FB k
  na : ∀ k, FA k → w.heap.size ≤ k
  nb : ∀ k, FB k → w.heap.size ≤ k
  res : Blk W r 4 [.bool false]
  rb : Rb w W
theorem not_kind_bool : ¬ kind 4 := fun h => by rcases h with h | h | h | h | h <;> exact absurd h (by decide)
theorem blk_fr_kind {w w' : World} {N : Nat} {T : TypeId} {cs : List Value} {p : Nat} {L : List Th} {F : Nat → Prop} (h : Blk w N T cs) (hT : ¬ kind T) (ht : TreeAt w p L F) (hf : Fr F w w') : Blk w' N T cs := h.same (hf.block N h.lt fun hF => by
  obtain ⟨T', cs', hb, hk⟩ := ht.typ N hF
  obtain ⟨rfl, _⟩ := h.inj hb
  exact hT hk)
section
variable {w : World} {r a b : Nat} {W W' : World} {LA LB L' : List Th} {FA FB F' : Nat → Prop}
theorem Trees2.stepA (h : Trees2 w r a b W LA LB FA FB) (t : TreeAt W' a L' F') (f : Fr FA W W') (n : ∀ k, F' k → FA k ∨ W.heap.size ≤ k) : Trees2 w r a b W' L' LB F' FB := by
  have hs := h.rb.size
  refine ⟨t, h.tb.same fun k hk => f.block k (h.tb.lt k hk) (fun hF => h.dj k hF hk), fun k hk hk' => ?_, fun k hk => ?_, h.nb, blk_fr_kind h.res not_kind_bool h.ta f, ((Fr.of_rb (F := fun _ => False) h.rb).trans f (fun k hk => .inr (h.na k hk))).rb (fun k hk => hk.elim)⟩
  · rcases n k hk with h' | h'
    · exact h.dj k h' hk'
    · have := h.tb.lt k hk'; omega
  · rcases n k hk with h' | h'
    · exact h.na k h'
    · omega
theorem Trees2.stepB (h : Trees2 w r a b W LA LB FA FB) (t : TreeAt W' b L' F') (f : Fr FB W W') (n : ∀ k, F' k → FB k ∨ W.heap.size ≤ k) : Trees2 w r a b W' LA L' FA F' := by
  have hs := h.rb.size
  refine ⟨h.ta.same fun k hk => f.block k (h.ta.lt k hk) (fun hF => h.dj k hk hF), t, fun k hk hk' => ?_, h.na, fun k hk => ?_, blk_fr_kind h.res not_kind_bool h.tb f, ((Fr.of_rb (F := fun _ => False) h.rb).trans f (fun k hk => .inr (h.nb k hk))).rb (fun k hk => hk.elim)⟩
  · rcases n k hk' with h' | h'
    · exact h.dj k hk h'
    · have := h.ta.lt k hk; omega
  · rcases n k hk with h' | h'
    · exact h.nb k h'
    · omega
theorem Trees2.rb' (h : Trees2 w r a b W LA LB FA FB) (k : Rb W W') : Trees2 w r a b W' LA LB FA FB := ⟨h.ta.rb k, h.tb.rb k, h.dj, h.na, h.nb, h.res.rb k, Rb.trans _ _ _ h.rb k⟩
end

/-! ### the row of keys -/
def KRow (B : Nat) (w : World) (v : Value) (xs : List Int) : Prop := w.ownsRow B 2 1 v xs.length (xs.map i64)
theorem KRow.form {B : Nat} {w : World} {v : Value} {xs : List Int} (h : KRow B w v xs) : ∃ ao cap, v = .slice ao xs.length cap ∧ xs.length ≤ cap ∧ ∀ i, i < xs.length → ∃ g, ao = some ⟨g, 0, none⟩ ∧ w.cell? ⟨g, i, none⟩ = some (i64 (xs.getD i 0)) := by
  obtain ⟨_, h⟩ := h
  rcases h with ⟨h1, h2⟩ | ⟨g, cap, cur, h1, h2, h3, h4, h5, h6, h7⟩
  · exact ⟨none, 0, by rw [h1, h2], by omega, fun i hi => by omega⟩
  · refine ⟨_, cap, h1, h4, fun i hi => ⟨g, rfl, ?_⟩⟩
    rw [cell_of_row w g _ cur _ (0, 0) h3]
    have : (xs.map i64)[i]? = some (i64 (xs.getD i 0)) := by
      rw [List.getElem?_map, List.getElem?_eq_getElem hi, List.getD_eq_getElem?_getD, List.getElem?_eq_getElem hi]
      rfl
    rw [← h7, Nat.mul_one, List.getElem?_take_of_lt (by omega)] at this
    simpa using this
theorem KRow.rb {B : Nat} {w w' : World} {v : Value} {xs : List Int} (h : KRow B w v xs) (hr : Rb w w') : KRow B w' v xs := owns_same h fun k hk => hr.block k (World.ownsRow.lt h k hk).2
theorem KRow.typ {B : Nat} {w : World} {v : Value} {xs : List Int} (h : KRow B w v xs) : ∀ k, v.ownBlock = some k → B ≤ k ∧ ∃ cs, Blk w k 2 cs := fun k hk => by
  refine ⟨(World.ownsRow.lt h k hk).1, ?_⟩
  obtain ⟨_, h⟩ := h
  rcases h with ⟨h1, h2⟩ | ⟨g, cap, cur, h1, h2, h3, h4⟩
  · rw [h1] at hk; cases hk
  · rw [h1] at hk
    cases hk
    exact ⟨cur.toList, h3⟩
theorem info_Ky : (Try.prog.info? 2).map (fun i => (i.zero, i.size, i.bytes)) = some (some (.int .i64 0), 1, 8) := by kernel_rfl
/-- one key appended -/
theorem append_key {w : World} {B : Nat} {v : Value} {xs : List Int} (k : Int) (hr : KRow B w v xs) (hb : xs.length ≤ 100000) (hB : B ≤ w.heap.size) :
    ∃ v' w', (∀ ty, (Builtin.append_ #[36, 36] ty #[v, .slice (some ⟨w.heap.size, 0, none⟩) 1 1]).run Try.prog (w.alloc (.cells #[i64 k] 2)) = .ok v' w') ∧ KRow B w' v' (xs ++ [k]) ∧ Below B w w' ∧ (w.alloc (.cells #[i64 k] 2)).grownBy w' v.ownBlock := by
  have ht := Try.underlying36
  obtain ⟨i0, hi, hz, hsz, hby⟩ := info_parts info_Ky
  have hbk : Blk (w.alloc (.cells #[i64 k] 2)) w.heap.size 2 [i64 k] := Blk.new w _ [i64 k]
  have hB1 : Below B w (w.alloc (.cells #[i64 k] 2)) := (Below.refl _ w).alloc hB _
  have hr1 : (w.alloc (.cells #[i64 k] 2)).ownsRow B 2 1 v xs.length (xs.map i64) := World.ownsRow.alloc hr _
  obtain ⟨v', w', hrun, h2, h3, h4⟩ := run_append_own (P := Try.prog) (w.alloc (.cells #[i64 k] 2)) B 36 36 2 i0 _ 1 8 ht hi hz hsz hby rfl (by decide) v xs.length (xs.map i64) hr1 ⟨w.heap.size, 0, none⟩ 1 1 ([k].map i64) rfl (fun j u hu => by rw [Addr.add_lit, hbk.cell, Nat.zero_add]; exact hu) i64_one (by unfold maxLen; omega) (by omega) (Nat.le_trans hB hB1.size)
  refine ⟨v', w', fun ty => hrun, ?_, hB1.grown h3 (Nat.le_trans hB hB1.size) (fun k hk => (hr1.lt k hk).1), h3⟩
  unfold KRow
  rw [List.map_append, List.length_append]
  exact h2
theorem keeps_of {w w' : World} (hs : w.heap.size ≤ w'.heap.size) (h : ∀ k, k < w.heap.size → w'.heap[k]? = w.heap[k]? ∨ ∃ T cs, Blk w k T cs ∧ T ≠ 66) : KeepT w w' ∧ ∀ B, KeepsFrom B w w' := by
  refine ⟨⟨hs, fun n cs m hc => ?_⟩, fun B => ⟨hs, fun k o _ hk ho => ?_⟩⟩
  · rcases h n (Array.getElem?_eq_some_iff.1 hc).1 with e | ⟨T, cs', hb, hT⟩
    · exact e
    · unfold Blk at hb
      rw [hb] at hc
      simp only [Option.some.injEq, Obj.cells.injEq] at hc
      exact absurd hc.2.1 hT
  · rcases h k (Array.getElem?_eq_some_iff.1 hk).1 with e | ⟨T, cs', hb, hT⟩
    · rw [e]; exact hk
    · unfold Blk at hb
      rw [hb] at hk
      cases hk
      cases ho

/-- the row that is gathered, and the box that it lies in -/
structure XS (xb : Nat) (W7 : World) (keys : List Int) (W : World) (xv : Value) : Prop where
  row : KRow W7.heap.size W xv keys
  box : Blk W xb 36 [xv]
  fr : Fr (fun k => k = xb) W7 W
theorem XS.ck {xb B : Nat} {W7 W W' : World} {keys : List Int} {xv : Value} (h : XS xb W7 keys W xv) (k : CK B W W') (hB : W7.heap.size ≤ B) : XS xb W7 keys W' xv :=
  ⟨owns_same h.row fun q hq => by
    obtain ⟨_, cs, hb⟩ := h.row.typ q hq
    exact k.cells _ _ _ _ hb, h.box.ck k, ⟨k.os.trans h.fr.os, k.tape.trans h.fr.tape, k.output.trans h.fr.output, Nat.le_trans h.fr.size k.size, fun q hq hn => (k.old q (by omega) (Nat.lt_of_lt_of_le hq h.fr.size)).trans (h.fr.block q hq hn)⟩⟩
theorem XS.app {xb : Nat} {W7 W w1 : World} {keys : List Int} {xv v' : Value} {x : Int} (h : XS xb W7 keys W xv) (hxb : xb < W7.heap.size) (hr : KRow W7.heap.size w1 v' (keys ++ [x])) (hb : Below W7.heap.size W w1) (hg : (W.alloc (.cells #[i64 x] 2)).grownBy w1 xv.ownBlock) :
    XS xb W7 (keys ++ [x]) (w1.setCell ⟨xb, 0, none⟩ v') v' ∧ KeepT W (w1.setCell ⟨xb, 0, none⟩ v') ∧ ∀ B, KeepsFrom B W (w1.setCell ⟨xb, 0, none⟩ v') := by
  have b1 : Blk w1 xb 36 [xv] := h.box.same (hb.block xb hxb)
  obtain ⟨b2, hw⟩ := blk_set1 b1 v'
  refine ⟨⟨owns_same hr fun k hk => hw.block k (fun e => ?_), b2, ?_⟩, keeps_of ?_ fun k hk => ?_⟩
  · have := (hr.typ k hk).1
    omega
  · have f1 : Fr (fun k => k = xb) W7 w1 := ⟨hb.os.trans h.fr.os, hb.tape.trans h.fr.tape, hb.output.trans h.fr.output, Nat.le_trans h.fr.size hb.size, fun k hk hn => (hb.block k hk).trans (h.fr.block k hk hn)⟩
    exact f1.wrote hw (.inl rfl)
  · rw [hw.size]; exact hb.size
  · by_cases e : k = xb
    · subst e
      exact .inr ⟨_, _, h.box, by decide⟩
    · rw [hw.block k e]
      by_cases e2 : xv.ownBlock = some k
      · obtain ⟨_, cs, hb'⟩ := h.row.typ k e2
        exact .inr ⟨_, _, hb', by decide⟩
      · left
        rw [hg.block k (by simp; omega) (fun e => e2 e.symm)]
        exact ((Below.refl _ W).alloc (Nat.le_refl _) _).block k hk

theorem wpListIn_run_append {l n : Nat} {P : Program} {ops : Array Oper} {rest : List Oper} {o : Oper} {a : Act} {w : World} {Q : Exit → Act → World → Prop} {s x : Operand} {t t2 : TypeId} (hg : o.guard = none) (hop : o.op = Op.call { callee := Callee.builtin Builtin.append, args := #[s, x], argTypes := #[t, t2] })
    {v1 v2 v' : Value} {w' : World} (hs : a.eval s = v1) (hx : a.eval x = v2) (hr : (Builtin.append_ #[t, t2] o.type #[v1, v2]).run P w = .ok v' w') (h : wpListIn (Fence.wide.inRound l) n P ops Q rest (a.put o.dst v') w') : wpListIn (Fence.wide.inRound l) n P ops Q (o :: rest) a w := by
  refine wpListIn_plain hg fun K hK' => ?_
  unfold Oper.wpIn
  refine ⟨fun _ _ => trivial, ?_⟩
  rw [Oper.semAt_eq _ _ _ (fun c h => by rw [hop] at h; cases h)]
  simp [execOp, hop, resolve, invoke, builtin, hs, hx, hr, Result.andThen]
  exact hK' _ _ h

/-- the end of a body with two ranges behind it, whose result lies in memory -/
theorem end_cell2 {fn : Func} {q : Tmp} {a : Act} {w W : World} {N D D2 : Nat} {b : Bool} {R : Ending → World → Prop} (h : fn.results = #[.cell q 4]) (hp : a.tmps.getD q undef = .pointer (some ⟨N, 0, none⟩)) (hd : a.defers = [{ target := .collected D2, args := #[] }, { target := .collected D, args := #[] }])
    (hb : Blk W N 4 [.bool b]) (hK : W.heap[D]? = some (.deferred (some []))) (hK2 : W.heap[D2]? = some (.deferred (some []))) (hD : w.heap.size ≤ D) (hD2 : w.heap.size ≤ D2) (hne : D2 ≠ D) (hr : Rb w W) (hR : ∀ W', Rb w W' → R (.returned (.bool b)) W') : bodyPostM Fence.wide 7 Try.prog fn R Exit.ret a W := by
  obtain ⟨tmps, defers⟩ := a
  dsimp only at hp hd
  subst hd
  have hN : D ≠ N := fun e => by
    subst e
    unfold Blk at hb
    rw [hK] at hb
    cases hb
  have hN2 : D2 ≠ N := fun e => by
    subst e
    unfold Blk at hb
    rw [hK2] at hb
    cases hb
  have hK' : ∀ o', (W.putObj D2 o').heap[D]? = some (.deferred (some [])) := fun o' => (World.putObj_heap_other (fun e => hne e.symm)).trans hK
  refine ⟨by simp, .inl ⟨_, _, rfl, run_takeDeferred hK2, ?_⟩⟩
  refine ⟨by simp, .inl ⟨_, _, rfl, run_takeDeferred (hK' _), ?_⟩⟩
  refine ⟨_, res_cell h hp ((hb.same (World.putObj_heap_other (fun e => hN2 e.symm))).same (World.putObj_heap_other (fun e => hN e.symm))), hR _ ?_⟩
  exact Below.trans (Below.trans hr (belowK_b (w := w) (Nat.le_refl _) W D2 _ _ hD2 hK2 rfl rfl)) (belowK_b (w := w) (Nat.le_refl _) _ D _ _ hD (hK' _) rfl rfl)
end Go.Proofs.Ytjdlicphmflnkaa.L5
