/-
  Layer 5: Range: the iterator.
-/
import Derived.Test.YtjdlicphmflnkaaT37
import Derived.BigQuiet
import Derived.Deep.QuietTactic
import Derived.Shelf.RegionOpen
import Derived.Sort.CutIn
namespace Go.Proofs.Ytjdlicphmflnkaa.L5
open Go.ChangeShapes Go.WideShapes Go.ChangeAt Go.RowKit Go.Shelf By Reg
set_option linter.unusedVariables false
attribute [local go_sem] Oper.semAt_some

abbrev encT (x : Th) : Array Value := #[i64 x.1, i64 x.2]

/-- what a round keeps: rows of things -/
structure KeepT (W W2 : World) : Prop where
  size : W.heap.size ≤ W2.heap.size
  things : ∀ (n : Nat) (cs : Array Value) (m : Nat × Nat), W.heap[n]? = some (Obj.cells cs 66 m) → W2.heap[n]? = W.heap[n]?
theorem KeepT.trans {A B C : World} (h : KeepT A B) (k : KeepT B C) : KeepT A C :=
  ⟨Nat.le_trans h.size k.size, fun n cs m hc => by
    have h1 := h.things n cs m hc
    rw [k.things n cs m (h1.trans hc), h1]⟩
theorem KeepT.put (W : World) (l : Nat) (o o' : Obj) (hl : W.heap[l]? = some o) (ho : o.isCells = false) : KeepT W (W.putObj l o') := by
  refine ⟨by simp, fun n cs m hc => World.putObj_heap_other fun e => ?_⟩
  subst e
  rw [hl] at hc
  cases hc
  cases ho
theorem KeepT.rb {A B : World} (h : Rb A B) : KeepT A B := ⟨h.size, fun n cs m hc => h.block n (Array.getElem?_eq_some_iff.1 hc).1⟩
theorem TRow.keep {B : Nat} {W W2 : World} {v : Value} {L : List Th} (h : TRow B W v L) (k : KeepT W W2) : TRow B W2 v L := by
  refine ⟨h.1, ?_⟩
  rcases h.2 with h0 | ⟨g, cap, cur, rfl, h2, h3, h4⟩
  · exact .inl h0
  · exact .inr ⟨g, cap, cur, rfl, h2, by rw [k.things g _ _ h3]; exact h3, h4⟩

theorem TRow.form {B : Nat} {w : World} {v : Value} {L : List Th} (h : TRow B w v L) : ∃ ao cap, v = .slice ao L.length cap ∧ L.length ≤ cap ∧ ∀ i, i < L.length → ∃ g, ao = some ⟨g, 0, none⟩ ∧ w.cell? ⟨g, i * 2, none⟩ = some (i64 (L.getD i (0, 0)).1) ∧ w.cell? ⟨g, i * 2 + 1, none⟩ = some (i64 (L.getD i (0, 0)).2) := by
  obtain ⟨_, h⟩ := h
  rcases h with ⟨h1, h2⟩ | ⟨g, cap, cur, h1, h2, h3, h4, h5, h6, h7⟩
  · exact ⟨none, 0, by rw [h1, h2], by omega, fun i hi => by omega⟩
  · refine ⟨_, cap, h1, h4, fun i hi => ⟨g, rfl, ?_, ?_⟩⟩
    · rw [cell_of_row w g _ cur _ (0, 0) h3]
      have := (cells2_key L i hi).1
      rw [← h7, List.getElem?_take_of_lt (by omega)] at this
      simpa using this
    · rw [cell_of_row w g _ cur _ (0, 0) h3]
      have := (cells2_key L i hi).2
      rw [← h7, List.getElem?_take_of_lt (by omega)] at this
      simpa using this

set_option maxRecDepth 100000 in
theorem makes_range (d : Nat) (p : Nat) (lo hi : Int) (w : World) :
    CallsIn Fence.wide d Try.prog 14 #[ptrv p, i64 lo, i64 hi] w fun e w' => e = .returned (.func (.func 27) #[] #[.pointer (some ⟨w.heap.size, 0, none⟩), .pointer (some ⟨w.heap.size + 1, 0, none⟩), .pointer (some ⟨w.heap.size + 2, 0, none⟩)]) ∧
      w' = ((w.alloc (.cells #[ptrv p] 23)).alloc (.cells #[i64 lo] 2)).alloc (.cells #[i64 hi] 2) := by
  refine callsIn_wide.2 ?_
  go_enter Try.func14, Try.ntmps14
  go_wp2
  go_ret
  exact ⟨rfl, rfl⟩

/-- the three boxes that the iterator reads -/
structure Its (Bt : Nat) (p : Nat) (lo hi : Int) (W : World) : Prop where
  t : Boxed W Bt 23 (ptrv p)
  lo : Boxed W (Bt + 1) 2 (i64 lo)
  hi : Boxed W (Bt + 2) 2 (i64 hi)
theorem Its.rb {Bt p : Nat} {lo hi : Int} {W W2 : World} (h : Its Bt p lo hi W) (k : Rb W W2) : Its Bt p lo hi W2 := ⟨(k.block _ h.t.lt).trans h.t, (k.block _ h.lo.lt).trans h.lo, (k.block _ h.hi.lt).trans h.hi⟩
theorem grown_rb {W W2 : World} (h : Rb W W2) : W.grownBy W2 none := ⟨h.os, h.tape, h.output, h.size, fun k hk _ => h.block k hk⟩

set_option maxRecDepth 100000 in
set_option maxHeartbeats 2000000 in
theorem walks_range (Bt l p : Nat) (lo hi : Int) (L : List Th) (F : Nat → Prop) (hL : L.length ≤ 50000) (J : List Th → World → Prop) (W : World) (hJ : AbidesFrom W.heap.size J) (hi3 : Its Bt p lo hi W) (ht : TreeAt W p L F) (h0 : J [] W)
    (hY : ∀ (pre : List Th) (x : Th) (W1 : World), J pre W1 → (∃ r, filt lo hi L = pre ++ x :: r) → pre.length < 50000 → YieldAt Fence.wide 5 Try.prog l (encT x) W1 fun e W2 => e = .returned (.bool true) ∧ J (pre ++ [x]) W2 ∧ KeepT W1 W2) :
    CallsIn Fence.wide 6 Try.prog 27 #[.func (.yield l) #[] #[], .pointer (some ⟨Bt, 0, none⟩), .pointer (some ⟨Bt + 1, 0, none⟩), .pointer (some ⟨Bt + 2, 0, none⟩)] W fun e W2 => (∃ v, e = .returned v) ∧ ∃ xs : List Th, xs = filt lo hi L ∧ J xs W2 := by
  have c1 := hi3.t.cell
  have c2 := hi3.lo.cell
  have c3 := hi3.hi.cell
  rcases ht with ⟨hb, rfl, _⟩ | ⟨d, s, h, _⟩
  · have CE := Lib.hid (tempty_no W p 0 hb)
    clear hb
    refine callsIn_of_wp Try.func27 rfl trivial ?_ rfl
    simp only [Try.ntmps27, List.size_toArray, List.length_cons, List.length_nil, Nat.reduceAdd, Nat.reduceSub, Array.replicate_succ, Array.replicate_zero, List.push_toArray, List.append_toArray, List.nil_append, List.cons_append]
    gi_wp2_with (refine ⟨trivial, ?_⟩; gi_at_call 28; refine (callsIn_wide.2 CE.out).mono ?_; rintro e w2 ⟨rfl, rfl⟩)
    refine bodyPost_ret (results_none rfl _ _ _) rfl ?_
    exact ⟨⟨_, rfl⟩, [], rfl, h0⟩
  · have CE := Lib.hid (tempty_yes W p s.b _ h.blk)
    have b0 := h.blk.cell 0
    have CT0 := things_any lo hi W.heap.size d W.drew s (.slice none 0 0) [] (h.held.rb (Rb.drew W)) h.eight h.srt (h.held.lt d) (Nat.le_refl _) (World.ownsRow_nil _ _ _ _) (by rw [h.items]; simpa using hL)
    rw [List.nil_append, h.items] at CT0
    have CT := Lib.hid CT0
    clear CT0
    obtain ⟨M, hM⟩ : ∃ M, M = filt lo hi L := ⟨_, rfl⟩
    have hMl : M.length ≤ 50000 := by rw [hM]; exact Nat.le_trans (filt_le _ _ _) hL
    rw [← hM] at CT
    simp only [← hM] at hY
    rw [← hM]
    clear hM h hi3
    refine callsIn_of_wp Try.func27 rfl trivial ?_ rfl
    simp only [Try.ntmps27, List.size_toArray, List.length_cons, List.length_nil, Nat.reduceAdd, Nat.reduceSub, Array.replicate_succ, Array.replicate_zero, List.push_toArray, List.append_toArray, List.nil_append, List.cons_append]
    gi_wp2_with (refine ⟨trivial, ?_⟩; gi_at_call 28; refine (callsIn_wide.2 CE.out).mono ?_; rintro e w2 ⟨rfl, rfl⟩)
    have mixed : Try.prog.follows Departure.mixedOrders = true := by kernel_rfl
    have RT := Lib.hid (grown_rb (Rb.drew W))
    have HJ := Lib.hid hJ
    have HJ0 := Lib.hid h0
    gi_cut [15, 16, 17] from 9 (fun s15 s16 s17 wr => ∃ (ao : Option Addr) (cap : Nat), s15 = .slice ao M.length cap ∧ s16 = .int .i64 M.length ∧ s17 = .int .i64 0 ∧ Hid (TRow W.heap.size wr (.slice ao M.length cap) M ∧ J [] wr ∧ W.heap.size ≤ wr.heap.size))
    · gi_region_with_o (refine ⟨trivial, ?_⟩; gi_at_call 29; refine (callsIn_wide.2 CT.out).mono ?_; rintro e w2 ⟨v, rfl, hrow, hb2⟩; obtain ⟨ao, cap, rfl, hcap, hcell⟩ := hrow.form)
      all_goals
        gi_wp2_with fail
        gi_meet
        exact ⟨_, _, rfl, rfl, rfl, hrow, HJ.out _ _ _ none (HJ.out _ _ _ none HJ0.out RT.out (fun _ h => by cases h)) (grown_rb hb2) (fun _ h => by cases h), hb2.size⟩
    · obtain ⟨ao, cap, rfl, rfl, rfl, hc⟩ := hcut
      have HY := Lib.hid hY
      have HC := Lib.hid hc
      obtain ⟨n, hn⟩ : ∃ n, n = M.length := ⟨_, rfl⟩
      rw [← hn] at HC hMl ⊢
      have HN := Lib.hid hn
      clear hn hY hc hJ h0 c1 c2 c3 CT CE RT b0
      gi_wp2_with fail
      gi_loopw [17] (fun p wr => ∃ (i : Nat), p = .int .i64 i ∧ i ≤ n ∧ Hid (TRow W.heap.size wr (.slice ao n cap) M ∧ J (M.take i) wr ∧ W.heap.size ≤ wr.heap.size)) (fun p _ => n - (intOf p).toNat)
      case atStart => exact ⟨0, rfl, Nat.zero_le _, HC.out⟩
      case round =>
        obtain ⟨i, rfl, hin, hr⟩ := hrel
        by_cases h : i < n
        · obtain ⟨ao2, cap2, he, hcap, hcell⟩ := hr.out.1.form
          rw [← HN.out] at he hcell
          simp only [Value.slice.injEq, true_and] at he
          obtain ⟨rfl, rfl⟩ := he
          obtain ⟨g, rfl, hc1, hc2⟩ := hcell i h
          obtain ⟨x, hx⟩ : ∃ x, x = (M.getD i (0, 0)).1 := ⟨_, rfl⟩
          obtain ⟨y, hy⟩ : ∃ y, y = (M.getD i (0, 0)).2 := ⟨_, rfl⟩
          rw [← hx] at hc1
          rw [← hy] at hc2
          have HX := Lib.hid (And.intro hx hy)
          clear hcell hx hy
          have hcap' : n ≤ cap := by rw [HN.out]; exact hcap
          clear hcap
          have hM2 : M = M.take i ++ (x, y) :: M.drop (i + 1) := by
            have hil : i < M.length := by rw [← HN.out]; exact h
            rw [HX.out.1, HX.out.2, show ((M.getD i (0, 0)).1, (M.getD i (0, 0)).2) = M[i] by rw [List.getD_eq_getElem?_getD, List.getElem?_eq_getElem hil]; rfl]
            rw [← List.drop_eq_getElem_cons hil, List.take_append_drop]
          have htk : M.take (i + 1) = M.take i ++ [(x, y)] := by
            conv => lhs; rw [hM2]
            have : (M.take i).length = i := by rw [List.length_take, ← HN.out]; omega
            rw [List.take_append, this, List.take_of_length_le (by omega)]
            simp
          have HT := Lib.hid htk
          have hq := HY.out (M.take i) (x, y) (wr.alloc (.cells #[.int .i64 x, .int .i64 y] 66)) (HJ.out _ _ _ none hr.out.2.1 (World.grownBy_alloc wr _ none) (fun _ h => by cases h)) ⟨_, hM2⟩ (by rw [List.length_take]; omega)
          have hkt : Hid (TRow W.heap.size (wr.alloc (.cells #[.int .i64 x, .int .i64 y] 66)) (.slice (some ⟨g, 0, none⟩) n cap) M ∧ W.heap.size ≤ (wr.alloc (.cells #[.int .i64 x, .int .i64 y] 66)).heap.size) := ⟨hr.out.1.rb ((Below.refl _ wr).alloc (Nat.le_refl _) _), Nat.le_trans hr.out.2.2 (by simp)⟩
          clear hM2 htk
          obtain ⟨fn, tmps, assign, body, hyl, hR⟩ := hq
          dsimp only [encT] at hyl
          gi_wp2
          refine hR.mono ?_
          rintro e W3 ⟨rfl, hJ3, hk3⟩
          have H3 : Hid (TRow W.heap.size W3 (.slice (some ⟨g, 0, none⟩) n cap) M ∧ J (M.take (i + 1)) W3 ∧ W.heap.size ≤ W3.heap.size) := ⟨hkt.out.1.keep hk3, by rw [HT.out]; exact hJ3, Nat.le_trans hkt.out.2 hk3.size⟩
          clear hJ3 hk3 hyl hc1 hc2
          gi_wp2
          go_roundw
          case rel => exact ⟨i + 1, by go_num, by omega, H3.out⟩
          case measure => simp [intOf]; omega
        · have hni : i = n := by omega
          subst hni
          gi_wp2
          refine bodyPost_end (results_none rfl _ _ _) rfl ?_
          refine ⟨⟨_, rfl⟩, M, rfl, ?_⟩
          have := hr.out.2.1
          rw [HN.out, List.take_length] at this
          exact this
end Go.Proofs.Ytjdlicphmflnkaa.L5
