/-
  Layer 5: TreePlays.
-/
import Derived.Test.YtjdlicphmflnkaaT62
import Derived.Test.YtjdlicphmflnkaaT63
import Derived.Test.YtjdlicphmflnkaaT40
namespace Go.Proofs.Ytjdlicphmflnkaa.L5
open Go.ChangeShapes Go.WideShapes Go.ChangeAt Go.RowKit By Reg
set_option linter.unusedVariables false
set_option linter.unusedSimpArgs false

def opsN (l : List OpV) : Nat → List Th → List Th
  | 0, L => L
  | i + 1, L => opL (l.getD i ⟨0, 0, 0⟩) (opsN l i L)
theorem opL_le (q : OpV) (L : List Th) : (opL q L).length ≤ L.length + 1 := by
  unfold opL
  split
  · exact Nat.le_succ_of_le (delL_sub q.x L).length_le
  · exact putL_le _ _ _
theorem opsN_le (l : List OpV) (L : List Th) : ∀ i, (opsN l i L).length ≤ L.length + i
  | 0 => Nat.le_refl _
  | i + 1 => by
    have := opL_le (l.getD i ⟨0, 0, 0⟩) (opsN l i L)
    have := opsN_le l L i
    rw [opsN]
    omega

/-- a tree and the document's list, of the call's own -/
structure Pl (w : World) (p : Nat) (v : Value) (L : List Th) (F : Nat → Prop) (W : World) : Prop where
  tree : TreeAt W p L F
  row : PRow W v L
  new : ∀ k, F k → w.heap.size ≤ k
  own : ∀ k, v.ownBlock = some k → w.heap.size ≤ k
  rb : Rb w W
theorem Pl.rb' {w W W' : World} {p : Nat} {v : Value} {L : List Th} {F : Nat → Prop} (h : Pl w p v L F W) (r : Rb W W') : Pl w p v L F W' := ⟨h.tree.rb r, h.row.rb r, h.new, h.own, Rb.trans _ _ _ h.rb r⟩
theorem Pl.doing {w W W' : World} {p : Nat} {v v' : Value} {L L' : List Th} {F F' : Nat → Prop} (h : Pl w p v L F W) (t : TreeAt W' p L' F') (r : PRow W' v' L') (o : ∀ k, v'.ownBlock = some k → v.ownBlock = some k ∨ W.heap.size ≤ k) (f : Fr F W W') (n : ∀ k, F' k → F k ∨ W.heap.size ≤ k) : Pl w p v' L' F' W' := by
  have hs := h.rb.size
  refine ⟨t, r, fun k hk => ?_, fun k hk => ?_, ((Fr.of_rb (F := fun _ => False) h.rb).trans f (fun k hk => .inr (h.new k hk))).rb (fun k hk => hk.elim)⟩
  · rcases n k hk with h' | h'
    · exact h.new k h'
    · omega
  · rcases o k hk with h' | h'
    · exact h.own k h'
    · omega

set_option maxHeartbeats 4000000 in
set_option maxRecDepth 100000 in
theorem plays_walk (ao : Option Addr) (len cap : Nat) (l : List OpV) (w : World) (h : OpsIn w ao len l) (hc : len ≤ cap) (hlen : len ≤ 9223372036854775807) :
    Calls Try.prog 3 #[.slice ao len cap] w fun e w' => e = .returned (.bool true) ∧ Below w.heap.size w w' := by
  obtain ⟨hll, hcell⟩ := h
  have HC := Lib.hid hcell
  have HLL := Lib.hid hll
  clear hcell hll
  go_enter Try.func3, Try.ntmps3
  go_upto_region 2 with fail
  obtain ⟨n, hm⟩ : ∃ n : Nat, n = (min (↑len) 150 : Int).toNat := ⟨_, rfl⟩
  rw [← hm]
  have hnl : n ≤ len ∧ n ≤ 150 := by omega
  have hncap : n ≤ cap := by omega
  have hn150 := hnl.2
  have CELL : Hid (∀ W, Rb w W → ∀ j, j < n → (l.getD j ⟨0, 0, 0⟩).k < 18446744073709551616 ∧ ∃ g off, ao = some ⟨g, off, none⟩ ∧ W.cell? ⟨g, off + j * 3, none⟩ = some (.int .u64 (l.getD j ⟨0, 0, 0⟩).k) ∧ W.cell? ⟨g, off + j * 3 + 1, none⟩ = some (i64 (l.getD j ⟨0, 0, 0⟩).x) ∧ W.cell? ⟨g, off + j * 3 + 2, none⟩ = some (i64 (l.getD j ⟨0, 0, 0⟩).y)) := fun W hr j hj => by
    have hjl : j < l.length := by have := HLL.out; omega
    obtain ⟨h1, g, off, h2, h3, h4, h5⟩ := HC.out j l[j] (List.getElem?_eq_getElem hjl)
    rw [show l.getD j ⟨0, 0, 0⟩ = l[j] by rw [List.getD_eq_getElem?_getD, List.getElem?_eq_getElem hjl]; rfl]
    exact ⟨h1, g, off, h2, by rw [Below.cell hr (World.block_lt_of_cell? w _ h3)]; exact h3, by rw [Below.cell hr (World.block_lt_of_cell? w _ h4)]; exact h4, by rw [Below.cell hr (World.block_lt_of_cell? w _ h5)]; exact h5⟩
  clear hnl hm hlen HC HLL hc
  obtain ⟨w1, e1⟩ : ∃ w1, w1 = w.alloc (.cells #[.pointer none, i64 0] 26) := ⟨_, rfl⟩
  have P1 : Hid (Pl w w.heap.size (.slice none 0 0) [] (fun k => k = w.heap.size) w1) := ⟨.inl ⟨by rw [e1]; exact Blk.new w _ [.pointer none, i64 0], rfl, fun _ => Iff.rfl⟩, PRow.nil _, fun k hk => Nat.le_of_eq hk.symm, (fun k hk => by cases hk), by rw [e1]; exact (Below.refl _ w).alloc (Nat.le_refl _) _⟩
  have E1 := Lib.hid e1
  clear e1
  go_wp2_with fail
  rw [← E1.out]
  go_loopg [4, 18] n (fun gk s4 s18 wr => ∃ (vl : Value) (i : Nat) (F : Nat → Prop), s4 = vl ∧ s18 = .int .i64 i ∧ i ≤ n ∧ n - i ≤ gk ∧ Hid (Pl w w.heap.size vl (opsN l i []) F wr))
  case atStart => exact ⟨_, 0, _, rfl, rfl, Nat.zero_le _, by omega, P1.out⟩
  case round =>
    obtain ⟨vl, i, F, hvl, rfl, h1, h2, hP⟩ := hrel
    obtain rfl : vl = u4 := hvl.symm
    obtain ⟨L, hL⟩ : ∃ L, L = opsN l i [] := ⟨_, rfl⟩
    rw [← hL] at hP
    have hLl : L.length ≤ 150 := by
      have := opsN_le l [] i
      rw [hL]
      simp at this
      omega
    have HL := Lib.hid hL
    clear hL
    by_cases hin : i < n
    · obtain ⟨hq, g, off, rfl, c0, c1, c2⟩ := CELL.out wr hP.out.rb i hin
      have HI : Hid (i < n ∧ n - i ≤ gk) := ⟨hin, h2⟩
      obtain ⟨q, hqq⟩ : ∃ q, q = l.getD i ⟨0, 0, 0⟩ := ⟨_, rfl⟩
      rw [← hqq] at hq c0 c1 c2
      have HQ := Lib.hid hqq
      have hlt := World.block_lt_of_cell? wr _ c0
      obtain ⟨w2, e2⟩ : ∃ w2, w2 = wr.alloc (.cells #[.int .u64 q.k, i64 q.x, i64 q.y] 30) := ⟨_, rfl⟩
      have r2 : Rb wr w2 := by rw [e2]; exact (Below.refl _ wr).alloc (Nat.le_refl _) _
      have b2 : Blk w2 wr.heap.size 30 [.int .u64 q.k, i64 q.x, i64 q.y] := by rw [e2]; exact Blk.new wr _ [.int .u64 q.k, i64 q.x, i64 q.y]
      have HP2 := Lib.hid (hP.out.rb' r2)
      have CD := Lib.hid (do_any q hq w2 w.heap.size vl L F HP2.out.tree HP2.out.row (by omega))
      have B2 := Lib.hid b2
      have FLT : Hid (∀ k, F k → k < wr.heap.size) := hP.out.tree.lt
      have E2 := Lib.hid e2
      unfold DoPost at CD
      obtain ⟨qk, qx, qy⟩ := q
      dsimp only at c0 c1 c2 hq CD B2 E2
      clear e2 r2 b2 h1 h2 hqq
      go_wp2_with (rw [← E2.out]; go_at_call 9; refine CD.out.mono ?_)
      first | (rintro e w3 v3 rfl F3 t3 p3 o3 f3 n3) | (rintro e w3 ⟨v3, F3, rfl, t3, p3, o3, f3, n3⟩)
      have HP3 := Lib.hid (HP2.out.doing t3 p3 o3 f3 n3)
      have b3 := B2.out.same (f3.block _ B2.out.lt (fun hF => absurd (FLT.out _ hF) (Nat.lt_irrefl _)))
      have d1 : w3.cell? ⟨wr.heap.size, 1, none⟩ = some (i64 qx) := b3.cell 1
      have hol := opL_le ⟨qk, qx, qy⟩ L
      have CX := Lib.hid (alike_any qx w3 w.heap.size v3 _ F3 t3 p3 (by omega))
      clear t3 p3 o3 f3 n3 b3 hol CD c0 c1 c2 hlt
      go_wp2_with (go_at_call 10; refine CX.out.mono ?_)
      first | (rintro e w4 rfl hr4) | (rintro e w4 ⟨rfl, hr4⟩)
      have HP4 := Lib.hid (HP3.out.rb' hr4)
      clear hr4 CX d1
      go_wp2
      go_roundg (n - (i + 1))
      case measure => have := HI.out; omega
      case rel => exact ⟨v3, i + 1, F3, rfl, by rw [show ((i : Int) + 1) = ((i + 1 : Nat) : Int) by omega], HI.out.1, Nat.le_refl _, by rw [opsN, ← HL.out, ← HQ.out]; exact HP4.out⟩
    · have hni : n = i := by omega
      subst hni
      have CX := Lib.hid (alike_any 0 wr w.heap.size vl L F hP.out.tree hP.out.row (by omega))
      clear h1 h2 hin
      go_wp2_with (go_at_call 10; refine CX.out.mono ?_)
      first | (rintro e w4 rfl hr4) | (rintro e w4 ⟨rfl, hr4⟩)
      have HR4 := Lib.hid (Rb.trans _ _ _ hP.out.rb hr4)
      clear hr4 CX
      go_wp2_with (go_at_call 11; refine (lives_any _).mono ?_)
      first | (rintro e w5 rfl hr5) | (rintro e w5 ⟨rfl, hr5⟩)
      have HR5 := Lib.hid (Rb.trans _ _ _ HR4.out hr5)
      clear hr5
      go_wp2
      go_ret
      exact ⟨rfl, HR5.out⟩
end Go.Proofs.Ytjdlicphmflnkaa.L5
