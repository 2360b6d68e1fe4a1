/-
  Layer 5: TreeClones.
-/
import Derived.Test.YtjdlicphmflnkaaT72
import Derived.Test.YtjdlicphmflnkaaT64
namespace Go.Proofs.Ytjdlicphmflnkaa.L5
open Go.ChangeShapes Go.WideShapes Go.ChangeAt Go.RowKit By Reg
set_option linter.unusedVariables false
set_option linter.unusedSimpArgs false

/-- a tree with its list, and a clone with its own -/
structure Cs (w : World) (p p2 : Nat) (vl : Value) (L : List Th) (F : Nat → Prop) (m : Value) (L2 : List Th) (F2 : Nat → Prop) (W : World) : Prop where
  t : TreeAt W p L F
  c : TreeAt W p2 L2 F2
  dj : ∀ k, F k → ¬ F2 k
  nt : ∀ k, F k → w.heap.size ≤ k
  nc : ∀ k, F2 k → w.heap.size ≤ k
  rl : PRow W vl L
  rm : PRow W m L2
  rb : Rb w W
theorem Cs.rb' {w W W' : World} {p p2 : Nat} {vl m : Value} {L L2 : List Th} {F F2 : Nat → Prop} (h : Cs w p p2 vl L F m L2 F2 W) (r : Rb W W') : Cs w p p2 vl L F m L2 F2 W' :=
  ⟨h.t.rb r, h.c.rb r, h.dj, h.nt, h.nc, h.rl.rb r, h.rm.rb r, Rb.trans _ _ _ h.rb r⟩
theorem Cs.doing {w W W' : World} {p p2 : Nat} {vl m m' : Value} {L L2 L' : List Th} {F F2 F' : Nat → Prop} (h : Cs w p p2 vl L F m L2 F2 W) (t : TreeAt W' p2 L' F') (r : PRow W' m' L') (f : Fr F2 W W') (n : ∀ k, F' k → F2 k ∨ W.heap.size ≤ k) : Cs w p p2 vl L F m' L' F' W' := by
  have hs := h.rb.size
  refine ⟨h.t.same fun k hk => f.block k (h.t.lt k hk) (h.dj k hk), t, fun k hk hk' => ?_, h.nt, fun k hk => ?_, h.rl.fr h.c f, r, ((Fr.of_rb (F := fun _ => False) h.rb).trans f (fun k hk => .inr (h.nc k hk))).rb (fun k hk => hk.elim)⟩
  · rcases n k hk' with h' | h'
    · exact h.dj k hk h'
    · have := h.t.lt k hk; omega
  · rcases n k hk with h' | h'
    · exact h.nc k h'
    · omega

set_option maxHeartbeats 4000000 in
set_option maxRecDepth 100000 in
theorem clones_walk (w : World) (v : Value) (ks : List Int) (hk : Sl w v (ks.map i64)) (ao : Option Addr) (len cap : Nat) (l : List OpV) (h : OpsIn w ao len l) (hc : len ≤ cap) (hlen : len ≤ 9223372036854775807) :
    Calls Try.prog 6 #[v, .slice ao len cap] w fun e w' => e = .returned (.bool true) ∧ Below w.heap.size w w' := by
  have CM0 := made_any w v ks hk
  obtain ⟨aok, capk, rfl, _⟩ := hk.form
  obtain ⟨L, hL⟩ : ∃ L, L = madeL ks := ⟨_, rfl⟩
  have hL3 : L.length ≤ 300 := by rw [hL]; exact madeL_le ks
  rw [← hL] at CM0
  clear hk hL
  generalize ks.length = mk0 at CM0 ⊢
  have CM := Lib.hid CM0
  clear CM0
  obtain ⟨hll, hcell⟩ := h
  have HC := Lib.hid hcell
  have HLL := Lib.hid hll
  clear hcell hll
  go_enter Try.func6, Try.ntmps6
  go_upto_region 2 with fail
  obtain ⟨n, hm⟩ : ∃ n : Nat, n = (min (↑len) 60 : Int).toNat := ⟨_, rfl⟩
  rw [← hm]
  have hnl : n ≤ len ∧ n ≤ 60 := by omega
  have hncap : n ≤ cap := by omega
  have hn60 := hnl.2
  have CELL : Hid (∀ W, Rb w W → ∀ j, j < n → (l.getD j ⟨0, 0, 0⟩).k < 18446744073709551616 ∧ ∃ g off, ao = some ⟨g, off, none⟩ ∧ W.cell? ⟨g, off + j * 3, none⟩ = some (.int .u64 (l.getD j ⟨0, 0, 0⟩).k) ∧ W.cell? ⟨g, off + j * 3 + 1, none⟩ = some (i64 (l.getD j ⟨0, 0, 0⟩).x) ∧ W.cell? ⟨g, off + j * 3 + 2, none⟩ = some (i64 (l.getD j ⟨0, 0, 0⟩).y)) := fun W hr j hj => by
    have hjl : j < l.length := by have := HLL.out; omega
    obtain ⟨h1, g, off, h2, h3, h4, h5⟩ := HC.out j l[j] (List.getElem?_eq_getElem hjl)
    rw [show l.getD j ⟨0, 0, 0⟩ = l[j] by rw [List.getD_eq_getElem?_getD, List.getElem?_eq_getElem hjl]; rfl]
    exact ⟨h1, g, off, h2, by rw [Below.cell hr (World.block_lt_of_cell? w _ h3)]; exact h3, by rw [Below.cell hr (World.block_lt_of_cell? w _ h4)]; exact h4, by rw [Below.cell hr (World.block_lt_of_cell? w _ h5)]; exact h5⟩
  clear hnl hm hlen HC HLL hc
  go_wp2_with (go_at_call 12; refine CM.out.mono ?_)
  first | (rintro e w1 p vl F rfl hm) | (rintro e w1 ⟨p, vl, F, rfl, hm⟩)
  have CC := Lib.hid (tclone w1 p L F hm.tree)
  have HM := Lib.hid hm
  unfold TCl at CC
  clear hm CM
  go_wp2_with (go_at_call 20; refine CC.out.mono ?_)
  first | (rintro e w2 p2 rfl F2 t2 n2 r2) | (rintro e w2 ⟨p2, F2, rfl, t2, n2, r2⟩)
  have HS : Hid (Cs w p p2 vl L F vl L F2 w2) := by
    have m := HM.out
    have hs := m.rb.size
    exact ⟨m.tree.rb r2, t2, fun k hk hk' => by have := n2 k hk'; have := m.tree.lt k hk; omega, m.new, fun k hk => by have := n2 k hk; omega, m.row.rb r2, m.row.rb r2, Rb.trans _ _ _ m.rb r2⟩
  clear t2 n2 r2 CC HM
  go_wp2_with fail
  go_loopg [8, 37] n (fun gk s8 s37 wr => ∃ (m : Value) (i : Nat) (F3 : Nat → Prop), s8 = m ∧ s37 = .int .i64 i ∧ i ≤ n ∧ n - i ≤ gk ∧ Hid (Cs w p p2 vl L F m (opsN l i L) F3 wr))
  case atStart => exact ⟨_, 0, _, rfl, rfl, Nat.zero_le _, by omega, HS.out⟩
  case round =>
    obtain ⟨m, i, F3, hmm, rfl, h1, h2, hP⟩ := hrel
    obtain rfl : m = u8 := hmm.symm
    obtain ⟨L2, hL2⟩ : ∃ L2, L2 = opsN l i L := ⟨_, rfl⟩
    rw [← hL2] at hP
    have hLl : L2.length ≤ 360 := by
      have := opsN_le l L i
      rw [hL2]
      omega
    have HL := Lib.hid hL2
    clear hL2 HS
    by_cases hin : i < n
    · obtain ⟨hq, g, off, rfl, c0, c1, c2⟩ := CELL.out wr hP.out.rb i hin
      have HI : Hid (i < n ∧ n - i ≤ gk) := ⟨hin, h2⟩
      obtain ⟨q, hqq⟩ : ∃ q, q = l.getD i ⟨0, 0, 0⟩ := ⟨_, rfl⟩
      rw [← hqq] at hq c0 c1 c2
      have HQ := Lib.hid hqq
      have hlt := World.block_lt_of_cell? wr _ c0
      obtain ⟨w3, e3⟩ : ∃ w3, w3 = wr.alloc (.cells #[.int .u64 q.k, i64 q.x, i64 q.y] 30) := ⟨_, rfl⟩
      have r3 : Rb wr w3 := by rw [e3]; exact (Below.refl _ wr).alloc (Nat.le_refl _) _
      have HP3 := Lib.hid (hP.out.rb' r3)
      have CD := Lib.hid (do_any q hq w3 p2 m L2 F3 HP3.out.c HP3.out.rm (by omega))
      have E3 := Lib.hid e3
      unfold DoPost at CD
      obtain ⟨qk, qx, qy⟩ := q
      dsimp only at c0 c1 c2 hq CD E3
      clear e3 r3 h1 h2 hqq
      go_wp2_with (rw [← E3.out]; go_at_call 9; refine CD.out.mono ?_)
      first | (rintro e w4 v4 rfl F4 t4 p4 o4 f4 n4) | (rintro e w4 ⟨v4, F4, rfl, t4, p4, o4, f4, n4⟩)
      have HP4 := Lib.hid (HP3.out.doing t4 p4 f4 n4)
      clear t4 p4 o4 f4 n4 CD c0 c1 c2 hlt
      go_wp2
      go_roundg (n - (i + 1))
      case measure => have := HI.out; omega
      case rel => exact ⟨v4, i + 1, F4, rfl, by rw [show ((i : Int) + 1) = ((i + 1 : Nat) : Int) by omega], HI.out.1, Nat.le_refl _, by rw [opsN, ← HL.out, ← HQ.out]; exact HP4.out⟩
    · have hni : n = i := by omega
      subst hni
      have J1 := Lib.hid (alike_any 0 wr p vl L F hP.out.t hP.out.rl (by omega))
      clear h1 h2 hin
      go_wp2_with (first | (go_at_call 21; refine (none_get _ _).mono ?_; rintro e w' ⟨rfl, rfl⟩) | (go_at_call 16; refine (none_put _ _ _).mono ?_; rintro e w' ⟨rfl, rfl⟩) | (go_at_call 15; refine (none_del _ _).mono ?_; rintro e w' ⟨rfl, rfl⟩) | (go_at_call 10; refine J1.out.mono ?_))
      first | (rintro e w4 rfl hr4) | (rintro e w4 ⟨rfl, hr4⟩)
      have HP4 := Lib.hid (hP.out.rb' hr4)
      have J2 := Lib.hid (alike_any 0 w4 p2 m L2 F3 HP4.out.c HP4.out.rm (by omega))
      clear hr4 J1
      go_wp2_with (go_at_call 10; refine J2.out.mono ?_)
      first | (rintro e w5 rfl hr5) | (rintro e w5 ⟨rfl, hr5⟩)
      have HR5 := Lib.hid (Rb.trans _ _ _ HP4.out.rb hr5)
      clear hr5 J2
      go_wp2_with (first | (go_at_call 18; refine (none_len _).mono ?_; rintro e w' ⟨rfl, rfl⟩) | (go_at_call 19; refine (none_depth _).mono ?_; rintro e w' ⟨rfl, rfl⟩) | (go_at_call 17; refine (none_right _).mono ?_; rintro e w' ⟨rfl, rfl⟩) | (go_at_call 20; refine (none_clone _).mono ?_; rintro e w' ⟨rfl, rfl⟩) | (go_at_call 11; refine (lives_any _).mono ?_))
      first | (rintro e w6 rfl hr6) | (rintro e w6 ⟨rfl, hr6⟩)
      have HR6 := Lib.hid (Rb.trans _ _ _ HR5.out hr6)
      clear hr6
      go_wp2
      go_ret
      exact ⟨rfl, HR6.out⟩
end Go.Proofs.Ytjdlicphmflnkaa.L5
