/-
  Layer 5: lives.
-/
import Derived.Test.YtjdlicphmflnkaaT31
namespace Go.Proofs.Ytjdlicphmflnkaa.L5
open Go.ChangeShapes Go.WideShapes Go.ChangeAt Go.RowKit By Reg
set_option linter.unusedVariables false

def liveN : Nat → List Th
  | 0 => []
  | i + 1 => putL ((i : Int) + 1) i (liveN i)
theorem liveN_le : ∀ i, (liveN i).length ≤ i
  | 0 => Nat.le_refl _
  | i + 1 => by
    have := putL_le ((i : Int) + 1) i (liveN i)
    have := liveN_le i
    rw [liveN]
    omega

/-- a tree of the call's own, alone -/
structure Alone (w : World) (L : List Th) (p : Nat) (F : Nat → Prop) (w' : World) : Prop where
  tree : TreeAt w' p L F
  new : ∀ k, F k → w.heap.size ≤ k
  rb : Rb w w'
theorem Alone.step {w w1 w2 : World} {L L' : List Th} {p : Nat} {F F' : Nat → Prop} (h : Alone w L p F w1) (t : TreeAt w2 p L' F') (f : Fr F w1 w2) (n : ∀ k, F' k → F k ∨ w1.heap.size ≤ k) : Alone w L' p F' w2 := by
  have := h.rb.size
  refine ⟨t, fun k hk => ?_, ((Fr.of_rb (F := fun _ => False) h.rb).trans f (fun k hk => .inr (h.new k hk))).rb (fun k hk => hk.elim)⟩
  rcases n k hk with h' | h'
  · exact h.new k h'
  · omega
theorem Alone.then_rb {w w1 w2 : World} {L : List Th} {p : Nat} {F : Nat → Prop} (h : Alone w L p F w1) (r : Rb w1 w2) : Alone w L p F w2 := ⟨h.tree.rb r, h.new, Rb.trans _ _ _ h.rb r⟩

set_option maxHeartbeats 4000000 in
set_option maxRecDepth 100000 in
theorem lives_any (w : World) : Calls Try.prog 11 #[] w fun e w' => e = .returned (.bool true) ∧ Rb w w' := by
  obtain ⟨w0, e0⟩ : ∃ w0, w0 = w.alloc (.cells #[.pointer none, i64 0] 26) := ⟨_, rfl⟩
  have r0 : Rb w w0 := by rw [e0]; exact (Below.refl _ w).alloc (Nat.le_refl _) _
  have M0 : Hid (Alone w [] w.heap.size (fun k => k = w.heap.size) w0) := ⟨.inl ⟨by rw [e0]; exact Blk.new w _ [.pointer none, i64 0], rfl, fun _ => Iff.rfl⟩, fun k hk => by have : k = w.heap.size := hk; omega, r0⟩
  clear r0
  go_enter Try.func11, Try.ntmps11
  go_wp2_with fail
  go_loopg [6] 9 (fun g s6 wr => ∃ (i : Nat) (F : Nat → Prop), s6 = .int .i64 i ∧ i ≤ 9 ∧ 9 - i ≤ g ∧ Hid (Alone w (liveN i) w.heap.size F wr))
  case atStart => exact ⟨0, _, rfl, by omega, by omega, by have := M0.out; rw [e0] at this; exact this⟩
  case round =>
    obtain ⟨i, F, rfl, h1, h2, hM⟩ := hrel
    by_cases hin : i < 9
    · have hle := liveN_le i
      have CP := Lib.hid (tput ((i : Int) + 1) i wr w.heap.size (liveN i) F hM.out.tree (by omega))
      have HI := Lib.hid hin
      have hw1 : IntKind.i64.wrap ((i : Int) + 1) = (i : Int) + 1 := by rw [IntKind.wrap_i64]; omega
      clear hle h1
      unfold TPut at CP
      go_wp2_with (go_at_call 16; refine CP.out.mono ?_)
      first | (rintro e w2 F2 rfl t2 f2 n2) | (rintro e w2 ⟨F2, rfl, t2, f2, n2⟩)
      have H2 : Hid (TreeAt w2 w.heap.size (liveN (i + 1)) F2 ∧ Fr F wr w2 ∧ (∀ k, F2 k → F k ∨ wr.heap.size ≤ k)) := ⟨t2, f2, n2⟩
      clear t2 f2 n2 CP
      go_wp2
      go_roundg (9 - (i + 1))
      case measure => have := HI.out; omega
      case rel => exact ⟨i + 1, F2, by rw [show ((i : Int) + 1) = ((i + 1 : Nat) : Int) by omega], HI.out, Nat.le_refl _, hM.out.step H2.out.1 H2.out.2.1 H2.out.2.2⟩
    · have hni : i = 9 := by omega
      subst hni
      obtain ⟨L, hL⟩ : ∃ L, L = liveN 9 := ⟨_, rfl⟩
      rw [← hL] at hM
      have hlen : L.length = 9 := by rw [hL]; rfl
      have hget : getL 9 L = some 8 := by rw [hL]; rfl
      have hdel : (delL 9 L).length = 8 := by rw [hL]; rfl
      have CD := Lib.hid (tdepth wr w.heap.size L F hM.out.tree (by omega))
      have CX : ∀ w', Rb wr w' → Hid (Calls Try.prog 15 #[ptrv w.heap.size, i64 9] w' (TDel 9 w' w.heap.size L F)) := fun w' hr => tdel 9 w' w.heap.size L F (hM.out.tree.rb hr) (by omega)
      have HG := Lib.hid hget
      have HD := Lib.hid hdel
      have HL := Lib.hid hlen
      clear hL hlen hget hdel h1 h2 hin
      go_wp2_with (go_at_call 19; refine CD.out.mono ?_)
      first | (rintro e w2 n rfl hd rfl) | (rintro e w2 ⟨n, rfl, hd, rfl⟩)
      have hn2 : n = 2 := by
        have hl := HL.out
        rcases hd with ⟨h1, _⟩ | ⟨d, h1, h2, h3⟩
        · rw [h1] at hl; cases hl
        · rw [hl] at h2 h3
          have hd1 : d = 1 := by
            rcases Nat.lt_or_ge d 2 with h | h
            · rcases Nat.lt_or_ge d 1 with h' | h'
              · have := h3 (by omega); omega
              · omega
            · have : 4 ^ 2 ≤ 4 ^ d := Nat.pow_le_pow_right (by decide) h
              omega
          omega
      subst hn2
      have J := CX wr (Rb.refl _)
      unfold TDel at J
      rw [HG.out] at J
      dsimp only [Option.getD, Option.isSome] at J
      clear hd CX
      go_wp2_with (go_at_call 15; refine J.out.mono ?_)
      first | (rintro e w3 F3 rfl t3 f3 n3) | (rintro e w3 ⟨F3, rfl, t3, f3, n3⟩)
      have A3 : Hid (Alone w (delL 9 L) w.heap.size F3 w3) := hM.out.step t3 f3 n3
      have CN := Lib.hid (tlen w3 w.heap.size _ F3 t3)
      rw [HD.out] at CN
      have CR := Lib.hid (tright w3 w.heap.size _ F3 t3 (by rw [HD.out]; decide))
      clear t3 f3 n3 J
      go_wp2_with (first | (go_at_call 18; refine CN.out.mono ?_; rintro e w' ⟨rfl, rfl⟩) | (go_at_call 17; refine CR.out.mono ?_))
      first | (rintro e w4 rfl hd) | (rintro e w4 ⟨rfl, hd⟩)
      have HDN := Lib.hid hd
      clear hd
      go_wp2
      go_ret
      exact ⟨rfl, (A3.out.then_rb HDN.out.rb).rb⟩
end Go.Proofs.Ytjdlicphmflnkaa.L5
