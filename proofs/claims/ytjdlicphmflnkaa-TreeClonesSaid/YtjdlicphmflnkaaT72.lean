/-
  Layer 5: clone of a subtree, of a Tree; a Tree that there isn't.
-/
import Derived.Test.YtjdlicphmflnkaaT71
namespace Go.Proofs.Ytjdlicphmflnkaa.L5
open Go.ChangeShapes Go.WideShapes Go.ChangeAt Go.RowKit By Reg
set_option linter.unusedVariables false
set_option linter.unusedSimpArgs false

theorem Held.vs_le : ∀ {d : Nat} {w : World} {s : Sub}, Held d w s → s.n ≤ 100 → ∃ N, NodeAt w N ∧ N.b = s.b := fun h _ => by
  obtain ⟨N, h1, h2, _⟩ := h.node
  exact ⟨N, h1, h2⟩

set_option maxHeartbeats 1000000 in
theorem clone_sub : ∀ (d : Nat) (w : World) (s : Sub), Held d w s → s.n ≤ 100 → (0 < d → s.n ≤ 8) → Calls Try.prog 37 #[ptrv s.b] w (ClPost d w s)
  | 0, w, s, ⟨N, h⟩, hn, _ => by
    have hks := h.n
    have hlen := h.len
    have := clone_node w 0 N [] h.na (by rw [h.ps]; rfl) (by omega) (by omega) (by simp) (fun c hc => by cases hc)
    rw [h.b] at this
    refine this.mono ?_
    rintro e w' ⟨C, cs', rfl, hc⟩
    have e0 : cs' = [] := by
      have := congrArg List.length hc.Ms
      simpa using this
    subst e0
    refine ⟨⟨C.b, N.ks.length, (N.ks.zip N.vs).map tk, C.has⟩, rfl, ⟨C, hc.na, rfl, hc.ps, by rw [hc.ks, hc.vs]; exact h.len, by rw [hc.ks], by rw [hc.ks, hc.vs], fun _ => Iff.rfl⟩, by rw [h.n], by rw [h.M], hc.new, hc.rb⟩
  | d + 1, w, s, ⟨N, cs, o, hcn⟩, hn, h8 => by
    have hlen := o.len
    have hsn := o.n
    have hs8 := h8 (Nat.succ_pos d)
    have := clone_node w d N cs o.na o.ps (by omega) (by rw [o.vs]; simp) (by omega) (fun c hc w1 hr => clone_sub d w1 c ((o.rb hr).held c hc) (by have := hcn c hc; omega) (fun _ => (hcn c hc).2))
    rw [o.b] at this
    refine this.mono ?_
    rintro e w' ⟨C, cs', rfl, hc⟩
    have hMs : cs'.map (·.M) = cs.map (·.M) := by rw [hc.Ms, List.take_length]
    have hns : cs'.map (·.n) = cs.map (·.n) := by rw [hc.ns, List.take_length]
    have hl : cs'.length = cs.length := by
      have := congrArg List.length hMs
      simpa using this
    refine ⟨⟨C.b, cs'.length, weave C.ks (cs'.map (·.M)), fun k => C.has k ∨ ∃ c ∈ cs', c.F k⟩, rfl, ⟨C, cs', ⟨hc.na, rfl, by rw [hc.vs, o.vs], hc.ps, rfl, by rw [hc.ks]; omega, rfl, hc.held, hc.dj, hc.off, fun _ => Iff.rfl⟩, fun c hcm => ?_⟩, ?_, ?_, ?_, hc.rb⟩
    · have hm : c.n ∈ cs'.map (·.n) := List.mem_map_of_mem hcm
      rw [hns] at hm
      obtain ⟨c2, h2, h3⟩ := List.mem_map.1 hm
      rw [← h3]
      exact hcn c2 h2
    · show cs'.length = s.n
      rw [hl, hsn]
    · show weave C.ks (cs'.map (·.M)) = s.M
      rw [hMs, hc.ks, o.M]
    · rintro k (hk | ⟨c, hcm, hk⟩)
      · exact hc.new k hk
      · exact hc.newc c hcm k hk

/-- what Clone answers and leaves -/
def TCl (w : World) (L : List Th) (e : Ending) (w' : World) : Prop := ∃ p F, e = .returned (ptrv p) ∧ TreeAt w' p L F ∧ (∀ k, F k → w.heap.size ≤ k) ∧ Rb w w'

set_option maxHeartbeats 2000000 in
set_option maxRecDepth 100000 in
theorem tclone (w : World) (p : Nat) (L : List Th) (F : Nat → Prop) (h : TreeAt w p L F) : Calls Try.prog 20 #[ptrv p] w (TCl w L) := by
  rcases h with ⟨hb, rfl, _⟩ | ⟨d, s, h, _⟩
  · have c0 : w.cell? ⟨p, 0, none⟩ = some (.pointer none) := hb.cell 0
    have c1 : w.cell? ⟨p, 1, none⟩ = some (i64 0) := hb.cell 1
    have hlt := hb.lt
    obtain ⟨w1, e1⟩ : ∃ w1, w1 = w.alloc (.cells #[.pointer none, i64 0] 26) := ⟨_, rfl⟩
    have r1 : Rb w w1 := by rw [e1]; exact (Below.refl _ w).alloc (Nat.le_refl _) _
    have b1 : Blk w1 w.heap.size 26 [.pointer none, i64 0] := by rw [e1]; exact Blk.new w _ [.pointer none, i64 0]
    have HF : Hid (TCl w [] (.returned (ptrv w.heap.size)) (w.alloc (.cells #[.pointer none, i64 0] 26))) := by
      rw [← e1]
      exact Lib.hid ⟨_, fun k => k = w.heap.size, rfl, .inl ⟨b1, rfl, fun _ => Iff.rfl⟩, fun k hk => Nat.le_of_eq hk.symm, r1⟩
    clear e1 r1 b1 hb
    go_enter Try.func20, Try.ntmps20
    go_wp2_with fail
    go_ret
    exact HF.out
  · have c0 : w.cell? ⟨p, 0, none⟩ = some (ptrv s.b) := h.blk.cell 0
    have c1 : w.cell? ⟨p, 1, none⟩ = some (i64 L.length) := h.blk.cell 1
    have hlt := h.blk.lt
    obtain ⟨w1, e1⟩ : ∃ w1, w1 = w.alloc (.cells #[.pointer none, i64 L.length] 26) := ⟨_, rfl⟩
    have r1 : Rb w w1 := by rw [e1]; exact (Below.refl _ w).alloc (Nat.le_refl _) _
    have b1 : Blk w1 w.heap.size 26 [.pointer none, i64 L.length] := by rw [e1]; exact Blk.new w _ [.pointer none, i64 L.length]
    have hs1 : w1.heap.size = w.heap.size + 1 := by rw [e1]; simp
    have d0 : w1.cell? ⟨p, 0, none⟩ = some (ptrv s.b) := (h.blk.rb r1).cell 0
    have CS := Lib.hid (clone_sub d w1 s (h.held.rb r1) (by have := h.eight; omega) (fun _ => h.eight))
    have HF := Lib.hid h
    have H1 : Hid (Rb w w1 ∧ Blk w1 w.heap.size 26 [.pointer none, i64 L.length] ∧ w1.heap.size = w.heap.size + 1) := ⟨r1, b1, hs1⟩
    have E1 := Lib.hid e1
    unfold ClPost at CS
    clear e1 r1 b1 hs1 h
    unfold TCl
    go_enter Try.func20, Try.ntmps20
    go_wp2_with (rw [← E1.out]; go_at_call 37; refine CS.out.mono ?_)
    first | (rintro e w2 s2 rfl k1 k2 k3 k4 k5) | (rintro e w2 ⟨s2, rfl, k1, k2, k3, k4, k5⟩)
    have b2 := H1.out.2.1.rb k5
    have f0 : w2.cell? ⟨w.heap.size, 0, none⟩ = some (.pointer none) := b2.cell 0
    have g0 := b2.frozen 0
    have H2 : Hid (Held d w2 s2 ∧ s2.n = s.n ∧ s2.M = s.M ∧ (∀ k, s2.F k → w1.heap.size ≤ k) ∧ Rb w1 w2 ∧ Blk w2 w.heap.size 26 [.pointer none, i64 L.length]) := ⟨k1, k2, k3, k4, k5, b2⟩
    clear k1 k2 k3 k4 k5 b2 d0 c0 c1 CS
    go_wp2
    go_ret
    obtain ⟨k1, k2, k3, k4, k5, b2⟩ := H2.out
    obtain ⟨b3, hw⟩ := blk_setCells w.heap.size 26 [ptrv s2.b] 0 w2 _ b2 (by simp)
    have b3' : Blk (w2.setCell ⟨w.heap.size, 0, none⟩ (ptrv s2.b)) w.heap.size 26 [ptrv s2.b, i64 L.length] := by simpa [World.setCells, splice_eq] using b3
    have hw' : Wrote w.heap.size w2 (w2.setCell ⟨w.heap.size, 0, none⟩ (ptrv s2.b)) := by simpa [World.setCells] using hw
    have hs1 := H1.out.2.2
    have off : ¬ s2.F w.heap.size := fun hF => by have := k4 _ hF; omega
    have hf := HF.out
    refine ⟨w.heap.size, _, rfl, Full.tree (d := d) (s := s2) ⟨b3', k1.same d fun k hk => hw'.block k (fun e => off (by rw [← e]; exact hk)), by rw [k2]; exact hf.one, by rw [k2]; exact hf.eight, fun hd => by rw [k2]; exact hf.two hd, by rw [k3]; exact hf.srt, by rw [k3]; exact hf.items, off⟩, fun k hk => ?_, ?_⟩
    · rcases hk with rfl | hk
      · exact Nat.le_refl _
      · have := k4 k hk; omega
    · exact ((Fr.of_rb (F := fun _ => False) (Rb.trans _ _ _ H1.out.1 k5)).wrote hw' (.inr (Nat.le_refl _))).rb (fun k hk => hk.elim)

/-! ### a Tree that there isn't -/
theorem none_empty (w : World) : Calls Try.prog 28 #[.pointer none] w fun e w' => e = .returned (.bool true) ∧ w = w' := by
  go_enter Try.func28, Try.ntmps28
  go_wp2
  go_ret
  exact ⟨rfl, rfl⟩
theorem none_get (w : World) (x : Int) : Calls Try.prog 21 #[.pointer none, i64 x] w fun e w' => e = .returned (.tuple #[i64 0, .bool false]) ∧ w = w' := by
  go_enter Try.func21, Try.ntmps21
  go_wp2_with (go_at_call 28; refine (none_empty _).mono ?_; rintro e w' ⟨rfl, rfl⟩)
  go_ret2
  exact ⟨rfl, rfl⟩
theorem none_put (w : World) (x y : Int) : Calls Try.prog 16 #[.pointer none, i64 x, i64 y] w fun e w' => e = .returned (.tuple #[i64 0, .bool false]) ∧ w = w' := by
  go_enter Try.func16, Try.ntmps16
  go_wp2
  go_ret2
  exact ⟨rfl, rfl⟩
theorem none_del (w : World) (x : Int) : Calls Try.prog 15 #[.pointer none, i64 x] w fun e w' => e = .returned (.tuple #[i64 0, .bool false]) ∧ w = w' := by
  go_enter Try.func15, Try.ntmps15
  go_wp2_with (go_at_call 28; refine (none_empty _).mono ?_; rintro e w' ⟨rfl, rfl⟩)
  go_ret2
  exact ⟨rfl, rfl⟩
theorem none_len (w : World) : Calls Try.prog 18 #[.pointer none] w fun e w' => e = .returned (i64 0) ∧ w = w' := by
  go_enter Try.func18, Try.ntmps18
  go_wp2
  go_ret
  exact ⟨rfl, rfl⟩
theorem none_depth (w : World) : Calls Try.prog 19 #[.pointer none] w fun e w' => e = .returned (i64 0) ∧ w = w' := by
  go_enter Try.func19, Try.ntmps19
  go_wp2_with (go_at_call 28; refine (none_empty _).mono ?_; rintro e w' ⟨rfl, rfl⟩)
  go_ret
  exact ⟨rfl, rfl⟩
theorem none_right (w : World) : Calls Try.prog 17 #[.pointer none] w fun e w' => e = .returned (.bool true) ∧ w = w' := by
  go_enter Try.func17, Try.ntmps17
  go_wp2_with (go_at_call 28; refine (none_empty _).mono ?_; rintro e w' ⟨rfl, rfl⟩)
  go_ret
  exact ⟨rfl, rfl⟩
theorem none_clone (w : World) : Calls Try.prog 20 #[.pointer none] w fun e w' => e = .returned (.pointer none) ∧ w = w' := by
  go_enter Try.func20, Try.ntmps20
  go_wp2
  go_ret
  exact ⟨rfl, rfl⟩
end Go.Proofs.Ytjdlicphmflnkaa.L5
