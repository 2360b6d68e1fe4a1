/-
  Layer 3: what a disk does: Sync, Clear, Crash, Append, Write, Clone.
-/
import Derived.Test.YtbdgdmieggpmhaaK3
namespace Go.Proofs.Ytbdgdmieggpmhaa.L3
open Go.ChangeShapes Go.WideShapes Go.ChangeAt Go.RowKit By Reg
set_option linter.unusedVariables false

theorem sl_one (a : Option Addr) (n c : Nat) : ∀ v ∈ [Value.slice a n c], v.oneCell' = true := by simp [Value.oneCell']
theorem bs_one {w : World} {v : Value} {xs : List UInt8} (h : Bs w v xs) : v.oneCell' = true ∧ v.cells = #[v] := by
  obtain ⟨ao, cap, rfl, _⟩ := h; exact ⟨rfl, rfl⟩
theorem two_one {w : World} {v u : Value} {xs ys : List UInt8} (h : Bs w v xs) (k : Bs w u ys) : ∀ x ∈ [v, u], x.oneCell' = true := by
  intro x hx
  simp at hx
  rcases hx with rfl | rfl
  · exact (bs_one h).1
  · exact (bs_one k).1

theorem sizeint : (Try.prog.info? 3).map (·.size) = some 1 := by kernel_rfl
theorem sizeslots : (Try.prog.info? 91).map (·.size) = some 2 := by kernel_rfl
theorem sizebytes : (Try.prog.info? 23).map (·.size) = some 1 := by kernel_rfl

/-- what a call that turns the disk leaves -/
def TurnedB (B : Nat) (w : World) (m : Mem) (D : Dk) (w' : World) : Prop := ∃ m', HeldK w' m' D ∧ New w m m' ∧ Kp m w w' ∧ ∀ k, m'.has k → m.has k ∨ B ≤ k
abbrev Turned (w : World) (m : Mem) (D : Dk) (w' : World) : Prop := TurnedB w.heap.size w m D w'

theorem HeldK.wrote (B : Nat) {w w' : World} {m : Mem} {D D' : Dk} (h : HeldK w m D) (hw : Wrote m.b w w') (m' : Mem) (hb : m'.b = m.b)
    (blk : Blk w' m.b 93 [.int .i64 D'.room, m'.lv, .int .i64 D'.sure.length, m'.v0, m'.v1, m'.u0, m'.u1])
    (own : w.ownsRow 0 5 1 m'.lv D'.log.length (D'.log.map c8)) (hl : m'.lv.ownBlock = none ∨ m'.lv.ownBlock = m.lv.ownBlock)
    (b0 : Bs w m'.v0 D'.n0) (b1 : Bs w m'.v1 D'.n1) (c0 : Bs w m'.u0 D'.s0) (c1 : Bs w m'.u1 D'.s1)
    (o0 : VOff m m'.v0) (o1 : VOff m m'.v1) (q0 : VOff m m'.u0) (q1 : VOff m m'.u1)
    (lt : ∀ k, m'.v0.ownBlock = some k ∨ m'.v1.ownBlock = some k ∨ m'.u0.ownBlock = some k ∨ m'.u1.ownBlock = some k → k < w.heap.size) (hh : ∀ k, m'.v0.ownBlock = some k ∨ m'.v1.ownBlock = some k ∨ m'.u0.ownBlock = some k ∨ m'.u1.ownBlock = some k → m.has k ∨ B ≤ k) (ok : D'.Ok) : TurnedB B w m D' w' := by
  have e : ∀ k, k ≠ m.b → w'.heap[k]? = w.heap[k]? := hw.block
  have ho : ∀ v, VOff m v → ∀ k, v.ownBlock = some k → w'.heap[k]? = w.heap[k]? := fun v hv k hk => e k (fun e => hv k hk (.inl e))
  have hlv : ∀ k, m'.lv.ownBlock = some k → m.lv.ownBlock = some k := fun k hk => by
    rcases hl with hl | hl
    · rw [hl] at hk; cases hk
    · rw [← hl]; exact hk
  have ht : ∀ k, m'.touch k → m.touch k := fun k hk => by
    rcases hk with rfl | hk
    · exact .inl hb
    · exact .inr (hlv k hk)
  refine ⟨m', ⟨by rw [hb]; exact blk, owns_same own fun k hk => e k (fun e => h.ne (by rw [← e]; exact hlv k hk)), fun hk => h.ne (by rw [← hb]; exact hlv _ hk), Bs.same b0 (ho _ o0), Bs.same b1 (ho _ o1), Bs.same c0 (ho _ q0), Bs.same c1 (ho _ q1),
    fun k hk h' => o0 k hk (ht k h'), fun k hk h' => o1 k hk (ht k h'), fun k hk h' => q0 k hk (ht k h'), fun k hk h' => q1 k hk (ht k h'), fun k hk => ?_, ok⟩, ⟨hb, fun k hk => .inl (hlv k hk)⟩, (Kp.refl m w).wrote hw (.inl (.inl rfl)), fun k hk => hk.elim (fun h' => .inl (.inl (ht k h'))) (hh k)⟩
  rw [hw.size]
  rcases hk with hk | hk
  · exact h.lt k (.inl (ht k hk))
  · exact lt k hk

theorem int_one (k : IntKind) (n : Int) : ∀ v ∈ [Value.int k n], v.oneCell' = true := by simp [Value.oneCell']
theorem nil_one : ∀ v ∈ [Value.slice none 0 0], v.oneCell' = true := by simp [Value.oneCell']
theorem sync_log (D : Dk) : D.sync.log = D.log := by simp [Dk.sync, Dk.log]
theorem HeldK.lts {w : World} {m : Mem} {D : Dk} (h : HeldK w m D) : (∀ k, m.v0.ownBlock = some k → k < w.heap.size) ∧ (∀ k, m.v1.ownBlock = some k → k < w.heap.size) ∧ (∀ k, m.u0.ownBlock = some k → k < w.heap.size) ∧ (∀ k, m.u1.ownBlock = some k → k < w.heap.size) :=
  ⟨fun k hk => h.lt k (.inr (.inl hk)), fun k hk => h.lt k (.inr (.inr (.inl hk))), fun k hk => h.lt k (.inr (.inr (.inr (.inl hk)))), fun k hk => h.lt k (.inr (.inr (.inr (.inr hk))))⟩
theorem HeldK.hs {w : World} {m : Mem} {D : Dk} (_h : HeldK w m D) (B : Nat) : (∀ k, m.v0.ownBlock = some k → m.has k ∨ B ≤ k) ∧ (∀ k, m.v1.ownBlock = some k → m.has k ∨ B ≤ k) ∧ (∀ k, m.u0.ownBlock = some k → m.has k ∨ B ≤ k) ∧ (∀ k, m.u1.ownBlock = some k → m.has k ∨ B ≤ k) :=
  ⟨fun _ hk => .inl (.inr (.inl hk)), fun _ hk => .inl (.inr (.inr (.inl hk))), fun _ hk => .inl (.inr (.inr (.inr (.inl hk)))), fun _ hk => .inl (.inr (.inr (.inr (.inr hk))))⟩
theorem fourT {p q r s T : Nat → Prop} (a : ∀ k, p k → T k) (b : ∀ k, q k → T k) (c : ∀ k, r k → T k) (d : ∀ k, s k → T k) : ∀ k, p k ∨ q k ∨ r k ∨ s k → T k := fun k h => by
  rcases h with h | h | h | h
  · exact a k h
  · exact b k h
  · exact c k h
  · exact d k h
theorem four {p q r s : Nat → Prop} {n : Nat} (a : ∀ k, p k → k < n) (b : ∀ k, q k → k < n) (c : ∀ k, r k → k < n) (d : ∀ k, s k → k < n) : ∀ k, p k ∨ q k ∨ r k ∨ s k → k < n := fun k h => by
  rcases h with h | h | h | h
  · exact a k h
  · exact b k h
  · exact c k h
  · exact d k h

set_option maxRecDepth 100000 in
theorem sync_any (m : Mem) (D : Dk) (w : World) (h : HeldK w m D) : Calls Try.prog 44 #[.pointer (some ⟨m.b, 0, none⟩)] w fun e w' => e = .returned (.tuple #[]) ∧ Turned w m D.sync w' := by
  have z1 := h.blk.cells7.e1
  obtain ⟨ao, cap, e, h2, h3⟩ := (Bs.of_owns h.own).len
  rw [e] at z1
  have HB := Lib.hid h.blk
  have Hv := Lib.hid (bs_one h.b0)
  have Hu := Lib.hid (bs_one h.b1)
  have H2 := Lib.hid (two_one h.b0 h.b1)
  have E := Lib.hid e
  have H := Lib.hid h
  clear e h
  go_enter Try.func44, Try.ntmps44
  go_wp2_with (refine wpList_store rfl 3 _ _ rfl m.b 2 93 _ [_] _ rfl rfl HB.out rfl sizeint (by simp) (int_one _ _) ?_)
  intro w1 hb1 hw1
  have y3 := hb1.cells7.e3
  have y4 := hb1.cells7.e4
  have HB1 := Lib.hid hb1
  have HW1 := Lib.hid hw1
  clear hb1 hw1
  go_wp2_with (refine wpList_store rfl 91 _ _ rfl m.b 5 93 _ [m.v0, m.v1] _ rfl rfl HB1.out rfl sizeslots (by simp) H2.out ?_)
  intro w2 hb2 hw2
  go_wp2
  go_end0
  have h := H.out
  obtain ⟨l0, l1, l2, l3⟩ := h.lts
  obtain ⟨s0, s1, s2, s3⟩ := h.hs w.heap.size
  exact ⟨rfl, h.wrote w.heap.size (HW1.out.trans hw2) ⟨m.b, m.lv, m.v0, m.v1, m.v0, m.v1⟩ rfl hb2 (by rw [sync_log]; exact h.own) (.inr rfl) h.b0 h.b1 h.b0 h.b1 h.o0 h.o1 h.o0 h.o1 (four l0 l1 l0 l1) (fourT s0 s1 s0 s1) (Dk.sync_ok h.ok)⟩

theorem sync_nil (w : World) : Calls Try.prog 44 #[.pointer none] w fun e w' => e = .returned (.tuple #[]) ∧ w = w' := by
  go_enter Try.func44, Try.ntmps44
  go_wp2
  refine bodyPost_ret (results_none rfl _ _ _) rfl ?_
  exact ⟨rfl, rfl⟩

set_option maxRecDepth 100000 in
theorem clear_any (m : Mem) (D : Dk) (w : World) (h : HeldK w m D) : Calls Try.prog 56 #[.pointer (some ⟨m.b, 0, none⟩)] w fun e w' => e = .returned (.tuple #[]) ∧ Turned w m D.clear w' := by
  have HB := Lib.hid h.blk
  have H := Lib.hid h
  clear h
  go_enter Try.func56, Try.ntmps56
  go_wp2_with (refine wpList_store rfl 23 _ _ rfl m.b 1 93 _ [.slice none 0 0] _ rfl rfl HB.out rfl sizebytes (by simp) nil_one ?_)
  intro w1 hb1 hw1
  have HB1 := Lib.hid hb1
  have HW1 := Lib.hid hw1
  clear hb1 hw1
  go_wp2_with (refine wpList_store rfl 3 _ _ rfl m.b 2 93 _ [.int .i64 0] _ rfl rfl HB1.out rfl sizeint (by simp) (int_one _ _) ?_)
  intro w2 hb2 hw2
  go_wp2
  go_end0
  have h := H.out
  obtain ⟨l0, l1, l2, l3⟩ := h.lts
  obtain ⟨s0, s1, s2, s3⟩ := h.hs w.heap.size
  exact ⟨rfl, h.wrote w.heap.size (HW1.out.trans hw2) ⟨m.b, .slice none 0 0, m.v0, m.v1, m.u0, m.u1⟩ rfl hb2 (World.ownsRow_nil _ _ _ _) (.inl rfl) h.b0 h.b1 h.c0 h.c1 h.o0 h.o1 h.q0 h.q1 (four l0 l1 l2 l3) (fourT s0 s1 s2 s3) (Dk.clear_ok h.ok)⟩
theorem clear_nil (w : World) : Calls Try.prog 56 #[.pointer none] w fun e w' => e = .returned (.tuple #[]) ∧ w = w' := by
  go_enter Try.func56, Try.ntmps56
  go_wp2
  refine bodyPost_ret (results_none rfl _ _ _) rfl ?_
  exact ⟨rfl, rfl⟩
theorem crash_nil (n : Int) (w : World) : Calls Try.prog 37 #[.pointer none, .int .i64 n] w fun e w' => e = .returned (.tuple #[]) ∧ w = w' := by
  go_enter Try.func37, Try.ntmps37
  go_wp2
  refine bodyPost_ret (results_none rfl _ _ _) rfl ?_
  exact ⟨rfl, rfl⟩
theorem append_nil (v : Value) (w : World) : Calls Try.prog 43 #[.pointer none, v] w fun e w' => e = .returned (.int .i64 6) ∧ w = w' := by
  go_enter Try.func43, Try.ntmps43
  go_wp2
  go_ret
  exact ⟨rfl, rfl⟩
theorem write_nil (n : Int) (v : Value) (w : World) : Calls Try.prog 63 #[.pointer none, .int .i64 n, v] w fun e w' => e = .returned (.int .i64 6) ∧ w = w' := by
  go_enter Try.func63, Try.ntmps63
  go_wp2
  go_ret
  exact ⟨rfl, rfl⟩
theorem clone_nil (w : World) : Calls Try.prog 38 #[.pointer none] w fun e w' => e = .returned (.pointer none) ∧ w = w' := by
  go_enter Try.func38, Try.ntmps38
  go_wp2
  go_ret
  exact ⟨rfl, rfl⟩
end Go.Proofs.Ytbdgdmieggpmhaa.L3
