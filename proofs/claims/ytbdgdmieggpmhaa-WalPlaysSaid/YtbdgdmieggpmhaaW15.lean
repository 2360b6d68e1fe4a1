/-
  Layer 4: a log, and the blocks that nothing turns; the calls in these words.
-/
import Derived.Test.YtbdgdmieggpmhaaW14
import Derived.Test.YtbdgdmieggpmhaaW9
namespace Go.Proofs.Ytbdgdmieggpmhaa.L4
open Go.ChangeShapes Go.WideShapes Go.ChangeAt Go.RowKit Oct By Reg L3
set_option linter.unusedVariables false

/-- a disk (its block b), and the blocks S that nothing turns since ws -/
structure DwM (ws : World) (S : Nat → Prop) (b : Nat) (D : Dk) (w : World) (m : Mem) : Prop where
  hb : m.b = b
  held : HeldK w m D
  size : ws.heap.size ≤ w.heap.size
  os : w.os = ws.os
  tape : w.tape = ws.tape
  output : w.output = ws.output
  s : ∀ j, S j → j < ws.heap.size ∧ ¬ m.has j ∧ w.heap[j]? = ws.heap[j]?
/-- a log on it (its block lb) -/
structure LwM (ws : World) (S : Nat → Prop) (b lb : Nat) (D : Dk) (g k : Nat) (w : World) (m : Mem) : Prop where
  hb : m.b = b
  held : HeldL w lb m D g k
  size : ws.heap.size ≤ w.heap.size
  os : w.os = ws.os
  tape : w.tape = ws.tape
  output : w.output = ws.output
  s : ∀ j, S j → j < ws.heap.size ∧ ¬ m.has j ∧ w.heap[j]? = ws.heap[j]?
  l : ∀ j, S j → j ≠ lb

section
variable {ws w w' : World} {S : Nat → Prop} {b lb : Nat} {D D' : Dk} {g k g' k' : Nat} {m : Mem}
theorem LwM.disk (h : LwM ws S b lb D g k w m) : DwM ws S b D w m := ⟨h.hb, h.held.disk, h.size, h.os, h.tape, h.output, h.s⟩
theorem LwM.rb (h : LwM ws S b lb D g k w m) (r : Rb w w') : LwM ws S b lb D g k w' m :=
  ⟨h.hb, h.held.rb r, Nat.le_trans h.size r.size, r.os.trans h.os, r.tape.trans h.tape, r.output.trans h.output, fun j hj => by
    obtain ⟨h1, h2, h3⟩ := h.s j hj
    exact ⟨h1, h2, (r.block j (Nat.lt_of_lt_of_le h1 h.size)).trans h3⟩, h.l⟩
theorem DwM.rb (h : DwM ws S b D w m) (r : Rb w w') : DwM ws S b D w' m :=
  ⟨h.hb, h.held.rb r, Nat.le_trans h.size r.size, r.os.trans h.os, r.tape.trans h.tape, r.output.trans h.output, fun j hj => by
    obtain ⟨h1, h2, h3⟩ := h.s j hj
    exact ⟨h1, h2, (r.block j (Nat.lt_of_lt_of_le h1 h.size)).trans h3⟩⟩
theorem LwM.turn (h : LwM ws S b lb D g k w m) (t : TurnedL w lb m D' g' k' w') : ∃ m', LwM ws S b lb D' g' k' w' m' := by
  obtain ⟨m', h1, h2, h3, h4⟩ := t
  refine ⟨m', h2.1.trans h.hb, h1, Nat.le_trans h.size h3.size, h3.os.trans h.os, h3.tape.trans h.tape, h3.output.trans h.output, fun j hj => ?_, h.l⟩
  obtain ⟨i1, i2, i3⟩ := h.s j hj
  have hlt := Nat.lt_of_lt_of_le i1 h.size
  exact ⟨i1, fun e => by rcases h4 j e with e | e; exact i2 e; omega, (h3.block j hlt (fun e => i2 (.inl e)) (h.l j hj)).trans i3⟩
theorem DwM.turn (h : DwM ws S b D w m) (t : Turned w m D' w') : ∃ m', DwM ws S b D' w' m' := by
  obtain ⟨m', h1, h2, h3, h4⟩ := t
  refine ⟨m', h2.1.trans h.hb, h1, Nat.le_trans h.size h3.size, h3.os.trans h.os, h3.tape.trans h.tape, h3.output.trans h.output, fun j hj => ?_⟩
  obtain ⟨i1, i2, i3⟩ := h.s j hj
  have hlt := Nat.lt_of_lt_of_le i1 h.size
  exact ⟨i1, fun e => by rcases h4 j e with e | e; exact i2 e; omega, (h3.block j hlt (fun e => i2 (.inl e))).trans i3⟩
/-- the disk's own calls, beside the log -/
theorem LwM.turnD (h : LwM ws S b lb D g k w m) (t : Turned w m D' w') : ∃ m', LwM ws S b lb D' g k w' m' := h.turn (h.held.turned t)
theorem DwM.below {B : Nat} (h : DwM ws S b D w m) (hS : ∀ j, j < B → S j) : Below B ws w := ⟨h.os, h.tape, h.output, h.size, fun j hj => (h.s j (hS j hj)).2.2⟩
theorem LwM.below {B : Nat} (h : LwM ws S b lb D g k w m) (hS : ∀ j, j < B → S j) : Below B ws w := h.disk.below hS
/-- begun anew at the world at hand -/
theorem LwM.rebase {S' : Nat → Prop} (h : LwM ws S b lb D g k w m) (hS : ∀ j, S' j → j < w.heap.size ∧ ¬ m.has j ∧ j ≠ lb) : LwM w S' b lb D g k w m :=
  ⟨h.hb, h.held, Nat.le_refl _, rfl, rfl, rfl, fun j hj => ⟨(hS j hj).1, (hS j hj).2.1, rfl⟩, fun j hj => (hS j hj).2.2⟩

theorem DwM.new {w0 w : World} {n : Nat} (hk : HeldK w (mem0 w0.heap.size) (Dk.new n)) (hr : Rb w0 w) : DwM w0 (fun j => j < w0.heap.size) w0.heap.size (Dk.new n) w (mem0 w0.heap.size) :=
  ⟨rfl, hk, hr.size, hr.os, hr.tape, hr.output, fun j hj => ⟨hj, fun e => by have := mem0_has e; omega, hr.block j hj⟩⟩

/-- Open, in these words -/
def OpenW (ws : World) (S : Nat → Prop) (b : Nat) (D : Dk) (w : World) (e : Ending) (w' : World) : Prop := ∃ lb m' vi vr, e = .returned (.tuple #[.pointer (some ⟨lb, 0, none⟩), vi, vr, .int .i64 0]) ∧
  LwM ws S b lb (openD D) (openG D) 0 w' m' ∧ Bn w.heap.size w' vi (newN D).2 ∧ RowsV w.heap.size w' vr (openR D)
theorem open_w (h : DwM ws S b D w m) : Calls Try.prog 22 #[.pointer (some ⟨b, 0, none⟩)] w (OpenW ws S b D w) := by
  have hb := h.hb
  subst hb
  refine (open_any m D w h.held).mono fun e w' ⟨lb, m', vi, vr, he, hl, hlb, hn, hk, hh, hi, hr⟩ => ⟨lb, m', vi, vr, he, ?_, hi, hr⟩
  refine ⟨hn.1, hl, Nat.le_trans h.size hk.size, hk.os.trans h.os, hk.tape.trans h.tape, hk.output.trans h.output, fun j hj => ?_, fun j hj e => ?_⟩
  · obtain ⟨i1, i2, i3⟩ := h.s j hj
    have hlt := Nat.lt_of_lt_of_le i1 h.size
    exact ⟨i1, fun e => by rcases hh j e with e | e; exact i2 e; omega, (hk.block j hlt (fun e => i2 (.inl e))).trans i3⟩
  · have := (h.s j hj).1
    have := h.size
    omega

section
variable {v : Value} {s : List UInt8}
theorem add_w (h : LwM ws S b lb D g k w m) (hb : Bs w v s) (hl : s.length ≤ 1000000) (hf : (frameB g s).length ≤ freeN D k) :
    Calls Try.prog 34 #[.pointer (some ⟨lb, 0, none⟩), v] w fun e w' => e = .returned (.int .i64 0) ∧ ∃ m', LwM ws S b lb (D.append (frameB g s)) g k w' m' :=
  (add_fits lb m D g k v s w h.held hb hl hf).mono fun e w' ⟨he, t⟩ => ⟨he, h.turn t⟩
theorem check_w (h : LwM ws S b lb D g k w m) (hb : Bs w v s) (hl : s.length ≤ 900) (hg : g + 1 < 4294967296) :
    Calls Try.prog 36 #[.pointer (some ⟨lb, 0, none⟩), v] w fun e w' => e = .returned (.int .i64 0) ∧ ∃ m', LwM ws S b lb (ckD D g (frameB (g + 1) s)) (g + 1) k w' m' := by
  unfold ckD
  by_cases hp : (g + 1) % 2 = 0
  · rw [if_pos hp]
    exact (check_0 lb m D g k v s w h.held hb hl hg hp).mono fun e w' ⟨he, t⟩ => ⟨he, h.turn t⟩
  · rw [if_neg hp]
    exact (check_1 lb m D g k v s w h.held hb hl hg (by omega)).mono fun e w' ⟨he, t⟩ => ⟨he, h.turn t⟩
theorem sync_w (h : LwM ws S b lb D g k w m) : Calls Try.prog 35 #[.pointer (some ⟨lb, 0, none⟩)] w fun e w' => e = .returned (.tuple #[]) ∧ ∃ m', LwM ws S b lb D.sync g k w' m' :=
  (lsync_any lb m D g k w h.held).mono fun e w' ⟨he, t⟩ => ⟨he, h.turn t⟩
theorem gen_w (h : LwM ws S b lb D g k w m) : Calls Try.prog 30 #[.pointer (some ⟨lb, 0, none⟩)] w fun e w' => e = .returned (.int .u32 g) ∧ w = w' := gen_any lb m D g k w h.held
theorem dappend_w (h : LwM ws S b lb D g k w m) (hb : Bs w v s) (hf : D.log.length + s.length ≤ D.room) :
    Calls Try.prog 43 #[.pointer (some ⟨b, 0, none⟩), v] w fun e w' => e = .returned (.int .i64 0) ∧ ∃ m', LwM ws S b lb (D.append s) g k w' m' := by
  have hb' := h.hb
  subst hb'
  exact (append_fits m D w v s h.held.disk hb hf).mono fun e w' ⟨he, t⟩ => ⟨he, h.turnD t⟩
theorem dsync_w (h : LwM ws S b lb D g k w m) : Calls Try.prog 44 #[.pointer (some ⟨b, 0, none⟩)] w fun e w' => e = .returned (.tuple #[]) ∧ ∃ m', LwM ws S b lb D.sync g k w' m' := by
  have hb' := h.hb
  subst hb'
  exact (sync_any m D w h.held.disk).mono fun e w' ⟨he, t⟩ => ⟨he, h.turnD t⟩
theorem dcrash_w (h : LwM ws S b lb D g k w m) (n : Int) : Calls Try.prog 37 #[.pointer (some ⟨b, 0, none⟩), .int .i64 n] w fun e w' => e = .returned (.tuple #[]) ∧ ∃ m', LwM ws S b lb (D.crash n.toNat) g k w' m' := by
  have hb' := h.hb
  subst hb'
  exact (crash_any m D w n h.held.disk).mono fun e w' ⟨he, t⟩ => ⟨he, h.turnD t⟩
end
end

/-! ### what a Checkpoint, and an Open, leave, as plain data -/
theorem imageF_nil : imageF [] = none := rfl
theorem newN_of {D : Dk} {g : Nat} {s : List UInt8} (h : (imageF D.n0 = some (g, s) ∧ ∀ g' s', imageF D.n1 = some (g', s') → g' ≤ g) ∨ (imageF D.n1 = some (g, s) ∧ ∀ g' s', imageF D.n0 = some (g', s') → g' < g)) : newN D = (g, s) := by
  show stepN (stepN (0, []) D.n1) D.n0 = (g, s)
  unfold stepN imgG imgS imgK
  rcases h with ⟨h0, h1⟩ | ⟨h0, h1⟩
  · rw [h0]
    cases hi : imageF D.n1 with
    | none => simp
    | some p =>
      obtain ⟨g', s'⟩ := p
      have := h1 g' s' hi
      simp [this]
  · rw [h0]
    cases hi : imageF D.n0 with
    | none => simp
    | some p =>
      obtain ⟨g', s'⟩ := p
      have := h1 g' s' hi
      simp
      omega
theorem newN_none {D : Dk} (h0 : imageF D.n0 = none) (h1 : imageF D.n1 = none) : newN D = (0, []) := by
  show stepN (stepN (0, []) D.n1) D.n0 = (0, [])
  unfold stepN imgG imgS imgK
  rw [h0, h1]
  simp
theorem open_new (n : Nat) : openD (Dk.new n) = Dk.new n ∧ openG (Dk.new n) = 0 := by
  have h : newN (Dk.new n) = (0, []) := newN_none imageF_nil imageF_nil
  have hg : openG (Dk.new n) = 0 := by unfold openG; rw [h]
  refine ⟨?_, hg⟩
  unfold openD openR
  rw [hg]
  rfl
end Go.Proofs.Ytbdgdmieggpmhaa.L4
