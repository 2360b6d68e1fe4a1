/-
  Layer 5: a range over a function whose body is TOLD what the yielded values hold: a law of my own, over the library's words on the loop's record.
-/
import Derived.RangeFuncBox
import Derived.RangeFuncLeaves
import Derived.RangeFuncNested
import Derived.Shelf.Abstract
import Derived.WalkKit
import Derived.OwnWalkIn
import Derived.TacticsInMore
import Derived.LoopNIn
import Derived.LoopIn
import Derived.Maps.AppendAt
import Derived.Test.YtjdlicphmflnkaaT36
namespace Go.Proofs.Ytjdlicphmflnkaa.L5
open Go.ChangeShapes Go.WideShapes Go.ChangeAt Go.RowKit By Reg
set_option linter.unusedVariables false

section
variable {F : Fence} {n : Nat} {P : Program} {α : Type}

/-- the iterator's promise: some xs come, one by one; of each the round is told Tl -/
def Gives (F : Fence) (m : Nat) (P : Program) (gf : Nat) (lb : Array Value) (encs : α → Array Value) (Kp : World → World → Prop) (Tl : List α → α → Prop) (S : List α → Prop) (N : Nat) (w : World) : Prop :=
  ∀ (l : Nat) (J : List α → World → Prop) (W : World), Below w.heap.size w W → AbidesFrom W.heap.size J →
    (∀ (pre : List α) (x : α) (W1 : World), J pre W1 → Tl pre x → pre.length < N → YieldAt F (m - 1) P l (encs x) W1 fun e W2 => e = .returned (.bool true) ∧ J (pre ++ [x]) W2 ∧ Kp W1 W2) →
    J [] W → CallsIn F m P gf (#[.func (.yield l) #[] #[]] ++ lb) W fun e W2 => (∃ v, e = .returned v) ∧ ∃ xs, S xs ∧ J xs W2

/-- how a round's body ends: off its end, and nothing that is no cells has turned from B on -/
def goesOn (B : Nat) (Kp : World → World → Prop) (I : World → Prop) (W : World) : Exit → Act → World → Prop
  | .normal, _, W2 => KeepsFrom B W W2 ∧ Kp W W2 ∧ I W2
  | _, _, _ => False

/-- the two blocks that the statement lays: the rounds' deferred calls, and its record -/
structure Laid (d : Nat) (r : Go.Loop) (W : World) : Prop where
  dfr : W.heap[d]? = some (.deferred (some []))
  lp : W.heap[d + 1]? = some (.loop r)

theorem Laid.put {d : Nat} {r : Go.Loop} {W : World} (h : Laid d r W) (r2 : Go.Loop) : Laid d r2 (W.putObj (d + 1) (.loop r2)) :=
  ⟨(World.putObj_heap_other (by omega)).trans h.dfr, World.putObj_heap_same (Array.getElem?_eq_some_iff.1 h.lp).1⟩
theorem Laid.kept {d : Nat} {r : Go.Loop} {W W2 : World} (h : Laid d r W) (k : KeepsFrom d W W2) : Laid d r W2 :=
  ⟨k.same _ _ (Nat.le_refl _) h.dfr rfl, k.same _ _ (by omega) h.lp rfl⟩
theorem Laid.step {d : Nat} {r : Go.Loop} {W W2 : World} {row : Option Nat} (h : Laid d r W) (hg : W.grownBy W2 row) (hr : ∀ q, row = some q → ∃ o : Obj, W.heap[q]? = some o ∧ o.isWalk = true) : Laid d r W2 :=
  ⟨(grownBy_keeps hg hr h.dfr rfl).trans h.dfr, (grownBy_keeps hg hr h.lp rfl).trans h.lp⟩

theorem wpIn_range_told {g : Operand} {ps : Array Tmp} {assign body : Code} {Q : Exit → Act → World → Prop} {a : Act} {w : World}
    (hro : F.round = none) (h1 : 1 ≤ n) {gf : Nat} {lb : Array Value} (hg : a.eval g = .func (.func gf) #[] lb) (hFg : F.fn gf) (eg : ∀ args w, (callFunc gf args).run P w = .ok (.enter gf args) w)
    {encs : α → Array Value} {Kp : World → World → Prop} {Tl : List α → α → Prop} {S : List α → Prop} {N : Nat} (hseq : Gives F (n - 1) P gf lb encs Kp Tl S N w)
    (hKt : ∀ A B C : World, Kp A B → Kp B C → Kp A C) (hKb : ∀ (W : World) (l : Nat) (o o' : Obj), w.heap.size ≤ l → W.heap[l]? = some o → o.isCells = false → Kp W (W.putObj l o'))
    (hps : ∀ x, (encs x).size = ps.size) (I : List α → World → Prop) (hI : OwnFrom w.heap.size I) (h0 : I [] w) (a₁ : α → Act)
    (hassign : ∀ (l : Nat) (x : α) (W : World) (K : Act → World → Prop), K (a₁ x) W →
      assign.wpIn (F.inRound l) (n - 1 - 1) P (Exit.then K (fun _ _ _ => False)) { tmps := (ps.zip (encs x)).foldl (fun t (p, v) => t.setIfInBounds p v) a.tmps, defers := [] } W)
    (hbody : ∀ (l : Nat) (pre : List α) (x : α) (W : World), I pre W → Tl pre x → pre.length < N → body.wpIn (F.inRound l) (n - 1 - 1) P (goesOn w.heap.size Kp (I (pre ++ [x])) W) (a₁ x) W)
    (hdone : ∀ (D : Nat) (xs : List α) (W : World), w.heap.size ≤ D → S xs → I xs W → W.heap[D]? = some (.deferred (some [])) → Q .normal { a with defers := { target := .collected D, args := #[] } :: a.defers } W) :
    (Code.rangeFunc g ps assign body).wpIn F n P Q a w := by
  refine wpIn_rangeFunc fun fn hfn => ?_
  rw [hro]
  obtain ⟨R, hR⟩ : ∃ R : LoopState → Go.Loop, R = fun st => { state := st, pending := none, fn, tmps := a.tmps, params := ps, assign, body, defers := w.heap.size } := ⟨_, rfl⟩
  obtain ⟨V, hV⟩ : ∃ V, V = (w.alloc (.deferred (some []))).alloc (.loop (R .ready)) := ⟨_, rfl⟩
  have lay : Laid w.heap.size (R .ready) V := by
    have e := World.alloc_heap_new (w.alloc (.deferred (some []))) (.loop (R .ready))
    rw [World.size_alloc, ← hV] at e
    refine ⟨?_, e⟩
    rw [hV]
    exact (Below.heap_alloc _ _ _ (by simp)).trans (World.alloc_heap_new w _)
  have old : Below w.heap.size w V := by
    rw [hV]; exact ((Below.refl _ w).alloc (Nat.le_refl _) _).alloc (by simp) _
  have inv : I [] V := by rw [hV]; exact hI.alloc _ (hI.alloc _ h0)
  refine ⟨w.heap.size + 1, [{ target := .collected w.heap.size, args := #[] }], V, { target := .fn (.func gf) lb, args := #[.func (.yield (w.heap.size + 1)) #[] #[]] }, V, gf,
    #[.func (.yield (w.heap.size + 1)) #[] #[]] ++ lb, V, ?_, ?_, ?_, ?_, fun _ => h1, ?_⟩
  · rw [hV, hR]; exact run_enterLoop_outer _ _ _ _ _
  · simp only [resolve, hg]; simp [go_sem]
  · intro q hq; simp [Target.leads] at hq; subst hq; exact hFg
  · simp [invoke, go_sem, eg]
  have low : ∀ {A : World} {row : Option Nat}, (∀ q, row = some q → V.heap.size ≤ q ∧ ∃ o : Obj, A.heap[q]? = some o ∧ o.isWalk = true) → ∀ q, row = some q → w.heap.size ≤ q ∧ ∃ o : Obj, A.heap[q]? = some o ∧ o.isCells = false := fun hr q e => by
    obtain ⟨hb, o, ho, hw⟩ := hr q e
    have := old.size
    exact ⟨by omega, o, ho, Obj.not_cells_of_walk hw⟩
  refine (hseq (w.heap.size + 1) (fun pre W => I pre W ∧ Laid w.heap.size (R .ready) W) V old (fun s A B row hs hg2 hr => ⟨hI s A B row hs.1 hg2 (low hr), hs.2.step hg2 fun q e => (hr q e).2⟩) ?round ⟨inv, lay⟩).mono ?after
  case round =>
    rintro pre x W ⟨hi, hl⟩ ht hN
    have hy := run_yield (P := P) (args := encs x) hl.lp (by rw [hR]; exact hps x)
    rw [hR] at hy
    refine ⟨fn, _, assign, body, hy, roundIn_of_wpIn hfn (hassign _ x W _ ⟨_, run_beginRound hl.lp (by rw [hR]), ?_⟩)⟩
    have hb : ({ R .ready with state := .busy } : Go.Loop) = R .busy := by rw [hR]
    rw [hb]
    have hl2 := hl.put (R .busy)
    refine wpIn_mono (hbody _ pre x _ (hI.putObj _ hi (by omega) hl.lp rfl) ht hN) ?_
    intro e a3 W3 hp
    cases e with
    | normal =>
      obtain ⟨k3, p3, i3⟩ := hp
      have hl3 := hl2.kept k3
      have he := run_endRound (P := P) none hl3.lp
      have hb2 : ({ R .busy with state := if (none : Option Code).isNone then .ready else .done, pending := none } : Go.Loop) = R .ready := by rw [hR]; rfl
      rw [hb2] at he
      exact ⟨_, _, he, rfl, ⟨hI.putObj _ i3 (by omega) hl3.lp rfl, hl3.put _⟩, hKt _ _ _ (hKt _ _ _ (hKb _ _ _ _ (by omega) hl.lp rfl) p3) (hKb _ _ _ _ (by omega) hl3.lp rfl)⟩
    | ret => exact hp.elim
    | exit id => exact hp.elim
    | goto t => exact hp.elim
    | panic ch => exact hp.elim
    | outgrown => exact hp.elim
  case after =>
    rintro e W2 ⟨⟨v, rfl⟩, xs, hS, hi, hl⟩
    have he := run_endLoop (P := P) hl.lp (by rw [hR]; simp)
    exact ⟨none, _, by rw [he, hR], hdone _ xs _ (Nat.le_refl _) hS (hI.putObj _ hi (by omega) hl.lp rfl) ((World.putObj_heap_other (by omega)).trans hl.dfr)⟩
end
end Go.Proofs.Ytjdlicphmflnkaa.L5
