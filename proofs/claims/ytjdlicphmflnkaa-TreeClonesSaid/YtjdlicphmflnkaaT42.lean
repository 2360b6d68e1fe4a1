/-
  Layer 5: a range over a tree, as a statement; what an invariant abides; what the tree's own operations keep of it.
-/
import Derived.Test.YtjdlicphmflnkaaT39
namespace Go.Proofs.Ytjdlicphmflnkaa.L5
open Go.ChangeShapes Go.WideShapes Go.ChangeAt Go.RowKit Go.Shelf By Reg
set_option linter.unusedVariables false
attribute [local go_sem] Oper.semAt_some

/-- all cells are as they were, and all below B -/
structure CK (B : Nat) (w w' : World) : Prop where
  os : w'.os = w.os
  tape : w'.tape = w.tape
  output : w'.output = w.output
  size : w.heap.size ≤ w'.heap.size
  cells : ∀ (k : Nat) (cs : Array Value) (T : TypeId) (m : Nat × Nat), w.heap[k]? = some (Obj.cells cs T m) → w'.heap[k]? = w.heap[k]?
  old : ∀ k, k < B → k < w.heap.size → w'.heap[k]? = w.heap[k]?
theorem own_ck {β : Type} {B : Nat} {I : β → World → Prop} (h : ∀ s W W', CK B W W' → I s W → I s W') : OwnFrom B I := fun s W W' row hs hg hr => by
  refine h s W W' ⟨hg.os, hg.tape, hg.output, hg.size, fun k cs T m hk => ?_, fun k hk hl => ?_⟩ hs
  · refine hg.block k (Array.getElem?_eq_some_iff.1 hk).1 fun e => ?_
    obtain ⟨_, o, ho, hc⟩ := hr k e.symm
    rw [hk] at ho
    cases ho
    cases hc
  · refine hg.block k hl fun e => ?_
    have := (hr k e.symm).1
    omega
theorem Blk.ck {B : Nat} {w w' : World} {N : Nat} {T : TypeId} {cs : List Value} (h : Blk w N T cs) (k : CK B w w') : Blk w' N T cs := h.same (k.cells N _ _ _ h)
theorem TreeAt.ck {B : Nat} {w w' : World} {p : Nat} {L : List Th} {F : Nat → Prop} (h : TreeAt w p L F) (k : CK B w w') : TreeAt w' p L F := h.same fun q hq => by
  obtain ⟨T, cs, hb, _⟩ := h.typ q hq
  exact k.cells _ _ _ _ hb
theorem PRow.ck {B : Nat} {w w' : World} {v : Value} {L : List Th} (h : PRow w v L) (k : CK B w w') : PRow w' v L := h.same fun q hq => by
  obtain ⟨_, h⟩ := h
  rcases h with ⟨rfl, _⟩ | ⟨g, cap, cur, rfl, _, h3, _⟩
  · cases hq
  · cases hq; exact k.cells _ _ _ _ h3
theorem Row.ck {B : Nat} {w w' : World} {e : TypeId} {v : Value} {xs : List Value} (h : Row w e v xs) (k : CK B w w') : Row w' e v xs := h.same fun q hq => by
  obtain ⟨cs, hb⟩ := h.typ q hq
  exact k.cells _ _ _ _ hb
theorem rb_ck {B : Nat} {w0 w w' : World} (h : Rb w0 w) (k : CK B w w') (hB : w0.heap.size ≤ B) : Rb w0 w' :=
  ⟨k.os.trans h.os, k.tape.trans h.tape, k.output.trans h.output, Nat.le_trans h.size k.size, fun q hq => (k.old q (by omega) (Nat.lt_of_lt_of_le hq h.size)).trans (h.block q hq)⟩

/-- what the tree's own operations turn are no things, and cells -/
theorem KeepT.fr {w w' : World} {p : Nat} {L : List Th} {F : Nat → Prop} (ht : TreeAt w p L F) (hf : Fr F w w') : KeepT w w' := ⟨hf.size, fun n cs m hc => hf.block n (Array.getElem?_eq_some_iff.1 hc).1 fun hF => by
  obtain ⟨T, cs', hb, hT⟩ := ht.typ n hF
  unfold Blk at hb
  rw [hb] at hc
  simp only [Option.some.injEq, Obj.cells.injEq] at hc
  rw [hc.2.1] at hT
  rcases hT with h | h | h | h | h <;> exact absurd h (by decide)⟩
theorem keepsFrom_fr {B : Nat} {w w' : World} {p : Nat} {L : List Th} {F : Nat → Prop} (ht : TreeAt w p L F) (hf : Fr F w w') : KeepsFrom B w w' := ⟨hf.size, fun k o _ hk ho => (hf.block k (Array.getElem?_eq_some_iff.1 hk).1 fun hF => by
  obtain ⟨T, cs', hb, hT⟩ := ht.typ k hF
  unfold Blk at hb
  rw [hb] at hk
  cases hk
  cases ho).trans hk⟩

/-- a call in a round -/
theorem callsIn_round {l n : Nat} {P : Program} {f : FuncId} {args : Array Value} {w : World} {R : Ending → World → Prop} (h : Calls P f args w R) : CallsIn (Fence.wide.inRound l) n P f args w R := by
  have : CallsIn Fence.wide n P f args w R := callsIn_wide.2 h
  exact this

/-- a range over a tree, as a statement -/
theorem wp_range_tree {g : Operand} {s1 s2 : Tmp} {assign body : Code} {Q : Exit → Act → World → Prop} {a : Act} {w : World} {Bt p : Nat} {lo hi : Int} {L : List Th} {F : Nat → Prop}
    (hg : a.eval g = .func (.func 27) #[] #[.pointer (some ⟨Bt, 0, none⟩), .pointer (some ⟨Bt + 1, 0, none⟩), .pointer (some ⟨Bt + 2, 0, none⟩)])
    (hi3 : Its Bt p lo hi w) (ht : TreeAt w p L F) (hL : L.length ≤ 50000) (I : List Th → World → Prop) (hI : OwnFrom w.heap.size I) (h0 : I [] w)
    (hround : ∀ x : Th, ∃ a1 : Act, (∀ (l : Nat) (W : World) (K : Act → World → Prop), K a1 W → assign.wpIn (Fence.wide.inRound l) 5 Try.prog (Exit.then K (fun _ _ _ => False)) { tmps := (a.tmps.setIfInBounds s1 (i64 x.1)).setIfInBounds s2 (i64 x.2), defers := [] } W) ∧
      ∀ (l : Nat) (pre : List Th) (r : List Th) (W : World), I pre W → filt lo hi L = pre ++ x :: r → pre.length < 50000 → body.wpIn (Fence.wide.inRound l) 5 Try.prog (goesOn w.heap.size KeepT (I (pre ++ [x])) W) a1 W)
    (hdone : ∀ (D : Nat) (W : World), w.heap.size ≤ D → I (filt lo hi L) W → W.heap[D]? = some (.deferred (some [])) → Q .normal { a with defers := { target := .collected D, args := #[] } :: a.defers } W) :
    (Code.rangeFunc g #[s1, s2] assign body).wp Try.prog Q a w := by
  refine (wpIn_wide (n := 7)).1 ?_
  exact wpIn_range_told (α := Th) (encs := encT) (Kp := KeepT) (Tl := fun pre x => ∃ r, filt lo hi L = pre ++ x :: r) (S := fun xs => xs = filt lo hi L) (N := 50000)
    rfl (by omega) (gf := 27) hg trivial (enters_of Try.func27 (by kernel_rfl) rfl)
    (gives_range hi3 ht hL) (fun A B C h k => h.trans k) (fun W l o o' hl h1 h2 => KeepT.put W l o o' h1 h2) (fun _ => rfl) I hI h0 (fun x => (hround x).choose)
    (fun l x W K hK => by
      have e : ((#[s1, s2].zip (encT x)).foldl (fun t (p, v) => t.setIfInBounds p v) a.tmps) = (a.tmps.setIfInBounds s1 (i64 x.1)).setIfInBounds s2 (i64 x.2) := by simp [encT]
      rw [e]
      exact (hround x).choose_spec.1 l W K hK)
    (fun l pre x W hi ⟨r, hr⟩ hN => (hround x).choose_spec.2 l pre r W hi hr hN)
    (fun D xs W hD hS hi hK => hdone D W hD (by rw [← hS]; exact hi) hK)

theorem makes_rangeC (p : Nat) (lo hi : Int) (w : World) :
    Calls Try.prog 14 #[ptrv p, i64 lo, i64 hi] w fun e w' => e = .returned (.func (.func 27) #[] #[.pointer (some ⟨w.heap.size, 0, none⟩), .pointer (some ⟨w.heap.size + 1, 0, none⟩), .pointer (some ⟨w.heap.size + 2, 0, none⟩)]) ∧
      w' = rangeW w p lo hi := callsIn_wide.1 (makes_range' 0 p lo hi w)

/-- a range tells a part of the list -/
theorem filt_mid {lo hi : Int} {L : List Th} (h : Rise L) {p : Nat} (hp : PosL lo L p) : ∃ q, p ≤ q ∧ q ≤ L.length ∧ filt lo hi L = (L.take q).drop p ∧ (q < L.length → hi < (L.getD q (0, 0)).1) := by
  have key : ∀ j (hj : j < L.length), L.getD j (0, 0) = L[j] := fun j hj => by rw [List.getD_eq_getElem?_getD, List.getElem?_eq_getElem hj]; rfl
  have mono : ∀ i j (hi : i < j) (hj : j < L.length), (L.getD i (0, 0)).1 < (L.getD j (0, 0)).1 := fun i j hi hj => by
    rw [key i (by omega), key j hj]
    exact List.pairwise_iff_getElem.1 h i j (by omega) hj hi
  -- the first place from p on whose key is above hi
  have ex : ∀ n q, L.length - q = n → p ≤ q → q ≤ L.length → (∀ j, p ≤ j → j < q → (L.getD j (0, 0)).1 ≤ hi) → ∃ q, p ≤ q ∧ q ≤ L.length ∧ (∀ j, p ≤ j → j < q → (L.getD j (0, 0)).1 ≤ hi) ∧ (q < L.length → hi < (L.getD q (0, 0)).1) := by
    intro n
    induction n with
    | zero => intro q e h1 h2 h3; exact ⟨q, h1, h2, h3, fun h => by omega⟩
    | succ n ih =>
      intro q e h1 h2 h3
      by_cases hq : (L.getD q (0, 0)).1 ≤ hi
      · exact ih (q + 1) (by omega) (by omega) (by omega) fun j a b => by
          rcases Nat.lt_or_ge j q with h | h
          · exact h3 j a h
          · have : j = q := by omega
            subst this; exact hq
      · exact ⟨q, h1, h2, h3, fun _ => by omega⟩
  obtain ⟨q, q1, q2, q3, q4⟩ := ex _ p rfl (Nat.le_refl _) hp.le (fun j a b => by omega)
  refine ⟨q, q1, q2, ?_, q4⟩
  have e1 : L = L.take p ++ ((L.take q).drop p ++ L.drop q) := by
    have h1 : L.take q = L.take p ++ (L.take q).drop p := by
      have := List.take_append_drop p (L.take q)
      rw [List.take_take, Nat.min_eq_left q1] at this
      exact this.symm
    rw [← List.append_assoc, ← h1, List.take_append_drop]
  conv => lhs; rw [e1]
  rw [filt_append, filt_append]
  have f1 : filt lo hi (L.take p) = [] := filt_lt fun t ht => by
    obtain ⟨j, hj, e⟩ := List.mem_iff_getElem.1 ht
    rw [List.length_take] at hj
    rw [List.getElem_take] at e
    have := hp.lo j (by omega)
    rw [key j (by omega), e] at this
    exact this
  have f3 : filt lo hi (L.drop q) = [] := filt_gt fun t ht => by
    obtain ⟨j, hj, e⟩ := List.mem_iff_getElem.1 ht
    rw [List.length_drop] at hj
    rw [List.getElem_drop] at e
    have h0 := q4 (by omega)
    by_cases hj0 : j = 0
    · subst hj0
      rw [key q (by omega)] at h0
      have : L[q] = t := by simpa using e
      rw [this] at h0
      exact h0
    · have := mono q (q + j) (by omega) (by omega)
      rw [key (q + j) (by omega), e] at this
      omega
  have f2 : filt lo hi ((L.take q).drop p) = (L.take q).drop p := List.filter_eq_self.2 fun t ht => by
    obtain ⟨j, hj, e⟩ := List.mem_iff_getElem.1 ht
    rw [List.length_drop, List.length_take] at hj
    rw [List.getElem_drop, List.getElem_take] at e
    have h1 := q3 (p + j) (by omega) (by omega)
    have h2 : lo ≤ (L.getD (p + j) (0, 0)).1 := by
      have h3 := hp.hi (by omega)
      by_cases hj0 : j = 0
      · subst hj0; exact h3
      · have := mono p (p + j) (by omega) (by omega)
        omega
    rw [key (p + j) (by omega), e] at h1 h2
    unfold inR
    rw [decide_eq_true_eq]
    exact ⟨h2, h1⟩
  rw [f1, f2, f3, List.nil_append, List.append_nil]
end Go.Proofs.Ytjdlicphmflnkaa.L5
