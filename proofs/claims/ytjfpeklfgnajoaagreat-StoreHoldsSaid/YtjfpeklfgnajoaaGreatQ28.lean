/-
  Layer 7: the document's example.
-/
import Derived.Test.YtjfpeklfgnajoaaGreatQ27
import Derived.Test.YtjfpeklfgnajoaaGreatQ22
namespace Go.Proofs.YtjfpeklfgnajoaaGreat.L6
open Go.ChangeShapes Go.WideShapes Go.ChangeAt Go.RowKit By Reg Val
set_option linter.unusedVariables false
set_option linter.unusedSimpArgs false

theorem rb_fr {w0 w w' : World} {F : Nat → Prop} (h : Rb w0 w) (f : Fr F w w') (hF : ∀ k, F k → w0.heap.size ≤ k) : Rb w0 w' :=
  ((Fr.of_rb (F := fun _ => False) h).trans f fun k hk => .inr (hF k hk)).rb fun k hk => hk.elim
/-- a store and a claim that are new since w0 -/
structure In (w0 w : World) (v : Value) (sh : List Sh) (c : ClD) : Prop where
  duo : Duo w v sh c
  rb : Rb w0 w
  new : ∀ k, DF sh c k → w0.heap.size ≤ k
theorem In.op {w0 w w' : World} {v : Value} {sh sh' : List Sh} {c c' : ClD} (h : In w0 w v sh c) (k : OpP w v sh c w' sh' c') : In w0 w' v sh' c' :=
  ⟨k.duo, rb_fr h.rb k.fr h.new, fun q hq => by
    rcases k.new q hq with h1 | h1
    · exact h.new q h1
    · have := h.rb.size; omega⟩
theorem In.then_rb {w0 w w' : World} {v : Value} {sh : List Sh} {c : ClD} (h : In w0 w v sh c) (hb : Rb w w') : In w0 w' v sh c := ⟨h.duo.rb hb, Rb.trans _ _ _ h.rb hb, h.new⟩

structure Lv (s : Sh) (held : Int) : Prop where
  r : s.t.rows = 2
  c : s.t.cols = exCols
  h : s.held = held
theorem Lv.small {s : Sh} {q : Int} (h : Lv s q) (h0 : -10 ≤ q ∧ q ≤ 10) (hL : s.L.length ≤ 10) : SmallS s := by
  obtain ⟨h1, h2, h3⟩ := h
  exact ⟨by omega, by omega, by omega, by omega, by omega⟩

theorem lives_ok (cv : Value) : (checkD [⟨accS, 2, cv, exCols⟩]).1 = 0 := by
  have e1 : (dup accS [] || !nameB accS) = false := by kernel_rfl
  have e2 : errCols [] exCols = 0 := by kernel_rfl
  have e : errTab [] ⟨accS, 2, cv, exCols⟩ = 0 := by
    unfold errTab
    rw [if_neg (by rw [e1]; decide), if_neg (by show ¬ ((2 : Int) < 1 ∨ (64 : Int) < 2); decide), if_neg (by show ¬ (2 = 0 ∨ 8 < 2); decide), e2]
  unfold checkD
  rw [if_neg (by show ¬ (8 < 1); decide)]
  unfold errTabs
  rw [if_neg (by rw [e]; decide)]
  rfl
theorem lives_new (w : World) (lv cv : Value) (h : Tabs w lv [⟨accS, 2, cv, exCols⟩]) :
    Calls Tryz.prog 10 #[lv] w fun e w' => ∃ st v s, e = .returned (ptrv st) ∧ StAt w' st v [s] ∧ Lv s 0 ∧ s.L = [] ∧ Rb w w' ∧ ∀ k, SF [s] k → w.heap.size ≤ k := by
  refine (new_any _ _ _ h ?_).mono ?_
  · intro t ht
    simp only [List.mem_singleton] at ht
    subst ht
    refine ⟨by show (3 : Nat) ≤ maxLen; decide, by show (-9223372036854775808 : Int) ≤ 2; decide, by show (2 : Int) ≤ 9223372036854775807; decide, fun c hc => ?_⟩
    have hc' : c ∈ exCols := hc
    simp only [exCols, List.mem_cons, List.not_mem_nil, or_false] at hc'
    rcases hc' with rfl | rfl
    · exact ⟨by decide, by decide, by decide, by decide, by decide⟩
    · exact ⟨by decide, by decide, by decide, by decide, by decide⟩
  · rintro e w' (⟨h1, _⟩ | ⟨_, st, v, sh, rfl, hS, hl⟩)
    · exact absurd (lives_ok cv) h1
    · have hl1 : sh.length = 1 := hl
      obtain ⟨s, rfl⟩ := List.length_eq_one_iff.1 hl1
      obtain ⟨⟨a1, a2, a3⟩, a4, a5⟩ := hS.at_ 0 (by simp) (by simp)
      exact ⟨st, v, s, rfl, hS.sto, ⟨a2, a3, a5⟩, a4, hS.rb, hS.news⟩

theorem free_one (s : Sh) : freeSh [s] 0 = freeS s := rfl

theorem lives_claim (w0 w : World) (hb0 : Rb w0 w) (st : Nat) (v nv : Value) (s : Sh) (hn0 : ∀ k, SF [s] k → w0.heap.size ≤ k) (h : StAt w st v [s]) (hs : Lv s 0) (hL : s.L = []) (hr : Row w 3 nv [i64 1]) :
    Calls Tryz.prog 24 #[ptrv st, nv] w fun e w' => ∃ s' c, e = .returned (.tuple #[ptrv c.b, i64 0]) ∧ In w0 w' v [s'] c ∧ c.st = st ∧ Lv s' 1 ∧ s'.L = [] ∧ c.held = [1] ∧ c.first = [1] ∧ c.tch = [] := by
  have hfree : freeSh [s] 0 = 2 := by
    rw [free_one]
    unfold freeS
    rw [hs.r, hL, hs.h]
    decide
  refine (claim_any w st v nv [s] [1] h hr (by unfold badNeed; simp) (fun x hx => by simp only [List.mem_singleton] at hx; subst hx; exact hs.small (by omega) (by rw [hL]; decide)) (by simp) (by decide)).mono ?_
  rintro e w' (⟨h1, _⟩ | ⟨_, sh', c, rfl, hP⟩)
  · refine absurd (fun i hi => ?_) h1
    have : i = 0 := by simp at hi; exact hi
    subst this
    show (1 : Int) ≤ freeSh [s] ((0 : Nat) : Int)
    rw [show ((0 : Nat) : Int) = 0 from rfl, hfree]
    decide
  · have hl := hP.len
    obtain ⟨s', rfl⟩ := List.length_eq_one_iff.1 (show sh'.length = 1 from hl)
    obtain ⟨a1, a2, a3, a4⟩ := hP.at_ 0 (by simp) (by simp)
    simp only [List.getElem_cons_zero] at a1 a2 a3 a4
    have e1 : c.held = [1] := hP.held
    refine ⟨s', c, rfl, ⟨hP.duo, rb_fr hb0 hP.fr hn0, fun k hk => by
      have hz := hb0.size
      rcases hk with hk | hk
      · rcases hP.newS k hk with h1 | h1
        · exact hn0 k h1
        · omega
      · have := hP.new k hk; omega⟩, hP.st, ⟨by rw [a2]; exact hs.r, by rw [a2]; exact hs.c, by rw [a4, hs.h]; rfl⟩, a3.trans hL, e1, by rw [hP.first, e1], hP.tch⟩

theorem lives_set (w0 w : World) (v : Value) (s : Sh) (c : ClD) (hIn : In w0 w v [s] c) (hs : Lv s 1) (hL : s.L = []) (hh : c.held = [1]) (hf : c.first = [1]) (ht : c.tch = []) :
    Calls Tryz.prog 25 #[ptrv c.b, i64 0, i64 5, i64 0, .agg #[i64 1, i64 3, .string ⟨#[]⟩]] w fun e w' => e = .returned (i64 0) ∧ ∃ s' c' y, In w0 w' v [s'] c' ∧ c'.b = c.b ∧ c'.st = c.st ∧ Lv s' 0 ∧ s'.L = [(5, y)] ∧ y.row = [⟨1, 3, ⟨#[]⟩⟩, ⟨3, 0, ⟨#[]⟩⟩] ∧ c'.held = [0] ∧ c'.first = [1] ∧ c'.tch = [((0, 5), sv0)] := by
  have h := hIn.duo
  have hc0 : 0 < s.t.cols.length := by rw [hs.c]; decide
  refine (set_new w v [] [] s c 5 0 ⟨1, 3, ⟨#[]⟩⟩ h hc0 ⟨by decide, by decide, by decide, by decide, by decide⟩ (by simp only [hs.c]; rfl) ⟨hs.small (by omega) (by rw [hL]; decide), by rw [hs.c]; decide, by rw [hs.c]; decide, fun t ht => by rw [hL] at ht; cases ht⟩ (by decide) (by rw [hL]; decide) ⟨by decide, by decide⟩ (by rw [hL]; rfl) (by rw [hh]; decide) (by rw [hh]; decide)).mono ?_
  rintro e w' ⟨rfl, s', y, y1, y2, h1, h2, h3, h4, hO⟩
  rw [hL] at y2 h3 h4 hO
  simp only [getL, putL] at y2 h3 h4 hO
  refine ⟨rfl, s', _, y, hIn.op hO, hO.b, hO.st, ⟨by rw [h2]; exact hs.r, by rw [h2]; exact hs.c, by rw [h4, hs.h]; rfl⟩, h3, ?_, ?_, hf, ?_⟩
  · rw [y2, hs.c]
    rfl
  · show c.held.set _ _ = _
    rw [hh]
    rfl
  · show tchM _ _ c.tch = _
    rw [ht]
    rfl

theorem lives_back (w0 w : World) (v : Value) (s : Sh) (c : ClD) (y : SV) (hIn : In w0 w v [s] c) (hs : Lv s 0) (hL : s.L = [(5, y)]) (hh : c.held = [0]) (hf : c.first = [1]) (ht : c.tch = [((0, 5), sv0)]) :
    Calls Tryz.prog 28 #[ptrv c.b] w fun e w' => (∃ u, e = .returned u) ∧ ∃ s' c', In w0 w' v [s'] c' ∧ c'.b = c.b ∧ c'.st = c.st ∧ s'.L = [] ∧ c'.held = [1] ∧ ∀ k T cs, Blk w k T cs → ¬ mutT T → Blk w' k T cs := by
  have h := hIn.duo
  refine (back_any w v [s] c h (fun x hx => by rw [ht] at hx; simp only [List.mem_singleton] at hx; subst hx; show (0 : Int) ≤ 0 ∧ (0 : Int) < 1; decide) (by simp) (by rw [ht]; simp) (fun x hx => by simp only [List.mem_singleton] at hx; subst hx; rw [hL]; simp) (by rw [hh, hf]; rfl)
    (fun x hx => by rw [hf] at hx; simp only [List.mem_singleton] at hx; subst hx; unfold Sml; decide) (fun x hx => by simp only [List.mem_singleton] at hx; subst hx; unfold Sml; rw [hs.h]; decide) (fun x hx => by rw [hh] at hx; simp only [List.mem_singleton] at hx; subst hx; unfold Sml; decide)).mono ?_
  rintro e w' ⟨hu, sh', c', hB⟩
  have hl := hB.sh.len
  obtain ⟨s', rfl⟩ := List.length_eq_one_iff.1 (show sh'.length = 1 from hl)
  obtain ⟨a1, a2, a3, a4⟩ := hB.sh.at_ 0 (by simp) (by simp)
  simp only [List.getElem_cons_zero] at a1 a2 a3 a4
  refine ⟨hu, s', c', hIn.op hB.op, hB.op.b, hB.op.st, ?_, by rw [hB.held, hf], fun k T cs hb hT => hb.same (hB.op.fr.block k hb.lt fun hk => blk_off hb hT (h.mutb k hk))⟩
  have e1 : spotsOf c = [(0, 5)] := by
    unfold spotsOf
    rw [ht]
    simp [sortS]
  have e2 : wasOf c (0, 5) = sv0 := by
    unfold wasOf
    rw [ht]
    rfl
  rw [a3, e1, hL]
  show (if ((0 : Int) = ((0 : Nat) : Int)) then layL 5 (wasOf c (0, 5)) [(5, y)] else [(5, y)]) = []
  rw [if_pos (by decide), e2]
  rfl
end Go.Proofs.YtjfpeklfgnajoaaGreat.L6
